/- The law on the lattice. -/
import Derived.Test.YtlppoablhipinaaUPA
namespace Go.Proofs.Ytlppoablhipinaa
open Go.RowKit


set_option maxHeartbeats 8000000 in
set_option maxRecDepth 100000 in
theorem upsetLattice_go (A B C : Option Addr) (L M : List Row) (m : List Int) (c cb cc : Nat) (w : World) (p q : Bool)
    (LV : ∀ W, Below w.heap.size w W → Calls Try.prog 11 #[] W (BPost W.heap.size W true)) (B0 : Below w.heap.size w w)
    (Fa : ∀ W, Below w.heap.size w W → Calls Try.prog 10 #[.slice A L.length c] W (BPost W.heap.size W true))
    (Fb : ∀ W, Below w.heap.size w W → Calls Try.prog 10 #[.slice B M.length cb] W (BPost W.heap.size W true))
    (PMa : ∀ W, Below w.heap.size w W → Calls Try.prog 13 #[.slice A L.length c] W (MPost L.length W (makeL (rowsL L))))
    (PMb : ∀ W, Below w.heap.size w W → Calls Try.prog 13 #[.slice B M.length cb] W (MPost M.length W (makeL (rowsL M))))
    (PHA : ∀ W, Below w.heap.size w W → Calls Try.prog 17 #[.slice A L.length c, .slice C m.length cc] W (BPost W.heap.size W p))
    (PHB : ∀ W, Below w.heap.size w W → Calls Try.prog 17 #[.slice B M.length cb, .slice C m.length cc] W (BPost W.heap.size W q))
    (PU : ∀ W, Below w.heap.size w W → Calls Try.prog 19 #[.slice A L.length c, .slice B M.length cb] W (MPost (L.length + M.length) W (unionL (rowsL L) (rowsL M))))
    (PI : ∀ W, Below w.heap.size w W → Calls Try.prog 21 #[.slice A L.length c, .slice B M.length cb] W (MPost 900 W (meetL (rowsL L) (rowsL M))))
    (RC : ∀ W, Below w.heap.size w W → ReadsV W C m) (Ra : ∀ W, Below w.heap.size w W → ReadsL W A L) (Rb : ∀ W, Below w.heap.size w W → ReadsL W B M)
    (hp : hasV (rowsL L) m = p) (hq : hasV (rowsL M) m = q) (la : L.length ≤ 12) (lb : M.length ≤ 12) (hm30 : m.length ≤ 30) :
    Calls Try.prog 6 #[.slice A L.length c, .slice B M.length cb, .slice C m.length cc] w fun e w' => e = .returned (.bool true) ∧ Below w.heap.size w w' := by
  replace LV := Lib.hid LV
  replace B0 := Lib.hid B0
  replace Fa := Lib.hid Fa
  replace Fb := Lib.hid Fb
  replace PMa := Lib.hid PMa
  replace PMb := Lib.hid PMb
  replace PHA := Lib.hid PHA
  replace PHB := Lib.hid PHB
  replace PU := Lib.hid PU
  replace PI := Lib.hid PI
  replace RC := Lib.hid RC
  replace Ra := Lib.hid Ra
  replace Rb := Lib.hid Rb
  replace hp := Lib.hid hp
  replace hq := Lib.hid hq
  have h30 : ¬ ((30 : Int) < m.length) := by omega
  go_enter Try.func6, Try.ntmps6
  go_wp2_with fail
  refine (LV.out w B0.out).mono ?_
  rintro e w1 ⟨rfl, K⟩
  have Bw1 := Lib.hid (B0.out.trans (K.mono B0.out.size))
  clear K
  go_wp2_with fail
  refine (Fa.out w1 Bw1.out).mono ?_
  rintro e w2 ⟨rfl, K⟩
  have Bw2 := Lib.hid (Bw1.out.trans (K.mono Bw1.out.size))
  clear K
  go_wp2_with fail
  refine (Fb.out w2 Bw2.out).mono ?_
  rintro e w3 ⟨rfl, K⟩
  have Bw3 := Lib.hid (Bw2.out.trans (K.mono Bw2.out.size))
  clear K
  go_wp2_with fail
  refine (PMa.out w3 Bw3.out).mono ?_
  rintro e w4 ⟨Au, cu, Lu, rfl, Eu, Nu, Ru, K⟩
  have Bw4 := Lib.hid (Bw3.out.trans (K.mono Bw3.out.size))
  have Ru : Hid (∀ W, Below w4.heap.size w4 W → ReadsL W Au Lu) := fun W hW => Ru.below hW (Nat.le_refl _)
  have Eu := Lib.hid Eu
  have Duw4 : Hid (Below w4.heap.size w4 w4) := Below.refl _ _
  clear K
  go_wp2_with fail
  refine (PMb.out w4 Bw4.out).mono ?_
  rintro e w5 ⟨Av, cv, Lv, rfl, Ev, Nv, Rv, K⟩
  have Bw5 := Lib.hid (Bw4.out.trans (K.mono Bw4.out.size))
  have Rv : Hid (∀ W, Below w5.heap.size w5 W → ReadsL W Av Lv) := fun W hW => Rv.below hW (Nat.le_refl _)
  have Ev := Lib.hid Ev
  have Dvw5 : Hid (Below w5.heap.size w5 w5) := Below.refl _ _
  have Duw5 := Lib.hid (Duw4.out.trans (K.mono Duw4.out.size))
  clear K
  have eu : (rowsL Lu) = makeL (rowsL L) := Eu.out
  have ev : (rowsL Lv) = makeL (rowsL M) := Ev.out
  have HXU : Hid (0 < Lu.length → (rA Lu 0).zs ∈ makeL (rowsL L)) := fun h => by rw [← eu]; exact List.mem_map.2 ⟨_, rA_mem h, rfl⟩
  have HXV : Hid (0 < Lv.length → (rA Lv 0).zs ∈ makeL (rowsL M)) := fun h => by rw [← ev]; exact List.mem_map.2 ⟨_, rA_mem h, rfl⟩
  have CU : Hid (0 < Lu.length → ∃ b off, Au = some ⟨b, off, none⟩ ∧ w5.cell? ⟨b, off, none⟩ = some (.slice (rA Lu 0).A (rA Lu 0).zs.length (rA Lu 0).cap)) := fun h => (Ru.out _ Duw5.out).1.at 0 h
  have CV : Hid (0 < Lv.length → ∃ b off, Av = some ⟨b, off, none⟩ ∧ w5.cell? ⟨b, off, none⟩ = some (.slice (rA Lv 0).A (rA Lv 0).zs.length (rA Lv 0).cap)) := fun h => (Rv.out _ Dvw5.out).1.at 0 h
  clear eu ev Ru Rv Eu Ev Duw4 Duw5 Dvw5
  generalize hlu : Lu.length = lu at *
  generalize hlv : Lv.length = lv at *
  clear hlu hlv
  generalize rA Lu 0 = ru at *
  generalize rA Lv 0 = rv at *
  obtain ⟨uA, uz, uc⟩ := ru
  obtain ⟨vA, vz, vc⟩ := rv
  dsimp only at HXU HXV CU CV
  by_cases h0 : lu = 0
  · subst h0
    go_upto_region 6 with fail
    refine wp_region_held_drew (S := fun w' => Hid (Below w.heap.size w w')) (by kernel_rfl) ?_ (fun hHeld => ?_)
    · exact Bw5.out.drew
    refine wpAnyH_take (oi := ⟨_, _, _, _, _, _⟩) (i := 0) (v := ?_) rfl (by kernel_rfl) (by kernel_rfl) (by kernel_rfl) (fun _ _ _ h => h) (Or.inl ⟨by rfl, ?ya0⟩) (by assumption) ?ra0
    case ya0 => (intro w hSw; (try dsimp only at hSw); go_simp; (try with_reducible rfl))
    try simp only [Act.put, List.setIfInBounds_toArray, List.set_cons_zero, List.set_cons_succ]
    refine wpAnyH_take (oi := ⟨_, _, _, _, _, _⟩) (i := 1) (v := ?_) rfl (by kernel_rfl) (by kernel_rfl) (by kernel_rfl) (fun _ _ _ h => h) (Or.inl ⟨by rfl, ?ya1⟩) (by assumption) ?ra1
    case ya1 => (intro w hSw; (try dsimp only at hSw); go_simp; (try with_reducible rfl))
    try simp only [Act.put, List.setIfInBounds_toArray, List.set_cons_zero, List.set_cons_succ]
    refine wpAnyH_take (oi := ⟨_, _, _, _, _, _⟩) (i := 2) (v := ?_) rfl (by kernel_rfl) (by kernel_rfl) (by kernel_rfl) (fun _ _ _ h => h) (Or.inl ⟨by rfl, ?ya2⟩) (by assumption) ?ra2
    case ya2 => (intro w hSw; (try dsimp only at hSw); go_simp; (try with_reducible rfl))
    try simp only [Act.put, List.setIfInBounds_toArray, List.set_cons_zero, List.set_cons_succ]
    refine wpAnyH_take (oi := ⟨_, _, _, _, _, _⟩) (i := 3) (v := ?_) rfl (by kernel_rfl) (by kernel_rfl) (by kernel_rfl) (fun _ _ _ h => h) (Or.inl ⟨by rfl, ?ya3⟩) (by assumption) ?ra3
    case ya3 => (intro w hSw; (try dsimp only at hSw); go_simp; (try with_reducible rfl))
    try simp only [Act.put, List.setIfInBounds_toArray, List.set_cons_zero, List.set_cons_succ]
    refine wpAnyH_take (oi := ⟨_, _, _, _, _, _⟩) (i := 4) rfl (by kernel_rfl) (by kernel_rfl) (by kernel_rfl) (fun _ _ _ h => h) (Or.inr ⟨by rfl, rfl⟩) (by assumption) ?ra4
    try simp only [Act.put, List.setIfInBounds_toArray, List.set_cons_zero, List.set_cons_succ]
    refine wpAnyH_take (oi := ⟨_, _, _, _, _, _⟩) (i := 5) rfl (by kernel_rfl) (by kernel_rfl) (by kernel_rfl) (fun _ _ _ h => h) (Or.inr ⟨by rfl, rfl⟩) (by assumption) ?ra5
    try simp only [Act.put, List.setIfInBounds_toArray, List.set_cons_zero, List.set_cons_succ]
    refine wpAnyH_take (oi := ⟨_, _, _, _, _, _⟩) (i := 6) rfl (by kernel_rfl) (by kernel_rfl) (by kernel_rfl) (fun _ _ _ h => h) (Or.inr ⟨by rfl, rfl⟩) (by assumption) ?ra6
    try simp only [Act.put, List.setIfInBounds_toArray, List.set_cons_zero, List.set_cons_succ]
    refine wpAnyH_take (oi := ⟨_, _, _, _, _, _⟩) (i := 7) (v := ?_) rfl (by kernel_rfl) (by kernel_rfl) (by kernel_rfl) (fun _ _ _ h => h) (Or.inl ⟨by rfl, ?ya7⟩) (by assumption) ?ra7
    case ya7 => (intro w hSw; (try dsimp only at hSw); go_simp; (try with_reducible rfl))
    try simp only [Act.put, List.setIfInBounds_toArray, List.set_cons_zero, List.set_cons_succ]
    refine wpAnyH_take (oi := ⟨_, _, _, _, _, _⟩) (i := 8) (v := ?_) rfl (by kernel_rfl) (by kernel_rfl) (by kernel_rfl) (fun _ _ _ h => h) (Or.inl ⟨by rfl, ?ya8⟩) (by assumption) ?ra8
    case ya8 => (intro w hSw; (try dsimp only at hSw); go_simp; (try with_reducible rfl))
    try simp only [Act.put, List.setIfInBounds_toArray, List.set_cons_zero, List.set_cons_succ]
    refine wpAnyH_take (oi := ⟨_, _, _, _, _, _⟩) (i := 9) rfl (by kernel_rfl) (by kernel_rfl) (by kernel_rfl) (fun _ _ _ h => h) (Or.inr ⟨by rfl, rfl⟩) (by assumption) ?ra9
    try simp only [Act.put, List.setIfInBounds_toArray, List.set_cons_zero, List.set_cons_succ]
    refine wpAnyH_take (oi := ⟨_, _, _, _, _, _⟩) (i := 10) rfl (by kernel_rfl) (by kernel_rfl) (by kernel_rfl) (fun _ _ _ h => h) (Or.inr ⟨by rfl, rfl⟩) (by assumption) ?ra10
    try simp only [Act.put, List.setIfInBounds_toArray, List.set_cons_zero, List.set_cons_succ]
    refine wpAnyH_take (oi := ⟨_, _, _, _, _, _⟩) (i := 11) rfl (by kernel_rfl) (by kernel_rfl) (by kernel_rfl) (fun _ _ _ h => h) (Or.inr ⟨by rfl, rfl⟩) (by assumption) ?ra11
    try simp only [Act.put, List.setIfInBounds_toArray, List.set_cons_zero, List.set_cons_succ]
    refine wpAnyH_take (oi := ⟨_, _, _, _, _, _⟩) (i := 12) rfl (by kernel_rfl) (by kernel_rfl) (by kernel_rfl) (fun _ _ _ h => h) (Or.inr ⟨by rfl, rfl⟩) (by assumption) ?ra12
    try simp only [Act.put, List.setIfInBounds_toArray, List.set_cons_zero, List.set_cons_succ]
    refine wpAnyH_take (oi := ⟨_, _, _, _, _, _⟩) (i := 13) rfl (by kernel_rfl) (by kernel_rfl) (by kernel_rfl) (fun _ _ _ h => h) (Or.inr ⟨by rfl, rfl⟩) (by assumption) ?ra13
    try simp only [Act.put, List.setIfInBounds_toArray, List.set_cons_zero, List.set_cons_succ]
    refine wpAnyH_take (oi := ⟨_, _, _, _, _, _⟩) (i := 14) rfl (by kernel_rfl) (by kernel_rfl) (by kernel_rfl) (fun _ _ _ h => h) (Or.inr ⟨by rfl, rfl⟩) (by assumption) ?ra14
    try simp only [Act.put, List.setIfInBounds_toArray, List.set_cons_zero, List.set_cons_succ]
    refine wpAnyH_take (oi := ⟨_, _, _, _, _, _⟩) (i := 15) rfl (by kernel_rfl) (by kernel_rfl) (by kernel_rfl) (fun _ _ _ h => h) (Or.inr ⟨by rfl, rfl⟩) (by assumption) ?ra15
    try simp only [Act.put, List.setIfInBounds_toArray, List.set_cons_zero, List.set_cons_succ]
    refine wpAnyH_take (oi := ⟨_, _, _, _, _, _⟩) (i := 16) rfl (by kernel_rfl) (by kernel_rfl) (by kernel_rfl) (fun _ _ _ h => h) (Or.inr ⟨by rfl, rfl⟩) (by assumption) ?ra16
    try simp only [Act.put, List.setIfInBounds_toArray, List.set_cons_zero, List.set_cons_succ]
    refine wpAnyH_take (oi := ⟨_, _, _, _, _, _⟩) (i := 17) rfl (by kernel_rfl) (by kernel_rfl) (by kernel_rfl) (fun _ _ _ h => h) (Or.inr ⟨by rfl, rfl⟩) (by assumption) ?ra17
    try simp only [Act.put, List.setIfInBounds_toArray, List.set_cons_zero, List.set_cons_succ]
    refine wpAnyH_take (oi := ⟨_, _, _, _, _, _⟩) (i := 18) (v := ?_) rfl (by kernel_rfl) (by kernel_rfl) (by kernel_rfl) (fun _ _ _ h => h) (Or.inl ⟨by rfl, ?ya18⟩) (by assumption) ?ra18
    case ya18 => (intro w hSw; (try dsimp only at hSw); go_simp; (try with_reducible rfl))
    try simp only [Act.put, List.setIfInBounds_toArray, List.set_cons_zero, List.set_cons_succ]
    refine wpAnyH_done (by kernel_rfl) ?_ _
    go_wp2
    go_ret
    exact ⟨rfl, hHeld.out⟩
  have zu : ((lu : Int) == 0) = false := by simp; omega
  by_cases h1 : lv = 0
  · subst h1
    go_upto_region 6 with fail
    refine wp_region_held_drew (S := fun w' => Hid (Below w.heap.size w w')) (by kernel_rfl) ?_ (fun hHeld => ?_)
    · exact Bw5.out.drew
    refine wpAnyH_take (oi := ⟨_, _, _, _, _, _⟩) (i := 0) (v := ?_) rfl (by kernel_rfl) (by kernel_rfl) (by kernel_rfl) (fun _ _ _ h => h) (Or.inl ⟨by rfl, ?yb0⟩) (by assumption) ?rb0
    case yb0 => (intro w hSw; (try dsimp only at hSw); go_simp; (try with_reducible rfl))
    try simp only [Act.put, List.setIfInBounds_toArray, List.set_cons_zero, List.set_cons_succ]
    refine wpAnyH_take (oi := ⟨_, _, _, _, _, _⟩) (i := 1) (v := ?_) rfl (by kernel_rfl) (by kernel_rfl) (by kernel_rfl) (fun _ _ _ h => h) (Or.inl ⟨by rfl, ?yb1⟩) (by assumption) ?rb1
    case yb1 => (intro w hSw; (try dsimp only at hSw); go_simp; (try with_reducible rfl))
    try simp only [Act.put, List.setIfInBounds_toArray, List.set_cons_zero, List.set_cons_succ]
    refine wpAnyH_take (oi := ⟨_, _, _, _, _, _⟩) (i := 2) (v := ?_) rfl (by kernel_rfl) (by kernel_rfl) (by kernel_rfl) (fun _ _ _ h => h) (Or.inl ⟨by rfl, ?yb2⟩) (by assumption) ?rb2
    case yb2 => (intro w hSw; (try dsimp only at hSw); go_simp; (try with_reducible rfl))
    try simp only [Act.put, List.setIfInBounds_toArray, List.set_cons_zero, List.set_cons_succ]
    refine wpAnyH_take (oi := ⟨_, _, _, _, _, _⟩) (i := 3) (v := ?_) rfl (by kernel_rfl) (by kernel_rfl) (by kernel_rfl) (fun _ _ _ h => h) (Or.inl ⟨by rfl, ?yb3⟩) (by assumption) ?rb3
    case yb3 => (intro w hSw; (try dsimp only at hSw); go_simp; (try with_reducible rfl))
    try simp only [Act.put, List.setIfInBounds_toArray, List.set_cons_zero, List.set_cons_succ]
    refine wpAnyH_take (oi := ⟨_, _, _, _, _, _⟩) (i := 4) (v := ?_) rfl (by kernel_rfl) (by kernel_rfl) (by kernel_rfl) (fun _ _ _ h => h) (Or.inl ⟨by rfl, ?yb4⟩) (by assumption) ?rb4
    case yb4 => (intro w hSw; (try dsimp only at hSw); go_simp; (try with_reducible rfl))
    try simp only [Act.put, List.setIfInBounds_toArray, List.set_cons_zero, List.set_cons_succ]
    refine wpAnyH_take (oi := ⟨_, _, _, _, _, _⟩) (i := 5) (v := ?_) rfl (by kernel_rfl) (by kernel_rfl) (by kernel_rfl) (fun _ _ _ h => h) (Or.inl ⟨by rfl, ?yb5⟩) (by assumption) ?rb5
    case yb5 => (intro w hSw; (try dsimp only at hSw); go_simp; (try with_reducible rfl))
    try simp only [Act.put, List.setIfInBounds_toArray, List.set_cons_zero, List.set_cons_succ]
    refine wpAnyH_take (oi := ⟨_, _, _, _, _, _⟩) (i := 6) (v := ?_) rfl (by kernel_rfl) (by kernel_rfl) (by kernel_rfl) (fun _ _ _ h => h) (Or.inl ⟨by rfl, ?yb6⟩) (by assumption) ?rb6
    case yb6 => (intro w hSw; (try dsimp only at hSw); go_simp; (try with_reducible rfl))
    try simp only [Act.put, List.setIfInBounds_toArray, List.set_cons_zero, List.set_cons_succ]
    refine wpAnyH_take (oi := ⟨_, _, _, _, _, _⟩) (i := 7) (v := ?_) rfl (by kernel_rfl) (by kernel_rfl) (by kernel_rfl) (fun _ _ _ h => h) (Or.inl ⟨by rfl, ?yb7⟩) (by assumption) ?rb7
    case yb7 => (intro w hSw; (try dsimp only at hSw); go_simp; (try with_reducible rfl))
    try simp only [Act.put, List.setIfInBounds_toArray, List.set_cons_zero, List.set_cons_succ]
    refine wpAnyH_take (oi := ⟨_, _, _, _, _, _⟩) (i := 8) (v := ?_) rfl (by kernel_rfl) (by kernel_rfl) (by kernel_rfl) (fun _ _ _ h => h) (Or.inl ⟨by rfl, ?yb8⟩) (by assumption) ?rb8
    case yb8 => (intro w hSw; (try dsimp only at hSw); go_simp; (try with_reducible rfl))
    try simp only [Act.put, List.setIfInBounds_toArray, List.set_cons_zero, List.set_cons_succ]
    refine wpAnyH_take (oi := ⟨_, _, _, _, _, _⟩) (i := 9) rfl (by kernel_rfl) (by kernel_rfl) (by kernel_rfl) (fun _ _ _ h => h) (Or.inr ⟨by rfl, rfl⟩) (by assumption) ?rb9
    try simp only [Act.put, List.setIfInBounds_toArray, List.set_cons_zero, List.set_cons_succ]
    refine wpAnyH_take (oi := ⟨_, _, _, _, _, _⟩) (i := 10) rfl (by kernel_rfl) (by kernel_rfl) (by kernel_rfl) (fun _ _ _ h => h) (Or.inr ⟨by rfl, rfl⟩) (by assumption) ?rb10
    try simp only [Act.put, List.setIfInBounds_toArray, List.set_cons_zero, List.set_cons_succ]
    refine wpAnyH_take (oi := ⟨_, _, _, _, _, _⟩) (i := 11) rfl (by kernel_rfl) (by kernel_rfl) (by kernel_rfl) (fun _ _ _ h => h) (Or.inr ⟨by rfl, rfl⟩) (by assumption) ?rb11
    try simp only [Act.put, List.setIfInBounds_toArray, List.set_cons_zero, List.set_cons_succ]
    refine wpAnyH_take (oi := ⟨_, _, _, _, _, _⟩) (i := 12) rfl (by kernel_rfl) (by kernel_rfl) (by kernel_rfl) (fun _ _ _ h => h) (Or.inr ⟨by rfl, rfl⟩) (by assumption) ?rb12
    try simp only [Act.put, List.setIfInBounds_toArray, List.set_cons_zero, List.set_cons_succ]
    refine wpAnyH_take (oi := ⟨_, _, _, _, _, _⟩) (i := 13) rfl (by kernel_rfl) (by kernel_rfl) (by kernel_rfl) (fun _ _ _ h => h) (Or.inr ⟨by rfl, rfl⟩) (by assumption) ?rb13
    try simp only [Act.put, List.setIfInBounds_toArray, List.set_cons_zero, List.set_cons_succ]
    refine wpAnyH_take (oi := ⟨_, _, _, _, _, _⟩) (i := 14) rfl (by kernel_rfl) (by kernel_rfl) (by kernel_rfl) (fun _ _ _ h => h) (Or.inr ⟨by rfl, rfl⟩) (by assumption) ?rb14
    try simp only [Act.put, List.setIfInBounds_toArray, List.set_cons_zero, List.set_cons_succ]
    refine wpAnyH_take (oi := ⟨_, _, _, _, _, _⟩) (i := 15) rfl (by kernel_rfl) (by kernel_rfl) (by kernel_rfl) (fun _ _ _ h => h) (Or.inr ⟨by rfl, rfl⟩) (by assumption) ?rb15
    try simp only [Act.put, List.setIfInBounds_toArray, List.set_cons_zero, List.set_cons_succ]
    refine wpAnyH_take (oi := ⟨_, _, _, _, _, _⟩) (i := 16) rfl (by kernel_rfl) (by kernel_rfl) (by kernel_rfl) (fun _ _ _ h => h) (Or.inr ⟨by rfl, rfl⟩) (by assumption) ?rb16
    try simp only [Act.put, List.setIfInBounds_toArray, List.set_cons_zero, List.set_cons_succ]
    refine wpAnyH_take (oi := ⟨_, _, _, _, _, _⟩) (i := 17) rfl (by kernel_rfl) (by kernel_rfl) (by kernel_rfl) (fun _ _ _ h => h) (Or.inr ⟨by rfl, rfl⟩) (by assumption) ?rb17
    try simp only [Act.put, List.setIfInBounds_toArray, List.set_cons_zero, List.set_cons_succ]
    refine wpAnyH_take (oi := ⟨_, _, _, _, _, _⟩) (i := 18) (v := ?_) rfl (by kernel_rfl) (by kernel_rfl) (by kernel_rfl) (fun _ _ _ h => h) (Or.inl ⟨by rfl, ?yb18⟩) (by assumption) ?rb18
    case yb18 => (intro w hSw; (try dsimp only at hSw); go_simp; (try with_reducible rfl))
    try simp only [Act.put, List.setIfInBounds_toArray, List.set_cons_zero, List.set_cons_succ]
    refine wpAnyH_done (by kernel_rfl) ?_ _
    go_wp2
    go_ret
    exact ⟨rfl, hHeld.out⟩
  have zv : ((lv : Int) == 0) = false := by simp; omega
  have HXU := Lib.hid (HXU.out (by omega))
  have HXV := Lib.hid (HXV.out (by omega))
  obtain ⟨bu, ou, eu, hcu⟩ := CU.out (by omega)
  obtain ⟨bv, ov, ev, hcv⟩ := CV.out (by omega)
  subst eu ev
  clear CU CV
  have plu : 0 < lu := by omega
  have plv : 0 < lv := by omega
  have ilu : (0 : Int) < lu := by omega
  have ilv : (0 : Int) < lv := by omega
  by_cases hl : uz.length = vz.length
  case neg =>
    have hb : ((uz.length : Int) != (vz.length : Int)) = true := by simp; omega
    clear hl HXU HXV
    generalize uz.length = nu at *
    generalize vz.length = nv at *
    go_upto_region 6 with fail
    refine wp_region_held_drew (S := fun w' => w'.cell? ⟨bu, ou, none⟩ = some (.slice uA nu uc) ∧ w'.cell? ⟨bv, ov, none⟩ = some (.slice vA nv vc) ∧ Hid (Below w.heap.size w w')) (by kernel_rfl) ?_ (fun hHeld => ?_)
    · exact ⟨hcu, hcv, Bw5.out.drew⟩
    refine wpAnyH_take (oi := ⟨_, _, _, _, _, _⟩) (i := 0) (v := ?_) rfl (by kernel_rfl) (by kernel_rfl) (by kernel_rfl) (fun _ _ _ h => h) (Or.inl ⟨by rfl, ?yc0⟩) (by assumption) ?rc0
    case yc0 => (intro w hSw; (try dsimp only at hSw); go_simp; (try with_reducible rfl))
    try simp only [Act.put, List.setIfInBounds_toArray, List.set_cons_zero, List.set_cons_succ]
    refine wpAnyH_take (oi := ⟨_, _, _, _, _, _⟩) (i := 1) (v := ?_) rfl (by kernel_rfl) (by kernel_rfl) (by kernel_rfl) (fun _ _ _ h => h) (Or.inl ⟨by rfl, ?yc1⟩) (by assumption) ?rc1
    case yc1 => (intro w hSw; (try dsimp only at hSw); go_simp; (try with_reducible rfl))
    try simp only [Act.put, List.setIfInBounds_toArray, List.set_cons_zero, List.set_cons_succ]
    refine wpAnyH_take (oi := ⟨_, _, _, _, _, _⟩) (i := 2) (v := ?_) rfl (by kernel_rfl) (by kernel_rfl) (by kernel_rfl) (fun _ _ _ h => h) (Or.inl ⟨by rfl, ?yc2⟩) (by assumption) ?rc2
    case yc2 => (intro w hSw; (try dsimp only at hSw); go_simp; (try with_reducible rfl))
    try simp only [Act.put, List.setIfInBounds_toArray, List.set_cons_zero, List.set_cons_succ]
    refine wpAnyH_take (oi := ⟨_, _, _, _, _, _⟩) (i := 3) (v := ?_) rfl (by kernel_rfl) (by kernel_rfl) (by kernel_rfl) (fun _ _ _ h => h) (Or.inl ⟨by rfl, ?yc3⟩) (by assumption) ?rc3
    case yc3 => (intro w hSw; (try dsimp only at hSw); go_simp; (try with_reducible rfl))
    try simp only [Act.put, List.setIfInBounds_toArray, List.set_cons_zero, List.set_cons_succ]
    refine wpAnyH_take (oi := ⟨_, _, _, _, _, _⟩) (i := 4) (v := ?_) rfl (by kernel_rfl) (by kernel_rfl) (by kernel_rfl) (fun _ _ _ h => h) (Or.inl ⟨by rfl, ?yc4⟩) (by assumption) ?rc4
    case yc4 => (intro w hSw; (try dsimp only at hSw); go_simp; (try with_reducible rfl))
    try simp only [Act.put, List.setIfInBounds_toArray, List.set_cons_zero, List.set_cons_succ]
    refine wpAnyH_take (oi := ⟨_, _, _, _, _, _⟩) (i := 5) (v := ?_) rfl (by kernel_rfl) (by kernel_rfl) (by kernel_rfl) (fun _ _ _ h => h) (Or.inl ⟨by rfl, ?yc5⟩) (by assumption) ?rc5
    case yc5 => (intro w hSw; (try dsimp only at hSw); go_simp; (try with_reducible rfl))
    try simp only [Act.put, List.setIfInBounds_toArray, List.set_cons_zero, List.set_cons_succ]
    refine wpAnyH_take (oi := ⟨_, _, _, _, _, _⟩) (i := 6) (v := ?_) rfl (by kernel_rfl) (by kernel_rfl) (by kernel_rfl) (fun _ _ _ h => h) (Or.inl ⟨by rfl, ?yc6⟩) (by assumption) ?rc6
    case yc6 => (intro w hSw; (try dsimp only at hSw); go_simp; (try with_reducible rfl))
    try simp only [Act.put, List.setIfInBounds_toArray, List.set_cons_zero, List.set_cons_succ]
    refine wpAnyH_take (oi := ⟨_, _, _, _, _, _⟩) (i := 7) (v := ?_) rfl (by kernel_rfl) (by kernel_rfl) (by kernel_rfl) (fun _ _ _ h => h) (Or.inl ⟨by rfl, ?yc7⟩) (by assumption) ?rc7
    case yc7 => (intro w hSw; (try dsimp only at hSw); go_simp; (try with_reducible rfl))
    try simp only [Act.put, List.setIfInBounds_toArray, List.set_cons_zero, List.set_cons_succ]
    refine wpAnyH_take (oi := ⟨_, _, _, _, _, _⟩) (i := 8) (v := ?_) rfl (by kernel_rfl) (by kernel_rfl) (by kernel_rfl) (fun _ _ _ h => h) (Or.inl ⟨by rfl, ?yc8⟩) (by assumption) ?rc8
    case yc8 => (intro w hSw; (try dsimp only at hSw); go_simp; (try with_reducible rfl))
    try simp only [Act.put, List.setIfInBounds_toArray, List.set_cons_zero, List.set_cons_succ]
    refine wpAnyH_take (oi := ⟨_, _, _, _, _, _⟩) (i := 9) (v := ?_) rfl (by kernel_rfl) (by kernel_rfl) (by kernel_rfl) (fun _ _ _ h => h) (Or.inl ⟨by rfl, ?yc9⟩) (by assumption) ?rc9
    case yc9 => (intro w hSw; (try dsimp only at hSw); go_simp; (try with_reducible rfl))
    try simp only [Act.put, List.setIfInBounds_toArray, List.set_cons_zero, List.set_cons_succ]
    refine wpAnyH_take (oi := ⟨_, _, _, _, _, _⟩) (i := 10) (v := ?_) rfl (by kernel_rfl) (by kernel_rfl) (by kernel_rfl) (fun _ _ _ h => h) (Or.inl ⟨by rfl, ?yc10⟩) (by assumption) ?rc10
    case yc10 => (intro w hSw; (try dsimp only at hSw); go_simp; (try with_reducible rfl))
    try simp only [Act.put, List.setIfInBounds_toArray, List.set_cons_zero, List.set_cons_succ]
    refine wpAnyH_take (oi := ⟨_, _, _, _, _, _⟩) (i := 11) (v := ?_) rfl (by kernel_rfl) (by kernel_rfl) (by kernel_rfl) (fun _ _ _ h => h) (Or.inl ⟨by rfl, ?yc11⟩) (by assumption) ?rc11
    case yc11 => (intro w hSw; (try dsimp only at hSw); go_simp; (try with_reducible rfl))
    try simp only [Act.put, List.setIfInBounds_toArray, List.set_cons_zero, List.set_cons_succ]
    refine wpAnyH_take (oi := ⟨_, _, _, _, _, _⟩) (i := 12) (v := ?_) rfl (by kernel_rfl) (by kernel_rfl) (by kernel_rfl) (fun _ _ _ h => h) (Or.inl ⟨by rfl, ?yc12⟩) (by assumption) ?rc12
    case yc12 => (intro w hSw; (try dsimp only at hSw); go_simp; (try with_reducible rfl))
    try simp only [Act.put, List.setIfInBounds_toArray, List.set_cons_zero, List.set_cons_succ]
    refine wpAnyH_take (oi := ⟨_, _, _, _, _, _⟩) (i := 13) (v := ?_) rfl (by kernel_rfl) (by kernel_rfl) (by kernel_rfl) (fun _ _ _ h => h) (Or.inl ⟨by rfl, ?yc13⟩) (by assumption) ?rc13
    case yc13 => (intro w hSw; (try dsimp only at hSw); go_simp; (try with_reducible rfl))
    try simp only [Act.put, List.setIfInBounds_toArray, List.set_cons_zero, List.set_cons_succ]
    refine wpAnyH_take (oi := ⟨_, _, _, _, _, _⟩) (i := 14) (v := ?_) rfl (by kernel_rfl) (by kernel_rfl) (by kernel_rfl) (fun _ _ _ h => h) (Or.inl ⟨by rfl, ?yc14⟩) (by assumption) ?rc14
    case yc14 => (intro w hSw; (try dsimp only at hSw); go_simp; (try with_reducible rfl))
    try simp only [Act.put, List.setIfInBounds_toArray, List.set_cons_zero, List.set_cons_succ]
    refine wpAnyH_take (oi := ⟨_, _, _, _, _, _⟩) (i := 15) (v := ?_) rfl (by kernel_rfl) (by kernel_rfl) (by kernel_rfl) (fun _ _ _ h => h) (Or.inl ⟨by rfl, ?yc15⟩) (by assumption) ?rc15
    case yc15 => (intro w hSw; (try dsimp only at hSw); go_simp; (try with_reducible rfl))
    try simp only [Act.put, List.setIfInBounds_toArray, List.set_cons_zero, List.set_cons_succ]
    refine wpAnyH_take (oi := ⟨_, _, _, _, _, _⟩) (i := 16) (v := ?_) rfl (by kernel_rfl) (by kernel_rfl) (by kernel_rfl) (fun _ _ _ h => h) (Or.inl ⟨by rfl, ?yc16⟩) (by assumption) ?rc16
    case yc16 => (intro w hSw; (try dsimp only at hSw); go_simp; (try with_reducible rfl))
    try simp only [Act.put, List.setIfInBounds_toArray, List.set_cons_zero, List.set_cons_succ]
    refine wpAnyH_take (oi := ⟨_, _, _, _, _, _⟩) (i := 17) (v := ?_) rfl (by kernel_rfl) (by kernel_rfl) (by kernel_rfl) (fun _ _ _ h => h) (Or.inl ⟨by rfl, ?yc17⟩) (by assumption) ?rc17
    case yc17 => (intro w hSw; (try dsimp only at hSw); go_simp; (try with_reducible rfl))
    try simp only [Act.put, List.setIfInBounds_toArray, List.set_cons_zero, List.set_cons_succ]
    refine wpAnyH_take (oi := ⟨_, _, _, _, _, _⟩) (i := 18) (v := ?_) rfl (by kernel_rfl) (by kernel_rfl) (by kernel_rfl) (fun _ _ _ h => h) (Or.inl ⟨by rfl, ?yc18⟩) (by assumption) ?rc18
    case yc18 => (intro w hSw; (try dsimp only at hSw); go_simp; (try with_reducible rfl))
    try simp only [Act.put, List.setIfInBounds_toArray, List.set_cons_zero, List.set_cons_succ]
    refine wpAnyH_done (by kernel_rfl) ?_ _
    go_wp2
    go_ret
    exact ⟨rfl, hHeld.2.2.out⟩
  have hb : ((uz.length : Int) != (vz.length : Int)) = false := by simp; omega
  have UH : Hid (hasV (unionL (rowsL L) (rowsL M)) m = (p || q)) := by show _ = _; rw [union_has HXU.out HXV.out hl, hp.out, hq.out]
  have MH : Hid (hasV (meetL (rowsL L) (rowsL M)) m = (p && q)) := by show _ = _; rw [meet_has HXU.out HXV.out hl, hp.out, hq.out]
  have LT := Lib.hid (lattice HXU.out HXV.out hl)
  clear hl HXU HXV hp hq
  generalize uz.length = nu at *
  generalize vz.length = nv at *
  go_upto_region 6 with fail
  refine wp_region_held_drew (S := fun w' => w'.cell? ⟨bu, ou, none⟩ = some (.slice uA nu uc) ∧ w'.cell? ⟨bv, ov, none⟩ = some (.slice vA nv vc) ∧ Hid (Below w.heap.size w w')) (by kernel_rfl) ?_ (fun hHeld => ?_)
  · exact ⟨hcu, hcv, Bw5.out.drew⟩
  refine wpAnyH_take (oi := ⟨_, _, _, _, _, _⟩) (i := 0) (v := ?_) rfl (by kernel_rfl) (by kernel_rfl) (by kernel_rfl) (fun _ _ _ h => h) (Or.inl ⟨by rfl, ?yd0⟩) (by assumption) ?rd0
  case yd0 => (intro w hSw; (try dsimp only at hSw); go_simp; (try with_reducible rfl))
  try simp only [Act.put, List.setIfInBounds_toArray, List.set_cons_zero, List.set_cons_succ]
  refine wpAnyH_take (oi := ⟨_, _, _, _, _, _⟩) (i := 1) (v := ?_) rfl (by kernel_rfl) (by kernel_rfl) (by kernel_rfl) (fun _ _ _ h => h) (Or.inl ⟨by rfl, ?yd1⟩) (by assumption) ?rd1
  case yd1 => (intro w hSw; (try dsimp only at hSw); go_simp; (try with_reducible rfl))
  try simp only [Act.put, List.setIfInBounds_toArray, List.set_cons_zero, List.set_cons_succ]
  refine wpAnyH_take (oi := ⟨_, _, _, _, _, _⟩) (i := 2) (v := ?_) rfl (by kernel_rfl) (by kernel_rfl) (by kernel_rfl) (fun _ _ _ h => h) (Or.inl ⟨by rfl, ?yd2⟩) (by assumption) ?rd2
  case yd2 => (intro w hSw; (try dsimp only at hSw); go_simp; (try with_reducible rfl))
  try simp only [Act.put, List.setIfInBounds_toArray, List.set_cons_zero, List.set_cons_succ]
  refine wpAnyH_take (oi := ⟨_, _, _, _, _, _⟩) (i := 3) (v := ?_) rfl (by kernel_rfl) (by kernel_rfl) (by kernel_rfl) (fun _ _ _ h => h) (Or.inl ⟨by rfl, ?yd3⟩) (by assumption) ?rd3
  case yd3 => (intro w hSw; (try dsimp only at hSw); go_simp; (try with_reducible rfl))
  try simp only [Act.put, List.setIfInBounds_toArray, List.set_cons_zero, List.set_cons_succ]
  refine wpAnyH_take (oi := ⟨_, _, _, _, _, _⟩) (i := 4) (v := ?_) rfl (by kernel_rfl) (by kernel_rfl) (by kernel_rfl) (fun _ _ _ h => h) (Or.inl ⟨by rfl, ?yd4⟩) (by assumption) ?rd4
  case yd4 => (intro w hSw; (try dsimp only at hSw); go_simp; (try with_reducible rfl))
  try simp only [Act.put, List.setIfInBounds_toArray, List.set_cons_zero, List.set_cons_succ]
  refine wpAnyH_take (oi := ⟨_, _, _, _, _, _⟩) (i := 5) (v := ?_) rfl (by kernel_rfl) (by kernel_rfl) (by kernel_rfl) (fun _ _ _ h => h) (Or.inl ⟨by rfl, ?yd5⟩) (by assumption) ?rd5
  case yd5 => (intro w hSw; (try dsimp only at hSw); go_simp; (try with_reducible rfl))
  try simp only [Act.put, List.setIfInBounds_toArray, List.set_cons_zero, List.set_cons_succ]
  refine wpAnyH_take (oi := ⟨_, _, _, _, _, _⟩) (i := 6) (v := ?_) rfl (by kernel_rfl) (by kernel_rfl) (by kernel_rfl) (fun _ _ _ h => h) (Or.inl ⟨by rfl, ?yd6⟩) (by assumption) ?rd6
  case yd6 => (intro w hSw; (try dsimp only at hSw); go_simp; (try with_reducible rfl))
  try simp only [Act.put, List.setIfInBounds_toArray, List.set_cons_zero, List.set_cons_succ]
  refine wpAnyH_take (oi := ⟨_, _, _, _, _, _⟩) (i := 7) (v := ?_) rfl (by kernel_rfl) (by kernel_rfl) (by kernel_rfl) (fun _ _ _ h => h) (Or.inl ⟨by rfl, ?yd7⟩) (by assumption) ?rd7
  case yd7 => (intro w hSw; (try dsimp only at hSw); go_simp; (try with_reducible rfl))
  try simp only [Act.put, List.setIfInBounds_toArray, List.set_cons_zero, List.set_cons_succ]
  refine wpAnyH_take (oi := ⟨_, _, _, _, _, _⟩) (i := 8) (v := ?_) rfl (by kernel_rfl) (by kernel_rfl) (by kernel_rfl) (fun _ _ _ h => h) (Or.inl ⟨by rfl, ?yd8⟩) (by assumption) ?rd8
  case yd8 => (intro w hSw; (try dsimp only at hSw); go_simp; (try with_reducible rfl))
  try simp only [Act.put, List.setIfInBounds_toArray, List.set_cons_zero, List.set_cons_succ]
  refine wpAnyH_take (oi := ⟨_, _, _, _, _, _⟩) (i := 9) (v := ?_) rfl (by kernel_rfl) (by kernel_rfl) (by kernel_rfl) (fun _ _ _ h => h) (Or.inl ⟨by rfl, ?yd9⟩) (by assumption) ?rd9
  case yd9 => (intro w hSw; (try dsimp only at hSw); go_simp; (try with_reducible rfl))
  try simp only [Act.put, List.setIfInBounds_toArray, List.set_cons_zero, List.set_cons_succ]
  refine wpAnyH_take (oi := ⟨_, _, _, _, _, _⟩) (i := 10) (v := ?_) rfl (by kernel_rfl) (by kernel_rfl) (by kernel_rfl) (fun _ _ _ h => h) (Or.inl ⟨by rfl, ?yd10⟩) (by assumption) ?rd10
  case yd10 => (intro w hSw; (try dsimp only at hSw); go_simp; (try with_reducible rfl))
  try simp only [Act.put, List.setIfInBounds_toArray, List.set_cons_zero, List.set_cons_succ]
  refine wpAnyH_take (oi := ⟨_, _, _, _, _, _⟩) (i := 11) (v := ?_) rfl (by kernel_rfl) (by kernel_rfl) (by kernel_rfl) (fun _ _ _ h => h) (Or.inl ⟨by rfl, ?yd11⟩) (by assumption) ?rd11
  case yd11 => (intro w hSw; (try dsimp only at hSw); go_simp; (try with_reducible rfl))
  try simp only [Act.put, List.setIfInBounds_toArray, List.set_cons_zero, List.set_cons_succ]
  refine wpAnyH_take (oi := ⟨_, _, _, _, _, _⟩) (i := 12) (v := ?_) rfl (by kernel_rfl) (by kernel_rfl) (by kernel_rfl) (fun _ _ _ h => h) (Or.inl ⟨by rfl, ?yd12⟩) (by assumption) ?rd12
  case yd12 => (intro w hSw; (try dsimp only at hSw); go_simp; (try with_reducible rfl))
  try simp only [Act.put, List.setIfInBounds_toArray, List.set_cons_zero, List.set_cons_succ]
  refine wpAnyH_take (oi := ⟨_, _, _, _, _, _⟩) (i := 13) (v := ?_) rfl (by kernel_rfl) (by kernel_rfl) (by kernel_rfl) (fun _ _ _ h => h) (Or.inl ⟨by rfl, ?yd13⟩) (by assumption) ?rd13
  case yd13 => (intro w hSw; (try dsimp only at hSw); go_simp; (try with_reducible rfl))
  try simp only [Act.put, List.setIfInBounds_toArray, List.set_cons_zero, List.set_cons_succ]
  refine wpAnyH_take (oi := ⟨_, _, _, _, _, _⟩) (i := 14) (v := ?_) rfl (by kernel_rfl) (by kernel_rfl) (by kernel_rfl) (fun _ _ _ h => h) (Or.inl ⟨by rfl, ?yd14⟩) (by assumption) ?rd14
  case yd14 => (intro w hSw; (try dsimp only at hSw); go_simp; (try with_reducible rfl))
  try simp only [Act.put, List.setIfInBounds_toArray, List.set_cons_zero, List.set_cons_succ]
  refine wpAnyH_take (oi := ⟨_, _, _, _, _, _⟩) (i := 15) (v := ?_) rfl (by kernel_rfl) (by kernel_rfl) (by kernel_rfl) (fun _ _ _ h => h) (Or.inl ⟨by rfl, ?yd15⟩) (by assumption) ?rd15
  case yd15 => (intro w hSw; (try dsimp only at hSw); go_simp; (try with_reducible rfl))
  try simp only [Act.put, List.setIfInBounds_toArray, List.set_cons_zero, List.set_cons_succ]
  refine wpAnyH_take (oi := ⟨_, _, _, _, _, _⟩) (i := 16) (v := ?_) rfl (by kernel_rfl) (by kernel_rfl) (by kernel_rfl) (fun _ _ _ h => h) (Or.inl ⟨by rfl, ?yd16⟩) (by assumption) ?rd16
  case yd16 => (intro w hSw; (try dsimp only at hSw); go_simp; (try with_reducible rfl))
  try simp only [Act.put, List.setIfInBounds_toArray, List.set_cons_zero, List.set_cons_succ]
  refine wpAnyH_take (oi := ⟨_, _, _, _, _, _⟩) (i := 17) (v := ?_) rfl (by kernel_rfl) (by kernel_rfl) (by kernel_rfl) (fun _ _ _ h => h) (Or.inl ⟨by rfl, ?yd17⟩) (by assumption) ?rd17
  case yd17 => (intro w hSw; (try dsimp only at hSw); go_simp; (try with_reducible rfl))
  try simp only [Act.put, List.setIfInBounds_toArray, List.set_cons_zero, List.set_cons_succ]
  refine wpAnyH_take (oi := ⟨_, _, _, _, _, _⟩) (i := 18) (v := ?_) rfl (by kernel_rfl) (by kernel_rfl) (by kernel_rfl) (fun _ _ _ h => h) (Or.inl ⟨by rfl, ?yd18⟩) (by assumption) ?rd18
  case yd18 => (intro w hSw; (try dsimp only at hSw); go_simp; (try with_reducible rfl))
  try simp only [Act.put, List.setIfInBounds_toArray, List.set_cons_zero, List.set_cons_succ]
  refine wpAnyH_done (by kernel_rfl) ?_ _
  have Bw6 := Lib.hid hHeld.2.2.out
  clear hHeld hcu hcv
  generalize w5.drew = w6 at *
  go_wp2_with fail
  refine (PHA.out w6 Bw6.out).mono ?_
  rintro e w7 ⟨rfl, K⟩
  have Bw7 := Lib.hid (Bw6.out.trans (K.mono Bw6.out.size))
  clear K
  go_wp2_with fail
  refine (PHB.out w7 Bw7.out).mono ?_
  rintro e w8 ⟨rfl, K⟩
  have Bw8 := Lib.hid (Bw7.out.trans (K.mono Bw7.out.size))
  clear K
  go_wp2_with fail
  refine (PU.out w8 Bw8.out).mono ?_
  rintro e w9 ⟨As, cs, Ls, rfl, Es, Ns, Rs, K⟩
  have Bw9 := Lib.hid (Bw8.out.trans (K.mono Bw8.out.size))
  have Rs : Hid (∀ W, Below w9.heap.size w9 W → ReadsL W As Ls) := fun W hW => Rs.below hW (Nat.le_refl _)
  have Es := Lib.hid Es
  have Dsw9 : Hid (Below w9.heap.size w9 w9) := Below.refl _ _
  clear K
  go_wp2_with fail
  refine (PI.out w9 Bw9.out).mono ?_
  rintro e w10 ⟨At, ct, Lt, rfl, Et, Nt, Rt, K⟩
  have Bw10 := Lib.hid (Bw9.out.trans (K.mono Bw9.out.size))
  have Rt : Hid (∀ W, Below w10.heap.size w10 W → ReadsL W At Lt) := fun W hW => Rt.below hW (Nat.le_refl _)
  have Et := Lib.hid Et
  have Dtw10 : Hid (Below w10.heap.size w10 w10) := Below.refl _ _
  have Dsw10 := Lib.hid (Dsw9.out.trans (K.mono Dsw9.out.size))
  clear K
  have es : rowsL Ls = unionL (rowsL L) (rowsL M) := Es.out
  have et : rowsL Lt = meetL (rowsL L) (rowsL M) := Et.out
  rw [← es] at UH LT
  rw [← et] at MH LT
  clear es et Es Et
  obtain ⟨l1, l2, l3, l4⟩ := LT.out
  have l1 := Lib.hid l1
  have l2 := Lib.hid l2
  have l3 := Lib.hid l3
  have l4 := Lib.hid l4
  clear LT
  have CL := has_any As C Ls m cs cc _ (Rs.out _ Dsw10.out) (by omega) (RC.out _ Bw10.out) (by omega)
  rw [UH.out] at CL
  have CL := Lib.hid CL
  go_wp2_with fail
  refine (CL.out).mono ?_
  rintro e w11 ⟨rfl, K⟩
  have Bw11 := Lib.hid (Bw10.out.trans (K.mono Bw10.out.size))
  have Dsw11 := Lib.hid (Dsw10.out.trans (K.mono Dsw10.out.size))
  have Dtw11 := Lib.hid (Dtw10.out.trans (K.mono Dtw10.out.size))
  clear K
  clear CL
  cases p
  · cases q
    · have CL := has_any At C Lt m ct cc _ (Rt.out _ Dtw11.out) (by omega) (RC.out _ Bw11.out) (by omega)
      rw [MH.out] at CL
      have CL := Lib.hid CL
      go_wp2_with fail
      refine (CL.out).mono ?_
      rintro e w12 ⟨rfl, K⟩
      have Bw12 := Lib.hid (Bw11.out.trans (K.mono Bw11.out.size))
      have Dsw12 := Lib.hid (Dsw11.out.trans (K.mono Dsw11.out.size))
      have Dtw12 := Lib.hid (Dtw11.out.trans (K.mono Dtw11.out.size))
      clear K
      clear CL
      have CL := subset_any At A Lt L ct c _ (Rt.out _ Dtw12.out) (by omega) (Ra.out _ Bw12.out) (by omega)
      rw [l1.out] at CL
      have CL := Lib.hid CL
      go_wp2_with fail
      refine (CL.out).mono ?_
      rintro e w13 ⟨rfl, K⟩
      have Bw13 := Lib.hid (Bw12.out.trans (K.mono Bw12.out.size))
      have Dsw13 := Lib.hid (Dsw12.out.trans (K.mono Dsw12.out.size))
      have Dtw13 := Lib.hid (Dtw12.out.trans (K.mono Dtw12.out.size))
      clear K
      clear CL
      have CL := subset_any At B Lt M ct cb _ (Rt.out _ Dtw13.out) (by omega) (Rb.out _ Bw13.out) (by omega)
      rw [l2.out] at CL
      have CL := Lib.hid CL
      go_wp2_with fail
      refine (CL.out).mono ?_
      rintro e w14 ⟨rfl, K⟩
      have Bw14 := Lib.hid (Bw13.out.trans (K.mono Bw13.out.size))
      have Dsw14 := Lib.hid (Dsw13.out.trans (K.mono Dsw13.out.size))
      have Dtw14 := Lib.hid (Dtw13.out.trans (K.mono Dtw13.out.size))
      clear K
      clear CL
      have CL := subset_any A As L Ls c cs _ (Ra.out _ Bw14.out) (by omega) (Rs.out _ Dsw14.out) (by omega)
      rw [l3.out] at CL
      have CL := Lib.hid CL
      go_wp2_with fail
      refine (CL.out).mono ?_
      rintro e w15 ⟨rfl, K⟩
      have Bw15 := Lib.hid (Bw14.out.trans (K.mono Bw14.out.size))
      have Dsw15 := Lib.hid (Dsw14.out.trans (K.mono Dsw14.out.size))
      have Dtw15 := Lib.hid (Dtw14.out.trans (K.mono Dtw14.out.size))
      clear K
      clear CL
      have CL := subset_any B As M Ls cb cs _ (Rb.out _ Bw15.out) (by omega) (Rs.out _ Dsw15.out) (by omega)
      rw [l4.out] at CL
      have CL := Lib.hid CL
      go_wp2_with fail
      refine (CL.out).mono ?_
      rintro e w16 ⟨rfl, K⟩
      have Bw16 := Lib.hid (Bw15.out.trans (K.mono Bw15.out.size))
      have Dsw16 := Lib.hid (Dsw15.out.trans (K.mono Dsw15.out.size))
      have Dtw16 := Lib.hid (Dtw15.out.trans (K.mono Dtw15.out.size))
      clear K
      clear CL
      go_wp2
      go_ret
      exact ⟨rfl, Bw16.out⟩
    · have CL := has_any At C Lt m ct cc _ (Rt.out _ Dtw11.out) (by omega) (RC.out _ Bw11.out) (by omega)
      rw [MH.out] at CL
      have CL := Lib.hid CL
      go_wp2_with fail
      refine (CL.out).mono ?_
      rintro e w12 ⟨rfl, K⟩
      have Bw12 := Lib.hid (Bw11.out.trans (K.mono Bw11.out.size))
      have Dsw12 := Lib.hid (Dsw11.out.trans (K.mono Dsw11.out.size))
      have Dtw12 := Lib.hid (Dtw11.out.trans (K.mono Dtw11.out.size))
      clear K
      clear CL
      have CL := subset_any At A Lt L ct c _ (Rt.out _ Dtw12.out) (by omega) (Ra.out _ Bw12.out) (by omega)
      rw [l1.out] at CL
      have CL := Lib.hid CL
      go_wp2_with fail
      refine (CL.out).mono ?_
      rintro e w13 ⟨rfl, K⟩
      have Bw13 := Lib.hid (Bw12.out.trans (K.mono Bw12.out.size))
      have Dsw13 := Lib.hid (Dsw12.out.trans (K.mono Dsw12.out.size))
      have Dtw13 := Lib.hid (Dtw12.out.trans (K.mono Dtw12.out.size))
      clear K
      clear CL
      have CL := subset_any At B Lt M ct cb _ (Rt.out _ Dtw13.out) (by omega) (Rb.out _ Bw13.out) (by omega)
      rw [l2.out] at CL
      have CL := Lib.hid CL
      go_wp2_with fail
      refine (CL.out).mono ?_
      rintro e w14 ⟨rfl, K⟩
      have Bw14 := Lib.hid (Bw13.out.trans (K.mono Bw13.out.size))
      have Dsw14 := Lib.hid (Dsw13.out.trans (K.mono Dsw13.out.size))
      have Dtw14 := Lib.hid (Dtw13.out.trans (K.mono Dtw13.out.size))
      clear K
      clear CL
      have CL := subset_any A As L Ls c cs _ (Ra.out _ Bw14.out) (by omega) (Rs.out _ Dsw14.out) (by omega)
      rw [l3.out] at CL
      have CL := Lib.hid CL
      go_wp2_with fail
      refine (CL.out).mono ?_
      rintro e w15 ⟨rfl, K⟩
      have Bw15 := Lib.hid (Bw14.out.trans (K.mono Bw14.out.size))
      have Dsw15 := Lib.hid (Dsw14.out.trans (K.mono Dsw14.out.size))
      have Dtw15 := Lib.hid (Dtw14.out.trans (K.mono Dtw14.out.size))
      clear K
      clear CL
      have CL := subset_any B As M Ls cb cs _ (Rb.out _ Bw15.out) (by omega) (Rs.out _ Dsw15.out) (by omega)
      rw [l4.out] at CL
      have CL := Lib.hid CL
      go_wp2_with fail
      refine (CL.out).mono ?_
      rintro e w16 ⟨rfl, K⟩
      have Bw16 := Lib.hid (Bw15.out.trans (K.mono Bw15.out.size))
      have Dsw16 := Lib.hid (Dsw15.out.trans (K.mono Dsw15.out.size))
      have Dtw16 := Lib.hid (Dtw15.out.trans (K.mono Dtw15.out.size))
      clear K
      clear CL
      go_wp2
      go_ret
      exact ⟨rfl, Bw16.out⟩
  · cases q
    · have CL := has_any At C Lt m ct cc _ (Rt.out _ Dtw11.out) (by omega) (RC.out _ Bw11.out) (by omega)
      rw [MH.out] at CL
      have CL := Lib.hid CL
      go_wp2_with fail
      refine (CL.out).mono ?_
      rintro e w12 ⟨rfl, K⟩
      have Bw12 := Lib.hid (Bw11.out.trans (K.mono Bw11.out.size))
      have Dsw12 := Lib.hid (Dsw11.out.trans (K.mono Dsw11.out.size))
      have Dtw12 := Lib.hid (Dtw11.out.trans (K.mono Dtw11.out.size))
      clear K
      clear CL
      have CL := subset_any At A Lt L ct c _ (Rt.out _ Dtw12.out) (by omega) (Ra.out _ Bw12.out) (by omega)
      rw [l1.out] at CL
      have CL := Lib.hid CL
      go_wp2_with fail
      refine (CL.out).mono ?_
      rintro e w13 ⟨rfl, K⟩
      have Bw13 := Lib.hid (Bw12.out.trans (K.mono Bw12.out.size))
      have Dsw13 := Lib.hid (Dsw12.out.trans (K.mono Dsw12.out.size))
      have Dtw13 := Lib.hid (Dtw12.out.trans (K.mono Dtw12.out.size))
      clear K
      clear CL
      have CL := subset_any At B Lt M ct cb _ (Rt.out _ Dtw13.out) (by omega) (Rb.out _ Bw13.out) (by omega)
      rw [l2.out] at CL
      have CL := Lib.hid CL
      go_wp2_with fail
      refine (CL.out).mono ?_
      rintro e w14 ⟨rfl, K⟩
      have Bw14 := Lib.hid (Bw13.out.trans (K.mono Bw13.out.size))
      have Dsw14 := Lib.hid (Dsw13.out.trans (K.mono Dsw13.out.size))
      have Dtw14 := Lib.hid (Dtw13.out.trans (K.mono Dtw13.out.size))
      clear K
      clear CL
      have CL := subset_any A As L Ls c cs _ (Ra.out _ Bw14.out) (by omega) (Rs.out _ Dsw14.out) (by omega)
      rw [l3.out] at CL
      have CL := Lib.hid CL
      go_wp2_with fail
      refine (CL.out).mono ?_
      rintro e w15 ⟨rfl, K⟩
      have Bw15 := Lib.hid (Bw14.out.trans (K.mono Bw14.out.size))
      have Dsw15 := Lib.hid (Dsw14.out.trans (K.mono Dsw14.out.size))
      have Dtw15 := Lib.hid (Dtw14.out.trans (K.mono Dtw14.out.size))
      clear K
      clear CL
      have CL := subset_any B As M Ls cb cs _ (Rb.out _ Bw15.out) (by omega) (Rs.out _ Dsw15.out) (by omega)
      rw [l4.out] at CL
      have CL := Lib.hid CL
      go_wp2_with fail
      refine (CL.out).mono ?_
      rintro e w16 ⟨rfl, K⟩
      have Bw16 := Lib.hid (Bw15.out.trans (K.mono Bw15.out.size))
      have Dsw16 := Lib.hid (Dsw15.out.trans (K.mono Dsw15.out.size))
      have Dtw16 := Lib.hid (Dtw15.out.trans (K.mono Dtw15.out.size))
      clear K
      clear CL
      go_wp2
      go_ret
      exact ⟨rfl, Bw16.out⟩
    · have CL := has_any At C Lt m ct cc _ (Rt.out _ Dtw11.out) (by omega) (RC.out _ Bw11.out) (by omega)
      rw [MH.out] at CL
      have CL := Lib.hid CL
      go_wp2_with fail
      refine (CL.out).mono ?_
      rintro e w12 ⟨rfl, K⟩
      have Bw12 := Lib.hid (Bw11.out.trans (K.mono Bw11.out.size))
      have Dsw12 := Lib.hid (Dsw11.out.trans (K.mono Dsw11.out.size))
      have Dtw12 := Lib.hid (Dtw11.out.trans (K.mono Dtw11.out.size))
      clear K
      clear CL
      have CL := subset_any At A Lt L ct c _ (Rt.out _ Dtw12.out) (by omega) (Ra.out _ Bw12.out) (by omega)
      rw [l1.out] at CL
      have CL := Lib.hid CL
      go_wp2_with fail
      refine (CL.out).mono ?_
      rintro e w13 ⟨rfl, K⟩
      have Bw13 := Lib.hid (Bw12.out.trans (K.mono Bw12.out.size))
      have Dsw13 := Lib.hid (Dsw12.out.trans (K.mono Dsw12.out.size))
      have Dtw13 := Lib.hid (Dtw12.out.trans (K.mono Dtw12.out.size))
      clear K
      clear CL
      have CL := subset_any At B Lt M ct cb _ (Rt.out _ Dtw13.out) (by omega) (Rb.out _ Bw13.out) (by omega)
      rw [l2.out] at CL
      have CL := Lib.hid CL
      go_wp2_with fail
      refine (CL.out).mono ?_
      rintro e w14 ⟨rfl, K⟩
      have Bw14 := Lib.hid (Bw13.out.trans (K.mono Bw13.out.size))
      have Dsw14 := Lib.hid (Dsw13.out.trans (K.mono Dsw13.out.size))
      have Dtw14 := Lib.hid (Dtw13.out.trans (K.mono Dtw13.out.size))
      clear K
      clear CL
      have CL := subset_any A As L Ls c cs _ (Ra.out _ Bw14.out) (by omega) (Rs.out _ Dsw14.out) (by omega)
      rw [l3.out] at CL
      have CL := Lib.hid CL
      go_wp2_with fail
      refine (CL.out).mono ?_
      rintro e w15 ⟨rfl, K⟩
      have Bw15 := Lib.hid (Bw14.out.trans (K.mono Bw14.out.size))
      have Dsw15 := Lib.hid (Dsw14.out.trans (K.mono Dsw14.out.size))
      have Dtw15 := Lib.hid (Dtw14.out.trans (K.mono Dtw14.out.size))
      clear K
      clear CL
      have CL := subset_any B As M Ls cb cs _ (Rb.out _ Bw15.out) (by omega) (Rs.out _ Dsw15.out) (by omega)
      rw [l4.out] at CL
      have CL := Lib.hid CL
      go_wp2_with fail
      refine (CL.out).mono ?_
      rintro e w16 ⟨rfl, K⟩
      have Bw16 := Lib.hid (Bw15.out.trans (K.mono Bw15.out.size))
      have Dsw16 := Lib.hid (Dsw15.out.trans (K.mono Dsw15.out.size))
      have Dtw16 := Lib.hid (Dtw15.out.trans (K.mono Dtw15.out.size))
      clear K
      clear CL
      go_wp2
      go_ret
      exact ⟨rfl, Bw16.out⟩

set_option maxHeartbeats 8000000 in
set_option maxRecDepth 100000 in
theorem upsetLattice_law (A B C : Option Addr) (L M : List Row) (m : List Int) (c cb cc : Nat) (w : World) (hr : RowsW w A L c) (hs : RowsW w B M cb) (rb : ReadsV w C m) :
    Calls Try.prog 6 #[.slice A L.length c, .slice B M.length cb, .slice C m.length cc] w fun e w' => e = .returned (.bool true) ∧ Below w.heap.size w w' := by
  have LV : Hid (∀ W, Below w.heap.size w W → Calls Try.prog 11 #[] W (BPost W.heap.size W true)) := fun W _ => lives_any W
  have B0 : Hid (Below w.heap.size w w) := Below.refl _ _
  have Fa := Lib.hid (hr.at)
  have Fb := Lib.hid (hs.at)
  cases fa : fewB L
  · rw [fa] at Fa
    clear fa hr hs rb
    generalize m.length = ml at *
    go_enter Try.func6, Try.ntmps6
    go_wp2_with fail
    refine (LV.out w B0.out).mono ?_
    rintro e w1 ⟨rfl, K⟩
    have Bw1 := Lib.hid (B0.out.trans (K.mono B0.out.size))
    clear K
    go_wp2_with fail
    refine (Fa.out w1 Bw1.out).mono ?_
    rintro e w2 ⟨rfl, K⟩
    have Bw2 := Lib.hid (Bw1.out.trans (K.mono Bw1.out.size))
    clear K
    go_wp2
    go_ret
    exact ⟨rfl, Bw2.out⟩
  rw [fa] at Fa
  cases fb : fewB M
  · rw [fb] at Fb
    clear fb hr hs rb
    generalize m.length = ml at *
    go_enter Try.func6, Try.ntmps6
    go_wp2_with fail
    refine (LV.out w B0.out).mono ?_
    rintro e w1 ⟨rfl, K⟩
    have Bw1 := Lib.hid (B0.out.trans (K.mono B0.out.size))
    clear K
    go_wp2_with fail
    refine (Fa.out w1 Bw1.out).mono ?_
    rintro e w2 ⟨rfl, K⟩
    have Bw2 := Lib.hid (Bw1.out.trans (K.mono Bw1.out.size))
    clear K
    go_wp2_with fail
    refine (Fb.out w2 Bw2.out).mono ?_
    rintro e w3 ⟨rfl, K⟩
    have Bw3 := Lib.hid (Bw2.out.trans (K.mono Bw2.out.size))
    clear K
    go_wp2
    go_ret
    exact ⟨rfl, Bw3.out⟩
  rw [fb] at Fb
  obtain ⟨Ra, la⟩ := hr.few fa
  have Ra : Hid (∀ W, Below w.heap.size w W → ReadsL W A L) := fun W hW => Ra.below hW (Nat.le_refl _)
  obtain ⟨Rb, lb⟩ := hs.few fb
  have Rb : Hid (∀ W, Below w.heap.size w W → ReadsL W B M) := fun W hW => Rb.below hW (Nat.le_refl _)
  have nza := Lib.hid hr.nz
  have nzb := Lib.hid hs.nz
  clear hr hs fa fb
  by_cases h30 : 30 < m.length
  · clear rb
    have h30 : (30 : Int) < m.length := by omega
    generalize m.length = ml at *
    go_enter Try.func6, Try.ntmps6
    go_wp2_with fail
    refine (LV.out w B0.out).mono ?_
    rintro e w1 ⟨rfl, K⟩
    have Bw1 := Lib.hid (B0.out.trans (K.mono B0.out.size))
    clear K
    go_wp2_with fail
    refine (Fa.out w1 Bw1.out).mono ?_
    rintro e w2 ⟨rfl, K⟩
    have Bw2 := Lib.hid (Bw1.out.trans (K.mono Bw1.out.size))
    clear K
    go_wp2_with fail
    refine (Fb.out w2 Bw2.out).mono ?_
    rintro e w3 ⟨rfl, K⟩
    have Bw3 := Lib.hid (Bw2.out.trans (K.mono Bw2.out.size))
    clear K
    go_wp2
    go_ret
    exact ⟨rfl, Bw3.out⟩
  have hm30 : m.length ≤ 30 := by omega
  have h30 : ¬ ((30 : Int) < m.length) := by omega
  have RC : Hid (∀ W, Below w.heap.size w W → ReadsV W C m) := fun W hW => rb.below hW (Nat.le_refl _)
  clear rb
  have PHA : Hid (∀ W, Below w.heap.size w W → Calls Try.prog 17 #[.slice A L.length c, .slice C m.length cc] W (BPost W.heap.size W (hasV (rowsL L) m))) := fun W hW => has_any A C L m c cc W (Ra.out W hW) (by omega) (RC.out W hW) (by omega)
  have PHB : Hid (∀ W, Below w.heap.size w W → Calls Try.prog 17 #[.slice B M.length cb, .slice C m.length cc] W (BPost W.heap.size W (hasV (rowsL M) m))) := fun W hW => has_any B C M m cb cc W (Rb.out W hW) (by omega) (RC.out W hW) (by omega)
  have PMa : Hid (∀ W, Below w.heap.size w W → Calls Try.prog 13 #[.slice A L.length c] W (MPost L.length W (makeL (rowsL L)))) := fun W hW => make_any A L c W (Ra.out W hW) (by omega)
  have PMb : Hid (∀ W, Below w.heap.size w W → Calls Try.prog 13 #[.slice B M.length cb] W (MPost M.length W (makeL (rowsL M)))) := fun W hW => make_any B M cb W (Rb.out W hW) (by omega)
  have PU : Hid (∀ W, Below w.heap.size w W → Calls Try.prog 19 #[.slice A L.length c, .slice B M.length cb] W (MPost (L.length + M.length) W (unionL (rowsL L) (rowsL M)))) := fun W hW => union_any A B L M c cb W (Ra.out W hW) (by omega) (Rb.out W hW) (by omega) nza.out nzb.out
  have PI : Hid (∀ W, Below w.heap.size w W → Calls Try.prog 21 #[.slice A L.length c, .slice B M.length cb] W (MPost 900 W (meetL (rowsL L) (rowsL M)))) := fun W hW => meet_any A B L M c cb W (Ra.out W hW) (by omega) (Rb.out W hW) (by omega)
  cases hp : hasV (rowsL L) m <;> cases hq : hasV (rowsL M) m <;> rw [hp] at PHA <;> rw [hq] at PHB <;> replace hp := Lib.hid hp <;> replace hq := Lib.hid hq
  · exact upsetLattice_go A B C L M m c cb cc w false false LV.out B0.out Fa.out Fb.out PMa.out PMb.out PHA.out PHB.out PU.out PI.out RC.out Ra.out Rb.out hp.out hq.out la lb hm30
  · exact upsetLattice_go A B C L M m c cb cc w false true LV.out B0.out Fa.out Fb.out PMa.out PMb.out PHA.out PHB.out PU.out PI.out RC.out Ra.out Rb.out hp.out hq.out la lb hm30
  · exact upsetLattice_go A B C L M m c cb cc w true false LV.out B0.out Fa.out Fb.out PMa.out PMb.out PHA.out PHB.out PU.out PI.out RC.out Ra.out Rb.out hp.out hq.out la lb hm30
  · exact upsetLattice_go A B C L M m c cb cc w true true LV.out B0.out Fa.out Fb.out PMa.out PMb.out PHA.out PHB.out PU.out PI.out RC.out Ra.out Rb.out hp.out hq.out la lb hm30
end Go.Proofs.Ytlppoablhipinaa
