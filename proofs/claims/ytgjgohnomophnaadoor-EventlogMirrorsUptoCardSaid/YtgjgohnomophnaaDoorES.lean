/- Event logs: the reference's equality. -/
import Derived.Test.YtgjgohnomophnaaDoorER
namespace Go.Proofs.YtgjgohnomophnaaDoor
open Go.RowKit

theorem keepc {w w' : World} {p : Addr} {v : Value} (h : w.cell? p = some v) (hb : Below w.heap.size w w') : w'.cell? p = some v :=
  (hb.cell (World.block_lt_of_cell? w p h)).trans h
theorem at_of_reads {w : World} {A : Option Addr} {zs : List Txt} (h : ReadsS w A zs) (k : Nat) (hk : k < zs.length) : ∃ b off, A = some ⟨b, off, none⟩ ∧ w.cell? ⟨b, off + k, none⟩ = some (.string ⟨(atS zs k).toArray⟩) := by
  obtain ⟨b, off, e, _, h2⟩ := h k hk
  exact ⟨b, off, e, h2⟩
theorem txt_eq {x y : Txt} : (⟨x.toArray⟩ : ByteArray) = ⟨y.toArray⟩ ↔ x = y := by
  constructor
  · intro h
    have := congrArg (fun b : ByteArray => b.data.toList) h
    simpa using this
  · intro h; rw [h]
def sameT (a b : List Txt) : Bool := decide (a = b)
theorem sameT_at {a b : List Txt} (hl : b.length = a.length) (h : ∀ j, j < a.length → atS a j = atS b j) : sameT a b = true := by
  unfold sameT
  rw [decide_eq_true_eq]
  apply List.ext_getElem hl.symm
  intro i h1 h2
  have := h i h1
  unfold atS at this
  rwa [List.getElem?_eq_getElem h1, List.getElem?_eq_getElem h2] at this
theorem sameT_no {a b : List Txt} (j : Nat) (h : atS a j ≠ atS b j) : sameT a b = false := by
  unfold sameT
  rw [decide_eq_false_iff_not]
  rintro rfl
  exact h rfl
theorem sameT_len {a b : List Txt} (h : a.length ≠ b.length) : sameT a b = false := by
  unfold sameT
  rw [decide_eq_false_iff_not]
  rintro rfl
  exact h rfl
set_option maxHeartbeats 4000000 in
theorem rsame_any (A B : Option Addr) (a b : List Txt) (ca cb : Nat) (w : World) (ra : ReadsS w A a) (rb : ReadsS w B b) (hl : a.length ≤ 100000) :
    Calls Tryd.prog 23 #[.slice A a.length ca, .slice B b.length cb] w (BPost w.heap.size w (sameT a b)) := by
  unfold BPost
  by_cases hab : b.length = a.length
  case neg =>
    rw [sameT_len (fun h => hab h.symm)]
    have h2 : ((a.length : Int) != (b.length : Int)) = true := by simp; omega
    clear ra rb
    generalize a.length = n at *
    generalize b.length = m at *
    go_enter Tryd.func23, Tryd.ntmps23
    go_wp2
    go_ret
    exact ⟨rfl, Below.refl _ _⟩
  have SY : Hid ((∀ j, j < a.length → atS a j = atS b j) → sameT a b = true) := sameT_at hab
  have SN : Hid (∀ j, atS a j ≠ atS b j → sameT a b = false) := fun j h => sameT_no j h
  generalize sameT a b = S at *
  have RA := Lib.hid ra
  have RB := Lib.hid rb
  clear ra rb
  generalize hg : w.heap.size = g at *
  have HG := Lib.hid hg
  clear hg
  have HB := Lib.hid hab
  rw [hab]
  clear hab
  generalize hn : a.length = n at *
  have HN := Lib.hid hn
  clear hn
  have e1 : ((n : Int) != (n : Int)) = false := by simp
  go_enter Tryd.func23, Tryd.ntmps23
  go_wp2_with fail
  go_loopw [5] (fun q wr => ∃ k : Nat, k ≤ n ∧ q = .int .i64 k ∧ Hid (∀ j, j < k → atS a j = atS b j) ∧ Hid (Below g w wr)) (fun q _ => n - (intOf q).toNat)
  case atStart => exact ⟨0, by omega, rfl, fun j hj => absurd hj (by omega), Below.refl _ _⟩
  case round =>
    obtain ⟨k, hk, rfl, HM, B1⟩ := hrel
    by_cases hlt : k < n
    · obtain ⟨ba, oa, e1, hx⟩ := at_of_reads (RA.out.below B1.out (by rw [HG.out]; exact Nat.le_refl _)) k (by rw [HN.out]; exact hlt)
      subst e1
      obtain ⟨bb, ob, e2, hy⟩ := at_of_reads (RB.out.below B1.out (by rw [HG.out]; exact Nat.le_refl _)) k (by rw [HB.out]; exact hlt)
      subst e2
      have HF := Lib.hid (SN.out k)
      have HT : Hid (atS a k = atS b k → ∀ j, j < k + 1 → atS a j = atS b j) := fun h j hj => by
        by_cases e : j < k
        · exact HM.out j e
        · obtain rfl : j = k := by omega
          exact h
      clear HM
      generalize atS a k = x at *
      generalize atS b k = y at *
      by_cases z1 : x = y
      · have G := Lib.hid (HT.out z1)
        clear HT HF
        subst z1
        go_wp2_with fail
        go_quiet (fail)
        go_wp2
        go_roundw
        case rel => exact ⟨k + 1, by omega, by go_num, G, below_drewN B1.out _⟩
        case measure => simp [intOf]; omega
      · have G := Lib.hid (HF.out z1)
        clear HT HF
        have z2 : (x == y) = false := by simpa using z1
        go_wp2_with fail
        go_quiet (fail)
        go_wp2
        go_ret
        exact ⟨ret_b G.out.symm, below_drewN B1.out _⟩
    · have E := Lib.hid (SY.out fun j hj => HM.out j (by omega))
      go_wp2
      go_ret
      exact ⟨ret_b E.out.symm, B1.out⟩
def sameR (L M : List Row) : Bool := decide (rowsL L = rowsL M)
theorem sameR_len {L M : List Row} (h : L.length ≠ M.length) : sameR L M = false := by
  unfold sameR
  rw [decide_eq_false_iff_not]
  intro e
  have := congrArg List.length e
  rw [rowsL_len, rowsL_len] at this
  exact h this
theorem rows_at (L : List Row) (k : Nat) : (rowsL L)[k]?.getD [] = (rA L k).zs := by
  unfold rowsL rA
  rw [List.getElem?_map]
  cases L[k]? <;> rfl
theorem sameR_no {L M : List Row} {k : Nat} (h : sameT (rA L k).zs (rA M k).zs = false) : sameR L M = false := by
  unfold sameR
  rw [decide_eq_false_iff_not]
  intro e
  unfold sameT at h
  rw [decide_eq_false_iff_not, ← rows_at, ← rows_at, e] at h
  exact h rfl
theorem sameR_yes {L M : List Row} (hl : L.length = M.length) (h : ∀ k, k < L.length → sameT (rA L k).zs (rA M k).zs = true) : sameR L M = true := by
  unfold sameR
  rw [decide_eq_true_eq]
  apply List.ext_getElem (by rw [rowsL_len, rowsL_len, hl])
  intro i h1 h2
  have := h i (by rw [← rowsL_len]; exact h1)
  unfold sameT at this
  rw [decide_eq_true_eq, ← rows_at, ← rows_at, List.getElem?_eq_getElem h1, List.getElem?_eq_getElem h2] at this
  exact this
set_option maxHeartbeats 4000000 in
theorem requal_any (A B : Option Addr) (L M : List Row) (c cb : Nat) (w : World) (hr : ReadsL w A L) (hl : L.length ≤ 1000) (rb : ReadsL w B M) (hm : M.length ≤ 1000) :
    Calls Tryd.prog 19 #[.slice A L.length c, .slice B M.length cb] w (BPost w.heap.size w (sameR L M)) := by
  unfold BPost
  by_cases hab : L.length = M.length
  case neg =>
    rw [sameR_len hab]
    have h2 : ((L.length : Int) != (M.length : Int)) = true := by simp; omega
    clear hr rb
    generalize L.length = n at *
    generalize M.length = m at *
    go_enter Tryd.func19, Tryd.ntmps19
    go_wp2
    go_ret
    exact ⟨rfl, Below.refl _ _⟩
  have RA := Lib.hid hr
  have RB := Lib.hid rb
  clear hr rb
  have SN : Hid (∀ k, sameT (rA L k).zs (rA M k).zs = false → sameR L M = false) := fun k h => sameR_no h
  have SY : Hid ((∀ k, k < L.length → sameT (rA L k).zs (rA M k).zs = true) → sameR L M = true) := sameR_yes hab
  generalize sameR L M = S at *
  rw [← hab]
  generalize hg : w.heap.size = g at *
  have HG := Lib.hid hg
  clear hg
  have HAB := Lib.hid hab
  clear hab
  generalize hn : L.length = n at *
  have HN := Lib.hid hn
  clear hn
  have hne : ((n : Int) != (n : Int)) = false := by simp
  go_enter Tryd.func19, Tryd.ntmps19
  go_wp2_with fail
  go_loopw [5] (fun q wr => ∃ k : Nat, k ≤ n ∧ q = .int .i64 k ∧ Hid (∀ j, j < k → sameT (rA L j).zs (rA M j).zs = true) ∧ Hid (Below g w wr)) (fun q _ => n - (intOf q).toNat)
  case atStart => exact ⟨0, by omega, rfl, fun j hj => absurd hj (by omega), Below.refl _ _⟩
  case round =>
    obtain ⟨k, hk, rfl, HE, BB⟩ := hrel
    by_cases hlt : k < n
    · have hkl : k < L.length := by rw [HN.out]; exact hlt
      have hkm : k < M.length := by rw [← HAB.out]; exact hlt
      have RW := RA.out.below BB.out (by rw [HG.out]; exact Nat.le_refl _)
      have SW := RB.out.below BB.out (by rw [HG.out]; exact Nat.le_refl _)
      obtain ⟨ba, oa, e1, hx⟩ := RW.1.at k hkl
      subst e1
      obtain ⟨bb, ob, e2, hy⟩ := SW.1.at k hkm
      subst e2
      have OKx := RW.2 _ (rA_mem hkl)
      have OKy := SW.2 _ (rA_mem hkm)
      have CL : ∀ W, Below wr.heap.size wr W → Calls Tryd.prog 23 #[.slice (rA L k).A (rA L k).zs.length (rA L k).cap, .slice (rA M k).A (rA M k).zs.length (rA M k).cap] W (BPost W.heap.size W (sameT (rA L k).zs (rA M k).zs)) := fun W hW =>
        rsame_any (rA L k).A (rA M k).A (rA L k).zs (rA M k).zs (rA L k).cap (rA M k).cap W (OKx.1.below hW (Nat.le_refl _)) (OKy.1.below hW (Nat.le_refl _)) (by have := OKx.2; omega)
      have MK := Lib.hid (SN.out k)
      have HE2 : Hid (sameT (rA L k).zs (rA M k).zs = true → ∀ j, j < k + 1 → sameT (rA L j).zs (rA M j).zs = true) := fun h j hj => by
        by_cases e : j < k
        · exact HE.out j e
        · obtain rfl : j = k := by omega
          exact h
      clear RW SW OKx OKy hkl hkm
      generalize rA L k = r at *
      generalize rA M k = t at *
      obtain ⟨xA, xs, xc⟩ := r
      obtain ⟨yA, ys, yc⟩ := t
      dsimp only at *
      cases hle : sameT xs ys
      · have E := Lib.hid (MK.out hle)
        rw [hle] at CL
        have CL := Lib.hid CL
        clear HE2 MK hle
        go_upto_region 6 with fail
        refine wp_region_held_drew (S := fun w' => w'.cell? ⟨ba, oa + k, none⟩ = some (.slice xA xs.length xc) ∧ w'.cell? ⟨bb, ob + k, none⟩ = some (.slice yA ys.length yc) ∧ Hid (Below wr.heap.size wr w')) (by kernel_rfl) ?_ (fun hHeld => ?_)
        · exact ⟨hx, hy, (Below.refl _ _).drew⟩
        refine wpAnyH_take (oi := ⟨_, _, _, _, _, _⟩) (i := 0) (v := ?_) rfl (by kernel_rfl) (by kernel_rfl) (by kernel_rfl) (fun _ _ _ h => h) (Or.inl ⟨by rfl, ?ya0⟩) (by assumption) ?ra0
        case ya0 => (intro w hSw; (try dsimp only at hSw); go_simp; (try with_reducible rfl))
        try simp only [Act.put, List.setIfInBounds_toArray, List.set_cons_zero, List.set_cons_succ]
        refine wpAnyH_take (oi := ⟨_, _, _, _, _, _⟩) (i := 1) (v := ?_) rfl (by kernel_rfl) (by kernel_rfl) (by kernel_rfl) (fun _ _ _ h => h) (Or.inl ⟨by rfl, ?ya1⟩) (by assumption) ?ra1
        case ya1 => (intro w hSw; (try dsimp only at hSw); go_simp; (try with_reducible rfl))
        try simp only [Act.put, List.setIfInBounds_toArray, List.set_cons_zero, List.set_cons_succ]
        refine wpAnyH_take (oi := ⟨_, _, _, _, _, _⟩) (i := 2) (v := ?_) rfl (by kernel_rfl) (by kernel_rfl) (by kernel_rfl) (fun _ _ _ h => h) (Or.inl ⟨by rfl, ?ya2⟩) (by assumption) ?ra2
        case ya2 => (intro w hSw; (try dsimp only at hSw); go_simp; (try with_reducible rfl))
        try simp only [Act.put, List.setIfInBounds_toArray, List.set_cons_zero, List.set_cons_succ]
        refine wpAnyH_take (oi := ⟨_, _, _, _, _, _⟩) (i := 3) (v := ?_) rfl (by kernel_rfl) (by kernel_rfl) (by kernel_rfl) (fun _ _ _ h => h) (Or.inl ⟨by rfl, ?ya3⟩) (by assumption) ?ra3
        case ya3 => (intro w hSw; (try dsimp only at hSw); go_simp; (try with_reducible rfl))
        try simp only [Act.put, List.setIfInBounds_toArray, List.set_cons_zero, List.set_cons_succ]
        refine wpAnyH_take (oi := ⟨_, _, _, _, _, _⟩) (i := 4) (v := ?_) rfl (by kernel_rfl) (by kernel_rfl) (by kernel_rfl) (fun _ _ _ h => h) (Or.inl ⟨by rfl, ?ya4⟩) (by assumption) ?ra4
        case ya4 => (intro w hSw; (try dsimp only at hSw); go_simp; (try with_reducible rfl))
        try simp only [Act.put, List.setIfInBounds_toArray, List.set_cons_zero, List.set_cons_succ]
        refine wpAnyH_take (oi := ⟨_, _, _, _, _, _⟩) (i := 5) (v := ?_) rfl (by kernel_rfl) (by kernel_rfl) (by kernel_rfl) (fun _ _ _ h => h) (Or.inl ⟨by rfl, ?ya5⟩) (by assumption) ?ra5
        case ya5 => (intro w hSw; (try dsimp only at hSw); go_simp; (try with_reducible rfl))
        try simp only [Act.put, List.setIfInBounds_toArray, List.set_cons_zero, List.set_cons_succ]
        refine wpAnyH_take (oi := ⟨_, _, _, _, _, _⟩) (i := 6) (v := ?_) rfl (by kernel_rfl) (by kernel_rfl) (by kernel_rfl) (fun _ _ _ h => h) (Or.inl ⟨by rfl, ?ya6⟩) (by assumption) ?ra6
        case ya6 => (intro w hSw; (try dsimp only at hSw); go_simp; (try with_reducible rfl))
        try simp only [Act.put, List.setIfInBounds_toArray, List.set_cons_zero, List.set_cons_succ]
        refine wpAnyH_take (oi := ⟨_, _, _, _, _, _⟩) (i := 7) (v := ?_) rfl (by kernel_rfl) (by kernel_rfl) (by kernel_rfl) (fun _ _ _ h => h) (Or.inl ⟨by rfl, ?ya7⟩) (by assumption) ?ra7
        case ya7 => (intro w hSw; (try dsimp only at hSw); go_simp; (try with_reducible rfl))
        try simp only [Act.put, List.setIfInBounds_toArray, List.set_cons_zero, List.set_cons_succ]
        refine wpAnyH_ready (rs := [8]) (by kernel_rfl) (by simp) ?_
        refine AllReadyH.cons (o := ⟨_, _, _, _, _, _⟩) rfl (fun K hK => ?_) AllReadyH.nil
        go_simp
        go_at_call 23; refine (CL.out _ hHeld.2.2.out).mono ?_; rintro e w3 ⟨rfl, K⟩; (try go_wp2_with fail)
        refine hK.out _ _ ?_ (fun hHeld2 => ?_)
        · exact ⟨keepc hHeld.1 K, keepc hHeld.2.1 K, hHeld.2.2.out.trans (K.mono hHeld.2.2.out.size)⟩
        clear hK K hHeld
        have hHeld := hHeld2
        clear hHeld2
        try simp only [Act.put, List.setIfInBounds_toArray, List.set_cons_zero, List.set_cons_succ]
        refine wpAnyH_take (oi := ⟨_, _, _, _, _, _⟩) (i := 9) (v := ?_) rfl (by kernel_rfl) (by kernel_rfl) (by kernel_rfl) (fun _ _ _ h => h) (Or.inl ⟨by rfl, ?ya9⟩) (by assumption) ?ra9
        case ya9 => (intro w hSw; (try dsimp only at hSw); go_simp; (try with_reducible rfl))
        try simp only [Act.put, List.setIfInBounds_toArray, List.set_cons_zero, List.set_cons_succ]
        refine wpAnyH_done (by kernel_rfl) ?_ _
        have B3 := Lib.hid (BB.out.trans (hHeld.2.2.out.mono (by rw [← HG.out]; exact BB.out.size)))
        clear hHeld K CL hx hy
        go_wp2
        go_ret
        exact ⟨by rw [E.out]; rfl, B3.out⟩
      · have HE3 := Lib.hid (HE2.out hle)
        rw [hle] at CL
        have CL := Lib.hid CL
        clear HE2 MK hle
        go_upto_region 6 with fail
        refine wp_region_held_drew (S := fun w' => w'.cell? ⟨ba, oa + k, none⟩ = some (.slice xA xs.length xc) ∧ w'.cell? ⟨bb, ob + k, none⟩ = some (.slice yA ys.length yc) ∧ Hid (Below wr.heap.size wr w')) (by kernel_rfl) ?_ (fun hHeld => ?_)
        · exact ⟨hx, hy, (Below.refl _ _).drew⟩
        refine wpAnyH_take (oi := ⟨_, _, _, _, _, _⟩) (i := 0) (v := ?_) rfl (by kernel_rfl) (by kernel_rfl) (by kernel_rfl) (fun _ _ _ h => h) (Or.inl ⟨by rfl, ?yb0⟩) (by assumption) ?rb0
        case yb0 => (intro w hSw; (try dsimp only at hSw); go_simp; (try with_reducible rfl))
        try simp only [Act.put, List.setIfInBounds_toArray, List.set_cons_zero, List.set_cons_succ]
        refine wpAnyH_take (oi := ⟨_, _, _, _, _, _⟩) (i := 1) (v := ?_) rfl (by kernel_rfl) (by kernel_rfl) (by kernel_rfl) (fun _ _ _ h => h) (Or.inl ⟨by rfl, ?yb1⟩) (by assumption) ?rb1
        case yb1 => (intro w hSw; (try dsimp only at hSw); go_simp; (try with_reducible rfl))
        try simp only [Act.put, List.setIfInBounds_toArray, List.set_cons_zero, List.set_cons_succ]
        refine wpAnyH_take (oi := ⟨_, _, _, _, _, _⟩) (i := 2) (v := ?_) rfl (by kernel_rfl) (by kernel_rfl) (by kernel_rfl) (fun _ _ _ h => h) (Or.inl ⟨by rfl, ?yb2⟩) (by assumption) ?rb2
        case yb2 => (intro w hSw; (try dsimp only at hSw); go_simp; (try with_reducible rfl))
        try simp only [Act.put, List.setIfInBounds_toArray, List.set_cons_zero, List.set_cons_succ]
        refine wpAnyH_take (oi := ⟨_, _, _, _, _, _⟩) (i := 3) (v := ?_) rfl (by kernel_rfl) (by kernel_rfl) (by kernel_rfl) (fun _ _ _ h => h) (Or.inl ⟨by rfl, ?yb3⟩) (by assumption) ?rb3
        case yb3 => (intro w hSw; (try dsimp only at hSw); go_simp; (try with_reducible rfl))
        try simp only [Act.put, List.setIfInBounds_toArray, List.set_cons_zero, List.set_cons_succ]
        refine wpAnyH_take (oi := ⟨_, _, _, _, _, _⟩) (i := 4) (v := ?_) rfl (by kernel_rfl) (by kernel_rfl) (by kernel_rfl) (fun _ _ _ h => h) (Or.inl ⟨by rfl, ?yb4⟩) (by assumption) ?rb4
        case yb4 => (intro w hSw; (try dsimp only at hSw); go_simp; (try with_reducible rfl))
        try simp only [Act.put, List.setIfInBounds_toArray, List.set_cons_zero, List.set_cons_succ]
        refine wpAnyH_take (oi := ⟨_, _, _, _, _, _⟩) (i := 5) (v := ?_) rfl (by kernel_rfl) (by kernel_rfl) (by kernel_rfl) (fun _ _ _ h => h) (Or.inl ⟨by rfl, ?yb5⟩) (by assumption) ?rb5
        case yb5 => (intro w hSw; (try dsimp only at hSw); go_simp; (try with_reducible rfl))
        try simp only [Act.put, List.setIfInBounds_toArray, List.set_cons_zero, List.set_cons_succ]
        refine wpAnyH_take (oi := ⟨_, _, _, _, _, _⟩) (i := 6) (v := ?_) rfl (by kernel_rfl) (by kernel_rfl) (by kernel_rfl) (fun _ _ _ h => h) (Or.inl ⟨by rfl, ?yb6⟩) (by assumption) ?rb6
        case yb6 => (intro w hSw; (try dsimp only at hSw); go_simp; (try with_reducible rfl))
        try simp only [Act.put, List.setIfInBounds_toArray, List.set_cons_zero, List.set_cons_succ]
        refine wpAnyH_take (oi := ⟨_, _, _, _, _, _⟩) (i := 7) (v := ?_) rfl (by kernel_rfl) (by kernel_rfl) (by kernel_rfl) (fun _ _ _ h => h) (Or.inl ⟨by rfl, ?yb7⟩) (by assumption) ?rb7
        case yb7 => (intro w hSw; (try dsimp only at hSw); go_simp; (try with_reducible rfl))
        try simp only [Act.put, List.setIfInBounds_toArray, List.set_cons_zero, List.set_cons_succ]
        refine wpAnyH_ready (rs := [8]) (by kernel_rfl) (by simp) ?_
        refine AllReadyH.cons (o := ⟨_, _, _, _, _, _⟩) rfl (fun K hK => ?_) AllReadyH.nil
        go_simp
        go_at_call 23; refine (CL.out _ hHeld.2.2.out).mono ?_; rintro e w3 ⟨rfl, K⟩; (try go_wp2_with fail)
        refine hK.out _ _ ?_ (fun hHeld2 => ?_)
        · exact ⟨keepc hHeld.1 K, keepc hHeld.2.1 K, hHeld.2.2.out.trans (K.mono hHeld.2.2.out.size)⟩
        clear hK K hHeld
        have hHeld := hHeld2
        clear hHeld2
        try simp only [Act.put, List.setIfInBounds_toArray, List.set_cons_zero, List.set_cons_succ]
        refine wpAnyH_take (oi := ⟨_, _, _, _, _, _⟩) (i := 9) (v := ?_) rfl (by kernel_rfl) (by kernel_rfl) (by kernel_rfl) (fun _ _ _ h => h) (Or.inl ⟨by rfl, ?yb9⟩) (by assumption) ?rb9
        case yb9 => (intro w hSw; (try dsimp only at hSw); go_simp; (try with_reducible rfl))
        try simp only [Act.put, List.setIfInBounds_toArray, List.set_cons_zero, List.set_cons_succ]
        refine wpAnyH_done (by kernel_rfl) ?_ _
        have B3 := Lib.hid (BB.out.trans (hHeld.2.2.out.mono (by rw [← HG.out]; exact BB.out.size)))
        clear hHeld K CL hx hy
        go_wp2
        go_roundw
        case rel => exact ⟨k + 1, by omega, by go_num, HE3, B3⟩
        case measure => simp [intOf]; omega
    · obtain rfl : k = n := by omega
      have E := Lib.hid (SY.out HE.out)
      go_wp2
      go_ret
      exact ⟨by rw [E.out]; rfl, BB.out⟩
end Go.Proofs.YtgjgohnomophnaaDoor
