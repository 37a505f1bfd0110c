/- Event logs: the reference's First and Last. -/
import Derived.Test.YtgjgohnomophnaaDoorRA
namespace Go.Proofs.YtgjgohnomophnaaDoor
open Go.RowKit

def pickK (f : List Txt → Txt) (R : List (List Txt)) : Nat → List Txt
  | 0 => []
  | j + 1 => if (R[j]?.getD []).length = 0 then pickK f R j else insT (pickK f R j) (f (R[j]?.getD []))
def firT (x : List Txt) : Txt := atS x 0
def lasT (x : List Txt) : Txt := atS x (x.length - 1)
def firV (R : List (List Txt)) : List Txt := pickK firT R R.length
def lasV (R : List (List Txt)) : List Txt := pickK lasT R R.length
theorem pickK_len (f : List Txt → Txt) (R : List (List Txt)) : ∀ j, (pickK f R j).length ≤ j
  | 0 => Nat.le_refl _
  | j + 1 => by
    have h := pickK_len f R j
    rw [pickK]
    split
    · omega
    · have h2 := insT_len (pickK f R j) (f (R[j]?.getD []))
      omega

set_option maxHeartbeats 4000000 in
set_option maxRecDepth 100000 in
theorem rfirst_any (A : Option Addr) (L : List Row) (c : Nat) (w : World) (hr : ReadsL w A L) (hf : FewP L) :
    Calls Tryd.prog 27 #[.slice A L.length c] w (InsPost w.heap.size w (firV (rowsL L))) := by
  have hl := hf.1
  have RA := Lib.hid hr
  have HS0 : Hid (∀ j, (rA L j).zs.length = 0 → pickK firT (rowsL L) (j + 1) = pickK firT (rowsL L) j) := fun j h => by
    show _ = _
    rw [pickK, rows_at, if_pos h]
  have HS1 : Hid (∀ j, (rA L j).zs.length ≠ 0 → pickK firT (rowsL L) (j + 1) = insT (pickK firT (rowsL L) j) (atS (rA L j).zs 0)) := fun j h => by
    show _ = _
    rw [pickK, rows_at, if_neg h]
    rfl
  have HL := Lib.hid (pickK_len firT (rowsL L))
  have HV : Hid (pickK firT (rowsL L) L.length = firV (rowsL L)) := by show _ = _; unfold firV; rw [rowsL_len]
  have H80 : Hid (∀ j, j < L.length → (rA L j).zs.length ≤ 80) := fun j hj => (hf.2.1 j hj).1
  have HK0 : Hid (pickK firT (rowsL L) 0 = []) := rfl
  clear hf hr
  generalize firV (rowsL L) = V at *
  generalize pickK firT (rowsL L) = ak at *
  go_enter Tryd.func27, Tryd.ntmps27
  go_wp2
  go_loopg [3, 4] L.length (fun gg v q wr => ∃ (j : Nat) (B : Option Addr) (cb : Nat), gg = L.length - j ∧ j ≤ L.length ∧ v = .slice B (ak j).length cb ∧ q = .int .i64 j ∧ Hid (ReadsS wr B (ak j)) ∧ Hid (Below w.heap.size w wr))
  case atStart => exact ⟨0, none, 0, rfl, Nat.zero_le _, by rw [HK0.out]; rfl, rfl, by rw [HK0.out]; exact ReadsS.nil _ _, Below.refl _ _⟩
  case round =>
    obtain ⟨j, B, cb, hgg, hj, rfl, rfl, RB, B1⟩ := hrel
    have gs := B1.out.size
    by_cases hlt : j < L.length
    · obtain ⟨bo, oo, rfl, hx1⟩ := RA.out.1.at j hlt
      have hbo : bo < w.heap.size := by
        obtain ⟨_, _, e, h, _⟩ := RA.out.1 j hlt
        cases e; exact h
      have q0 := (B1.out.cell (p := ⟨bo, oo + j, none⟩) hbo).trans hx1
      have OK := RA.out.2 _ (rA_mem hlt)
      have h80 := H80.out j hlt
      have hS0 := HS0.out j
      have hS1 := HS1.out j
      have hLj := HL.out j
      generalize rA L j = r at *
      obtain ⟨xA, xs, xc⟩ := r
      dsimp only at *
      have R2 := Lib.hid OK.1
      clear OK hx1
      by_cases hz : xs.length = 0
      · have hS := Lib.hid (hS0 hz)
        obtain rfl : xs = [] := List.eq_nil_of_length_eq_zero hz
        clear hS0 hS1 hz
        go_wp2
        go_roundg (L.length - (j + 1))
        case rel => exact ⟨j + 1, B, cb, rfl, by omega, by rw [hS.out], by go_num, by rw [hS.out]; exact RB.out, B1⟩
        case measure => omega
      · have hS := Lib.hid (hS1 hz)
        have ez : ((0 : Int) < (xs.length : Int)) = True := by rw [eq_iff_iff, iff_true]; omega
        have hpos : 0 < xs.length := by omega
        have hne : xs ≠ [] := List.length_pos_iff.1 hpos
        have hix : 0 < xs.length := by omega
        obtain ⟨b1, o1, rfl, h1⟩ := at_of_reads R2.out 0 hix
        have hb1 : b1 < w.heap.size := by
          obtain ⟨_, _, e, h, _⟩ := R2.out 0 hix
          cases e; exact h
        have q1 : wr.cell? ⟨b1, o1, none⟩ = some (.string ⟨(atS xs 0).toArray⟩) := (B1.out.cell (p := ⟨b1, o1 + 0, none⟩) hb1).trans h1
        have CI := Lib.hid (fun W (h : Below wr.heap.size wr W) => rinsert_any B (ak j) cb (atS xs 0) W (RB.out.below h (Nat.le_refl _)) (by omega))
        rw [← hS.out] at CI
        clear hS0 hS1 hz h1 hix
        generalize atS xs 0 = y at *
        go_wp2_with fail
        refine (CI.out wr (Below.refl _ _)).mono ?_
        rintro e w5 ⟨B5, c5, rfl, R5, K5⟩
        have B6 : Hid (Below w.heap.size w w5) := B1.out.trans (K5.mono gs)
        replace R5 := Lib.hid R5
        clear K5 CI
        go_wp2
        go_roundg (L.length - (j + 1))
        case rel => exact ⟨j + 1, B5, c5, rfl, by omega, rfl, by go_num, R5, B6⟩
        case measure => omega
    · obtain rfl : j = L.length := by omega
      go_wp2
      go_ret
      exact ⟨B, cb, by rw [← HV.out]; rfl, by rw [← HV.out]; exact RB.out, B1.out⟩

set_option maxHeartbeats 4000000 in
set_option maxRecDepth 100000 in
theorem rlast_any (A : Option Addr) (L : List Row) (c : Nat) (w : World) (hr : ReadsL w A L) (hf : FewP L) :
    Calls Tryd.prog 29 #[.slice A L.length c] w (InsPost w.heap.size w (lasV (rowsL L))) := by
  have hl := hf.1
  have RA := Lib.hid hr
  have HS0 : Hid (∀ j, (rA L j).zs.length = 0 → pickK lasT (rowsL L) (j + 1) = pickK lasT (rowsL L) j) := fun j h => by
    show _ = _
    rw [pickK, rows_at, if_pos h]
  have HS1 : Hid (∀ j, (rA L j).zs.length ≠ 0 → pickK lasT (rowsL L) (j + 1) = insT (pickK lasT (rowsL L) j) (atS (rA L j).zs ((rA L j).zs.length - 1))) := fun j h => by
    show _ = _
    rw [pickK, rows_at, if_neg h]
    rfl
  have HL := Lib.hid (pickK_len lasT (rowsL L))
  have HV : Hid (pickK lasT (rowsL L) L.length = lasV (rowsL L)) := by show _ = _; unfold lasV; rw [rowsL_len]
  have H80 : Hid (∀ j, j < L.length → (rA L j).zs.length ≤ 80) := fun j hj => (hf.2.1 j hj).1
  have HK0 : Hid (pickK lasT (rowsL L) 0 = []) := rfl
  clear hf hr
  generalize lasV (rowsL L) = V at *
  generalize pickK lasT (rowsL L) = ak at *
  go_enter Tryd.func29, Tryd.ntmps29
  go_wp2
  go_loopg [3, 4] L.length (fun gg v q wr => ∃ (j : Nat) (B : Option Addr) (cb : Nat), gg = L.length - j ∧ j ≤ L.length ∧ v = .slice B (ak j).length cb ∧ q = .int .i64 j ∧ Hid (ReadsS wr B (ak j)) ∧ Hid (Below w.heap.size w wr))
  case atStart => exact ⟨0, none, 0, rfl, Nat.zero_le _, by rw [HK0.out]; rfl, rfl, by rw [HK0.out]; exact ReadsS.nil _ _, Below.refl _ _⟩
  case round =>
    obtain ⟨j, B, cb, hgg, hj, rfl, rfl, RB, B1⟩ := hrel
    have gs := B1.out.size
    by_cases hlt : j < L.length
    · obtain ⟨bo, oo, rfl, hx1⟩ := RA.out.1.at j hlt
      have hbo : bo < w.heap.size := by
        obtain ⟨_, _, e, h, _⟩ := RA.out.1 j hlt
        cases e; exact h
      have q0 := (B1.out.cell (p := ⟨bo, oo + j, none⟩) hbo).trans hx1
      have OK := RA.out.2 _ (rA_mem hlt)
      have h80 := H80.out j hlt
      have hS0 := HS0.out j
      have hS1 := HS1.out j
      have hLj := HL.out j
      generalize rA L j = r at *
      obtain ⟨xA, xs, xc⟩ := r
      dsimp only at *
      have R2 := Lib.hid OK.1
      clear OK hx1
      by_cases hz : xs.length = 0
      · have hS := Lib.hid (hS0 hz)
        obtain rfl : xs = [] := List.eq_nil_of_length_eq_zero hz
        clear hS0 hS1 hz
        go_wp2
        go_roundg (L.length - (j + 1))
        case rel => exact ⟨j + 1, B, cb, rfl, by omega, by rw [hS.out], by go_num, by rw [hS.out]; exact RB.out, B1⟩
        case measure => omega
      · have hS := Lib.hid (hS1 hz)
        have ez : ((0 : Int) < (xs.length : Int)) = True := by rw [eq_iff_iff, iff_true]; omega
        have hpos : 0 < xs.length := by omega
        have hne : xs ≠ [] := List.length_pos_iff.1 hpos
        have hix : (xs.length - 1) < xs.length := by omega
        obtain ⟨b1, o1, rfl, h1⟩ := at_of_reads R2.out (xs.length - 1) hix
        have hb1 : b1 < w.heap.size := by
          obtain ⟨_, _, e, h, _⟩ := R2.out (xs.length - 1) hix
          cases e; exact h
        have q1 : wr.cell? ⟨b1, o1 + (xs.length - 1), none⟩ = some (.string ⟨(atS xs (xs.length - 1)).toArray⟩) := (B1.out.cell (p := ⟨b1, o1 + (xs.length - 1), none⟩) hb1).trans h1
        have CI := Lib.hid (fun W (h : Below wr.heap.size wr W) => rinsert_any B (ak j) cb (atS xs (xs.length - 1)) W (RB.out.below h (Nat.le_refl _)) (by omega))
        rw [← hS.out] at CI
        clear hS0 hS1 hz h1 hix
        generalize atS xs (xs.length - 1) = y at *
        obtain ⟨m, hm⟩ : ∃ m, xs.length = m + 1 := ⟨xs.length - 1, by omega⟩
        rw [show xs.length - 1 = m by omega] at q1
        rw [hm] at q0 ez
        have hm80 : m ≤ 79 := by omega
        have hmm : ((m : Int) < (m : Int) + 1) = True := by rw [eq_iff_iff, iff_true]; omega
        have hwr : IntKind.i64.wrap (m : Int) = (m : Int) := by rw [IntKind.wrap_i64]; omega
        clear hpos hm hne
        have ez2 : (0 : Int) < (m : Int) + 1 := by omega
        go_upto_region 6 with fail
        refine wp_region_held_drew (S := fun w' => w'.cell? ⟨bo, oo + j, none⟩ = some (.slice (some ⟨b1, o1, none⟩) (m + 1) xc) ∧ w'.cell? ⟨b1, o1 + m, none⟩ = some (.string ⟨y.toArray⟩) ∧ Hid (Below wr.heap.size wr w')) (by kernel_rfl) ?_ (fun hHeld => ?_)
        · exact ⟨q0, q1, (Below.refl _ _).drew⟩
        refine wpAnyH_take (oi := ⟨_, _, _, _, _, _⟩) (i := 0) (v := ?_) rfl (by kernel_rfl) (by kernel_rfl) (by kernel_rfl) (fun _ _ _ h => h) (Or.inl ⟨by rfl, ?ya0⟩) (by assumption) ?ra0
        case ya0 => (intro w hSw; (try dsimp only at hSw); go_simp; (try with_reducible rfl))
        try simp only [Act.put, List.setIfInBounds_toArray, List.set_cons_zero, List.set_cons_succ]
        refine wpAnyH_take (oi := ⟨_, _, _, _, _, _⟩) (i := 1) (v := ?_) rfl (by kernel_rfl) (by kernel_rfl) (by kernel_rfl) (fun _ _ _ h => h) (Or.inl ⟨by rfl, ?ya1⟩) (by assumption) ?ra1
        case ya1 => (intro w hSw; (try dsimp only at hSw); go_simp; (try with_reducible rfl))
        try simp only [Act.put, List.setIfInBounds_toArray, List.set_cons_zero, List.set_cons_succ]
        refine wpAnyH_take (oi := ⟨_, _, _, _, _, _⟩) (i := 2) (v := ?_) rfl (by kernel_rfl) (by kernel_rfl) (by kernel_rfl) (fun _ _ _ h => h) (Or.inl ⟨by rfl, ?ya2⟩) (by assumption) ?ra2
        case ya2 => (intro w hSw; (try dsimp only at hSw); go_simp; (try with_reducible rfl))
        try simp only [Act.put, List.setIfInBounds_toArray, List.set_cons_zero, List.set_cons_succ]
        refine wpAnyH_take (oi := ⟨_, _, _, _, _, _⟩) (i := 3) (v := ?_) rfl (by kernel_rfl) (by kernel_rfl) (by kernel_rfl) (fun _ _ _ h => h) (Or.inl ⟨by rfl, ?ya3⟩) (by assumption) ?ra3
        case ya3 => (intro w hSw; (try dsimp only at hSw); go_simp; (try with_reducible rfl))
        try simp only [Act.put, List.setIfInBounds_toArray, List.set_cons_zero, List.set_cons_succ]
        refine wpAnyH_take (oi := ⟨_, _, _, _, _, _⟩) (i := 4) (v := ?_) rfl (by kernel_rfl) (by kernel_rfl) (by kernel_rfl) (fun _ _ _ h => h) (Or.inl ⟨by rfl, ?ya4⟩) (by assumption) ?ra4
        case ya4 => (intro w hSw; (try dsimp only at hSw); go_simp; (try with_reducible rfl))
        try simp only [Act.put, List.setIfInBounds_toArray, List.set_cons_zero, List.set_cons_succ]
        refine wpAnyH_take (oi := ⟨_, _, _, _, _, _⟩) (i := 5) (v := ?_) rfl (by kernel_rfl) (by kernel_rfl) (by kernel_rfl) (fun _ _ _ h => h) (Or.inl ⟨by rfl, ?ya5⟩) (by assumption) ?ra5
        case ya5 => (intro w hSw; (try dsimp only at hSw); go_simp; (try with_reducible rfl))
        try simp only [Act.put, List.setIfInBounds_toArray, List.set_cons_zero, List.set_cons_succ]
        refine wpAnyH_take (oi := ⟨_, _, _, _, _, _⟩) (i := 6) (v := ?_) rfl (by kernel_rfl) (by kernel_rfl) (by kernel_rfl) (fun _ _ _ h => h) (Or.inl ⟨by rfl, ?ya6⟩) (by assumption) ?ra6
        case ya6 => (intro w hSw; (try dsimp only at hSw); go_simp; (try with_reducible rfl))
        try simp only [Act.put, List.setIfInBounds_toArray, List.set_cons_zero, List.set_cons_succ]
        refine wpAnyH_take (oi := ⟨_, _, _, _, _, _⟩) (i := 7) (v := ?_) rfl (by kernel_rfl) (by kernel_rfl) (by kernel_rfl) (fun _ _ _ h => h) (Or.inl ⟨by rfl, ?ya7⟩) (by assumption) ?ra7
        case ya7 => (intro w hSw; (try dsimp only at hSw); go_simp; (try with_reducible rfl))
        try simp only [Act.put, List.setIfInBounds_toArray, List.set_cons_zero, List.set_cons_succ]
        refine wpAnyH_take (oi := ⟨_, _, _, _, _, _⟩) (i := 8) (v := ?_) rfl (by kernel_rfl) (by kernel_rfl) (by kernel_rfl) (fun _ _ _ h => h) (Or.inl ⟨by rfl, ?ya8⟩) (by assumption) ?ra8
        case ya8 => (intro w hSw; (try dsimp only at hSw); go_simp; (try with_reducible rfl))
        try simp only [Act.put, List.setIfInBounds_toArray, List.set_cons_zero, List.set_cons_succ]
        refine wpAnyH_take (oi := ⟨_, _, _, _, _, _⟩) (i := 9) (v := ?_) rfl (by kernel_rfl) (by kernel_rfl) (by kernel_rfl) (fun _ _ _ h => h) (Or.inl ⟨by rfl, ?ya9⟩) (by assumption) ?ra9
        case ya9 => (intro w hSw; (try dsimp only at hSw); go_simp; (try with_reducible rfl))
        try simp only [Act.put, List.setIfInBounds_toArray, List.set_cons_zero, List.set_cons_succ]
        refine wpAnyH_take (oi := ⟨_, _, _, _, _, _⟩) (i := 10) (v := ?_) rfl (by kernel_rfl) (by kernel_rfl) (by kernel_rfl) (fun _ _ _ h => h) (Or.inl ⟨by rfl, ?ya10⟩) (by assumption) ?ra10
        case ya10 => (intro w hSw; (try dsimp only at hSw); go_simp; (try with_reducible rfl))
        try simp only [Act.put, List.setIfInBounds_toArray, List.set_cons_zero, List.set_cons_succ]
        refine wpAnyH_take (oi := ⟨_, _, _, _, _, _⟩) (i := 11) (v := ?_) rfl (by kernel_rfl) (by kernel_rfl) (by kernel_rfl) (fun _ _ _ h => h) (Or.inl ⟨by rfl, ?ya11⟩) (by assumption) ?ra11
        case ya11 => (intro w hSw; (try dsimp only at hSw); go_simp; (try with_reducible rfl))
        try simp only [Act.put, List.setIfInBounds_toArray, List.set_cons_zero, List.set_cons_succ]
        refine wpAnyH_take (oi := ⟨_, _, _, _, _, _⟩) (i := 12) (v := ?_) rfl (by kernel_rfl) (by kernel_rfl) (by kernel_rfl) (fun _ _ _ h => h) (Or.inl ⟨by rfl, ?ya12⟩) (by assumption) ?ra12
        case ya12 => (intro w hSw; (try dsimp only at hSw); go_simp; (try with_reducible rfl))
        try simp only [Act.put, List.setIfInBounds_toArray, List.set_cons_zero, List.set_cons_succ]
        refine wpAnyH_ready (rs := [13]) (by kernel_rfl) (by simp) ?_
        refine AllReadyH.cons (o := ⟨_, _, _, _, _, _⟩) rfl (fun K hK => ?_) AllReadyH.nil
        go_simp
        go_at_call 50; refine (CI.out _ hHeld.2.2.out).mono ?_; rintro e w5 ⟨B5, c5, rfl, R5, K5⟩; (try go_wp2_with fail)
        refine hK.out _ _ ?_ (fun hHeld2 => ?_)
        · exact ⟨keepc hHeld.1 K5, keepc hHeld.2.1 K5, hHeld.2.2.out.trans (K5.mono hHeld.2.2.out.size)⟩
        have R6 := Lib.hid R5
        clear hK K5 hHeld
        have hHeld := hHeld2
        clear hHeld2
        try simp only [Act.put, List.setIfInBounds_toArray, List.set_cons_zero, List.set_cons_succ]
        refine wpAnyH_take (oi := ⟨_, _, _, _, _, _⟩) (i := 14) (v := ?_) rfl (by kernel_rfl) (by kernel_rfl) (by kernel_rfl) (fun _ _ _ h => h) (Or.inl ⟨by rfl, ?ya14⟩) (by assumption) ?ra14
        case ya14 => (intro w hSw; (try dsimp only at hSw); go_simp; (try with_reducible rfl))
        try simp only [Act.put, List.setIfInBounds_toArray, List.set_cons_zero, List.set_cons_succ]
        refine wpAnyH_done (by kernel_rfl) ?_ _
        have B6 : Hid (Below w.heap.size w w5) := B1.out.trans (hHeld.2.2.out.mono gs)
        have R5 := R6
        clear hHeld CI
        go_wp2
        go_roundg (L.length - (j + 1))
        case rel => exact ⟨j + 1, B5, c5, rfl, by omega, rfl, by go_num, R5, B6⟩
        case measure => omega
    · obtain rfl : j = L.length := by omega
      go_wp2
      go_ret
      exact ⟨B, cb, by rw [← HV.out]; rfl, by rw [← HV.out]; exact RB.out, B1.out⟩
end Go.Proofs.YtgjgohnomophnaaDoor
