/- Event logs: Check of both. -/
import Derived.Test.YtgjgohnomophnaaDoorEF
namespace Go.Proofs.YtgjgohnomophnaaDoor
open Go.RowKit

/-- the errno of a trace, and the fault of a log -/
def rowE (x : List Txt) : Int := if 64 < x.length then 2 else if x.all nmB then 0 else 5
def chkR : List (List Txt) → Nat → Int × Nat
  | [], _ => (0, 0)
  | x :: r, k => if rowE x ≠ 0 then (rowE x, k) else chkR r (k + 1)
def chkL (R : List (List Txt)) : Int × Nat := if 64 < R.length then (2, 0) else chkR R 0
theorem rowE_long {x : List Txt} (h : 64 < x.length) : rowE x = 2 := by unfold rowE; rw [if_pos h]
theorem rowE_bad {x : List Txt} (h : ¬ 64 < x.length) (j : Nat) (hj : j < x.length) (hb : nmB (atS x j) = false) : rowE x = 5 := by
  unfold rowE; rw [if_neg h, if_neg (by rw [all_no j hj hb]; simp)]
theorem rowE_ok {x : List Txt} (h : ¬ 64 < x.length) (ha : ∀ j, j < x.length → nmB (atS x j) = true) : rowE x = 0 := by
  unfold rowE; rw [if_neg h, if_pos (all_at ha)]
theorem drop_row {L : List Row} {j : Nat} (h : j < L.length) : (rowsL L).drop j = (rA L j).zs :: (rowsL L).drop (j + 1) := by
  rw [List.drop_eq_getElem_cons (by rw [rowsL_len]; exact h), rA_get h]
def InvC (L : List Row) (r : Int × Nat) (j : Nat) : Prop := r = chkR ((rowsL L).drop j) j
theorem InvC.bad {L : List Row} {r : Int × Nat} {j : Nat} (h : InvC L r j) (hj : j < L.length) {e : Int} (he : rowE (rA L j).zs = e) (hn : e ≠ 0) : r = (e, j) := by
  unfold InvC at h
  rw [h, drop_row hj, chkR, if_pos (by rw [he]; exact hn), he]
theorem InvC.step {L : List Row} {r : Int × Nat} {j : Nat} (h : InvC L r j) (hj : j < L.length) (he : rowE (rA L j).zs = 0) : InvC L r (j + 1) := by
  unfold InvC at h ⊢
  rw [h, drop_row hj, chkR, if_neg (by rw [he]; simp)]
theorem InvC.done {L : List Row} {r : Int × Nat} {j : Nat} (h : InvC L r j) (hj : ¬ j < L.length) : r = (0, 0) := by
  unfold InvC at h
  rw [h, List.drop_of_length_le (by rw [rowsL_len]; omega)]
  rfl
def FPost (g : Nat) (w : World) (r : Int × Nat) (e : Ending) (w' : World) : Prop := e = .returned (flt r.1 r.2) ∧ Below g w w'
theorem fpost_of {g : Nat} {w W : World} {r : Int × Nat} {e : Int} {k : Nat} (h : r = (e, k)) (hb : Below g w W) : FPost g w r (.returned (.agg #[.int .i64 e, .int .i64 (k : Int)])) W := by
  subst h
  exact ⟨rfl, hb⟩

set_option maxHeartbeats 4000000 in
set_option maxRecDepth 100000 in
theorem check_log (A : Option Addr) (L : List Row) (c : Nat) (w : World) (hr : ReadsL w A L) (hl : L.length ≤ 1000) (hx : ∀ j i, j < L.length → i < (rA L j).zs.length → (atS (rA L j).zs i).length ≤ 100000) :
    Calls Tryd.prog 15 #[.slice A L.length c] w (FPost w.heap.size w (chkL (rowsL L))) := by
  have hB0 : Below w.heap.size w (w.alloc (.cells #[.int .i64 0, .int .i64 0] 27)) := (Below.refl _ _).alloc (Nat.le_refl _) _
  unfold chkL
  rw [rowsL_len]
  by_cases h64 : 64 < L.length
  · rw [if_pos h64]
    have e6 : ((64 : Int) < (L.length : Int)) = True := by simp; omega
    have b1 := FBx.new w 2 0
    have r0 := b1.c0
    have r1 := b1.c1
    have kV : Below w.heap.size w (w.alloc (.cells #[.int .i64 2, .int .i64 0] 27)) := (Below.refl _ _).alloc (Nat.le_refl _) _
    go_enter Tryd.func15, Tryd.ntmps15
    go_wp2
    exact bodyPost_ret (v := .agg #[.int .i64 2, .int .i64 0]) (by simp [results, Tryd.results15, go_sem, r0, r1]) rfl (fpost_of (k := 0) rfl kV)
  · rw [if_neg h64]
    have e6 : ((64 : Int) < (L.length : Int)) = False := by simp; omega
    have HI0 : InvC L (chkR (rowsL L) 0) 0 := rfl
    generalize chkR (rowsL L) 0 = RES at *
    have hF0 := FBx.new w 0 0
    have hS0 : (w.alloc (.cells #[.int .i64 0, .int .i64 0] 27)).heap.size = w.heap.size + 1 := World.size_alloc _ _
    have name_c : ∀ (x : Txt), x.length ≤ 100000 → ∀ W, Calls Tryd.prog 13 #[.string ⟨x.toArray⟩] W fun e w' => e = .returned (.bool (nmB x)) ∧ Below W.heap.size W w' := fun x h W => name_any ⟨x.toArray⟩ W (by unfold maxLen; simp [ByteArray.size]; omega)
    go_enter Tryd.func15, Tryd.ntmps15
    go_wp2
    obtain ⟨w1, hw1⟩ : ∃ w1, w1 = w.alloc (.cells #[.int .i64 0, .int .i64 0] 27) := ⟨_, rfl⟩
    rw [← hw1] at hF0 hS0 hB0 ⊢
    have RA := Lib.hid (hr.below hB0 (Nat.le_refl _))
    obtain ⟨g1, hg1⟩ : ∃ g1, g1 = w1.heap.size := ⟨_, rfl⟩
    have HG1 := Lib.hid hg1
    have HGW : Hid (g1 = w.heap.size + 1) := by show _ = _; omega
    have HF : Hid (∀ W, Below g1 w1 W → FBx W w.heap.size 0 0) := fun W h => (h.block _ (by omega)).trans hF0
    have HW2 : Hid (∀ W, Below g1 w1 W → Below w.heap.size w W) := fun W h => hB0.trans (h.mono (by omega))
    replace hx := Lib.hid hx
    clear hr hF0 hB0 hS0 hw1 hg1
    go_loopg [13] L.length (fun gg q wr => ∃ j : Nat, gg = L.length - j ∧ j ≤ L.length ∧ q = .int .i64 j ∧ Hid (InvC L RES j) ∧ Hid (Below g1 w1 wr))
    case atStart => exact ⟨0, rfl, Nat.zero_le _, rfl, HI0, Below.refl _ _⟩
    case round =>
      obtain ⟨j, hgg, hj, rfl, HI, BW0⟩ := hrel
      obtain ⟨wo, hwo⟩ : ∃ wo, wo = wr := ⟨_, rfl⟩
      subst hwo
      have gs0 := BW0.out.size
      by_cases hlt : j < L.length
      · obtain ⟨bo, oo, rfl, hx1⟩ := RA.out.1.at j hlt
        have hbo : bo < w1.heap.size := by
          obtain ⟨_, _, e, h, _⟩ := RA.out.1 j hlt
          cases e; exact h
        have q1 : wo.cell? ⟨bo, oo + j, none⟩ = some (.slice (rA L j).A (rA L j).zs.length (rA L j).cap) := (BW0.out.cell (p := ⟨bo, oo + j, none⟩) (by rw [HG1.out]; exact hbo)).trans hx1
        have RQ : Hid (∀ W, Below g1 w1 W → W.cell? ⟨bo, oo + j, none⟩ = some (.slice (rA L j).A (rA L j).zs.length (rA L j).cap)) := fun W h => (h.cell (p := ⟨bo, oo + j, none⟩) (by rw [HG1.out]; exact hbo)).trans hx1
        have OK := RA.out.2 _ (rA_mem hlt)
        have hBad := fun (e : Int) => @InvC.bad L RES j HI.out hlt e
        have hStep := HI.out.step hlt
        have hxs := fun i => hx.out j i hlt
        generalize rA L j = r at *
        obtain ⟨xA, xs, xc⟩ := r
        dsimp only at *
        have R2 := Lib.hid OK.1
        have hxl : xs.length ≤ 100000 := OK.2
        clear OK hx1
        by_cases hlong : 64 < xs.length
        · have e7 : ((64 : Int) < (xs.length : Int)) = True := by simp; omega
          have EQ := Lib.hid (hBad 2 (rowE_long hlong) (by decide))
          have BW := BW0
          clear hBad hStep
          have F2 := HF.out wo BW.out
          have a0 := F2.c0
          have a1 := F2.fr
          have a2 := (F2.set0 2).c1
          have a3 := (F2.set0 2).fr 1
          have r0 := ((F2.set0 2).set1 (j : Int)).c0
          have r1 := ((F2.set0 2).set1 (j : Int)).c1
          go_wp2
          exact bodyPost_ret (v := .agg #[.int .i64 2, .int .i64 (j : Int)]) (by simp [results, Tryd.results15, go_sem, r0, r1]) rfl (fpost_of EQ.out (below2 (HW2.out wo BW.out)))
        · have e7 : ((64 : Int) < (xs.length : Int)) = False := by simp; omega
          have H5 : Hid (∀ i, i < xs.length → nmB (atS xs i) = false → RES = (5, j)) := fun i hi h => hBad 5 (rowE_bad hlong i hi h) (by decide)
          have HOK : Hid ((∀ i, i < xs.length → nmB (atS xs i) = true) → InvC L RES (j + 1)) := fun h => hStep (rowE_ok hlong h)
          clear hBad hStep
          go_wp2
          go_loopg [25] xs.length (fun gg q wr => ∃ k : Nat, gg = xs.length - k ∧ k ≤ xs.length ∧ q = .int .i64 k ∧ Hid (∀ i, i < k → nmB (atS xs i) = true) ∧ Hid (Below g1 w1 wr))
          case atStart => exact ⟨0, rfl, Nat.zero_le _, rfl, fun i hi => absurd hi (by omega), BW0.out⟩
          case round =>
            obtain ⟨k, hgg2, hk, rfl, HA, BW⟩ := hrel
            have gs := BW.out.size
            have q0 := RQ.out wr BW.out
            by_cases hkl : k < xs.length
            · obtain ⟨b1, o1, rfl, h1⟩ := at_of_reads R2.out k hkl
              have hb1 : b1 < w1.heap.size := by
                obtain ⟨_, _, e, h, _⟩ := R2.out k hkl
                cases e; exact h
              have q2 : wr.cell? ⟨b1, o1 + k, none⟩ = some (.string ⟨(atS xs k).toArray⟩) := (BW.out.cell (p := ⟨b1, o1 + k, none⟩) (by rw [HG1.out]; exact hb1)).trans h1
              have CN := name_c (atS xs k) (hxs k hkl) wr
              have H5k := Lib.hid (H5.out k hkl)
              by_cases hnm : nmB (atS xs k) = true
              · have HA1 : Hid (∀ i, i < k + 1 → nmB (atS xs i) = true) := fun i hi => by
                  by_cases e : i = k
                  · rw [e]; exact hnm
                  · exact HA.out i (by omega)
                rw [hnm] at CN
                replace CN := Lib.hid CN
                clear hnm H5k
                generalize atS xs k = y at *
                go_wp2_with fail
                refine CN.out.mono ?_
                rintro e w3 ⟨rfl, k3⟩
                have B3 : Hid (Below g1 w1 w3) := BW.out.trans (k3.mono (by have := HG1.out; omega))
                clear k3
                go_wp2
                go_roundg (xs.length - (k + 1))
                case rel => exact ⟨k + 1, rfl, by omega, by go_num, HA1.out, B3.out⟩
                case measure => omega
              · have hnm : nmB (atS xs k) = false := by simpa using hnm
                have EQ := Lib.hid (H5k.out hnm)
                rw [hnm] at CN
                replace CN := Lib.hid CN
                clear hnm H5k
                generalize atS xs k = y at *
                go_wp2_with fail
                refine CN.out.mono ?_
                rintro e w3 ⟨rfl, k3⟩
                have BW : Hid (Below g1 w1 w3) := BW.out.trans (k3.mono (by have := HG1.out; omega))
                clear k3
                have F2 := HF.out w3 BW.out
                have a0 := F2.c0
                have a1 := F2.fr
                have a2 := (F2.set0 5).c1
                have a3 := (F2.set0 5).fr 1
                have r0 := ((F2.set0 5).set1 (j : Int)).c0
                have r1 := ((F2.set0 5).set1 (j : Int)).c1
                go_wp2
                exact bodyPost_ret (v := .agg #[.int .i64 5, .int .i64 (j : Int)]) (by simp [results, Tryd.results15, go_sem, r0, r1]) rfl (fpost_of EQ.out (below2 (HW2.out w3 BW.out)))
            · obtain rfl : k = xs.length := by omega
              have HI2 := Lib.hid (HOK.out HA.out)
              go_wp2
              go_roundg (L.length - (j + 1))
              case rel => exact ⟨j + 1, rfl, by omega, by go_num, HI2.out, BW.out⟩
              case measure => omega
      · have EQ := Lib.hid (HI.out.done hlt)
        have BW := BW0
        have F2 := HF.out wo BW.out
        have a0 := F2.c0
        have a1 := F2.fr
        have a2 := (F2.set0 0).c1
        have a3 := (F2.set0 0).fr 1
        have r0 := ((F2.set0 0).set1 0).c0
        have r1 := ((F2.set0 0).set1 0).c1
        go_wp2
        exact bodyPost_ret (v := .agg #[.int .i64 0, .int .i64 0]) (by simp [results, Tryd.results15, go_sem, r0, r1]) rfl (fpost_of (k := 0) EQ.out (below2 (HW2.out wo BW.out)))

set_option maxHeartbeats 4000000 in
set_option maxRecDepth 100000 in
theorem rcheck_log (A : Option Addr) (L : List Row) (c : Nat) (w : World) (hr : ReadsL w A L) (hl : L.length ≤ 1000) (hx : ∀ j i, j < L.length → i < (rA L j).zs.length → (atS (rA L j).zs i).length ≤ 100000) :
    Calls Tryd.prog 16 #[.slice A L.length c] w (FPost w.heap.size w (chkL (rowsL L))) := by
  have hB0 : Below w.heap.size w (w.alloc (.cells #[.int .i64 0, .int .i64 0] 27)) := (Below.refl _ _).alloc (Nat.le_refl _) _
  unfold chkL
  rw [rowsL_len]
  by_cases h64 : 64 < L.length
  · rw [if_pos h64]
    have e6 : ((64 : Int) < (L.length : Int)) = True := by simp; omega
    have b1 := FBx.new w 2 0
    have r0 := b1.c0
    have r1 := b1.c1
    have kV : Below w.heap.size w (w.alloc (.cells #[.int .i64 2, .int .i64 0] 27)) := (Below.refl _ _).alloc (Nat.le_refl _) _
    go_enter Tryd.func16, Tryd.ntmps16
    go_wp2
    exact bodyPost_ret (v := .agg #[.int .i64 2, .int .i64 0]) (by simp [results, Tryd.results16, go_sem, r0, r1]) rfl (fpost_of (k := 0) rfl kV)
  · rw [if_neg h64]
    have e6 : ((64 : Int) < (L.length : Int)) = False := by simp; omega
    have HI0 : InvC L (chkR (rowsL L) 0) 0 := rfl
    generalize chkR (rowsL L) 0 = RES at *
    have hF0 := FBx.new w 0 0
    have hS0 : (w.alloc (.cells #[.int .i64 0, .int .i64 0] 27)).heap.size = w.heap.size + 1 := World.size_alloc _ _
    have name_c : ∀ (x : Txt), x.length ≤ 100000 → ∀ W, Calls Tryd.prog 14 #[.string ⟨x.toArray⟩] W fun e w' => e = .returned (.bool (nmB x)) ∧ Below W.heap.size W w' := fun x h W => (rname_any ⟨x.toArray⟩ W (by unfold maxLen; simp [ByteArray.size]; omega)).mono fun e w2 ⟨h1, h2⟩ => ⟨h1, by subst h2; exact Below.refl _ _⟩
    go_enter Tryd.func16, Tryd.ntmps16
    go_wp2
    obtain ⟨w1, hw1⟩ : ∃ w1, w1 = w.alloc (.cells #[.int .i64 0, .int .i64 0] 27) := ⟨_, rfl⟩
    rw [← hw1] at hF0 hS0 hB0 ⊢
    have RA := Lib.hid (hr.below hB0 (Nat.le_refl _))
    obtain ⟨g1, hg1⟩ : ∃ g1, g1 = w1.heap.size := ⟨_, rfl⟩
    have HG1 := Lib.hid hg1
    have HGW : Hid (g1 = w.heap.size + 1) := by show _ = _; omega
    have HF : Hid (∀ W, Below g1 w1 W → FBx W w.heap.size 0 0) := fun W h => (h.block _ (by omega)).trans hF0
    have HW2 : Hid (∀ W, Below g1 w1 W → Below w.heap.size w W) := fun W h => hB0.trans (h.mono (by omega))
    replace hx := Lib.hid hx
    clear hr hF0 hB0 hS0 hw1 hg1
    go_loopg [3] L.length (fun gg q wr => ∃ j : Nat, gg = L.length - j ∧ j ≤ L.length ∧ q = .int .i64 j ∧ Hid (InvC L RES j) ∧ Hid (Below g1 w1 wr))
    case atStart => exact ⟨0, rfl, Nat.zero_le _, rfl, HI0, Below.refl _ _⟩
    case round =>
      obtain ⟨j, hgg, hj, rfl, HI, BW0⟩ := hrel
      obtain ⟨wo, hwo⟩ : ∃ wo, wo = wr := ⟨_, rfl⟩
      subst hwo
      have gs0 := BW0.out.size
      by_cases hlt : j < L.length
      · obtain ⟨bo, oo, rfl, hx1⟩ := RA.out.1.at j hlt
        have hbo : bo < w1.heap.size := by
          obtain ⟨_, _, e, h, _⟩ := RA.out.1 j hlt
          cases e; exact h
        have q1 : wo.cell? ⟨bo, oo + j, none⟩ = some (.slice (rA L j).A (rA L j).zs.length (rA L j).cap) := (BW0.out.cell (p := ⟨bo, oo + j, none⟩) (by rw [HG1.out]; exact hbo)).trans hx1
        have RQ : Hid (∀ W, Below g1 w1 W → W.cell? ⟨bo, oo + j, none⟩ = some (.slice (rA L j).A (rA L j).zs.length (rA L j).cap)) := fun W h => (h.cell (p := ⟨bo, oo + j, none⟩) (by rw [HG1.out]; exact hbo)).trans hx1
        have OK := RA.out.2 _ (rA_mem hlt)
        have hBad := fun (e : Int) => @InvC.bad L RES j HI.out hlt e
        have hStep := HI.out.step hlt
        have hxs := fun i => hx.out j i hlt
        generalize rA L j = r at *
        obtain ⟨xA, xs, xc⟩ := r
        dsimp only at *
        have R2 := Lib.hid OK.1
        have hxl : xs.length ≤ 100000 := OK.2
        clear OK hx1
        by_cases hlong : 64 < xs.length
        · have e7 : ((64 : Int) < (xs.length : Int)) = True := by simp; omega
          have EQ := Lib.hid (hBad 2 (rowE_long hlong) (by decide))
          have BW := BW0
          clear hBad hStep
          have F2 := HF.out wo BW.out
          have a0 := F2.c0
          have a1 := F2.fr
          have a2 := (F2.set0 2).c1
          have a3 := (F2.set0 2).fr 1
          have r0 := ((F2.set0 2).set1 (j : Int)).c0
          have r1 := ((F2.set0 2).set1 (j : Int)).c1
          go_wp2
          exact bodyPost_ret (v := .agg #[.int .i64 2, .int .i64 (j : Int)]) (by simp [results, Tryd.results16, go_sem, r0, r1]) rfl (fpost_of EQ.out (below2 (HW2.out wo BW.out)))
        · have e7 : ((64 : Int) < (xs.length : Int)) = False := by simp; omega
          have H5 : Hid (∀ i, i < xs.length → nmB (atS xs i) = false → RES = (5, j)) := fun i hi h => hBad 5 (rowE_bad hlong i hi h) (by decide)
          have HOK : Hid ((∀ i, i < xs.length → nmB (atS xs i) = true) → InvC L RES (j + 1)) := fun h => hStep (rowE_ok hlong h)
          clear hBad hStep
          go_wp2
          go_loopg [4] xs.length (fun gg q wr => ∃ k : Nat, gg = xs.length - k ∧ k ≤ xs.length ∧ q = .int .i64 k ∧ Hid (∀ i, i < k → nmB (atS xs i) = true) ∧ Hid (Below g1 w1 wr))
          case atStart => exact ⟨0, rfl, Nat.zero_le _, rfl, fun i hi => absurd hi (by omega), BW0.out⟩
          case round =>
            obtain ⟨k, hgg2, hk, rfl, HA, BW⟩ := hrel
            have gs := BW.out.size
            have q0 := RQ.out wr BW.out
            by_cases hkl : k < xs.length
            · obtain ⟨b1, o1, rfl, h1⟩ := at_of_reads R2.out k hkl
              have hb1 : b1 < w1.heap.size := by
                obtain ⟨_, _, e, h, _⟩ := R2.out k hkl
                cases e; exact h
              have q2 : wr.cell? ⟨b1, o1 + k, none⟩ = some (.string ⟨(atS xs k).toArray⟩) := (BW.out.cell (p := ⟨b1, o1 + k, none⟩) (by rw [HG1.out]; exact hb1)).trans h1
              have CN := name_c (atS xs k) (hxs k hkl) wr
              have H5k := Lib.hid (H5.out k hkl)
              by_cases hnm : nmB (atS xs k) = true
              · have HA1 : Hid (∀ i, i < k + 1 → nmB (atS xs i) = true) := fun i hi => by
                  by_cases e : i = k
                  · rw [e]; exact hnm
                  · exact HA.out i (by omega)
                rw [hnm] at CN
                replace CN := Lib.hid CN
                clear hnm H5k
                generalize atS xs k = y at *
                go_wp2_with fail
                refine CN.out.mono ?_
                rintro e w3 ⟨rfl, k3⟩
                have B3 : Hid (Below g1 w1 w3) := BW.out.trans (k3.mono (by have := HG1.out; omega))
                clear k3
                go_wp2
                go_roundg (xs.length - (k + 1))
                case rel => exact ⟨k + 1, rfl, by omega, by go_num, HA1.out, B3.out⟩
                case measure => omega
              · have hnm : nmB (atS xs k) = false := by simpa using hnm
                have EQ := Lib.hid (H5k.out hnm)
                rw [hnm] at CN
                replace CN := Lib.hid CN
                clear hnm H5k
                generalize atS xs k = y at *
                go_wp2_with fail
                refine CN.out.mono ?_
                rintro e w3 ⟨rfl, k3⟩
                have BW : Hid (Below g1 w1 w3) := BW.out.trans (k3.mono (by have := HG1.out; omega))
                clear k3
                have F2 := HF.out w3 BW.out
                have a0 := F2.c0
                have a1 := F2.fr
                have a2 := (F2.set0 5).c1
                have a3 := (F2.set0 5).fr 1
                have r0 := ((F2.set0 5).set1 (j : Int)).c0
                have r1 := ((F2.set0 5).set1 (j : Int)).c1
                go_wp2
                exact bodyPost_ret (v := .agg #[.int .i64 5, .int .i64 (j : Int)]) (by simp [results, Tryd.results16, go_sem, r0, r1]) rfl (fpost_of EQ.out (below2 (HW2.out w3 BW.out)))
            · obtain rfl : k = xs.length := by omega
              have HI2 := Lib.hid (HOK.out HA.out)
              go_wp2
              go_roundg (L.length - (j + 1))
              case rel => exact ⟨j + 1, rfl, by omega, by go_num, HI2.out, BW.out⟩
              case measure => omega
      · have EQ := Lib.hid (HI.out.done hlt)
        have BW := BW0
        have F2 := HF.out wo BW.out
        have a0 := F2.c0
        have a1 := F2.fr
        have a2 := (F2.set0 0).c1
        have a3 := (F2.set0 0).fr 1
        have r0 := ((F2.set0 0).set1 0).c0
        have r1 := ((F2.set0 0).set1 0).c1
        go_wp2
        exact bodyPost_ret (v := .agg #[.int .i64 0, .int .i64 0]) (by simp [results, Tryd.results16, go_sem, r0, r1]) rfl (fpost_of (k := 0) EQ.out (below2 (HW2.out wo BW.out)))
end Go.Proofs.YtgjgohnomophnaaDoor
