/- Event logs: the reference's Activities. -/
import Derived.Test.YtgjgohnomophnaaDoorRH
namespace Go.Proofs.YtgjgohnomophnaaDoor
open Go.RowKit

def actX (acc xs : List Txt) : Nat → List Txt
  | 0 => acc
  | k + 1 => insT (actX acc xs k) (atS xs k)
def actK (R : List (List Txt)) : Nat → List Txt
  | 0 => []
  | j + 1 => actX (actK R j) (R[j]?.getD []) (R[j]?.getD []).length
def actV (R : List (List Txt)) : List Txt := actK R R.length
theorem actX_len (acc xs : List Txt) : ∀ k, (actX acc xs k).length ≤ acc.length + k
  | 0 => Nat.le_refl _
  | k + 1 => by
    have h := actX_len acc xs k
    have h2 := insT_len (actX acc xs k) (atS xs k)
    rw [actX]; omega
theorem actK_len (R : List (List Txt)) : ∀ j, (actK R j).length ≤ totL R j
  | 0 => Nat.le_refl _
  | j + 1 => by
    have h := actK_len R j
    have h2 := actX_len (actK R j) (R[j]?.getD []) (R[j]?.getD []).length
    rw [actK, totL]; omega
set_option maxHeartbeats 4000000 in
set_option maxRecDepth 100000 in
theorem ract_any (A : Option Addr) (L : List Row) (c : Nat) (w : World) (hr : ReadsL w A L) (hf : FewP L) :
    Calls Tryd.prog 25 #[.slice A L.length c] w (InsPost w.heap.size w (actV (rowsL L))) := by
  have hl := hf.1
  have RA := Lib.hid hr
  have HS : Hid (∀ j, actK (rowsL L) (j + 1) = actX (actK (rowsL L) j) (rA L j).zs (rA L j).zs.length) := fun j => by
    show _ = _
    rw [actK, rows_at]
  have HL : Hid (∀ j, j ≤ L.length → (actK (rowsL L) j).length ≤ 400) := fun j hj => Nat.le_trans (actK_len _ _) (Nat.le_trans (totL_mono _ hj) hf.2.2)
  have HV : Hid (actK (rowsL L) L.length = actV (rowsL L)) := by show _ = _; unfold actV; rw [rowsL_len]
  have H80 : Hid (∀ j, j < L.length → (rA L j).zs.length ≤ 80) := fun j hj => (hf.2.1 j hj).1
  have HK0 : Hid (actK (rowsL L) 0 = []) := rfl
  clear hf hr
  generalize actV (rowsL L) = V at *
  generalize actK (rowsL L) = ak at *
  go_enter Tryd.func25, Tryd.ntmps25
  go_wp2
  go_loopg [3, 4] L.length (fun gg v q wr => ∃ (j : Nat) (B : Option Addr) (cb : Nat), gg = L.length - j ∧ j ≤ L.length ∧ v = .slice B (ak j).length cb ∧ q = .int .i64 j ∧ Hid (ReadsS wr B (ak j)) ∧ Hid (Below w.heap.size w wr))
  case atStart => exact ⟨0, none, 0, rfl, Nat.zero_le _, by rw [HK0.out]; rfl, rfl, by rw [HK0.out]; exact ReadsS.nil _ _, Below.refl _ _⟩
  case round =>
    obtain ⟨j, B, cb, hgg, hj, rfl, rfl, RB, B1⟩ := hrel
    by_cases hlt : j < L.length
    · obtain ⟨bo, oo, rfl, hx1⟩ := RA.out.1.at j hlt
      have hbo : bo < w.heap.size := by
        obtain ⟨_, _, e, h, _⟩ := RA.out.1 j hlt
        cases e; exact h
      have HQ := Lib.hid (fun W (h : Below w.heap.size w W) => (h.cell (p := ⟨bo, oo + j, none⟩) hbo).trans hx1)
      have OK := RA.out.2 _ (rA_mem hlt)
      have h80 := H80.out j hlt
      have hS := Lib.hid (HS.out j)
      have hLj := HL.out j hj
      generalize rA L j = r at *
      obtain ⟨xA, xs, xc⟩ := r
      dsimp only at *
      have R2 := Lib.hid OK.1
      have HXL := Lib.hid (actX_len (ak j) xs)
      have HX0 : Hid (ak j = actX (ak j) xs 0) := rfl
      have HXS : Hid (∀ k, actX (ak j) xs (k + 1) = insT (actX (ak j) xs k) (atS xs k)) := fun k => rfl
      have RB0 : Hid (ReadsS wr B (actX (ak j) xs 0)) := RB.out
      clear OK hx1
      obtain ⟨wo, hwo⟩ : ∃ wo, wo = wr := ⟨_, rfl⟩
      subst hwo
      generalize actX (ak j) xs = ax at *
      go_wp2
      go_loopg [3, 5] xs.length (fun gg v q wr => ∃ (k : Nat) (B : Option Addr) (cb : Nat), gg = xs.length - k ∧ k ≤ xs.length ∧ v = .slice B (ax k).length cb ∧ q = .int .i64 k ∧ Hid (ReadsS wr B (ax k)) ∧ Hid (Below w.heap.size w wr))
      case atStart => exact ⟨0, B, cb, rfl, Nat.zero_le _, by rw [← HX0.out], rfl, RB0.out, B1.out⟩
      case round =>
        obtain ⟨k, B3, c3, hgg2, hk, rfl, rfl, RC, B4⟩ := hrel
        have gs := B4.out.size
        have q0 := HQ.out wr B4.out
        have hxl := HXL.out k
        by_cases hkl : k < xs.length
        · obtain ⟨b1, o1, rfl, h1⟩ := at_of_reads R2.out k hkl
          have hb1 : b1 < w.heap.size := by
            obtain ⟨_, _, e, h, _⟩ := R2.out k hkl
            cases e; exact h
          have q1 := (B4.out.cell (p := ⟨b1, o1 + k, none⟩) hb1).trans h1
          have hXS := Lib.hid (HXS.out k)
          have CI := Lib.hid (rinsert_any B3 (ax k) c3 (atS xs k) wr RC.out (by omega))
          rw [← hXS.out] at CI
          generalize atS xs k = y at *
          go_wp2_with fail
          refine CI.out.mono ?_
          rintro e w5 ⟨B5, c5, rfl, R5, K5⟩
          have B6 : Hid (Below w.heap.size w w5) := B4.out.trans (K5.mono gs)
          replace R5 := Lib.hid R5
          clear K5 CI
          go_wp2
          go_roundg (xs.length - (k + 1))
          case rel => exact ⟨k + 1, B5, c5, rfl, by omega, rfl, by go_num, R5, B6⟩
          case measure => omega
        · obtain rfl : k = xs.length := by omega
          go_wp2
          go_roundg (L.length - (j + 1))
          case rel => exact ⟨j + 1, B3, c3, rfl, by omega, by rw [hS.out], by go_num, by rw [hS.out]; exact RC.out, B4⟩
          case measure => omega
    · obtain rfl : j = L.length := by omega
      go_wp2
      go_ret
      exact ⟨B, cb, by rw [← HV.out]; rfl, by rw [← HV.out]; exact RB.out, B1.out⟩
end Go.Proofs.YtgjgohnomophnaaDoor
