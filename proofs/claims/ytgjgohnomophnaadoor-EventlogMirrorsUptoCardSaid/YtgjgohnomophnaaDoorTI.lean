/- Event logs: the reference's Times. -/
import Derived.Test.YtgjgohnomophnaaDoorFL
namespace Go.Proofs.YtgjgohnomophnaaDoor
open Go.RowKit

def timK (R : List (List Txt)) (t : List Txt) : Nat → Nat
  | 0 => 0
  | j + 1 => timK R t j + (if sameT (R[j]?.getD []) t = true then 1 else 0)
def timV (R : List (List Txt)) (t : List Txt) : Nat := timK R t R.length
theorem timK_le (R : List (List Txt)) (t : List Txt) : ∀ j, timK R t j ≤ j
  | 0 => Nat.le_refl _
  | j + 1 => by
    have h := timK_le R t j
    rw [timK]
    split <;> omega
set_option maxHeartbeats 2000000 in
theorem rtimes_any (A : Option Addr) (L : List Row) (c : Nat) (B : Option Addr) (t : List Txt) (cb : Nat) (w : World) (hr : ReadsL w A L) (hl : L.length ≤ 1000) (rt : ReadsS w B t) :
    Calls Tryd.prog 47 #[.slice A L.length c, .slice B t.length cb] w fun e w' => e = .returned (.int .i64 (timV (rowsL L) t : Nat)) ∧ Below w.heap.size w w' := by
  have RA := Lib.hid hr
  have RT := Lib.hid rt
  have HS : Hid (∀ j, timK (rowsL L) t (j + 1) = timK (rowsL L) t j + (if sameT (rA L j).zs t = true then 1 else 0)) := fun j => by
    show _ = _
    rw [timK, rows_at]
  have HL := Lib.hid (timK_le (rowsL L) t)
  have HV : Hid (timK (rowsL L) t L.length = timV (rowsL L) t) := by show _ = _; unfold timV; rw [rowsL_len]
  have H0 : Hid (timK (rowsL L) t 0 = 0) := rfl
  clear hr rt
  generalize timV (rowsL L) t = V at *
  generalize timK (rowsL L) t = tk at *
  go_enter Tryd.func47, Tryd.ntmps47
  go_wp2
  go_loopg [5, 6] L.length (fun gg p q wr => ∃ j : Nat, gg = L.length - j ∧ j ≤ L.length ∧ p = .int .i64 (tk j : Nat) ∧ q = .int .i64 j ∧ Hid (Below w.heap.size w wr))
  case atStart => exact ⟨0, rfl, Nat.zero_le _, by rw [H0.out]; rfl, rfl, Below.refl _ _⟩
  case round =>
    obtain ⟨j, hgg, hj, rfl, rfl, B1⟩ := hrel
    have gs := B1.out.size
    by_cases hlt : j < L.length
    · have RW := RA.out.below B1.out (Nat.le_refl _)
      obtain ⟨bo, oo, rfl, hx1⟩ := RW.1.at j hlt
      have OK := RW.2 _ (rA_mem hlt)
      have CS := rsame_any (rA L j).A B (rA L j).zs t (rA L j).cap cb wr OK.1 (RT.out.below B1.out (Nat.le_refl _)) OK.2
      have hS := HS.out j
      have hLj := HL.out j
      clear RW OK
      generalize rA L j = r at *
      obtain ⟨xA, xs, xc⟩ := r
      dsimp only at *
      by_cases hs : sameT xs t = true
      · rw [if_pos hs] at hS
        rw [hs] at CS
        replace CS := Lib.hid CS
        replace hS := Lib.hid hS
        clear hs
        go_wp2_with fail
        refine CS.out.mono ?_
        rintro e w3 ⟨rfl, K3⟩
        have B3 : Hid (Below w.heap.size w w3) := B1.out.trans (K3.mono gs)
        clear K3
        go_wp2
        go_roundg (L.length - (j + 1))
        case rel => exact ⟨j + 1, rfl, by omega, by rw [hS.out]; go_num, by go_num, B3⟩
        case measure => omega
      · rw [if_neg hs] at hS
        have hs : sameT xs t = false := by simpa using hs
        rw [hs] at CS
        replace CS := Lib.hid CS
        replace hS := Lib.hid hS
        clear hs
        go_wp2_with fail
        refine CS.out.mono ?_
        rintro e w3 ⟨rfl, K3⟩
        have B3 : Hid (Below w.heap.size w w3) := B1.out.trans (K3.mono gs)
        clear K3
        go_wp2
        go_roundg (L.length - (j + 1))
        case rel => exact ⟨j + 1, rfl, by omega, by rw [hS.out]; rfl, by go_num, B3⟩
        case measure => omega
    · obtain rfl : j = L.length := by omega
      go_wp2
      go_ret
      exact ⟨ret_i (by rw [HV.out]), B1.out⟩
end Go.Proofs.YtgjgohnomophnaaDoor
