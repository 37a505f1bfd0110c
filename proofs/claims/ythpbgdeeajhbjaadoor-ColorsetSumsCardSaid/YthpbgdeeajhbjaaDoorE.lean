/- Whether a list is a multiset. -/
import Derived.Test.YthpbgdeeajhbjaaDoorD
namespace Go.Proofs.YthpbgdeeajhbjaaDoor
open Go.RowKit

def ReadsI (w : World) (a : Option Addr) (zs : List Int) : Prop := ∀ k, k < zs.length → ∃ p, a = some p ∧ w.cell? (p.add k) = some (.int .i64 (zs[k]?.getD 0))
def multiB (zs : List Int) : Bool := zs.all fun z => decide (0 ≤ z ∧ z ≤ 1048576)
theorem multi_no {zs : List Int} (k : Nat) (hk : k < zs.length) (h : ¬ (0 ≤ zs[k]?.getD 0 ∧ zs[k]?.getD 0 ≤ 1048576)) : multiB zs = false := by
  unfold multiB
  rw [List.all_eq_false]
  rw [List.getElem?_eq_getElem hk] at h
  exact ⟨zs[k], List.getElem_mem hk, by simpa using h⟩
theorem multi_step {zs : List Int} (k : Nat) (hk : k < zs.length) (h : multiB (zs.take k) = true) (g : 0 ≤ zs[k]?.getD 0 ∧ zs[k]?.getD 0 ≤ 1048576) : multiB (zs.take (k + 1)) = true := by
  unfold multiB at *
  rw [List.take_add_one, List.getElem?_eq_getElem hk] at *
  simp only [Option.getD_some] at g
  simp only [Option.toList, List.all_append, h, List.all_cons, List.all_nil, Bool.true_and, Bool.and_true, decide_eq_true_eq]
  exact g

set_option maxHeartbeats 1000000 in
theorem multi_any (a : Addr) (zs : List Int) (cap : Nat) (w : World) (hr : ReadsI w (some a) zs) (hl : zs.length ≤ maxLen) :
    Calls Tryd.prog 38 #[.slice (some a) zs.length cap] w fun e w' => e = .returned (.bool (multiB zs)) ∧ w = w' := by
  unfold maxLen at hl
  generalize hS : multiB zs = S
  have HS := Lib.hid hS
  clear hS
  have HR := Lib.hid hr
  clear hr
  go_enter Tryd.func38, Tryd.ntmps38
  go_wp2
  go_loop [7] (fun q => ∃ k : Nat, k ≤ zs.length ∧ q = .int .i64 k ∧ Hid (multiB (zs.take k) = true)) (fun q => zs.length - (intOf q).toNat)
  case atStart => exact ⟨0, by omega, rfl, by show _ = _; rfl⟩
  case round =>
    obtain ⟨k, hk, rfl, HM⟩ := hrel
    by_cases hlt : k < zs.length
    · obtain ⟨p, hp, hcx⟩ := HR.out k hlt
      cases hp
      have HF : Hid (¬ (0 ≤ zs[k]?.getD 0 ∧ zs[k]?.getD 0 ≤ 1048576) → false = S) := by
        intro h
        rw [← HS.out, multi_no k hlt h]
      have HT : Hid (0 ≤ zs[k]?.getD 0 ∧ zs[k]?.getD 0 ≤ 1048576 → multiB (zs.take (k + 1)) = true) := fun h => multi_step k hlt HM.out h
      clear HM
      generalize zs[k]?.getD 0 = z at *
      go_wp2
      all_goals first
        | (go_ret; exact ⟨ret_b (HF.out (by omega)), rfl⟩)
        | (have G := Lib.hid (HT.out (by omega))
           go_round
           case rel => exact ⟨k + 1, by omega, by go_num, G⟩
           case measure => simp [intOf]; omega)
    · have E : Hid (true = S) := by
        show _ = _
        rw [← HS.out, ← HM.out, List.take_of_length_le (by omega)]
      go_wp2
      go_ret
      exact ⟨ret_b E.out, rfl⟩
end Go.Proofs.YthpbgdeeajhbjaaDoor
