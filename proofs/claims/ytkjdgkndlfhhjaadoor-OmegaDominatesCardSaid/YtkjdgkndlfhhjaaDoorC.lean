/- Contracts of the order of extended markings. -/
import Derived.Test.YtkjdgkndlfhhjaaDoorB
namespace Go.Proofs.YtkjdgkndlfhhjaaDoor
open Go.RowKit

theorem okW_iff {x : Int} : okW x = true ↔ (x = -1 ∨ (0 ≤ x ∧ x ≤ 1048576)) := by unfold okW; rw [decide_eq_true_eq]
def OkP (x : Int) : Prop := x = -1 ∨ (0 ≤ x ∧ x ≤ 1048576)
def NatP (x : Int) : Prop := 0 ≤ x ∧ x ≤ 1048576
set_option maxHeartbeats 1000000 in
theorem valid_law (A : Option Addr) (zs : List Int) (cap : Nat) (w : World) (hr : ReadsV w A zs) (hl : zs.length * 8 ≤ 140737488351232) :
    Calls Tryd.prog 27 #[.slice A zs.length cap, .int .i64 zs.length] w fun e w' => e = .returned (.bool (valW zs)) ∧ w = w' := by
  generalize hS : valW zs = S
  have HS := Lib.hid hS
  clear hS
  have HR := Lib.hid hr
  clear hr
  generalize hn : zs.length = n at *
  have HN := Lib.hid hn
  clear hn
  have e0 : (n != n) = false := by simp
  have e1 : ((n : Int) != (n : Int)) = false := by simp
  go_enter Tryd.func27, Tryd.ntmps27
  go_wp2
  go_loop [13] (fun q => ∃ k : Nat, k ≤ n ∧ q = .int .i64 k ∧ Hid (∀ j, j < k → OkP (at0 zs j))) (fun q => n - (intOf q).toNat)
  case atStart => exact ⟨0, by omega, rfl, fun j hj => absurd hj (by omega)⟩
  case round =>
    obtain ⟨k, hk, rfl, HM⟩ := hrel
    by_cases hlt : k < n
    · obtain ⟨b, off, rfl, hcx⟩ := at_of_reads HR.out k (by rw [HN.out]; exact hlt)
      have HF : Hid (¬ (OkP (at0 zs k)) → false = S) := by
        intro h
        rw [← HS.out]
        unfold valW
        exact (all_no k (by rw [HN.out]; exact hlt) (by unfold okW; rw [decide_eq_false_iff_not]; exact h)).symm
      have HT : Hid (OkP (at0 zs k) → ∀ j, j < k + 1 → OkP (at0 zs j)) := fun h j hj => by
        by_cases e : j < k
        · exact HM.out j e
        · obtain rfl : j = k := by omega
          exact h
      clear HM
      generalize at0 zs k = z at *
      unfold OkP at HF HT
      by_cases z1 : z = -1
      · have G := Lib.hid (HT.out (.inl z1))
        clear HT HF
        subst z1
        go_wp2
        go_round
        case rel => exact ⟨k + 1, by omega, by go_num, G⟩
        case measure => simp [intOf]; omega
      · by_cases z2 : z < 0
        · have z6 : (z != -1) = true := by simp; omega
          have G := Lib.hid (HF.out (by omega))
          clear HT HF
          go_wp2
          go_ret
          exact ⟨ret_b G.out, rfl⟩
        · have z4 : 0 ≤ z := by omega
          have z6 : (z != -1) = true := by simp; omega
          by_cases z3 : 1048576 < z
          · have G := Lib.hid (HF.out (by omega))
            clear HT HF
            go_wp2
            go_ret
            exact ⟨ret_b G.out, rfl⟩
          · have z5 : z ≤ 1048576 := by omega
            clear z1 z2 z3
            have G := Lib.hid (HT.out (by omega))
            clear HT HF
            go_wp2
            go_round
            case rel => exact ⟨k + 1, by omega, by go_num, G⟩
            case measure => simp [intOf]; omega
    · have E : Hid (true = S) := by
        show _ = _
        rw [← HS.out]
        unfold valW
        refine (all_iff.2 fun j hj => ?_).symm
        have := HM.out j (by rw [HN.out] at hj; omega)
        exact okW_iff.2 this
      go_wp2
      go_ret
      exact ⟨ret_b E.out, rfl⟩

set_option maxHeartbeats 1000000 in
theorem rvalid_law (A : Option Addr) (zs : List Int) (cap : Nat) (w : World) (hr : ReadsV w A zs) (hl : zs.length * 8 ≤ 140737488351232) :
    Calls Tryd.prog 26 #[.slice A zs.length cap, .int .i64 zs.length] w fun e w' => e = .returned (.bool (valW zs)) ∧ w = w' := by
  generalize hS : valW zs = S
  have HS := Lib.hid hS
  clear hS
  have HR := Lib.hid hr
  clear hr
  generalize hn : zs.length = n at *
  have HN := Lib.hid hn
  clear hn
  have e0 : (n != n) = false := by simp
  have e1 : ((n : Int) != (n : Int)) = false := by simp
  go_enter Tryd.func26, Tryd.ntmps26
  go_wp2
  go_loop [5] (fun q => ∃ k : Nat, k ≤ n ∧ q = .int .i64 k ∧ Hid (∀ j, j < k → OkP (at0 zs j))) (fun q => n - (intOf q).toNat)
  case atStart => exact ⟨0, by omega, rfl, fun j hj => absurd hj (by omega)⟩
  case round =>
    obtain ⟨k, hk, rfl, HM⟩ := hrel
    by_cases hlt : k < n
    · obtain ⟨b, off, rfl, hcx⟩ := at_of_reads HR.out k (by rw [HN.out]; exact hlt)
      have HF : Hid (¬ (OkP (at0 zs k)) → false = S) := by
        intro h
        rw [← HS.out]
        unfold valW
        exact (all_no k (by rw [HN.out]; exact hlt) (by unfold okW; rw [decide_eq_false_iff_not]; exact h)).symm
      have HT : Hid (OkP (at0 zs k) → ∀ j, j < k + 1 → OkP (at0 zs j)) := fun h j hj => by
        by_cases e : j < k
        · exact HM.out j e
        · obtain rfl : j = k := by omega
          exact h
      clear HM
      generalize at0 zs k = z at *
      unfold OkP at HF HT
      by_cases z1 : z = -1
      · have G := Lib.hid (HT.out (.inl z1))
        clear HT HF
        subst z1
        go_wp2
        go_round
        case rel => exact ⟨k + 1, by omega, by go_num, G⟩
        case measure => simp [intOf]; omega
      · by_cases z2 : z < 0
        · have z6 : (z != -1) = true := by simp; omega
          have G := Lib.hid (HF.out (by omega))
          clear HT HF
          go_wp2
          go_ret
          exact ⟨ret_b G.out, rfl⟩
        · have z4 : 0 ≤ z := by omega
          have z6 : (z != -1) = true := by simp; omega
          by_cases z3 : 1048576 < z
          · have G := Lib.hid (HF.out (by omega))
            clear HT HF
            go_wp2
            go_ret
            exact ⟨ret_b G.out, rfl⟩
          · have z5 : z ≤ 1048576 := by omega
            clear z1 z2 z3
            have G := Lib.hid (HT.out (by omega))
            clear HT HF
            go_wp2
            go_round
            case rel => exact ⟨k + 1, by omega, by go_num, G⟩
            case measure => simp [intOf]; omega
    · have E : Hid (true = S) := by
        show _ = _
        rw [← HS.out]
        unfold valW
        refine (all_iff.2 fun j hj => ?_).symm
        have := HM.out j (by rw [HN.out] at hj; omega)
        exact okW_iff.2 this
      go_wp2
      go_ret
      exact ⟨ret_b E.out, rfl⟩

theorem rvalid_ne (A : Option Addr) (n m cap : Nat) (w : World) (h : n ≠ m) :
    Calls Tryd.prog 26 #[.slice A n cap, .int .i64 m] w fun e w' => e = .returned (.bool false) ∧ w = w' := by
  have h1 : (n != m) = true := by simpa using h
  have h2 : ((n : Int) != (m : Int)) = true := by simp; omega
  go_enter Tryd.func26, Tryd.ntmps26
  go_wp2
  go_ret
  exact ⟨rfl, rfl⟩

def cmpW (x y : Int) : Int := if x = y then 0 else if y = -1 ∨ (x ≠ -1 ∧ x < y) then -1 else 1
theorem cmp_more {x y : Int} : moreB x y = decide (0 < cmpW x y) := by
  rw [Bool.eq_iff_iff, more_yes, decide_eq_true_eq]
  unfold cmpW
  split
  · omega
  · split <;> omega
theorem compare_law (x y : Int) (w : World) : Calls Tryd.prog 19 #[.int .i64 x, .int .i64 y] w fun e w' => e = .returned (.int .i64 (cmpW x y)) ∧ w = w' := by
  by_cases h1 : x = y
  · have E : cmpW x y = 0 := if_pos h1
    rw [E]
    clear E
    subst h1
    have e0 : (x == x) = true := by simp
    go_enter Tryd.func19, Tryd.ntmps19
    go_wp2
    go_ret
    exact ⟨rfl, rfl⟩
  have e1 : (x == y) = false := by simpa using h1
  by_cases h2 : y = -1
  · have E : cmpW x y = -1 := by unfold cmpW; rw [if_neg h1, if_pos (.inl h2)]
    rw [E]
    clear E h1
    have e2 : (y == -1) = true := by simpa using h2
    go_enter Tryd.func19, Tryd.ntmps19
    go_wp2
    go_ret
    exact ⟨rfl, rfl⟩
  have e2 : (y == -1) = false := by simpa using h2
  by_cases h3 : x = -1
  · have E : cmpW x y = 1 := by unfold cmpW; rw [if_neg h1, if_neg (by omega)]
    rw [E]
    clear E h1
    have e3 : (x != -1) = false := by simpa using h3
    go_enter Tryd.func19, Tryd.ntmps19
    go_wp2
    go_ret
    exact ⟨rfl, rfl⟩
  have e3 : (x != -1) = true := by simpa using h3
  by_cases h4 : x < y
  · have E : cmpW x y = -1 := by unfold cmpW; rw [if_neg h1, if_pos (.inr ⟨h3, h4⟩)]
    rw [E]
    clear E h1 h2 h3
    go_enter Tryd.func19, Tryd.ntmps19
    go_wp2
    go_ret
    exact ⟨rfl, rfl⟩
  · have E : cmpW x y = 1 := by unfold cmpW; rw [if_neg h1, if_neg (by omega)]
    rw [E]
    have h5 : y ≤ x := by omega
    clear E h1 h2 h3 h4
    go_enter Tryd.func19, Tryd.ntmps19
    go_wp2
    go_ret
    exact ⟨rfl, rfl⟩
end Go.Proofs.YtkjdgkndlfhhjaaDoor
