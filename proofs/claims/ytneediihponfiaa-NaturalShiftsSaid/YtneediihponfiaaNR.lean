/- Bounded natural solutions: the product of the reference. -/
import Derived.Test.YtneediihponfiaaNQ
namespace Go.Proofs.Ytneediihponfiaa
open Go.RowKit

theorem prod_ok {u : List Int} (h2 : withB u 0 1000 = true) (h3 : ∀ k, k < u.length → limF u k = false) : ∀ k, k ≤ u.length → 1 ≤ prodTo u k ∧ prodTo u k ≤ 100000
  | 0, _ => by simp [prodTo]
  | k + 1, hk => by
    have ih := prod_ok h2 h3 k (by omega)
    have h4 := h3 k (by omega)
    have h5 := withB_at h2 k (by omega)
    unfold limF at h4
    have h4 : ¬ 100000 < prodTo u (k + 1) := of_decide_eq_false h4
    refine ⟨?_, by omega⟩
    show 1 ≤ prodTo u k * (at0 u k + 1)
    have := Int.mul_le_mul (a := 1) (b := 1) (c := prodTo u k) (d := at0 u k + 1) ih.1 (by omega) (by omega) (by omega)
    omega
set_option maxHeartbeats 2000000 in
theorem rproduct_any (U : Option Addr) (u : List Int) (cu : Nat) (w : World) (hu : ReadsV w U u) (hul : u.length ≤ 1000) (h2 : withB u 0 1000 = true) (h3 : ∀ k, k < u.length → limF u k = false) :
    Calls Try.prog 21 #[.slice U u.length cu] w fun e w' => e = .returned (.int .i64 (prodTo u u.length)) ∧ w = w' := by
  have PO := Lib.hid (prod_ok h2 h3)
  have WU := Lib.hid (withB_at h2)
  have HU := Lib.hid hu
  clear hu h2 h3
  go_enter Try.func21, Try.ntmps21
  go_wp2_with fail
  go_loop [3, 4] (fun p q => ∃ k : Nat, k ≤ u.length ∧ q = .int .i64 k ∧ p = .int .i64 (prodTo u k)) (fun _ q => u.length - (intOf q).toNat)
  case atStart => exact ⟨0, by omega, rfl, rfl⟩
  case round =>
    obtain ⟨k, hk, rfl, rfl⟩ := hrel
    by_cases hlt : k < u.length
    · obtain ⟨b0, off, e1, hc0⟩ := at_of_reads HU.out k hlt
      subst e1
      obtain ⟨x1, x2⟩ := WU.out k hlt
      have m := PO.out (k + 1) (by omega)
      have E : Hid (prodTo u (k + 1) = prodTo u k * (at0 u k + 1)) := rfl
      rw [E.out] at m
      generalize at0 u k = x at *
      generalize prodTo u k = y at *
      generalize hz2 : y * (x + 1) = z at *
      have b5 : wrap64 (y * (x + 1)) = z := by rw [hz2]; unfold wrap64; omega
      have b6 : wrap64 (x + 1) = x + 1 := by unfold wrap64; omega
      go_wp2
      go_round
      case rel => exact ⟨k + 1, by omega, by go_num, by rw [E.out]⟩
      case measure => simp [intOf]; omega
    · obtain rfl : k = u.length := by omega
      go_wp2
      go_ret
      exact ⟨rfl, rfl⟩
/-- the product is that of vecs -/
theorem prod_prodN : ∀ (u : List Int), (∀ k, k < u.length → 0 ≤ at0 u k) → prodTo u u.length = (prodN u : Int) := by
  have key : ∀ (v u : List Int) (k : Nat), (∀ j, j < u.length → 0 ≤ at0 u j) → k ≤ u.length → prodTo u k = (prodN (u.take k) : Int) := by
    intro _ u k hu hk
    have app : ∀ (a b : List Int), prodN (a ++ b) = prodN a * prodN b := by
      intro a b
      induction a with
      | nil => simp [prodN]
      | cons x a ih => simp [prodN, ih, Nat.mul_assoc]
    induction k with
    | zero => simp [prodTo, prodN]
    | succ k ih =>
      have h0 := hu k (by omega)
      have e : u[k] = at0 u k := by
        unfold at0
        rw [List.getElem?_eq_getElem (by omega)]
        rfl
      rw [List.take_succ_eq_append_getElem (by omega), app, e]
      show prodTo u k * (at0 u k + 1) = _
      rw [ih (by omega)]
      simp only [prodN, Nat.mul_one]
      rw [Int.natCast_mul]
      congr 1
      omega
  intro u hu
  have := key [] u u.length hu (Nat.le_refl _)
  rwa [List.take_length] at this
end Go.Proofs.Ytneediihponfiaa
