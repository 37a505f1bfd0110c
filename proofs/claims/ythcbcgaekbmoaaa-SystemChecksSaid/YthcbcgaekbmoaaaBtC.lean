/- Contracts of the reference's Subset, All, Ints, Next. -/
import Derived.Test.YthcbcgaekbmoaaaBtB
namespace Go.Proofs.Ythcbcgaekbmoaaa.Bt
open Go.RowKit

theorem all_of {L : List Nat} {p : Nat → Bool} (h : ∀ j, j < L.length → ∀ x, L[j]? = some x → p x = true) : L.all p = true := by
  rw [List.all_eq_true]
  intro x hx
  obtain ⟨j, hj, hjx⟩ := List.getElem_of_mem hx
  exact h j hj x (List.getElem?_eq_some_iff.2 ⟨hj, hjx⟩)
theorem all_not {L : List Nat} {p : Nat → Bool} {j x : Nat} (h : L[j]? = some x) (hx : p x = false) : L.all p = false := by
  rw [List.all_eq_false]
  exact ⟨x, List.mem_of_getElem? h, by rw [hx]; decide⟩
theorem pow_sum (k : Nat) : 2 ^ k - 1 + 2 ^ k = 2 ^ (k + 1) - 1 := by have := Nat.two_pow_pos k; rw [Nat.pow_succ]; omega
/-- a number, a bool, and what lay lies on -/
def UBPost (g : Nat) (w : World) (x : Nat) (b : Bool) (e : Ending) (w' : World) : Prop := e = .returned (.tuple #[.int .u64 (x : Int), .bool b]) ∧ Below g w w'
def nextN (s b : Nat) : Nat := if subV s b = true ∧ s ≠ b then nextV s b else 0
def nextB (s b : Nat) : Bool := decide (subV s b = true ∧ s ≠ b)
end Go.Proofs.Ythcbcgaekbmoaaa.Bt
