/- The example of the laws on firing. -/
import Derived.Test.YtpfkkjgklhcejaaFX
namespace Go.Proofs.Ytpfkkjgklhcejaa
open Go.RowKit

def oneV (a b c : Nat) : NetV := ⟨sN, some ⟨a, 0, none⟩, [⟨sP, 1, 0⟩], 1, some ⟨c, 0, none⟩, [⟨sT, ⟨some ⟨b, 0, none⟩, 1, [(0, 1)]⟩, ⟨none, 0, []⟩, ⟨none, 0, []⟩, 0⟩], 1⟩
theorem one_fireL (a b c : Nat) : fireL (oneV a b c) [1] 0 = [0] := by kernel_rfl
theorem one_fireE (a b c : Nat) : fireE (oneV a b c) [1] 0 = 0 := by kernel_rfl
theorem one_dead0 (a b c : Nat) : deadB (oneV a b c) [0] = true := by kernel_rfl
theorem one_dead1 (a b c : Nat) : deadB (oneV a b c) [1] = false := by kernel_rfl
theorem readsP1 {w : World} {a : Nat} {p : PlaceV} (h0 : a < w.heap.size) (h1 : w.cell? ⟨a, 0, none⟩ = some (.string p.nm)) (h2 : w.cell? ⟨a, 1, none⟩ = some (.int .i64 p.ini)) (h3 : w.cell? ⟨a, 2, none⟩ = some (.int .i64 p.cap)) : ReadsP w (some ⟨a, 0, none⟩) [p] := by
  intro j hj
  match j, hj with
  | 0, _ => exact ⟨a, 0, rfl, h0, h1, h2, h3⟩
theorem okp1 {p : PlaceV} (h1 : p.nm.size ≤ maxLen) : OkP [p] := ⟨(show 1 ≤ 1000 by decide), fun j => match j with
  | 0 => h1
  | _ + 1 => (by decide : ByteArray.empty.size ≤ maxLen)⟩
theorem readsV1 {w : World} {a : Nat} {x : Int} (h0 : a < w.heap.size) (h : w.cell? ⟨a, 0, none⟩ = some (.int .i64 x)) : ReadsV w (some ⟨a, 0, none⟩) [x] := by
  intro j hj
  match j, hj with
  | 0, _ => exact ⟨a, 0, rfl, h0, h⟩
def oneW (w : World) : World := (((((w.alloc (.cells #[.string ⟨#[112]⟩, .int .i64 1, .int .i64 0] 65)).alloc (.cells #[.int .i64 0, .int .i64 1] 70)).alloc (.cells #[.string ⟨#[116]⟩, .slice (some ⟨w.heap.size + 1, 0, none⟩) 1 1, .slice none 0 0, .slice none 0 0, .int .i64 0] 68)).alloc (.cells #[.string ⟨#[110]⟩, .slice (some ⟨w.heap.size, 0, none⟩) 1 1, .slice (some ⟨w.heap.size + 1 + 1, 0, none⟩) 1 1] 25)).alloc (.cells #[.int .i64 1] 3))
theorem one_below (w : World) : Below w.heap.size w (oneW w) := (((((Below.refl _ _).alloc (Nat.le_refl _) _).alloc (by simp) _).alloc (by simp; omega) _).alloc (by simp; omega) _).alloc (by simp; omega) _
theorem one_net (w : World) : NetR (oneW w) (oneV w.heap.size (w.heap.size + 1) (w.heap.size + 1 + 1)) := by
  refine ⟨(show sN.size ≤ maxLen by decide), okp1 (show sP.size ≤ maxLen by decide), okt1 (show sT.size ≤ maxLen by decide) (show 1 ≤ 1000 by decide) (show 0 ≤ 1000 by decide) (show 0 ≤ 1000 by decide), (show 1 ≤ 1 by decide), (show 1 ≤ 1 by decide), ?_, ?_⟩
  · exact readsP1 (by simp [oneW] <;> omega) (by unfold oneW; repeat (first | (refine newc _ _ _ _ _ rfl ?_; (simp; done)) | refine past ?_)) (by unfold oneW; repeat (first | (refine newc _ _ _ _ _ rfl ?_; (simp; done)) | refine past ?_)) (by unfold oneW; repeat (first | (refine newc _ _ _ _ _ rfl ?_; (simp; done)) | refine past ?_))
  · refine readsT1 (by simp [oneW]) ?_ ?_ ?_ ?_ ?_ (readsA1 (by simp [oneW] <;> omega) ?_ ?_) (ReadsA.nil _ _) (ReadsA.nil _ _)
    all_goals (unfold oneW; repeat (first | (refine newc _ _ _ _ _ rfl ?_; (simp; done)) | refine past ?_))
theorem one_m (w : World) : ReadsV (oneW w) (some ⟨w.heap.size + 1 + 1 + 1 + 1, 0, none⟩) [1] := readsV1 (by simp [oneW]) (by unfold oneW; repeat (first | (refine newc _ _ _ _ _ rfl ?_; (simp; done)) | refine past ?_))
theorem one_box (w : World) : (oneW w).cell? ⟨w.heap.size + 1 + 1 + 1, 0, none⟩ = some (.string ⟨#[110]⟩) ∧ (oneW w).cell? ⟨w.heap.size + 1 + 1 + 1, 1, none⟩ = some (.slice (some ⟨w.heap.size, 0, none⟩) 1 1) ∧ (oneW w).cell? ⟨w.heap.size + 1 + 1 + 1, 2, none⟩ = some (.slice (some ⟨w.heap.size + 1 + 1, 0, none⟩) 1 1) := by
  refine ⟨?_, ?_, ?_⟩
  all_goals (unfold oneW; repeat (first | (refine newc _ _ _ _ _ rfl ?_; (simp; done)) | refine past ?_))
theorem one_size (w : World) : (oneW w).heap.size = w.heap.size + 1 + 1 + 1 + 1 + 1 := by simp [oneW]

end Go.Proofs.Ytpfkkjgklhcejaa
