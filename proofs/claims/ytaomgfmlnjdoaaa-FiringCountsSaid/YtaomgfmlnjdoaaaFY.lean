/- The example of the laws on firing. -/
import Derived.Test.YtaomgfmlnjdoaaaFX
namespace Go.Proofs.Ytaomgfmlnjdoaaa
open Go.RowKit

def oneV (a b c : Nat) : NetV := ⟨sN, some ⟨a, 0, none⟩, [⟨sP, 1, 0⟩], 1, some ⟨c, 0, none⟩, [⟨sT, ⟨some ⟨b, 0, none⟩, 1, [(0, 1)]⟩, ⟨none, 0, []⟩, ⟨none, 0, []⟩, 0⟩], 1⟩
theorem one_fireL (a b c : Nat) : fireL (oneV a b c) [1] 0 = [0] := by kernel_rfl
theorem one_fireE (a b c : Nat) : fireE (oneV a b c) [1] 0 = 0 := by kernel_rfl
theorem one_dead0 (a b c : Nat) : deadB (oneV a b c) [0] = true := by kernel_rfl
theorem one_dead1 (a b c : Nat) : deadB (oneV a b c) [1] = false := by kernel_rfl
theorem readsP1 {w : World} {a : Nat} {p : PlaceV} (h0 : a < w.heap.size) (h1 : w.cell? ⟨a, 0, none⟩ = some (.string p.nm)) (h2 : w.cell? ⟨a, 1, none⟩ = some (.int .i64 p.ini)) (h3 : w.cell? ⟨a, 2, none⟩ = some (.int .i64 p.cap)) : ReadsP w (some ⟨a, 0, none⟩) [p] := by
  intro j hj
  match j, hj with
  | 0, _ => exact ⟨a, 0, rfl, h0, h1, h2, h3⟩
theorem okp1 {p : PlaceV} (h1 : p.nm.size ≤ maxLen) : OkP [p] := ⟨(show 1 ≤ 1000 by decide), fun j => match j with
  | 0 => h1
  | _ + 1 => (by decide : ByteArray.empty.size ≤ maxLen)⟩
theorem readsV1 {w : World} {a : Nat} {x : Int} (h0 : a < w.heap.size) (h : w.cell? ⟨a, 0, none⟩ = some (.int .i64 x)) : ReadsV w (some ⟨a, 0, none⟩) [x] := by
  intro j hj
  match j, hj with
  | 0, _ => exact ⟨a, 0, rfl, h0, h⟩
def oneW (w : World) : World := (((((w.alloc (.cells #[.string ⟨#[112]⟩, .int .i64 1, .int .i64 0] 55)).alloc (.cells #[.int .i64 0, .int .i64 1] 60)).alloc (.cells #[.string ⟨#[116]⟩, .slice (some ⟨w.heap.size + 1, 0, none⟩) 1 1, .slice none 0 0, .slice none 0 0, .int .i64 0] 58)).alloc (.cells #[.string ⟨#[110]⟩, .slice (some ⟨w.heap.size, 0, none⟩) 1 1, .slice (some ⟨w.heap.size + 1 + 1, 0, none⟩) 1 1] 25)).alloc (.cells #[.int .i64 1] 3))
theorem one_below (w : World) : Below w.heap.size w (oneW w) := (((((Below.refl _ _).alloc (Nat.le_refl _) _).alloc (by simp) _).alloc (by simp; omega) _).alloc (by simp; omega) _).alloc (by simp; omega) _
theorem one_net (w : World) : NetR (oneW w) (oneV w.heap.size (w.heap.size + 1) (w.heap.size + 1 + 1)) := by
  refine ⟨(show sN.size ≤ maxLen by decide), okp1 (show sP.size ≤ maxLen by decide), okt1 (show sT.size ≤ maxLen by decide) (show 1 ≤ 1000 by decide) (show 0 ≤ 1000 by decide) (show 0 ≤ 1000 by decide), (show 1 ≤ 1 by decide), (show 1 ≤ 1 by decide), ?_, ?_⟩
  · exact readsP1 (by simp [oneW] <;> omega) (by unfold oneW; repeat (first | (refine newc _ _ _ _ _ rfl ?_; (simp; done)) | refine past ?_)) (by unfold oneW; repeat (first | (refine newc _ _ _ _ _ rfl ?_; (simp; done)) | refine past ?_)) (by unfold oneW; repeat (first | (refine newc _ _ _ _ _ rfl ?_; (simp; done)) | refine past ?_))
  · refine readsT1 (by simp [oneW]) ?_ ?_ ?_ ?_ ?_ (readsA1 (by simp [oneW] <;> omega) ?_ ?_) (ReadsA.nil _ _) (ReadsA.nil _ _)
    all_goals (unfold oneW; repeat (first | (refine newc _ _ _ _ _ rfl ?_; (simp; done)) | refine past ?_))
theorem one_m (w : World) : ReadsV (oneW w) (some ⟨w.heap.size + 1 + 1 + 1 + 1, 0, none⟩) [1] := readsV1 (by simp [oneW]) (by unfold oneW; repeat (first | (refine newc _ _ _ _ _ rfl ?_; (simp; done)) | refine past ?_))
theorem one_box (w : World) : (oneW w).cell? ⟨w.heap.size + 1 + 1 + 1, 0, none⟩ = some (.string ⟨#[110]⟩) ∧ (oneW w).cell? ⟨w.heap.size + 1 + 1 + 1, 1, none⟩ = some (.slice (some ⟨w.heap.size, 0, none⟩) 1 1) ∧ (oneW w).cell? ⟨w.heap.size + 1 + 1 + 1, 2, none⟩ = some (.slice (some ⟨w.heap.size + 1 + 1, 0, none⟩) 1 1) := by
  refine ⟨?_, ?_, ?_⟩
  all_goals (unfold oneW; repeat (first | (refine newc _ _ _ _ _ rfl ?_; (simp; done)) | refine past ?_))
theorem one_size (w : World) : (oneW w).heap.size = w.heap.size + 1 + 1 + 1 + 1 + 1 := by simp [oneW]

set_option maxHeartbeats 4000000 in
theorem example_any (w : World) : Calls Try.prog 10 #[] w (VPost w.heap.size w (.bool true)) := by
  have CF : Hid (∀ W a b c d, NetR W (oneV a b c) → ReadsV W (some ⟨d, 0, none⟩) [1] → Calls Try.prog 20 #[.agg #[.string ⟨#[110]⟩, .slice (some ⟨a, 0, none⟩) 1 1, .slice (some ⟨c, 0, none⟩) 1 1], .slice (some ⟨d, 0, none⟩) 1 1, .int .i64 0] W (fun e w' => ∃ A c, e = .returned (.tuple #[.slice A 1 c, .int .i64 0]) ∧ ReadsV w' A [0] ∧ Below W.heap.size W w')) := fun W a b c d h r => by
    have := Fire_any (oneV a b c) (some ⟨d, 0, none⟩) [1] 1 0 W h r (by decide)
    rw [one_fireL, one_fireE] at this
    exact this
  have C0 : Hid (∀ W a b c A cc, NetR W (oneV a b c) → ReadsV W A [0] → Calls Try.prog 18 #[.agg #[.string ⟨#[110]⟩, .slice (some ⟨a, 0, none⟩) 1 1, .slice (some ⟨c, 0, none⟩) 1 1], .slice A 1 cc] W (VPost W.heap.size W (.bool true))) := fun W a b c A cc h r => by
    have := dead_any (oneV a b c) A [0] cc W h r (by decide)
    rw [one_dead0] at this
    exact this
  have C1 : Hid (∀ W a b c d, NetR W (oneV a b c) → ReadsV W (some ⟨d, 0, none⟩) [1] → Calls Try.prog 18 #[.agg #[.string ⟨#[110]⟩, .slice (some ⟨a, 0, none⟩) 1 1, .slice (some ⟨c, 0, none⟩) 1 1], .slice (some ⟨d, 0, none⟩) 1 1] W (VPost W.heap.size W (.bool false))) := fun W a b c d h r => by
    have := dead_any (oneV a b c) (some ⟨d, 0, none⟩) [1] 1 W h r (by decide)
    rw [one_dead1] at this
    exact this
  have NB := Lib.hid (one_below w)
  have NN := Lib.hid (one_net w)
  have NM := Lib.hid (one_m w)
  have NX := Lib.hid (one_box w)
  have NS := Lib.hid (one_size w)
  go_enter Try.func10, Try.ntmps10
  go_wp2_with fail
  refine (CF.out (oneW w) _ _ _ _ NN.out NM.out).mono ?_
  rintro e w1 ⟨A1, c1, rfl, R1, K⟩
  obtain ⟨x0, x1, x2⟩ := NX.out
  have b0 := keepc x0 K
  have b1 := keepc x1 K
  have b2 := keepc x2 K
  have N1 := Lib.hid (NN.out.below K (Nat.le_refl _))
  have B1 := Lib.hid (NB.out.trans (K.mono NB.out.size))
  obtain ⟨ba, oa, eA, hx⟩ := at_of_reads R1 0 (by decide)
  subst eA
  have hx2 : w1.cell? ⟨ba, oa, none⟩ = some (.int .i64 0) := hx
  have R1 := Lib.hid R1
  clear x0 x1 x2 K hx NX NN NM
  go_wp2_with fail
  refine (C0.out w1 _ _ _ _ _ N1.out R1.out).mono ?_
  rintro e w2 ⟨rfl, K⟩
  have b0 := keepc b0 K
  have b1 := keepc b1 K
  have b2 := keepc b2 K
  have N2 := Lib.hid (N1.out.below K (Nat.le_refl _))
  have B2 := Lib.hid (B1.out.trans (K.mono B1.out.size))
  have lz := World.block_lt_of_cell? _ _ b0
  have N3 : Hid (NetR (w2.alloc (.cells #[.int .i64 1] 3)) (oneV w.heap.size (w.heap.size + 1) (w.heap.size + 1 + 1))) := N2.out.below ((Below.refl _ _).alloc (Nat.le_refl _) _) (Nat.le_refl _)
  have B3 : Hid (Below w.heap.size w (w2.alloc (.cells #[.int .i64 1] 3))) := B2.out.alloc B2.out.size _
  have R3 : Hid (ReadsV (w2.alloc (.cells #[.int .i64 1] 3)) (some ⟨w2.heap.size, 0, none⟩) [1]) := readsV1 (by simp) (cell_new1 _ _ _)
  clear K CF C0 N1 R1 hx2
  dsimp only at lz
  go_wp2_with fail
  refine (C1.out _ _ _ _ _ N3.out R3.out).mono ?_
  rintro e w4 ⟨rfl, K⟩
  have B4 := Lib.hid (B3.out.trans (K.mono B3.out.size))
  clear K
  go_wp2
  go_ret
  exact ⟨rfl, B4.out⟩
end Go.Proofs.Ytaomgfmlnjdoaaa
