/- Siphons: the example. -/
import Derived.Test.YtjibpkaanaphcaaDoorZP
namespace Go.Proofs.YtjibpkaanaphcaaDoor
open Go.RowKit

theorem readsT2 {w : World} {a : Nat} {t u : TransV} (h0 : a < w.heap.size) (h1 : w.cell? ⟨a, 0, none⟩ = some (.string t.nm)) (h2 : w.cell? ⟨a, 1, none⟩ = some (.slice t.pre.A t.pre.l.length t.pre.c)) (h3 : w.cell? ⟨a, 2, none⟩ = some (.slice t.post.A t.post.l.length t.post.c))
    (h4 : w.cell? ⟨a, 3, none⟩ = some (.slice t.inh.A t.inh.l.length t.inh.c)) (h5 : w.cell? ⟨a, 4, none⟩ = some (.int .i64 t.prio)) (r1 : ReadsA w t.pre.A t.pre.l) (r2 : ReadsA w t.post.A t.post.l) (r3 : ReadsA w t.inh.A t.inh.l)
    (k1 : w.cell? ⟨a, 5, none⟩ = some (.string u.nm)) (k2 : w.cell? ⟨a, 6, none⟩ = some (.slice u.pre.A u.pre.l.length u.pre.c)) (k3 : w.cell? ⟨a, 7, none⟩ = some (.slice u.post.A u.post.l.length u.post.c))
    (k4 : w.cell? ⟨a, 8, none⟩ = some (.slice u.inh.A u.inh.l.length u.inh.c)) (k5 : w.cell? ⟨a, 9, none⟩ = some (.int .i64 u.prio)) (s1 : ReadsA w u.pre.A u.pre.l) (s2 : ReadsA w u.post.A u.post.l) (s3 : ReadsA w u.inh.A u.inh.l) : ReadsT w (some ⟨a, 0, none⟩) [t, u] := by
  intro j hj
  match j, hj with
  | 0, _ => exact ⟨a, 0, rfl, h0, h1, h2, h3, h4, h5, r1, r2, r3⟩
  | 1, _ => exact ⟨a, 0, rfl, h0, k1, k2, k3, k4, k5, s1, s2, s3⟩
theorem okt2 {t u : TransV} (h1 : t.nm.size ≤ maxLen) (h2 : t.pre.l.length ≤ 1000) (h3 : t.post.l.length ≤ 1000) (h4 : t.inh.l.length ≤ 1000) (k1 : u.nm.size ≤ maxLen) (k2 : u.pre.l.length ≤ 1000) (k3 : u.post.l.length ≤ 1000) (k4 : u.inh.l.length ≤ 1000) : OkT [t, u] := ⟨(show 2 ≤ 1000 by decide), fun j => match j with
  | 0 => ⟨h1, h2, h3, h4⟩
  | 1 => ⟨k1, k2, k3, k4⟩
  | _ + 2 => ⟨(by decide : ByteArray.empty.size ≤ maxLen), Nat.zero_le _, Nat.zero_le _, Nat.zero_le _⟩⟩
def ringW (w : World) : World := (((((w.alloc (.cells #[.int .i64 0, .int .i64 1] 43)).alloc (.cells #[.int .i64 1, .int .i64 1] 43)).alloc (.cells #[.string ⟨#[112]⟩, .int .i64 1, .int .i64 0, .string ⟨#[113]⟩, .int .i64 0, .int .i64 0] 46)).alloc (.cells #[.string ⟨#[116]⟩, .slice (some ⟨w.heap.size, 0, none⟩) 1 1, .slice (some ⟨w.heap.size + 1, 0, none⟩) 1 1, .slice none 0 0, .int .i64 0, .string ⟨#[117]⟩, .slice (some ⟨w.heap.size + 1, 0, none⟩) 1 1, .slice (some ⟨w.heap.size, 0, none⟩) 1 1, .slice none 0 0, .int .i64 0] 48)).alloc (.cells #[.string ⟨#[110]⟩, .slice (some ⟨w.heap.size + 1 + 1, 0, none⟩) 2 2, .slice (some ⟨w.heap.size + 1 + 1 + 1, 0, none⟩) 2 2] 29))
theorem ring_below (w : World) : Below w.heap.size w (ringW w) := (((((Below.refl _ _).alloc (Nat.le_refl _) _).alloc (by simp) _).alloc (by simp; omega) _).alloc (by simp; omega) _).alloc (by simp; omega) _
theorem ring_net (w : World) : NetR (ringW w) (ringV w.heap.size (w.heap.size + 1) (w.heap.size + 1 + 1) (w.heap.size + 1 + 1 + 1)) := by
  refine ⟨(show sN.size ≤ maxLen by decide), okp2 (show sP.size ≤ maxLen by decide) (show sQ.size ≤ maxLen by decide), okt2 (show sT.size ≤ maxLen by decide) (show 1 ≤ 1000 by decide) (show 1 ≤ 1000 by decide) (show 0 ≤ 1000 by decide) (show sU.size ≤ maxLen by decide) (show 1 ≤ 1000 by decide) (show 1 ≤ 1000 by decide) (show 0 ≤ 1000 by decide), (show 2 ≤ 2 by decide), (show 2 ≤ 2 by decide), ?_, ?_⟩
  · refine readsP2 (by simp [ringW] <;> omega) ?_ ?_ ?_ ?_ ?_ ?_
    all_goals (unfold ringW; repeat (first | (refine newc _ _ _ _ _ rfl ?_; (simp; done)) | refine past ?_))
  · refine readsT2 (by simp [ringW]) ?_ ?_ ?_ ?_ ?_ (readsA1 (by simp [ringW] <;> omega) ?_ ?_) (readsA1 (by simp [ringW] <;> omega) ?_ ?_) (ReadsA.nil _ _) ?_ ?_ ?_ ?_ ?_ (readsA1 (by simp [ringW] <;> omega) ?_ ?_) (readsA1 (by simp [ringW] <;> omega) ?_ ?_) (ReadsA.nil _ _)
    all_goals (unfold ringW; repeat (first | (refine newc _ _ _ _ _ rfl ?_; (simp; done)) | refine past ?_))
theorem ring_box (w : World) : (ringW w).cell? ⟨w.heap.size + 1 + 1 + 1 + 1, 0, none⟩ = some (.string ⟨#[110]⟩) ∧ (ringW w).cell? ⟨w.heap.size + 1 + 1 + 1 + 1, 1, none⟩ = some (.slice (some ⟨w.heap.size + 1 + 1, 0, none⟩) 2 2) ∧ (ringW w).cell? ⟨w.heap.size + 1 + 1 + 1 + 1, 2, none⟩ = some (.slice (some ⟨w.heap.size + 1 + 1 + 1, 0, none⟩) 2 2) := by
  refine ⟨?_, ?_, ?_⟩
  all_goals (unfold ringW; repeat (first | (refine newc _ _ _ _ _ rfl ?_; (simp; done)) | refine past ?_))
theorem ring_size (w : World) : (ringW w).heap.size = w.heap.size + 1 + 1 + 1 + 1 + 1 := by simp [ringW]

set_option maxHeartbeats 4000000 in
theorem example_any (w : World) : Calls Tryd.prog 7 #[] w (VPost w.heap.size w (.bool true)) := by
  have CS : Hid (∀ W a b c d, NetR W (ringV a b c d) → Calls Tryd.prog 18 #[.agg #[.string ⟨#[110]⟩, .slice (some ⟨c, 0, none⟩) 2 2, .slice (some ⟨d, 0, none⟩) 2 2]] W (fun e w' => ∃ b o c, e = .returned (.tuple #[.slice (some ⟨b, o, none⟩) 1 c, .int .i64 0]) ∧ w'.cell? ⟨b, o, none⟩ = some (.int .u64 3) ∧ Below W.heap.size W w')) := fun W a b c d h => by
    refine (siphons_any (ringV a b c d) W h (ring_ok a b c d) (show 2 ≤ 12 by decide)).mono fun e w' hp => ?_
    have E : Bt.minU (clU (ringV a b c d) true (upU (2 ^ (ringV a b c d).ps.length - 1))) = [toU 3] := by
      rw [show (ringV a b c d).ps.length = 2 from rfl, ring_sets, ring_one]
    rw [E] at hp
    obtain ⟨A, c0, rfl, hr, hb⟩ := hp
    obtain ⟨bb, oo, rfl, _, hc⟩ := hr 0 (.int .u64 3) rfl
    exact ⟨bb, oo, c0, rfl, hc, hb⟩
  have CT : Hid (∀ W a b c d, NetR W (ringV a b c d) → Calls Tryd.prog 19 #[.agg #[.string ⟨#[110]⟩, .slice (some ⟨c, 0, none⟩) 2 2, .slice (some ⟨d, 0, none⟩) 2 2]] W (fun e w' => ∃ b o c, e = .returned (.tuple #[.slice (some ⟨b, o, none⟩) 1 c, .int .i64 0]) ∧ w'.cell? ⟨b, o, none⟩ = some (.int .u64 3) ∧ Below W.heap.size W w')) := fun W a b c d h => by
    refine (traps_any (ringV a b c d) W h (ring_ok a b c d) (show 2 ≤ 12 by decide)).mono fun e w' hp => ?_
    have E : Bt.minU (clU (ringV a b c d) false (upU (2 ^ (ringV a b c d).ps.length - 1))) = [toU 3] := by
      rw [show (ringV a b c d).ps.length = 2 from rfl, ring_sets, ring_one]
    rw [E] at hp
    obtain ⟨A, c0, rfl, hr, hb⟩ := hp
    obtain ⟨bb, oo, rfl, _, hc⟩ := hr 0 (.int .u64 3) rfl
    exact ⟨bb, oo, c0, rfl, hc, hb⟩
  have NB := Lib.hid (ring_below w)
  have NN := Lib.hid (ring_net w)
  have NX := Lib.hid (ring_box w)
  go_enter Tryd.func7, Tryd.ntmps7
  go_wp2_with fail
  refine (CS.out (ringW w) _ _ _ _ NN.out).mono ?_
  rintro e w1 ⟨b1, o1, c1, rfl, h1, K⟩
  obtain ⟨x0, x1, x2⟩ := NX.out
  have x0 := keepc x0 K
  have x1 := keepc x1 K
  have x2 := keepc x2 K
  have N1 := Lib.hid (NN.out.below K (Nat.le_refl _))
  have B1 := Lib.hid (NB.out.trans (K.mono NB.out.size))
  clear K NX NN NB CS
  go_wp2_with fail
  refine (CT.out w1 _ _ _ _ N1.out).mono ?_
  rintro e w2 ⟨b2, o2, c2, rfl, h2, K⟩
  have h1 := keepc h1 K
  have B2 := Lib.hid (B1.out.trans (K.mono B1.out.size))
  clear K x0 x1 x2 N1
  go_wp2
  go_ret
  exact ⟨rfl, B2.out⟩
end Go.Proofs.YtjibpkaanaphcaaDoor
