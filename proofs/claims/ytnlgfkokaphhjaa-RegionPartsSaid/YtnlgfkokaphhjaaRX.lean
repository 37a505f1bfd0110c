/- Regions: the example, and which systems are too large. -/
import Derived.Test.YtnlgfkokaphhjaaRU
namespace Go.Proofs.Ytnlgfkokaphhjaa
open Go.RowKit

theorem past {w : World} {o : Obj} {p : Addr} {v : Value} (h : w.cell? p = some v) : (w.alloc o).cell? p = some v := (World.cell?_alloc_lt _ _ _ (World.block_lt_of_cell? w p h)).trans h
theorem newc (w : World) (cs : Array Value) (t : TypeId) (i : Nat) (v : Value) (h : cs[i]? = some v) {g : Nat} (hg : g = w.heap.size) : (w.alloc (.cells cs t)).cell? ⟨g, i, none⟩ = some v := by
  subst hg
  rw [World.cell?_alloc_new]
  exact h
def ringS (a b : Nat) : SysV := ⟨2, some ⟨a, 0, none⟩, 2, fun j => if j = 0 then ⟨#[97]⟩ else ⟨#[98]⟩, 2, some ⟨b, 0, none⟩, [⟨0, 0, 1⟩, ⟨1, 1, 0⟩], 2⟩
theorem ring_ok (a b : Nat) : okS (ringS a b) = true := by kernel_rfl
theorem ring_sets (a b : Nat) : allR (ringS a b) = zU 4 := by kernel_rfl
theorem ring_sign (a b : Nat) : sgnV (ringS a b) 1 0 = (-1, true) := by kernel_rfl
def largeS (s : SysV) : Bool := decide (70 < s.el) || decide (400 < s.ar.length)
set_option maxHeartbeats 1000000 in
theorem large_any (s : SysV) (w : World) : Calls Try.prog 10 #[.agg #[.int .i64 s.st, .slice s.EA s.el s.ec, .slice s.AA s.ar.length s.ac]] w (VPost w.heap.size w (.bool (largeS s))) := by
  have B0 : Hid (Below w.heap.size w (w.alloc (.cells #[.int .i64 s.st, .slice s.EA s.el s.ec, .slice s.AA s.ar.length s.ac] 25))) := (Below.refl _ _).alloc (Nat.le_refl _) _
  by_cases h1 : 70 < s.el
  · have z1 : decide ((70 : Int) < (s.el : Int)) = true := by simp; omega
    have E : largeS s = true := by unfold largeS; rw [decide_eq_true h1]; rfl
    rw [E]
    clear E
    go_enter Try.func10, Try.ntmps10
    go_wp2
    go_ret
    exact ⟨rfl, B0.out⟩
  · have z1 : decide ((70 : Int) < (s.el : Int)) = false := by simp; omega
    obtain ⟨z, hz⟩ : ∃ z, z = decide (400 < s.ar.length) := ⟨_, rfl⟩
    have z2 : decide ((400 : Int) < (s.ar.length : Int)) = z := by rw [hz]; congr 1; simp; omega
    have E : largeS s = z := by unfold largeS; rw [decide_eq_false h1, hz]; rfl
    rw [E]
    clear E hz
    go_enter Try.func10, Try.ntmps10
    go_wp2
    go_ret
    exact ⟨rfl, B0.out⟩
def ringW (w : World) : World := (((w.alloc (.cells #[.string ⟨#[97]⟩, .string ⟨#[98]⟩] 9)).alloc (.cells #[.int .i64 0, .int .i64 0, .int .i64 1, .int .i64 1, .int .i64 1, .int .i64 0] 45)).alloc (.cells #[.int .i64 2, .slice (some ⟨w.heap.size, 0, none⟩) 2 2, .slice (some ⟨w.heap.size + 1, 0, none⟩) 2 2] 25))
theorem ring_below (w : World) : Below w.heap.size w (ringW w) := (((Below.refl _ _).alloc (Nat.le_refl _) _).alloc (by simp) _).alloc (by simp; omega) _
theorem ring_sys (w : World) : SysR (ringW w) (ringS w.heap.size (w.heap.size + 1)) := by
  refine ⟨(show 2 ≤ 70 by decide), (show 2 ≤ 2 by decide), (show 2 ≤ 400 by decide), ?_, ?_, ?_⟩
  · intro j hj
    match j, hj with
    | 0, _ => exact (show (ByteArray.mk #[97]).size ≤ maxLen by decide)
    | 1, _ => exact (show (ByteArray.mk #[98]).size ≤ maxLen by decide)
  · intro j hj
    have hl : w.heap.size < (ringW w).heap.size := by simp [ringW] <;> omega
    match j, hj with
    | 0, _ => exact ⟨w.heap.size, 0, rfl, hl, past (past (newc _ _ _ _ _ rfl rfl))⟩
    | 1, _ => exact ⟨w.heap.size, 0, rfl, hl, past (past (newc _ _ _ _ _ rfl rfl))⟩
  · intro j hj
    have hl : w.heap.size + 1 < (ringW w).heap.size := by simp [ringW] <;> omega
    have hs : w.heap.size + 1 = (w.alloc (.cells #[.string ⟨#[97]⟩, .string ⟨#[98]⟩] 9)).heap.size := by rw [World.size_alloc]
    match j, hj with
    | 0, _ => exact ⟨w.heap.size + 1, 0, rfl, hl, past (newc _ _ _ _ _ rfl hs), past (newc _ _ _ _ _ rfl hs), past (newc _ _ _ _ _ rfl hs)⟩
    | 1, _ => exact ⟨w.heap.size + 1, 0, rfl, hl, past (newc _ _ _ _ _ rfl hs), past (newc _ _ _ _ _ rfl hs), past (newc _ _ _ _ _ rfl hs)⟩
theorem ring_box (w : World) : (ringW w).cell? ⟨w.heap.size + 1 + 1, 0, none⟩ = some (.int .i64 2) ∧ (ringW w).cell? ⟨w.heap.size + 1 + 1, 1, none⟩ = some (.slice (some ⟨w.heap.size, 0, none⟩) 2 2) ∧ (ringW w).cell? ⟨w.heap.size + 1 + 1, 2, none⟩ = some (.slice (some ⟨w.heap.size + 1, 0, none⟩) 2 2) := by
  have hs : w.heap.size + 1 + 1 = ((w.alloc (.cells #[.string ⟨#[97]⟩, .string ⟨#[98]⟩] 9)).alloc (.cells #[.int .i64 0, .int .i64 0, .int .i64 1, .int .i64 1, .int .i64 1, .int .i64 0] 45)).heap.size := by rw [World.size_alloc, World.size_alloc]
  exact ⟨newc _ _ _ _ _ rfl hs, newc _ _ _ _ _ rfl hs, newc _ _ _ _ _ rfl hs⟩
theorem four_reads (W : World) (t : TypeId) : Bt.Reads (W.alloc (.cells #[.int .u64 0, .int .u64 1, .int .u64 2, .int .u64 3] t)) (some ⟨W.heap.size, 0, none⟩) (Bt.vV (zU 4)) := fun j v hj => by
  have hl : W.heap.size < (W.alloc (.cells #[.int .u64 0, .int .u64 1, .int .u64 2, .int .u64 3] t)).heap.size := by rw [World.size_alloc]; omega
  match j, hj with
  | 0, h => cases h; exact ⟨_, 0, rfl, hl, newc _ _ _ _ _ rfl rfl⟩
  | 1, h => cases h; exact ⟨_, 0, rfl, hl, newc _ _ _ _ _ rfl rfl⟩
  | 2, h => cases h; exact ⟨_, 0, rfl, hl, newc _ _ _ _ _ rfl rfl⟩
  | 3, h => cases h; exact ⟨_, 0, rfl, hl, newc _ _ _ _ _ rfl rfl⟩
set_option maxHeartbeats 4000000 in
theorem example_any (w : World) : Calls Try.prog 11 #[] w (VPost w.heap.size w (.bool true)) := by
  have CA : Hid (∀ W a b, SysR W (ringS a b) → Calls Try.prog 21 #[.agg #[.int .i64 2, .slice (some ⟨a, 0, none⟩) 2 2, .slice (some ⟨b, 0, none⟩) 2 2]] W (fun e w' => ∃ A c, e = .returned (.tuple #[.slice A 4 c, .int .i64 0]) ∧ Bt.Reads w' A (Bt.vV (zU 4)) ∧ Below W.heap.size W w')) := fun W a b h => by
    refine (all_small (ringS a b) W h (ring_ok a b) (show (2 : Int) ≤ 8 by decide)).mono fun e w' hp => ?_
    unfold AllP at hp
    rw [ring_sets] at hp
    exact hp
  have CG : Hid (∀ W a b, SysR W (ringS a b) → Calls Try.prog 12 #[.agg #[.int .i64 2, .slice (some ⟨a, 0, none⟩) 2 2, .slice (some ⟨b, 0, none⟩) 2 2], .int .u64 1, .int .i64 0] W (fun e w' => e = .returned (.tuple #[.int .i64 (-1), .bool true]) ∧ Below W.heap.size W w')) := fun W a b h => by
    refine (Sign_any (ringS a b) 1 0 W h (by decide)).mono fun e w' hp => ?_
    rw [ring_sign] at hp
    exact hp
  have CM : Hid (∀ A B ca cb W, Bt.Reads W A (Bt.vV (zU 4)) → Bt.Reads W B (Bt.vV (zU 4)) → Calls Try.prog 23 #[.slice A 4 ca, .slice B 4 cb] W (fun e w' => e = .returned (.bool true) ∧ Below W.heap.size W w')) := fun A B ca cb W h1 h2 => Bt.sets_same A B (zU 4) ca cb W h1 h2 (by rw [zU_len]; decide)
  have NB := Lib.hid (ring_below w)
  have NN := Lib.hid (ring_sys w)
  have NX := Lib.hid (ring_box w)
  go_enter Try.func11, Try.ntmps11
  go_wp2_with fail
  refine (CA.out (ringW w) _ _ NN.out).mono ?_
  rintro e w1 ⟨A1, c1, rfl, R1, K⟩
  obtain ⟨x0, x1, x2⟩ := NX.out
  have x0 := keepc x0 K
  have x1 := keepc x1 K
  have x2 := keepc x2 K
  have N1 := Lib.hid (NN.out.below K (Nat.le_refl _))
  have B1 := Lib.hid (NB.out.trans (K.mono NB.out.size))
  have R1 := Lib.hid R1
  clear K NX NN NB CA
  go_wp2_with fail
  refine (CG.out w1 _ _ N1.out).mono ?_
  rintro e w2 ⟨rfl, K⟩
  have R2 := Lib.hid (R1.out.below K (Nat.le_refl _))
  have B2 := Lib.hid (B1.out.trans (K.mono B1.out.size))
  clear K x0 x1 x2 N1 R1 B1 CG
  go_wp2_with fail
  refine (CM.out _ _ _ _ _ (R2.out.alloc _) (four_reads w2 _)).mono ?_
  rintro e w3 ⟨rfl, K⟩
  have B3 := Lib.hid ((B2.out.alloc B2.out.size _).trans (K.mono (B2.out.alloc B2.out.size _).size))
  clear K
  go_wp2
  go_ret
  exact ⟨rfl, B3.out⟩
end Go.Proofs.Ytnlgfkokaphhjaa
