/- The laws on regions: signs. -/
import Derived.Test.YtnlgfkokaphhjaaRX
namespace Go.Proofs.Ytnlgfkokaphhjaa
open Go.RowKit

theorem small_of {w : World} {s : SysV} (h : SysW w s) (hl : largeS s = false) : SysR w s := by
  unfold largeS at hl
  rw [Bool.or_eq_false_iff, decide_eq_false_iff_not, decide_eq_false_iff_not] at hl
  exact h.small (by omega) (by omega)
set_option maxHeartbeats 8000000 in
set_option maxRecDepth 100000 in
theorem signs_law (s : SysV) (S : Nat) (ev : Int) (w : World) (hr : SysW w s) (hS : S < 18446744073709551616) :
    Calls Try.prog 3 #[.agg #[.int .i64 s.st, .slice s.EA s.el s.ec, .slice s.AA s.ar.length s.ac], .int .u64 (S : Nat), .int .i64 ev] w fun e w' => e = .returned (.bool true) ∧ Below w.heap.size w w' := by
  have CL : Hid (∀ W, Calls Try.prog 10 #[.agg #[.int .i64 s.st, .slice s.EA s.el s.ec, .slice s.AA s.ar.length s.ac]] W (VPost W.heap.size W (.bool (largeS s)))) := large_any s
  have CX : Hid (∀ W, Calls Try.prog 11 #[] W (VPost W.heap.size W (.bool true))) := example_any
  have B0 : Hid (Below w.heap.size w (w.alloc (.cells #[.int .i64 s.st, .slice s.EA s.el s.ec, .slice s.AA s.ar.length s.ac] 25))) := (Below.refl _ _).alloc (Nat.le_refl _) _
  have q0 : (w.alloc (.cells #[.int .i64 s.st, .slice s.EA s.el s.ec, .slice s.AA s.ar.length s.ac] 25)).cell? ⟨w.heap.size, 0, none⟩ = some (.int .i64 s.st) := by simp
  have q1 : (w.alloc (.cells #[.int .i64 s.st, .slice s.EA s.el s.ec, .slice s.AA s.ar.length s.ac] 25)).cell? ⟨w.heap.size, 1, none⟩ = some (.slice s.EA s.el s.ec) := by simp
  have q2 : (w.alloc (.cells #[.int .i64 s.st, .slice s.EA s.el s.ec, .slice s.AA s.ar.length s.ac] 25)).cell? ⟨w.heap.size, 2, none⟩ = some (.slice s.AA s.ar.length s.ac) := by simp
  cases hl : largeS s
  rotate_left
  · rw [hl] at CL
    clear hl q0 q1 q2 hr hS
    go_enter Try.func3, Try.ntmps3
    go_wp2_with fail
    refine (CL.out _).mono ?_
    rintro e x1 ⟨rfl, K⟩
    have D1 := Lib.hid (B0.out.trans (K.mono B0.out.size))
    clear K
    go_wp2_with fail
    refine (CX.out _).mono ?_
    rintro e x2 ⟨rfl, K⟩
    have D2 := Lib.hid (D1.out.trans (K.mono D1.out.size))
    clear K
    go_wp2
    go_ret
    exact ⟨rfl, D2.out⟩
  have hs := small_of hr hl
  rw [hl] at CL
  have C1 : Hid (∀ W, Below w.heap.size w W → Calls Try.prog 12 #[.agg #[.int .i64 s.st, .slice s.EA s.el s.ec, .slice s.AA s.ar.length s.ac], .int .u64 (S : Nat), .int .i64 ev] W (fun e w' => e = .returned (.tuple #[.int .i64 (sgnV s S ev).1, .bool (sgnV s S ev).2]) ∧ Below W.heap.size W w')) := fun W hW => Sign_any s S ev W (hs.below hW (Nat.le_refl _)) hS
  have C2 : Hid (∀ W, Below w.heap.size w W → Calls Try.prog 13 #[.agg #[.int .i64 s.st, .slice s.EA s.el s.ec, .slice s.AA s.ar.length s.ac], .int .u64 (S : Nat), .int .i64 ev] W (fun e w' => e = .returned (.tuple #[.int .i64 (sgnV s S ev).1, .bool (sgnV s S ev).2]) ∧ Below W.heap.size W w')) := fun W hW => rSign_any s S ev W (hs.below hW (Nat.le_refl _)) hS
  clear hl hs hr hS
  generalize (sgnV s S ev).1 = v1 at *
  generalize (sgnV s S ev).2 = v2 at *
  have z1 : (v1 == v1) = true := by simp
  have z2 : (v2 == v2) = true := by simp
  go_enter Try.func3, Try.ntmps3
  go_wp2_with fail
  refine (CL.out _).mono ?_
  rintro e x1 ⟨rfl, K⟩
  have q0 := keepc q0 K
  have q1 := keepc q1 K
  have q2 := keepc q2 K
  have D1 := Lib.hid (B0.out.trans (K.mono B0.out.size))
  clear K B0
  go_wp2_with fail
  refine (C1.out _ D1.out).mono ?_
  rintro e x2 ⟨rfl, K⟩
  have q0 := keepc q0 K
  have q1 := keepc q1 K
  have q2 := keepc q2 K
  have D2 := Lib.hid (D1.out.trans (K.mono D1.out.size))
  clear K D1
  go_wp2_with fail
  refine (C2.out _ D2.out).mono ?_
  rintro e x3 ⟨rfl, K⟩
  have D3 := Lib.hid (D2.out.trans (K.mono D2.out.size))
  clear K D2 q0 q1 q2
  go_wp2_with fail
  refine (CX.out _).mono ?_
  rintro e x4 ⟨rfl, K⟩
  have D4 := Lib.hid (D3.out.trans (K.mono D3.out.size))
  clear K
  go_wp2
  go_ret
  exact ⟨rfl, D4.out⟩
end Go.Proofs.Ytnlgfkokaphhjaa
