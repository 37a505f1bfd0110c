/- The laws on regions: the minimal ones. -/
import Derived.Test.YtnlgfkokaphhjaaRLL
namespace Go.Proofs.Ytnlgfkokaphhjaa
open Go.RowKit

set_option maxHeartbeats 8000000 in
set_option maxRecDepth 100000 in
theorem minimals_law (s : SysV) (w : World) (hr : SysW w s) :
    Calls Try.prog 6 #[.agg #[.int .i64 s.st, .slice s.EA s.el s.ec, .slice s.AA s.ar.length s.ac]] w fun e w' => e = .returned (.bool true) ∧ Below w.heap.size w w' := by
  have CL : Hid (∀ W, Calls Try.prog 10 #[.agg #[.int .i64 s.st, .slice s.EA s.el s.ec, .slice s.AA s.ar.length s.ac]] W (VPost W.heap.size W (.bool (largeS s)))) := large_any s
  have CX : Hid (∀ W, Calls Try.prog 11 #[] W (VPost W.heap.size W (.bool true))) := example_any
  have B0 : Hid (Below w.heap.size w (w.alloc (.cells #[.int .i64 s.st, .slice s.EA s.el s.ec, .slice s.AA s.ar.length s.ac] 25))) := (Below.refl _ _).alloc (Nat.le_refl _) _
  have q0 : (w.alloc (.cells #[.int .i64 s.st, .slice s.EA s.el s.ec, .slice s.AA s.ar.length s.ac] 25)).cell? ⟨w.heap.size, 0, none⟩ = some (.int .i64 s.st) := by simp
  have q1 : (w.alloc (.cells #[.int .i64 s.st, .slice s.EA s.el s.ec, .slice s.AA s.ar.length s.ac] 25)).cell? ⟨w.heap.size, 1, none⟩ = some (.slice s.EA s.el s.ec) := by simp
  have q2 : (w.alloc (.cells #[.int .i64 s.st, .slice s.EA s.el s.ec, .slice s.AA s.ar.length s.ac] 25)).cell? ⟨w.heap.size, 2, none⟩ = some (.slice s.AA s.ar.length s.ac) := by simp
  cases hl : largeS s
  rotate_left
  · rw [hl] at CL
    clear hl q0 q1 q2 hr
    go_enter Try.func6, Try.ntmps6
    go_wp2_with fail
    refine (CL.out _).mono ?_
    rintro e x1 ⟨rfl, K⟩
    have D1 := Lib.hid (B0.out.trans (K.mono B0.out.size))
    clear K
    go_wp2_with fail
    refine (CX.out _).mono ?_
    rintro e x2 ⟨rfl, K⟩
    have D2 := Lib.hid (D1.out.trans (K.mono D1.out.size))
    clear K
    go_wp2
    go_ret
    exact ⟨rfl, D2.out⟩
  have hs := small_of hr hl
  rw [hl] at CL
  clear hl hr
  by_cases hw : 6 < s.st ∧ s.st ≤ 12
  · have z1 : decide ((6 : Int) < s.st) = true := decide_eq_true hw.1
    have z2 : decide (s.st ≤ (12 : Int)) = true := decide_eq_true hw.2
    clear hw hs
    go_enter Try.func6, Try.ntmps6
    go_wp2_with fail
    refine (CL.out _).mono ?_
    rintro e x1 ⟨rfl, K⟩
    have q0 := keepc q0 K
    have q1 := keepc q1 K
    have q2 := keepc q2 K
    have D1 := Lib.hid (B0.out.trans (K.mono B0.out.size))
    clear K B0
    go_wp2_with fail
    refine (CX.out _).mono ?_
    rintro e x3 ⟨rfl, K⟩
    have D3 := Lib.hid (D1.out.trans (K.mono D1.out.size))
    clear K D1
    go_wp2
    go_ret
    exact ⟨rfl, D3.out⟩
  have C1 : Hid (∀ W, Below w.heap.size w W → Calls Try.prog 24 #[.agg #[.int .i64 s.st, .slice s.EA s.el s.ec, .slice s.AA s.ar.length s.ac]] W (AllP W.heap.size W (mnL s) (anyE s))) := fun W hW => min_law s W (hs.below hW (Nat.le_refl _))
  have C2 : Hid (∀ W, Below w.heap.size w W → Calls Try.prog 25 #[.agg #[.int .i64 s.st, .slice s.EA s.el s.ec, .slice s.AA s.ar.length s.ac]] W (AllP W.heap.size W (mnL s) (anyE s))) := fun W hW => rmin_law s W (hs.below hW (Nat.le_refl _)) (by omega)
  have hlen := mn_len s
  generalize mnL s = L at *
  generalize anyE s = E at *
  have CS : Hid (∀ A B ca cb W, Bt.Reads W A (Bt.vV L) → Bt.Reads W B (Bt.vV L) → Calls Try.prog 23 #[.slice A L.length ca, .slice B L.length cb] W (fun e w' => e = .returned (.bool true) ∧ Below W.heap.size W w')) := fun A B ca cb W h1 h2 => Bt.sets_same A B L ca cb W h1 h2 (by omega)
  have z0 : (E == E) = true := by simp
  clear hlen hs
  by_cases h6 : 6 < s.st
  · have z1 : decide ((6 : Int) < s.st) = true := decide_eq_true h6
    have z2 : decide (s.st ≤ (12 : Int)) = false := decide_eq_false (by omega)
    clear h6 hw
    go_enter Try.func6, Try.ntmps6
    go_wp2_with fail
    refine (CL.out _).mono ?_
    rintro e x1 ⟨rfl, K⟩
    have q0 := keepc q0 K
    have q1 := keepc q1 K
    have q2 := keepc q2 K
    have D1 := Lib.hid (B0.out.trans (K.mono B0.out.size))
    clear K B0
    go_wp2_with fail
    refine (C1.out _ D1.out).mono ?_
    rintro e x3 ⟨A1, c1, rfl, R1, K⟩
    have q0 := keepc q0 K
    have q1 := keepc q1 K
    have q2 := keepc q2 K
    have R1 := Lib.hid R1
    have D3 := Lib.hid (D1.out.trans (K.mono D1.out.size))
    clear K D1
    go_wp2_with fail
    refine (C2.out _ D3.out).mono ?_
    rintro e x4 ⟨A2, c2, rfl, R2, K⟩
    have R2 := Lib.hid R2
    have R1 := Lib.hid (R1.out.below K (Nat.le_refl _))
    have D4 := Lib.hid (D3.out.trans (K.mono D3.out.size))
    clear K D3
    go_wp2_with fail
    refine (CS.out _ _ _ _ _ R1.out R2.out).mono ?_
    rintro e x5 ⟨rfl, K⟩
    have D5 := Lib.hid (D4.out.trans (K.mono D4.out.size))
    clear K D4
    go_wp2_with fail
    refine (CX.out _).mono ?_
    rintro e x6 ⟨rfl, K⟩
    have D6 := Lib.hid (D5.out.trans (K.mono D5.out.size))
    clear K D5
    go_wp2
    go_ret
    exact ⟨rfl, D6.out⟩
  · have z1 : decide ((6 : Int) < s.st) = false := decide_eq_false h6
    clear h6 hw
    go_enter Try.func6, Try.ntmps6
    go_wp2_with fail
    refine (CL.out _).mono ?_
    rintro e x1 ⟨rfl, K⟩
    have q0 := keepc q0 K
    have q1 := keepc q1 K
    have q2 := keepc q2 K
    have D1 := Lib.hid (B0.out.trans (K.mono B0.out.size))
    clear K B0
    go_wp2_with fail
    refine (C1.out _ D1.out).mono ?_
    rintro e x3 ⟨A1, c1, rfl, R1, K⟩
    have q0 := keepc q0 K
    have q1 := keepc q1 K
    have q2 := keepc q2 K
    have R1 := Lib.hid R1
    have D3 := Lib.hid (D1.out.trans (K.mono D1.out.size))
    clear K D1
    go_wp2_with fail
    refine (C2.out _ D3.out).mono ?_
    rintro e x4 ⟨A2, c2, rfl, R2, K⟩
    have R2 := Lib.hid R2
    have R1 := Lib.hid (R1.out.below K (Nat.le_refl _))
    have D4 := Lib.hid (D3.out.trans (K.mono D3.out.size))
    clear K D3
    go_wp2_with fail
    refine (CS.out _ _ _ _ _ R1.out R2.out).mono ?_
    rintro e x5 ⟨rfl, K⟩
    have D5 := Lib.hid (D4.out.trans (K.mono D4.out.size))
    clear K D4
    go_wp2_with fail
    refine (CX.out _).mono ?_
    rintro e x6 ⟨rfl, K⟩
    have D6 := Lib.hid (D5.out.trans (K.mono D5.out.size))
    clear K D5
    go_wp2
    go_ret
    exact ⟨rfl, D6.out⟩
end Go.Proofs.Ytnlgfkokaphhjaa
