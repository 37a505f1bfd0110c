/- The laws on regions: the list of all. -/
import Derived.Test.YtnlgfkokaphhjaaRY
import Derived.Test.YtnlgfkokaphhjaaRLB
namespace Go.Proofs.Ytnlgfkokaphhjaa
open Go.RowKit

theorem any_len (s : SysV) : (anyL s).length ≤ 512 := by
  unfold anyL resL
  split
  · split
    · assumption
    · simp
  · simp
theorem mn_len (s : SysV) : (mnL s).length ≤ 512 := by
  unfold mnL
  split
  · rename_i h
    obtain ⟨h1, h2, h3⟩ := anyE_zero h
    have h4 := midR_len h1 h2
    have h5 := (Bt.minU_spec (midR s)).2.2.1
    unfold minR
    omega
  · simp
def wideS (s : SysV) : Bool := decide (8 < s.st) && decide (s.st ≤ 12)
set_option maxHeartbeats 1000000 in
theorem wide_any (s : SysV) (w : World) : Calls Try.prog 20 #[.agg #[.int .i64 s.st, .slice s.EA s.el s.ec, .slice s.AA s.ar.length s.ac]] w (VPost w.heap.size w (.bool (wideS s))) := by
  have B0 : Hid (Below w.heap.size w (w.alloc (.cells #[.int .i64 s.st, .slice s.EA s.el s.ec, .slice s.AA s.ar.length s.ac] 25))) := (Below.refl _ _).alloc (Nat.le_refl _) _
  have q0 : (w.alloc (.cells #[.int .i64 s.st, .slice s.EA s.el s.ec, .slice s.AA s.ar.length s.ac] 25)).cell? ⟨w.heap.size, 0, none⟩ = some (.int .i64 s.st) := by simp
  by_cases h1 : 8 < s.st
  · have z1 : decide ((8 : Int) < s.st) = true := decide_eq_true h1
    by_cases h2 : s.st ≤ 12
    · have z2 : decide (s.st ≤ (12 : Int)) = true := decide_eq_true h2
      have E : wideS s = true := by unfold wideS; rw [z1, z2]; rfl
      rw [E]
      clear E
      go_enter Try.func20, Try.ntmps20
      go_wp2
      go_ret
      exact ⟨rfl, B0.out⟩
    · have z2 : decide (s.st ≤ (12 : Int)) = false := decide_eq_false h2
      have E : wideS s = false := by unfold wideS; rw [z1, z2]; rfl
      rw [E]
      clear E
      go_enter Try.func20, Try.ntmps20
      go_wp2
      go_ret
      exact ⟨rfl, B0.out⟩
  · have z1 : decide ((8 : Int) < s.st) = false := decide_eq_false h1
    have E : wideS s = false := by unfold wideS; rw [z1]; rfl
    rw [E]
    clear E
    go_enter Try.func20, Try.ntmps20
    go_wp2
    go_ret
    exact ⟨rfl, B0.out⟩
set_option maxHeartbeats 8000000 in
set_option maxRecDepth 100000 in
theorem lists_law (s : SysV) (w : World) (hr : SysW w s) :
    Calls Try.prog 5 #[.agg #[.int .i64 s.st, .slice s.EA s.el s.ec, .slice s.AA s.ar.length s.ac]] w fun e w' => e = .returned (.bool true) ∧ Below w.heap.size w w' := by
  have CL : Hid (∀ W, Calls Try.prog 10 #[.agg #[.int .i64 s.st, .slice s.EA s.el s.ec, .slice s.AA s.ar.length s.ac]] W (VPost W.heap.size W (.bool (largeS s)))) := large_any s
  have CX : Hid (∀ W, Calls Try.prog 11 #[] W (VPost W.heap.size W (.bool true))) := example_any
  have B0 : Hid (Below w.heap.size w (w.alloc (.cells #[.int .i64 s.st, .slice s.EA s.el s.ec, .slice s.AA s.ar.length s.ac] 25))) := (Below.refl _ _).alloc (Nat.le_refl _) _
  have q0 : (w.alloc (.cells #[.int .i64 s.st, .slice s.EA s.el s.ec, .slice s.AA s.ar.length s.ac] 25)).cell? ⟨w.heap.size, 0, none⟩ = some (.int .i64 s.st) := by simp
  have q1 : (w.alloc (.cells #[.int .i64 s.st, .slice s.EA s.el s.ec, .slice s.AA s.ar.length s.ac] 25)).cell? ⟨w.heap.size, 1, none⟩ = some (.slice s.EA s.el s.ec) := by simp
  have q2 : (w.alloc (.cells #[.int .i64 s.st, .slice s.EA s.el s.ec, .slice s.AA s.ar.length s.ac] 25)).cell? ⟨w.heap.size, 2, none⟩ = some (.slice s.AA s.ar.length s.ac) := by simp
  cases hl : largeS s
  rotate_left
  · rw [hl] at CL
    clear hl q0 q1 q2 hr
    go_enter Try.func5, Try.ntmps5
    go_wp2_with fail
    refine (CL.out _).mono ?_
    rintro e x1 ⟨rfl, K⟩
    have D1 := Lib.hid (B0.out.trans (K.mono B0.out.size))
    clear K
    go_wp2_with fail
    refine (CX.out _).mono ?_
    rintro e x2 ⟨rfl, K⟩
    have D2 := Lib.hid (D1.out.trans (K.mono D1.out.size))
    clear K
    go_wp2
    go_ret
    exact ⟨rfl, D2.out⟩
  have hs := small_of hr hl
  rw [hl] at CL
  clear hl hr
  have CW : Hid (∀ W, Calls Try.prog 20 #[.agg #[.int .i64 s.st, .slice s.EA s.el s.ec, .slice s.AA s.ar.length s.ac]] W (VPost W.heap.size W (.bool (wideS s)))) := wide_any s
  cases hw : wideS s
  rotate_left
  · rw [hw] at CW
    clear hw hs
    go_enter Try.func5, Try.ntmps5
    go_wp2_with fail
    refine (CL.out _).mono ?_
    rintro e x1 ⟨rfl, K⟩
    have q0 := keepc q0 K
    have q1 := keepc q1 K
    have q2 := keepc q2 K
    have D1 := Lib.hid (B0.out.trans (K.mono B0.out.size))
    clear K B0
    go_wp2_with fail
    refine (CW.out _).mono ?_
    rintro e x2 ⟨rfl, K⟩
    have D2 := Lib.hid (D1.out.trans (K.mono D1.out.size))
    clear K D1
    go_wp2_with fail
    refine (CX.out _).mono ?_
    rintro e x3 ⟨rfl, K⟩
    have D3 := Lib.hid (D2.out.trans (K.mono D2.out.size))
    clear K D2
    go_wp2
    go_ret
    exact ⟨rfl, D3.out⟩
  rw [hw] at CW
  have hn : ¬ (8 < s.st ∧ s.st ≤ 12) := by
    unfold wideS at hw
    rw [Bool.and_eq_false_iff, decide_eq_false_iff_not, decide_eq_false_iff_not] at hw
    omega
  have C1 : Hid (∀ W, Below w.heap.size w W → Calls Try.prog 21 #[.agg #[.int .i64 s.st, .slice s.EA s.el s.ec, .slice s.AA s.ar.length s.ac]] W (AllC W.heap.size W (anyL s) (anyE s))) := fun W hW => all_law s W (hs.below hW (Nat.le_refl _))
  have C2 : Hid (∀ W, Below w.heap.size w W → Calls Try.prog 22 #[.agg #[.int .i64 s.st, .slice s.EA s.el s.ec, .slice s.AA s.ar.length s.ac]] W (AllP W.heap.size W (anyL s) (anyE s))) := fun W hW => rall_law s W (hs.below hW (Nat.le_refl _)) hn
  have hlen := any_len s
  clear hw hn hs
  generalize anyL s = L at *
  generalize anyE s = E at *
  have CS : Hid (∀ A B ca cb W, Bt.Reads W A (Bt.vV L) → Bt.Reads W B (Bt.vV L) → Calls Try.prog 23 #[.slice A L.length ca, .slice B L.length cb] W (fun e w' => e = .returned (.bool true) ∧ Below W.heap.size W w')) := fun A B ca cb W h1 h2 => Bt.sets_same A B L ca cb W h1 h2 (by omega)
  have z1 : (E == E) = true := by simp
  clear hlen
  go_enter Try.func5, Try.ntmps5
  go_wp2_with fail
  refine (CL.out _).mono ?_
  rintro e x1 ⟨rfl, K⟩
  have q0 := keepc q0 K
  have q1 := keepc q1 K
  have q2 := keepc q2 K
  have D1 := Lib.hid (B0.out.trans (K.mono B0.out.size))
  clear K B0
  go_wp2_with fail
  refine (CW.out _).mono ?_
  rintro e x2 ⟨rfl, K⟩
  have q0 := keepc q0 K
  have q1 := keepc q1 K
  have q2 := keepc q2 K
  have D2 := Lib.hid (D1.out.trans (K.mono D1.out.size))
  clear K D1
  go_wp2_with fail
  refine (C1.out _ D2.out).mono ?_
  rintro e x3 ⟨A1, c1, rfl, R1, _, K⟩
  have q0 := keepc q0 K
  have q1 := keepc q1 K
  have q2 := keepc q2 K
  have R1 := Lib.hid R1
  have D3 := Lib.hid (D2.out.trans (K.mono D2.out.size))
  clear K D2
  go_wp2_with fail
  refine (C2.out _ D3.out).mono ?_
  rintro e x4 ⟨A2, c2, rfl, R2, K⟩
  have R2 := Lib.hid R2
  have R1 := Lib.hid (R1.out.below K (Nat.le_refl _))
  have D4 := Lib.hid (D3.out.trans (K.mono D3.out.size))
  clear K D3
  go_wp2_with fail
  refine (CS.out _ _ _ _ _ R1.out R2.out).mono ?_
  rintro e x5 ⟨rfl, K⟩
  have D5 := Lib.hid (D4.out.trans (K.mono D4.out.size))
  clear K D4
  go_wp2_with fail
  refine (CX.out _).mono ?_
  rintro e x6 ⟨rfl, K⟩
  have D6 := Lib.hid (D5.out.trans (K.mono D5.out.size))
  clear K D5
  go_wp2
  go_ret
  exact ⟨rfl, D6.out⟩
end Go.Proofs.Ytnlgfkokaphhjaa
