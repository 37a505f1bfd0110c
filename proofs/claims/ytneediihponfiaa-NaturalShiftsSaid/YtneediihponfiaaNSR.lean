/- Bounded natural solutions: Solve of the reference. -/
import Derived.Test.YtneediihponfiaaNAR
namespace Go.Proofs.Ytneediihponfiaa
open Go.RowKit

theorem solv_all (p : PV) : allE p 1 = chkP p.L p.b p.u ∧ (allV p 1 = (match solvV p with | none => [] | some x => [x])) := by
  by_cases hc : chkP p.L p.b p.u = 0
  · have e1 : allE p 1 = 0 := by unfold allE; rw [if_pos hc, if_neg (by omega)]
    refine ⟨by rw [e1, hc], ?_⟩
    unfold allV
    rw [if_pos e1, solv_fine hc]
    cases solT p.L p.b p.u <;> rfl
  · have e1 : allE p 1 = chkP p.L p.b p.u := if_neg hc
    refine ⟨e1, ?_⟩
    unfold allV
    rw [if_neg (by rw [e1]; exact hc), solv_bad hc]
set_option maxHeartbeats 8000000 in
set_option maxRecDepth 100000 in
theorem rsolve_any (p : PV) (w : World) (hr : PR w p) (hl : lensOk p) :
    Calls Try.prog 14 #[.slice p.A p.L.length p.ca, .slice p.B p.b.length p.cb, .slice p.U p.u.length p.cu] w (SPost p w) := by
  have CA := rall_any p 1 w hr hl
  obtain ⟨e1, e2⟩ := solv_all p
  rw [e1, e2] at CA
  have HZ : Hid (solvV p ≠ none → chkP p.L p.b p.u = 0) := fun h => by
    apply Classical.byContradiction
    intro hc
    exact h (solv_bad hc)
  unfold SPost
  unfold LPost2 at CA
  generalize chkP p.L p.b p.u = E at *
  generalize solvV p = s at *
  clear e1 e2 hr hl
  cases s with
  | none =>
    clear HZ
    go_enter Try.func14, Try.ntmps14
    go_wp2_with fail
    refine CA.mono ?_
    rintro e x1 ⟨A, c, L, rfl, h1, h2, K⟩
    obtain rfl : L = [] := by
      have := congrArg List.length h1
      rw [rowsL_len] at this
      exact List.eq_nil_of_length_eq_zero this
    clear h1 h2
    go_wp2
    go_ret3
    exact ⟨none, 0, rfl, ReadsV.nil _ _, K⟩
  | some x =>
    obtain rfl : E = 0 := HZ.out (by simp)
    clear HZ
    go_enter Try.func14, Try.ntmps14
    go_wp2_with fail
    refine CA.mono ?_
    rintro e x1 ⟨A, c, L, rfl, h1, h2, K⟩
    obtain ⟨r, rfl, hrx⟩ : ∃ r, L = [r] ∧ r.zs = x := by
      match L, h1 with
      | [r], h => exact ⟨r, rfl, by simpa [rowsL] using h⟩
      | [], h => simp [rowsL] at h
      | _ :: _ :: _, h => simp [rowsL] at h
    obtain ⟨b, off, e, hc⟩ := h2.1.at 0 (by simp)
    have hrd := (h2.2 r (by simp)).1
    have e0 : rA [r] 0 = r := rfl
    rw [e0, Nat.add_zero] at hc
    subst hrx
    subst e
    have HR := Lib.hid hrd
    have KK := Lib.hid K
    clear h1 h2 hrd K CA e0
    obtain ⟨rAa, rz, rc⟩ := r
    dsimp only at *
    go_wp2
    go_ret3
    first | exact ⟨_, _, rfl, HR.out, KK.out⟩ | exact ⟨_, ⟨_, rfl⟩, HR.out, KK.out⟩
end Go.Proofs.Ytneediihponfiaa
