/- Bounded natural solutions: the law on rows that are repeated or doubled, and on greater bounds. -/
import Derived.Test.YtneediihponfiaaNSM
namespace Go.Proofs.Ytneediihponfiaa
open Go.RowKit

set_option maxHeartbeats 8000000 in
set_option maxRecDepth 100000 in
theorem shifts_no (p : PV) (hno : ¬ (fewB p = true ∧ chkP p.L p.b p.u = 0 ∧ 0 < p.L.length ∧ p.L.length ≤ 60)) (w : World) (hr : PW w p) :
    Calls Try.prog 8 #[.agg #[.slice p.A p.L.length p.ca, .slice p.B p.b.length p.cb, .slice p.U p.u.length p.cu]] w fun e w' => e = .returned (.bool true) ∧ Below w.heap.size w w' := by
  have CF : Hid (∀ W, Below w.heap.size w W → Calls Try.prog 9 #[.agg #[.slice p.A p.L.length p.ca, .slice p.B p.b.length p.cb, .slice p.U p.u.length p.cu]] W (VPost W.heap.size W (.bool (fewB p)))) := fun W hW => few_any p W (hr.below hW)
  have CX : Hid (∀ W, Calls Try.prog 10 #[] W (VPost W.heap.size W (.bool true))) := alive_any
  have B0 : Hid (Below w.heap.size w (w.alloc (.cells #[.slice p.A p.L.length p.ca, .slice p.B p.b.length p.cb, .slice p.U p.u.length p.cu] 25))) := (Below.refl _ _).alloc (Nat.le_refl _) _
  have q0 : (w.alloc (.cells #[.slice p.A p.L.length p.ca, .slice p.B p.b.length p.cb, .slice p.U p.u.length p.cu] 25)).cell? ⟨w.heap.size, 0, none⟩ = some (.slice p.A p.L.length p.ca) := by simp
  have q1 : (w.alloc (.cells #[.slice p.A p.L.length p.ca, .slice p.B p.b.length p.cb, .slice p.U p.u.length p.cu] 25)).cell? ⟨w.heap.size, 1, none⟩ = some (.slice p.B p.b.length p.cb) := by simp
  have q2 : (w.alloc (.cells #[.slice p.A p.L.length p.ca, .slice p.B p.b.length p.cb, .slice p.U p.u.length p.cu] 25)).cell? ⟨w.heap.size, 2, none⟩ = some (.slice p.U p.u.length p.cu) := by simp
  cases hf : fewB p
  · rw [hf] at CF
    clear hr hf
    go_enter Try.func8, Try.ntmps8
    go_wp2_with fail
    refine (CF.out _ B0.out).mono ?_
    rintro e x1 ⟨rfl, K⟩
    have q0 := keepc q0 K
    have q1 := keepc q1 K
    have q2 := keepc q2 K
    have Dx1 := Lib.hid (B0.out.trans (K.mono B0.out.size))
    clear K
    go_wp2_with fail
    refine (CX.out _).mono ?_
    rintro e x2 ⟨rfl, K⟩
    have q0 := keepc q0 K
    have q1 := keepc q1 K
    have q2 := keepc q2 K
    have Dx2 := Lib.hid (Dx1.out.trans (K.mono Dx1.out.size))
    clear K
    go_wp2
    go_ret
    exact ⟨rfl, Dx2.out⟩
  · rw [hf] at CF
    have fp := few_parts hf
    have hs : PR w p := hr.small fp.1
    have hl : lensOk p := ⟨by have := fp.2.1; omega, by have := fp.2.2.1; omega, by have := fp.2.2.2.1; omega⟩
    have CK : Hid (∀ W, Below w.heap.size w W → Calls Try.prog 12 #[.slice p.A p.L.length p.ca, .slice p.B p.b.length p.cb, .slice p.U p.u.length p.cu] W (fun e w' => e = .returned (.int .i64 (chkP p.L p.b p.u)) ∧ W = w')) := fun W hW => rcheck_any _ _ _ _ _ _ _ _ _ W (hs.below hW).rA hl.1 (hs.below hW).rB hl.2.1 (hs.below hW).rU hl.2.2
    by_cases hc : chkP p.L p.b p.u = 0
    · rw [hc] at CK
      by_cases h0 : p.L.length = 0
      · have z1 : ((p.L.length : Int) == 0) = true := by rw [beq_iff_eq]; omega
        generalize p.L.length = m at *
        clear hr hf fp hs hl hc hno h0
        go_enter Try.func8, Try.ntmps8
        go_wp2_with fail
        refine (CF.out _ B0.out).mono ?_
        rintro e x1 ⟨rfl, K⟩
        have q0 := keepc q0 K
        have q1 := keepc q1 K
        have q2 := keepc q2 K
        have Dx1 := Lib.hid (B0.out.trans (K.mono B0.out.size))
        clear K
        go_wp2_with fail
        refine (CK.out _ Dx1.out).mono ?_
        rintro e x2 ⟨rfl, rfl⟩
        go_wp2_with fail
        refine (CX.out _).mono ?_
        rintro e x3 ⟨rfl, K⟩
        have q0 := keepc q0 K
        have q1 := keepc q1 K
        have q2 := keepc q2 K
        have Dx3 := Lib.hid (Dx1.out.trans (K.mono Dx1.out.size))
        clear K
        go_wp2
        go_ret
        exact ⟨rfl, Dx3.out⟩
      · have z1 : ((p.L.length : Int) == 0) = false := by rw [beq_eq_false_iff_ne]; omega
        have h60 : ¬ p.L.length ≤ 60 := fun h => hno ⟨hf, hc, by omega, h⟩
        have z2 : decide ((60 : Int) < (p.L.length : Int)) = true := decide_eq_true (by omega)
        generalize p.L.length = m at *
        clear hr hf fp hs hl hc hno h0 h60
        go_enter Try.func8, Try.ntmps8
        go_wp2_with fail
        refine (CF.out _ B0.out).mono ?_
        rintro e x1 ⟨rfl, K⟩
        have q0 := keepc q0 K
        have q1 := keepc q1 K
        have q2 := keepc q2 K
        have Dx1 := Lib.hid (B0.out.trans (K.mono B0.out.size))
        clear K
        go_wp2_with fail
        refine (CK.out _ Dx1.out).mono ?_
        rintro e x2 ⟨rfl, rfl⟩
        go_wp2_with fail
        refine (CX.out _).mono ?_
        rintro e x3 ⟨rfl, K⟩
        have q0 := keepc q0 K
        have q1 := keepc q1 K
        have q2 := keepc q2 K
        have Dx3 := Lib.hid (Dx1.out.trans (K.mono Dx1.out.size))
        clear K
        go_wp2
        go_ret
        exact ⟨rfl, Dx3.out⟩
    · have z1 : (chkP p.L p.b p.u != 0) = true := by simpa using hc
      generalize chkP p.L p.b p.u = E at *
      clear hr hf fp hs hl hno hc
      go_enter Try.func8, Try.ntmps8
      go_wp2_with fail
      refine (CF.out _ B0.out).mono ?_
      rintro e x1 ⟨rfl, K⟩
      have q0 := keepc q0 K
      have q1 := keepc q1 K
      have q2 := keepc q2 K
      have Dx1 := Lib.hid (B0.out.trans (K.mono B0.out.size))
      clear K
      go_wp2_with fail
      refine (CK.out _ Dx1.out).mono ?_
      rintro e x2 ⟨rfl, rfl⟩
      go_wp2_with fail
      refine (CX.out _).mono ?_
      rintro e x3 ⟨rfl, K⟩
      have q0 := keepc q0 K
      have q1 := keepc q1 K
      have q2 := keepc q2 K
      have Dx3 := Lib.hid (Dx1.out.trans (K.mono Dx1.out.size))
      clear K
      go_wp2
      go_ret
      exact ⟨rfl, Dx3.out⟩
end Go.Proofs.Ytneediihponfiaa
