/- Runs of a net by weights: the example, the arguments that come in, and which runs are too long. -/
import Derived.Test.YtpfkkjgklhcejaaSR
import Derived.Test.YtpfkkjgklhcejaaFY
namespace Go.Proofs.Ytpfkkjgklhcejaa
open Go.RowKit Go.ChangeShapes Go.WideShapes Go.Deep

theorem one_run (a b c : Nat) : runR (oneV a b c) [1] 9 7 = ([0], [0], 0) := by kernel_rfl
def longB (ws : List Int) (steps : Int) : Bool := decide (60 < steps ∧ steps ≤ 10000) || decide (200 < ws.length)

set_option maxHeartbeats 1000000 in
set_option maxRecDepth 100000 in
theorem long_any (A : Option Addr) (ws : List Int) (c s0 : Nat) (steps : Int) (w : World) :
    Calls Try.prog 8 #[.agg #[.slice A ws.length c, .int .u64 (s0 : Nat), .int .i64 steps]] w (VPost w.heap.size w (.bool (longB ws steps))) := by
  have B0 : Hid (Below w.heap.size w (w.alloc (.cells #[.slice A ws.length c, .int .u64 (s0 : Nat), .int .i64 steps] 29))) := (Below.refl _ _).alloc (Nat.le_refl _) _
  have c0 : (w.alloc (.cells #[.slice A ws.length c, .int .u64 (s0 : Nat), .int .i64 steps] 29)).cell? ⟨w.heap.size, 0, none⟩ = some (.slice A ws.length c) := by simp
  have c2 : (w.alloc (.cells #[.slice A ws.length c, .int .u64 (s0 : Nat), .int .i64 steps] 29)).cell? ⟨w.heap.size, 2, none⟩ = some (.int .i64 steps) := by simp
  have HL : longB ws steps = (decide (60 < steps ∧ steps ≤ 10000) || decide (200 < ws.length)) := rfl
  generalize longB ws steps = S at *
  generalize hwl : ws.length = wl at *
  clear hwl
  have e3 : decide ((200 : Int) < (wl : Int)) = decide (200 < wl) := by rw [decide_eq_decide]; omega
  by_cases g0 : 60 < steps
  · have z0 : decide ((60 : Int) < steps) = true := decide_eq_true g0
    by_cases g1 : steps ≤ 10000
    · have z1 : decide (steps ≤ (10000 : Int)) = true := decide_eq_true g1
      rw [decide_eq_true ⟨g0, g1⟩, Bool.true_or] at HL
      have HL := Lib.hid HL.symm
      clear g0 g1 e3
      go_enter Try.func8, Try.ntmps8
      go_wp2
      go_ret
      exact ⟨ret_b HL.out, B0.out⟩
    · have z1 : decide (steps ≤ (10000 : Int)) = false := decide_eq_false g1
      rw [decide_eq_false (fun h => g1 h.2), Bool.false_or, ← e3] at HL
      by_cases g2 : (200 : Int) < (wl : Int)
      · have z2 : decide ((200 : Int) < (wl : Int)) = true := decide_eq_true g2
        rw [z2] at HL
        have HL := Lib.hid HL.symm
        clear g0 g1 e3 g2
        go_enter Try.func8, Try.ntmps8
        go_wp2
        go_ret
        exact ⟨ret_b HL.out, B0.out⟩
      · have z2 : decide ((200 : Int) < (wl : Int)) = false := decide_eq_false g2
        rw [z2] at HL
        have HL := Lib.hid HL.symm
        clear g0 g1 e3 g2
        go_enter Try.func8, Try.ntmps8
        go_wp2
        go_ret
        exact ⟨ret_b HL.out, B0.out⟩
  · have z0 : decide ((60 : Int) < steps) = false := decide_eq_false g0
    rw [decide_eq_false (fun h => g0 h.1), Bool.false_or, ← e3] at HL
    by_cases g2 : (200 : Int) < (wl : Int)
    · have z2 : decide ((200 : Int) < (wl : Int)) = true := decide_eq_true g2
      rw [z2] at HL
      have HL := Lib.hid HL.symm
      clear g0 e3 g2
      go_enter Try.func8, Try.ntmps8
      go_wp2
      go_ret
      exact ⟨ret_b HL.out, B0.out⟩
    · have z2 : decide ((200 : Int) < (wl : Int)) = false := decide_eq_false g2
      rw [z2] at HL
      have HL := Lib.hid HL.symm
      clear g0 e3 g2
      go_enter Try.func8, Try.ntmps8
      go_wp2
      go_ret
      exact ⟨ret_b HL.out, B0.out⟩

set_option maxHeartbeats 4000000 in
set_option maxRecDepth 100000 in
theorem example_any (w : World) :
    Calls Try.prog 9 #[] w (VPost w.heap.size w (.bool true)) := by
  have CR : Hid (∀ W a b c B, NetR W (oneV a b c) → ReadsV W B [1] → Calls Try.prog 10 #[.agg #[.string ⟨#[110]⟩, .slice (some ⟨a, 0, none⟩) 1 1, .slice (some ⟨c, 0, none⟩) 1 1], .slice B 1 1, .int .u64 7, .int .i64 9] W (fun e w' => ∃ A c B d, e = .returned (.tuple #[.slice A 1 c, .slice B 1 d, .int .i64 0]) ∧ ReadsV w' B [0] ∧ Below W.heap.size W w')) := fun W a b c B h1 h2 => by
    refine (srun_any (oneV a b c) B [1] 1 7 9 W h1 h2 (by decide)).mono fun e w' h => ?_
    rw [one_run] at h
    obtain ⟨A, c', B', d, e1, _, r2, hb⟩ := h
    exact ⟨A, c', B', d, e1, r2, hb⟩
  have NB := Lib.hid (one_below w)
  have NN := Lib.hid (one_net w)
  have NM := Lib.hid (one_m w)
  have NX := Lib.hid (one_box w)
  go_enter Try.func9, Try.ntmps9
  go_wp2_with fail
  refine (CR.out (oneW w) _ (w.heap.size + 1) _ _ NN.out NM.out).mono ?_
  rintro e w1 ⟨A1, c1, B1, d1, rfl, R, K⟩
  have D1 := Lib.hid (NB.out.trans (K.mono NB.out.size))
  obtain ⟨bm, om, e1, hx⟩ := at_of_reads R 0 (by decide)
  subst e1
  have hx0 : w1.cell? ⟨bm, om, none⟩ = some (.int .i64 0) := hx
  clear K R hx NX NN NM NB CR
  go_wp2
  go_ret
  exact ⟨rfl, D1.out⟩
section
variable {H : Type} {enc : TypeId × Value → H} {w : World} {base : Nat} {spare : Nat → Bool} {held : Bool}
theorem open_intsV {fuel : Nat} {v : Value} {x : DataW H × List MemPlace} (h : DataW.trod enc Try.prog w base spare held fuel 26 [v] = some x) :
    ∃ A c zs, v = .slice A (List.length zs) c ∧ ReadsV w A zs ∧ zs.length ≤ maxLen := by
  rcases open_ints Try.underlying26 Try.underlying3 (by kernel_rfl) h with ⟨hcs, _⟩ | ⟨a, l, c, zs, hcs, _, hl, hm, hz, _, hcell, _⟩
  · simp at hcs
    exact ⟨none, 0, [], hcs, ReadsV.nil _ _, Nat.zero_le _⟩
  · simp at hcs
    have hzl : l ≤ zs.length := by rw [hz]; split <;> omega
    refine ⟨some a, c, zs.take l, by rw [hcs, List.length_take]; congr 1; omega, fun j hj => ?_, by rw [List.length_take]; omega⟩
    have hj' : j < l := by rw [List.length_take] at hj; omega
    obtain ⟨b, off, rfl, hc⟩ := ints_at hcell (by omega)
    have h := hc j (by omega)
    refine ⟨b, off, rfl, World.block_lt_of_cell? w ⟨b, off + j, none⟩ h, ?_⟩
    rw [h]
    simp [at0, hj']
set_option maxRecDepth 100000 in
theorem open_args {r : Reach} {b0 : Nat} {v : Value} {d : DataW H} {p : List MemPlace} (hv : Value.okWide Try.prog w r b0 29 v) (h : DataW.Trod enc Try.prog w base spare held 29 v d p) :
    ∃ (A : Option Addr) (ws : List Int) (c s0 : Nat) (steps : Int), v = .agg #[.slice A ws.length c, .int .u64 (s0 : Nat), .int .i64 steps] ∧ ReadsV w A ws ∧ ws.length ≤ maxLen ∧ s0 < 18446744073709551616 ∧ -9223372036854775808 ≤ steps ∧ steps ≤ 9223372036854775807 := by
  obtain ⟨v0, v1, v2, y0, y1, y2, n, rfl, _, _, t0, t1, t2⟩ := Joins.open_agg3 Try.underlying29 (by kernel_rfl) (by kernel_rfl) hv h
  obtain ⟨A, c, ws, rfl, h1, h2⟩ := open_intsV t0
  obtain ⟨s1, e1, _, g1⟩ := DataW.trod_int Try.underlying27 t1
  obtain ⟨s2, e2, _, g2⟩ := DataW.trod_int Try.underlying3 t2
  simp at e1 e2
  subst e1 e2
  have u1 : 0 ≤ s1 ∧ s1 ≤ 18446744073709551615 := by simpa [Lit.wf, IntKind.min, IntKind.max, IntKind.signed, IntKind.bits] using g1
  have u2 : -9223372036854775808 ≤ s2 ∧ s2 ≤ 9223372036854775807 := by simpa [Lit.wf, IntKind.min, IntKind.max, IntKind.signed, IntKind.bits] using g2
  obtain ⟨m, rfl⟩ : ∃ m : Nat, s1 = m := ⟨s1.toNat, by omega⟩
  exact ⟨A, ws, c, m, s2, rfl, h1, h2, by omega, u2.1, u2.2⟩
end
end Go.Proofs.Ytpfkkjgklhcejaa
