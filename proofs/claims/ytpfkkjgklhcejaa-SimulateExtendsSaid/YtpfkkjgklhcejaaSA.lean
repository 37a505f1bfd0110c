/- Runs of a net by weights: the check of the arguments, by the program and by the reference. -/
import Derived.Test.YtpfkkjgklhcejaaSM
namespace Go.Proofs.Ytpfkkjgklhcejaa
open Go.RowKit

def badW (ws : List Int) (k : Nat) : Bool := decide (at0 ws k < 0) || decide (1000 < at0 ws k)
theorem okW_bad (ws : List Int) : okW ws = !anyB (badW ws) ws.length := by
  cases h : anyB (badW ws) ws.length
  · refine allB_yes fun k hk => ?_
    have := anyB_false.1 h k hk
    unfold badW at this
    rw [Bool.or_eq_false_iff, decide_eq_false_iff_not, decide_eq_false_iff_not] at this
    exact decide_eq_true (by omega)
  · obtain ⟨k, hk, hb⟩ := anyB_iff.1 h
    unfold badW at hb
    rw [Bool.or_eq_true, decide_eq_true_eq, decide_eq_true_eq] at hb
    exact allB_no k hk (decide_eq_false (by omega))
/-- the error of the arguments -/
def argE (n : NetV) (ws : List Int) (steps : Int) : Int :=
  if (chkV n).1 ≠ 0 then (chkV n).1 else if ws.length ≠ n.ts.length then 2 else if okW ws = false then 1 else if steps < 0 ∨ 10000 < steps then 1 else 0
def runE (n : NetV) (ws : List Int) (steps runs : Int) : Int :=
  if argE n ws steps ≠ 0 then argE n ws steps else if runs < 1 ∨ 100 < runs then 1 else 0
theorem argE_ok {n : NetV} {ws : List Int} {steps : Int} (h : argE n ws steps = 0) : okN n = true ∧ ws.length = n.ts.length ∧ okW ws = true ∧ 0 ≤ steps ∧ steps ≤ 10000 := by
  unfold argE at h
  by_cases h1 : (chkV n).1 = 0
  · rw [if_neg (by simpa using h1)] at h
    by_cases h2 : ws.length = n.ts.length
    · rw [if_neg (by simpa using h2)] at h
      cases h3 : okW ws
      · rw [h3, if_pos rfl] at h; exact absurd h (by decide)
      · rw [h3, if_neg (by decide)] at h
        by_cases h4 : steps < 0 ∨ 10000 < steps
        · rw [if_pos h4] at h; exact absurd h (by decide)
        · exact ⟨decide_eq_true h1, h2, rfl, by omega, by omega⟩
    · rw [if_pos h2] at h; exact absurd h (by decide)
  · rw [if_pos h1] at h; exact absurd h h1
theorem clos_w (x : Int) (w : World) : Calls Try.prog 40 #[.int .i64 x] w fun e w' => e = .returned (.bool (decide (x < 0) || decide (1000 < x))) ∧ w = w' := by
  by_cases h1 : x < 0
  · have z1 : decide (x < 0) = true := decide_eq_true h1
    rw [z1]
    clear h1
    go_enter Try.func40, Try.ntmps40
    go_wp2
    go_ret
    exact ⟨rfl, rfl⟩
  · have z1 : decide (x < 0) = false := decide_eq_false h1
    by_cases h2 : 1000 < x
    · have z2 : decide (1000 < x) = true := decide_eq_true h2
      rw [z1, z2]
      clear h1 h2
      go_enter Try.func40, Try.ntmps40
      go_wp2
      go_ret
      exact ⟨rfl, rfl⟩
    · have z2 : decide (1000 < x) = false := decide_eq_false h2
      rw [z1, z2]
      clear h1 h2
      go_enter Try.func40, Try.ntmps40
      go_wp2
      go_ret
      exact ⟨rfl, rfl⟩
set_option maxHeartbeats 1000000 in
theorem w_index (A : Option Addr) (ws : List Int) (c : Nat) (w : World) (hr : ReadsV w A ws) (hl : ws.length ≤ 9223372036854775806) :
    Calls Try.prog 58 #[.slice A ws.length c, .func (.func 40) #[] #[]] w fun e w' => e = .returned (.int .i64 (firstI (badW ws) ws.length 0)) ∧ w = w' := by
  have hD : ∀ k, k < ws.length → (∀ j, j < k → badW ws j = false) → badW ws k = true → (k : Int) = firstI (badW ws) ws.length 0 := fun k h1 h2 h3 => (firstI_at h1 h2 h3).symm
  have hN : (∀ j, j < ws.length → badW ws j = false) → -1 = firstI (badW ws) ws.length 0 := fun h => (firstI_none h).symm
  generalize firstI (badW ws) ws.length 0 = S at *
  have HD := Lib.hid hD
  have HNo := Lib.hid hN
  have HR := Lib.hid hr
  have HC : Hid (∀ k W, Calls Try.prog 40 #[.int .i64 (at0 ws k)] W fun e w' => e = .returned (.bool (badW ws k)) ∧ W = w') := fun k W => clos_w (at0 ws k) W
  clear hr hD hN
  generalize hn : ws.length = n at *
  have HN := Lib.hid hn
  clear hn
  go_enter Try.func58, Try.ntmps58
  go_wp2
  go_loop [8] (fun q => ∃ k : Nat, k ≤ n ∧ q = .int .i64 k ∧ Hid (∀ j, j < k → badW ws j = false)) (fun q => n - (intOf q).toNat)
  case atStart => exact ⟨0, by omega, rfl, fun j hj => absurd hj (by omega)⟩
  case round =>
    obtain ⟨k, hk, rfl, HM⟩ := hrel
    by_cases hlt : k < n
    · obtain ⟨b0, off, rfl, hc0⟩ := at_of_reads HR.out k (by rw [HN.out]; exact hlt)
      have HT := Lib.hid (HD.out k hlt HM.out)
      have HF : Hid (badW ws k = false → ∀ j, j < k + 1 → badW ws j = false) := upto_snoc HM.out
      have C := HC.out k w
      clear HM
      generalize badW ws k = t at *
      generalize at0 ws k = x at *
      replace C := Lib.hid C
      cases t
      · have HF2 := Lib.hid (HF.out rfl)
        go_wp2_with fail
        refine C.out.mono ?_
        rintro e w2 ⟨rfl, rfl⟩
        go_wp2
        go_round
        case rel => exact ⟨k + 1, by omega, by go_num, HF2⟩
        case measure => simp [intOf]; omega
      · have HT2 := Lib.hid (HT.out rfl)
        go_wp2_with fail
        refine C.out.mono ?_
        rintro e w2 ⟨rfl, rfl⟩
        go_wp2
        go_ret
        exact ⟨ret_i HT2.out, rfl⟩
    · have E := Lib.hid (HNo.out (fun j hj => HM.out j (by omega)))
      clear HM
      go_wp2
      go_ret
      exact ⟨ret_i E.out, rfl⟩
theorem w_contains (A : Option Addr) (ws : List Int) (c : Nat) (w : World) (hr : ReadsV w A ws) (hl : ws.length ≤ 9223372036854775806) :
    Calls Try.prog 41 #[.slice A ws.length c, .func (.func 40) #[] #[]] w fun e w' => e = .returned (.bool (!okW ws)) ∧ w = w' := by
  have C := w_index A ws c w hr hl
  have e : (!okW ws) = anyB (badW ws) ws.length := by rw [okW_bad, Bool.not_not]
  rw [e]
  unfold anyB
  generalize firstI (badW ws) ws.length 0 = S at *
  generalize ws.length = n at *
  clear hr e
  replace C := Lib.hid C
  go_enter Try.func41, Try.ntmps41
  go_wp2_with fail
  refine C.out.mono ?_
  rintro e w2 ⟨rfl, rfl⟩
  by_cases q : 0 ≤ S
  · have q2 : decide (0 ≤ S) = true := by simpa using q
    have q3 := Lib.hid q2
    go_wp2
    go_ret
    exact ⟨ret_b q3.out.symm, rfl⟩
  · have q2 : decide (0 ≤ S) = false := by simpa using q
    have q3 := Lib.hid q2
    go_wp2
    go_ret
    exact ⟨ret_b q3.out.symm, rfl⟩





set_option maxHeartbeats 4000000 in
set_option maxRecDepth 100000 in
theorem scheck_any (n : NetV) (A : Option Addr) (ws : List Int) (c : Nat) (steps runs : Int) (w : World) (hr : NetR w n) (hw : ReadsV w A ws) (hl : ws.length ≤ 9223372036854775806) :
    Calls Try.prog 23 #[.agg #[.string n.nm, .slice n.PA n.ps.length n.pc, .slice n.TA n.ts.length n.tc], .slice A ws.length c, .int .i64 steps, .int .i64 runs] w (VPost w.heap.size w (.int .i64 (runE n ws steps runs))) := by
  have CV : Hid (∀ W, Below w.heap.size w W → Calls Try.prog 39 #[.agg #[.string n.nm, .slice n.PA n.ps.length n.pc, .slice n.TA n.ts.length n.tc]] W (fun e w' => e = .returned (.agg #[.int .i64 (chkV n).1, .int .i64 (chkV n).2]) ∧ Below W.heap.size W w')) := fun W hW => check_any n W (hr.below hW (Nat.le_refl _))
  have CW : Hid (∀ W, Below w.heap.size w W → Calls Try.prog 41 #[.slice A ws.length c, .func (.func 40) #[] #[]] W fun e w' => e = .returned (.bool (!okW ws)) ∧ W = w') := fun W hW => w_contains A ws c W (hw.below hW (Nat.le_refl _)) hl
  have hE : runE n ws steps runs = runE n ws steps runs := rfl
  generalize hS : runE n ws steps runs = S at *
  have B0 : Hid (Below w.heap.size w (w.alloc (.cells #[.string n.nm, .slice n.PA n.ps.length n.pc, .slice n.TA n.ts.length n.tc] 25))) := (Below.refl _ _).alloc (Nat.le_refl _) _
  unfold runE argE at hS
  obtain ⟨nm, PA, ps, pc, TA, ts, tc⟩ := n
  clear hr hw hE
  dsimp only at *
  generalize chkV ⟨nm, PA, ps, pc, TA, ts, tc⟩ = cv at *
  obtain ⟨e0, e1⟩ := cv
  dsimp only at *
  generalize okW ws = ob at *
  generalize ws.length = wl at *
  generalize ps.length = pl at *
  generalize ts.length = tl at *
  by_cases h0 : e0 = 0
  rotate_left
  · have hz : (e0 != 0) = true := by simpa using h0
    have E : Hid (e0 = S) := by show _ = _; rw [← hS, if_pos h0, if_pos h0]
    clear hS h0 CW
    go_enter Try.func23, Try.ntmps23
    go_wp2_with fail
    refine (CV.out _ B0.out).mono ?_
    rintro e w1 ⟨rfl, K⟩
    have c1 : w1.cell? ⟨w.heap.size, 2, none⟩ = some (.slice TA tl tc) := by rw [K.cell (by simp)]; simp
    have lz : w.heap.size < w1.heap.size := by have := K.size; simp at this; omega
    have K2 := Lib.hid (B0.out.trans (K.mono (by rw [World.size_alloc]; omega)))
    have K3 : Hid (Below w.heap.size w (w1.alloc (.cells #[.int .i64 e0, .int .i64 e1] 57))) := K2.out.alloc (by omega) _
    clear K CV
    go_wp2
    go_ret
    exact ⟨ret_i E.out, K3.out⟩
  subst h0
  rw [if_neg (by simp : ¬ ((0 : Int) ≠ 0))] at hS
  by_cases h1 : wl = tl
  rotate_left
  · have hz : ((wl : Int) != (tl : Int)) = true := by simp; omega
    have E : Hid (2 = S) := by show _ = _; rw [← hS, if_pos h1, if_pos (by decide)]
    clear hS h1 CW
    go_enter Try.func23, Try.ntmps23
    go_wp2_with fail
    refine (CV.out _ B0.out).mono ?_
    rintro e w1 ⟨rfl, K⟩
    have c1 : w1.cell? ⟨w.heap.size, 2, none⟩ = some (.slice TA tl tc) := by rw [K.cell (by simp)]; simp
    have lz : w.heap.size < w1.heap.size := by have := K.size; simp at this; omega
    have K2 := Lib.hid (B0.out.trans (K.mono (by rw [World.size_alloc]; omega)))
    have K3 : Hid (Below w.heap.size w (w1.alloc (.cells #[.int .i64 0, .int .i64 e1] 57))) := K2.out.alloc (by omega) _
    clear K CV
    go_wp2
    go_ret
    exact ⟨ret_i E.out, K3.out⟩
  subst h1
  rw [if_neg (by simp : ¬ (wl ≠ wl))] at hS
  have hz : ((wl : Int) != (wl : Int)) = false := by simp
  cases ob
  · rw [if_pos rfl, if_pos (by decide)] at hS
    have E : Hid (1 = S) := hS
    clear hS
    go_enter Try.func23, Try.ntmps23
    go_wp2_with fail
    refine (CV.out _ B0.out).mono ?_
    rintro e w1 ⟨rfl, K⟩
    have c1 : w1.cell? ⟨w.heap.size, 2, none⟩ = some (.slice TA wl tc) := by rw [K.cell (by simp)]; simp
    have lz : w.heap.size < w1.heap.size := by have := K.size; simp at this; omega
    have K2 := Lib.hid (B0.out.trans (K.mono (by rw [World.size_alloc]; omega)))
    have K3 : Hid (Below w.heap.size w (w1.alloc (.cells #[.int .i64 0, .int .i64 e1] 57))) := K2.out.alloc (by omega) _
    clear K CV
    go_wp2_with fail
    refine (CW.out _ K3.out).mono ?_
    rintro e w2 ⟨rfl, rfl⟩
    go_wp2
    go_ret
    exact ⟨ret_i E.out, K3.out⟩
  rw [if_neg (by decide : ¬ (true = false))] at hS
  by_cases g0 : steps < 0
  · have z0 : decide (steps < 0) = true := decide_eq_true g0
    have E : Hid (1 = S) := by
      show _ = _
      rw [← hS]
      rw [if_pos (show steps < 0 ∨ 10000 < steps by omega), if_pos (by decide)]
    clear hS g0
    go_enter Try.func23, Try.ntmps23
    go_wp2_with fail
    refine (CV.out _ B0.out).mono ?_
    rintro e w1 ⟨rfl, K⟩
    have c1 : w1.cell? ⟨w.heap.size, 2, none⟩ = some (.slice TA wl tc) := by rw [K.cell (by simp)]; simp
    have lz : w.heap.size < w1.heap.size := by have := K.size; simp at this; omega
    have K2 := Lib.hid (B0.out.trans (K.mono (by rw [World.size_alloc]; omega)))
    have K3 : Hid (Below w.heap.size w (w1.alloc (.cells #[.int .i64 0, .int .i64 e1] 57))) := K2.out.alloc (by omega) _
    clear K CV
    go_wp2_with fail
    refine (CW.out _ K3.out).mono ?_
    rintro e w2 ⟨rfl, rfl⟩
    go_wp2
    go_ret
    exact ⟨ret_i E.out, K3.out⟩
  have z0 : decide (steps < 0) = false := decide_eq_false g0
  by_cases g1 : 10000 < steps
  · have z1 : decide ((10000 : Int) < steps) = true := decide_eq_true g1
    have E : Hid (1 = S) := by
      show _ = _
      rw [← hS]
      rw [if_pos (show steps < 0 ∨ 10000 < steps by omega), if_pos (by decide)]
    clear hS g0 g1
    go_enter Try.func23, Try.ntmps23
    go_wp2_with fail
    refine (CV.out _ B0.out).mono ?_
    rintro e w1 ⟨rfl, K⟩
    have c1 : w1.cell? ⟨w.heap.size, 2, none⟩ = some (.slice TA wl tc) := by rw [K.cell (by simp)]; simp
    have lz : w.heap.size < w1.heap.size := by have := K.size; simp at this; omega
    have K2 := Lib.hid (B0.out.trans (K.mono (by rw [World.size_alloc]; omega)))
    have K3 : Hid (Below w.heap.size w (w1.alloc (.cells #[.int .i64 0, .int .i64 e1] 57))) := K2.out.alloc (by omega) _
    clear K CV
    go_wp2_with fail
    refine (CW.out _ K3.out).mono ?_
    rintro e w2 ⟨rfl, rfl⟩
    go_wp2
    go_ret
    exact ⟨ret_i E.out, K3.out⟩
  have z1 : decide ((10000 : Int) < steps) = false := decide_eq_false g1
  by_cases g2 : runs < 1
  · have z2 : decide (runs < 1) = true := decide_eq_true g2
    have E : Hid (1 = S) := by
      show _ = _
      rw [← hS]
      rw [if_neg (show ¬ (steps < 0 ∨ 10000 < steps) by omega), if_neg (by decide), if_pos (show runs < 1 ∨ 100 < runs by omega)]
    clear hS g0 g1 g2
    go_enter Try.func23, Try.ntmps23
    go_wp2_with fail
    refine (CV.out _ B0.out).mono ?_
    rintro e w1 ⟨rfl, K⟩
    have c1 : w1.cell? ⟨w.heap.size, 2, none⟩ = some (.slice TA wl tc) := by rw [K.cell (by simp)]; simp
    have lz : w.heap.size < w1.heap.size := by have := K.size; simp at this; omega
    have K2 := Lib.hid (B0.out.trans (K.mono (by rw [World.size_alloc]; omega)))
    have K3 : Hid (Below w.heap.size w (w1.alloc (.cells #[.int .i64 0, .int .i64 e1] 57))) := K2.out.alloc (by omega) _
    clear K CV
    go_wp2_with fail
    refine (CW.out _ K3.out).mono ?_
    rintro e w2 ⟨rfl, rfl⟩
    go_wp2
    go_ret
    exact ⟨ret_i E.out, K3.out⟩
  have z2 : decide (runs < 1) = false := decide_eq_false g2
  by_cases g3 : 100 < runs
  · have z3 : decide ((100 : Int) < runs) = true := decide_eq_true g3
    have E : Hid (1 = S) := by
      show _ = _
      rw [← hS]
      rw [if_neg (show ¬ (steps < 0 ∨ 10000 < steps) by omega), if_neg (by decide), if_pos (show runs < 1 ∨ 100 < runs by omega)]
    clear hS g0 g1 g2 g3
    go_enter Try.func23, Try.ntmps23
    go_wp2_with fail
    refine (CV.out _ B0.out).mono ?_
    rintro e w1 ⟨rfl, K⟩
    have c1 : w1.cell? ⟨w.heap.size, 2, none⟩ = some (.slice TA wl tc) := by rw [K.cell (by simp)]; simp
    have lz : w.heap.size < w1.heap.size := by have := K.size; simp at this; omega
    have K2 := Lib.hid (B0.out.trans (K.mono (by rw [World.size_alloc]; omega)))
    have K3 : Hid (Below w.heap.size w (w1.alloc (.cells #[.int .i64 0, .int .i64 e1] 57))) := K2.out.alloc (by omega) _
    clear K CV
    go_wp2_with fail
    refine (CW.out _ K3.out).mono ?_
    rintro e w2 ⟨rfl, rfl⟩
    go_wp2
    go_ret
    exact ⟨ret_i E.out, K3.out⟩
  have z3 : decide ((100 : Int) < runs) = false := decide_eq_false g3
  have E : Hid (0 = S) := by
    show _ = _
    rw [← hS, if_neg (show ¬ (steps < 0 ∨ 10000 < steps) by omega), if_neg (by decide), if_neg (show ¬ (runs < 1 ∨ 100 < runs) by omega)]
  clear hS g0 g1 g2 g3
  go_enter Try.func23, Try.ntmps23
  go_wp2_with fail
  refine (CV.out _ B0.out).mono ?_
  rintro e w1 ⟨rfl, K⟩
  have c1 : w1.cell? ⟨w.heap.size, 2, none⟩ = some (.slice TA wl tc) := by rw [K.cell (by simp)]; simp
  have lz : w.heap.size < w1.heap.size := by have := K.size; simp at this; omega
  have K2 := Lib.hid (B0.out.trans (K.mono (by rw [World.size_alloc]; omega)))
  have K3 : Hid (Below w.heap.size w (w1.alloc (.cells #[.int .i64 0, .int .i64 e1] 57))) := K2.out.alloc (by omega) _
  clear K CV
  go_wp2_with fail
  refine (CW.out _ K3.out).mono ?_
  rintro e w2 ⟨rfl, rfl⟩
  go_wp2
  go_ret
  exact ⟨ret_i E.out, K3.out⟩

set_option maxHeartbeats 4000000 in
set_option maxRecDepth 100000 in
theorem rargs_any (n : NetV) (A : Option Addr) (ws : List Int) (c : Nat) (steps : Int) (w : World) (hr : NetR w n) (hw : ReadsV w A ws) (hl : ws.length ≤ 9223372036854775806) :
    Calls Try.prog 12 #[.agg #[.string n.nm, .slice n.PA n.ps.length n.pc, .slice n.TA n.ts.length n.tc], .slice A ws.length c, .int .i64 steps] w (VPost w.heap.size w (.int .i64 (argE n ws steps))) := by
  have CV : Hid (∀ W, Below w.heap.size w W → Calls Try.prog 28 #[.agg #[.string n.nm, .slice n.PA n.ps.length n.pc, .slice n.TA n.ts.length n.tc]] W (fun e w' => e = .returned (.agg #[.int .i64 (chkV n).1, .int .i64 (chkV n).2]) ∧ Below W.heap.size W w')) := fun W hW => rcheck_any n W (hr.below hW (Nat.le_refl _))
  have RW : Hid (∀ W, Below w.heap.size w W → ReadsV W A ws) := fun W hW => hw.below hW (Nat.le_refl _)
  have HB : Hid (okW ws = !anyB (badW ws) ws.length) := okW_bad ws
  have HBW : Hid (∀ k, badW ws k = (decide (at0 ws k < 0) || decide (1000 < at0 ws k))) := fun k => rfl
  generalize hS : argE n ws steps = S at *
  have B0 : Hid (Below w.heap.size w (w.alloc (.cells #[.string n.nm, .slice n.PA n.ps.length n.pc, .slice n.TA n.ts.length n.tc] 25))) := (Below.refl _ _).alloc (Nat.le_refl _) _
  unfold argE at hS
  obtain ⟨nm, PA, ps, pc, TA, ts, tc⟩ := n
  clear hr hw
  dsimp only at *
  generalize chkV ⟨nm, PA, ps, pc, TA, ts, tc⟩ = cv at *
  obtain ⟨e0, e1⟩ := cv
  dsimp only at *
  generalize hwl : ws.length = wl at *
  have HWL := Lib.hid hwl
  clear hwl
  generalize ps.length = pl at *
  generalize ts.length = tl at *
  by_cases h0 : e0 = 0
  rotate_left
  · have hz : (e0 != 0) = true := by simpa using h0
    have E : Hid (e0 = S) := by show _ = _; rw [← hS, if_pos h0]
    clear hS h0 RW
    go_enter Try.func12, Try.ntmps12
    go_wp2_with fail
    refine (CV.out _ B0.out).mono ?_
    rintro e w1 ⟨rfl, K⟩
    have c1 : w1.cell? ⟨w.heap.size, 2, none⟩ = some (.slice TA tl tc) := by rw [K.cell (by simp)]; simp
    have lz : w.heap.size < w1.heap.size := by have := K.size; simp at this; omega
    have K2 := Lib.hid (B0.out.trans (K.mono (by rw [World.size_alloc]; omega)))
    have K3 : Hid (Below w.heap.size w (w1.alloc (.cells #[.int .i64 e0, .int .i64 e1] 57))) := K2.out.alloc (by omega) _
    clear K CV
    go_wp2
    go_ret
    exact ⟨ret_i E.out, K3.out⟩
  subst h0
  rw [if_neg (by simp : ¬ ((0 : Int) ≠ 0))] at hS
  by_cases h1 : wl = tl
  rotate_left
  · have hz : ((wl : Int) != (tl : Int)) = true := by simp; omega
    have E : Hid (2 = S) := by show _ = _; rw [← hS, if_pos h1]
    clear hS h1 RW
    go_enter Try.func12, Try.ntmps12
    go_wp2_with fail
    refine (CV.out _ B0.out).mono ?_
    rintro e w1 ⟨rfl, K⟩
    have c1 : w1.cell? ⟨w.heap.size, 2, none⟩ = some (.slice TA tl tc) := by rw [K.cell (by simp)]; simp
    have lz : w.heap.size < w1.heap.size := by have := K.size; simp at this; omega
    have K2 := Lib.hid (B0.out.trans (K.mono (by rw [World.size_alloc]; omega)))
    have K3 : Hid (Below w.heap.size w (w1.alloc (.cells #[.int .i64 0, .int .i64 e1] 57))) := K2.out.alloc (by omega) _
    clear K CV
    go_wp2
    go_ret
    exact ⟨ret_i E.out, K3.out⟩
  subst h1
  rw [if_neg (by simp : ¬ (wl ≠ wl))] at hS
  have hz : ((wl : Int) != (wl : Int)) = false := by simp
  have EB : Hid (okW ws = false → 1 = S) := fun h => by rw [← hS, if_pos h]
  have EG : Hid (okW ws = true → (if steps < 0 ∨ 10000 < steps then (1 : Int) else 0) = S) := fun h => by rw [← hS]; exact (if_neg (c := okW ws = false) (by rw [h]; decide)).symm
  clear hS
  go_enter Try.func12, Try.ntmps12
  go_wp2_with fail
  refine (CV.out _ B0.out).mono ?_
  rintro e w1 ⟨rfl, K⟩
  have c1 : w1.cell? ⟨w.heap.size, 2, none⟩ = some (.slice TA wl tc) := by rw [K.cell (by simp)]; simp
  have lz : w.heap.size < w1.heap.size := by have := K.size; simp at this; omega
  have K2 := Lib.hid (B0.out.trans (K.mono (by rw [World.size_alloc]; omega)))
  have K3 : Hid (Below w.heap.size w (w1.alloc (.cells #[.int .i64 0, .int .i64 e1] 57))) := K2.out.alloc (by omega) _
  clear K CV
  have RV := Lib.hid (RW.out _ K3.out)
  clear RW
  go_wp2_with fail
  generalize w1.alloc (.cells #[.int .i64 0, .int .i64 e1] 57) = wq at *
  go_loop [8] (fun q => ∃ k : Nat, k ≤ wl ∧ q = .int .i64 k ∧ Hid (∀ j, j < k → badW ws j = false)) (fun q => wl - (intOf q).toNat)
  case atStart => exact ⟨0, by omega, rfl, fun j hj => absurd hj (by omega)⟩
  case round =>
    obtain ⟨k, hk, rfl, HM⟩ := hrel
    by_cases hlt : k < wl
    · obtain ⟨b0, off, rfl, hc0⟩ := at_of_reads RV.out k (by rw [HWL.out]; exact hlt)
      have HX := HBW.out k
      have HF : Hid (badW ws k = false → ∀ j, j < k + 1 → badW ws j = false) := upto_snoc HM.out
      have EB2 : Hid (badW ws k = true → 1 = S) := fun h => EB.out (by rw [HB.out, anyB_yes hlt h]; rfl)
      clear HM EB EG HB HBW
      generalize badW ws k = t at *
      generalize at0 ws k = x at *
      by_cases g1 : x < 0
      · have z1 : decide (x < 0) = true := decide_eq_true g1
        have E := Lib.hid (EB2.out (by rw [HX, z1]; rfl))
        clear HX HF EB2 g1
        go_wp2
        go_ret
        exact ⟨ret_i E.out, K3.out⟩
      · have z1 : decide (x < 0) = false := decide_eq_false g1
        by_cases g2 : 1000 < x
        · have z2 : decide ((1000 : Int) < x) = true := decide_eq_true g2
          have E := Lib.hid (EB2.out (by rw [HX, z1, z2]; rfl))
          clear HX HF EB2 g1 g2
          go_wp2
          go_ret
          exact ⟨ret_i E.out, K3.out⟩
        · have z2 : decide ((1000 : Int) < x) = false := decide_eq_false g2
          have HF2 := Lib.hid (HF.out (by rw [HX, z1, z2]; rfl))
          clear HX HF EB2 g1 g2
          go_wp2
          go_round
          case rel => exact ⟨k + 1, by omega, by go_num, HF2⟩
          case measure => simp [intOf]; omega
    · have hok : okW ws = true := by rw [HB.out, anyB_no (fun j hj => HM.out j (by omega))]; rfl
      have E0 := EG.out hok
      clear HM EB EG HB HBW hok
      by_cases g1 : steps < 0
      · have z1 : decide (steps < 0) = true := decide_eq_true g1
        rw [if_pos (.inl g1)] at E0
        have E := Lib.hid E0
        clear E0 g1
        go_wp2
        go_ret
        exact ⟨ret_i E.out, K3.out⟩
      · have z1 : decide (steps < 0) = false := decide_eq_false g1
        by_cases g2 : 10000 < steps
        · have z2 : decide ((10000 : Int) < steps) = true := decide_eq_true g2
          rw [if_pos (.inr g2)] at E0
          have E := Lib.hid E0
          clear E0 g1 g2
          go_wp2
          go_ret
          exact ⟨ret_i E.out, K3.out⟩
        · have z2 : decide ((10000 : Int) < steps) = false := decide_eq_false g2
          rw [if_neg (by omega)] at E0
          have E := Lib.hid E0
          clear E0 g1 g2
          go_wp2
          go_ret
          exact ⟨ret_i E.out, K3.out⟩
end Go.Proofs.Ytpfkkjgklhcejaa
