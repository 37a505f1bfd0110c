/- The marking equation. -/
import Derived.Test.YtaomgfmlnjdoaaaFPA
import Derived.Test.YtaomgfmlnjdoaaaFO
namespace Go.Proofs.Ytaomgfmlnjdoaaa
open Go.RowKit

def dotK (f g : Nat → Int) : Nat → Int
  | 0 => 0
  | T + 1 => dotK f g T + f T * g T
theorem dot_step {f g g' : Nat → Int} {q : Nat} (h : ∀ j, g' j = if j = q then g q + 1 else g j) : ∀ T, dotK f g' T = dotK f g T + if q < T then f q else 0
  | 0 => rfl
  | T + 1 => by
    show dotK f g' T + f T * g' T = dotK f g T + f T * g T + _
    rw [dot_step h T, h T]
    by_cases e : T = q
    · subst e
      rw [if_pos rfl, if_neg (Nat.lt_irrefl T), if_pos (Nat.lt_succ_self T), Int.mul_add, Int.mul_one]
      omega
    · rw [if_neg e]
      by_cases e2 : q < T
      · rw [if_pos e2, if_pos (show q < T + 1 by omega)]; omega
      · rw [if_neg e2, if_neg (show ¬ q < T + 1 by omega)]; omega
theorem dot_zero {f g : Nat → Int} (h : ∀ j, g j = 0) : ∀ T, dotK f g T = 0
  | 0 => rfl
  | T + 1 => by
    show dotK f g T + f T * g T = 0
    rw [dot_zero h T, h T, Int.mul_zero]
    rfl
theorem mul_bd {x y : Int} (hx : -99 ≤ x ∧ x ≤ 99) (hy : 0 ≤ y ∧ y ≤ 60) : -5940 ≤ x * y ∧ x * y ≤ 5940 := by
  have h1 : x * y ≤ 99 * y := Int.mul_le_mul_of_nonneg_right hx.2 hy.1
  have h2 : -99 * y ≤ x * y := Int.mul_le_mul_of_nonneg_right hx.1 hy.1
  omega
theorem dot_bd {f g : Nat → Int} (N : Nat) (hf : ∀ j, j < N → -99 ≤ f j ∧ f j ≤ 99) (hg : ∀ j, 0 ≤ g j ∧ g j ≤ 60) : ∀ T, T ≤ N → -(5940 * (T : Int)) ≤ dotK f g T ∧ dotK f g T ≤ 5940 * (T : Int)
  | 0, _ => by simp [dotK]
  | T + 1, h => by
    have h1 := dot_bd N hf hg T (by omega)
    have h2 := mul_bd (hf T (by omega)) (hg T)
    show -(5940 * ((T + 1 : Nat) : Int)) ≤ dotK f g T + f T * g T ∧ dotK f g T + f T * g T ≤ 5940 * ((T + 1 : Nat) : Int)
    generalize f T * g T = z at *
    omega
theorem fire_ok {n : NetV} {m : List Int} {t : Int} (h : goodN n m = true) (he : fireE n m t = 0) : inT n t = true ∧ fireL n m t = aftL n m t.toNat := by
  have hz := errN_zero.2 h
  rw [(fire_good (t := t) hz).1] at he
  rw [(fire_good (t := t) hz).2]
  have hL : listF n m t = aftL n m t.toNat := by unfold listF; rw [if_pos he]
  refine ⟨?_, hL⟩
  cases e : inT n t
  · rw [(errF_in (m := m) e).1] at he; cases he
  · rfl
def meqS (n : NetV) (m seq : List Int) (k p t : Nat) : Int := at0 m p + dotK (incD n.ts p) (cntF seq k) t
theorem run_upto {n : NetV} {m seq : List Int} (hg : goodN n m = true) (h : (runV n m seq).2.1 = 0) : ∀ k, k ≤ seq.length → ∃ M, RunAt n seq (runV n m seq) k M ∧ goodN n M = true ∧ (∀ p, p < n.ps.length → at0 M p = meqS n m seq k p n.ts.length) ∧ ∀ j, j < k → inT n (at0 seq j) = true
  | 0, _ => ⟨m, run_start (errN_zero.2 hg), hg, fun p _ => by unfold meqS; rw [dot_zero (cnt_zero seq)]; omega, fun j hj => absurd hj (by omega)⟩
  | k + 1, hk => by
    obtain ⟨M, hR, hG, hE, hJ⟩ := run_upto hg h k (by omega)
    have hk' : k < seq.length := by omega
    by_cases e : fireE n M (at0 seq k) = 0
    · obtain ⟨hi, hL⟩ := fire_ok hG e
      refine ⟨_, run_step hR hk' e, fire_goodN hG e, fun p hp => ?_, fun j hj => ?_⟩
      · rw [hL]
        unfold aftL
        rw [tab_at _ _ _ hp]
        obtain ⟨i0, i1⟩ := inT_iff.1 hi
        have hq : at0 seq k = ((at0 seq k).toNat : Int) := by omega
        unfold aftV
        rw [hE p hp]
        unfold meqS
        rw [dot_step (cnt_step hk' hq) n.ts.length, if_pos (by omega)]
        unfold incD
        omega
      · by_cases e2 : j < k
        · exact hJ j e2
        · obtain rfl : j = k := by omega
          exact hi
    · have := run_stop hR hk' e
      rw [this] at h
      exact absurd h e
theorem run_eq {n : NetV} {m seq : List Int} (h : (runV n m seq).2.1 = 0) : goodN n m = true ∧ seqE n seq = 0 ∧ (runV n m seq).1.length = n.ps.length ∧ ∀ p, p < n.ps.length → at0 (runV n m seq).1 p = meqS n m seq seq.length p n.ts.length := by
  have hg : goodN n m = true := by
    apply errN_zero.1
    by_cases e : errN n m = 0
    · exact e
    · rw [run_err e] at h; exact h
  obtain ⟨M, hR, hG, hE, hJ⟩ := run_upto hg h seq.length (Nat.le_refl _)
  have e := run_end hR
  rw [e]
  have hG' := hG
  unfold goodN at hG'
  rw [Bool.and_eq_true] at hG'
  have hok : (chkV n).1 = 0 := of_decide_eq_true hG'.1
  refine ⟨hg, (seq_good hok hJ).1, ?_, hE⟩
  have := (validL_parts hG'.2).1
  show M.length = _
  omega
theorem eq_step {n : NetV} {m seq : List Int} (hg : goodN n m = true) (hl : seq.length ≤ 60) {p t : Nat} (ht : t < n.ts.length) :
    meqS n m seq seq.length p (t + 1) = meqS n m seq seq.length p t + incD n.ts p t * cntF seq seq.length t ∧ (-10000000 ≤ meqS n m seq seq.length p t ∧ meqS n m seq seq.length p t ≤ 10000000) ∧ (-5940 ≤ incD n.ts p t * cntF seq seq.length t ∧ incD n.ts p t * cntF seq seq.length t ≤ 5940) := by
  unfold goodN at hg
  rw [Bool.and_eq_true] at hg
  have hf : ∀ j, j < n.ts.length → -99 ≤ incD n.ts p j ∧ incD n.ts p j ≤ 99 := fun j hj => by
    have hx := okN_arcs hg.1 j hj
    have h1 := weightV_bd hx.pre (p : Int)
    have h2 := weightV_bd hx.post (p : Int)
    unfold incD
    omega
  have hc : ∀ j, 0 ≤ cntF seq seq.length j ∧ cntF seq seq.length j ≤ 60 := fun j => by
    have := cnt_bd seq seq.length j
    omega
  have h1 := natL_at (validL_parts hg.2).2 p
  have h2 := dot_bd n.ts.length hf hc t (by omega)
  have h3 : n.ts.length ≤ 24 := (okN_parts hg.1).2.2.2.1
  refine ⟨?_, ?_, mul_bd (hf t ht) (hc t)⟩
  · unfold meqS
    show _ + (dotK _ _ t + _) = _
    omega
  · unfold meqS
    omega
theorem eq_zero (n : NetV) (m seq : List Int) (k p : Nat) : meqS n m seq k p 0 = at0 m p := by
  unfold meqS
  show _ + 0 = _
  omega

set_option maxHeartbeats 16000000 in
set_option maxRecDepth 100000 in
theorem equation_law (n : NetV) (A : Option Addr) (m : List Int) (c : Nat) (Q : Option Addr) (seq : List Int) (sc : Nat) (w : World) (hr : NetW w n) (hm : ReadsV w A m) (hl : m.length ≤ maxLen) (hq : ReadsV w Q seq) (hql : seq.length ≤ maxLen) :
    Calls Try.prog 7 #[.agg #[.string n.nm, .slice n.PA n.ps.length n.pc, .slice n.TA n.ts.length n.tc], .slice A m.length c, .slice Q seq.length sc] w fun e w' => e = .returned (.bool true) ∧ Below w.heap.size w w' := by
  have CS : Hid (∀ W, Below w.heap.size w W → Calls Try.prog 9 #[.agg #[.string n.nm, .slice n.PA n.ps.length n.pc, .slice n.TA n.ts.length n.tc]] W (SmallPost W.heap.size W n)) := fun W hW => small_any n W (hr.below hW (Nat.le_refl _))
  have CX : Hid (∀ W, Calls Try.prog 10 #[] W (VPost W.heap.size W (.bool true))) := example_any
  have B0 : Hid (Below w.heap.size w (w.alloc (.cells #[.string n.nm, .slice n.PA n.ps.length n.pc, .slice n.TA n.ts.length n.tc] 25))) := (Below.refl _ _).alloc (Nat.le_refl _) _
  cases hs : smallN n
  · have CS2 : Hid (∀ W, Below w.heap.size w W → Calls Try.prog 9 #[.agg #[.string n.nm, .slice n.PA n.ps.length n.pc, .slice n.TA n.ts.length n.tc]] W (fun e w' => e = .returned (.tuple #[.agg #[.string ⟨#[]⟩, .slice none 0 0, .slice none 0 0], .bool false]) ∧ Below W.heap.size W w')) := fun W hW => (CS.out W hW).mono fun e w' h => by
      unfold SmallPost at h
      rw [hs, if_neg (by simp)] at h
      exact h
    clear CS hs hm hq
    go_enter Try.func7, Try.ntmps7
    go_wp2_with fail
    refine (CS2.out _ B0.out).mono ?_
    rintro e x1 ⟨rfl, K⟩
    have Dx1 := Lib.hid (B0.out.trans (K.mono B0.out.size))
    clear K
    have Dx1a := Lib.hid (Dx1.out.alloc Dx1.out.size (.cells #[.string ⟨#[]⟩, .slice none 0 0, .slice none 0 0] 25))
    go_wp2_with fail
    refine (CX.out _).mono ?_
    rintro e x2 ⟨rfl, K⟩
    have Dx2 := Lib.hid (Dx1a.out.trans (K.mono Dx1a.out.size))
    clear K
    go_wp2
    go_ret
    exact ⟨rfl, Dx2.out⟩
  · have CS2 : Hid (∀ W, Below w.heap.size w W → Calls Try.prog 9 #[.agg #[.string n.nm, .slice n.PA n.ps.length n.pc, .slice n.TA n.ts.length n.tc]] W (fun e w' => e = .returned (.tuple #[.agg #[.string n.nm, .slice n.PA n.ps.length n.pc, .slice n.TA n.ts.length n.tc], .bool true]) ∧ Below W.heap.size W w')) := fun W hW => (CS.out W hW).mono fun e w' h => by
      unfold SmallPost at h
      rw [hs, if_pos rfl] at h
      exact h
    have hr0 := small_ok hr hs
    have hsl := small_len hs
    have hl2 : m.length ≤ 9223372036854775807 := by unfold maxLen at hl; omega
    have hql2 : seq.length ≤ 9223372036854775807 := by unfold maxLen at hql; omega
    by_cases h60 : 60 < seq.length
    · have z60 : decide (60 < seq.length) = true := decide_eq_true h60
      clear CS hs hr hr0 hm hq hl hl2 hsl
      go_enter Try.func7, Try.ntmps7
      go_wp2_with fail
      refine (CS2.out _ B0.out).mono ?_
      rintro e x1 ⟨rfl, K⟩
      have Dx1 := Lib.hid (B0.out.trans (K.mono B0.out.size))
      clear K
      have q0 : (x1.alloc (.cells #[.string n.nm, .slice n.PA n.ps.length n.pc, .slice n.TA n.ts.length n.tc] 25)).cell? ⟨x1.heap.size, 0, none⟩ = some (.string n.nm) := by simp
      have q1 : (x1.alloc (.cells #[.string n.nm, .slice n.PA n.ps.length n.pc, .slice n.TA n.ts.length n.tc] 25)).cell? ⟨x1.heap.size, 1, none⟩ = some (.slice n.PA n.ps.length n.pc) := by simp
      have q2 : (x1.alloc (.cells #[.string n.nm, .slice n.PA n.ps.length n.pc, .slice n.TA n.ts.length n.tc] 25)).cell? ⟨x1.heap.size, 2, none⟩ = some (.slice n.TA n.ts.length n.tc) := by simp
      have Dx1a := Lib.hid (Dx1.out.alloc Dx1.out.size (.cells #[.string n.nm, .slice n.PA n.ps.length n.pc, .slice n.TA n.ts.length n.tc] 25))
      go_wp2_with fail
      refine (CX.out _).mono ?_
      rintro e x2 ⟨rfl, K⟩
      have q0 := keepc q0 K
      have q1 := keepc q1 K
      have q2 := keepc q2 K
      have Dx2 := Lib.hid (Dx1a.out.trans (K.mono Dx1a.out.size))
      clear K
      go_wp2
      go_ret
      exact ⟨rfl, Dx2.out⟩
    have h61 : seq.length ≤ 60 := by omega
    have CF : Hid (∀ W, Below w.heap.size w W → Calls Try.prog 23 #[.agg #[.string n.nm, .slice n.PA n.ps.length n.pc, .slice n.TA n.ts.length n.tc], .slice A m.length c, .slice Q seq.length sc] W (PairPost W.heap.size W (runV n m seq).1 (.agg #[.int .i64 (runV n m seq).2.1, .int .i64 (runV n m seq).2.2]))) := fun W hW => run_any n A m c Q seq sc W (hr0.below hW (Nat.le_refl _)) (hm.below hW (Nat.le_refl _)) hl2 (hq.below hW (Nat.le_refl _)) h61
    by_cases hE : (runV n m seq).2.1 = 0
    rotate_left
    · clear CS hs hr hr0 hm hq hl hl2 hsl
      generalize runV n m seq = S at *
      obtain ⟨L, E, at'⟩ := S
      dsimp only at *
      have z0 : (E != 0) = true := by simpa using hE
      clear hE
      go_enter Try.func7, Try.ntmps7
      go_wp2_with fail
      refine (CS2.out _ B0.out).mono ?_
      rintro e x1 ⟨rfl, K⟩
      have Dx1 := Lib.hid (B0.out.trans (K.mono B0.out.size))
      clear K
      have q0 : (x1.alloc (.cells #[.string n.nm, .slice n.PA n.ps.length n.pc, .slice n.TA n.ts.length n.tc] 25)).cell? ⟨x1.heap.size, 0, none⟩ = some (.string n.nm) := by simp
      have q1 : (x1.alloc (.cells #[.string n.nm, .slice n.PA n.ps.length n.pc, .slice n.TA n.ts.length n.tc] 25)).cell? ⟨x1.heap.size, 1, none⟩ = some (.slice n.PA n.ps.length n.pc) := by simp
      have q2 : (x1.alloc (.cells #[.string n.nm, .slice n.PA n.ps.length n.pc, .slice n.TA n.ts.length n.tc] 25)).cell? ⟨x1.heap.size, 2, none⟩ = some (.slice n.TA n.ts.length n.tc) := by simp
      have Dx1a := Lib.hid (Dx1.out.alloc Dx1.out.size (.cells #[.string n.nm, .slice n.PA n.ps.length n.pc, .slice n.TA n.ts.length n.tc] 25))
      go_wp2_with fail
      refine (CF.out _ Dx1a.out).mono ?_
      rintro e x2 ⟨A2, c2, rfl, R2, K⟩
      have R2 := Lib.hid R2
      have q0 := keepc q0 K
      have q1 := keepc q1 K
      have q2 := keepc q2 K
      have Dx2 := Lib.hid (Dx1a.out.trans (K.mono Dx1a.out.size))
      clear K
      have Dx2a := Lib.hid (Dx2.out.alloc Dx2.out.size (.cells #[.int .i64 E, .int .i64 at'] 38))
      have q0 := cellA q0 (.cells #[.int .i64 E, .int .i64 at'] 38)
      have q1 := cellA q1 (.cells #[.int .i64 E, .int .i64 at'] 38)
      have q2 := cellA q2 (.cells #[.int .i64 E, .int .i64 at'] 38)
      have e0 : (x2.alloc (.cells #[.int .i64 E, .int .i64 at'] 38)).cell? ⟨x2.heap.size, 0, none⟩ = some (.int .i64 E) := by simp
      have R2 := Lib.hid (R2.out.alloc (.cells #[.int .i64 E, .int .i64 at'] 38))
      go_wp2_with fail
      refine (CX.out _).mono ?_
      rintro e x3 ⟨rfl, K⟩
      have q0 := keepc q0 K
      have q1 := keepc q1 K
      have q2 := keepc q2 K
      have Dx3 := Lib.hid (Dx2a.out.trans (K.mono Dx2a.out.size))
      clear K
      go_wp2
      go_ret
      exact ⟨rfl, Dx3.out⟩
    obtain ⟨hgd, hsq, hLn, hEL⟩ := run_eq hE
    have hgd' := hgd
    unfold goodN at hgd'
    rw [Bool.and_eq_true] at hgd'
    have hokn := hgd'.1
    have hmn : m.length = n.ps.length := by have := (validL_parts hgd'.2).1; omega
    have hp24 : n.ps.length ≤ 24 := (okN_parts hokn).2.2.1
    have ht24 : n.ts.length ≤ 24 := (okN_parts hokn).2.2.2.1
    have hp1 : 1 ≤ n.ps.length := (okN_parts hokn).2.1
    have CF : Hid (∀ W, Below w.heap.size w W → Calls Try.prog 23 #[.agg #[.string n.nm, .slice n.PA n.ps.length n.pc, .slice n.TA n.ts.length n.tc], .slice A n.ps.length c, .slice Q seq.length sc] W (fun e w' => ∃ A2 c2, e = .returned (.tuple #[.slice A2 n.ps.length c2, .agg #[.int .i64 0, .int .i64 (runV n m seq).2.2]]) ∧ ReadsV w' A2 (runV n m seq).1 ∧ Below W.heap.size W w')) := fun W hW => by
      have h := CF.out W hW
      rw [hmn, hE] at h
      refine h.mono fun e w' ⟨A2, c2, he, h1, h2⟩ => ⟨A2, c2, ?_, h1, h2⟩
      rw [he, hLn]
    have CP : Hid (∀ W, Below w.heap.size w W → Calls Try.prog 25 #[.agg #[.string n.nm, .slice n.PA n.ps.length n.pc, .slice n.TA n.ts.length n.tc], .slice Q seq.length sc] W (fun e w' => ∃ A2 c2, e = .returned (.tuple #[.slice A2 n.ts.length c2, .int .i64 0]) ∧ ReadsV w' A2 (tab n.ts.length (cntF seq seq.length)) ∧ Below W.heap.size W w')) := fun W hW => by
      have h := parikh_any n Q seq sc W (hr0.below hW (Nat.le_refl _)) (hq.below hW (Nat.le_refl _)) (by omega)
      rw [hsq, parL_ok hsq] at h
      refine h.mono fun e w' ⟨A2, c2, he, h1, h2⟩ => ⟨A2, c2, ?_, h1, h2⟩
      rw [he, tab_len]
    have CI := fun W (hW : Below w.heap.size w W) => incidenceN_any n W (hr0.below hW (Nat.le_refl _))
    have ES : Hid (∀ p t, t < n.ts.length → meqS n m seq seq.length p (t + 1) = meqS n m seq seq.length p t + incD n.ts p t * cntF seq seq.length t ∧ (-10000000 ≤ meqS n m seq seq.length p t ∧ meqS n m seq seq.length p t ≤ 10000000) ∧ (-5940 ≤ incD n.ts p t * cntF seq seq.length t ∧ incD n.ts p t * cntF seq seq.length t ≤ 5940)) := fun p t ht => eq_step hgd h61 ht
    have EZ : Hid (∀ p, meqS n m seq seq.length p 0 = at0 m p) := fun p => eq_zero n m seq _ p
    have EL := Lib.hid hEL
    have HLn := Lib.hid hLn
    have HMN := Lib.hid hmn
    have HM := Lib.hid hm
    have PA : Hid (∀ t, t < n.ts.length → at0 (tab n.ts.length (cntF seq seq.length)) t = cntF seq seq.length t) := fun t ht => tab_at _ _ _ ht
    have PN : Hid ((tab n.ts.length (cntF seq seq.length)).length = n.ts.length) := tab_len _ _
    rw [hmn]
    clear CS hs hr hr0 hm hq hl hl2 hsl hE hgd hgd' hsq hLn hEL hmn
    generalize meqS n m seq seq.length = es at *
    generalize tab n.ts.length (cntF seq seq.length) = PS at *
    generalize cntF seq seq.length = ct at *
    generalize runV n m seq = S at *
    obtain ⟨L, E', at'⟩ := S
    dsimp only at *
    by_cases hT : 0 < n.ts.length
    · have CI : Hid (∀ W, Below w.heap.size w W → Calls Try.prog 31 #[.agg #[.string n.nm, .slice n.PA n.ps.length n.pc, .slice n.TA n.ts.length n.tc]] W (fun e w' => ∃ R, e = .returned (.slice (some ⟨R, 0, none⟩) n.ps.length n.ps.length) ∧ MatIs w' R n.ps.length n.ts.length (incD n.ts) ∧ Below W.heap.size W w')) := fun W hW => (CI W hW).mono fun e w' ⟨h1, h2, _⟩ => by
        obtain ⟨R, _, he, hx⟩ := h2 ⟨hokn, hT⟩
        exact ⟨R, he, hx, h1⟩
      generalize incD n.ts = ic at *
      clear hokn
      go_enter Try.func7, Try.ntmps7
      go_wp2_with fail
      refine (CS2.out _ B0.out).mono ?_
      rintro e x1 ⟨rfl, K⟩
      have Dx1 := Lib.hid (B0.out.trans (K.mono B0.out.size))
      clear K
      have q0 : (x1.alloc (.cells #[.string n.nm, .slice n.PA n.ps.length n.pc, .slice n.TA n.ts.length n.tc] 25)).cell? ⟨x1.heap.size, 0, none⟩ = some (.string n.nm) := by simp
      have q1 : (x1.alloc (.cells #[.string n.nm, .slice n.PA n.ps.length n.pc, .slice n.TA n.ts.length n.tc] 25)).cell? ⟨x1.heap.size, 1, none⟩ = some (.slice n.PA n.ps.length n.pc) := by simp
      have q2 : (x1.alloc (.cells #[.string n.nm, .slice n.PA n.ps.length n.pc, .slice n.TA n.ts.length n.tc] 25)).cell? ⟨x1.heap.size, 2, none⟩ = some (.slice n.TA n.ts.length n.tc) := by simp
      have Dx1a := Lib.hid (Dx1.out.alloc Dx1.out.size (.cells #[.string n.nm, .slice n.PA n.ps.length n.pc, .slice n.TA n.ts.length n.tc] 25))
      go_wp2_with fail
      refine (CF.out _ Dx1a.out).mono ?_
      rintro e x2 ⟨A2, c2, rfl, R2, K⟩
      have R2 := Lib.hid R2
      have q0 := keepc q0 K
      have q1 := keepc q1 K
      have q2 := keepc q2 K
      have Dx2 := Lib.hid (Dx1a.out.trans (K.mono Dx1a.out.size))
      clear K
      have Dx2a := Lib.hid (Dx2.out.alloc Dx2.out.size (.cells #[.int .i64 0, .int .i64 at'] 38))
      have q0 := cellA q0 (.cells #[.int .i64 0, .int .i64 at'] 38)
      have q1 := cellA q1 (.cells #[.int .i64 0, .int .i64 at'] 38)
      have q2 := cellA q2 (.cells #[.int .i64 0, .int .i64 at'] 38)
      have e0 : (x2.alloc (.cells #[.int .i64 0, .int .i64 at'] 38)).cell? ⟨x2.heap.size, 0, none⟩ = some (.int .i64 0) := by simp
      have R2 := Lib.hid (R2.out.alloc (.cells #[.int .i64 0, .int .i64 at'] 38))
      go_wp2_with fail
      refine (CP.out _ Dx2a.out).mono ?_
      rintro e x3 ⟨A3, c3, rfl, R3, K⟩
      have R3 := Lib.hid R3
      have q0 := keepc q0 K
      have q1 := keepc q1 K
      have q2 := keepc q2 K
      have R2 := Lib.hid (R2.out.below K (Nat.le_refl _))
      have Dx3 := Lib.hid (Dx2a.out.trans (K.mono Dx2a.out.size))
      clear K
      go_wp2_with fail
      refine (CI.out _ Dx3.out).mono ?_
      rintro e x4 ⟨R, rfl, HX, K⟩
      have HX := Lib.hid HX
      have q0 := keepc q0 K
      have q1 := keepc q1 K
      have q2 := keepc q2 K
      have R2 := Lib.hid (R2.out.below K (Nat.le_refl _))
      have R3 := Lib.hid (R3.out.below K (Nat.le_refl _))
      have Dx4 := Lib.hid (Dx3.out.trans (K.mono Dx3.out.size))
      clear K
      clear CF CP CI CS2 B0 Dx1 Dx1a Dx2 Dx2a Dx3 e0
      go_wp2_with fail
      clear q0 q1 q2
      go_loopw [14] (fun q wr => ∃ p : Nat, p ≤ n.ps.length ∧ q = .int .i64 p ∧ Hid (Below x4.heap.size x4 wr)) (fun q _ => n.ps.length - (intOf q).toNat)
      case atStart => exact ⟨0, by omega, rfl, Below.refl _ _⟩
      case round =>
        obtain ⟨p, hp, rfl, BB⟩ := hrel
        have BG := Lib.hid (Dx4.out.trans (BB.out.mono Dx4.out.size))
        by_cases hlt : p < n.ps.length
        · obtain ⟨bm, om, eM, fM⟩ := at_of_reads (HM.out.below BG.out (Nat.le_refl _)) p (by rw [HMN.out]; exact hlt)
          subst eM
          rw [← EZ.out p] at fM
          have hb0 : True := trivial
          go_wp2_with fail
          go_loopw [15, 16] (fun s q ws => ∃ t : Nat, t ≤ n.ts.length ∧ s = .int .i64 (es p t) ∧ q = .int .i64 t ∧ Hid (Below x4.heap.size x4 ws)) (fun _ q _ => n.ts.length - (intOf q).toNat)
          case atStart => exact ⟨0, by omega, rfl, rfl, BB⟩
          case round =>
            clear fM BB BG
            obtain ⟨t, ht, rfl, rfl, BJ⟩ := hrel
            by_cases hlt2 : t < n.ts.length
            · have z1 := (HX.out.below BJ.out (Nat.le_refl _)).1.cell hlt
              have z2 := ((HX.out.below BJ.out (Nat.le_refl _)).2 p hlt).cell hlt2
              obtain ⟨bc, oc, eC, fC⟩ := at_of_reads (R3.out.below BJ.out (Nat.le_refl _)) t (by rw [PN.out]; exact hlt2)
              subst eC
              rw [PA.out t hlt2] at fC
              obtain ⟨s1, s2, s3⟩ := ES.out p t hlt2
              have S1 := Lib.hid s1
              clear s1
              generalize es p t = s at *
              generalize ic p t = x at *
              generalize ct t = y at *
              have hw1 : IntKind.i64.wrap (x * y) = x * y := by rw [IntKind.wrap_i64]; omega
              have hw2 : IntKind.i64.wrap (s + x * y) = s + x * y := by rw [IntKind.wrap_i64]; omega
              have S2 : Hid (Value.int .i64 (s + x * y) = Value.int .i64 (es p (t + 1))) := by show _ = _; rw [S1.out]
              clear ES EL EZ PA PN HX R2 R3 HM CX S1 s2 s3
              have hti : (t : Int) < (n.ts.length : Int) := by omega
              go_wp2_with fail
              go_quiet (fail)
              go_wp2
              go_roundw
              case rel => exact ⟨t + 1, by omega, by first | exact S2.out | (rw [hw1, hw2]; exact S2.out) | (rw [hw2]; exact S2.out), by go_num, below_drewN BJ.out _⟩
              case measure => simp [intOf]; omega
            · obtain ⟨bo, oo, eO, fO⟩ := at_of_reads (R2.out.below BJ.out (Nat.le_refl _)) p (by rw [HLn.out]; exact hlt)
              subst eO
              rw [EL.out p hlt] at fO
              have et : t = n.ts.length := by omega
              subst et
              generalize es p n.ts.length = v at *
              have zv : (v != v) = false := by simp
              clear ES EL EZ PA PN R3 HM CX
              go_wp2
              go_roundw
              case rel => exact ⟨p + 1, by omega, by go_num, BJ⟩
              case measure => simp [intOf]; omega
        · have ep : p = n.ps.length := by omega
          subst ep
          go_wp2_with fail
          refine (CX.out _).mono ?_
          rintro e w9 ⟨rfl, K⟩
          have B9 := Lib.hid (BG.out.trans (K.mono BG.out.size))
          clear K
          go_wp2
          go_ret
          exact ⟨rfl, B9.out⟩
    · have CI : Hid (∀ W, Below w.heap.size w W → Calls Try.prog 31 #[.agg #[.string n.nm, .slice n.PA n.ps.length n.pc, .slice n.TA n.ts.length n.tc]] W (fun e w' => e = .returned (.slice none 0 0) ∧ Below W.heap.size W w')) := fun W hW => (CI W hW).mono fun e w' ⟨h1, _, h3⟩ => ⟨h3 (fun h => hT h.2), h1⟩
      have zn : ((0 : Int) != (n.ps.length : Int)) = true := by simp; omega
      have zt : decide (0 < n.ts.length) = false := decide_eq_false hT
      clear hokn
      go_enter Try.func7, Try.ntmps7
      go_wp2_with fail
      refine (CS2.out _ B0.out).mono ?_
      rintro e x1 ⟨rfl, K⟩
      have Dx1 := Lib.hid (B0.out.trans (K.mono B0.out.size))
      clear K
      have q0 : (x1.alloc (.cells #[.string n.nm, .slice n.PA n.ps.length n.pc, .slice n.TA n.ts.length n.tc] 25)).cell? ⟨x1.heap.size, 0, none⟩ = some (.string n.nm) := by simp
      have q1 : (x1.alloc (.cells #[.string n.nm, .slice n.PA n.ps.length n.pc, .slice n.TA n.ts.length n.tc] 25)).cell? ⟨x1.heap.size, 1, none⟩ = some (.slice n.PA n.ps.length n.pc) := by simp
      have q2 : (x1.alloc (.cells #[.string n.nm, .slice n.PA n.ps.length n.pc, .slice n.TA n.ts.length n.tc] 25)).cell? ⟨x1.heap.size, 2, none⟩ = some (.slice n.TA n.ts.length n.tc) := by simp
      have Dx1a := Lib.hid (Dx1.out.alloc Dx1.out.size (.cells #[.string n.nm, .slice n.PA n.ps.length n.pc, .slice n.TA n.ts.length n.tc] 25))
      go_wp2_with fail
      refine (CF.out _ Dx1a.out).mono ?_
      rintro e x2 ⟨A2, c2, rfl, R2, K⟩
      have R2 := Lib.hid R2
      have q0 := keepc q0 K
      have q1 := keepc q1 K
      have q2 := keepc q2 K
      have Dx2 := Lib.hid (Dx1a.out.trans (K.mono Dx1a.out.size))
      clear K
      have Dx2a := Lib.hid (Dx2.out.alloc Dx2.out.size (.cells #[.int .i64 0, .int .i64 at'] 38))
      have q0 := cellA q0 (.cells #[.int .i64 0, .int .i64 at'] 38)
      have q1 := cellA q1 (.cells #[.int .i64 0, .int .i64 at'] 38)
      have q2 := cellA q2 (.cells #[.int .i64 0, .int .i64 at'] 38)
      have e0 : (x2.alloc (.cells #[.int .i64 0, .int .i64 at'] 38)).cell? ⟨x2.heap.size, 0, none⟩ = some (.int .i64 0) := by simp
      have R2 := Lib.hid (R2.out.alloc (.cells #[.int .i64 0, .int .i64 at'] 38))
      go_wp2_with fail
      refine (CP.out _ Dx2a.out).mono ?_
      rintro e x3 ⟨A3, c3, rfl, R3, K⟩
      have R3 := Lib.hid R3
      have q0 := keepc q0 K
      have q1 := keepc q1 K
      have q2 := keepc q2 K
      have R2 := Lib.hid (R2.out.below K (Nat.le_refl _))
      have Dx3 := Lib.hid (Dx2a.out.trans (K.mono Dx2a.out.size))
      clear K
      go_wp2_with fail
      refine (CI.out _ Dx3.out).mono ?_
      rintro e x4 ⟨rfl, K⟩
      have q0 := keepc q0 K
      have q1 := keepc q1 K
      have q2 := keepc q2 K
      have R2 := Lib.hid (R2.out.below K (Nat.le_refl _))
      have R3 := Lib.hid (R3.out.below K (Nat.le_refl _))
      have Dx4 := Lib.hid (Dx3.out.trans (K.mono Dx3.out.size))
      clear K
      clear CF CP CI CS2 B0 Dx1 Dx1a Dx2 Dx2a Dx3 e0
      go_wp2_with fail
      clear q0 q1 q2
      go_loopw [14] (fun q wr => ∃ p : Nat, p ≤ n.ps.length ∧ q = .int .i64 p ∧ Hid (Below x4.heap.size x4 wr)) (fun q _ => n.ps.length - (intOf q).toNat)
      case atStart => exact ⟨0, by omega, rfl, Below.refl _ _⟩
      case round =>
        obtain ⟨p, hp, rfl, BB⟩ := hrel
        have BG := Lib.hid (Dx4.out.trans (BB.out.mono Dx4.out.size))
        by_cases hlt : p < n.ps.length
        · obtain ⟨bm, om, eM, fM⟩ := at_of_reads (HM.out.below BG.out (Nat.le_refl _)) p (by rw [HMN.out]; exact hlt)
          subst eM
          rw [← EZ.out p] at fM
          have hb0 : True := trivial
          go_wp2_with fail
          go_loopw [15, 16] (fun s q ws => ∃ t : Nat, t ≤ n.ts.length ∧ s = .int .i64 (es p t) ∧ q = .int .i64 t ∧ Hid (Below x4.heap.size x4 ws)) (fun _ q _ => n.ts.length - (intOf q).toNat)
          case atStart => exact ⟨0, by omega, rfl, rfl, BB⟩
          case round =>
            clear fM BB BG
            obtain ⟨t, ht, rfl, rfl, BJ⟩ := hrel
            by_cases hlt2 : t < n.ts.length
            · exfalso; omega
            · obtain ⟨bo, oo, eO, fO⟩ := at_of_reads (R2.out.below BJ.out (Nat.le_refl _)) p (by rw [HLn.out]; exact hlt)
              subst eO
              rw [EL.out p hlt] at fO
              have et : t = n.ts.length := by omega
              subst et
              generalize es p n.ts.length = v at *
              have zv : (v != v) = false := by simp
              clear ES EL EZ PA PN R3 HM CX
              go_wp2
              go_roundw
              case rel => exact ⟨p + 1, by omega, by go_num, BJ⟩
              case measure => simp [intOf]; omega
        · have ep : p = n.ps.length := by omega
          subst ep
          go_wp2_with fail
          refine (CX.out _).mono ?_
          rintro e w9 ⟨rfl, K⟩
          have B9 := Lib.hid (BG.out.trans (K.mono BG.out.size))
          clear K
          go_wp2
          go_ret
          exact ⟨rfl, B9.out⟩
end Go.Proofs.Ytaomgfmlnjdoaaa
