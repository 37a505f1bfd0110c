/- The law on greater markings of plain nets. -/
import Derived.Test.YtaomgfmlnjdoaaaFO
import Derived.Maps.AppendAt
namespace Go.Proofs.Ytaomgfmlnjdoaaa
open Go.RowKit

theorem oper_append_own_at {P : Program} (w : World) {o : Oper} {a : Act} {K : Act → World → Prop} {Q : Exit → Act → World → Prop} (s x : Operand) (t : TypeId)
    (ho : o.op = .call { callee := .builtin .append, args := #[s, x], argTypes := #[t, t] })
    (base : Nat) (e : TypeId) (i : TypeInfo) (z : Value) (size bytes : Nat) (ht : P.underlying t = some (.slice e)) (hi : P.info? e = some i) (hz : i.zero = some z)
    (hsize : i.size = size) (hby : i.bytes = bytes) (hzs : z.cells.size = size) (hsz : 0 < size)
    (v : Value) (n : Nat) (xs : List Value) (hs : a.eval s = v) (hown : w.ownsRow base e size v n xs)
    (ad : Addr) (m c : Nat) (news : List Value) (hx : a.eval x = .slice (some ad) m c) (hl : news.length = m * size) (hnews : ∀ j u, news[j]? = some u → w.cell? (ad.add j) = some u) (h1 : ∀ u ∈ news, u.oneCell' = true)
    (h63 : n + m ≤ maxLen) (hbytes : (n + m) * bytes ≤ 140737488355328) (hbase : base ≤ w.heap.size)
    (h : ∀ v' w', w'.ownsRow base e size v' (n + m) (xs ++ news) → w.grownBy w' v.ownBlock → K (a.put o.dst v') w') : Oper.wp P o a w K Q := by
  obtain ⟨v', w', hr, h2, h3, _, _⟩ := run_append_own_at (P := P) w base t o.type e i z size bytes ht hi hz hsize hby hzs hsz v n xs hown ad m c news hl hnews h1 h63 hbytes hbase
  unfold Oper.wp execOp
  simp only [ho, resolve, invoke, builtin, Sem.run_bind, Sem.run_pure, Result.andThen_ok, List.map_toArray, List.map_cons, List.map_nil, hs, hx, hr]
  exact h v' w' h2 h3
theorem oper_int {o : Oper} {a : Act} {w : World} {K : Act → World → Prop} {Q : Exit → Act → World → Prop} (s x : Operand)
    (ho : o.op = .call { callee := .builtin .append, args := #[s, x], argTypes := #[26, 26] })
    (base : Nat) (v : Value) (zs : List Int) (z : Int) (hs : a.eval s = v) (hO : OwnI w base v zs) (g : Nat) (hx : a.eval x = .slice (some ⟨g, 0, none⟩) 1 1)
    (hc : w.cell? ⟨g, 0, none⟩ = some (.int .i64 z)) (hl : zs.length ≤ 100000) (hbase : base ≤ w.heap.size)
    (h : ∀ v' w', OwnI w' base v' (zs ++ [z]) → Below base w w' → K (a.put o.dst v') w') : Oper.wp Try.prog o a w K Q := by
  obtain ⟨i, hi, hz, h1, h2⟩ := info_parts infoI
  refine oper_append_own_at w s x 26 ho base 3 i (.int .i64 0) 1 8 Try.underlying26 hi hz h1 h2 rfl (by decide) v zs.length (zs.map (Value.int .i64)) hs hO ⟨g, 0, none⟩ 1 1 [.int .i64 z] hx rfl ?_ ?_ (by unfold maxLen; omega) (by omega) hbase ?_
  · intro j u hj
    cases j with
    | zero => simp at hj; subst hj; simpa [Addr.add] using hc
    | succ j => simp at hj
  · intro u hu
    simp at hu
    subst hu
    simp [Value.oneCell']
  · intro v' w' hown hgrow
    refine h v' w' ?_ ((Below.refl base w).grown hgrow hbase fun q e => (World.ownsRow.lt hO q e).1)
    unfold OwnI
    rw [List.map_append, List.length_append]
    exact hown

def sumF (m d : List Int) (k : Nat) : Int := min (at0 m k + at0 d k) 1048576
def sumL (m d : List Int) : List Int := tab m.length (sumF m d)
theorem sum_at {m d : List Int} {k : Nat} (hk : k < m.length) : at0 (sumL m d) k = sumF m d k := tab_at _ _ _ hk
theorem sum_len (m d : List Int) : (sumL m d).length = m.length := tab_len _ _
theorem sumF_bd {m d : List Int} {k : Nat} (h1 : 0 ≤ at0 m k ∧ at0 m k ≤ 1048576) (h2 : 0 ≤ at0 d k ∧ at0 d k ≤ 1048576) : at0 m k ≤ sumF m d k ∧ sumF m d k ≤ 1048576 := by
  unfold sumF
  omega
theorem plain_parts {n : NetV} (h : plainN n = true) : okN n = true ∧ (∀ t, t < n.ts.length → (tA n.ts t).inh.l = [] ∧ (tA n.ts t).prio = 0) ∧ (∀ p, p < n.ps.length → (pA n.ps p).cap = 0) := by
  unfold plainN at h
  rw [Bool.and_eq_true, Bool.and_eq_true, Bool.not_eq_true', Bool.not_eq_true'] at h
  obtain ⟨h0, h1, h2⟩ := h
  refine ⟨h0, fun t ht => ?_, fun p hp => ?_⟩
  · have := of_decide_eq_false (anyB_false.1 h1 t ht)
    refine ⟨List.length_eq_zero_iff.1 (by omega), by omega⟩
  · have := of_decide_eq_false (anyB_false.1 h2 p hp)
    omega
theorem sum_good {n : NetV} {m d : List Int} (hp : plainN n = true) (h1 : validL m n.ps.length = true) (h2 : validL d n.ps.length = true) : goodN n (sumL m d) = true := by
  have a1 := validL_parts h1
  have a2 := validL_parts h2
  unfold goodN validL
  rw [(plain_parts hp).1, sum_len, decide_eq_true a1.1, Bool.true_and, Bool.true_and]
  refine allB_yes fun k hk => decide_eq_true ?_
  rw [sum_len] at hk
  rw [sum_at hk]
  have b1 := natL_at a1.2 k
  have b2 := natL_at a2.2 k
  have := sumF_bd b1 b2
  exact ⟨by omega, this.2⟩
theorem sum_ready {n : NetV} {m d : List Int} {t : Nat} (hp : plainN n = true) (h1 : validL m n.ps.length = true) (h2 : validL d n.ps.length = true) (ht : t < n.ts.length) (h : readyB n m t = true) : readyB n (sumL m d) t = true := by
  have a1 := validL_parts h1
  have a2 := validL_parts h2
  obtain ⟨_, hi, hc⟩ := plain_parts hp
  unfold readyB at h ⊢
  rw [Bool.not_eq_true'] at h ⊢
  rw [anyB_false] at h ⊢
  intro p hpp
  have hb := h p hpp
  unfold badP at hb ⊢
  rw [Bool.or_eq_false_iff] at hb ⊢
  have e1 := of_decide_eq_false hb.1
  have hpm : p < m.length := by omega
  have := sumF_bd (natL_at a1.2 p) (natL_at a2.2 p)
  refine ⟨decide_eq_false (by rw [sum_at hpm]; omega), ?_⟩
  rw [Bool.or_eq_false_iff]
  refine ⟨decide_eq_false ?_, ?_⟩
  · rw [(hi t ht).1]
    have : weightV [] (p : Int) = 0 := rfl
    omega
  · unfold capF
    exact decide_eq_false (by rw [hc p hpp]; omega)
theorem plain_may {n : NetV} {m : List Int} {t : Nat} (hp : plainN n = true) (ht : t < n.ts.length) (h : readyB n m t = true) : mayB n m t = true := by
  obtain ⟨_, hi, _⟩ := plain_parts hp
  exact mayB_yes h fun o ho => moreF_no (by rw [(hi t ht).2, (hi o ho).2]; omega)
theorem list_mem {n : NetV} {m : List Int} {t : Int} (h : t ∈ listL n m) : 0 ≤ t ∧ t < n.ts.length ∧ mayB n m t.toNat = true := by
  unfold listL at h
  split at h
  · exact mem_fires.1 h
  · cases h
theorem grows_may {n : NetV} {m d : List Int} {t : Int} (hp : plainN n = true) (h1 : validL m n.ps.length = true) (h2 : validL d n.ps.length = true) (h : t ∈ listL n m) : mayT n (sumL m d) t = true := by
  obtain ⟨i0, i1, i2⟩ := list_mem h
  have ht : t.toNat < n.ts.length := by omega
  unfold mayT
  rw [sum_good hp h1 h2, inT_iff.2 ⟨i0, i1⟩, plain_may hp ht (sum_ready hp h1 h2 ht (may_ready i2))]
  rfl
theorem grows_dead {n : NetV} {m d : List Int} (hp : plainN n = true) (h1 : validL m n.ps.length = true) (h2 : validL d n.ps.length = true) (h : deadB n (sumL m d) = true) : (listL n m).length = 0 := by
  cases e : listL n m
  · rfl
  · rename_i t r
    have hm := grows_may (t := t) hp h1 h2 (by rw [e]; exact List.mem_cons_self ..)
    unfold mayT at hm
    rw [Bool.and_eq_true, Bool.and_eq_true] at hm
    have hf := mem_fires.2 ⟨(inT_iff.1 hm.2.1).1, (inT_iff.1 hm.2.1).2, hm.2.2⟩
    unfold deadB at h
    rw [Bool.and_eq_true] at h
    have := List.length_eq_zero_iff.1 (of_decide_eq_true h.2)
    rw [this] at hf
    cases hf

set_option maxHeartbeats 16000000 in
set_option maxRecDepth 100000 in
theorem grows_law (n : NetV) (A : Option Addr) (m : List Int) (c : Nat) (Q : Option Addr) (d : List Int) (sc : Nat) (w : World) (hr : NetW w n) (hm : ReadsV w A m) (hl : m.length ≤ maxLen) (hq : ReadsV w Q d) (hql : d.length ≤ maxLen) :
    Calls Try.prog 8 #[.agg #[.string n.nm, .slice n.PA n.ps.length n.pc, .slice n.TA n.ts.length n.tc], .slice A m.length c, .slice Q d.length sc] w fun e w' => e = .returned (.bool true) ∧ Below w.heap.size w w' := by
  have CS : Hid (∀ W, Below w.heap.size w W → Calls Try.prog 9 #[.agg #[.string n.nm, .slice n.PA n.ps.length n.pc, .slice n.TA n.ts.length n.tc]] W (SmallPost W.heap.size W n)) := fun W hW => small_any n W (hr.below hW (Nat.le_refl _))
  have CX : Hid (∀ W, Calls Try.prog 10 #[] W (VPost W.heap.size W (.bool true))) := example_any
  have B0 : Hid (Below w.heap.size w (w.alloc (.cells #[.string n.nm, .slice n.PA n.ps.length n.pc, .slice n.TA n.ts.length n.tc] 25))) := (Below.refl _ _).alloc (Nat.le_refl _) _
  cases hs : smallN n
  · have CS2 : Hid (∀ W, Below w.heap.size w W → Calls Try.prog 9 #[.agg #[.string n.nm, .slice n.PA n.ps.length n.pc, .slice n.TA n.ts.length n.tc]] W (fun e w' => e = .returned (.tuple #[.agg #[.string ⟨#[]⟩, .slice none 0 0, .slice none 0 0], .bool false]) ∧ Below W.heap.size W w')) := fun W hW => (CS.out W hW).mono fun e w' h => by
      unfold SmallPost at h
      rw [hs, if_neg (by simp)] at h
      exact h
    clear CS hs hm hq
    go_enter Try.func8, Try.ntmps8
    go_wp2_with fail
    refine (CS2.out _ B0.out).mono ?_
    rintro e x1 ⟨rfl, K⟩
    have Dx1 := Lib.hid (B0.out.trans (K.mono B0.out.size))
    clear K
    have Dx1a := Lib.hid (Dx1.out.alloc Dx1.out.size (.cells #[.string ⟨#[]⟩, .slice none 0 0, .slice none 0 0] 25))
    go_wp2_with fail
    refine (CX.out _).mono ?_
    rintro e x2 ⟨rfl, K⟩
    have Dx2 := Lib.hid (Dx1a.out.trans (K.mono Dx1a.out.size))
    clear K
    go_wp2
    go_ret
    exact ⟨rfl, Dx2.out⟩
  · have CS2 : Hid (∀ W, Below w.heap.size w W → Calls Try.prog 9 #[.agg #[.string n.nm, .slice n.PA n.ps.length n.pc, .slice n.TA n.ts.length n.tc]] W (fun e w' => e = .returned (.tuple #[.agg #[.string n.nm, .slice n.PA n.ps.length n.pc, .slice n.TA n.ts.length n.tc], .bool true]) ∧ Below W.heap.size W w')) := fun W hW => (CS.out W hW).mono fun e w' h => by
      unfold SmallPost at h
      rw [hs, if_pos rfl] at h
      exact h
    have hr0 := small_ok hr hs
    have hsl := small_len hs
    have hl2 : m.length ≤ 9223372036854775807 := by unfold maxLen at hl; omega
    have hql2 : d.length ≤ 9223372036854775807 := by unfold maxLen at hql; omega
    have CP : Hid (∀ W, Below w.heap.size w W → Calls Try.prog 32 #[.agg #[.string n.nm, .slice n.PA n.ps.length n.pc, .slice n.TA n.ts.length n.tc]] W (VPost W.heap.size W (.bool (plainN n)))) := fun W hW => plainN_any n W (hr0.below hW (Nat.le_refl _))
    have V1 : Hid (∀ W, Below w.heap.size w W → Calls Try.prog 33 #[.slice A m.length c, .int .i64 n.ps.length] W (fun e w' => e = .returned (.bool (validL m n.ps.length)) ∧ Below W.heap.size W w')) := fun W hW => (rvalidn_law A m n.ps.length c W (hm.below hW (Nat.le_refl _)) hl2).mono fun e w' h => ⟨h.1, by rw [← h.2]; exact Below.refl _ _⟩
    have V2 : Hid (∀ W, Below w.heap.size w W → Calls Try.prog 33 #[.slice Q d.length sc, .int .i64 n.ps.length] W (fun e w' => e = .returned (.bool (validL d n.ps.length)) ∧ Below W.heap.size W w')) := fun W hW => (rvalidn_law Q d n.ps.length sc W (hq.below hW (Nat.le_refl _)) hql2).mono fun e w' h => ⟨h.1, by rw [← h.2]; exact Below.refl _ _⟩
    cases hp : plainN n
    · rw [hp] at CP
      clear CS hs hr hr0 hm hq hl hl2 hql hql2 hsl hp V1 V2
      go_enter Try.func8, Try.ntmps8
      go_wp2_with fail
      refine (CS2.out _ B0.out).mono ?_
      rintro e x1 ⟨rfl, K⟩
      have Dx1 := Lib.hid (B0.out.trans (K.mono B0.out.size))
      clear K
      have q0 : (x1.alloc (.cells #[.string n.nm, .slice n.PA n.ps.length n.pc, .slice n.TA n.ts.length n.tc] 25)).cell? ⟨x1.heap.size, 0, none⟩ = some (.string n.nm) := by simp
      have q1 : (x1.alloc (.cells #[.string n.nm, .slice n.PA n.ps.length n.pc, .slice n.TA n.ts.length n.tc] 25)).cell? ⟨x1.heap.size, 1, none⟩ = some (.slice n.PA n.ps.length n.pc) := by simp
      have q2 : (x1.alloc (.cells #[.string n.nm, .slice n.PA n.ps.length n.pc, .slice n.TA n.ts.length n.tc] 25)).cell? ⟨x1.heap.size, 2, none⟩ = some (.slice n.TA n.ts.length n.tc) := by simp
      have Dx1a := Lib.hid (Dx1.out.alloc Dx1.out.size (.cells #[.string n.nm, .slice n.PA n.ps.length n.pc, .slice n.TA n.ts.length n.tc] 25))
      go_wp2_with fail
      refine (CP.out _ Dx1a.out).mono ?_
      rintro e x2 ⟨rfl, K⟩
      have q0 := keepc q0 K
      have q1 := keepc q1 K
      have q2 := keepc q2 K
      have Dx2 := Lib.hid (Dx1a.out.trans (K.mono Dx1a.out.size))
      clear K
      go_wp2_with fail
      refine (CX.out _).mono ?_
      rintro e x3 ⟨rfl, K⟩
      have q0 := keepc q0 K
      have q1 := keepc q1 K
      have q2 := keepc q2 K
      have Dx3 := Lib.hid (Dx2.out.trans (K.mono Dx2.out.size))
      clear K
      go_wp2
      go_ret
      exact ⟨rfl, Dx3.out⟩
    rw [hp] at CP
    cases h1 : validL m n.ps.length
    · rw [h1] at V1
      clear CS hs hr hr0 hm hq hl hl2 hql hql2 hsl h1 V2
      go_enter Try.func8, Try.ntmps8
      go_wp2_with fail
      refine (CS2.out _ B0.out).mono ?_
      rintro e x1 ⟨rfl, K⟩
      have Dx1 := Lib.hid (B0.out.trans (K.mono B0.out.size))
      clear K
      have q0 : (x1.alloc (.cells #[.string n.nm, .slice n.PA n.ps.length n.pc, .slice n.TA n.ts.length n.tc] 25)).cell? ⟨x1.heap.size, 0, none⟩ = some (.string n.nm) := by simp
      have q1 : (x1.alloc (.cells #[.string n.nm, .slice n.PA n.ps.length n.pc, .slice n.TA n.ts.length n.tc] 25)).cell? ⟨x1.heap.size, 1, none⟩ = some (.slice n.PA n.ps.length n.pc) := by simp
      have q2 : (x1.alloc (.cells #[.string n.nm, .slice n.PA n.ps.length n.pc, .slice n.TA n.ts.length n.tc] 25)).cell? ⟨x1.heap.size, 2, none⟩ = some (.slice n.TA n.ts.length n.tc) := by simp
      have Dx1a := Lib.hid (Dx1.out.alloc Dx1.out.size (.cells #[.string n.nm, .slice n.PA n.ps.length n.pc, .slice n.TA n.ts.length n.tc] 25))
      go_wp2_with fail
      refine (CP.out _ Dx1a.out).mono ?_
      rintro e x2 ⟨rfl, K⟩
      have q0 := keepc q0 K
      have q1 := keepc q1 K
      have q2 := keepc q2 K
      have Dx2 := Lib.hid (Dx1a.out.trans (K.mono Dx1a.out.size))
      clear K
      go_wp2_with fail
      refine (V1.out _ Dx2.out).mono ?_
      rintro e x3 ⟨rfl, K⟩
      have q0 := keepc q0 K
      have q1 := keepc q1 K
      have q2 := keepc q2 K
      have Dx3 := Lib.hid (Dx2.out.trans (K.mono Dx2.out.size))
      clear K
      go_wp2_with fail
      refine (CX.out _).mono ?_
      rintro e x4 ⟨rfl, K⟩
      have q0 := keepc q0 K
      have q1 := keepc q1 K
      have q2 := keepc q2 K
      have Dx4 := Lib.hid (Dx3.out.trans (K.mono Dx3.out.size))
      clear K
      go_wp2
      go_ret
      exact ⟨rfl, Dx4.out⟩
    rw [h1] at V1
    cases h2 : validL d n.ps.length
    · rw [h2] at V2
      clear CS hs hr hr0 hm hq hl hl2 hql hql2 hsl h2 
      go_enter Try.func8, Try.ntmps8
      go_wp2_with fail
      refine (CS2.out _ B0.out).mono ?_
      rintro e x1 ⟨rfl, K⟩
      have Dx1 := Lib.hid (B0.out.trans (K.mono B0.out.size))
      clear K
      have q0 : (x1.alloc (.cells #[.string n.nm, .slice n.PA n.ps.length n.pc, .slice n.TA n.ts.length n.tc] 25)).cell? ⟨x1.heap.size, 0, none⟩ = some (.string n.nm) := by simp
      have q1 : (x1.alloc (.cells #[.string n.nm, .slice n.PA n.ps.length n.pc, .slice n.TA n.ts.length n.tc] 25)).cell? ⟨x1.heap.size, 1, none⟩ = some (.slice n.PA n.ps.length n.pc) := by simp
      have q2 : (x1.alloc (.cells #[.string n.nm, .slice n.PA n.ps.length n.pc, .slice n.TA n.ts.length n.tc] 25)).cell? ⟨x1.heap.size, 2, none⟩ = some (.slice n.TA n.ts.length n.tc) := by simp
      have Dx1a := Lib.hid (Dx1.out.alloc Dx1.out.size (.cells #[.string n.nm, .slice n.PA n.ps.length n.pc, .slice n.TA n.ts.length n.tc] 25))
      go_wp2_with fail
      refine (CP.out _ Dx1a.out).mono ?_
      rintro e x2 ⟨rfl, K⟩
      have q0 := keepc q0 K
      have q1 := keepc q1 K
      have q2 := keepc q2 K
      have Dx2 := Lib.hid (Dx1a.out.trans (K.mono Dx1a.out.size))
      clear K
      go_wp2_with fail
      refine (V1.out _ Dx2.out).mono ?_
      rintro e x3 ⟨rfl, K⟩
      have q0 := keepc q0 K
      have q1 := keepc q1 K
      have q2 := keepc q2 K
      have Dx3 := Lib.hid (Dx2.out.trans (K.mono Dx2.out.size))
      clear K
      go_wp2_with fail
      refine (V2.out _ Dx3.out).mono ?_
      rintro e x4 ⟨rfl, K⟩
      have q0 := keepc q0 K
      have q1 := keepc q1 K
      have q2 := keepc q2 K
      have Dx4 := Lib.hid (Dx3.out.trans (K.mono Dx3.out.size))
      clear K
      go_wp2_with fail
      refine (CX.out _).mono ?_
      rintro e x5 ⟨rfl, K⟩
      have q0 := keepc q0 K
      have q1 := keepc q1 K
      have q2 := keepc q2 K
      have Dx5 := Lib.hid (Dx4.out.trans (K.mono Dx4.out.size))
      clear K
      go_wp2
      go_ret
      exact ⟨rfl, Dx5.out⟩
    rw [h2] at V2
    have L1 : Hid (∀ W, Below w.heap.size w W → Calls Try.prog 16 #[.agg #[.string n.nm, .slice n.PA n.ps.length n.pc, .slice n.TA n.ts.length n.tc], .slice A m.length c] W (IsPost W.heap.size W (listL n m))) := fun W hW => list_any n A m c W (hr0.below hW (Nat.le_refl _)) (hm.below hW (Nat.le_refl _)) hl2
    have hsm : (sumL m d).length ≤ 9223372036854775807 := by rw [sum_len]; exact hl2
    have MY : Hid (∀ S5 c5 t W, Below w.heap.size w W → ReadsV W S5 (sumL m d) → Calls Try.prog 13 #[.agg #[.string n.nm, .slice n.PA n.ps.length n.pc, .slice n.TA n.ts.length n.tc], .slice S5 (sumL m d).length c5, .int .i64 t] W (VPost W.heap.size W (.bool (mayT n (sumL m d) t)))) := fun S5 c5 t W hW h => mayT_any n S5 (sumL m d) c5 t W (hr0.below hW (Nat.le_refl _)) h hsm
    have DD : Hid (∀ S5 c5 W, Below w.heap.size w W → ReadsV W S5 (sumL m d) → Calls Try.prog 18 #[.agg #[.string n.nm, .slice n.PA n.ps.length n.pc, .slice n.TA n.ts.length n.tc], .slice S5 (sumL m d).length c5] W (VPost W.heap.size W (.bool (deadB n (sumL m d))))) := fun S5 c5 W hW h => dead_any n S5 (sumL m d) c5 W (hr0.below hW (Nat.le_refl _)) h hsm
    have GM : Hid (∀ k, k < (listL n m).length → mayT n (sumL m d) (at0 (listL n m) k) = true) := fun k hk => grows_may hp h1 h2 (at0_mem hk)
    have GD : Hid (deadB n (sumL m d) = true → (listL n m).length = 0) := grows_dead hp h1 h2
    have hLL : (listL n m).length ≤ 26 := Nat.le_trans (listL_len n m) hsl.2
    have a1 := validL_parts h1
    have a2 := validL_parts h2
    have BM := Lib.hid (natL_at a1.2)
    have BD := Lib.hid (natL_at a2.2)
    have HLM : Hid (d.length = m.length) := by show _ = _; omega
    have hm26 : m.length ≤ 26 := by omega
    have HM := Lib.hid hm
    have HQ := Lib.hid hq
    have TS : Hid (∀ k, tab (k + 1) (sumF m d) = tab k (sumF m d) ++ [sumF m d k]) := fun k => tab_snoc k _
    have SF : Hid (∀ k, sumF m d k = min (at0 m k + at0 d k) 1048576) := fun k => rfl
    have SE : Hid (sumL m d = tab m.length (sumF m d)) := rfl
    have SLn : Hid ((sumL m d).length = m.length) := sum_len m d
    clear CS hs hr hr0 hm hq hl hl2 hql hql2 hsl hp h1 h2 a1 a2 hsm
    generalize sumL m d = G at *
    generalize listL n m = L at *
    generalize mayT n G = my at *
    generalize deadB n G = db at *
    generalize sumF m d = gf at *
    go_enter Try.func8, Try.ntmps8
    go_wp2_with fail
    refine (CS2.out _ B0.out).mono ?_
    rintro e x1 ⟨rfl, K⟩
    have Dx1 := Lib.hid (B0.out.trans (K.mono B0.out.size))
    clear K
    have q0 : (x1.alloc (.cells #[.string n.nm, .slice n.PA n.ps.length n.pc, .slice n.TA n.ts.length n.tc] 25)).cell? ⟨x1.heap.size, 0, none⟩ = some (.string n.nm) := by simp
    have q1 : (x1.alloc (.cells #[.string n.nm, .slice n.PA n.ps.length n.pc, .slice n.TA n.ts.length n.tc] 25)).cell? ⟨x1.heap.size, 1, none⟩ = some (.slice n.PA n.ps.length n.pc) := by simp
    have q2 : (x1.alloc (.cells #[.string n.nm, .slice n.PA n.ps.length n.pc, .slice n.TA n.ts.length n.tc] 25)).cell? ⟨x1.heap.size, 2, none⟩ = some (.slice n.TA n.ts.length n.tc) := by simp
    have Dx1a := Lib.hid (Dx1.out.alloc Dx1.out.size (.cells #[.string n.nm, .slice n.PA n.ps.length n.pc, .slice n.TA n.ts.length n.tc] 25))
    go_wp2_with fail
    refine (CP.out _ Dx1a.out).mono ?_
    rintro e x2 ⟨rfl, K⟩
    have q0 := keepc q0 K
    have q1 := keepc q1 K
    have q2 := keepc q2 K
    have Dx2 := Lib.hid (Dx1a.out.trans (K.mono Dx1a.out.size))
    clear K
    go_wp2_with fail
    refine (V1.out _ Dx2.out).mono ?_
    rintro e x3 ⟨rfl, K⟩
    have q0 := keepc q0 K
    have q1 := keepc q1 K
    have q2 := keepc q2 K
    have Dx3 := Lib.hid (Dx2.out.trans (K.mono Dx2.out.size))
    clear K
    go_wp2_with fail
    refine (V2.out _ Dx3.out).mono ?_
    rintro e x4 ⟨rfl, K⟩
    have q0 := keepc q0 K
    have q1 := keepc q1 K
    have q2 := keepc q2 K
    have Dx4 := Lib.hid (Dx3.out.trans (K.mono Dx3.out.size))
    clear K
    clear CP V1 V2 CS2 B0 Dx1 Dx1a Dx2 Dx3
    obtain ⟨s, hs⟩ : ∃ s, s = x4.heap.size := ⟨_, rfl⟩
    have HS := Lib.hid hs
    clear hs
    have P0 : Hid (∀ W, Below s x4 W → W.cell? ⟨x1.heap.size, 0, none⟩ = some (.string n.nm) ∧ W.cell? ⟨x1.heap.size, 1, none⟩ = some (.slice n.PA n.ps.length n.pc) ∧ W.cell? ⟨x1.heap.size, 2, none⟩ = some (.slice n.TA n.ts.length n.tc)) := fun W hW => by
      rw [HS.out] at hW
      exact ⟨keepc q0 hW, keepc q1 hW, keepc q2 hW⟩
    have WG : Hid (∀ W, Below s x4 W → Below w.heap.size w W) := fun W hW => Dx4.out.trans (hW.mono (by rw [HS.out]; exact Dx4.out.size))
    clear q0 q1 q2 Dx4
    go_wp2_with fail
    go_loopw [9, 10] (fun p q wr => ∃ k : Nat, k ≤ m.length ∧ q = .int .i64 k ∧ Hid (OwnI wr s p (tab k gf)) ∧ Hid (Below s x4 wr)) (fun _ q _ => m.length - (intOf q).toNat)
    case atStart => exact ⟨0, by omega, rfl, OwnI.nil _ _, Below.refl _ _⟩
    case round =>
      obtain ⟨k, hk, rfl, O, BB⟩ := hrel
      have BG := Lib.hid (WG.out _ BB.out)
      by_cases hlt : k < m.length
      · obtain ⟨ba, oa, e1, hx⟩ := at_of_reads (HM.out.below BG.out (Nat.le_refl _)) k hlt
        subst e1
        obtain ⟨bb, ob, e2, hy⟩ := at_of_reads (HQ.out.below BG.out (Nat.le_refl _)) k (by rw [HLM.out]; exact hlt)
        subst e2
        have hlt2 : k < d.length := by rw [HLM.out]; exact hlt
        have XW : Hid (∀ W, Below w.heap.size w W → W.cell? ⟨ba, oa + k, none⟩ = some (.int .i64 (at0 m k))) := fun W hW => by
          obtain ⟨b, o, e, h⟩ := at_of_reads (HM.out.below hW (Nat.le_refl _)) k hlt
          injection e with e; injection e with e3 e4; subst e3 e4; exact h
        have YW : Hid (∀ W, Below w.heap.size w W → W.cell? ⟨bb, ob + k, none⟩ = some (.int .i64 (at0 d k))) := fun W hW => by
          obtain ⟨b, o, e, h⟩ := at_of_reads (HQ.out.below hW (Nat.le_refl _)) k (by rw [HLM.out]; exact hlt)
          injection e with e; injection e with e3 e4; subst e3 e4; exact h
        have hb1 := BM.out k
        have hb2 := BD.out k
        have HT := TS.out k
        rw [SF.out k] at HT
        have HT := Lib.hid HT
        have ht : (tab k gf).length ≤ 1000 := by rw [tab_len]; omega
        generalize at0 m k = x at *
        generalize at0 d k = y at *
        generalize tab k gf = T at *
        have hwr2 : IntKind.i64.wrap (x + y) = x + y := by rw [IntKind.wrap_i64]; omega
        clear MY DD L1 GM GD CX SF TS
        go_upto_region 8 with fail
        refine wp_region_held_drew (S := fun w' => w'.cell? ⟨ba, oa + k, none⟩ = some (.int .i64 x) ∧ w'.cell? ⟨bb, ob + k, none⟩ = some (.int .i64 y) ∧ Hid (Below s x4 w')) (by kernel_rfl) ?_ (fun hHeld => ?_)
        · exact ⟨hx, hy, BB.out.drew⟩
        refine wpAnyH_take (oi := ⟨_, _, _, _, _, _⟩) (i := 0) (v := ?_) rfl (by kernel_rfl) (by kernel_rfl) (by kernel_rfl) (fun _ _ _ h => h) (Or.inl ⟨by rfl, ?ya0⟩) (by assumption) ?ra0
        case ya0 => (intro w hSw; (try dsimp only at hSw); go_simp; (try with_reducible rfl))
        try simp only [Act.put, List.setIfInBounds_toArray, List.set_cons_zero, List.set_cons_succ]
        refine wpAnyH_take (oi := ⟨_, _, _, _, _, _⟩) (i := 1) (v := ?_) rfl (by kernel_rfl) (by kernel_rfl) (by kernel_rfl) (fun _ _ _ h => h) (Or.inl ⟨by rfl, ?ya1⟩) (by assumption) ?ra1
        case ya1 => (intro w hSw; (try dsimp only at hSw); go_simp; (try with_reducible rfl))
        try simp only [Act.put, List.setIfInBounds_toArray, List.set_cons_zero, List.set_cons_succ]
        refine wpAnyH_take (oi := ⟨_, _, _, _, _, _⟩) (i := 2) (v := ?_) rfl (by kernel_rfl) (by kernel_rfl) (by kernel_rfl) (fun _ _ _ h => h) (Or.inl ⟨by rfl, ?ya2⟩) (by assumption) ?ra2
        case ya2 => (intro w hSw; (try dsimp only at hSw); go_simp; (try with_reducible rfl))
        try simp only [Act.put, List.setIfInBounds_toArray, List.set_cons_zero, List.set_cons_succ]
        refine wpAnyH_take (oi := ⟨_, _, _, _, _, _⟩) (i := 3) (v := ?_) rfl (by kernel_rfl) (by kernel_rfl) (by kernel_rfl) (fun _ _ _ h => h) (Or.inl ⟨by rfl, ?ya3⟩) (by assumption) ?ra3
        case ya3 => (intro w hSw; (try dsimp only at hSw); go_simp; (try with_reducible rfl))
        try simp only [Act.put, List.setIfInBounds_toArray, List.set_cons_zero, List.set_cons_succ]
        refine wpAnyH_take (oi := ⟨_, _, _, _, _, _⟩) (i := 4) (v := ?_) rfl (by kernel_rfl) (by kernel_rfl) (by kernel_rfl) (fun _ _ _ h => h) (Or.inl ⟨by rfl, ?ya4⟩) (by assumption) ?ra4
        case ya4 => (intro w hSw; (try dsimp only at hSw); go_simp; (try with_reducible rfl))
        try simp only [Act.put, List.setIfInBounds_toArray, List.set_cons_zero, List.set_cons_succ]
        refine wpAnyH_take (oi := ⟨_, _, _, _, _, _⟩) (i := 5) (v := ?_) rfl (by kernel_rfl) (by kernel_rfl) (by kernel_rfl) (fun _ _ _ h => h) (Or.inl ⟨by rfl, ?ya5⟩) (by assumption) ?ra5
        case ya5 => (intro w hSw; (try dsimp only at hSw); go_simp; (try with_reducible rfl))
        try simp only [Act.put, List.setIfInBounds_toArray, List.set_cons_zero, List.set_cons_succ]
        refine wpAnyH_take (oi := ⟨_, _, _, _, _, _⟩) (i := 6) (v := ?_) rfl (by kernel_rfl) (by kernel_rfl) (by kernel_rfl) (fun _ _ _ h => h) (Or.inl ⟨by rfl, ?ya6⟩) (by assumption) ?ra6
        case ya6 => (intro w hSw; (try dsimp only at hSw); go_simp; (try with_reducible rfl))
        try simp only [Act.put, List.setIfInBounds_toArray, List.set_cons_zero, List.set_cons_succ]
        refine wpAnyH_take (oi := ⟨_, _, _, _, _, _⟩) (i := 7) (v := ?_) rfl (by kernel_rfl) (by kernel_rfl) (by kernel_rfl) (fun _ _ _ h => h) (Or.inl ⟨by rfl, ?ya7⟩) (by assumption) ?ra7
        case ya7 => (intro w hSw; (try dsimp only at hSw); go_simp; (try with_reducible rfl))
        try simp only [Act.put, List.setIfInBounds_toArray, List.set_cons_zero, List.set_cons_succ]
        refine wpAnyH_take (oi := ⟨_, _, _, _, _, _⟩) (i := 8) (v := ?_) rfl (by kernel_rfl) (by kernel_rfl) (by kernel_rfl) (fun _ _ _ h => h) (Or.inl ⟨by rfl, ?ya8⟩) (by assumption) ?ra8
        case ya8 => (intro w hSw; (try dsimp only at hSw); go_simp; (try with_reducible rfl))
        try simp only [Act.put, List.setIfInBounds_toArray, List.set_cons_zero, List.set_cons_succ]
        refine wpAnyH_take (oi := ⟨_, _, _, _, _, _⟩) (i := 9) (v := ?_) rfl (by kernel_rfl) (by kernel_rfl) (by kernel_rfl) (fun _ _ _ h => h) (Or.inl ⟨by rfl, ?ya9⟩) (by assumption) ?ra9
        case ya9 => (intro w hSw; (try dsimp only at hSw); go_simp; (try with_reducible rfl))
        try simp only [Act.put, List.setIfInBounds_toArray, List.set_cons_zero, List.set_cons_succ]
        refine wpAnyH_take (oi := ⟨_, _, _, _, _, _⟩) (i := 10) (v := ?_) rfl (by kernel_rfl) (by kernel_rfl) (by kernel_rfl) (fun _ _ _ h => h) (Or.inl ⟨by rfl, ?ya10⟩) (by assumption) ?ra10
        case ya10 => (intro w hSw; (try dsimp only at hSw); go_simp; (try with_reducible rfl))
        try simp only [Act.put, List.setIfInBounds_toArray, List.set_cons_zero, List.set_cons_succ]
        have O3 : Hid (OwnI wr.drew s u9 T) := O.out.below ((Below.refl wr.heap.size wr).drew) (Nat.le_refl _)
        generalize wr.drew = w4 at *
        generalize hz : min (x + y) 1048576 = z at *
        have HZ := Lib.hid hz
        clear hz
        have hs4 : s ≤ w4.heap.size := by rw [HS.out]; exact hHeld.2.2.out.size
        have O4 := Lib.hid (O3.out.alloc (.cells #[.int .i64 z] 3))
        refine wpAnyH_ready (rs := [11]) (by kernel_rfl) (by simp) ?_
        refine AllReadyH.cons (o := ⟨_, _, _, _, _, _⟩) rfl (fun K hK => ?_) AllReadyH.nil
        rw [if_pos (by rfl)]
        have LA : Below w4.heap.size w4 (w4.alloc (.cells #[.int .i64 z] 3)) := (Below.refl _ _).alloc (Nat.le_refl _) _
        go_simp
        refine hK.out _ _ ?_ (fun hHeld2 => ?_)
        · obtain ⟨h1, h2, h4⟩ := hHeld; exact ⟨keepc h1 LA, keepc h2 LA, h4.out.trans (LA.mono (by rw [HS.out]; exact h4.out.size))⟩
        clear hK K hHeld
        have hHeld := hHeld2
        clear hHeld2
        try simp only [Act.put, List.setIfInBounds_toArray, List.set_cons_zero, List.set_cons_succ]
        refine wpAnyH_ready (rs := [12]) (by kernel_rfl) (by simp) ?_
        refine AllReadyH.cons (o := ⟨_, _, _, _, _, _⟩) rfl (fun K hK => ?_) AllReadyH.nil
        rw [if_pos (by rfl)]
        refine oper_int (.tmp 48) (.tmp 59) rfl s _ T z rfl O4.out w4.heap.size rfl (cell_new1 _ _ _) (by omega) (size_le_alloc hs4 _) ?_
        intro v' w6 hown' hb'
        have BG6 : Below s x4 w6 := hHeld.2.2.out.trans hb'
        have BW6 := WG.out w6 BG6
        refine hK.out _ _ ?_ (fun hHeld2 => ?_)
        · exact ⟨XW.out w6 BW6, YW.out w6 BW6, BG6⟩
        clear hK K hHeld
        have B5 := hHeld2.2.2
        have hHeld := hHeld2
        clear hHeld2
        try simp only [Act.put, List.setIfInBounds_toArray, List.set_cons_zero, List.set_cons_succ]
        refine wpAnyH_take (oi := ⟨_, _, _, _, _, _⟩) (i := 13) (v := ?_) rfl (by kernel_rfl) (by kernel_rfl) (by kernel_rfl) (fun _ _ _ h => h) (Or.inl ⟨by rfl, ?yb13⟩) (by assumption) ?rb13
        case yb13 => (intro w hSw; (try dsimp only at hSw); go_simp; (try with_reducible rfl))
        try simp only [Act.put, List.setIfInBounds_toArray, List.set_cons_zero, List.set_cons_succ]
        refine wpAnyH_done (by kernel_rfl) ?_ _
        have O5 : Hid (OwnI w6 s v' (tab (k + 1) gf)) := by
          show OwnI _ _ _ _
          rw [HT.out]
          exact hown'
        clear hown' hHeld HT
        go_wp2
        go_roundw
        case rel => exact ⟨k + 1, by omega, by go_num, O5, B5⟩
        case measure => simp [intOf]; omega
      · obtain rfl : k = m.length := by omega
        have O := O.out
        rw [← SE.out] at O
        obtain ⟨S5, c5, e5, R5⟩ := ReadsV.own O
        subst e5
        have R5 := Lib.hid R5
        obtain ⟨q0, q1, q2⟩ := P0.out _ BB.out
        have MYs := Lib.hid (MY.out S5 c5)
        have DDs := Lib.hid (DD.out S5 c5)
        clear O MY DD P0 WG HM HQ BM BD TS SF SE SLn HLM BB HS hk hlt
        go_wp2_with fail
        refine (L1.out _ BG.out).mono ?_
        rintro e w5 ⟨A2, c2, rfl, R2, K⟩
        have R2 := Lib.hid R2
        have R5 := Lib.hid (R5.out.below K (Nat.le_refl _))
        have q0 := Lib.hid (keepc q0 K)
        have q1 := Lib.hid (keepc q1 K)
        have q2 := Lib.hid (keepc q2 K)
        have B5 := Lib.hid (BG.out.trans (K.mono BG.out.size))
        clear K L1 BG
        go_wp2_with fail
        go_loopw [12] (fun q ws => ∃ k : Nat, k ≤ L.length ∧ q = .int .i64 k ∧ Hid (Below w5.heap.size w5 ws)) (fun q _ => L.length - (intOf q).toNat)
        case atStart => exact ⟨0, by omega, rfl, Below.refl _ _⟩
        case round =>
          obtain ⟨j, hj, rfl, BJ⟩ := hrel
          have c0 := keepc q0.out BJ.out
          have c1 := keepc q1.out BJ.out
          have c2' := keepc q2.out BJ.out
          have BGj := Lib.hid (B5.out.trans (BJ.out.mono B5.out.size))
          by_cases hlt : j < L.length
          · obtain ⟨bx, ox, e3, hx3⟩ := at_of_reads (R2.out.below BJ.out (Nat.le_refl _)) j hlt
            subst e3
            have GMj := GM.out j hlt
            have MYj := MYs.out (at0 L j)
            rw [GMj] at MYj
            have MYj := Lib.hid MYj
            generalize at0 L j = t at *
            clear GMj DDs GD CX
            go_upto_region 13 with fail
            refine wp_region_held_drew (S := fun w' => w'.cell? ⟨x1.heap.size, 0, none⟩ = some (.string n.nm) ∧ w'.cell? ⟨x1.heap.size, 1, none⟩ = some (.slice n.PA n.ps.length n.pc) ∧ w'.cell? ⟨x1.heap.size, 2, none⟩ = some (.slice n.TA n.ts.length n.tc) ∧ w'.cell? ⟨bx, ox + j, none⟩ = some (.int .i64 t) ∧ Hid (Below w5.heap.size w5 w')) (by kernel_rfl) ?_ (fun hHeld => ?_)
            · exact ⟨c0, c1, c2', hx3, BJ.out.drew⟩
            refine wpAnyH_take (oi := ⟨_, _, _, _, _, _⟩) (i := 0) (v := ?_) rfl (by kernel_rfl) (by kernel_rfl) (by kernel_rfl) (fun _ _ _ h => h) (Or.inl ⟨by rfl, ?yc0⟩) (by assumption) ?rc0
            case yc0 => (intro w hSw; (try dsimp only at hSw); go_simp; (try with_reducible rfl))
            try simp only [Act.put, List.setIfInBounds_toArray, List.set_cons_zero, List.set_cons_succ]
            refine wpAnyH_take (oi := ⟨_, _, _, _, _, _⟩) (i := 1) (v := ?_) rfl (by kernel_rfl) (by kernel_rfl) (by kernel_rfl) (fun _ _ _ h => h) (Or.inl ⟨by rfl, ?yc1⟩) (by assumption) ?rc1
            case yc1 => (intro w hSw; (try dsimp only at hSw); go_simp; (try with_reducible rfl))
            try simp only [Act.put, List.setIfInBounds_toArray, List.set_cons_zero, List.set_cons_succ]
            refine wpAnyH_take (oi := ⟨_, _, _, _, _, _⟩) (i := 2) (v := ?_) rfl (by kernel_rfl) (by kernel_rfl) (by kernel_rfl) (fun _ _ _ h => h) (Or.inl ⟨by rfl, ?yc2⟩) (by assumption) ?rc2
            case yc2 => (intro w hSw; (try dsimp only at hSw); go_simp; (try with_reducible rfl))
            try simp only [Act.put, List.setIfInBounds_toArray, List.set_cons_zero, List.set_cons_succ]
            refine wpAnyH_take (oi := ⟨_, _, _, _, _, _⟩) (i := 3) (v := ?_) rfl (by kernel_rfl) (by kernel_rfl) (by kernel_rfl) (fun _ _ _ h => h) (Or.inl ⟨by rfl, ?yc3⟩) (by assumption) ?rc3
            case yc3 => (intro w hSw; (try dsimp only at hSw); go_simp; (try with_reducible rfl))
            try simp only [Act.put, List.setIfInBounds_toArray, List.set_cons_zero, List.set_cons_succ]
            refine wpAnyH_take (oi := ⟨_, _, _, _, _, _⟩) (i := 4) (v := ?_) rfl (by kernel_rfl) (by kernel_rfl) (by kernel_rfl) (fun _ _ _ h => h) (Or.inl ⟨by rfl, ?yc4⟩) (by assumption) ?rc4
            case yc4 => (intro w hSw; (try dsimp only at hSw); go_simp; (try with_reducible rfl))
            try simp only [Act.put, List.setIfInBounds_toArray, List.set_cons_zero, List.set_cons_succ]
            refine wpAnyH_take (oi := ⟨_, _, _, _, _, _⟩) (i := 5) (v := ?_) rfl (by kernel_rfl) (by kernel_rfl) (by kernel_rfl) (fun _ _ _ h => h) (Or.inl ⟨by rfl, ?yc5⟩) (by assumption) ?rc5
            case yc5 => (intro w hSw; (try dsimp only at hSw); go_simp; (try with_reducible rfl))
            try simp only [Act.put, List.setIfInBounds_toArray, List.set_cons_zero, List.set_cons_succ]
            refine wpAnyH_ready (rs := [6]) (by kernel_rfl) (by simp) ?_
            refine AllReadyH.cons (o := ⟨_, _, _, _, _, _⟩) rfl (fun K hK => ?_) AllReadyH.nil
            go_simp
            go_at_call 13; refine (MYj.out _ (B5.out.trans (hHeld.2.2.2.2.out.mono B5.out.size)) (R5.out.below hHeld.2.2.2.2.out (Nat.le_refl _))).mono ?_; rintro e w9 ⟨rfl, K⟩; (try go_wp2_with fail)
            refine hK.out _ _ ?_ (fun hHeld2 => ?_)
            · exact ⟨keepc hHeld.1 K, keepc hHeld.2.1 K, keepc hHeld.2.2.1 K, keepc hHeld.2.2.2.1 K, hHeld.2.2.2.2.out.trans (K.mono hHeld.2.2.2.2.out.size)⟩
            clear hK K hHeld
            have hHeld := hHeld2
            clear hHeld2
            try simp only [Act.put, List.setIfInBounds_toArray, List.set_cons_zero, List.set_cons_succ]
            refine wpAnyH_take (oi := ⟨_, _, _, _, _, _⟩) (i := 7) (v := ?_) rfl (by kernel_rfl) (by kernel_rfl) (by kernel_rfl) (fun _ _ _ h => h) (Or.inl ⟨by rfl, ?yc7⟩) (by assumption) ?rc7
            case yc7 => (intro w hSw; (try dsimp only at hSw); go_simp; (try with_reducible rfl))
            try simp only [Act.put, List.setIfInBounds_toArray, List.set_cons_zero, List.set_cons_succ]
            refine wpAnyH_done (by kernel_rfl) ?_ _
            have B9 := hHeld.2.2.2.2
            clear hHeld MYj
            go_wp2
            go_roundw
            case rel => exact ⟨j + 1, by omega, by go_num, B9⟩
            case measure => simp [intOf]; omega
          · obtain rfl : j = L.length := by omega
            have R6 := Lib.hid (R5.out.below BJ.out (Nat.le_refl _))
            clear MYs GM hj hlt
            cases db
            · clear GD
              go_wp2_with fail
              refine (DDs.out _ BGj.out R6.out).mono ?_
              rintro e y1 ⟨rfl, K⟩
              have c0 := keepc c0 K
              have c1 := keepc c1 K
              have c2' := keepc c2' K
              have Dy1 := Lib.hid (BGj.out.trans (K.mono BGj.out.size))
              clear K
              go_wp2_with fail
              refine (CX.out _).mono ?_
              rintro e y2 ⟨rfl, K⟩
              have c0 := keepc c0 K
              have c1 := keepc c1 K
              have c2' := keepc c2' K
              have Dy2 := Lib.hid (Dy1.out.trans (K.mono Dy1.out.size))
              clear K
              go_wp2
              go_ret
              exact ⟨rfl, Dy2.out⟩
            · have hz := GD.out rfl
              clear GD
              have hz2 : (L.length == 0) = true := by simp [hz]
              go_wp2_with fail
              refine (DDs.out _ BGj.out R6.out).mono ?_
              rintro e y1 ⟨rfl, K⟩
              have c0 := keepc c0 K
              have c1 := keepc c1 K
              have c2' := keepc c2' K
              have Dy1 := Lib.hid (BGj.out.trans (K.mono BGj.out.size))
              clear K
              go_wp2_with fail
              refine (CX.out _).mono ?_
              rintro e y2 ⟨rfl, K⟩
              have c0 := keepc c0 K
              have c1 := keepc c1 K
              have c2' := keepc c2' K
              have Dy2 := Lib.hid (Dy1.out.trans (K.mono Dy1.out.size))
              clear K
              go_wp2
              go_ret
              exact ⟨rfl, Dy2.out⟩
end Go.Proofs.Ytaomgfmlnjdoaaa
