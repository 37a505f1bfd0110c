/- A transition fires: the program. -/
import Derived.Test.YtpfkkjgklhcejaaFU
namespace Go.Proofs.Ytpfkkjgklhcejaa
open Go.RowKit Go.Shelf

attribute [local go_sem] Oper.semAt_some

theorem cellA {w : World} {b i : Nat} {v : Value} (h : w.cell? ⟨b, i, none⟩ = some v) (ob : Obj) : (w.alloc ob).cell? ⟨b, i, none⟩ = some v :=
  (((Below.refl _ _).alloc (Nat.le_refl _) _).cell (p := ⟨b, i, none⟩) (World.block_lt_of_cell? _ _ h)).trans h
def errF (n : NetV) (m : List Int) (t : Int) : Int := if inT n t = false then 1 else if mayB n m t.toNat = false then 13 else if overB n m t.toNat = true then 3 else 0
def listF (n : NetV) (m : List Int) (t : Int) : List Int := if errF n m t = 0 then aftL n m t.toNat else []
theorem errF_in {n : NetV} {m : List Int} {t : Int} (h : inT n t = false) : errF n m t = 1 ∧ listF n m t = [] := by
  have : errF n m t = 1 := by unfold errF; rw [if_pos h]
  exact ⟨this, by unfold listF; rw [this]; rfl⟩
theorem errF_may {n : NetV} {m : List Int} {t : Int} (h : inT n t = true) (h2 : mayB n m t.toNat = false) : errF n m t = 13 ∧ listF n m t = [] := by
  have : errF n m t = 13 := by unfold errF; rw [if_neg (by rw [h]; simp), if_pos h2]
  exact ⟨this, by unfold listF; rw [this]; rfl⟩
theorem errF_over {n : NetV} {m : List Int} {t : Int} (h : inT n t = true) (h2 : mayB n m t.toNat = true) (h3 : overB n m t.toNat = true) : errF n m t = 3 ∧ listF n m t = [] := by
  have : errF n m t = 3 := by unfold errF; rw [if_neg (by rw [h]; simp), if_neg (by rw [h2]; simp), if_pos h3]
  exact ⟨this, by unfold listF; rw [this]; rfl⟩
theorem errF_ok {n : NetV} {m : List Int} {t : Int} (h : inT n t = true) (h2 : mayB n m t.toNat = true) (h3 : overB n m t.toNat = false) : errF n m t = 0 ∧ listF n m t = aftL n m t.toNat := by
  have : errF n m t = 0 := by unfold errF; rw [if_neg (by rw [h]; simp), if_neg (by rw [h2]; simp), if_neg (by rw [h3]; simp)]
  exact ⟨this, by unfold listF; rw [this, if_pos rfl]⟩
theorem may_ready {n : NetV} {m : List Int} {t : Nat} (h : mayB n m t = true) : readyB n m t = true := by
  unfold mayB at h
  rw [Bool.and_eq_true] at h
  exact h.1
theorem aft_nat {n : NetV} {m : List Int} {t p : Nat} (hx : ArcsOk n (tA n.ts t)) (h : readyB n m t = true) (hp : p < n.ps.length) : 0 ≤ aftV (tA n.ts t) m p := by
  unfold readyB at h
  have h1 := anyB_false.1 (by simpa using h) p hp
  unfold badP at h1
  rw [Bool.or_eq_false_iff] at h1
  have h2 := of_decide_eq_false h1.1
  have h3 := weightV_bd hx.post (p : Int)
  unfold aftV
  omega
theorem aft_valid {n : NetV} {m : List Int} {t : Nat} (hx : ArcsOk n (tA n.ts t)) (h : readyB n m t = true) : natL (aftL n m t) = !(overB n m t) := by
  have hl : (aftL n m t).length = n.ps.length := tab_len _ _
  cases e : overB n m t
  · refine allB_yes fun k hk => decide_eq_true ?_
    rw [hl] at hk
    have h1 := anyB_false.1 e k hk
    have h2 := of_decide_eq_false h1
    have h3 := aft_nat hx h hk
    unfold aftL
    rw [tab_at _ _ _ hk]
    exact ⟨h3, by omega⟩
  · obtain ⟨k, hk, h1⟩ := anyB_iff.1 e
    have h2 := of_decide_eq_true h1
    refine allB_no k (by rw [hl]; exact hk) (decide_eq_false ?_)
    unfold aftL
    rw [tab_at _ _ _ hk]
    rintro ⟨_, h4⟩
    omega
theorem ownI_own {v : Value} {α : Type} (base B : Nat) (f : List α → List Int) : OwnFrom B (fun (pre : List α) W => OwnI W base v (f pre)) := fun s W W' row hs hg hr => by
  refine ⟨hs.1, ?_⟩
  rcases hs.2 with h0 | ⟨g, cap, cur, h1, h2, h3, h4⟩
  · exact .inl h0
  · exact .inr ⟨g, cap, cur, h1, h2, (grownBy_keeps_cells hg (fun r e => (hr r e).2) h3 rfl).trans h3, h4⟩
theorem tab_set1 (k q : Nat) (f g : Nat → Int) (h : ∀ j, j < k → g j = if j = q then g q else f j) : (tab k f).set q (g q) = tab k g := by
  apply List.ext_getElem
  · simp [tab]
  · intro i h1 h2
    have hi : i < k := by simpa [tab] using h2
    simp only [tab, List.getElem_set, List.getElem_map, List.getElem_range]
    rw [h i hi]
    by_cases e : q = i
    · subst e; simp
    · rw [if_neg e, if_neg (fun h => e h.symm)]

set_option maxHeartbeats 8000000 in
set_option maxRecDepth 100000 in
theorem fire_any (n : NetV) (A : Option Addr) (m : List Int) (c : Nat) (t : Int) (w : World) (hr : NetR w n) (hm : ReadsV w A m) (hok : goodN n m = true) :
    Calls Try.prog 63 #[.agg #[.string n.nm, .slice n.PA n.ps.length n.pc, .slice n.TA n.ts.length n.tc], .slice A m.length c, .int .i64 t] w (PairPost w.heap.size w (listF n m t) (.int .i64 (errF n m t))) := by
  have CT : Hid (∀ W, Calls Try.prog 76 #[.agg #[.string n.nm, .slice n.PA n.ps.length n.pc, .slice n.TA n.ts.length n.tc], .int .i64 t] W (VPost W.heap.size W (.bool (inT n t)))) := fun W => fisTrans_any n t W
  have B0 : Hid (Below w.heap.size w (w.alloc (.cells #[.string n.nm, .slice n.PA n.ps.length n.pc, .slice n.TA n.ts.length n.tc] 25))) := ((Below.refl _ _).alloc (Nat.le_refl _) _)
  cases ht : inT n t
  · rw [(errF_in (m := m) ht).1, (errF_in (m := m) ht).2]
    rw [ht] at CT
    clear hr hm hok ht
    refine (callsIn_wide (n := 6)).1 (callsIn_of_wp_marks Try.func63 rfl trivial ?_ rfl)
    simp only [Try.ntmps63, List.size_toArray, List.length_cons, List.length_nil, Nat.reduceAdd, Nat.reduceSub, Array.replicate_succ, Array.replicate_zero, List.push_toArray, List.append_toArray, List.nil_append, List.cons_append]
    refine wpIn_wide.2 ?_
    go_wp2_with fail
    refine (CT.out _).mono ?_
    rintro e w1 ⟨rfl, K⟩
    have b0_0 : w1.cell? ⟨w.heap.size, 0, none⟩ = some (.string n.nm) := by rw [K.cell (by simp [go_sem] <;> omega)]; simp [go_sem]
    have b0_1 : w1.cell? ⟨w.heap.size, 1, none⟩ = some (.slice n.PA n.ps.length n.pc) := by rw [K.cell (by simp [go_sem] <;> omega)]; simp [go_sem]
    have b0_2 : w1.cell? ⟨w.heap.size, 2, none⟩ = some (.slice n.TA n.ts.length n.tc) := by rw [K.cell (by simp [go_sem] <;> omega)]; simp [go_sem]
    have Bw1 := Lib.hid (B0.out.trans (K.mono (by simp [go_sem] <;> omega)))
    have hs1 : w.heap.size + 1 ≤ w1.heap.size := by have := K.size; (try simp [go_sem] at this); omega
    clear K
    go_wp2
    exact ⟨_, results_tmp2 rfl _ _ _, none, 0, rfl, ReadsV.nil _ _, Bw1.out⟩
  rw [ht] at CT
  obtain ⟨h1, h2⟩ := inT_iff.1 ht
  obtain ⟨k, rfl⟩ : ∃ k : Nat, t = k := ⟨t.toNat, by omega⟩
  have hk : k < n.ts.length := by omega
  have CM : Hid (∀ W, Below w.heap.size w W → Calls Try.prog 74 #[.agg #[.string n.nm, .slice n.PA n.ps.length n.pc, .slice n.TA n.ts.length n.tc], .slice A m.length c, .int .i64 k] W (VPost W.heap.size W (.bool (mayB n m k)))) := fun W hW => may_any n A m c k W (hr.below hW (Nat.le_refl _)) (hm.below hW (Nat.le_refl _)) hok hk
  clear h1 h2
  cases hmy : mayB n m k
  · have E := errF_may (m := m) ht (by rw [Int.toNat_natCast]; exact hmy)
    rw [E.1, E.2]
    rw [hmy] at CM
    clear hr hm hok ht hmy E hk
    refine (callsIn_wide (n := 6)).1 (callsIn_of_wp_marks Try.func63 rfl trivial ?_ rfl)
    simp only [Try.ntmps63, List.size_toArray, List.length_cons, List.length_nil, Nat.reduceAdd, Nat.reduceSub, Array.replicate_succ, Array.replicate_zero, List.push_toArray, List.append_toArray, List.nil_append, List.cons_append]
    refine wpIn_wide.2 ?_
    go_wp2_with fail
    refine (CT.out _).mono ?_
    rintro e w1 ⟨rfl, K⟩
    have b0_0 : w1.cell? ⟨w.heap.size, 0, none⟩ = some (.string n.nm) := by rw [K.cell (by simp [go_sem] <;> omega)]; simp [go_sem]
    have b0_1 : w1.cell? ⟨w.heap.size, 1, none⟩ = some (.slice n.PA n.ps.length n.pc) := by rw [K.cell (by simp [go_sem] <;> omega)]; simp [go_sem]
    have b0_2 : w1.cell? ⟨w.heap.size, 2, none⟩ = some (.slice n.TA n.ts.length n.tc) := by rw [K.cell (by simp [go_sem] <;> omega)]; simp [go_sem]
    have Bw1 := Lib.hid (B0.out.trans (K.mono (by simp [go_sem] <;> omega)))
    have hs1 : w.heap.size + 1 ≤ w1.heap.size := by have := K.size; (try simp [go_sem] at this); omega
    clear K
    go_wp2_with fail
    refine (CM.out _ Bw1.out).mono ?_
    rintro e w2 ⟨rfl, K⟩
    have b0_0 : w2.cell? ⟨w.heap.size, 0, none⟩ = some (.string n.nm) := by rw [K.cell (by first | (show w.heap.size < _; omega) | (simp; omega))]; first | exact b0_0 | exact cellA b0_0 _
    have b0_1 : w2.cell? ⟨w.heap.size, 1, none⟩ = some (.slice n.PA n.ps.length n.pc) := by rw [K.cell (by first | (show w.heap.size < _; omega) | (simp; omega))]; first | exact b0_1 | exact cellA b0_1 _
    have b0_2 : w2.cell? ⟨w.heap.size, 2, none⟩ = some (.slice n.TA n.ts.length n.tc) := by rw [K.cell (by first | (show w.heap.size < _; omega) | (simp; omega))]; first | exact b0_2 | exact cellA b0_2 _
    have Bw2 := Lib.hid (Bw1.out.trans (K.mono Bw1.out.size))
    have hs2 : w.heap.size + 1 ≤ w2.heap.size := by have := K.size; (try simp [go_sem] at this); omega
    clear K
    go_wp2
    exact ⟨_, results_tmp2 rfl _ _ _, none, 0, rfl, ReadsV.nil _ _, Bw2.out⟩
  rw [hmy] at CM
  have hgood := hok
  unfold goodN at hok
  rw [Bool.and_eq_true] at hok
  obtain ⟨hokn, hval⟩ := hok
  obtain ⟨hml, hnat⟩ := validL_parts hval
  have hx := okN_arcs hokn k hk
  have hp24 : n.ps.length ≤ 24 := (okN_parts hokn).2.2.1
  have hp1 : 1 ≤ n.ps.length := (okN_parts hokn).2.1
  have hmn : m.length = n.ps.length := by omega
  have ht24 : n.ts.length ≤ 24 := (okN_parts hokn).2.2.2.1
  have hzl : (tA n.ts k).pre.l.length ≤ 1000 ∧ (tA n.ts k).post.l.length ≤ 1000 := ⟨(hr.okt.2 k).2.1, (hr.okt.2 k).2.2.1⟩
  have EO : Hid (overB n m k = true → errF n m (k : Int) = 3 ∧ listF n m (k : Int) = []) := fun h => errF_over ht (by rw [Int.toNat_natCast]; exact hmy) (by rw [Int.toNat_natCast]; exact h)
  have EK : Hid (overB n m k = false → errF n m (k : Int) = 0 ∧ listF n m (k : Int) = aftL n m k) := fun h => by
    have := errF_ok (n := n) (m := m) (t := (k : Int)) ht (by rw [Int.toNat_natCast]; exact hmy) (by rw [Int.toNat_natCast]; exact h)
    rwa [Int.toNat_natCast] at this
  have AV : Hid (natL (aftL n m k) = !(overB n m k)) := aft_valid hx (may_ready hmy)
  have AL : Hid (aftL n m k = tab n.ps.length (fun p => aftV (tA n.ts k) m p)) := rfl
  have QS : Hid (∀ p, chgAt m (chgL (tA n.ts k)) p = aftV (tA n.ts k) m p) := fun p => chgAt_all hx m p
  have QB : Hid (∀ k, 0 ≤ at0 m k ∧ at0 m k ≤ 1048576) := natL_at hnat
  have GA := Lib.hid (goodArcs_of hx.pre)
  have GB := Lib.hid (goodArcs_of hx.post)
  have TM0 : Hid (tab m.length (at0 m) = m) := tab_self m
  have CV : Hid (∀ W B c2 L, ReadsV W B L → L.length ≤ 9223372036854775807 → Calls Try.prog 71 #[.slice B (List.length L) c2, .int .i64 L.length] W fun e w' => e = .returned (.bool (natL L)) ∧ W = w') := fun W B c2 L h hl => valid_law B L c2 W h hl
  have RT := Lib.hid (hr.rt.below (Below.refl _ _) (Nat.le_refl _))
  have HM := Lib.hid hm
  clear hr hm hval hnat hml hx hgood hokn ht hmy
  generalize overB n m k = ov at *
  generalize aftL n m k = AFL at *
  generalize errF n m (k : Int) = ER at *
  generalize listF n m (k : Int) = LF at *
  obtain ⟨nm, PA, ps, pc, TA, ts, tc⟩ := n
  dsimp only at *
  obtain ⟨bt, ot, eT, _⟩ := RT.out k hk
  subst eT
  obtain ⟨bt', ot', eT, hbt, d0, d1, d2, d3, d4, r1, r2, r3⟩ := RT.out k hk
  injection eT with eT
  injection eT with h1 h2
  subst h1 h2
  have HR1 := Lib.hid r1
  have HR2 := Lib.hid r2
  generalize tA ts k = x at *
  obtain ⟨xnm, ⟨a1, c1, l1⟩, ⟨a2, c2, l2⟩, ⟨a3, c3, l3⟩, prio⟩ := x
  dsimp only at *
  obtain ⟨hz1, hz2⟩ := hzl
  have CL : Hid (∀ W, Below w.heap.size w W → Calls Try.prog 77 #[.slice A m.length c] W fun e w' => ∃ v, e = .returned v ∧ OwnI w' W.heap.size v m ∧ Below W.heap.size W w') := fun W hW => clone_law A m c W (HM.out.below hW (Nat.le_refl _)) (by omega)
  rw [hmn] at CM CL TM0 ⊢
  generalize hpl : ps.length = pl at *
  generalize ts.length = tl at *
  have HPL := Lib.hid hpl
  have HML := Lib.hid hmn
  have TD : Hid (∀ W, Below w.heap.size w W → W.cell? ⟨bt, ot + k * 5, none⟩ = some (.string xnm) ∧ W.cell? ⟨bt, ot + k * 5 + 1, none⟩ = some (.slice a1 l1.length c1) ∧ W.cell? ⟨bt, ot + k * 5 + 2, none⟩ = some (.slice a2 l2.length c2) ∧ W.cell? ⟨bt, ot + k * 5 + 3, none⟩ = some (.slice a3 l3.length c3) ∧ W.cell? ⟨bt, ot + k * 5 + 4, none⟩ = some (.int .i64 prio)) := fun W hW =>
    ⟨(hW.cell (World.block_lt_of_cell? w _ d0)).trans d0, (hW.cell (World.block_lt_of_cell? w _ d1)).trans d1, (hW.cell (World.block_lt_of_cell? w _ d2)).trans d2, (hW.cell (World.block_lt_of_cell? w _ d3)).trans d3, (hW.cell (World.block_lt_of_cell? w _ d4)).trans d4⟩
  clear hpl hmn d0 d1 d2 d3 d4 r1 r2 r3 RT
  refine (callsIn_wide (n := 6)).1 (callsIn_of_wp_marks Try.func63 rfl trivial ?_ rfl)
  simp only [Try.ntmps63, List.size_toArray, List.length_cons, List.length_nil, Nat.reduceAdd, Nat.reduceSub, Array.replicate_succ, Array.replicate_zero, List.push_toArray, List.append_toArray, List.nil_append, List.cons_append]
  refine wpIn_wide.2 ?_
  go_wp2_with fail
  refine (CT.out _).mono ?_
  rintro e w1 ⟨rfl, K⟩
  have b0_0 : w1.cell? ⟨w.heap.size, 0, none⟩ = some (.string nm) := by rw [K.cell (by simp [go_sem] <;> omega)]; simp [go_sem]
  have b0_1 : w1.cell? ⟨w.heap.size, 1, none⟩ = some (.slice PA pl pc) := by rw [K.cell (by simp [go_sem] <;> omega)]; simp [go_sem]
  have b0_2 : w1.cell? ⟨w.heap.size, 2, none⟩ = some (.slice (some ⟨bt, ot, none⟩) tl tc) := by rw [K.cell (by simp [go_sem] <;> omega)]; simp [go_sem]
  have Bw1 := Lib.hid (B0.out.trans (K.mono (by simp [go_sem] <;> omega)))
  have hs1 : w.heap.size + 1 ≤ w1.heap.size := by have := K.size; (try simp [go_sem] at this); omega
  clear K
  go_wp2_with fail
  refine (CM.out _ Bw1.out).mono ?_
  rintro e w2 ⟨rfl, K⟩
  have b0_0 : w2.cell? ⟨w.heap.size, 0, none⟩ = some (.string nm) := by rw [K.cell (by first | (show w.heap.size < _; omega) | (simp; omega))]; first | exact b0_0 | exact cellA b0_0 _
  have b0_1 : w2.cell? ⟨w.heap.size, 1, none⟩ = some (.slice PA pl pc) := by rw [K.cell (by first | (show w.heap.size < _; omega) | (simp; omega))]; first | exact b0_1 | exact cellA b0_1 _
  have b0_2 : w2.cell? ⟨w.heap.size, 2, none⟩ = some (.slice (some ⟨bt, ot, none⟩) tl tc) := by rw [K.cell (by first | (show w.heap.size < _; omega) | (simp; omega))]; first | exact b0_2 | exact cellA b0_2 _
  have Bw2 := Lib.hid (Bw1.out.trans (K.mono Bw1.out.size))
  have hs2 : w.heap.size + 1 ≤ w2.heap.size := by have := K.size; (try simp [go_sem] at this); omega
  clear K
  clear CT CM B0 Bw1
  go_wp2_with fail
  refine (CL.out _ Bw2.out).mono ?_
  rintro e w3 ⟨v3, rfl, O3, K⟩
  have b0_2 := keepc b0_2 K
  have Bw3 := Lib.hid (Bw2.out.trans (K.mono Bw2.out.size))
  have hs3 : w2.heap.size ≤ w3.heap.size := K.size
  clear K CL b0_0 b0_1
  obtain ⟨gb, gcap, rfl, hgb⟩ : ∃ gb gcap, v3 = .slice (some ⟨gb, 0, none⟩) pl gcap ∧ w2.heap.size ≤ gb := by
    have hO := O3
    unfold OwnI at hO
    rcases hO.2 with ⟨_, h0⟩ | ⟨g, cap, cur, h1, h2, _⟩
    · rw [HML.out] at h0; omega
    · rw [HML.out] at h1; exact ⟨g, cap, h1, h2⟩
  have O3 := Lib.hid O3
  have lz3 : w.heap.size < w3.heap.size := by omega
  have hbt3 : bt < w3.heap.size := by omega
  obtain ⟨f0, f1, f2, f3, f4⟩ := TD.out w3 Bw3.out
  have CC : Hid (∀ W, Calls Try.prog 78 #[.agg #[.string xnm, .slice a1 l1.length c1, .slice a2 l2.length c2, .slice a3 l3.length c3, .int .i64 prio]] W fun e w' => e = .returned (.func (.func 87) #[] #[.pointer (some ⟨W.heap.size, 0, none⟩)]) ∧ w' = W.alloc (.cells #[.string xnm, .slice a1 l1.length c1, .slice a2 l2.length c2, .slice a3 l3.length c3, .int .i64 prio] 68)) := fun W =>
    callsIn_wide.1 (changes_in 6 ⟨xnm, ⟨a1, c1, l1⟩, ⟨a2, c2, l2⟩, ⟨a3, c3, l3⟩, prio⟩ W)
  clear hs1
  go_wp2_with fail
  refine (CC.out _).mono ?_
  rintro e w6 ⟨rfl, rfl⟩
  clear CC f0 f1 f2 f3 f4 b0_2
  go_wp2_with fail
  generalize hw6 : (w3.alloc (.cells #[.slice (some ⟨gb, 0, none⟩) pl gcap] 26)).alloc (.cells #[.string xnm, .slice a1 l1.length c1, .slice a2 l2.length c2, .slice a3 l3.length c3, .int .i64 prio] 68) = w6
  have hgb3 : gb < w3.heap.size := by
    rcases O3.out.2 with ⟨h0, _⟩ | ⟨g, cap, cur, h1, _, h3, _⟩
    · cases h0
    · injection h1 with h1
      injection h1 with h1
      injection h1 with h1
      subst h1
      exact (Array.getElem?_eq_some_iff.1 h3).1
  obtain ⟨g2, hg2⟩ : ∃ g2, g2 = w2.heap.size := ⟨_, rfl⟩
  rw [← hg2] at O3 hs2 hs3 hgb
  have HG2 := Lib.hid hg2
  clear hg2
  obtain ⟨Bx, hBx⟩ : ∃ Bx, Bx = w3.heap.size := ⟨_, rfl⟩
  rw [← hBx]
  have HB6 : Hid (w6.heap[Bx + 1]? = some (.cells (transCells ⟨xnm, ⟨a1, c1, l1⟩, ⟨a2, c2, l2⟩, ⟨a3, c3, l3⟩, prio⟩) 68 (0, 0))) := by
    rw [hBx, ← hw6, ← World.size_alloc w3 (.cells #[.slice (some ⟨gb, 0, none⟩) pl gcap] 26)]
    exact World.alloc_heap_new _ _
  have X6 : w6.cell? ⟨Bx, 0, none⟩ = some (.slice (some ⟨gb, 0, none⟩) pl gcap) := by rw [hBx, ← hw6]; exact cellA (cell_new1 _ _ _) _
  have BW : Below w3.heap.size w3 w6 := by rw [← hw6]; exact ((Below.refl _ _).alloc (Nat.le_refl _) _).alloc (by rw [World.size_alloc]; omega) _
  have O6 : OwnI w6 g2 (.slice (some ⟨gb, 0, none⟩) pl gcap) (tab pl (at0 m)) := by
    have h := O3.out.below BW (Nat.le_refl _)
    rw [TM0.out]
    exact h
  have K7 : Below w.heap.size w w6 := Bw3.out.trans (BW.mono Bw3.out.size)
  have hlt6 : Bx + 1 < w6.heap.size := (Array.getElem?_eq_some_iff.1 HB6.out).1
  clear hw6 BW O3 Bw3 Bw2 TD
  have hgx : gb < Bx := by omega
  clear hBx lz3 hbt3 hgb3
  have SEQ : SeqStopsK Fence.wide (6 - 1) Try.prog 87 #[.pointer (some ⟨Bx + 1, 0, none⟩)] (fun y : Chg pl => #[Value.int .i64 y.1.1, Value.int .i64 y.1.2]) (KpB w.heap.size (Bx + 1)) (fun ys => ys = preC pl l1 GA.out ++ postC pl l2 GB.out) (fun _ => True) (l1.length + l2.length) w6 := fun l J Jx W hW hJ hJx hY h0 =>
    chg_in 5 (by decide) l (Bx + 1) w.heap.size pl ⟨xnm, ⟨a1, c1, l1⟩, ⟨a2, c2, l2⟩, ⟨a3, c3, l3⟩, prio⟩ GA.out GB.out _ (Nat.le_refl _) hz1 hz2 J Jx (fun pre W o h => hJ _ _ _ none h (World.grownBy_alloc W o none) (fun r e => by cases e)) hY w W (K7.trans (hW.mono K7.size)) (Nat.le_refl _) HR1.out HR2.out ((hW.block (Bx + 1) hlt6).trans HB6.out) (Nat.le_trans K7.size hW.size) h0
  refine (wpIn_wide (n := 6)).1 ?_
  refine wpIn_rangeFunc_ownG rfl (by decide) (gf := 87) (lb := #[.pointer (some ⟨Bx + 1, 0, none⟩)]) rfl trivial (enters_of Try.func87 (by kernel_rfl) rfl)
    SEQ kpB_t (fun W l o o' hl h h1 h2 => ⟨belowK_b (w := w6) K7.size W l o o' hl h h1 h2, fun _ => World.putObj_heap_other (by omega)⟩) (Below.refl _ _) (fun _ => rfl)
    (fun (pre : List (Chg pl)) W => (OwnI W g2 (.slice (some ⟨gb, 0, none⟩) pl gcap) ((fun (pre : List (Chg pl)) => tab pl (fun p => chgAt m (pre.map (·.1)) p)) pre) ∧ W.cell? ⟨Bx, 0, none⟩ = some (.slice (some ⟨gb, 0, none⟩) pl gcap)) ∧ Below w.heap.size w W)
    (fun _ _ _ => False)
    (OwnFrom.and (OwnFrom.and (ownI_own _ _ _) (fun s W W' row hs hg hr => cell_kept hs hg (fun r e => (hr r e).2))) (ownFrom_below (Nat.le_refl _) K7.size))
    (fun _ _ _ _ _ hs _ _ => hs)
    ⟨⟨(by
      have e : (tab pl (at0 m)) = tab pl (fun p => chgAt m [] p) := tab_congr fun p _ => (chgAt_nil m p).symm
      rw [e] at O6
      exact O6), X6⟩, K7⟩
    ?a1 ?assign ?body ?done ?stop
  case assign =>
    intro l y W K hK
    gi_wp2
    exact hK
  case body =>
    rintro l pre ⟨⟨p, u⟩, hp0, hp1, hu0, hu1⟩ W ⟨⟨hO, hX⟩, hB⟩ hlt
    dsimp only at hp0 hp1 hu0 hu1
    obtain ⟨q, rfl⟩ : ∃ q : Nat, p = q := ⟨p.toNat, by omega⟩
    have hq : q < pl := by omega
    have hll : (tab pl (fun p => chgAt m (pre.map (·.1)) p)).length = pl := tab_len _ _
    have hO' : W.ownsRow g2 3 1 (.slice (some ⟨gb, 0, none⟩) pl gcap) pl ((tab pl (fun p => chgAt m (pre.map (·.1)) p)).map (Value.int .i64)) := by
      have := hO
      unfold OwnI at this
      rwa [hll] at this
    have hcell := own_cell hO' q (by rw [hll]; exact hq)
    rw [tab_at _ _ _ hq] at hcell
    have hfr : W.frozen? ⟨gb, q, none⟩ = false := hO'.frozenAt q
    have hbd := chgAt_bd m (pre.map (·.1)) q QB.out (fun a ha => by
      obtain ⟨y, hy, rfl⟩ := List.mem_map.1 ha
      exact ⟨y.2.2.2.1, y.2.2.2.2⟩)
    rw [List.length_map] at hbd
    have hlen : pre.length ≤ 2000 := by omega
    have HR : Hid (OwnI (W.setCell ⟨gb, q, none⟩ (.int .i64 (chgAt m (pre.map (·.1)) q + u))) g2 (.slice (some ⟨gb, 0, none⟩) pl gcap) (tab pl (fun p => chgAt m ((pre ++ [(⟨((q : Int), u), hp0, hp1, hu0, hu1⟩ : Chg pl)]).map (·.1)) p))) := by
      have h := own_put hO' q (chgAt m (pre.map (·.1)) q + u)
      have e := tab_set1 pl q (fun p => chgAt m (pre.map (·.1)) p) (fun p => chgAt m ((pre ++ [(⟨((q : Int), u), hp0, hp1, hu0, hu1⟩ : Chg pl)]).map (·.1)) p) (fun j hj => by
        simp only [List.map_append, List.map_cons, List.map_nil, chgAt_snoc]
        by_cases e : j = q
        · subst e; simp
        · have e3 : ¬ ((q : Int) = (j : Int)) := by omega
          simp [e, e3])
      have e2 : chgAt m (pre.map (·.1)) q + u = chgAt m ((pre ++ [(⟨((q : Int), u), hp0, hp1, hu0, hu1⟩ : Chg pl)]).map (·.1)) q := by
        simp [List.map_append, List.map_cons, List.map_nil, chgAt_snoc]
      rw [e2] at h ⊢
      rw [e] at h
      show World.ownsRow _ _ _ _ _ _ _
      rw [tab_len]
      exact h
    have HB := Lib.hid hB
    have HX := Lib.hid hX
    clear hO hO' hB hll
    generalize chgAt m (pre.map (·.1)) q = z at *
    have hz : -300000 ≤ z ∧ z ≤ 1300000 := by omega
    have hq2 : (q : Int) < (pl : Int) := by omega
    clear hbd
    gi_wp2
    refine ⟨(KeepsOthers.setCell _ _ _).from _, ⟨(Below.refl _ _).setCell (p := ⟨gb, q, none⟩) (by show w.heap.size ≤ gb; omega) _, fun _ => Below.heap_setCell _ _ _ (Bx + 1) (by show Bx + 1 ≠ gb; omega)⟩, ⟨HR.out, ?_⟩, HB.out.setCell (p := ⟨gb, q, none⟩) (by show w.heap.size ≤ gb; omega) _⟩
    exact (World.cell?_of_block (Below.heap_setCell _ _ _ _ (by show Bx ≠ gb; omega))).trans HX.out
  case stop =>
    rintro D c pre W _ _ h _
    exact h.elim
  case done =>
    rintro D ys W hD rfl ⟨⟨hO, hX⟩, hB⟩ hK
    have OW : Hid (OwnI W g2 (.slice (some ⟨gb, 0, none⟩) pl gcap) AFL) := by
      have e : (preC pl l1 GA.out ++ postC pl l2 GB.out).map (·.1) = chgL ⟨xnm, ⟨a1, c1, l1⟩, ⟨a2, c2, l2⟩, ⟨a3, c3, l3⟩, prio⟩ := by
        rw [List.map_append, preC_val, postC_val]
        rfl
      have e2 : AFL = tab pl (fun p => chgAt m ((preC pl l1 GA.out ++ postC pl l2 GB.out).map (·.1)) p) := by
        rw [AL.out]
        exact tab_congr fun p _ => by rw [e, QS.out]
      show OwnI _ _ _ _
      rw [e2]
      exact hO
    have hl : AFL.length = pl := by rw [AL.out]; exact tab_len _ _
    obtain ⟨A5, c5, e5, R5⟩ := ReadsV.own OW.out
    rw [hl] at e5
    injection e5 with e5 _ e6
    subst e5 e6
    have CVa := CV.out W (some ⟨gb, 0, none⟩) gcap AFL R5 (by omega)
    rw [AV.out, hl] at CVa
    have CVa := Lib.hid CVa
    have R5 := Lib.hid R5
    have HL5 := Lib.hid hl
    have HB := Lib.hid hB
    have HK := Lib.hid hK
    have hDw : w.heap.size ≤ D := Nat.le_trans K7.size hD
    have FIN : Hid (Below w.heap.size w (W.putObj D (.deferred none))) := hB.trans (belowK_b (w := w) (Nat.le_refl _) W D _ _ hDw hK rfl rfl)
    have R6 : Hid (ReadsV (W.putObj D (.deferred none)) (some ⟨gb, 0, none⟩) AFL) := fun j hj => by
      obtain ⟨b, o, e, h1, h2⟩ := R5.out j hj
      exact ⟨b, o, e, by simp; exact h1, cell_kept h2 (grownBy_putObj' W D _) (fun r e => by cases e; exact ⟨_, hK, rfl⟩)⟩
    clear hO SEQ O6 K7 HB6 hK GA GB QS HR1 HR2 HM hB hl CV AL OW X6 AV
    cases ov
    · obtain ⟨E1, E2⟩ := EK.out rfl
      have E1 := Lib.hid E1
      have E2 := Lib.hid E2
      clear EO EK
      go_wp2_with fail
      refine CVa.out.mono ?_
      rintro e w7 ⟨rfl, rfl⟩
      go_wp2
      refine ⟨by simp, .inl ⟨_, _, rfl, run_takeDeferred HK.out, ?_⟩⟩
      refine ⟨_, results_tmp2 rfl _ _ _, ?_⟩
      rw [E1.out, E2.out]
      exact ⟨some ⟨gb, 0, none⟩, gcap, by rw [HL5.out]; rfl, R6.out, FIN.out⟩
    · obtain ⟨E1, E2⟩ := EO.out rfl
      have E1 := Lib.hid E1
      have E2 := Lib.hid E2
      clear EO EK
      go_wp2_with fail
      refine CVa.out.mono ?_
      rintro e w7 ⟨rfl, rfl⟩
      go_wp2
      refine ⟨by simp, .inl ⟨_, _, rfl, run_takeDeferred HK.out, ?_⟩⟩
      refine ⟨_, results_tmp2 rfl _ _ _, ?_⟩
      rw [E1.out, E2.out]
      exact ⟨none, 0, rfl, ReadsV.nil _ _, FIN.out⟩
end Go.Proofs.Ytpfkkjgklhcejaa
