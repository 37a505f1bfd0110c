/- Markings after a transition lie in memory of their own. -/
import Derived.Test.YtpfkkjgklhcejaaFX
namespace Go.Proofs.Ytpfkkjgklhcejaa
open Go.RowKit Go.Shelf
attribute [local go_sem] Oper.semAt_some

/-- the list lies in a row of ints at or above g -/
def FreshG (w : World) (g : Nat) (A : Option Addr) (L : List Int) : Prop := ReadsV w A L ∧ (L ≠ [] → ∀ b off, A = some ⟨b, off, none⟩ → g ≤ b ∧ ∃ cs, w.heap[b]? = some (.cells cs 3 (0, 0)))
theorem FreshG.nil (w : World) (g : Nat) (A : Option Addr) : FreshG w g A [] := ⟨ReadsV.nil w A, fun h => absurd rfl h⟩
theorem FreshG.mono {w : World} {g g' : Nat} {A : Option Addr} {L : List Int} (h : FreshG w g A L) (hg : g' ≤ g) : FreshG w g' A L := ⟨h.1, fun hn b off e => ⟨Nat.le_trans hg (h.2 hn b off e).1, (h.2 hn b off e).2⟩⟩
theorem FreshG.own {w : World} {g : Nat} {v : Value} {L : List Int} (h : OwnI w g v L) : ∃ A c, v = .slice A L.length c ∧ FreshG w g A L := by
  obtain ⟨A, c, e, R⟩ := ReadsV.own h
  refine ⟨A, c, e, R, fun hn b off ea => ?_⟩
  subst ea
  rcases h.2 with ⟨e1, h0⟩ | ⟨b', cap, cur, e1, hb, hg, _⟩
  · exact absurd (List.eq_nil_of_length_eq_zero h0) hn
  · rw [e1] at e
    cases e
    exact ⟨hb, _, hg⟩
theorem block_reads {w : World} {A : Option Addr} {zs : List Int} (h : ReadsV w A zs) (hn : zs ≠ []) {b off : Nat} (e : A = some ⟨b, off, none⟩) : b < w.heap.size := by
  obtain ⟨b', off', e', h1, _⟩ := h 0 (List.length_pos_iff.2 hn)
  rw [e] at e'
  injection e' with e'
  injection e' with e'
  rw [e']; exact h1
theorem FreshG.below {w w' : World} {g : Nat} {A : Option Addr} {L : List Int} {B : Nat} (h : FreshG w g A L) (hb : Below B w w') (hB : w.heap.size ≤ B) : FreshG w' g A L :=
  ⟨h.1.below hb hB, fun hn b off e => by
    obtain ⟨h1, cs, h2⟩ := h.2 hn b off e
    exact ⟨h1, cs, by rw [hb.block b (Nat.lt_of_lt_of_le (block_reads h.1 hn e) hB)]; exact h2⟩⟩
theorem FreshG.putObj {w : World} {g D : Nat} {A : Option Addr} {L : List Int} {x : Option (List Deferred)} (h : FreshG w g A L) (hK : w.heap[D]? = some (.deferred x)) (y : Option (List Deferred)) : FreshG (w.putObj D (.deferred y)) g A L :=
  ⟨fun j hj => by
    obtain ⟨b, o, e, h1, h2⟩ := h.1 j hj
    exact ⟨b, o, e, by simp; exact h1, cell_kept h2 (grownBy_putObj' w D _) (fun r e => by cases e; exact ⟨_, hK, rfl⟩)⟩, fun hn b off e => by
    obtain ⟨h1, cs, h2⟩ := h.2 hn b off e
    refine ⟨h1, cs, ?_⟩
    rw [World.putObj_heap_other (fun c => by subst c; rw [h2] at hK; cases hK)]
    exact h2⟩
def FPair (g : Nat) (w : World) (L : List Int) (v : Value) (e : Ending) (w' : World) : Prop := ∃ A c, e = .returned (.tuple #[.slice A L.length c, v]) ∧ FreshG w' g A L ∧ Below g w w'
theorem FPair.own {g : Nat} {w w' : World} {v u : Value} {zs : List Int} (h : OwnI w' g v zs) (hb : Below g w w') : FPair g w zs u (.returned (.tuple #[v, u])) w' := by
  obtain ⟨A, c, e, hr⟩ := FreshG.own h
  exact ⟨A, c, by rw [e], hr, hb⟩

set_option maxHeartbeats 8000000 in
set_option maxRecDepth 100000 in
theorem fire_f (n : NetV) (A : Option Addr) (m : List Int) (c : Nat) (t : Int) (w : World) (hr : NetR w n) (hm : ReadsV w A m) (hok : goodN n m = true) :
    Calls Try.prog 63 #[.agg #[.string n.nm, .slice n.PA n.ps.length n.pc, .slice n.TA n.ts.length n.tc], .slice A m.length c, .int .i64 t] w (FPair w.heap.size w (listF n m t) (.int .i64 (errF n m t))) := by
  have CT : Hid (∀ W, Calls Try.prog 76 #[.agg #[.string n.nm, .slice n.PA n.ps.length n.pc, .slice n.TA n.ts.length n.tc], .int .i64 t] W (VPost W.heap.size W (.bool (inT n t)))) := fun W => fisTrans_any n t W
  have B0 : Hid (Below w.heap.size w (w.alloc (.cells #[.string n.nm, .slice n.PA n.ps.length n.pc, .slice n.TA n.ts.length n.tc] 25))) := ((Below.refl _ _).alloc (Nat.le_refl _) _)
  cases ht : inT n t
  · rw [(errF_in (m := m) ht).1, (errF_in (m := m) ht).2]
    rw [ht] at CT
    clear hr hm hok ht
    refine (callsIn_wide (n := 6)).1 (callsIn_of_wp_marks Try.func63 rfl trivial ?_ rfl)
    simp only [Try.ntmps63, List.size_toArray, List.length_cons, List.length_nil, Nat.reduceAdd, Nat.reduceSub, Array.replicate_succ, Array.replicate_zero, List.push_toArray, List.append_toArray, List.nil_append, List.cons_append]
    refine wpIn_wide.2 ?_
    go_wp2_with fail
    refine (CT.out _).mono ?_
    rintro e w1 ⟨rfl, K⟩
    have b0_0 : w1.cell? ⟨w.heap.size, 0, none⟩ = some (.string n.nm) := by rw [K.cell (by simp [go_sem] <;> omega)]; simp [go_sem]
    have b0_1 : w1.cell? ⟨w.heap.size, 1, none⟩ = some (.slice n.PA n.ps.length n.pc) := by rw [K.cell (by simp [go_sem] <;> omega)]; simp [go_sem]
    have b0_2 : w1.cell? ⟨w.heap.size, 2, none⟩ = some (.slice n.TA n.ts.length n.tc) := by rw [K.cell (by simp [go_sem] <;> omega)]; simp [go_sem]
    have Bw1 := Lib.hid (B0.out.trans (K.mono (by simp [go_sem] <;> omega)))
    have hs1 : w.heap.size + 1 ≤ w1.heap.size := by have := K.size; (try simp [go_sem] at this); omega
    clear K
    go_wp2
    exact ⟨_, results_tmp2 rfl _ _ _, none, 0, rfl, FreshG.nil _ _ _, Bw1.out⟩
  rw [ht] at CT
  obtain ⟨h1, h2⟩ := inT_iff.1 ht
  obtain ⟨k, rfl⟩ : ∃ k : Nat, t = k := ⟨t.toNat, by omega⟩
  have hk : k < n.ts.length := by omega
  have CM : Hid (∀ W, Below w.heap.size w W → Calls Try.prog 74 #[.agg #[.string n.nm, .slice n.PA n.ps.length n.pc, .slice n.TA n.ts.length n.tc], .slice A m.length c, .int .i64 k] W (VPost W.heap.size W (.bool (mayB n m k)))) := fun W hW => may_any n A m c k W (hr.below hW (Nat.le_refl _)) (hm.below hW (Nat.le_refl _)) hok hk
  clear h1 h2
  cases hmy : mayB n m k
  · have E := errF_may (m := m) ht (by rw [Int.toNat_natCast]; exact hmy)
    rw [E.1, E.2]
    rw [hmy] at CM
    clear hr hm hok ht hmy E hk
    refine (callsIn_wide (n := 6)).1 (callsIn_of_wp_marks Try.func63 rfl trivial ?_ rfl)
    simp only [Try.ntmps63, List.size_toArray, List.length_cons, List.length_nil, Nat.reduceAdd, Nat.reduceSub, Array.replicate_succ, Array.replicate_zero, List.push_toArray, List.append_toArray, List.nil_append, List.cons_append]
    refine wpIn_wide.2 ?_
    go_wp2_with fail
    refine (CT.out _).mono ?_
    rintro e w1 ⟨rfl, K⟩
    have b0_0 : w1.cell? ⟨w.heap.size, 0, none⟩ = some (.string n.nm) := by rw [K.cell (by simp [go_sem] <;> omega)]; simp [go_sem]
    have b0_1 : w1.cell? ⟨w.heap.size, 1, none⟩ = some (.slice n.PA n.ps.length n.pc) := by rw [K.cell (by simp [go_sem] <;> omega)]; simp [go_sem]
    have b0_2 : w1.cell? ⟨w.heap.size, 2, none⟩ = some (.slice n.TA n.ts.length n.tc) := by rw [K.cell (by simp [go_sem] <;> omega)]; simp [go_sem]
    have Bw1 := Lib.hid (B0.out.trans (K.mono (by simp [go_sem] <;> omega)))
    have hs1 : w.heap.size + 1 ≤ w1.heap.size := by have := K.size; (try simp [go_sem] at this); omega
    clear K
    go_wp2_with fail
    refine (CM.out _ Bw1.out).mono ?_
    rintro e w2 ⟨rfl, K⟩
    have b0_0 : w2.cell? ⟨w.heap.size, 0, none⟩ = some (.string n.nm) := by rw [K.cell (by first | (show w.heap.size < _; omega) | (simp; omega))]; first | exact b0_0 | exact cellA b0_0 _
    have b0_1 : w2.cell? ⟨w.heap.size, 1, none⟩ = some (.slice n.PA n.ps.length n.pc) := by rw [K.cell (by first | (show w.heap.size < _; omega) | (simp; omega))]; first | exact b0_1 | exact cellA b0_1 _
    have b0_2 : w2.cell? ⟨w.heap.size, 2, none⟩ = some (.slice n.TA n.ts.length n.tc) := by rw [K.cell (by first | (show w.heap.size < _; omega) | (simp; omega))]; first | exact b0_2 | exact cellA b0_2 _
    have Bw2 := Lib.hid (Bw1.out.trans (K.mono Bw1.out.size))
    have hs2 : w.heap.size + 1 ≤ w2.heap.size := by have := K.size; (try simp [go_sem] at this); omega
    clear K
    go_wp2
    exact ⟨_, results_tmp2 rfl _ _ _, none, 0, rfl, FreshG.nil _ _ _, Bw2.out⟩
  rw [hmy] at CM
  have hgood := hok
  unfold goodN at hok
  rw [Bool.and_eq_true] at hok
  obtain ⟨hokn, hval⟩ := hok
  obtain ⟨hml, hnat⟩ := validL_parts hval
  have hx := okN_arcs hokn k hk
  have hp24 : n.ps.length ≤ 24 := (okN_parts hokn).2.2.1
  have hp1 : 1 ≤ n.ps.length := (okN_parts hokn).2.1
  have hmn : m.length = n.ps.length := by omega
  have ht24 : n.ts.length ≤ 24 := (okN_parts hokn).2.2.2.1
  have hzl : (tA n.ts k).pre.l.length ≤ 1000 ∧ (tA n.ts k).post.l.length ≤ 1000 := ⟨(hr.okt.2 k).2.1, (hr.okt.2 k).2.2.1⟩
  have EO : Hid (overB n m k = true → errF n m (k : Int) = 3 ∧ listF n m (k : Int) = []) := fun h => errF_over ht (by rw [Int.toNat_natCast]; exact hmy) (by rw [Int.toNat_natCast]; exact h)
  have EK : Hid (overB n m k = false → errF n m (k : Int) = 0 ∧ listF n m (k : Int) = aftL n m k) := fun h => by
    have := errF_ok (n := n) (m := m) (t := (k : Int)) ht (by rw [Int.toNat_natCast]; exact hmy) (by rw [Int.toNat_natCast]; exact h)
    rwa [Int.toNat_natCast] at this
  have AV : Hid (natL (aftL n m k) = !(overB n m k)) := aft_valid hx (may_ready hmy)
  have AL : Hid (aftL n m k = tab n.ps.length (fun p => aftV (tA n.ts k) m p)) := rfl
  have QS : Hid (∀ p, chgAt m (chgL (tA n.ts k)) p = aftV (tA n.ts k) m p) := fun p => chgAt_all hx m p
  have QB : Hid (∀ k, 0 ≤ at0 m k ∧ at0 m k ≤ 1048576) := natL_at hnat
  have GA := Lib.hid (goodArcs_of hx.pre)
  have GB := Lib.hid (goodArcs_of hx.post)
  have TM0 : Hid (tab m.length (at0 m) = m) := tab_self m
  have CV : Hid (∀ W B c2 L, ReadsV W B L → L.length ≤ 9223372036854775807 → Calls Try.prog 71 #[.slice B (List.length L) c2, .int .i64 L.length] W fun e w' => e = .returned (.bool (natL L)) ∧ W = w') := fun W B c2 L h hl => valid_law B L c2 W h hl
  have RT := Lib.hid (hr.rt.below (Below.refl _ _) (Nat.le_refl _))
  have HM := Lib.hid hm
  clear hr hm hval hnat hml hx hgood hokn ht hmy
  generalize overB n m k = ov at *
  generalize aftL n m k = AFL at *
  generalize errF n m (k : Int) = ER at *
  generalize listF n m (k : Int) = LF at *
  obtain ⟨nm, PA, ps, pc, TA, ts, tc⟩ := n
  dsimp only at *
  obtain ⟨bt, ot, eT, _⟩ := RT.out k hk
  subst eT
  obtain ⟨bt', ot', eT, hbt, d0, d1, d2, d3, d4, r1, r2, r3⟩ := RT.out k hk
  injection eT with eT
  injection eT with h1 h2
  subst h1 h2
  have HR1 := Lib.hid r1
  have HR2 := Lib.hid r2
  generalize tA ts k = x at *
  obtain ⟨xnm, ⟨a1, c1, l1⟩, ⟨a2, c2, l2⟩, ⟨a3, c3, l3⟩, prio⟩ := x
  dsimp only at *
  obtain ⟨hz1, hz2⟩ := hzl
  have CL : Hid (∀ W, Below w.heap.size w W → Calls Try.prog 77 #[.slice A m.length c] W fun e w' => ∃ v, e = .returned v ∧ OwnI w' W.heap.size v m ∧ Below W.heap.size W w') := fun W hW => clone_law A m c W (HM.out.below hW (Nat.le_refl _)) (by omega)
  rw [hmn] at CM CL TM0 ⊢
  generalize hpl : ps.length = pl at *
  generalize ts.length = tl at *
  have HPL := Lib.hid hpl
  have HML := Lib.hid hmn
  have TD : Hid (∀ W, Below w.heap.size w W → W.cell? ⟨bt, ot + k * 5, none⟩ = some (.string xnm) ∧ W.cell? ⟨bt, ot + k * 5 + 1, none⟩ = some (.slice a1 l1.length c1) ∧ W.cell? ⟨bt, ot + k * 5 + 2, none⟩ = some (.slice a2 l2.length c2) ∧ W.cell? ⟨bt, ot + k * 5 + 3, none⟩ = some (.slice a3 l3.length c3) ∧ W.cell? ⟨bt, ot + k * 5 + 4, none⟩ = some (.int .i64 prio)) := fun W hW =>
    ⟨(hW.cell (World.block_lt_of_cell? w _ d0)).trans d0, (hW.cell (World.block_lt_of_cell? w _ d1)).trans d1, (hW.cell (World.block_lt_of_cell? w _ d2)).trans d2, (hW.cell (World.block_lt_of_cell? w _ d3)).trans d3, (hW.cell (World.block_lt_of_cell? w _ d4)).trans d4⟩
  clear hpl hmn d0 d1 d2 d3 d4 r1 r2 r3 RT
  refine (callsIn_wide (n := 6)).1 (callsIn_of_wp_marks Try.func63 rfl trivial ?_ rfl)
  simp only [Try.ntmps63, List.size_toArray, List.length_cons, List.length_nil, Nat.reduceAdd, Nat.reduceSub, Array.replicate_succ, Array.replicate_zero, List.push_toArray, List.append_toArray, List.nil_append, List.cons_append]
  refine wpIn_wide.2 ?_
  go_wp2_with fail
  refine (CT.out _).mono ?_
  rintro e w1 ⟨rfl, K⟩
  have b0_0 : w1.cell? ⟨w.heap.size, 0, none⟩ = some (.string nm) := by rw [K.cell (by simp [go_sem] <;> omega)]; simp [go_sem]
  have b0_1 : w1.cell? ⟨w.heap.size, 1, none⟩ = some (.slice PA pl pc) := by rw [K.cell (by simp [go_sem] <;> omega)]; simp [go_sem]
  have b0_2 : w1.cell? ⟨w.heap.size, 2, none⟩ = some (.slice (some ⟨bt, ot, none⟩) tl tc) := by rw [K.cell (by simp [go_sem] <;> omega)]; simp [go_sem]
  have Bw1 := Lib.hid (B0.out.trans (K.mono (by simp [go_sem] <;> omega)))
  have hs1 : w.heap.size + 1 ≤ w1.heap.size := by have := K.size; (try simp [go_sem] at this); omega
  clear K
  go_wp2_with fail
  refine (CM.out _ Bw1.out).mono ?_
  rintro e w2 ⟨rfl, K⟩
  have b0_0 : w2.cell? ⟨w.heap.size, 0, none⟩ = some (.string nm) := by rw [K.cell (by first | (show w.heap.size < _; omega) | (simp; omega))]; first | exact b0_0 | exact cellA b0_0 _
  have b0_1 : w2.cell? ⟨w.heap.size, 1, none⟩ = some (.slice PA pl pc) := by rw [K.cell (by first | (show w.heap.size < _; omega) | (simp; omega))]; first | exact b0_1 | exact cellA b0_1 _
  have b0_2 : w2.cell? ⟨w.heap.size, 2, none⟩ = some (.slice (some ⟨bt, ot, none⟩) tl tc) := by rw [K.cell (by first | (show w.heap.size < _; omega) | (simp; omega))]; first | exact b0_2 | exact cellA b0_2 _
  have Bw2 := Lib.hid (Bw1.out.trans (K.mono Bw1.out.size))
  have hs2 : w.heap.size + 1 ≤ w2.heap.size := by have := K.size; (try simp [go_sem] at this); omega
  clear K
  clear CT CM B0 Bw1
  go_wp2_with fail
  refine (CL.out _ Bw2.out).mono ?_
  rintro e w3 ⟨v3, rfl, O3, K⟩
  have b0_2 := keepc b0_2 K
  have Bw3 := Lib.hid (Bw2.out.trans (K.mono Bw2.out.size))
  have hs3 : w2.heap.size ≤ w3.heap.size := K.size
  clear K CL b0_0 b0_1
  obtain ⟨gb, gcap, rfl, hgb⟩ : ∃ gb gcap, v3 = .slice (some ⟨gb, 0, none⟩) pl gcap ∧ w2.heap.size ≤ gb := by
    have hO := O3
    unfold OwnI at hO
    rcases hO.2 with ⟨_, h0⟩ | ⟨g, cap, cur, h1, h2, _⟩
    · rw [HML.out] at h0; omega
    · rw [HML.out] at h1; exact ⟨g, cap, h1, h2⟩
  have O3 := Lib.hid O3
  have lz3 : w.heap.size < w3.heap.size := by omega
  have hbt3 : bt < w3.heap.size := by omega
  obtain ⟨f0, f1, f2, f3, f4⟩ := TD.out w3 Bw3.out
  have CC : Hid (∀ W, Calls Try.prog 78 #[.agg #[.string xnm, .slice a1 l1.length c1, .slice a2 l2.length c2, .slice a3 l3.length c3, .int .i64 prio]] W fun e w' => e = .returned (.func (.func 87) #[] #[.pointer (some ⟨W.heap.size, 0, none⟩)]) ∧ w' = W.alloc (.cells #[.string xnm, .slice a1 l1.length c1, .slice a2 l2.length c2, .slice a3 l3.length c3, .int .i64 prio] 68)) := fun W =>
    callsIn_wide.1 (changes_in 6 ⟨xnm, ⟨a1, c1, l1⟩, ⟨a2, c2, l2⟩, ⟨a3, c3, l3⟩, prio⟩ W)
  clear hs1
  go_wp2_with fail
  refine (CC.out _).mono ?_
  rintro e w6 ⟨rfl, rfl⟩
  clear CC f0 f1 f2 f3 f4 b0_2
  go_wp2_with fail
  generalize hw6 : (w3.alloc (.cells #[.slice (some ⟨gb, 0, none⟩) pl gcap] 26)).alloc (.cells #[.string xnm, .slice a1 l1.length c1, .slice a2 l2.length c2, .slice a3 l3.length c3, .int .i64 prio] 68) = w6
  have hgb3 : gb < w3.heap.size := by
    rcases O3.out.2 with ⟨h0, _⟩ | ⟨g, cap, cur, h1, _, h3, _⟩
    · cases h0
    · injection h1 with h1
      injection h1 with h1
      injection h1 with h1
      subst h1
      exact (Array.getElem?_eq_some_iff.1 h3).1
  have HS2W := Lib.hid (show w.heap.size ≤ w2.heap.size by omega)
  obtain ⟨g2, hg2⟩ : ∃ g2, g2 = w2.heap.size := ⟨_, rfl⟩
  rw [← hg2] at O3 hs2 hs3 hgb
  have HG2 := Lib.hid hg2
  clear hg2
  obtain ⟨Bx, hBx⟩ : ∃ Bx, Bx = w3.heap.size := ⟨_, rfl⟩
  rw [← hBx]
  have HB6 : Hid (w6.heap[Bx + 1]? = some (.cells (transCells ⟨xnm, ⟨a1, c1, l1⟩, ⟨a2, c2, l2⟩, ⟨a3, c3, l3⟩, prio⟩) 68 (0, 0))) := by
    rw [hBx, ← hw6, ← World.size_alloc w3 (.cells #[.slice (some ⟨gb, 0, none⟩) pl gcap] 26)]
    exact World.alloc_heap_new _ _
  have X6 : w6.cell? ⟨Bx, 0, none⟩ = some (.slice (some ⟨gb, 0, none⟩) pl gcap) := by rw [hBx, ← hw6]; exact cellA (cell_new1 _ _ _) _
  have BW : Below w3.heap.size w3 w6 := by rw [← hw6]; exact ((Below.refl _ _).alloc (Nat.le_refl _) _).alloc (by rw [World.size_alloc]; omega) _
  have O6 : OwnI w6 g2 (.slice (some ⟨gb, 0, none⟩) pl gcap) (tab pl (at0 m)) := by
    have h := O3.out.below BW (Nat.le_refl _)
    rw [TM0.out]
    exact h
  have K7 : Below w.heap.size w w6 := Bw3.out.trans (BW.mono Bw3.out.size)
  have hlt6 : Bx + 1 < w6.heap.size := (Array.getElem?_eq_some_iff.1 HB6.out).1
  clear hw6 BW O3 Bw3 Bw2 TD
  have hgx : gb < Bx := by omega
  clear hBx lz3 hbt3 hgb3
  have SEQ : SeqStopsK Fence.wide (6 - 1) Try.prog 87 #[.pointer (some ⟨Bx + 1, 0, none⟩)] (fun y : Chg pl => #[Value.int .i64 y.1.1, Value.int .i64 y.1.2]) (KpB w.heap.size (Bx + 1)) (fun ys => ys = preC pl l1 GA.out ++ postC pl l2 GB.out) (fun _ => True) (l1.length + l2.length) w6 := fun l J Jx W hW hJ hJx hY h0 =>
    chg_in 5 (by decide) l (Bx + 1) w.heap.size pl ⟨xnm, ⟨a1, c1, l1⟩, ⟨a2, c2, l2⟩, ⟨a3, c3, l3⟩, prio⟩ GA.out GB.out _ (Nat.le_refl _) hz1 hz2 J Jx (fun pre W o h => hJ _ _ _ none h (World.grownBy_alloc W o none) (fun r e => by cases e)) hY w W (K7.trans (hW.mono K7.size)) (Nat.le_refl _) HR1.out HR2.out ((hW.block (Bx + 1) hlt6).trans HB6.out) (Nat.le_trans K7.size hW.size) h0
  refine (wpIn_wide (n := 6)).1 ?_
  refine wpIn_rangeFunc_ownG rfl (by decide) (gf := 87) (lb := #[.pointer (some ⟨Bx + 1, 0, none⟩)]) rfl trivial (enters_of Try.func87 (by kernel_rfl) rfl)
    SEQ kpB_t (fun W l o o' hl h h1 h2 => ⟨belowK_b (w := w6) K7.size W l o o' hl h h1 h2, fun _ => World.putObj_heap_other (by omega)⟩) (Below.refl _ _) (fun _ => rfl)
    (fun (pre : List (Chg pl)) W => (OwnI W g2 (.slice (some ⟨gb, 0, none⟩) pl gcap) ((fun (pre : List (Chg pl)) => tab pl (fun p => chgAt m (pre.map (·.1)) p)) pre) ∧ W.cell? ⟨Bx, 0, none⟩ = some (.slice (some ⟨gb, 0, none⟩) pl gcap)) ∧ Below w.heap.size w W)
    (fun _ _ _ => False)
    (OwnFrom.and (OwnFrom.and (ownI_own _ _ _) (fun s W W' row hs hg hr => cell_kept hs hg (fun r e => (hr r e).2))) (ownFrom_below (Nat.le_refl _) K7.size))
    (fun _ _ _ _ _ hs _ _ => hs)
    ⟨⟨(by
      have e : (tab pl (at0 m)) = tab pl (fun p => chgAt m [] p) := tab_congr fun p _ => (chgAt_nil m p).symm
      rw [e] at O6
      exact O6), X6⟩, K7⟩
    ?a1 ?assign ?body ?done ?stop
  case assign =>
    intro l y W K hK
    gi_wp2
    exact hK
  case body =>
    rintro l pre ⟨⟨p, u⟩, hp0, hp1, hu0, hu1⟩ W ⟨⟨hO, hX⟩, hB⟩ hlt
    dsimp only at hp0 hp1 hu0 hu1
    obtain ⟨q, rfl⟩ : ∃ q : Nat, p = q := ⟨p.toNat, by omega⟩
    have hq : q < pl := by omega
    have hll : (tab pl (fun p => chgAt m (pre.map (·.1)) p)).length = pl := tab_len _ _
    have hO' : W.ownsRow g2 3 1 (.slice (some ⟨gb, 0, none⟩) pl gcap) pl ((tab pl (fun p => chgAt m (pre.map (·.1)) p)).map (Value.int .i64)) := by
      have := hO
      unfold OwnI at this
      rwa [hll] at this
    have hcell := own_cell hO' q (by rw [hll]; exact hq)
    rw [tab_at _ _ _ hq] at hcell
    have hfr : W.frozen? ⟨gb, q, none⟩ = false := hO'.frozenAt q
    have hbd := chgAt_bd m (pre.map (·.1)) q QB.out (fun a ha => by
      obtain ⟨y, hy, rfl⟩ := List.mem_map.1 ha
      exact ⟨y.2.2.2.1, y.2.2.2.2⟩)
    rw [List.length_map] at hbd
    have hlen : pre.length ≤ 2000 := by omega
    have HR : Hid (OwnI (W.setCell ⟨gb, q, none⟩ (.int .i64 (chgAt m (pre.map (·.1)) q + u))) g2 (.slice (some ⟨gb, 0, none⟩) pl gcap) (tab pl (fun p => chgAt m ((pre ++ [(⟨((q : Int), u), hp0, hp1, hu0, hu1⟩ : Chg pl)]).map (·.1)) p))) := by
      have h := own_put hO' q (chgAt m (pre.map (·.1)) q + u)
      have e := tab_set1 pl q (fun p => chgAt m (pre.map (·.1)) p) (fun p => chgAt m ((pre ++ [(⟨((q : Int), u), hp0, hp1, hu0, hu1⟩ : Chg pl)]).map (·.1)) p) (fun j hj => by
        simp only [List.map_append, List.map_cons, List.map_nil, chgAt_snoc]
        by_cases e : j = q
        · subst e; simp
        · have e3 : ¬ ((q : Int) = (j : Int)) := by omega
          simp [e, e3])
      have e2 : chgAt m (pre.map (·.1)) q + u = chgAt m ((pre ++ [(⟨((q : Int), u), hp0, hp1, hu0, hu1⟩ : Chg pl)]).map (·.1)) q := by
        simp [List.map_append, List.map_cons, List.map_nil, chgAt_snoc]
      rw [e2] at h ⊢
      rw [e] at h
      show World.ownsRow _ _ _ _ _ _ _
      rw [tab_len]
      exact h
    have HB := Lib.hid hB
    have HX := Lib.hid hX
    clear hO hO' hB hll
    generalize chgAt m (pre.map (·.1)) q = z at *
    have hz : -300000 ≤ z ∧ z ≤ 1300000 := by omega
    have hq2 : (q : Int) < (pl : Int) := by omega
    clear hbd
    gi_wp2
    refine ⟨(KeepsOthers.setCell _ _ _).from _, ⟨(Below.refl _ _).setCell (p := ⟨gb, q, none⟩) (by show w.heap.size ≤ gb; omega) _, fun _ => Below.heap_setCell _ _ _ (Bx + 1) (by show Bx + 1 ≠ gb; omega)⟩, ⟨HR.out, ?_⟩, HB.out.setCell (p := ⟨gb, q, none⟩) (by show w.heap.size ≤ gb; omega) _⟩
    exact (World.cell?_of_block (Below.heap_setCell _ _ _ _ (by show Bx ≠ gb; omega))).trans HX.out
  case stop =>
    rintro D c pre W _ _ h _
    exact h.elim
  case done =>
    rintro D ys W hD rfl ⟨⟨hO, hX⟩, hB⟩ hK
    have OW : Hid (OwnI W g2 (.slice (some ⟨gb, 0, none⟩) pl gcap) AFL) := by
      have e : (preC pl l1 GA.out ++ postC pl l2 GB.out).map (·.1) = chgL ⟨xnm, ⟨a1, c1, l1⟩, ⟨a2, c2, l2⟩, ⟨a3, c3, l3⟩, prio⟩ := by
        rw [List.map_append, preC_val, postC_val]
        rfl
      have e2 : AFL = tab pl (fun p => chgAt m ((preC pl l1 GA.out ++ postC pl l2 GB.out).map (·.1)) p) := by
        rw [AL.out]
        exact tab_congr fun p _ => by rw [e, QS.out]
      show OwnI _ _ _ _
      rw [e2]
      exact hO
    have hl : AFL.length = pl := by rw [AL.out]; exact tab_len _ _
    obtain ⟨A5, c5, e5, F5⟩ := FreshG.own OW.out
    have R5 := F5.1
    rw [hl] at e5
    injection e5 with e5 _ e6
    subst e5 e6
    have CVa := CV.out W (some ⟨gb, 0, none⟩) gcap AFL R5 (by omega)
    rw [AV.out, hl] at CVa
    have CVa := Lib.hid CVa
    have R5 := Lib.hid R5
    have HL5 := Lib.hid hl
    have HB := Lib.hid hB
    have HK := Lib.hid hK
    have hDw : w.heap.size ≤ D := Nat.le_trans K7.size hD
    have FIN : Hid (Below w.heap.size w (W.putObj D (.deferred none))) := hB.trans (belowK_b (w := w) (Nat.le_refl _) W D _ _ hDw hK rfl rfl)
    have R6 := Lib.hid ((F5.mono (by have := HG2.out; have := HS2W.out; omega : w.heap.size ≤ g2)).putObj hK none)
    clear F5
    clear hO SEQ O6 K7 HB6 hK GA GB QS HR1 HR2 HM hB hl CV AL OW X6 AV
    cases ov
    · obtain ⟨E1, E2⟩ := EK.out rfl
      have E1 := Lib.hid E1
      have E2 := Lib.hid E2
      clear EO EK
      go_wp2_with fail
      refine CVa.out.mono ?_
      rintro e w7 ⟨rfl, rfl⟩
      go_wp2
      refine ⟨by simp, .inl ⟨_, _, rfl, run_takeDeferred HK.out, ?_⟩⟩
      refine ⟨_, results_tmp2 rfl _ _ _, ?_⟩
      rw [E1.out, E2.out]
      exact ⟨some ⟨gb, 0, none⟩, gcap, by rw [HL5.out]; rfl, R6.out, FIN.out⟩
    · obtain ⟨E1, E2⟩ := EO.out rfl
      have E1 := Lib.hid E1
      have E2 := Lib.hid E2
      clear EO EK
      go_wp2_with fail
      refine CVa.out.mono ?_
      rintro e w7 ⟨rfl, rfl⟩
      go_wp2
      refine ⟨by simp, .inl ⟨_, _, rfl, run_takeDeferred HK.out, ?_⟩⟩
      refine ⟨_, results_tmp2 rfl _ _ _, ?_⟩
      rw [E1.out, E2.out]
      exact ⟨none, 0, rfl, FreshG.nil _ _ _, FIN.out⟩
set_option maxHeartbeats 2000000 in
set_option maxRecDepth 100000 in
theorem Fire_f (n : NetV) (A : Option Addr) (m : List Int) (c : Nat) (t : Int) (w : World) (hr : NetR w n) (hm : ReadsV w A m) (hl : m.length ≤ 9223372036854775807) :
    Calls Try.prog 45 #[.agg #[.string n.nm, .slice n.PA n.ps.length n.pc, .slice n.TA n.ts.length n.tc], .slice A m.length c, .int .i64 t] w (FPair w.heap.size w (fireL n m t) (.int .i64 (fireE n m t))) := by
  have CK : Hid (∀ W, Below w.heap.size w W → Calls Try.prog 59 #[.agg #[.string n.nm, .slice n.PA n.ps.length n.pc, .slice n.TA n.ts.length n.tc], .slice A m.length c] W (VPost W.heap.size W (.int .i64 (errN n m)))) := fun W hW => fcheck_any n A m c W (hr.below hW (Nat.le_refl _)) (hm.below hW (Nat.le_refl _)) hl
  have B0 : Hid (Below w.heap.size w (w.alloc (.cells #[.string n.nm, .slice n.PA n.ps.length n.pc, .slice n.TA n.ts.length n.tc] 25))) := ((Below.refl _ _).alloc (Nat.le_refl _) _)
  by_cases h0 : errN n m = 0
  · have hg := errN_zero.1 h0
    rw [(fire_good (t := t) h0).1, (fire_good (t := t) h0).2]
    rw [h0] at CK
    have CF : Hid (∀ W, Below w.heap.size w W → Calls Try.prog 63 #[.agg #[.string n.nm, .slice n.PA n.ps.length n.pc, .slice n.TA n.ts.length n.tc], .slice A m.length c, .int .i64 t] W (FPair W.heap.size W (listF n m t) (.int .i64 (errF n m t)))) := fun W hW => fire_f n A m c t W (hr.below hW (Nat.le_refl _)) (hm.below hW (Nat.le_refl _)) hg
    clear hr hm hg h0
    generalize listF n m t = L at *
    generalize errF n m t = E at *
    go_enter Try.func45, Try.ntmps45
    go_wp2_with fail
    refine (CK.out _ B0.out).mono ?_
    rintro e w1 ⟨rfl, K⟩
    have b0_0 : w1.cell? ⟨w.heap.size, 0, none⟩ = some (.string n.nm) := by rw [K.cell (by simp [go_sem] <;> omega)]; simp [go_sem]
    have b0_1 : w1.cell? ⟨w.heap.size, 1, none⟩ = some (.slice n.PA n.ps.length n.pc) := by rw [K.cell (by simp [go_sem] <;> omega)]; simp [go_sem]
    have b0_2 : w1.cell? ⟨w.heap.size, 2, none⟩ = some (.slice n.TA n.ts.length n.tc) := by rw [K.cell (by simp [go_sem] <;> omega)]; simp [go_sem]
    have Bw1 := Lib.hid (B0.out.trans (K.mono (by simp [go_sem] <;> omega)))
    have hs1 : w.heap.size + 1 ≤ w1.heap.size := by have := K.size; (try simp [go_sem] at this); omega
    clear K
    go_wp2_with fail
    refine (CF.out _ Bw1.out).mono ?_
    rintro e w2 ⟨A2, c2, rfl, R2, K⟩
    have R2 := Lib.hid R2
    have b0_0 : w2.cell? ⟨w.heap.size, 0, none⟩ = some (.string n.nm) := by rw [K.cell (by first | (show w.heap.size < _; omega) | (simp; omega))]; first | exact b0_0 | exact cellA b0_0 _
    have b0_1 : w2.cell? ⟨w.heap.size, 1, none⟩ = some (.slice n.PA n.ps.length n.pc) := by rw [K.cell (by first | (show w.heap.size < _; omega) | (simp; omega))]; first | exact b0_1 | exact cellA b0_1 _
    have b0_2 : w2.cell? ⟨w.heap.size, 2, none⟩ = some (.slice n.TA n.ts.length n.tc) := by rw [K.cell (by first | (show w.heap.size < _; omega) | (simp; omega))]; first | exact b0_2 | exact cellA b0_2 _
    have Bw2 := Lib.hid (Bw1.out.trans (K.mono Bw1.out.size))
    have hs2 : w.heap.size + 1 ≤ w2.heap.size := by have := K.size; (try simp [go_sem] at this); omega
    clear K
    go_wp2
    go_ret2
    exact ⟨A2, c2, rfl, R2.out.mono (by omega), Bw2.out⟩
  · have z0 : (errN n m != 0) = true := by simpa using h0
    rw [(fire_err (t := t) h0).1, (fire_err (t := t) h0).2]
    clear hr hm h0
    generalize errN n m = E at *
    go_enter Try.func45, Try.ntmps45
    go_wp2_with fail
    refine (CK.out _ B0.out).mono ?_
    rintro e w1 ⟨rfl, K⟩
    have b0_0 : w1.cell? ⟨w.heap.size, 0, none⟩ = some (.string n.nm) := by rw [K.cell (by simp [go_sem] <;> omega)]; simp [go_sem]
    have b0_1 : w1.cell? ⟨w.heap.size, 1, none⟩ = some (.slice n.PA n.ps.length n.pc) := by rw [K.cell (by simp [go_sem] <;> omega)]; simp [go_sem]
    have b0_2 : w1.cell? ⟨w.heap.size, 2, none⟩ = some (.slice n.TA n.ts.length n.tc) := by rw [K.cell (by simp [go_sem] <;> omega)]; simp [go_sem]
    have Bw1 := Lib.hid (B0.out.trans (K.mono (by simp [go_sem] <;> omega)))
    have hs1 : w.heap.size + 1 ≤ w1.heap.size := by have := K.size; (try simp [go_sem] at this); omega
    clear K
    go_wp2
    go_ret2
    exact ⟨none, 0, rfl, FreshG.nil _ _ _, Bw1.out⟩

set_option maxHeartbeats 8000000 in
set_option maxRecDepth 100000 in
theorem after_f (n : NetV) (A : Option Addr) (m : List Int) (c t : Nat) (w : World) (hr : NetR w n) (hm : ReadsV w A m) (hok : goodN n m = true) (ht : t < n.ts.length) :
    Calls Try.prog 31 #[.agg #[.string n.nm, .slice n.PA n.ps.length n.pc, .slice n.TA n.ts.length n.tc], .slice A m.length c, .int .i64 t] w (FPair w.heap.size w (aftR n m t) (.bool (!(overB n m t)))) := by
  unfold goodN at hok
  rw [Bool.and_eq_true] at hok
  obtain ⟨hokn, hval⟩ := hok
  obtain ⟨hml, hnat⟩ := validL_parts hval
  have hx := okN_arcs hokn t ht
  have hp24 : n.ps.length ≤ 24 := (okN_parts hokn).2.2.1
  have hmn : m.length = n.ps.length := by omega
  have ht24 : n.ts.length ≤ 24 := (okN_parts hokn).2.2.2.1
  have hzl : (tA n.ts t).pre.l.length ≤ 1000 ∧ (tA n.ts t).post.l.length ≤ 1000 := ⟨(hr.okt.2 t).2.1, (hr.okt.2 t).2.2.1⟩
  have QN : Hid (∀ p, p < n.ps.length → 1048576 < aftV (tA n.ts t) m p → overB n m t = true) := fun p hp h => anyB_yes hp (by simpa using h)
  have QY : Hid ((∀ p, p < n.ps.length → aftV (tA n.ts t) m p ≤ 1048576) → overB n m t = false) := fun h => anyB_no fun p hp => by simpa using h p hp
  have QB : Hid (∀ k, 0 ≤ at0 m k ∧ at0 m k ≤ 1048576) := natL_at hnat
  have W1 : Hid (∀ p, 0 ≤ weightV (tA n.ts t).pre.l p ∧ weightV (tA n.ts t).pre.l p ≤ 99) := weightV_bd hx.pre
  have W2 : Hid (∀ p, 0 ≤ weightV (tA n.ts t).post.l p ∧ weightV (tA n.ts t).post.l p ≤ 99) := weightV_bd hx.post
  have AF : Hid (∀ p, aftV (tA n.ts t) m p = at0 m p - weightV (tA n.ts t).pre.l p + weightV (tA n.ts t).post.l p) := fun p => rfl
  have TS : Hid (∀ k, tab (k + 1) (fun p => aftV (tA n.ts t) m p) = tab k (fun p => aftV (tA n.ts t) m p) ++ [aftV (tA n.ts t) m k]) := fun k => tab_snoc k _
  have RT := Lib.hid hr.rt
  have HM := Lib.hid hm
  have RN : Hid (overB n m t = true → aftR n m t = []) := fun h => by unfold aftR; rw [if_pos h]
  have RY : Hid (overB n m t = false → aftR n m t = tab n.ps.length (fun p => aftV (tA n.ts t) m p)) := fun h => by unfold aftR; rw [if_neg (by rw [h]; simp)]; rfl
  clear hx hokn hval hnat hml hm hr
  generalize overB n m t = S at *
  generalize aftR n m t = R at *
  obtain ⟨nm, PA, ps, pc, TA, ts, tc⟩ := n
  dsimp only at *
  obtain ⟨bt, ot, eT, _⟩ := RT.out t ht
  subst eT
  obtain ⟨bt', ot', eT, hbt, d0, d1, d2, d3, d4, r1, r2, r3⟩ := RT.out t ht
  injection eT with eT
  injection eT with h1 h2
  subst h1 h2
  have TD : Hid (∀ W, Below w.heap.size w W → W.cell? ⟨bt, ot + t * 5 + 1, none⟩ = some (.slice (tA ts t).pre.A (tA ts t).pre.l.length (tA ts t).pre.c) ∧ W.cell? ⟨bt, ot + t * 5 + 2, none⟩ = some (.slice (tA ts t).post.A (tA ts t).post.l.length (tA ts t).post.c)) := fun W hW =>
    ⟨(hW.cell (World.block_lt_of_cell? w _ d1)).trans d1, (hW.cell (World.block_lt_of_cell? w _ d2)).trans d2⟩
  generalize aftV (tA ts t) m = af at *
  generalize tA ts t = x at *
  obtain ⟨xnm, ⟨a1, c1, l1⟩, ⟨a2, c2, l2⟩, ⟨a3, c3, l3⟩, prio⟩ := x
  dsimp only at *
  obtain ⟨hz1, hz2⟩ := hzl
  rw [hmn]
  generalize hpl : ps.length = pl at *
  generalize ts.length = tl at *
  have HPL := Lib.hid hpl
  have HML := Lib.hid hmn
  clear hpl hmn d0 d1 d2 d3 d4
  have C1 : Hid (∀ W (p : Nat), Below w.heap.size w W → Calls Try.prog 51 #[.slice a1 l1.length c1, .int .i64 p] W (VPost W.heap.size W (.int .i64 (weightV l1 p)))) := fun W p hW => weight11_any a1 l1 c1 p W (r1.below hW (Nat.le_refl _)) hz1
  have C2 : Hid (∀ W (p : Nat), Below w.heap.size w W → Calls Try.prog 51 #[.slice a2 l2.length c2, .int .i64 p] W (VPost W.heap.size W (.int .i64 (weightV l2 p)))) := fun W p hW => weight11_any a2 l2 c2 p W (r2.below hW (Nat.le_refl _)) hz2
  clear r1 r2 r3
  have B0 : Hid (Below w.heap.size w (w.alloc (.cells #[.string nm, .slice PA pl pc, .slice (some ⟨bt, ot, none⟩) tl tc] 25))) := (Below.refl _ _).alloc (Nat.le_refl _) _
  go_enter Try.func31, Try.ntmps31
  go_wp2_with fail
  go_loopw [8, 9] (fun p q wr => ∃ k : Nat, k ≤ pl ∧ q = .int .i64 k ∧ Hid (OwnI wr (w.heap.size + 1) p (tab k af)) ∧ Hid (Below (w.heap.size + 1) (w.alloc (.cells #[.string nm, .slice PA pl pc, .slice (some ⟨bt, ot, none⟩) tl tc] 25)) wr) ∧ Hid (∀ j, j < k → af j ≤ 1048576)) (fun _ q _ => pl - (intOf q).toNat)
  case atStart => exact ⟨0, by omega, rfl, OwnI.nil _ _, Below.refl _ _, fun j hj => absurd hj (by omega)⟩
  case round =>
    obtain ⟨k, hk, rfl, O, HB, HX⟩ := hrel
    have e1 : wr.cell? ⟨w.heap.size, 1, none⟩ = some (.slice PA pl pc) := by rw [HB.out.cell (by simp)]; simp
    have e2 : wr.cell? ⟨w.heap.size, 2, none⟩ = some (.slice (some ⟨bt, ot, none⟩) tl tc) := by rw [HB.out.cell (by simp)]; simp
    have BA : Hid (Below w.heap.size w wr) := B0.out.trans (HB.out.mono (by omega))
    have hsz : w.heap.size + 1 ≤ wr.heap.size := by have := HB.out.size; simp at this; omega
    by_cases hlt : k < pl
    · obtain ⟨bm, om, eM, f4⟩ := at_of_reads (HM.out.below BA.out (Nat.le_refl _)) k (by rw [HML.out]; exact hlt)
      subst eM
      obtain ⟨f1, f2⟩ := TD.out wr BA.out
      have QNk := Lib.hid (QN.out k hlt)
      have AFk := AF.out k
      have TSk := Lib.hid (TS.out k)
      have HF : Hid (af k ≤ 1048576 → ∀ j, j < k + 1 → af j ≤ 1048576) := fun h j hj => by
        by_cases e : j < k
        · exact HX.out j e
        · obtain rfl : j = k := by omega
          exact h
      have hb1 := W1.out k
      have hb2 := W2.out k
      have hbm := QB.out k
      have htab : (tab k af).length = k := tab_len k af
      have HTAB := Lib.hid htab
      have C1k : Hid (∀ W, Below w.heap.size w W → _) := fun W hW => C1.out W k hW
      have C2k : Hid (∀ W, Below w.heap.size w W → _) := fun W hW => C2.out W k hW
      clear HX htab
      generalize weightV l1 k = w1 at *
      generalize weightV l2 k = w2 at *
      generalize at0 m k = z at *
      generalize af k = ay at *
      have v1 : IntKind.i64.wrap (z - w1) = z - w1 := by rw [IntKind.wrap_i64]; omega
      have v2 : IntKind.i64.wrap (z - w1 + w2) = z - w1 + w2 := by rw [IntKind.wrap_i64]; omega
      have AF2 := Lib.hid AFk
      clear AFk
      go_upto_region 5 with fail
      refine wp_region_held_drew (S := fun w' => w'.cell? ⟨w.heap.size, 2, none⟩ = some (.slice (some ⟨bt, ot, none⟩) tl tc) ∧ w'.cell? ⟨bt, ot + t * 5 + 1, none⟩ = some (.slice a1 l1.length c1) ∧ w'.cell? ⟨bt, ot + t * 5 + 2, none⟩ = some (.slice a2 l2.length c2) ∧ w'.cell? ⟨bm, om + k, none⟩ = some (.int .i64 z) ∧ Hid (Below wr.heap.size wr w')) (by kernel_rfl) ?_ (fun hHeld => ?_)
      · exact ⟨e2, f1, f2, f4, (Below.refl _ _).drew⟩
      refine wpAnyH_take (oi := ⟨_, _, _, _, _, _⟩) (i := 0) (v := ?_) rfl (by kernel_rfl) (by kernel_rfl) (by kernel_rfl) (fun _ _ _ h => h) (Or.inl ⟨by rfl, ?ya0⟩) (by assumption) ?ra0
      case ya0 => (intro w hSw; (try dsimp only at hSw); go_simp; (try with_reducible rfl))
      try simp only [Act.put, List.setIfInBounds_toArray, List.set_cons_zero, List.set_cons_succ]
      refine wpAnyH_take (oi := ⟨_, _, _, _, _, _⟩) (i := 1) (v := ?_) rfl (by kernel_rfl) (by kernel_rfl) (by kernel_rfl) (fun _ _ _ h => h) (Or.inl ⟨by rfl, ?ya1⟩) (by assumption) ?ra1
      case ya1 => (intro w hSw; (try dsimp only at hSw); go_simp; (try with_reducible rfl))
      try simp only [Act.put, List.setIfInBounds_toArray, List.set_cons_zero, List.set_cons_succ]
      refine wpAnyH_take (oi := ⟨_, _, _, _, _, _⟩) (i := 2) (v := ?_) rfl (by kernel_rfl) (by kernel_rfl) (by kernel_rfl) (fun _ _ _ h => h) (Or.inl ⟨by rfl, ?ya2⟩) (by assumption) ?ra2
      case ya2 => (intro w hSw; (try dsimp only at hSw); go_simp; (try with_reducible rfl))
      try simp only [Act.put, List.setIfInBounds_toArray, List.set_cons_zero, List.set_cons_succ]
      refine wpAnyH_take (oi := ⟨_, _, _, _, _, _⟩) (i := 3) (v := ?_) rfl (by kernel_rfl) (by kernel_rfl) (by kernel_rfl) (fun _ _ _ h => h) (Or.inl ⟨by rfl, ?ya3⟩) (by assumption) ?ra3
      case ya3 => (intro w hSw; (try dsimp only at hSw); go_simp; (try with_reducible rfl))
      try simp only [Act.put, List.setIfInBounds_toArray, List.set_cons_zero, List.set_cons_succ]
      refine wpAnyH_take (oi := ⟨_, _, _, _, _, _⟩) (i := 4) (v := ?_) rfl (by kernel_rfl) (by kernel_rfl) (by kernel_rfl) (fun _ _ _ h => h) (Or.inl ⟨by rfl, ?ya4⟩) (by assumption) ?ra4
      case ya4 => (intro w hSw; (try dsimp only at hSw); go_simp; (try with_reducible rfl))
      try simp only [Act.put, List.setIfInBounds_toArray, List.set_cons_zero, List.set_cons_succ]
      refine wpAnyH_take (oi := ⟨_, _, _, _, _, _⟩) (i := 5) (v := ?_) rfl (by kernel_rfl) (by kernel_rfl) (by kernel_rfl) (fun _ _ _ h => h) (Or.inl ⟨by rfl, ?ya5⟩) (by assumption) ?ra5
      case ya5 => (intro w hSw; (try dsimp only at hSw); go_simp; (try with_reducible rfl))
      try simp only [Act.put, List.setIfInBounds_toArray, List.set_cons_zero, List.set_cons_succ]
      refine wpAnyH_take (oi := ⟨_, _, _, _, _, _⟩) (i := 6) (v := ?_) rfl (by kernel_rfl) (by kernel_rfl) (by kernel_rfl) (fun _ _ _ h => h) (Or.inl ⟨by rfl, ?ya6⟩) (by assumption) ?ra6
      case ya6 => (intro w hSw; (try dsimp only at hSw); go_simp; (try with_reducible rfl))
      try simp only [Act.put, List.setIfInBounds_toArray, List.set_cons_zero, List.set_cons_succ]
      refine wpAnyH_take (oi := ⟨_, _, _, _, _, _⟩) (i := 7) (v := ?_) rfl (by kernel_rfl) (by kernel_rfl) (by kernel_rfl) (fun _ _ _ h => h) (Or.inl ⟨by rfl, ?ya7⟩) (by assumption) ?ra7
      case ya7 => (intro w hSw; (try dsimp only at hSw); go_simp; (try with_reducible rfl))
      try simp only [Act.put, List.setIfInBounds_toArray, List.set_cons_zero, List.set_cons_succ]
      refine wpAnyH_take (oi := ⟨_, _, _, _, _, _⟩) (i := 8) (v := ?_) rfl (by kernel_rfl) (by kernel_rfl) (by kernel_rfl) (fun _ _ _ h => h) (Or.inl ⟨by rfl, ?ya8⟩) (by assumption) ?ra8
      case ya8 => (intro w hSw; (try dsimp only at hSw); go_simp; (try with_reducible rfl))
      try simp only [Act.put, List.setIfInBounds_toArray, List.set_cons_zero, List.set_cons_succ]
      refine wpAnyH_take (oi := ⟨_, _, _, _, _, _⟩) (i := 9) (v := ?_) rfl (by kernel_rfl) (by kernel_rfl) (by kernel_rfl) (fun _ _ _ h => h) (Or.inl ⟨by rfl, ?ya9⟩) (by assumption) ?ra9
      case ya9 => (intro w hSw; (try dsimp only at hSw); go_simp; (try with_reducible rfl))
      try simp only [Act.put, List.setIfInBounds_toArray, List.set_cons_zero, List.set_cons_succ]
      refine wpAnyH_take (oi := ⟨_, _, _, _, _, _⟩) (i := 10) (v := ?_) rfl (by kernel_rfl) (by kernel_rfl) (by kernel_rfl) (fun _ _ _ h => h) (Or.inl ⟨by rfl, ?ya10⟩) (by assumption) ?ra10
      case ya10 => (intro w hSw; (try dsimp only at hSw); go_simp; (try with_reducible rfl))
      try simp only [Act.put, List.setIfInBounds_toArray, List.set_cons_zero, List.set_cons_succ]
      refine wpAnyH_take (oi := ⟨_, _, _, _, _, _⟩) (i := 13) (v := ?_) rfl (by kernel_rfl) (by kernel_rfl) (by kernel_rfl) (fun _ _ _ h => h) (Or.inl ⟨by rfl, ?ya13⟩) (by assumption) ?ra13
      case ya13 => (intro w hSw; (try dsimp only at hSw); go_simp; (try with_reducible rfl))
      try simp only [Act.put, List.setIfInBounds_toArray, List.set_cons_zero, List.set_cons_succ]
      refine wpAnyH_take (oi := ⟨_, _, _, _, _, _⟩) (i := 14) (v := ?_) rfl (by kernel_rfl) (by kernel_rfl) (by kernel_rfl) (fun _ _ _ h => h) (Or.inl ⟨by rfl, ?ya14⟩) (by assumption) ?ra14
      case ya14 => (intro w hSw; (try dsimp only at hSw); go_simp; (try with_reducible rfl))
      try simp only [Act.put, List.setIfInBounds_toArray, List.set_cons_zero, List.set_cons_succ]
      refine wpAnyH_take (oi := ⟨_, _, _, _, _, _⟩) (i := 15) (v := ?_) rfl (by kernel_rfl) (by kernel_rfl) (by kernel_rfl) (fun _ _ _ h => h) (Or.inl ⟨by rfl, ?ya15⟩) (by assumption) ?ra15
      case ya15 => (intro w hSw; (try dsimp only at hSw); go_simp; (try with_reducible rfl))
      try simp only [Act.put, List.setIfInBounds_toArray, List.set_cons_zero, List.set_cons_succ]
      refine wpAnyH_take (oi := ⟨_, _, _, _, _, _⟩) (i := 16) (v := ?_) rfl (by kernel_rfl) (by kernel_rfl) (by kernel_rfl) (fun _ _ _ h => h) (Or.inl ⟨by rfl, ?ya16⟩) (by assumption) ?ra16
      case ya16 => (intro w hSw; (try dsimp only at hSw); go_simp; (try with_reducible rfl))
      try simp only [Act.put, List.setIfInBounds_toArray, List.set_cons_zero, List.set_cons_succ]
      refine wpAnyH_take (oi := ⟨_, _, _, _, _, _⟩) (i := 17) (v := ?_) rfl (by kernel_rfl) (by kernel_rfl) (by kernel_rfl) (fun _ _ _ h => h) (Or.inl ⟨by rfl, ?ya17⟩) (by assumption) ?ra17
      case ya17 => (intro w hSw; (try dsimp only at hSw); go_simp; (try with_reducible rfl))
      try simp only [Act.put, List.setIfInBounds_toArray, List.set_cons_zero, List.set_cons_succ]
      refine wpAnyH_take (oi := ⟨_, _, _, _, _, _⟩) (i := 18) (v := ?_) rfl (by kernel_rfl) (by kernel_rfl) (by kernel_rfl) (fun _ _ _ h => h) (Or.inl ⟨by rfl, ?ya18⟩) (by assumption) ?ra18
      case ya18 => (intro w hSw; (try dsimp only at hSw); go_simp; (try with_reducible rfl))
      try simp only [Act.put, List.setIfInBounds_toArray, List.set_cons_zero, List.set_cons_succ]
      refine wpAnyH_take (oi := ⟨_, _, _, _, _, _⟩) (i := 19) (v := ?_) rfl (by kernel_rfl) (by kernel_rfl) (by kernel_rfl) (fun _ _ _ h => h) (Or.inl ⟨by rfl, ?ya19⟩) (by assumption) ?ra19
      case ya19 => (intro w hSw; (try dsimp only at hSw); go_simp; (try with_reducible rfl))
      try simp only [Act.put, List.setIfInBounds_toArray, List.set_cons_zero, List.set_cons_succ]
      refine wpAnyH_ready (rs := [11]) (by kernel_rfl) (by simp) ?_
      refine AllReadyH.cons (o := ⟨_, _, _, _, _, _⟩) rfl (fun K hK => ?_) AllReadyH.nil
      go_simp
      go_at_call 51; refine (C1k.out _ (BA.out.trans (hHeld.2.2.2.2.out.mono BA.out.size))).mono ?_; rintro e w4 ⟨rfl, K⟩; (try go_wp2_with fail)
      refine hK.out _ _ ?_ (fun hHeld2 => ?_)
      · exact ⟨keepc hHeld.1 K, keepc hHeld.2.1 K, keepc hHeld.2.2.1 K, keepc hHeld.2.2.2.1 K, hHeld.2.2.2.2.out.trans (K.mono hHeld.2.2.2.2.out.size)⟩
      clear hK K hHeld
      have hHeld := hHeld2
      clear hHeld2
      try simp only [Act.put, List.setIfInBounds_toArray, List.set_cons_zero, List.set_cons_succ]
      refine wpAnyH_take (oi := ⟨_, _, _, _, _, _⟩) (i := 12) (v := ?_) rfl (by kernel_rfl) (by kernel_rfl) (by kernel_rfl) (fun _ _ _ h => h) (Or.inl ⟨by rfl, ?ya12⟩) (by assumption) ?ra12
      case ya12 => (intro w hSw; (try dsimp only at hSw); go_simp; (try with_reducible rfl))
      try simp only [Act.put, List.setIfInBounds_toArray, List.set_cons_zero, List.set_cons_succ]
      refine wpAnyH_ready (rs := [20]) (by kernel_rfl) (by simp) ?_
      refine AllReadyH.cons (o := ⟨_, _, _, _, _, _⟩) rfl (fun K hK => ?_) AllReadyH.nil
      go_simp
      go_at_call 51; refine (C2k.out _ (BA.out.trans (hHeld.2.2.2.2.out.mono BA.out.size))).mono ?_; rintro e w4 ⟨rfl, K⟩; (try go_wp2_with fail)
      refine hK.out _ _ ?_ (fun hHeld2 => ?_)
      · exact ⟨keepc hHeld.1 K, keepc hHeld.2.1 K, keepc hHeld.2.2.1 K, keepc hHeld.2.2.2.1 K, hHeld.2.2.2.2.out.trans (K.mono hHeld.2.2.2.2.out.size)⟩
      clear hK K hHeld
      have hHeld := hHeld2
      clear hHeld2
      try simp only [Act.put, List.setIfInBounds_toArray, List.set_cons_zero, List.set_cons_succ]
      refine wpAnyH_take (oi := ⟨_, _, _, _, _, _⟩) (i := 21) (v := ?_) rfl (by kernel_rfl) (by kernel_rfl) (by kernel_rfl) (fun _ _ _ h => h) (Or.inl ⟨by rfl, ?ya21⟩) (by assumption) ?ra21
      case ya21 => (intro w hSw; (try dsimp only at hSw); go_simp; (try with_reducible rfl))
      try simp only [Act.put, List.setIfInBounds_toArray, List.set_cons_zero, List.set_cons_succ]
      refine wpAnyH_take (oi := ⟨_, _, _, _, _, _⟩) (i := 22) (v := ?_) rfl (by kernel_rfl) (by kernel_rfl) (by kernel_rfl) (fun _ _ _ h => h) (Or.inl ⟨by rfl, ?ya22⟩) (by assumption) ?ra22
      case ya22 => (intro w hSw; (try dsimp only at hSw); go_simp; (try with_reducible rfl))
      try simp only [Act.put, List.setIfInBounds_toArray, List.set_cons_zero, List.set_cons_succ]
      refine wpAnyH_done (by kernel_rfl) ?_ _
      have K9 := Lib.hid hHeld.2.2.2.2.out
      have O3 := Lib.hid (O.out.below K9.out (Nat.le_refl _))
      have B9 := Lib.hid (BA.out.trans (K9.out.mono BA.out.size))
      have H9 := Lib.hid (HB.out.trans (K9.out.mono hsz))
      have hs9 := Nat.le_trans hsz K9.out.size
      clear hHeld C1k C2k v1 v2 O K9
      have haft : -99 ≤ z - w1 + w2 ∧ z - w1 + w2 ≤ 1048675 := by omega
      rw [← AF2.out] at haft ⊢
      have HZ := Lib.hid (show ay = ay from rfl)
      by_cases hov : 1048576 < ay
      · have z1 : decide (1048576 < ay) = true := by simpa using hov
        have E := Lib.hid (QNk.out hov)
        clear QNk HF
        go_wp2
        go_ret2
        have ER := RN.out E.out
        rw [E.out, ER]
        exact ⟨none, 0, rfl, FreshG.nil _ _ _, B9.out⟩
      · have z1 : decide (1048576 < ay) = false := by simpa using hov
        have GG := Lib.hid (HF.out (by omega))
        clear QNk HF
        go_wp2_with (at_builtin; refine wpList_int rfl (.tmp 42) (.tmp 44) rfl (w.heap.size + 1) _ (tab k af) ay rfl (O3.out.alloc _) _ rfl (cell_new1 _ _ _) (by rw [HTAB.out]; omega) (size_le_alloc hs9 _) ?_; intro v' w5 hown' hb')
        have O5 : Hid (OwnI w5 (w.heap.size + 1) v' (tab (k + 1) af)) := by
          show OwnI _ _ _ _
          rw [TSk.out]
          exact hown'
        have B5 := Lib.hid ((H9.out.alloc hs9 _).trans hb')
        clear hown' hb'
        go_wp2
        go_roundw
        case rel => exact ⟨k + 1, by omega, by go_num, O5, B5, GG⟩
        case measure => simp [intOf]; omega
    · obtain rfl : k = pl := by omega
      have E := Lib.hid (QY.out HX.out)
      go_wp2
      go_ret2
      have ER := RY.out E.out
      rw [E.out, ER]
      exact FPair.own (OwnI.mono O.out (by omega)) BA.out
def FIs (g : Nat) (w : World) (L : List Int) (e : Ending) (w' : World) : Prop := ∃ A c, e = .returned (.slice A L.length c) ∧ FreshG w' g A L ∧ Below g w w'
theorem FIs.own {g : Nat} {w w' : World} {v : Value} {zs : List Int} (h : OwnI w' g v zs) (hb : Below g w w') : FIs g w zs (.returned v) w' := by
  obtain ⟨A, c, e, hr⟩ := FreshG.own h
  exact ⟨A, c, by rw [e], hr, hb⟩

set_option maxHeartbeats 4000000 in
set_option maxRecDepth 100000 in
theorem filter_f (n : NetV) (A : Option Addr) (m : List Int) (c : Nat) (bn bm : Nat) (w : World) (hr : NetR w n) (hm : ReadsV w A m) (hok : goodN n m = true) (n0 : w.cell? ⟨bn, 0, none⟩ = some (.string n.nm)) (n1 : w.cell? ⟨bn, 1, none⟩ = some (.slice n.PA n.ps.length n.pc)) (n2 : w.cell? ⟨bn, 2, none⟩ = some (.slice n.TA n.ts.length n.tc)) (m0 : w.cell? ⟨bm, 0, none⟩ = some (.slice A m.length c)) :
    Calls Try.prog 72 #[.agg #[.string n.nm, .slice n.PA n.ps.length n.pc, .slice n.TA n.ts.length n.tc], .func (.func 73) #[] #[.pointer (some ⟨bn, 0, none⟩), .pointer (some ⟨bm, 0, none⟩)]] w (FIs w.heap.size w (firesV n m)) := by
  have CA : Hid (∀ W t, Below w.heap.size w W → t < n.ts.length → Calls Try.prog 73 #[.int .i64 (t : Nat), .pointer (some ⟨bn, 0, none⟩), .pointer (some ⟨bm, 0, none⟩)] W (VPost W.heap.size W (.bool (mayB n m t)))) := fun W t hW ht =>
    have L : ∀ {b i : Nat} {v : Value}, w.cell? ⟨b, i, none⟩ = some v → W.cell? ⟨b, i, none⟩ = some v := fun h => (hW.cell (World.block_lt_of_cell? w _ h)).trans h
    clos_active n A m c t bn bm W (hr.below hW (Nat.le_refl _)) (hm.below hW (Nat.le_refl _)) hok ht (L n0) (L n1) (L n2) (L m0)
  have FV : firesV n m = pickI (mayB n m) n.ts.length := rfl
  rw [FV]
  clear FV
  have htl : n.ts.length ≤ 1000 := hr.okt.1
  clear hr hm hok n0 n1 n2 m0
  generalize mayB n m = mf at *
  obtain ⟨nm, PA, ps, pc, TA, ts, tc⟩ := n
  dsimp only at *
  generalize ts.length = tl at *
  generalize ps.length = pl at *
  obtain ⟨g, hg⟩ : ∃ g, g = w.heap.size := ⟨_, rfl⟩
  have B0 : Hid (Below g w (w.alloc (.cells #[.string nm, .slice PA pl pc, .slice TA tl tc] 25))) := (Below.refl _ _).alloc (by rw [hg]; exact Nat.le_refl _) _
  have c2 : (w.alloc (.cells #[.string nm, .slice PA pl pc, .slice TA tl tc] 25)).cell? ⟨g, 2, none⟩ = some (.slice TA tl tc) := by rw [hg]; simp
  rw [← hg] at CA ⊢
  have HG := Lib.hid hg
  clear hg
  go_enter Try.func72, Try.ntmps72
  go_wp2_with fail
  go_loopw [5, 10] (fun p q wr => ∃ k : Nat, k ≤ tl ∧ q = .int .i64 k ∧ Hid (OwnI wr g p (pickI mf k)) ∧ Hid (Below g w wr)) (fun _ q _ => tl - (intOf q).toNat)
  case atStart => exact ⟨0, by omega, rfl, OwnI.nil _ _, B0⟩
  case round =>
    obtain ⟨k, hk, rfl, O, BB⟩ := hrel
    have hsz := BB.out.size
    rw [← HG.out] at hsz
    by_cases hlt : k < tl
    · have C := CA.out wr k BB.out hlt
      have PY : Hid (mf k = true → pickI mf (k + 1) = pickI mf k ++ [(k : Int)]) := pickI_yes mf k
      have PN : Hid (mf k = false → pickI mf (k + 1) = pickI mf k) := pickI_no mf k
      have hpl := pickI_len mf k
      generalize mf k = b at *
      cases b
      · have PN2 := Lib.hid (PN.out rfl)
        clear PN PY
        replace C := Lib.hid C
        go_wp2_with fail
        refine C.out.mono ?_
        rintro e w3 ⟨rfl, K⟩
        have O3 : Hid (OwnI w3 g u5 (pickI mf (k + 1))) := by
          show OwnI _ _ _ _
          rw [PN2.out]
          exact O.out.below K (Nat.le_refl _)
        have B3 := Lib.hid (BB.out.trans (K.mono hsz))
        clear K C
        go_wp2
        go_roundw
        case rel => exact ⟨k + 1, by omega, by go_num, O3, B3⟩
        case measure => simp [intOf]; omega
      · have PY2 := Lib.hid (PY.out rfl)
        clear PN PY
        replace C := Lib.hid C
        go_wp2_with fail
        refine C.out.mono ?_
        rintro e w3 ⟨rfl, K⟩
        have O3 := Lib.hid (O.out.below K (Nat.le_refl _))
        have B3 := Lib.hid (BB.out.trans (K.mono hsz))
        have hs3 := Nat.le_trans hsz K.size
        clear K C O
        go_wp2_with (at_builtin; refine wpList_int rfl (.tmp 16) (.tmp 18) rfl g _ (pickI mf k) k rfl (O3.out.alloc _) _ rfl (cell_new1 _ _ _) (by omega) (size_le_alloc hs3 _) ?_; intro v' w5 hown' hb')
        have O5 : Hid (OwnI w5 g v' (pickI mf (k + 1))) := by
          show OwnI _ _ _ _
          rw [PY2.out]
          exact hown'
        have B5 : Hid (Below g w w5) := (B3.out.alloc hs3 _).trans hb'
        clear hown' hb'
        go_wp2
        go_roundw
        case rel => exact ⟨k + 1, by omega, by go_num, O5, B5⟩
        case measure => simp [intOf]; omega
    · obtain rfl : k = tl := by omega
      go_wp2
      go_ret
      exact FIs.own O.out BB.out

set_option maxHeartbeats 2000000 in
set_option maxRecDepth 100000 in
theorem active_f (n : NetV) (A : Option Addr) (m : List Int) (c : Nat) (w : World) (hr : NetR w n) (hm : ReadsV w A m) (hok : goodN n m = true) :
    Calls Try.prog 60 #[.agg #[.string n.nm, .slice n.PA n.ps.length n.pc, .slice n.TA n.ts.length n.tc], .slice A m.length c] w (FIs w.heap.size w (firesV n m)) := by
  have B0 : Hid (Below w.heap.size w ((w.alloc (.cells #[.string n.nm, .slice n.PA n.ps.length n.pc, .slice n.TA n.ts.length n.tc] 25)).alloc (.cells #[.slice A m.length c] 26))) := (((Below.refl _ _).alloc (Nat.le_refl _) _).alloc (by simp) _)
  have C := Lib.hid (filter_f n A m c w.heap.size (w.heap.size + 1) ((w.alloc (.cells #[.string n.nm, .slice n.PA n.ps.length n.pc, .slice n.TA n.ts.length n.tc] 25)).alloc (.cells #[.slice A m.length c] 26)) (hr.below B0.out (Nat.le_refl _)) (hm.below B0.out (Nat.le_refl _)) hok (by simp [go_sem]) (by simp [go_sem]) (by simp [go_sem]) (by simp [go_sem]))
  clear hr hm hok
  go_enter Try.func60, Try.ntmps60
  go_wp2_with fail
  refine C.out.mono ?_
  rintro e w1 ⟨A2, c2, rfl, R2, K⟩
  have K1 := Lib.hid (B0.out.trans (K.mono (by simp; omega)))
  have R2 := Lib.hid R2
  clear K C
  go_wp2
  go_ret
  exact ⟨A2, c2, rfl, R2.out.mono (by simp; omega), K1.out⟩

set_option maxHeartbeats 2000000 in
set_option maxRecDepth 100000 in
theorem list_f (n : NetV) (A : Option Addr) (m : List Int) (c : Nat) (w : World) (hr : NetR w n) (hm : ReadsV w A m) (hl : m.length ≤ 9223372036854775807) :
    Calls Try.prog 43 #[.agg #[.string n.nm, .slice n.PA n.ps.length n.pc, .slice n.TA n.ts.length n.tc], .slice A m.length c] w (FIs w.heap.size w (listL n m)) := by
  have CK : Hid (∀ W, Below w.heap.size w W → Calls Try.prog 59 #[.agg #[.string n.nm, .slice n.PA n.ps.length n.pc, .slice n.TA n.ts.length n.tc], .slice A m.length c] W (VPost W.heap.size W (.int .i64 (errN n m)))) := fun W hW => fcheck_any n A m c W (hr.below hW (Nat.le_refl _)) (hm.below hW (Nat.le_refl _)) hl
  have B0 : Hid (Below w.heap.size w (w.alloc (.cells #[.string n.nm, .slice n.PA n.ps.length n.pc, .slice n.TA n.ts.length n.tc] 25))) := ((Below.refl _ _).alloc (Nat.le_refl _) _)
  unfold listL
  by_cases h0 : errN n m = 0
  · have hg := errN_zero.1 h0
    rw [hg, if_pos rfl]
    rw [h0] at CK
    have CA : Hid (∀ W, Below w.heap.size w W → Calls Try.prog 60 #[.agg #[.string n.nm, .slice n.PA n.ps.length n.pc, .slice n.TA n.ts.length n.tc], .slice A m.length c] W (FIs W.heap.size W (firesV n m))) := fun W hW => active_f n A m c W (hr.below hW (Nat.le_refl _)) (hm.below hW (Nat.le_refl _)) hg
    clear hr hm hg h0
    go_enter Try.func43, Try.ntmps43
    go_wp2_with fail
    refine (CK.out _ B0.out).mono ?_
    rintro e w1 ⟨rfl, K⟩
    have b0_0 : w1.cell? ⟨w.heap.size, 0, none⟩ = some (.string n.nm) := by rw [K.cell (by simp [go_sem] <;> omega)]; simp [go_sem]
    have b0_1 : w1.cell? ⟨w.heap.size, 1, none⟩ = some (.slice n.PA n.ps.length n.pc) := by rw [K.cell (by simp [go_sem] <;> omega)]; simp [go_sem]
    have b0_2 : w1.cell? ⟨w.heap.size, 2, none⟩ = some (.slice n.TA n.ts.length n.tc) := by rw [K.cell (by simp [go_sem] <;> omega)]; simp [go_sem]
    have Bw1 := Lib.hid (B0.out.trans (K.mono (by simp [go_sem] <;> omega)))
    have hs1 : w.heap.size + 1 ≤ w1.heap.size := by have := K.size; (try simp [go_sem] at this); omega
    clear K
    go_wp2_with fail
    refine (CA.out _ Bw1.out).mono ?_
    rintro e w2 ⟨A2, c2, rfl, R2, K⟩
    have R2 := Lib.hid R2
    have b0_0 : w2.cell? ⟨w.heap.size, 0, none⟩ = some (.string n.nm) := by rw [K.cell (by show w.heap.size < _; omega)]; exact b0_0
    have b0_1 : w2.cell? ⟨w.heap.size, 1, none⟩ = some (.slice n.PA n.ps.length n.pc) := by rw [K.cell (by show w.heap.size < _; omega)]; exact b0_1
    have b0_2 : w2.cell? ⟨w.heap.size, 2, none⟩ = some (.slice n.TA n.ts.length n.tc) := by rw [K.cell (by show w.heap.size < _; omega)]; exact b0_2
    have Bw2 := Lib.hid (Bw1.out.trans (K.mono Bw1.out.size))
    have hs2 : w.heap.size + 1 ≤ w2.heap.size := by have := K.size; (try simp [go_sem] at this); omega
    clear K
    go_wp2
    go_ret
    exact ⟨A2, c2, rfl, R2.out.mono (by omega), Bw2.out⟩
  · have hg : goodN n m = false := by
      cases h : goodN n m
      · rfl
      · exact absurd (errN_zero.2 h) h0
    rw [hg, if_neg (by simp)]
    have z0 : (errN n m != 0) = true := by simpa using h0
    clear hr hm hg h0
    generalize errN n m = E at *
    go_enter Try.func43, Try.ntmps43
    go_wp2_with fail
    refine (CK.out _ B0.out).mono ?_
    rintro e w1 ⟨rfl, K⟩
    have b0_0 : w1.cell? ⟨w.heap.size, 0, none⟩ = some (.string n.nm) := by rw [K.cell (by simp [go_sem] <;> omega)]; simp [go_sem]
    have b0_1 : w1.cell? ⟨w.heap.size, 1, none⟩ = some (.slice n.PA n.ps.length n.pc) := by rw [K.cell (by simp [go_sem] <;> omega)]; simp [go_sem]
    have b0_2 : w1.cell? ⟨w.heap.size, 2, none⟩ = some (.slice n.TA n.ts.length n.tc) := by rw [K.cell (by simp [go_sem] <;> omega)]; simp [go_sem]
    have Bw1 := Lib.hid (B0.out.trans (K.mono (by simp [go_sem] <;> omega)))
    have hs1 : w.heap.size + 1 ≤ w1.heap.size := by have := K.size; (try simp [go_sem] at this); omega
    clear K
    go_wp2
    go_ret
    exact ⟨none, 0, rfl, FreshG.nil _ _ _, Bw1.out⟩

end Go.Proofs.Ytpfkkjgklhcejaa
