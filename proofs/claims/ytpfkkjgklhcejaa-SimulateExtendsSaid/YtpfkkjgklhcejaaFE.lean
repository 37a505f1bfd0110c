/- A transition is enabled: the program. -/
import Derived.Test.YtpfkkjgklhcejaaFI
import Derived.Deep.OwnRows
import Derived.Laws.CopyOwn
import Derived.StillTailTactics
namespace Go.Proofs.Ytpfkkjgklhcejaa
open Go.RowKit Go.Shelf

attribute [local go_sem] Oper.semAt_some

theorem vI_cells {w : World} {ba oa : Nat} {m : List Int} (h : ReadsV w (some ⟨ba, oa, none⟩) m) (j : Nat) (v : Value) (hj : (vI m)[j]? = some v) : w.cell? ((⟨ba, oa, none⟩ : Addr).add j) = some v := by
  have hl : j < m.length := by
    have := (List.getElem?_eq_some_iff.1 hj).1
    rwa [vI_len] at this
  obtain ⟨b, o, e, _, h2⟩ := h j hl
  injection e with e
  injection e with e1 e2
  subst e1 e2
  rw [Go.WideShapes.add_plain, h2]
  simp [vI, hl] at hj
  rw [← hj]
  simp [at0, hl]
theorem vI_one (m : List Int) : ∀ v ∈ vI m, v.oneCell' = true := fun v hv => by
  unfold vI at hv
  obtain ⟨x, _, rfl⟩ := List.mem_map.1 hv
  simp [Value.oneCell']
theorem rowIs_splice {w : World} {b : Nat} {t : TypeId} {m : List Int} (h : w.heap[b]? = some (.cells (splice (List.replicate 24 (Value.int .i64 0)) 0 (vI m)).toArray t (0, 0))) (hm : m.length ≤ 24) : w.rowIs b t 24 (fun p => .int .i64 (at0 m p)) := by
  refine ⟨_, h, ?_, fun i hi => ?_⟩
  · simp [splice, vI]; omega
  · show (splice (List.replicate 24 (Value.int .i64 0)) 0 (vI m)).toArray[i]? = some (.int .i64 (at0 m i))
    simp only [splice, List.take_zero, List.nil_append, List.getElem?_toArray, Nat.zero_add]
    by_cases e : i < m.length
    · rw [List.getElem?_append_left (by rw [vI_len]; exact e)]
      simp [vI, at0, e]
    · have h2 : at0 m i = 0 := by simp [at0, e]
      have h3 : (vI m).length ≤ i := by rw [vI_len]; omega
      rw [h2, List.getElem?_append_right h3, List.getElem?_drop, List.getElem?_replicate, if_pos (by rw [vI_len]; omega)]
theorem chgSum_bd (p : Nat) : ∀ (pre : List (Int × Int)), (∀ a ∈ pre, -99 ≤ a.2 ∧ a.2 ≤ 99) → -99 * (pre.length : Int) ≤ (pre.map fun a => if a.1 = (p : Int) then a.2 else 0).sum ∧ (pre.map fun a => if a.1 = (p : Int) then a.2 else 0).sum ≤ 99 * (pre.length : Int)
  | [], _ => by simp
  | a :: r, h => by
    have h1 := chgSum_bd p r fun b hb => h b (List.mem_cons_of_mem _ hb)
    have h2 := h a (by simp)
    rw [List.map_cons, List.sum_cons, List.length_cons]
    split <;> omega
theorem chgAt_bd (m : List Int) (pre : List (Int × Int)) (p : Nat) (hm : ∀ k, 0 ≤ at0 m k ∧ at0 m k ≤ 1048576) (h : ∀ a ∈ pre, -99 ≤ a.2 ∧ a.2 ≤ 99) : -99 * (pre.length : Int) ≤ chgAt m pre p ∧ chgAt m pre p ≤ 1048576 + 99 * (pre.length : Int) := by
  have h1 := chgSum_bd p pre h
  have h2 := hm p
  unfold chgAt
  omega

def at24 (f : Nat → Int) : Nat → Value := fun p => .int .i64 (f p)
theorem rowIs_own {b : Nat} {t : TypeId} {k : Nat} {α : Type} (f : List α → Nat → Value) (B : Nat) : OwnFrom B (fun (pre : List α) W => W.rowIs b t k (f pre)) := fun s W W' row hs hg hr => by
  obtain ⟨cs, h1, h2, h3⟩ := hs
  exact ⟨cs, (grownBy_keeps_cells hg (fun r e => (hr r e).2) h1 rfl).trans h1, h2, h3⟩
set_option maxHeartbeats 8000000 in
set_option maxRecDepth 100000 in
theorem enabled_any (n : NetV) (A : Option Addr) (m : List Int) (c t : Nat) (w : World) (hr : NetR w n) (hm : ReadsV w A m) (hok : goodN n m = true) (ht : t < n.ts.length) :
    Calls Try.prog 85 #[.agg #[.string n.nm, .slice n.PA n.ps.length n.pc, .slice n.TA n.ts.length n.tc], .slice A m.length c, .int .i64 t] w (VPost w.heap.size w (.bool (readyB n m t))) := by
  unfold goodN at hok
  rw [Bool.and_eq_true] at hok
  obtain ⟨hokn, hval⟩ := hok
  obtain ⟨hml, hnat⟩ := validL_parts hval
  have hx := okN_arcs hokn t ht
  have hp24 : n.ps.length ≤ 24 := (okN_parts hokn).2.2.1
  have hp1 : 1 ≤ n.ps.length := (okN_parts hokn).2.1
  have hmn : m.length = n.ps.length := by omega
  have RT := Lib.hid (hr.rt.below (Below.refl _ _) (Nat.le_refl _))
  have ht24 : n.ts.length ≤ 24 := (okN_parts hokn).2.2.2.1
  have hzl : (tA n.ts t).pre.l.length ≤ 1000 ∧ (tA n.ts t).post.l.length ≤ 1000 ∧ (tA n.ts t).inh.l.length ≤ 1000 := ⟨(hr.okt.2 t).2.1, (hr.okt.2 t).2.2.1, (hr.okt.2 t).2.2.2⟩
  have QL : Hid (anyB (lowF (tA n.ts t).pre.l m) (tA n.ts t).pre.l.length = true → readyB n m t = false) := fun h => ready_low hx h
  have QI : Hid (anyB (inhF (tA n.ts t).inh.l m) (tA n.ts t).inh.l.length = true → readyB n m t = false) := fun h => ready_inh hx h
  have QC : Hid (∀ p, p < n.ps.length → capF n.ps (tA n.ts t) m p = true → readyB n m t = false) := fun p hp h => ready_cap hp h
  have QY : Hid (anyB (lowF (tA n.ts t).pre.l m) (tA n.ts t).pre.l.length = false → anyB (inhF (tA n.ts t).inh.l m) (tA n.ts t).inh.l.length = false → (∀ p, p < n.ps.length → capF n.ps (tA n.ts t) m p = false) → readyB n m t = true) := fun h1 h2 h3 => ready_yes hnat hx h1 h2 h3
  have QS : Hid (∀ p, chgAt m (chgL (tA n.ts t)) p = aftV (tA n.ts t) m p) := fun p => chgAt_all hx m p
  have QB : Hid (∀ k, 0 ≤ at0 m k ∧ at0 m k ≤ 1048576) := natL_at hnat
  have QK : Hid (∀ p, p < n.ps.length → 0 ≤ (pA n.ps p).cap ∧ (pA n.ps p).cap ≤ 1048576) := fun p hp => okN_cap hokn p hp
  have GA := Lib.hid (goodArcs_of hx.pre)
  have GB := Lib.hid (goodArcs_of hx.post)
  have CL : Hid (∀ W b, Below w.heap.size w W → W.cell? ⟨b, 0, none⟩ = some (.slice A m.length c) → Calls Try.prog 88 #[.slice (tA n.ts t).pre.A (tA n.ts t).pre.l.length (tA n.ts t).pre.c, .func (.func 89) #[] #[.pointer (some ⟨b, 0, none⟩)]] W (VPost W.heap.size W (.bool (anyB (lowF (tA n.ts t).pre.l m) (tA n.ts t).pre.l.length)))) := fun W b hW hb => by
    obtain ⟨b0, off, e, hb0, _, _, _, _, _, r1, r2, r3⟩ := hr.rt t ht
    exact low_contains _ _ _ b A m c W (r1.below hW (Nat.le_refl _)) hzl.1 hb (hm.below hW (Nat.le_refl _)) (fun j hj => by have := arcsE_parts hx.pre j hj; omega)
  have CI : Hid (∀ W b, Below w.heap.size w W → W.cell? ⟨b, 0, none⟩ = some (.slice A m.length c) → Calls Try.prog 88 #[.slice (tA n.ts t).inh.A (tA n.ts t).inh.l.length (tA n.ts t).inh.c, .func (.func 90) #[] #[.pointer (some ⟨b, 0, none⟩)]] W (VPost W.heap.size W (.bool (anyB (inhF (tA n.ts t).inh.l m) (tA n.ts t).inh.l.length)))) := fun W b hW hb => by
    obtain ⟨b0, off, e, hb0, _, _, _, _, _, r1, r2, r3⟩ := hr.rt t ht
    exact inh_contains _ _ _ b A m c W (r3.below hW (Nat.le_refl _)) hzl.2.2 hb (hm.below hW (Nat.le_refl _)) (fun j hj => by have := arcsE_parts hx.inh j hj; omega)
  obtain ⟨b0, off, e1, hb0, d0, d1, d2, d3, d4, r1, r2, r3⟩ := RT.out t ht
  have HR1 := Lib.hid r1
  have HR2 := Lib.hid r2
  have RP := Lib.hid hr.rp
  have HM := Lib.hid hm
  clear hx hokn hval hnat hml hm hr r1 r2 r3 RT
  obtain ⟨nm, PA, ps, pc, TA, ts, tc⟩ := n
  dsimp only at *
  subst e1
  generalize readyB ⟨nm, PA, ps, pc, some ⟨b0, off, none⟩, ts, tc⟩ m t = S at *
  generalize tA ts t = x at *
  obtain ⟨xnm, ⟨a1, c1, l1⟩, ⟨a2, c2, l2⟩, ⟨a3, c3, l3⟩, prio⟩ := x
  dsimp only at *
  obtain ⟨hz1, hz2, hz3⟩ := hzl
  rw [hmn] at CL CI ⊢
  generalize hpl : ps.length = pl at *
  generalize ts.length = tl at *
  have HPL := Lib.hid hpl
  have HML := Lib.hid hmn
  clear hpl hmn
  generalize hB1 : anyB (lowF l1 m) l1.length = bl at *
  generalize hB2 : anyB (inhF l3 m) l3.length = bi at *
  clear hB1 hB2
  have HG : Hid (∃ g, g = w.heap.size) := ⟨_, rfl⟩
  have B0 : Hid (Below w.heap.size w (((w.alloc (.cells #[.string nm, .slice PA pl pc, .slice (some ⟨b0, off, none⟩) tl tc] 25)).alloc (.cells #[.slice A pl c] 26)).alloc (.cells #[.string xnm, .slice a1 l1.length c1, .slice a2 l2.length c2, .slice a3 l3.length c3, .int .i64 prio] 68))) :=
    (((Below.refl _ _).alloc (Nat.le_refl _) _).alloc (by simp) _).alloc (by simp; omega) _
  refine (callsIn_wide (n := 6)).1 (callsIn_of_wp_marks Try.func85 rfl trivial ?_ rfl)
  simp only [Try.ntmps85, List.size_toArray, List.length_cons, List.length_nil, Nat.reduceAdd, Nat.reduceSub, Array.replicate_succ, Array.replicate_zero, List.push_toArray, List.append_toArray, List.nil_append, List.cons_append]
  refine wpIn_wide.2 ?_
  clear HG
  cases bl
  rotate_left
  · have E := Lib.hid (QL.out rfl)
    go_wp2_with fail
    refine (CL.out _ (w.heap.size + 1) B0.out (by simp [go_sem])).mono ?_
    rintro e w1 ⟨rfl, K⟩
    have K2 := Lib.hid (B0.out.trans (K.mono (by simp; omega)))
    clear K
    go_wp2
    exact ⟨_, results_tmp rfl _ _ _, by rw [E.out]; rfl, K2.out⟩
  have QYa : Hid (bi = false → (∀ p, p < pl → capF ps { nm := xnm, pre := ⟨a1, c1, l1⟩, post := ⟨a2, c2, l2⟩, inh := ⟨a3, c3, l3⟩, prio := prio } m p = false) → S = true) := fun h1 h2 => QY.out rfl h1 h2
  clear QY QL
  go_wp2_with fail
  refine (CL.out _ (w.heap.size + 1) B0.out (by simp [go_sem])).mono ?_
  rintro e w1 ⟨rfl, K⟩
  have n1 : w1.cell? ⟨w.heap.size, 1, none⟩ = some (.slice PA pl pc) := by rw [K.cell (by simp; omega)]; simp [go_sem]
  have m0 : w1.cell? ⟨w.heap.size + 1, 0, none⟩ = some (.slice A pl c) := by rw [K.cell (by simp)]; simp [go_sem]
  have x0 : ∀ j v, #[Value.string xnm, .slice a1 l1.length c1, .slice a2 l2.length c2, .slice a3 l3.length c3, .int .i64 prio][j]? = some v → w1.cell? ⟨w.heap.size + 2, j, none⟩ = some v := fun j v hj => by
    rw [K.cell (by simp)]
    simp [go_sem]
    simpa using hj
  have x3 := x0 3 _ rfl
  have K2 := Lib.hid (B0.out.trans (K.mono (by simp; omega)))
  have hs1 : w.heap.size + 3 ≤ w1.heap.size := by have := K.size; simp at this; omega
  clear K
  cases bi
  rotate_left
  · have E := Lib.hid (QI.out rfl)
    go_wp2_with fail
    refine (CI.out _ (w.heap.size + 1) K2.out m0).mono ?_
    rintro e w2 ⟨rfl, K⟩
    have K3 := Lib.hid (K2.out.trans (K.mono (by omega)))
    clear K
    go_wp2
    exact ⟨_, results_tmp rfl _ _ _, by rw [E.out]; rfl, K3.out⟩
  have QY2 : Hid ((∀ p, p < pl → capF ps { nm := xnm, pre := ⟨a1, c1, l1⟩, post := ⟨a2, c2, l2⟩, inh := ⟨a3, c3, l3⟩, prio := prio } m p = false) → S = true) := fun h => QYa.out rfl h
  clear QYa QI
  go_wp2_with fail
  refine (CI.out _ (w.heap.size + 1) K2.out m0).mono ?_
  rintro e w2 ⟨rfl, K⟩
  have K3 := Lib.hid (K2.out.trans (K.mono (by omega)))
  have n1 : w2.cell? ⟨w.heap.size, 1, none⟩ = some (.slice PA pl pc) := by rw [K.cell (by show w.heap.size < w1.heap.size; omega)]; exact n1
  have m0 : w2.cell? ⟨w.heap.size + 1, 0, none⟩ = some (.slice A pl c) := by rw [K.cell (by show w.heap.size + 1 < w1.heap.size; omega)]; exact m0
  have x0 : ∀ j v, #[Value.string xnm, .slice a1 l1.length c1, .slice a2 l2.length c2, .slice a3 l3.length c3, .int .i64 prio][j]? = some v → w2.cell? ⟨w.heap.size + 2, j, none⟩ = some v := fun j v hj => by rw [K.cell (by show w.heap.size + 2 < w1.heap.size; omega)]; exact x0 j v hj
  have hs2 : w.heap.size + 3 ≤ w2.heap.size := Nat.le_trans hs1 K.size
  clear K hs1 x3 CL CI
  replace x0 := Lib.hid x0
  go_wp2_with fail
  generalize hw3 : w2.alloc (.cells #[.int .i64 0, .int .i64 0, .int .i64 0, .int .i64 0, .int .i64 0, .int .i64 0, .int .i64 0, .int .i64 0, .int .i64 0, .int .i64 0, .int .i64 0, .int .i64 0, .int .i64 0, .int .i64 0, .int .i64 0, .int .i64 0, .int .i64 0, .int .i64 0, .int .i64 0, .int .i64 0, .int .i64 0, .int .i64 0, .int .i64 0, .int .i64 0] 121) = w3
  have HAr : Hid (w3.heap[w2.heap.size]? = some (.cells (List.replicate 24 (Value.int .i64 0)).toArray 121 (0, 0))) := by rw [← hw3]; exact World.alloc_heap_new w2 _
  have S3 : w3.heap.size = w2.heap.size + 1 := by rw [← hw3]; exact World.size_alloc _ _
  have BW : Below w2.heap.size w2 w3 := by rw [← hw3]; exact (Below.refl _ _).alloc (Nat.le_refl _) _
  have K4 := Lib.hid (K3.out.trans (BW.mono (by omega)))
  have n1 : w3.cell? ⟨w.heap.size, 1, none⟩ = some (.slice PA pl pc) := by rw [BW.cell (by show w.heap.size < w2.heap.size; omega)]; exact n1
  have m0 : w3.cell? ⟨w.heap.size + 1, 0, none⟩ = some (.slice A pl c) := by rw [BW.cell (by show w.heap.size + 1 < w2.heap.size; omega)]; exact m0
  have x0 : Hid (∀ j v, #[Value.string xnm, .slice a1 l1.length c1, .slice a2 l2.length c2, .slice a3 l3.length c3, .int .i64 prio][j]? = some v → w3.cell? ⟨w.heap.size + 2, j, none⟩ = some v) := fun j v hj => by rw [BW.cell (by show w.heap.size + 2 < w2.heap.size; omega)]; exact x0.out j v hj
  clear hw3 BW K3 K2 B0
  obtain ⟨ha, hha⟩ : ∃ ha, ha = w2.heap.size := ⟨_, rfl⟩
  rw [← hha] at HAr S3 hs2 ⊢
  clear hha
  have HAr3 := Lib.hid S3
  clear S3
  have hla : ha < w3.heap.size := by rw [HAr3.out]; omega
  go_still_tail 2, (by kernel_rfl)
  change wpList _ _ _ _ _ w3.drew
  have HA4 : Hid (w3.drew.heap[ha]? = some (.cells (List.replicate 24 (Value.int .i64 0)).toArray 121 (0, 0))) := HAr.out
  have S4 : Hid (w3.drew.heap.size = ha + 1) := HAr3.out
  have K5 : Hid (Below w.heap.size w w3.drew) := K4.out.drew
  have n1 : w3.drew.cell? ⟨w.heap.size, 1, none⟩ = some (.slice PA pl pc) := n1
  have x0 : Hid (∀ j v, #[Value.string xnm, .slice a1 l1.length c1, .slice a2 l2.length c2, .slice a3 l3.length c3, .int .i64 prio][j]? = some v → w3.drew.cell? ⟨w.heap.size + 2, j, none⟩ = some v) := fun j v hj => x0.out j v hj
  have HM4 := Lib.hid (HM.out.below K5.out (Nat.le_refl _))
  clear K4 HAr HAr3 m0 hla
  generalize w3.drew = w4 at *
  obtain ⟨ba, oa, eA, _⟩ := at_of_reads HM4.out 0 (by rw [HML.out]; exact hp1)
  subst eA
  refine wpList_copy_splice rfl (.tmp 26) (.tmp 27) 26 26 rfl 3 Try.underlying26 (by kernel_rfl) (some ⟨ha, 0, none⟩) (some ⟨ba, oa, none⟩) 24 24 pl c rfl rfl ha 0 _ 121 HA4.out (vI m) (by rw [vI_len, HML.out]; show pl = min pl 24; omega) (fun _ => ⟨rfl, _, rfl, fun j v hj => vI_cells HM4.out j v hj⟩) (by rw [vI_len, HML.out]; simp; omega) (vI_one m) (w.heap.size + 3) w4 (Below.refl _ _) hs2 ?_
  intro w5 hw5 KB
  have KB5 := Lib.hid KB
  have AR : Hid (w5.rowIs ha 121 24 (fun p => .int .i64 (at0 m p))) := rowIs_splice hw5.out (by rw [HML.out]; exact hp24)
  have K6 := Lib.hid (K5.out.trans (KB.mono (by omega)))
  have n1 : w5.cell? ⟨w.heap.size, 1, none⟩ = some (.slice PA pl pc) := by rw [KB.cell (by show w.heap.size < w.heap.size + 3; omega)]; exact n1
  have x0 : ∀ j v, #[Value.string xnm, .slice a1 l1.length c1, .slice a2 l2.length c2, .slice a3 l3.length c3, .int .i64 prio][j]? = some v → w5.cell? ⟨w.heap.size + 2, j, none⟩ = some v := fun j v hj => by rw [KB.cell (by show w.heap.size + 2 < w.heap.size + 3; omega)]; exact x0.out j v hj
  have hs5 : ha < w5.heap.size := by have := KB.size; rw [S4.out] at this; omega
  have t0 := x0 0 _ rfl
  have t1 := x0 1 _ rfl
  have t2 := x0 2 _ rfl
  have t3 := x0 3 _ rfl
  have t4 := x0 4 _ rfl
  clear KB K5 x0 S4 HA4 HM4 KB5
  have CC : Hid (∀ W, Calls Try.prog 78 #[.agg #[.string xnm, .slice a1 l1.length c1, .slice a2 l2.length c2, .slice a3 l3.length c3, .int .i64 prio]] W fun e w' => e = .returned (.func (.func 87) #[] #[.pointer (some ⟨W.heap.size, 0, none⟩)]) ∧ w' = W.alloc (.cells #[.string xnm, .slice a1 l1.length c1, .slice a2 l2.length c2, .slice a3 l3.length c3, .int .i64 prio] 68)) := fun W =>
    callsIn_wide.1 (changes_in 6 ⟨xnm, ⟨a1, c1, l1⟩, ⟨a2, c2, l2⟩, ⟨a3, c3, l3⟩, prio⟩ W)
  go_wp2_with fail
  refine (CC.out _).mono ?_
  rintro e w6 ⟨rfl, rfl⟩
  clear CC
  go_wp2_with fail
  generalize hw6 : w5.alloc (.cells #[.string xnm, .slice a1 l1.length c1, .slice a2 l2.length c2, .slice a3 l3.length c3, .int .i64 prio] 68) = w6
  obtain ⟨Bt, hBt⟩ : ∃ Bt, Bt = w5.heap.size := ⟨_, rfl⟩
  rw [← hBt]
  have HB6 : Hid (w6.heap[Bt]? = some (.cells (transCells ⟨xnm, ⟨a1, c1, l1⟩, ⟨a2, c2, l2⟩, ⟨a3, c3, l3⟩, prio⟩) 68 (0, 0))) := by
    rw [hBt, ← hw6]
    exact World.alloc_heap_new w5 _
  have BW : Below w5.heap.size w5 w6 := by rw [← hw6]; exact (Below.refl _ _).alloc (Nat.le_refl _) _
  have n1 : w6.cell? ⟨w.heap.size, 1, none⟩ = some (.slice PA pl pc) := by rw [BW.cell (by show w.heap.size < w5.heap.size; omega)]; exact n1
  have AR6 : w6.rowIs ha 121 24 (fun p => .int .i64 (at0 m p)) := by rw [← hw6]; exact AR.out.alloc _
  have K7 : Below w.heap.size w w6 := K6.out.trans (BW.mono K6.out.size)
  have hlt6 : Bt < w6.heap.size := (Array.getElem?_eq_some_iff.1 HB6.out).1
  have hab : ha < Bt := by omega
  clear hw6 BW t0 t1 t2 t3 t4 hBt K6 AR
  have SEQ : SeqStopsK Fence.wide (6 - 1) Try.prog 87 #[.pointer (some ⟨Bt, 0, none⟩)] (fun y : Chg pl => #[Value.int .i64 y.1.1, Value.int .i64 y.1.2]) (KpB w.heap.size Bt) (fun ys => ys = preC pl l1 GA.out ++ postC pl l2 GB.out) (fun _ => True) (l1.length + l2.length) w6 := fun l J Jx W hW hJ hJx hY h0 =>
    chg_in 5 (by decide) l Bt w.heap.size pl ⟨xnm, ⟨a1, c1, l1⟩, ⟨a2, c2, l2⟩, ⟨a3, c3, l3⟩, prio⟩ GA.out GB.out _ (Nat.le_refl _) hz1 hz2 J Jx (fun pre W o h => hJ _ _ _ none h (World.grownBy_alloc W o none) (fun r e => by cases e)) hY w W (K7.trans (hW.mono K7.size)) (Nat.le_refl _) HR1.out HR2.out ((hW.block Bt hlt6).trans HB6.out) (Nat.le_trans K7.size hW.size) h0
  refine (wpIn_wide (n := 6)).1 ?_
  refine wpIn_rangeFunc_ownG rfl (by decide) (gf := 87) (lb := #[.pointer (some ⟨Bt, 0, none⟩)]) rfl trivial (enters_of Try.func87 (by kernel_rfl) rfl)
    SEQ kpB_t (fun W l o o' hl h h1 h2 => ⟨belowK_b (w := w6) K7.size W l o o' hl h h1 h2, fun _ => World.putObj_heap_other (by omega)⟩) (Below.refl _ _) (fun _ => rfl)
    (fun (pre : List (Chg pl)) W => (W.rowIs ha 121 24 ((fun (pre : List (Chg pl)) p => Value.int .i64 (chgAt m (pre.map (·.1)) p)) pre) ∧ W.cell? ⟨w.heap.size, 1, none⟩ = some (.slice PA pl pc)) ∧ Below w.heap.size w W)
    (fun _ _ _ => False)
    (OwnFrom.and (OwnFrom.and (rowIs_own _ _) (fun s W W' row hs hg hr => cell_kept hs hg (fun r e => (hr r e).2))) (ownFrom_below (Nat.le_refl _) K7.size))
    (fun _ _ _ _ _ hs _ _ => hs)
    ⟨⟨AR6.congr (fun p _ => by show Value.int .i64 (at0 m p) = Value.int .i64 (chgAt m [] p); rw [chgAt_nil]), n1⟩, K7⟩
    ?a1 ?assign ?body ?done ?stop
  case assign =>
    intro l y W K hK
    gi_wp2
    exact hK
  case body =>
    rintro l pre ⟨⟨p, u⟩, hp0, hp1, hu0, hu1⟩ W ⟨⟨hrow, hn1⟩, hB⟩ hlt
    dsimp only at hp0 hp1 hu0 hu1
    obtain ⟨q, rfl⟩ : ∃ q : Nat, p = q := ⟨p.toNat, by omega⟩
    have hq : q < 24 := by omega
    have hcell := hrow.cell hq
    have hfr := hrow.frozen q
    have hbd := chgAt_bd m (pre.map (·.1)) q QB.out (fun a ha => by
      obtain ⟨y, hy, rfl⟩ := List.mem_map.1 ha
      exact ⟨y.2.2.2.1, y.2.2.2.2⟩)
    rw [List.length_map] at hbd
    have hlen : pre.length ≤ 2000 := by omega
    have HR : Hid (∀ v, v = Value.int .i64 (chgAt m (pre.map (·.1)) q + u) → (W.setCell ⟨ha, q, none⟩ v).rowIs ha 121 24 (fun p => .int .i64 (chgAt m ((pre ++ [(⟨((q : Int), u), hp0, hp1, hu0, hu1⟩ : Chg pl)]).map (·.1)) p))) := fun v hv => (hrow.set q v).congr (fun j hj => by
      rw [List.map_append, List.map_cons, List.map_nil, chgAt_snoc]
      by_cases e : j = q
      · subst e
        rw [if_pos rfl, if_pos rfl, hv]
      · rw [if_neg e, if_neg (by dsimp only; omega)]
        simp)
    have HB := Lib.hid hB
    have HN := Lib.hid hn1
    clear hrow hB hn1
    dsimp only at hcell
    generalize chgAt m (pre.map (·.1)) q = z at *
    have hz : -300000 ≤ z ∧ z ≤ 1300000 := by omega
    clear hbd
    gi_wp2
    refine ⟨(KeepsOthers.setCell _ _ _).from _, ⟨(Below.refl _ _).setCell (p := ⟨ha, q, none⟩) (by show w.heap.size ≤ ha; omega) _, fun _ => Below.heap_setCell _ _ _ Bt (by show Bt ≠ ha; omega)⟩, ⟨HR.out _ rfl, ?_⟩, HB.out.setCell (p := ⟨ha, q, none⟩) (by show w.heap.size ≤ ha; omega) _⟩
    exact (World.cell?_of_block (Below.heap_setCell _ _ _ _ (by show w.heap.size ≠ ha; omega))).trans HN.out
  case stop =>
    rintro D c pre W _ _ h _
    exact h.elim
  case done =>
    rintro D ys W hD rfl ⟨⟨hrow, hn1⟩, hB⟩ hK
    have RW : Hid (W.rowIs ha 121 24 (fun p => .int .i64 (aftV ⟨xnm, ⟨a1, c1, l1⟩, ⟨a2, c2, l2⟩, ⟨a3, c3, l3⟩, prio⟩ m p))) := hrow.congr (fun p _ => by
      have e : (preC pl l1 GA.out ++ postC pl l2 GB.out).map (·.1) = chgL ⟨xnm, ⟨a1, c1, l1⟩, ⟨a2, c2, l2⟩, ⟨a3, c3, l3⟩, prio⟩ := by
        rw [List.map_append, preC_val, postC_val]
        rfl
      show Value.int .i64 (chgAt m ((preC pl l1 GA.out ++ postC pl l2 GB.out).map (·.1)) p) = _
      rw [e, QS.out])
    have HB := Lib.hid hB
    have HK := Lib.hid hK
    have HSW := Lib.hid K7.size
    clear hrow hB SEQ AR6 K7 HB6 hK n1 GA GB QS HR1 HR2 HM
    have hn0 := hn1
    go_wp2_with fail
    have hDw : w.heap.size ≤ D := Nat.le_trans HSW.out hD
    have hW0 := HB.out.size
    have RPW : Hid (∀ W2, Below w.heap.size w W2 → ReadsP W2 PA ps) := fun W2 h => RP.out.below h (Nat.le_refl _)
    have CP : Hid (∀ p, capF ps ⟨xnm, ⟨a1, c1, l1⟩, ⟨a2, c2, l2⟩, ⟨a3, c3, l3⟩, prio⟩ m p = decide (0 < (pA ps p).cap ∧ (pA ps p).cap < aftV ⟨xnm, ⟨a1, c1, l1⟩, ⟨a2, c2, l2⟩, ⟨a3, c3, l3⟩, prio⟩ m p)) := fun p => rfl
    have QC2 : Hid (∀ p, p < pl → capF ps ⟨xnm, ⟨a1, c1, l1⟩, ⟨a2, c2, l2⟩, ⟨a3, c3, l3⟩, prio⟩ m p = true → S = false) := QC.out
    go_loopw [42] (fun q wr => ∃ k : Nat, k ≤ pl ∧ q = .int .i64 k ∧ Hid (Below w.heap.size w wr) ∧ Hid (wr.rowIs ha 121 24 (fun p => .int .i64 (aftV ⟨xnm, ⟨a1, c1, l1⟩, ⟨a2, c2, l2⟩, ⟨a3, c3, l3⟩, prio⟩ m p))) ∧ Hid (wr.heap[D]? = some (.deferred (some []))) ∧ Hid (∀ j, j < k → capF ps ⟨xnm, ⟨a1, c1, l1⟩, ⟨a2, c2, l2⟩, ⟨a3, c3, l3⟩, prio⟩ m j = false)) (fun q _ => pl - (intOf q).toNat)
    case atStart => exact ⟨0, by omega, rfl, HB, RW, HK, fun j hj => absurd hj (by omega)⟩
    case round =>
      clear HB RW HK hn0 hW0
      obtain ⟨k, hk, rfl, HB, RW, HK, HM⟩ := hrel
      have hsz := HB.out.size
      by_cases hlt : k < pl
      · obtain ⟨bp, op, e, hbp, d0, d1, d2⟩ := (RPW.out wr HB.out) k (by rw [HPL.out]; exact hlt)
        subst e
        have hq : k < 24 := by omega
        have hcell := RW.out.cell hq
        (try dsimp only at hcell)
        have hla := RW.out.lt
        have CPk := Lib.hid (CP.out k)
        have QCk := Lib.hid (QC2.out k hlt)
        have HN2 : Hid (capF ps ⟨xnm, ⟨a1, c1, l1⟩, ⟨a2, c2, l2⟩, ⟨a3, c3, l3⟩, prio⟩ m k = false → ∀ j, j < k + 1 → capF ps ⟨xnm, ⟨a1, c1, l1⟩, ⟨a2, c2, l2⟩, ⟨a3, c3, l3⟩, prio⟩ m j = false) := upto_snoc HM.out
        have hcap := QK.out k hlt
        have RW2 : Hid ((wr.alloc (.cells #[.string (pA ps k).nm, .int .i64 (pA ps k).ini, .int .i64 (pA ps k).cap] 65)).rowIs ha 121 24 (fun p => .int .i64 (aftV ⟨xnm, ⟨a1, c1, l1⟩, ⟨a2, c2, l2⟩, ⟨a3, c3, l3⟩, prio⟩ m p))) := RW.out.alloc _
        have HB2 : Hid (Below w.heap.size w (wr.alloc (.cells #[.string (pA ps k).nm, .int .i64 (pA ps k).ini, .int .i64 (pA ps k).cap] 65))) := HB.out.alloc hsz _
        have hDl : D < wr.heap.size := (Array.getElem?_eq_some_iff.1 HK.out).1
        have HK2 : Hid ((wr.alloc (.cells #[.string (pA ps k).nm, .int .i64 (pA ps k).ini, .int .i64 (pA ps k).cap] 65)).heap[D]? = some (.deferred (some []))) := (Below.heap_alloc _ _ _ hDl).trans HK.out
        clear HM RW HB HK hDl
        generalize (pA ps k).nm = pn at *
        generalize (pA ps k).ini = ini at *
        generalize (pA ps k).cap = cap at *
        generalize aftV ⟨xnm, ⟨a1, c1, l1⟩, ⟨a2, c2, l2⟩, ⟨a3, c3, l3⟩, prio⟩ m k = z at *
        by_cases h0 : cap = 0
        · subst h0
          have G := Lib.hid (HN2.out (CPk.out.trans (by simp)))
          have z0 : ((0 : Int) != 0) = false := by simp
          clear CPk QCk HN2 hcap
          go_wp2_with fail
          go_quiet (fail)
          go_wp2
          go_roundw
          case rel => exact ⟨k + 1, by omega, by go_num, below_drewN HB2.out _, RW2.out, HK2, G⟩
          case measure => simp [intOf]; omega
        · have z0 : (cap != 0) = true := by simpa using h0
          by_cases h1 : cap < z
          · have E := Lib.hid (QCk.out (CPk.out.trans (by simp; omega)))
            have z1 : decide (cap < z) = true := by simpa using h1
            clear CPk QCk HN2 hcap
            go_wp2_with fail
            go_quiet (fail)
            go_wp2
            refine ⟨by simp, .inl ⟨_, _, rfl, run_takeDeferred HK2.out, ?_⟩⟩
            refine ⟨_, results_tmp rfl _ _ _, by rw [E.out]; rfl, ?_⟩
            exact (below_drewN HB2.out _).trans (belowK_b (w := w) (Nat.le_refl _) _ D _ _ hDw HK2.out rfl rfl)
          · have G := Lib.hid (HN2.out (CPk.out.trans (by simp; omega)))
            have z1 : decide (cap < z) = false := by simpa using h1
            clear CPk QCk HN2 hcap
            go_wp2_with fail
            go_quiet (fail)
            go_wp2
            go_roundw
            case rel => exact ⟨k + 1, by omega, by go_num, below_drewN HB2.out _, RW2.out, HK2, G⟩
            case measure => simp [intOf]; omega
      · obtain rfl : k = pl := by omega
        have E := Lib.hid (QY2.out HM.out)
        go_wp2
        refine ⟨by simp, .inl ⟨_, _, rfl, run_takeDeferred HK.out, ?_⟩⟩
        refine ⟨_, results_tmp rfl _ _ _, by rw [E.out]; rfl, ?_⟩
        exact HB.out.trans (belowK_b (w := w) (Nat.le_refl _) _ D _ _ hDw HK.out rfl rfl)
end Go.Proofs.Ytpfkkjgklhcejaa
