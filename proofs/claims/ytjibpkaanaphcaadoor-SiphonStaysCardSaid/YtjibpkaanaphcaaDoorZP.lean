/- Siphons: the minimal ones, by the program. Siphons: Siphons and Traps, by the program; the ring of the example. -/
import Derived.Test.YtjibpkaanaphcaaDoorZN
import Derived.Test.YtjibpkaanaphcaaDoorBtH
namespace Go.Proofs.YtjibpkaanaphcaaDoor
open Go.RowKit Go.Shelf

attribute [local go_sem] Oper.semAt_some

theorem keeps_below {W W' : World} (K : Below W.heap.size W W') : KeepsOthers W W' := ⟨K.size, fun k o hk _ => (K.block k (Array.getElem?_eq_some_iff.1 hk).1).trans hk⟩
def clU (n : NetV) (b : Bool) (L : List Bt.U64) : List Bt.U64 := L.filter fun x => closedB n b x.1
theorem clU_snoc (n : NetV) (b : Bool) (L : List Bt.U64) (x : Bt.U64) : clU n b (L ++ [x]) = if closedB n b x.1 = true then clU n b L ++ [x] else clU n b L := by
  unfold clU
  rw [List.filter_append]
  by_cases h : closedB n b x.1 = true
  · rw [if_pos h]; simp [h]
  · rw [if_neg h]; simp [h]
theorem clU_len (n : NetV) (b : Bool) (L : List Bt.U64) : (clU n b L).length ≤ L.length := List.length_filter_le _ _
theorem upU_len (m : Nat) : (upU m).length = m := by unfold upU; rw [List.length_map, upL_len]
theorem vV_snoc (L : List Bt.U64) (x : Bt.U64) : Bt.vV (L ++ [x]) = Bt.vV L ++ [Bt.eU x] := by simp [Bt.vV]

set_option maxHeartbeats 4000000 in
set_option maxRecDepth 100000 in
theorem minS_any (n : NetV) (w : World) (hr : NetR w n) (hok : okN n = true) (hp : n.ps.length ≤ 12) :
    Calls Tryd.prog 34 #[.agg #[.string n.nm, .slice n.PA n.ps.length n.pc, .slice n.TA n.ts.length n.tc], .func (.func 24) #[] #[]] w (fun e w' => ∃ A c, e = .returned (.tuple #[.slice A (Bt.minU (clU n true (upU (2 ^ n.ps.length - 1)))).length c, .int .i64 0]) ∧ Bt.Reads w' A (Bt.vV (Bt.minU (clU n true (upU (2 ^ n.ps.length - 1))))) ∧ Below w.heap.size w w') := by
  have HCK : ∀ W, Below w.heap.size w W → Calls Tryd.prog 22 #[.agg #[.string n.nm, .slice n.PA n.ps.length n.pc, .slice n.TA n.ts.length n.tc]] W (FPost W.heap.size W (chkV n)) := fun W hW => check_any n W (hr.below hW (Nat.le_refl _))
  have h0 : (chkV n).1 = 0 := of_decide_eq_true hok
  have CK : Hid (∃ e1 : Int, ∀ W, Below w.heap.size w W → Calls Tryd.prog 22 #[.agg #[.string n.nm, .slice n.PA n.ps.length n.pc, .slice n.TA n.ts.length n.tc]] W (FPost W.heap.size W (0, e1))) := ⟨(chkV n).2, fun W hW => by have := HCK W hW; rw [← h0]; exact this⟩
  clear HCK h0
  obtain ⟨e1, CK⟩ := CK.out
  have CK := Lib.hid CK
  have CL : Hid (∀ W, Below w.heap.size w W → Calls Tryd.prog 24 #[.agg #[.string n.nm, .slice n.PA n.ps.length n.pc, .slice n.TA n.ts.length n.tc]] W (LinkPost W.heap.size W n.ts.length (outS n) (inS n))) := fun W hW => slinks_any n W (hr.below hW (Nat.le_refl _)) hok
  have CC : Hid (∀ A c (s : Nat) W, s < 18446744073709551616 → LinkR W A n.ts.length (outS n) (inS n) → Calls Tryd.prog 50 #[.slice A n.ts.length c, .int .u64 (s : Nat)] W (VPost W.heap.size W (.bool (closedB n true s)))) := fun A c s W hs h => by
    have := closedL_any A n.ts.length c (outS n) (inS n) s W h hr.okt.1 (fun t => by unfold outS; exact Bt.ofV_lt _) (fun t => by unfold inS; exact Bt.ofV_lt _) hs
    exact this
  have HLEN : (upU (2 ^ n.ps.length - 1)).length ≤ 4095 := by
    rw [upU_len]
    have := Nat.pow_le_pow_right (n := 2) (by omega) hp
    omega
  have MIN : Hid (∀ A (l : List Bt.U64) c W, Bt.Reads W A (Bt.vV l) → l.length ≤ 5000 → Calls Tryd.prog 51 #[.slice A l.length c] W (Bt.ListPost W.heap.size W (Bt.vV (Bt.minU l)))) := fun A l c W h hl => Bt.minimal_any A l c W h (by omega)
  obtain ⟨i0, hi, hz0, hz1, hz2⟩ := Bt.info_parts Bt.infoU
  have hpp : (n.ps.length : Int) ≤ 12 := by omega
  clear hr hok
  generalize outS n = aa at *
  generalize inS n = bb at *
  generalize hcf : clU n true = cf at *
  have CFS : Hid (∀ L x, cf (L ++ [x]) = if closedB n true x.1 = true then cf L ++ [x] else cf L) := fun L x => by rw [← hcf]; exact clU_snoc _ _ _ _
  have CFN : Hid (cf [] = []) := by show _ = _; rw [← hcf]; rfl
  have CFL : Hid (∀ L, (cf L).length ≤ L.length) := fun L => by rw [← hcf]; exact clU_len _ _ _
  clear hcf
  generalize closedB n true = cb at *
  have B0 : Hid (Below w.heap.size w (w.alloc (.cells #[.string n.nm, .slice n.PA n.ps.length n.pc, .slice n.TA n.ts.length n.tc] 29))) := ((Below.refl _ _).alloc (Nat.le_refl _) _)
  have q0 : (w.alloc (.cells #[.string n.nm, .slice n.PA n.ps.length n.pc, .slice n.TA n.ts.length n.tc] 29)).cell? ⟨w.heap.size, 0, none⟩ = some (.string n.nm) := by simp
  have q1 : (w.alloc (.cells #[.string n.nm, .slice n.PA n.ps.length n.pc, .slice n.TA n.ts.length n.tc] 29)).cell? ⟨w.heap.size, 1, none⟩ = some (.slice n.PA n.ps.length n.pc) := by simp
  have q2 : (w.alloc (.cells #[.string n.nm, .slice n.PA n.ps.length n.pc, .slice n.TA n.ts.length n.tc] 29)).cell? ⟨w.heap.size, 2, none⟩ = some (.slice n.TA n.ts.length n.tc) := by simp
  refine (callsIn_wide (n := 6)).1 (callsIn_of_wp_marks Tryd.func34 rfl trivial ?_ rfl)
  simp only [Tryd.ntmps34, List.size_toArray, List.length_cons, List.length_nil, Nat.reduceAdd, Nat.reduceSub, Array.replicate_succ, Array.replicate_zero, List.push_toArray, List.append_toArray, List.nil_append, List.cons_append]
  refine wpIn_wide.2 ?_
  go_wp2_with fail
  refine (CK.out _ B0.out).mono ?_
  rintro e x1 ⟨rfl, K⟩
  have q0 := keepc q0 K
  have q1 := keepc q1 K
  have q2 := keepc q2 K
  have Dx1 := Lib.hid (B0.out.trans (K.mono B0.out.size))
  clear K
  have Dx1a := Lib.hid (Dx1.out.alloc Dx1.out.size (.cells #[.int .i64 0, .int .i64 e1] 54))
  have hz1' : w.heap.size < x1.heap.size := World.block_lt_of_cell? x1 _ q0
  have q0 := cellA q0 (.cells #[.int .i64 0, .int .i64 e1] 54)
  have q1 := cellA q1 (.cells #[.int .i64 0, .int .i64 e1] 54)
  have q2 := cellA q2 (.cells #[.int .i64 0, .int .i64 e1] 54)
  go_wp2_with fail
  refine (CL.out _ Dx1a.out).mono ?_
  rintro e x2 ⟨A2, c2, rfl, R2, K⟩
  have R2 := Lib.hid R2
  have q0 := keepc q0 K
  have q1 := keepc q1 K
  have q2 := keepc q2 K
  have Dx2 := Lib.hid (Dx1a.out.trans (K.mono Dx1a.out.size))
  clear K
  have hsz2 : w.heap.size < x2.heap.size := World.block_lt_of_cell? x2 _ q0
  have CE : Hid (∀ W, Calls Tryd.prog 49 #[.int .i64 (n.ps.length : Int)] W fun e w' => e = .returned (.func (.func 60) #[] #[.pointer (some ⟨W.heap.size, 0, none⟩)]) ∧ w' = W.alloc (.cells #[.int .i64 (n.ps.length : Int)] 3)) := fun W => callsIn_wide.1 (nonempty_in 6 n.ps.length W)
  go_wp2_with fail
  refine (CE.out _).mono ?_
  rintro e x6 ⟨rfl, rfl⟩
  go_wp2_with fail
  obtain ⟨wz, hwz⟩ : ∃ wz, wz = x2.alloc (.cells #[.slice A2 n.ts.length c2] 57) := ⟨_, rfl⟩
  have hg : wz.heap.size = x2.heap.size + 1 := by rw [hwz, World.size_alloc]
  have PZ : Hid (∀ W, Below wz.heap.size wz W → LinkR W A2 n.ts.length aa bb ∧ W.cell? ⟨x2.heap.size, 0, none⟩ = some (.slice A2 n.ts.length c2) ∧ Below w.heap.size w W ∧ W.cell? ⟨w.heap.size, 1, none⟩ = some (.slice n.PA n.ps.length n.pc)) := fun W hW => by
    have hz : Below x2.heap.size x2 wz := by rw [hwz]; exact (Below.refl _ _).alloc (Nat.le_refl _) _
    have hzc : wz.cell? ⟨x2.heap.size, 0, none⟩ = some (.slice A2 n.ts.length c2) := by rw [hwz]; simp
    exact ⟨(R2.out.below hz).below hW, keepc hzc hW, (Dx2.out.trans (hz.mono Dx2.out.size)).trans (hW.mono (by have := Dx2.out.size; omega)), keepc (keepc q1 hz) hW⟩
  rw [← hwz, ← hg]
  have bO := Boxed.new wz 49 (.slice none 0 0)
  have bN := Boxed.new (wz.alloc (.cells #[.slice none 0 0] 49)) 3 (.int .i64 (n.ps.length : Int))
  rw [World.size_alloc] at bN
  have hB0 : Below wz.heap.size wz ((wz.alloc (.cells #[.slice none 0 0] 49)).alloc (.cells #[.int .i64 (n.ps.length : Int)] 3)) := ((Below.refl _ wz).alloc (Nat.le_refl _) _).alloc (by simp) _
  clear hwz q0 q1 q2 B0 Dx1 Dx1a Dx2 CK CL R2
  have HG := Lib.hid hg
  clear hg
  refine (wpIn_wide (n := 6)).1 ?_
  refine wpIn_rangeFunc_ownG rfl (by decide) (gf := 60) (lb := #[.pointer (some ⟨wz.heap.size + 1, 0, none⟩)]) rfl trivial (enters_of Tryd.func60 (by kernel_rfl) rfl)
    (sets_stops (6 - 1) (by decide) (wz.heap.size + 1) wz.heap.size n.ps.length hp _ (by simp) bN.cell) belowK_t (belowK_b (by simp; omega)) (Below.refl _ _) (fun _ => rfl)
    (fun pre W => (∃ v, Boxed W wz.heap.size 49 v ∧ W.ownsRow wz.heap.size 22 1 v (cf pre).length (Bt.vV (cf pre)) ∧ True) ∧ Below wz.heap.size wz W)
    (fun _ _ _ => False)
    (OwnFrom.and (Own.from (holdsRow_own wz.heap.size wz.heap.size 49 22 1 (fun pre => (cf pre).length) (fun pre => Bt.vV (cf pre)) (fun pre v => True)) _) (ownFrom_below (Nat.le_refl _) (by simp; omega)))
    (fun _ _ _ _ _ hs _ _ => hs)
    ⟨⟨_, bO.alloc _, by rw [CFN.out]; exact World.ownsRow_nil _ _ _ _, trivial⟩, hB0⟩
    ?a1 ?assign ?body ?done ?stop
  case assign =>
    intro l x W K hK
    gi_wp2
    exact hK
  case body =>
    rintro l pre x W ⟨⟨v, hv, hrow, -⟩, hB⟩ hlt
    obtain ⟨lk, c7, _, _⟩ := PZ.out W hB
    have C := CC.out A2 c2 x.1 W x.2 lk
    have hcs := CFS.out pre x
    have hlen := CFL.out pre
    generalize cb x.1 = z at *
    have C := Lib.hid C
    have HCS := Lib.hid hcs
    have hlt' : pre.length < 5000 := by omega
    have b1 : (cf pre).length + 1 ≤ maxLen := by unfold maxLen; omega
    have b2 : ((cf pre).length + 1) * 8 ≤ 140737488355328 := by omega
    clear hcs PZ CFS CFN CFL MIN
    cases z
    · have E : Hid (cf (pre ++ [x]) = cf pre) := by show _ = _; rw [HCS.out]; rfl
      gi_wp2_with (refine ⟨trivial, ?_⟩; gi_at_call 50; refine (callsIn_wide.2 C.out).mono ?_; rintro e w4 ⟨rfl, K⟩)
      have hv4 : Boxed w4 wz.heap.size 49 v := (K.block _ hv.lt).trans hv
      have hrow4 := own_below hrow K (Nat.le_refl _)
      exact ⟨(keeps_below K).from _, K.mono hB.size, ⟨_, hv4, by rw [E.out]; exact hrow4, trivial⟩, hB.trans (K.mono hB.size)⟩
    · have E : Hid (cf (pre ++ [x]) = cf pre ++ [x]) := by show _ = _; rw [HCS.out]; rfl
      gi_wp2_with (first | (refine ⟨trivial, ?_⟩; gi_at_call 50; refine (callsIn_wide.2 C.out).mono ?_; rintro e w4 ⟨rfl, K⟩; have hv4 : Boxed w4 wz.heap.size 49 v := (K.block _ hv.lt).trans hv; have hrow4 := own_below hrow K (Nat.le_refl _); have hc4 := hv4.cell) | (gi_at_builtin; refine wpListIn_append_own _ rfl _ _ 49 rfl wz.heap.size 22 i0 (.int .u64 0) 1 8 Tryd.underlying49 hi hz0 hz1 hz2 rfl (by decide) _ _ _ rfl (hrow4.alloc _) ⟨w4.heap.size, 0, none⟩ 1 1 [.int .u64 ((x.1 : Nat) : Int)] rfl rfl (cell_one_new _ _ _) (by simp [Value.oneCell']) b1 b2 (by have := hB.size; have := K.size; simp; omega) ?_; intro v' w1 hown' hgrow _; obtain ⟨g', cap', rfl⟩ := ownsRow_succ hown'; obtain ⟨hv1, hv2, hr2, hk2, hb2⟩ := hv4.appended (by decide) hrow4 (Nat.le_trans hB.size K.size) (Nat.le_refl _) hown' hgrow; have hc1 := hv1.cell; have hf1 := hv1.frozen))
      exact ⟨((keeps_below K).trans hk2).from _, (K.mono hB.size).trans hb2, ⟨_, hv2, by rw [E.out, vV_snoc]; simpa [Bt.eU] using hr2, trivial⟩, hB.trans ((K.mono hB.size).trans hb2)⟩
  case stop =>
    rintro D c pre W _ _ h _
    exact h.elim
  case done =>
    rintro D ys W hD rfl ⟨⟨v, hv, hrow, -⟩, hB⟩ hK
    have hc := hv.cell
    obtain ⟨_, A5, c5, e5, R5⟩ := Bt.Reads.own hrow
    subst e5
    have hl5 := Nat.le_trans (CFL.out (upU (2 ^ n.ps.length - 1))) HLEN
    have M5 := MIN.out A5 (cf (upU (2 ^ n.ps.length - 1))) c5 W R5 (by omega)
    have M5 := Lib.hid M5
    obtain ⟨_, _, hWG, _⟩ := PZ.out W hB
    have HWG := Lib.hid hWG
    have HK := Lib.hid hK
    have hDw : w.heap.size ≤ D := by simp at hD; have := HG.out; omega
    clear PZ CFS CFN CFL MIN hB hK hrow R5 hWG CC
    go_wp2_with fail
    refine M5.out.mono ?_
    rintro e w7 ⟨A7, c7, rfl, R7, K⟩
    have HK7 := Lib.hid ((K.block D (Array.getElem?_eq_some_iff.1 HK.out).1).trans HK.out)
    have R7 := Lib.hid R7
    have K7 := Lib.hid (HWG.out.trans (K.mono HWG.out.size))
    clear K
    go_wp2
    refine ⟨by simp, .inl ⟨_, _, rfl, run_takeDeferred HK7.out, ?_⟩⟩
    refine ⟨_, results_tmp2 rfl _ _ _, ?_⟩
    refine ⟨A7, c7, by simp [Bt.vV], fun j u hj => ?_, K7.out.trans (belowK_b (w := w) (Nat.le_refl _) w7 D _ _ hDw HK7.out rfl rfl)⟩
    obtain ⟨b, o, e, h1, h2⟩ := R7.out j u hj
    exact ⟨b, o, e, by simp; exact h1, cell_kept h2 (grownBy_putObj' w7 D _) (fun r e => by cases e; exact ⟨_, HK7.out, rfl⟩)⟩

set_option maxHeartbeats 4000000 in
set_option maxRecDepth 100000 in
theorem minT_any (n : NetV) (w : World) (hr : NetR w n) (hok : okN n = true) (hp : n.ps.length ≤ 12) :
    Calls Tryd.prog 34 #[.agg #[.string n.nm, .slice n.PA n.ps.length n.pc, .slice n.TA n.ts.length n.tc], .func (.func 26) #[] #[]] w (fun e w' => ∃ A c, e = .returned (.tuple #[.slice A (Bt.minU (clU n false (upU (2 ^ n.ps.length - 1)))).length c, .int .i64 0]) ∧ Bt.Reads w' A (Bt.vV (Bt.minU (clU n false (upU (2 ^ n.ps.length - 1))))) ∧ Below w.heap.size w w') := by
  have HCK : ∀ W, Below w.heap.size w W → Calls Tryd.prog 22 #[.agg #[.string n.nm, .slice n.PA n.ps.length n.pc, .slice n.TA n.ts.length n.tc]] W (FPost W.heap.size W (chkV n)) := fun W hW => check_any n W (hr.below hW (Nat.le_refl _))
  have h0 : (chkV n).1 = 0 := of_decide_eq_true hok
  have CK : Hid (∃ e1 : Int, ∀ W, Below w.heap.size w W → Calls Tryd.prog 22 #[.agg #[.string n.nm, .slice n.PA n.ps.length n.pc, .slice n.TA n.ts.length n.tc]] W (FPost W.heap.size W (0, e1))) := ⟨(chkV n).2, fun W hW => by have := HCK W hW; rw [← h0]; exact this⟩
  clear HCK h0
  obtain ⟨e1, CK⟩ := CK.out
  have CK := Lib.hid CK
  have CL : Hid (∀ W, Below w.heap.size w W → Calls Tryd.prog 26 #[.agg #[.string n.nm, .slice n.PA n.ps.length n.pc, .slice n.TA n.ts.length n.tc]] W (LinkPost W.heap.size W n.ts.length (inS n) (outS n))) := fun W hW => tlinks_any n W (hr.below hW (Nat.le_refl _)) hok
  have CC : Hid (∀ A c (s : Nat) W, s < 18446744073709551616 → LinkR W A n.ts.length (inS n) (outS n) → Calls Tryd.prog 50 #[.slice A n.ts.length c, .int .u64 (s : Nat)] W (VPost W.heap.size W (.bool (closedB n false s)))) := fun A c s W hs h => by
    have := closedL_any A n.ts.length c (inS n) (outS n) s W h hr.okt.1 (fun t => by unfold inS; exact Bt.ofV_lt _) (fun t => by unfold outS; exact Bt.ofV_lt _) hs
    exact this
  have HLEN : (upU (2 ^ n.ps.length - 1)).length ≤ 4095 := by
    rw [upU_len]
    have := Nat.pow_le_pow_right (n := 2) (by omega) hp
    omega
  have MIN : Hid (∀ A (l : List Bt.U64) c W, Bt.Reads W A (Bt.vV l) → l.length ≤ 5000 → Calls Tryd.prog 51 #[.slice A l.length c] W (Bt.ListPost W.heap.size W (Bt.vV (Bt.minU l)))) := fun A l c W h hl => Bt.minimal_any A l c W h (by omega)
  obtain ⟨i0, hi, hz0, hz1, hz2⟩ := Bt.info_parts Bt.infoU
  have hpp : (n.ps.length : Int) ≤ 12 := by omega
  clear hr hok
  generalize inS n = aa at *
  generalize outS n = bb at *
  generalize hcf : clU n false = cf at *
  have CFS : Hid (∀ L x, cf (L ++ [x]) = if closedB n false x.1 = true then cf L ++ [x] else cf L) := fun L x => by rw [← hcf]; exact clU_snoc _ _ _ _
  have CFN : Hid (cf [] = []) := by show _ = _; rw [← hcf]; rfl
  have CFL : Hid (∀ L, (cf L).length ≤ L.length) := fun L => by rw [← hcf]; exact clU_len _ _ _
  clear hcf
  generalize closedB n false = cb at *
  have B0 : Hid (Below w.heap.size w (w.alloc (.cells #[.string n.nm, .slice n.PA n.ps.length n.pc, .slice n.TA n.ts.length n.tc] 29))) := ((Below.refl _ _).alloc (Nat.le_refl _) _)
  have q0 : (w.alloc (.cells #[.string n.nm, .slice n.PA n.ps.length n.pc, .slice n.TA n.ts.length n.tc] 29)).cell? ⟨w.heap.size, 0, none⟩ = some (.string n.nm) := by simp
  have q1 : (w.alloc (.cells #[.string n.nm, .slice n.PA n.ps.length n.pc, .slice n.TA n.ts.length n.tc] 29)).cell? ⟨w.heap.size, 1, none⟩ = some (.slice n.PA n.ps.length n.pc) := by simp
  have q2 : (w.alloc (.cells #[.string n.nm, .slice n.PA n.ps.length n.pc, .slice n.TA n.ts.length n.tc] 29)).cell? ⟨w.heap.size, 2, none⟩ = some (.slice n.TA n.ts.length n.tc) := by simp
  refine (callsIn_wide (n := 6)).1 (callsIn_of_wp_marks Tryd.func34 rfl trivial ?_ rfl)
  simp only [Tryd.ntmps34, List.size_toArray, List.length_cons, List.length_nil, Nat.reduceAdd, Nat.reduceSub, Array.replicate_succ, Array.replicate_zero, List.push_toArray, List.append_toArray, List.nil_append, List.cons_append]
  refine wpIn_wide.2 ?_
  go_wp2_with fail
  refine (CK.out _ B0.out).mono ?_
  rintro e x1 ⟨rfl, K⟩
  have q0 := keepc q0 K
  have q1 := keepc q1 K
  have q2 := keepc q2 K
  have Dx1 := Lib.hid (B0.out.trans (K.mono B0.out.size))
  clear K
  have Dx1a := Lib.hid (Dx1.out.alloc Dx1.out.size (.cells #[.int .i64 0, .int .i64 e1] 54))
  have hz1' : w.heap.size < x1.heap.size := World.block_lt_of_cell? x1 _ q0
  have q0 := cellA q0 (.cells #[.int .i64 0, .int .i64 e1] 54)
  have q1 := cellA q1 (.cells #[.int .i64 0, .int .i64 e1] 54)
  have q2 := cellA q2 (.cells #[.int .i64 0, .int .i64 e1] 54)
  go_wp2_with fail
  refine (CL.out _ Dx1a.out).mono ?_
  rintro e x2 ⟨A2, c2, rfl, R2, K⟩
  have R2 := Lib.hid R2
  have q0 := keepc q0 K
  have q1 := keepc q1 K
  have q2 := keepc q2 K
  have Dx2 := Lib.hid (Dx1a.out.trans (K.mono Dx1a.out.size))
  clear K
  have hsz2 : w.heap.size < x2.heap.size := World.block_lt_of_cell? x2 _ q0
  have CE : Hid (∀ W, Calls Tryd.prog 49 #[.int .i64 (n.ps.length : Int)] W fun e w' => e = .returned (.func (.func 60) #[] #[.pointer (some ⟨W.heap.size, 0, none⟩)]) ∧ w' = W.alloc (.cells #[.int .i64 (n.ps.length : Int)] 3)) := fun W => callsIn_wide.1 (nonempty_in 6 n.ps.length W)
  go_wp2_with fail
  refine (CE.out _).mono ?_
  rintro e x6 ⟨rfl, rfl⟩
  go_wp2_with fail
  obtain ⟨wz, hwz⟩ : ∃ wz, wz = x2.alloc (.cells #[.slice A2 n.ts.length c2] 57) := ⟨_, rfl⟩
  have hg : wz.heap.size = x2.heap.size + 1 := by rw [hwz, World.size_alloc]
  have PZ : Hid (∀ W, Below wz.heap.size wz W → LinkR W A2 n.ts.length aa bb ∧ W.cell? ⟨x2.heap.size, 0, none⟩ = some (.slice A2 n.ts.length c2) ∧ Below w.heap.size w W ∧ W.cell? ⟨w.heap.size, 1, none⟩ = some (.slice n.PA n.ps.length n.pc)) := fun W hW => by
    have hz : Below x2.heap.size x2 wz := by rw [hwz]; exact (Below.refl _ _).alloc (Nat.le_refl _) _
    have hzc : wz.cell? ⟨x2.heap.size, 0, none⟩ = some (.slice A2 n.ts.length c2) := by rw [hwz]; simp
    exact ⟨(R2.out.below hz).below hW, keepc hzc hW, (Dx2.out.trans (hz.mono Dx2.out.size)).trans (hW.mono (by have := Dx2.out.size; omega)), keepc (keepc q1 hz) hW⟩
  rw [← hwz, ← hg]
  have bO := Boxed.new wz 49 (.slice none 0 0)
  have bN := Boxed.new (wz.alloc (.cells #[.slice none 0 0] 49)) 3 (.int .i64 (n.ps.length : Int))
  rw [World.size_alloc] at bN
  have hB0 : Below wz.heap.size wz ((wz.alloc (.cells #[.slice none 0 0] 49)).alloc (.cells #[.int .i64 (n.ps.length : Int)] 3)) := ((Below.refl _ wz).alloc (Nat.le_refl _) _).alloc (by simp) _
  clear hwz q0 q1 q2 B0 Dx1 Dx1a Dx2 CK CL R2
  have HG := Lib.hid hg
  clear hg
  refine (wpIn_wide (n := 6)).1 ?_
  refine wpIn_rangeFunc_ownG rfl (by decide) (gf := 60) (lb := #[.pointer (some ⟨wz.heap.size + 1, 0, none⟩)]) rfl trivial (enters_of Tryd.func60 (by kernel_rfl) rfl)
    (sets_stops (6 - 1) (by decide) (wz.heap.size + 1) wz.heap.size n.ps.length hp _ (by simp) bN.cell) belowK_t (belowK_b (by simp; omega)) (Below.refl _ _) (fun _ => rfl)
    (fun pre W => (∃ v, Boxed W wz.heap.size 49 v ∧ W.ownsRow wz.heap.size 22 1 v (cf pre).length (Bt.vV (cf pre)) ∧ True) ∧ Below wz.heap.size wz W)
    (fun _ _ _ => False)
    (OwnFrom.and (Own.from (holdsRow_own wz.heap.size wz.heap.size 49 22 1 (fun pre => (cf pre).length) (fun pre => Bt.vV (cf pre)) (fun pre v => True)) _) (ownFrom_below (Nat.le_refl _) (by simp; omega)))
    (fun _ _ _ _ _ hs _ _ => hs)
    ⟨⟨_, bO.alloc _, by rw [CFN.out]; exact World.ownsRow_nil _ _ _ _, trivial⟩, hB0⟩
    ?a1 ?assign ?body ?done ?stop
  case assign =>
    intro l x W K hK
    gi_wp2
    exact hK
  case body =>
    rintro l pre x W ⟨⟨v, hv, hrow, -⟩, hB⟩ hlt
    obtain ⟨lk, c7, _, _⟩ := PZ.out W hB
    have C := CC.out A2 c2 x.1 W x.2 lk
    have hcs := CFS.out pre x
    have hlen := CFL.out pre
    generalize cb x.1 = z at *
    have C := Lib.hid C
    have HCS := Lib.hid hcs
    have hlt' : pre.length < 5000 := by omega
    have b1 : (cf pre).length + 1 ≤ maxLen := by unfold maxLen; omega
    have b2 : ((cf pre).length + 1) * 8 ≤ 140737488355328 := by omega
    clear hcs PZ CFS CFN CFL MIN
    cases z
    · have E : Hid (cf (pre ++ [x]) = cf pre) := by show _ = _; rw [HCS.out]; rfl
      gi_wp2_with (refine ⟨trivial, ?_⟩; gi_at_call 50; refine (callsIn_wide.2 C.out).mono ?_; rintro e w4 ⟨rfl, K⟩)
      have hv4 : Boxed w4 wz.heap.size 49 v := (K.block _ hv.lt).trans hv
      have hrow4 := own_below hrow K (Nat.le_refl _)
      exact ⟨(keeps_below K).from _, K.mono hB.size, ⟨_, hv4, by rw [E.out]; exact hrow4, trivial⟩, hB.trans (K.mono hB.size)⟩
    · have E : Hid (cf (pre ++ [x]) = cf pre ++ [x]) := by show _ = _; rw [HCS.out]; rfl
      gi_wp2_with (first | (refine ⟨trivial, ?_⟩; gi_at_call 50; refine (callsIn_wide.2 C.out).mono ?_; rintro e w4 ⟨rfl, K⟩; have hv4 : Boxed w4 wz.heap.size 49 v := (K.block _ hv.lt).trans hv; have hrow4 := own_below hrow K (Nat.le_refl _); have hc4 := hv4.cell) | (gi_at_builtin; refine wpListIn_append_own _ rfl _ _ 49 rfl wz.heap.size 22 i0 (.int .u64 0) 1 8 Tryd.underlying49 hi hz0 hz1 hz2 rfl (by decide) _ _ _ rfl (hrow4.alloc _) ⟨w4.heap.size, 0, none⟩ 1 1 [.int .u64 ((x.1 : Nat) : Int)] rfl rfl (cell_one_new _ _ _) (by simp [Value.oneCell']) b1 b2 (by have := hB.size; have := K.size; simp; omega) ?_; intro v' w1 hown' hgrow _; obtain ⟨g', cap', rfl⟩ := ownsRow_succ hown'; obtain ⟨hv1, hv2, hr2, hk2, hb2⟩ := hv4.appended (by decide) hrow4 (Nat.le_trans hB.size K.size) (Nat.le_refl _) hown' hgrow; have hc1 := hv1.cell; have hf1 := hv1.frozen))
      exact ⟨((keeps_below K).trans hk2).from _, (K.mono hB.size).trans hb2, ⟨_, hv2, by rw [E.out, vV_snoc]; simpa [Bt.eU] using hr2, trivial⟩, hB.trans ((K.mono hB.size).trans hb2)⟩
  case stop =>
    rintro D c pre W _ _ h _
    exact h.elim
  case done =>
    rintro D ys W hD rfl ⟨⟨v, hv, hrow, -⟩, hB⟩ hK
    have hc := hv.cell
    obtain ⟨_, A5, c5, e5, R5⟩ := Bt.Reads.own hrow
    subst e5
    have hl5 := Nat.le_trans (CFL.out (upU (2 ^ n.ps.length - 1))) HLEN
    have M5 := MIN.out A5 (cf (upU (2 ^ n.ps.length - 1))) c5 W R5 (by omega)
    have M5 := Lib.hid M5
    obtain ⟨_, _, hWG, _⟩ := PZ.out W hB
    have HWG := Lib.hid hWG
    have HK := Lib.hid hK
    have hDw : w.heap.size ≤ D := by simp at hD; have := HG.out; omega
    clear PZ CFS CFN CFL MIN hB hK hrow R5 hWG CC
    go_wp2_with fail
    refine M5.out.mono ?_
    rintro e w7 ⟨A7, c7, rfl, R7, K⟩
    have HK7 := Lib.hid ((K.block D (Array.getElem?_eq_some_iff.1 HK.out).1).trans HK.out)
    have R7 := Lib.hid R7
    have K7 := Lib.hid (HWG.out.trans (K.mono HWG.out.size))
    clear K
    go_wp2
    refine ⟨by simp, .inl ⟨_, _, rfl, run_takeDeferred HK7.out, ?_⟩⟩
    refine ⟨_, results_tmp2 rfl _ _ _, ?_⟩
    refine ⟨A7, c7, by simp [Bt.vV], fun j u hj => ?_, K7.out.trans (belowK_b (w := w) (Nat.le_refl _) w7 D _ _ hDw HK7.out rfl rfl)⟩
    obtain ⟨b, o, e, h1, h2⟩ := R7.out j u hj
    exact ⟨b, o, e, by simp; exact h1, cell_kept h2 (grownBy_putObj' w7 D _) (fun r e => by cases e; exact ⟨_, HK7.out, rfl⟩)⟩
end Go.Proofs.YtjibpkaanaphcaaDoor

namespace Go.Proofs.YtjibpkaanaphcaaDoor
open Go.RowKit

def MinPost (g : Nat) (w : World) (L : List Bt.U64) (e : Ending) (w' : World) : Prop := ∃ A c, e = .returned (.tuple #[.slice A L.length c, .int .i64 0]) ∧ Bt.Reads w' A (Bt.vV L) ∧ Below g w w'

set_option maxHeartbeats 2000000 in
set_option maxRecDepth 100000 in
theorem siphons_any (n : NetV) (w : World) (hr : NetR w n) (hok : okN n = true) (hp : n.ps.length ≤ 12) :
    Calls Tryd.prog 18 #[.agg #[.string n.nm, .slice n.PA n.ps.length n.pc, .slice n.TA n.ts.length n.tc]] w (MinPost w.heap.size w (Bt.minU (clU n true (upU (2 ^ n.ps.length - 1))))) := by
  have CM : Hid (∀ W, Below w.heap.size w W → Calls Tryd.prog 34 #[.agg #[.string n.nm, .slice n.PA n.ps.length n.pc, .slice n.TA n.ts.length n.tc], .func (.func 24) #[] #[]] W (MinPost W.heap.size W (Bt.minU (clU n true (upU (2 ^ n.ps.length - 1)))))) := fun W hW => minS_any n W (hr.below hW (Nat.le_refl _)) hok hp
  clear hr hok
  generalize Bt.minU (clU n true (upU (2 ^ n.ps.length - 1))) = L at *
  have B0 : Hid (Below w.heap.size w (w.alloc (.cells #[.string n.nm, .slice n.PA n.ps.length n.pc, .slice n.TA n.ts.length n.tc] 29))) := ((Below.refl _ _).alloc (Nat.le_refl _) _)
  go_enter Tryd.func18, Tryd.ntmps18
  go_wp2_with fail
  refine (CM.out _ B0.out).mono ?_
  rintro e w1 ⟨A2, c2, rfl, R2, K⟩
  have R2 := Lib.hid R2
  have b0_0 : w1.cell? ⟨w.heap.size, 0, none⟩ = some (.string n.nm) := by rw [K.cell (by simp [go_sem] <;> omega)]; simp [go_sem]
  have b0_1 : w1.cell? ⟨w.heap.size, 1, none⟩ = some (.slice n.PA n.ps.length n.pc) := by rw [K.cell (by simp [go_sem] <;> omega)]; simp [go_sem]
  have b0_2 : w1.cell? ⟨w.heap.size, 2, none⟩ = some (.slice n.TA n.ts.length n.tc) := by rw [K.cell (by simp [go_sem] <;> omega)]; simp [go_sem]
  have Bw1 := Lib.hid (B0.out.trans (K.mono (by simp [go_sem] <;> omega)))
  have hs1 : w.heap.size + 1 ≤ w1.heap.size := by have := K.size; (try simp [go_sem] at this); omega
  clear K
  go_wp2
  go_ret2
  exact ⟨A2, c2, rfl, R2.out, Bw1.out⟩

set_option maxHeartbeats 2000000 in
set_option maxRecDepth 100000 in
theorem traps_any (n : NetV) (w : World) (hr : NetR w n) (hok : okN n = true) (hp : n.ps.length ≤ 12) :
    Calls Tryd.prog 19 #[.agg #[.string n.nm, .slice n.PA n.ps.length n.pc, .slice n.TA n.ts.length n.tc]] w (MinPost w.heap.size w (Bt.minU (clU n false (upU (2 ^ n.ps.length - 1))))) := by
  have CM : Hid (∀ W, Below w.heap.size w W → Calls Tryd.prog 34 #[.agg #[.string n.nm, .slice n.PA n.ps.length n.pc, .slice n.TA n.ts.length n.tc], .func (.func 26) #[] #[]] W (MinPost W.heap.size W (Bt.minU (clU n false (upU (2 ^ n.ps.length - 1)))))) := fun W hW => minT_any n W (hr.below hW (Nat.le_refl _)) hok hp
  clear hr hok
  generalize Bt.minU (clU n false (upU (2 ^ n.ps.length - 1))) = L at *
  have B0 : Hid (Below w.heap.size w (w.alloc (.cells #[.string n.nm, .slice n.PA n.ps.length n.pc, .slice n.TA n.ts.length n.tc] 29))) := ((Below.refl _ _).alloc (Nat.le_refl _) _)
  go_enter Tryd.func19, Tryd.ntmps19
  go_wp2_with fail
  refine (CM.out _ B0.out).mono ?_
  rintro e w1 ⟨A2, c2, rfl, R2, K⟩
  have R2 := Lib.hid R2
  have b0_0 : w1.cell? ⟨w.heap.size, 0, none⟩ = some (.string n.nm) := by rw [K.cell (by simp [go_sem] <;> omega)]; simp [go_sem]
  have b0_1 : w1.cell? ⟨w.heap.size, 1, none⟩ = some (.slice n.PA n.ps.length n.pc) := by rw [K.cell (by simp [go_sem] <;> omega)]; simp [go_sem]
  have b0_2 : w1.cell? ⟨w.heap.size, 2, none⟩ = some (.slice n.TA n.ts.length n.tc) := by rw [K.cell (by simp [go_sem] <;> omega)]; simp [go_sem]
  have Bw1 := Lib.hid (B0.out.trans (K.mono (by simp [go_sem] <;> omega)))
  have hs1 : w.heap.size + 1 ≤ w1.heap.size := by have := K.size; (try simp [go_sem] at this); omega
  clear K
  go_wp2
  go_ret2
  exact ⟨A2, c2, rfl, R2.out, Bw1.out⟩

def sU : ByteArray := ⟨#[117]⟩
def ringV (a b c d : Nat) : NetV := ⟨sN, some ⟨c, 0, none⟩, [⟨sP, 1, 0⟩, ⟨sQ, 0, 0⟩], 2, some ⟨d, 0, none⟩, [⟨sT, ⟨some ⟨a, 0, none⟩, 1, [(0, 1)]⟩, ⟨some ⟨b, 0, none⟩, 1, [(1, 1)]⟩, ⟨none, 0, []⟩, 0⟩, ⟨sU, ⟨some ⟨b, 0, none⟩, 1, [(1, 1)]⟩, ⟨some ⟨a, 0, none⟩, 1, [(0, 1)]⟩, ⟨none, 0, []⟩, 0⟩], 2⟩
theorem ring_ok (a b c d : Nat) : okN (ringV a b c d) = true := by kernel_rfl
theorem ring_sets (b' : Bool) (a b c d : Nat) : clU (ringV a b c d) b' (upU (2 ^ 2 - 1)) = [toU 3] := by cases b' <;> kernel_rfl
theorem ring_one : Bt.minU [toU 3] = [toU 3] := by kernel_rfl
end Go.Proofs.YtjibpkaanaphcaaDoor
