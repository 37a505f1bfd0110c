/- Regions: all of them, by the program, of a system of few states. -/
import Derived.Test.YtnlgfkokaphhjaaRS
import Derived.Test.YtnlgfkokaphhjaaBtR
namespace Go.Proofs.Ytnlgfkokaphhjaa
open Go.RowKit Go.Shelf

attribute [local go_sem] Oper.semAt_some

theorem keeps_below {W W' : World} (K : Below W.heap.size W W') : KeepsOthers W W' := ⟨K.size, fun k _ hk _ => (K.block k (Array.getElem?_eq_some_iff.1 hk).1).trans hk⟩
def rgU (s : SysV) (L : List Bt.U64) : List Bt.U64 := L.filter fun x => regB s.ar s.el x.1
theorem rgU_snoc (s : SysV) (L : List Bt.U64) (x : Bt.U64) : rgU s (L ++ [x]) = if regB s.ar s.el x.1 = true then rgU s L ++ [x] else rgU s L := by
  unfold rgU
  rw [List.filter_append]
  by_cases h : regB s.ar s.el x.1 = true
  · rw [if_pos h]; simp [h]
  · rw [if_neg h]; simp [h]
theorem rgU_len (s : SysV) (L : List Bt.U64) : (rgU s L).length ≤ L.length := List.length_filter_le _ _
theorem zU_len (m : Nat) : (zU m).length = m := by simp [zU]
theorem cell_at (W : World) (v : Value) (t n : Nat) (h : W.heap.size = n) : (W.alloc (.cells #[v] t)).cell? ⟨n, 0, none⟩ = some v := by subst h; simp
theorem frozen_at (W : World) (v : Value) (t n o : Nat) (h : W.heap.size = n) : (W.alloc (.cells #[v] t)).frozen? ⟨n, o, none⟩ = false := by subst h; simp
theorem vV_snoc (L : List Bt.U64) (x : Bt.U64) : Bt.vV (L ++ [x]) = Bt.vV L ++ [Bt.eU x] := by simp [Bt.vV]
def allR (s : SysV) : List Bt.U64 := rgU s (zU (2 ^ s.st.toNat))
def AllP (g : Nat) (w : World) (L : List Bt.U64) (E : Int) (e : Ending) (w' : World) : Prop := ∃ A c, e = .returned (.tuple #[.slice A L.length c, .int .i64 E]) ∧ Bt.Reads w' A (Bt.vV L) ∧ Below g w w'

set_option maxHeartbeats 8000000 in
set_option maxRecDepth 100000 in
theorem all_small (s : SysV) (w : World) (hr : SysR w s) (hok : okS s = true) (h8 : s.st ≤ 8) :
    Calls Try.prog 21 #[.agg #[.int .i64 s.st, .slice s.EA s.el s.ec, .slice s.AA s.ar.length s.ac]] w (AllP w.heap.size w (allR s) 0) := by
  have hpp := okS_parts hok
  obtain ⟨p, hp⟩ : ∃ p : Nat, s.st = p := ⟨s.st.toNat, by omega⟩
  have hp8 : p ≤ 8 := by omega
  have hpi : (p : Int) ≤ 8 := by omega
  have CK : Hid (∀ W, Below w.heap.size w W → Calls Try.prog 35 #[.agg #[.int .i64 s.st, .slice s.EA s.el s.ec, .slice s.AA s.ar.length s.ac]] W (FPost W.heap.size W (okS s))) := fun W hW => check_any s W (hr.below hW (Nat.le_refl _))
  have CB : Hid (∀ W, Below w.heap.size w W → Calls Try.prog 29 #[.agg #[.int .i64 s.st, .slice s.EA s.el s.ec, .slice s.AA s.ar.length s.ac]] W (fun e w' => ∃ T c, e = .returned (.slice (some ⟨T, 0, none⟩) s.el c) ∧ TabE w' T s.el (fun e => evL s.ar (e : Nat)) ∧ Below W.heap.size W w')) := fun W hW => byEvents_any s W (hr.below hW (Nat.le_refl _)) hok
  have CC : Hid (∀ T c (x : Nat) W, x < 18446744073709551616 → TabE W T s.el (fun e => evL s.ar (e : Nat)) → Calls Try.prog 32 #[.slice (some ⟨T, 0, none⟩) s.el c, .int .u64 (x : Nat)] W (VPost W.heap.size W (.bool (regB s.ar s.el x)))) := fun T c x W hx h => isRegion_any T c s.el x _ W h (by have := hr.hel; omega) (fun e => Nat.le_trans (evL_len _ _) (by have := hr.hal; omega)) hx
  have HAL : allR s = rgU s (zU (2 ^ p)) := by unfold allR; rw [hp, Int.toNat_natCast]
  have HLEN : (zU (2 ^ p)).length ≤ 256 := by
    rw [zU_len]
    exact Nat.pow_le_pow_right (n := 2) (by omega) hp8
  obtain ⟨i0, hi, hz0, hz1, hz2⟩ := Bt.info_parts Bt.infoU
  have hfd := field_fault
  rw [HAL]
  rw [hok] at CK
  clear hr hok HAL h8 hpp
  generalize hcf : rgU s = cf at *
  have CFS : Hid (∀ L x, cf (L ++ [x]) = if regB s.ar s.el x.1 = true then cf L ++ [x] else cf L) := fun L x => by rw [← hcf]; exact rgU_snoc _ _ _
  have CFN : Hid (cf [] = []) := by show _ = _; rw [← hcf]; rfl
  have CFL : Hid (∀ L, (cf L).length ≤ L.length) := fun L => by rw [← hcf]; exact rgU_len _ _
  clear hcf
  generalize hcb : regB s.ar s.el = cb at *
  clear hcb
  generalize hev : (fun e : Nat => evL s.ar (e : Int)) = ev' at *
  clear hev
  obtain ⟨sst, EA, el, ev, ec, AA, ar, ac⟩ := s
  dsimp only at *
  subst hp
  have B0 : Hid (Below w.heap.size w (((w.alloc (.cells #[.int .i64 (p : Int), .slice EA el ec, .slice AA ar.length ac] 25)).alloc (.cells #[.slice none 0 0] 37)).alloc (.cells #[.int .i64 0] 38))) := (((Below.refl _ _).alloc (Nat.le_refl _) _).alloc (by simp) _).alloc (by simp; omega) _
  have q0 : (((w.alloc (.cells #[.int .i64 (p : Int), .slice EA el ec, .slice AA ar.length ac] 25)).alloc (.cells #[.slice none 0 0] 37)).alloc (.cells #[.int .i64 0] 38)).cell? ⟨w.heap.size, 0, none⟩ = some (.int .i64 (p : Int)) := cellA (cellA (by simp) _) _
  have q1 : (((w.alloc (.cells #[.int .i64 (p : Int), .slice EA el ec, .slice AA ar.length ac] 25)).alloc (.cells #[.slice none 0 0] 37)).alloc (.cells #[.int .i64 0] 38)).cell? ⟨w.heap.size, 1, none⟩ = some (.slice EA el ec) := cellA (cellA (by simp) _) _
  have q2 : (((w.alloc (.cells #[.int .i64 (p : Int), .slice EA el ec, .slice AA ar.length ac] 25)).alloc (.cells #[.slice none 0 0] 37)).alloc (.cells #[.int .i64 0] 38)).cell? ⟨w.heap.size, 2, none⟩ = some (.slice AA ar.length ac) := cellA (cellA (by simp) _) _
  have r2 : (((w.alloc (.cells #[.int .i64 (p : Int), .slice EA el ec, .slice AA ar.length ac] 25)).alloc (.cells #[.slice none 0 0] 37)).alloc (.cells #[.int .i64 0] 38)).cell? ⟨w.heap.size + 1, 0, none⟩ = some (.slice none 0 0) := cellA (by rw [← World.size_alloc w (.cells #[.int .i64 (p : Int), .slice EA el ec, .slice AA ar.length ac] 25)]; simp) _
  have hz : ((w.alloc (.cells #[.int .i64 (p : Int), .slice EA el ec, .slice AA ar.length ac] 25)).alloc (.cells #[.slice none 0 0] 37)).heap.size = w.heap.size + 1 + 1 := by rw [World.size_alloc, World.size_alloc]
  have r3 : (((w.alloc (.cells #[.int .i64 (p : Int), .slice EA el ec, .slice AA ar.length ac] 25)).alloc (.cells #[.slice none 0 0] 37)).alloc (.cells #[.int .i64 0] 38)).cell? ⟨w.heap.size + 1 + 1, 0, none⟩ = some (.int .i64 0) := cell_at _ _ _ _ hz
  have rf : (∀ o, (((w.alloc (.cells #[.int .i64 (p : Int), .slice EA el ec, .slice AA ar.length ac] 25)).alloc (.cells #[.slice none 0 0] 37)).alloc (.cells #[.int .i64 0] 38)).frozen? ⟨w.heap.size + 1, o, none⟩ = false) ∧ (∀ o, (((w.alloc (.cells #[.int .i64 (p : Int), .slice EA el ec, .slice AA ar.length ac] 25)).alloc (.cells #[.slice none 0 0] 37)).alloc (.cells #[.int .i64 0] 38)).frozen? ⟨w.heap.size + 1 + 1, o, none⟩ = false) := by
    refine ⟨fun o => ?_, fun o => frozen_at _ _ _ _ _ hz⟩
    rw [((Below.refl (World.heap ((w.alloc (.cells #[.int .i64 (p : Int), .slice EA el ec, .slice AA ar.length ac] 25)).alloc (.cells #[.slice none 0 0] 37))).size _).alloc (Nat.le_refl _) _).frozen (p := ⟨w.heap.size + 1, o, none⟩) (by simp)]
    exact frozen_at _ _ _ _ _ (by rw [World.size_alloc])
  clear hz
  have hzW : (((w.alloc (.cells #[.int .i64 (p : Int), .slice EA el ec, .slice AA ar.length ac] 25)).alloc (.cells #[.slice none 0 0] 37)).alloc (.cells #[.int .i64 0] 38)).heap.size = w.heap.size + 1 + 1 + 1 := by rw [World.size_alloc, World.size_alloc, World.size_alloc]
  refine (callsIn_wide (n := 6)).1 (callsIn_of_wp_marks Try.func21 rfl trivial ?_ rfl)
  simp only [Try.ntmps21, List.size_toArray, List.length_cons, List.length_nil, Nat.reduceAdd, Nat.reduceSub, Array.replicate_succ, Array.replicate_zero, List.push_toArray, List.append_toArray, List.nil_append, List.cons_append]
  refine wpIn_wide.2 ?_
  go_wp2_with fail
  refine (CK.out _ B0.out).mono ?_
  rintro e x1 ⟨E, At, rfl, hE, K⟩
  have hE0 : E = 0 := hE.2 rfl
  subst hE0
  clear hE
  have q0 := keepc q0 K
  have q1 := keepc q1 K
  have q2 := keepc q2 K
  have r2 := keepc r2 K
  have r3 := keepc r3 K
  have rf : (∀ o, x1.frozen? ⟨w.heap.size + 1, o, none⟩ = false) ∧ (∀ o, x1.frozen? ⟨w.heap.size + 1 + 1, o, none⟩ = false) := ⟨fun o => (K.frozen (p := ⟨w.heap.size + 1, o, none⟩) (by show w.heap.size + 1 < _; omega)).trans (rf.1 o), fun o => (K.frozen (p := ⟨w.heap.size + 1 + 1, o, none⟩) (by show w.heap.size + 1 + 1 < _; omega)).trans (rf.2 o)⟩
  have Dx1 := Lib.hid (B0.out.trans (K.mono B0.out.size))
  have hz1s : w.heap.size + 1 + 1 + 1 ≤ x1.heap.size := by have := K.size; omega
  clear K hzW B0
  go_wp2_with fail
  refine (CB.out _ Dx1.out).mono ?_
  rintro e x2 ⟨T, c2, rfl, R2, K⟩
  have R2 := Lib.hid R2
  have q0 := keepc q0 K
  have q1 := keepc q1 K
  have q2 := keepc q2 K
  have r2 := keepc r2 K
  have r3 := keepc r3 K
  have rf : (∀ o, x2.frozen? ⟨w.heap.size + 1, o, none⟩ = false) ∧ (∀ o, x2.frozen? ⟨w.heap.size + 1 + 1, o, none⟩ = false) := ⟨fun o => (K.frozen (p := ⟨w.heap.size + 1, o, none⟩) (by show w.heap.size + 1 < _; omega)).trans (rf.1 o), fun o => (K.frozen (p := ⟨w.heap.size + 1 + 1, o, none⟩) (by show w.heap.size + 1 + 1 < _; omega)).trans (rf.2 o)⟩
  have Dx2 := Lib.hid (Dx1.out.trans (K.mono Dx1.out.size))
  have hsz2 : w.heap.size + 1 + 1 + 1 ≤ x2.heap.size := Nat.le_trans hz1s K.size
  clear K
  have CE : Hid (∀ W, Calls Try.prog 36 #[.int .i64 (p : Int)] W fun e w' => e = .returned (.func (.func 50) #[] #[.pointer (some ⟨W.heap.size, 0, none⟩)]) ∧ w' = W.alloc (.cells #[.int .i64 (p : Int)] 3)) := fun W => callsIn_wide.1 (subsets_in0 6 p W)
  have q0' : ((x2.alloc (.cells #[.slice (some ⟨T, 0, none⟩) el c2] 47)).alloc (.cells #[.slice none 0 0] 37)).cell? ⟨w.heap.size, 0, none⟩ = some (.int .i64 (p : Int)) := cellA (cellA q0 _) _
  go_wp2_with fail
  refine (CE.out _).mono ?_
  rintro e x6 ⟨rfl, rfl⟩
  go_wp2_with fail
  obtain ⟨wz, hwz⟩ : ∃ wz, wz = x2.alloc (.cells #[.slice (some ⟨T, 0, none⟩) el c2] 47) := ⟨_, rfl⟩
  have hg : wz.heap.size = x2.heap.size + 1 := by rw [hwz, World.size_alloc]
  have PZ : Hid (∀ W, Below wz.heap.size wz W → TabE W T el ev' ∧ W.cell? ⟨x2.heap.size, 0, none⟩ = some (.slice (some ⟨T, 0, none⟩) el c2) ∧ Below w.heap.size w W ∧ W.cell? ⟨w.heap.size + 1, 0, none⟩ = some (.slice none 0 0) ∧ W.cell? ⟨w.heap.size + 1 + 1, 0, none⟩ = some (.int .i64 0) ∧ (∀ o, W.frozen? ⟨w.heap.size + 1, o, none⟩ = false) ∧ (∀ o, W.frozen? ⟨w.heap.size + 1 + 1, o, none⟩ = false)) := fun W hW => by
    have hz : Below x2.heap.size x2 wz := by rw [hwz]; exact (Below.refl _ _).alloc (Nat.le_refl _) _
    have hzc : wz.cell? ⟨x2.heap.size, 0, none⟩ = some (.slice (some ⟨T, 0, none⟩) el c2) := by rw [hwz]; simp
    have hh : Below x2.heap.size x2 W := hz.trans (hW.mono (by omega))
    exact ⟨R2.out.below hh, keepc hzc hW, Dx2.out.trans (hh.mono (by omega)), keepc r2 hh, keepc r3 hh, fun o => (hh.frozen (p := ⟨w.heap.size + 1, o, none⟩) (by show w.heap.size + 1 < _; omega)).trans (rf.1 o), fun o => (hh.frozen (p := ⟨w.heap.size + 1 + 1, o, none⟩) (by show w.heap.size + 1 + 1 < _; omega)).trans (rf.2 o)⟩
  rw [← hwz, ← hg]
  have bO := Boxed.new wz 37 (.slice none 0 0)
  have bN := Boxed.new (wz.alloc (.cells #[.slice none 0 0] 37)) 3 (.int .i64 (p : Int))
  rw [World.size_alloc] at bN
  have hB0 : Below wz.heap.size wz ((wz.alloc (.cells #[.slice none 0 0] 37)).alloc (.cells #[.int .i64 (p : Int)] 3)) := ((Below.refl _ wz).alloc (Nat.le_refl _) _).alloc (by simp) _
  clear hwz q0 q1 q2 r2 r3 rf Dx1 Dx2 CK CB R2
  have HG := Lib.hid hg
  clear hg
  refine (wpIn_wide (n := 6)).1 ?_
  refine wpIn_rangeFunc_ownG rfl (by decide) (gf := 50) (lb := #[.pointer (some ⟨wz.heap.size + 1, 0, none⟩)]) rfl trivial (enters_of Try.func50 (by kernel_rfl) rfl)
    (sets_stops (6 - 1) (by decide) (wz.heap.size + 1) wz.heap.size p (by omega) _ (by simp) bN.cell) belowK_t (belowK_b (by simp; omega)) (Below.refl _ _) (fun _ => rfl)
    (fun pre W => (∃ v, Boxed W wz.heap.size 37 v ∧ W.ownsRow wz.heap.size 26 1 v (cf pre).length (Bt.vV (cf pre)) ∧ True) ∧ Below wz.heap.size wz W)
    (fun _ _ _ => False)
    (OwnFrom.and (Own.from (holdsRow_own wz.heap.size wz.heap.size 37 26 1 (fun pre => (cf pre).length) (fun pre => Bt.vV (cf pre)) (fun pre v => True)) _) (ownFrom_below (Nat.le_refl _) (by simp; omega)))
    (fun _ _ _ _ _ hs _ _ => hs)
    ⟨⟨_, bO.alloc _, by rw [CFN.out]; exact World.ownsRow_nil _ _ _ _, trivial⟩, hB0⟩
    ?a1 ?assign ?body ?done ?stop
  case assign =>
    intro l x W K hK
    gi_wp2
    exact hK
  case body =>
    rintro l pre x W ⟨⟨v, hv, hrow, -⟩, hB⟩ hlt
    obtain ⟨lk, c7, _, _⟩ := PZ.out W hB
    have C := CC.out T c2 x.1 W x.2 lk
    have hcs := CFS.out pre x
    have hlen := CFL.out pre
    generalize cb x.1 = z at *
    have C := Lib.hid C
    have HCS := Lib.hid hcs
    have hlt' : pre.length < 256 := by omega
    have b1 : (cf pre).length + 1 ≤ maxLen := by unfold maxLen; omega
    have b2 : ((cf pre).length + 1) * 8 ≤ 140737488355328 := by omega
    have n512 : ((((cf pre).length : Nat) : Int) == 512) = false := by rw [beq_eq_false_iff_ne]; omega
    clear hcs PZ CFS CFN CFL
    cases z
    · have E : Hid (cf (pre ++ [x]) = cf pre) := by show _ = _; rw [HCS.out]; rfl
      gi_wp2_with (refine ⟨trivial, ?_⟩; gi_at_call 32; refine (callsIn_wide.2 C.out).mono ?_; rintro e w4 ⟨rfl, K⟩)
      have hv4 : Boxed w4 wz.heap.size 37 v := (K.block _ hv.lt).trans hv
      have hrow4 := own_below hrow K (Nat.le_refl _)
      exact ⟨(keeps_below K).from _, K.mono hB.size, ⟨_, hv4, by rw [E.out]; exact hrow4, trivial⟩, hB.trans (K.mono hB.size)⟩
    · have E : Hid (cf (pre ++ [x]) = cf pre ++ [x]) := by show _ = _; rw [HCS.out]; rfl
      obtain ⟨Av, cv, rfl⟩ : ∃ Av cv, v = .slice Av (cf pre).length cv := by
        rcases hrow.2 with ⟨e1, h0⟩ | ⟨g, cap, cur, e1, _⟩
        · exact ⟨none, 0, by rw [e1, h0]⟩
        · exact ⟨_, cap, e1⟩
      gi_wp2_with (first | (refine ⟨trivial, ?_⟩; gi_at_call 32; refine (callsIn_wide.2 C.out).mono ?_; rintro e w4 ⟨rfl, K⟩; have hv4 : Boxed w4 wz.heap.size 37 (.slice Av (cf pre).length cv) := (K.block _ hv.lt).trans hv; have hrow4 := own_below hrow K (Nat.le_refl _); have hc4 := hv4.cell) | (gi_at_builtin; refine wpListIn_append_own _ rfl _ _ 37 rfl wz.heap.size 26 i0 (.int .u64 0) 1 8 Try.underlying37 hi hz0 hz1 hz2 rfl (by decide) _ _ _ rfl (hrow4.alloc _) ⟨w4.heap.size, 0, none⟩ 1 1 [.int .u64 ((x.1 : Nat) : Int)] rfl rfl (cell_one_new _ _ _) (by simp [Value.oneCell']) b1 b2 (by have := hB.size; have := K.size; simp; omega) ?_; intro v' w1 hown' hgrow _; obtain ⟨g', cap', rfl⟩ := ownsRow_succ hown'; obtain ⟨hv1, hv2, hr2, hk2, hb2⟩ := hv4.appended (by decide) hrow4 (Nat.le_trans hB.size K.size) (Nat.le_refl _) hown' hgrow; have hc1 := hv1.cell; have hf1 := hv1.frozen))
      exact ⟨((keeps_below K).trans hk2).from _, (K.mono hB.size).trans hb2, ⟨_, hv2, by rw [E.out, vV_snoc]; simpa [Bt.eU] using hr2, trivial⟩, hB.trans ((K.mono hB.size).trans hb2)⟩
  case stop =>
    rintro D c pre W _ _ h _
    exact h.elim
  case done =>
    rintro D ys W hD rfl ⟨⟨v, hv, hrow, -⟩, hB⟩ hK
    have hc := hv.cell
    have hrow0 := hrow
    obtain ⟨_, A5, c5, e5, -⟩ := Bt.Reads.own hrow
    subst e5
    obtain ⟨_, _, hWG, r2, r3, rf2, rf3⟩ := PZ.out W hB
    have HWG := Lib.hid hWG
    have HK := Lib.hid hK
    have hDw : w.heap.size ≤ D := by simp at hD; have := HG.out; omega
    have ROW := Lib.hid (ownsRow_setCell_below (ownsRow_setCell_below hrow0 (a := ⟨w.heap.size + 1, 0, none⟩) (by have := HG.out; simp; omega) (.slice A5 (cf (zU (2 ^ p))).length c5)) (a := ⟨w.heap.size + 1 + 1, 0, none⟩) (by have := HG.out; simp; omega) (.int .i64 0))
    clear PZ CFS CFN CFL hB hK hrow hrow0 hWG CC
    go_wp2
    have s2 := World.cell?_setCell_same' W ⟨w.heap.size + 1, 0, none⟩ (.slice A5 (cf (zU (2 ^ p))).length c5) (by rw [r2]; rfl)
    have o3 := (World.cell?_setCell_other W ⟨w.heap.size + 1, 0, none⟩ ⟨w.heap.size + 1 + 1, 0, none⟩ (.slice A5 (cf (zU (2 ^ p))).length c5) (by intro h; simp only [Addr.mk.injEq] at h; omega)).trans r3
    have s3 := World.cell?_setCell_same' (W.setCell ⟨w.heap.size + 1, 0, none⟩ (.slice A5 (cf (zU (2 ^ p))).length c5)) ⟨w.heap.size + 1 + 1, 0, none⟩ (.int .i64 0) (by rw [o3]; rfl)
    have s2' := (World.cell?_setCell_other (W.setCell ⟨w.heap.size + 1, 0, none⟩ (.slice A5 (cf (zU (2 ^ p))).length c5)) ⟨w.heap.size + 1 + 1, 0, none⟩ ⟨w.heap.size + 1, 0, none⟩ (.int .i64 0) (by intro h; simp only [Addr.mk.injEq] at h; omega)).trans s2
    have BW := Lib.hid ((HWG.out.setCell (p := ⟨w.heap.size + 1, 0, none⟩) (by simp) (.slice A5 (cf (zU (2 ^ p))).length c5)).setCell (p := ⟨w.heap.size + 1 + 1, 0, none⟩) (by simp; omega) (.int .i64 0))
    have hK' := ((KeepsOthers.setCell W ⟨w.heap.size + 1, 0, none⟩ (.slice A5 (cf (zU (2 ^ p))).length c5)).trans (KeepsOthers.setCell _ ⟨w.heap.size + 1 + 1, 0, none⟩ (.int .i64 0))).same D _ HK.out rfl
    refine ⟨by simp, .inl ⟨_, _, rfl, run_takeDeferred hK', ?_⟩⟩
    have s2f := cell_kept s2' (grownBy_putObj' _ D (.deferred none)) (fun r e => by cases e; exact ⟨_, hK', rfl⟩)
    have s3f := cell_kept s3 (grownBy_putObj' _ D (.deferred none)) (fun r e => by cases e; exact ⟨_, hK', rfl⟩)
    obtain ⟨_, A6, c6, e6, R6⟩ := Bt.Reads.own ROW.out
    cases e6
    refine ⟨.tuple #[(.slice A5 (cf (zU (2 ^ p))).length c5), .int .i64 0], ?_, ⟨A5, c5, rfl, fun j u hj => ?_, BW.out.trans (belowK_b (w := w) (Nat.le_refl _) _ D _ _ hDw hK' rfl rfl)⟩⟩
    · simp [results, Try.f21, go_sem, s2f, s3f]
    · obtain ⟨b, o, e, h1, h2⟩ := R6 j u hj
      exact ⟨b, o, e, by simpa using h1, cell_kept h2 (grownBy_putObj' _ D _) (fun r e => by cases e; exact ⟨_, hK', rfl⟩)⟩
end Go.Proofs.Ytnlgfkokaphhjaa
