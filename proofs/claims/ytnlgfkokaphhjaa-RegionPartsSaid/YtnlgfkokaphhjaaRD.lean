/- Regions: the edges of each event, by the program. -/
import Derived.Test.YtnlgfkokaphhjaaRC
import Derived.Test.YtnlgfkokaphhjaaRT
namespace Go.Proofs.Ytnlgfkokaphhjaa
open Go.RowKit Go.Deep

def cellsE (l : List EdgeV) : List Value := l.flatMap fun a => [.int .i64 a.f, .int .i64 a.t, .int .i64 a.o]
theorem cellsE_len (l : List EdgeV) : (cellsE l).length = l.length * 3 := by
  induction l with
  | nil => rfl
  | cons a r ih => simp only [cellsE, List.flatMap_cons, List.length_append, List.length_cons, List.length_nil] at *; omega
theorem cellsE_snoc (l : List EdgeV) (a : EdgeV) : cellsE (l ++ [a]) = cellsE l ++ [.int .i64 a.f, .int .i64 a.t, .int .i64 a.o] := by simp [cellsE]
theorem cellsE_at : ∀ (l : List EdgeV) (j : Nat), j < l.length → (cellsE l)[j * 3]? = some (.int .i64 (eA l j).f) ∧ (cellsE l)[j * 3 + 1]? = some (.int .i64 (eA l j).t) ∧ (cellsE l)[j * 3 + 2]? = some (.int .i64 (eA l j).o)
  | [], j, h => absurd h (by simp)
  | a :: r, 0, _ => by simp [cellsE, eA]
  | a :: r, j + 1, h => by
    have ih := cellsE_at r j (by simpa using h)
    have e : cellsE (a :: r) = .int .i64 a.f :: .int .i64 a.t :: .int .i64 a.o :: cellsE r := rfl
    have e2 : eA (a :: r) (j + 1) = eA r j := by simp [eA]
    rw [e, e2, show (j + 1) * 3 = j * 3 + 3 by omega, show j * 3 + 3 + 1 = j * 3 + 1 + 3 by omega, show j * 3 + 3 + 2 = j * 3 + 2 + 3 by omega]
    exact ih
theorem own_edges {w : World} {B : Nat} {te : TypeId} {v : Value} {l : List EdgeV} (h : w.ownsRow B te 3 v l.length (cellsE l)) : ∃ A c, v = .slice A l.length c ∧ ReadsE w A l := by
  rcases h.2 with ⟨e, h0⟩ | ⟨g, cap, cur, e, _, hg, _⟩
  · obtain rfl : l = [] := List.eq_nil_of_length_eq_zero h0
    exact ⟨none, 0, e, ReadsE.nil _ _⟩
  · refine ⟨_, cap, e, fun j hj => ?_⟩
    rw [e] at h
    have hc := cellsE_at l j hj
    have hl := cellsE_len l
    have c0 := World.ownsRow.cellAt h (j * 3) (by omega)
    have c1 := World.ownsRow.cellAt h (j * 3 + 1) (by omega)
    have c2 := World.ownsRow.cellAt h (j * 3 + 2) (by omega)
    rw [hc.1] at c0
    rw [hc.2.1] at c1
    rw [hc.2.2] at c2
    exact ⟨g, 0, rfl, World.block_lt_of_cell? w ⟨g, j * 3, none⟩ c0, by rw [Nat.zero_add]; exact c0, by rw [Nat.zero_add]; exact c1, by rw [Nat.zero_add]; exact c2⟩
/-- a table of lists of edges in memory -/
def TabE (w : World) (T N : Nat) (f : Nat → List EdgeV) : Prop := ∀ e, e < N → ∃ A c, w.cell? ⟨T, e, none⟩ = some (.slice A (f e).length c) ∧ ReadsE w A (f e)
theorem TabE.below {w w' : World} {T N : Nat} {f : Nat → List EdgeV} (h : TabE w T N f) (hb : Below w.heap.size w w') : TabE w' T N f := fun e he => by
  obtain ⟨A, c, h1, h2⟩ := h e he
  exact ⟨A, c, keepc h1 hb, h2.below hb (Nat.le_refl _)⟩
theorem GrowT.tab {w : World} {T B N : Nat} {st te : TypeId} {f : Nat → List EdgeV} {vs : Nat → Value} (h : GrowT w T B N st te 3 (fun e => (f e).length) (fun e => cellsE (f e)) vs) : TabE w T N f := fun e he => by
  obtain ⟨A, c, e1, h1⟩ := own_edges (h.2.2.2.1 e he)
  refine ⟨A, c, ?_, h1⟩
  rw [h.2.2.1.cell he, e1]
theorem infoEd : (Try.prog.info? 45).map (fun i => (i.zero, i.size, i.bytes)) = some (some (.agg #[.int .i64 0, .int .i64 0, .int .i64 0]), 3, 24) := by kernel_rfl
theorem infoEs : (Try.prog.info? 23).map (fun i => (i.zero, i.size, i.bytes)) = some (some (.slice none 0 0), 1, 24) := by kernel_rfl
theorem run_make_tab (n : Nat) (hn : n ≤ 100000) (w : World) : (Instr.makeSlice 47 (.int .i64 (n : Int)) (.int .i64 (n : Int))).run Try.prog w = .ok (.slice (some ⟨w.heap.size, 0, none⟩) n n) (w.alloc (.cells (madeCells #[.slice none 0 0] n) 23)) := by
  obtain ⟨i, hi, hzz⟩ := Option.map_eq_some_iff.1 infoEs
  simp only [Prod.mk.injEq] at hzz
  obtain ⟨hz, hs, hb⟩ := hzz
  have hr := run_make (P := Try.prog) w 47 23 i _ Try.underlying47 hi hz .i64 .i64 n n (by omega) (Int.le_refl _) (by rw [hb]; omega) (by omega)
  simp only [Int.toNat_natCast, hs, Nat.mul_one] at hr
  exact hr
theorem info_parts3 {i0 : Option TypeInfo} {z : Value} {s b : Nat} (h : i0.map (fun i => (i.zero, i.size, i.bytes)) = some (some z, s, b)) : ∃ i, i0 = some i ∧ i.zero = some z ∧ i.size = s ∧ i.bytes = b := by
  cases i0 with
  | none => simp at h
  | some i => simp at h; exact ⟨i, rfl, h.1, h.2.1, h.2.2⟩
/-- one edge is appended to a row -/
theorem oper_edge {o : Oper} {a : Act} {w : World} {K : Act → World → Prop} {Q : Exit → Act → World → Prop} (s x : Operand)
    (ho : o.op = .call { callee := .builtin .append, args := #[s, x], argTypes := #[23, 23] })
    (base : Nat) (v : Value) (l : List EdgeV) (d : EdgeV) (hs : a.eval s = v) (hO : w.ownsRow base 45 3 v l.length (cellsE l)) (g : Nat) (hx : a.eval x = .slice (some ⟨g, 0, none⟩) 1 1)
    (h0 : w.cell? ⟨g, 0, none⟩ = some (.int .i64 d.f)) (h1 : w.cell? ⟨g, 1, none⟩ = some (.int .i64 d.t)) (h2 : w.cell? ⟨g, 2, none⟩ = some (.int .i64 d.o)) (hl : l.length ≤ 100000) (hbase : base ≤ w.heap.size)
    (h : ∀ v' w', w'.ownsRow base 45 3 v' (l.length + 1) (cellsE l ++ [.int .i64 d.f, .int .i64 d.t, .int .i64 d.o]) → w.grownBy w' v.ownBlock → (v'.ownBlock = v.ownBlock ∨ v'.ownBlock = some w.heap.size) → K (a.put o.dst v') w') : Oper.wp Try.prog o a w K Q := by
  obtain ⟨i, hi, hz, e1, e2⟩ := info_parts3 infoEd
  refine oper_append_blk w s x 23 ho base 45 i _ 3 24 Try.underlying23 hi hz e1 e2 rfl (by decide) v l.length (cellsE l) hs hO ⟨g, 0, none⟩ 1 1 [.int .i64 d.f, .int .i64 d.t, .int .i64 d.o] hx rfl ?_ ?_ (by unfold maxLen; omega) (by omega) hbase h
  · intro j u hj
    match j, hj with
    | 0, hj => simp at hj; subst hj; simpa [Addr.add] using h0
    | 1, hj => simp at hj; subst hj; simpa [Addr.add] using h1
    | 2, hj => simp at hj; subst hj; simpa [Addr.add] using h2
    | j + 3, hj => simp at hj
  · intro u hu
    simp at hu
    rcases hu with rfl | rfl | rfl <;> simp [Value.oneCell']

set_option maxHeartbeats 8000000 in
set_option maxRecDepth 100000 in
theorem byEvents_any (s : SysV) (w : World) (hr : SysR w s) (hok : okS s = true) :
    Calls Try.prog 29 #[.agg #[.int .i64 s.st, .slice s.EA s.el s.ec, .slice s.AA s.ar.length s.ac]] w (fun e w' => ∃ T c, e = .returned (.slice (some ⟨T, 0, none⟩) s.el c) ∧ TabE w' T s.el (fun e => evL s.ar (e : Nat)) ∧ Below w.heap.size w w') := by
  have hal := hr.hal
  have hel := hr.hel
  have HE := Lib.hid hr.re
  have HP := Lib.hid (okS_parts hok).2.2.2
  have hmk := run_make_tab s.el (by omega)
  have L0 : Hid (∀ e : Nat, evL (s.ar.take 0) (e : Int) = []) := fun _ => rfl
  have LS : Hid (∀ (k : Nat) (e : Nat), k < s.ar.length → evL (s.ar.take (k + 1)) (e : Int) = if (eA s.ar k).t = e then evL (s.ar.take k) e ++ [eA s.ar k] else evL (s.ar.take k) e) := fun k e hk => evL_take hk e
  have LL : Hid (∀ (k e : Nat), (evL (s.ar.take k) (e : Int)).length ≤ 400) := fun k e => Nat.le_trans (List.length_filter_le _ _) (by rw [List.length_take]; omega)
  have LE : Hid (∀ e : Nat, evL (s.ar.take s.ar.length) (e : Int) = evL s.ar e) := fun e => by rw [List.take_length]
  clear hr hok
  generalize hL : (fun (k e : Nat) => evL (s.ar.take k) (e : Int)) = L at *
  have hL' : ∀ k e : Nat, evL (s.ar.take k) (e : Int) = L k e := fun k e => by rw [← hL]
  simp only [hL'] at *
  clear hL hL'
  obtain ⟨sst, EA, el, ev, ec, AA, ar, ac⟩ := s
  dsimp only at *
  have BW1 : Hid (Below w.heap.size w (w.alloc (.cells #[.int .i64 sst, .slice EA el ec, .slice AA ar.length ac] 25))) := (Below.refl _ _).alloc (Nat.le_refl _) _
  have M0 : Hid (GrowT ((w.alloc (.cells #[.int .i64 sst, .slice EA el ec, .slice AA ar.length ac] 25)).alloc (.cells (madeCells #[.slice none 0 0] el) 23)) (w.heap.size + 1) (w.heap.size + 1 + 1) el 23 45 3 (fun e => (L 0 e).length) (fun e => cellsE (L 0 e)) (fun _ => .slice none 0 0)) := by
    have h := GrowT.start (w := (w.alloc (.cells #[.int .i64 sst, .slice EA el ec, .slice AA ar.length ac] 25))) el 23 45 3
    rw [World.size_alloc] at h
    exact h.congr (fun e _ => by rw [L0.out e]; rfl) (fun e _ => by rw [L0.out e]; rfl)
  have START : Hid (Below (w.heap.size + 1) (w.alloc (.cells #[.int .i64 sst, .slice EA el ec, .slice AA ar.length ac] 25)) ((w.alloc (.cells #[.int .i64 sst, .slice EA el ec, .slice AA ar.length ac] 25)).alloc (.cells (madeCells #[.slice none 0 0] el) 23))) := (Below.refl _ _).alloc (by rw [World.size_alloc]; exact Nat.le_refl _) _
  have q1 : (w.alloc (.cells #[.int .i64 sst, .slice EA el ec, .slice AA ar.length ac] 25)).cell? ⟨w.heap.size, 1, none⟩ = some (.slice EA el ec) := by simp
  have q2 : (w.alloc (.cells #[.int .i64 sst, .slice EA el ec, .slice AA ar.length ac] 25)).cell? ⟨w.heap.size, 2, none⟩ = some (.slice AA ar.length ac) := by simp
  have PQ : Hid (∀ W, Below (w.heap.size + 1) (w.alloc (.cells #[.int .i64 sst, .slice EA el ec, .slice AA ar.length ac] 25)) W → W.cell? ⟨w.heap.size, 1, none⟩ = some (.slice EA el ec) ∧ W.cell? ⟨w.heap.size, 2, none⟩ = some (.slice AA ar.length ac)) := fun W hW => by
    rw [← World.size_alloc] at hW
    exact ⟨keepc q1 hW, keepc q2 hW⟩
  have WG : Hid (∀ W, Below (w.heap.size + 1) (w.alloc (.cells #[.int .i64 sst, .slice EA el ec, .slice AA ar.length ac] 25)) W → Below w.heap.size w W) := fun W hW => BW1.out.trans (hW.mono (by omega))
  obtain ⟨e1, e2⟩ := PQ.out _ START.out
  clear q1 q2 BW1 L0
  go_enter Try.func29, Try.ntmps29
  go_wp2_with fail
  go_loopw [13] (fun q wr => ∃ (k : Nat) (vs : Nat → Value), k ≤ ar.length ∧ q = .int .i64 k ∧ Hid (GrowT wr (w.heap.size + 1) (w.heap.size + 1 + 1) el 23 45 3 (fun e => (L k e).length) (fun e => cellsE (L k e)) vs) ∧ Hid (Below (w.heap.size + 1) (w.alloc (.cells #[.int .i64 sst, .slice EA el ec, .slice AA ar.length ac] 25)) wr)) (fun q _ => ar.length - (intOf q).toNat)
  case atStart => exact ⟨0, _, by omega, rfl, M0, START⟩
  case round =>
    clear M0 START e1 e2
    obtain ⟨k, vs, hk, rfl, MR, BB⟩ := hrel
    have BG := Lib.hid (WG.out _ BB.out)
    by_cases hlt : k < ar.length
    · obtain ⟨e1, e2⟩ := PQ.out _ BB.out
      obtain ⟨b, off, eA', hb, c0, c1, c2⟩ := (HE.out.below BG.out (Nat.le_refl _)) k hlt
      have hxm := HP.out _ (eA_mem hlt)
      have LSk := fun e => LS.out k e hlt
      have LLk := LL.out k
      clear LS LL
      generalize eA ar k = x at *
      obtain ⟨xf, xt, xo⟩ := x
      dsimp only at *
      obtain ⟨e, rfl⟩ : ∃ e : Nat, xt = e := ⟨xt.toNat, by omega⟩
      have he : e < el := by omega
      clear hxm
      subst eA'
      have LSk := Lib.hid LSk
      have hv := MR.out.2.2.1.cell he
      have hown := own_ge (MR.out.2.2.2.1 e he)
      have hlen := LLk e
      clear LLk
      have hbig := BB.out.size
      rw [World.size_alloc] at hbig
      have hsz2 : w.heap.size + 1 < wr.heap.size := MR.out.2.2.1.lt
      generalize hvv : vs e = ve at *
      have HVV := Lib.hid hvv
      clear hvv
      obtain ⟨wb, hwb⟩ : ∃ wb, wb = wr.alloc (.cells #[.int .i64 xf, .int .i64 (e : Int), .int .i64 xo] 45) := ⟨_, rfl⟩
      have hwbs : wb.heap.size = wr.heap.size + 1 := by rw [hwb, World.size_alloc]
      have KB : Below wr.heap.size wr wb := by rw [hwb]; exact (Below.refl _ _).alloc (Nat.le_refl _) _
      have f0 : wb.cell? ⟨wr.heap.size, 0, none⟩ = some (.int .i64 xf) := by rw [hwb]; simp
      have f1 : wb.cell? ⟨wr.heap.size, 1, none⟩ = some (.int .i64 (e : Int)) := by rw [hwb]; simp
      have f2 : wb.cell? ⟨wr.heap.size, 2, none⟩ = some (.int .i64 xo) := by rw [hwb]; simp
      have MB := Lib.hid (MR.out.below KB)
      have hvb := keepc hv KB
      have BBb := Lib.hid (BB.out.trans (KB.mono (by omega)))
      clear MR KB hv
      go_wp2_with fail
      rw [← hwb]
      go_upto_region 5 with fail
      refine wp_region_held_drew (S := fun w' => w'.cell? ⟨wr.heap.size, 0, none⟩ = some (.int .i64 xf) ∧ w'.cell? ⟨wr.heap.size, 1, none⟩ = some (.int .i64 (e : Int)) ∧ w'.cell? ⟨wr.heap.size, 2, none⟩ = some (.int .i64 xo) ∧ Hid (Below (w.heap.size + 1) (w.alloc (.cells #[.int .i64 sst, .slice EA el ec, .slice (some ⟨b, off, none⟩) ar.length ac] 25)) w')) (by kernel_rfl) ?_ (fun hHeld => ?_)
      · exact ⟨f0, f1, f2, BBb.out.drew⟩
      refine wpAnyH_take (oi := ⟨_, _, _, _, _, _⟩) (i := 0) (v := ?_) rfl (by kernel_rfl) (by kernel_rfl) (by kernel_rfl) (fun _ _ _ h => h) (Or.inl ⟨by rfl, ?ya0⟩) (by assumption) ?ra0
      case ya0 => (intro w hSw; (try dsimp only at hSw); go_simp; (try with_reducible rfl))
      try simp only [Act.put, List.setIfInBounds_toArray, List.set_cons_zero, List.set_cons_succ]
      refine wpAnyH_take (oi := ⟨_, _, _, _, _, _⟩) (i := 1) (v := ?_) rfl (by kernel_rfl) (by kernel_rfl) (by kernel_rfl) (fun _ _ _ h => h) (Or.inl ⟨by rfl, ?ya1⟩) (by assumption) ?ra1
      case ya1 => (intro w hSw; (try dsimp only at hSw); go_simp; (try with_reducible rfl))
      try simp only [Act.put, List.setIfInBounds_toArray, List.set_cons_zero, List.set_cons_succ]
      refine wpAnyH_take (oi := ⟨_, _, _, _, _, _⟩) (i := 2) (v := ?_) rfl (by kernel_rfl) (by kernel_rfl) (by kernel_rfl) (fun _ _ _ h => h) (Or.inl ⟨by rfl, ?ya2⟩) (by assumption) ?ra2
      case ya2 => (intro w hSw; (try dsimp only at hSw); go_simp; (try with_reducible rfl))
      try simp only [Act.put, List.setIfInBounds_toArray, List.set_cons_zero, List.set_cons_succ]
      refine wpAnyH_take (oi := ⟨_, _, _, _, _, _⟩) (i := 3) (v := ?_) rfl (by kernel_rfl) (by kernel_rfl) (by kernel_rfl) (fun _ _ _ h => h) (Or.inl ⟨by rfl, ?ya3⟩) (by assumption) ?ra3
      case ya3 => (intro w hSw; (try dsimp only at hSw); go_simp; (try with_reducible rfl))
      try simp only [Act.put, List.setIfInBounds_toArray, List.set_cons_zero, List.set_cons_succ]
      refine wpAnyH_take (oi := ⟨_, _, _, _, _, _⟩) (i := 4) (v := ?_) rfl (by kernel_rfl) (by kernel_rfl) (by kernel_rfl) (fun _ _ _ h => h) (Or.inl ⟨by rfl, ?ya4⟩) (by assumption) ?ra4
      case ya4 => (intro w hSw; (try dsimp only at hSw); go_simp; (try with_reducible rfl))
      try simp only [Act.put, List.setIfInBounds_toArray, List.set_cons_zero, List.set_cons_succ]
      refine wpAnyH_take (oi := ⟨_, _, _, _, _, _⟩) (i := 5) (v := ?_) rfl (by kernel_rfl) (by kernel_rfl) (by kernel_rfl) (fun _ _ _ h => h) (Or.inl ⟨by rfl, ?ya5⟩) (by assumption) ?ra5
      case ya5 => (intro w hSw; (try dsimp only at hSw); go_simp; (try with_reducible rfl))
      try simp only [Act.put, List.setIfInBounds_toArray, List.set_cons_zero, List.set_cons_succ]
      refine wpAnyH_take (oi := ⟨_, _, _, _, _, _⟩) (i := 6) (v := ?_) rfl (by kernel_rfl) (by kernel_rfl) (by kernel_rfl) (fun _ _ _ h => h) (Or.inl ⟨by rfl, ?ya6⟩) (by assumption) ?ra6
      case ya6 => (intro w hSw; (try dsimp only at hSw); go_simp; (try with_reducible rfl))
      try simp only [Act.put, List.setIfInBounds_toArray, List.set_cons_zero, List.set_cons_succ]
      refine wpAnyH_take (oi := ⟨_, _, _, _, _, _⟩) (i := 8) (v := ?_) rfl (by kernel_rfl) (by kernel_rfl) (by kernel_rfl) (fun _ _ _ h => h) (Or.inl ⟨by rfl, ?ya8⟩) (by assumption) ?ra8
      case ya8 => (intro w hSw; (try dsimp only at hSw); go_simp; (try with_reducible rfl))
      try simp only [Act.put, List.setIfInBounds_toArray, List.set_cons_zero, List.set_cons_succ]
      have M4 : Hid (GrowT wb.drew (w.heap.size + 1) (w.heap.size + 1 + 1) el 23 45 3 (fun e => (L k e).length) (fun e => cellsE (L k e)) vs) := MB.out.drew
      have hv4 : wb.drew.cell? ⟨w.heap.size + 1, e, none⟩ = some ve := hvb
      have hs4 : wb.drew.heap.size = wr.heap.size + 1 := hwbs
      generalize wb.drew = w4 at *
      refine wpAnyH_ready (rs := [7, 9]) (by kernel_rfl) (by simp) ?_
      refine AllReadyH.cons (o := ⟨_, _, _, _, _, _⟩) rfl (fun K hK => ?_) (AllReadyH.cons (o := ⟨_, _, _, _, _, _⟩) rfl (fun K hK => ?_) AllReadyH.nil)
      · skip
        rw [if_pos (by rfl)]
        go_simp
        refine hK.out _ _ ?_ (fun hHeld2 => ?_)
        · exact hHeld
        clear hK K hHeld
        have hHeld := hHeld2
        clear hHeld2
        try simp only [Act.put, List.setIfInBounds_toArray, List.set_cons_zero, List.set_cons_succ]
        refine wpAnyH_ready (rs := [9]) (by kernel_rfl) (by simp) ?_
        refine AllReadyH.cons (o := ⟨_, _, _, _, _, _⟩) rfl (fun K hK => ?_) AllReadyH.nil
        rw [if_pos (by rfl)]
        have LA : Below w4.heap.size w4 (w4.alloc (.cells #[.int .i64 xf, .int .i64 (e : Int), .int .i64 xo] 45)) := (Below.refl _ _).alloc (Nat.le_refl _) _
        have hv5 := keepc hv4 LA
        have M5 := Lib.hid (M4.out.below LA)
        go_simp
        refine hK.out _ _ ?_ (fun hHeld2 => ?_)
        · obtain ⟨h1, h2, h3, h4⟩ := hHeld; exact ⟨keepc h1 LA, keepc h2 LA, keepc h3 LA, h4.out.trans (LA.mono (by omega))⟩
        clear hK K hHeld
        have hHeld := hHeld2
        clear hHeld2 M4
        obtain ⟨w5, hw5⟩ : ∃ w5, w5 = w4.alloc (.cells #[.int .i64 xf, .int .i64 (e : Int), .int .i64 xo] 45) := ⟨_, rfl⟩
        rw [← hw5] at hHeld M5 LA hv5 ⊢
        have hs5 : w5.heap.size = wr.heap.size + 1 + 1 := by rw [hw5, World.size_alloc, hs4]
        have g0 : w5.cell? ⟨wr.heap.size + 1, 0, none⟩ = some (.int .i64 xf) := by rw [hw5, ← hs4]; simp
        have g1 : w5.cell? ⟨wr.heap.size + 1, 1, none⟩ = some (.int .i64 (e : Int)) := by rw [hw5, ← hs4]; simp
        have g2 : w5.cell? ⟨wr.heap.size + 1, 2, none⟩ = some (.int .i64 xo) := by rw [hw5, ← hs4]; simp
        clear hw5 LA
        have hOw : w5.ownsRow (w.heap.size + 1 + 1) 45 3 ve (L k e).length (cellsE (L k e)) := by have := M5.out.2.2.2.1 e he; rw [HVV.out] at this; exact this
        try simp only [Act.put, List.setIfInBounds_toArray, List.set_cons_zero, List.set_cons_succ]
        refine wpAnyH_ready (rs := [10]) (by kernel_rfl) (by simp) ?_
        refine AllReadyH.cons (o := ⟨_, _, _, _, _, _⟩) rfl (fun K hK => ?_) AllReadyH.nil
        rw [if_pos (by rfl)]
        refine oper_edge (.tmp 24) (.tmp 26) rfl (w.heap.size + 1 + 1) ve (L k e) ⟨xf, e, xo⟩ rfl hOw (wr.heap.size + 1) rfl g0 g1 g2 (by omega) (by omega) ?_
        intro v' w6 ho6 hg6 hb6
        obtain ⟨gv, cv, hv'⟩ : ∃ gv cv, v' = .slice (some ⟨gv, 0, none⟩) ((L k e).length + 1) cv := by rcases ho6.2 with ⟨_, h0⟩ | ⟨g, cap, cur, h1, _⟩; (exact absurd h0 (by omega)); exact ⟨g, cap, h1⟩
        subst hv'
        have hnb : ∀ q, ve.ownBlock = some q → w.heap.size + 1 + 1 ≤ q ∧ q < wr.heap.size := fun q hq => by rcases hown with h | ⟨g, h, h1, h2⟩; (rw [h] at hq; cases hq); (rw [h] at hq; injection hq with hq; subst hq; exact ⟨h1, h2⟩)
        have BG6 : Below (w.heap.size + 1) (w.alloc (.cells #[.int .i64 sst, .slice EA el ec, .slice (some ⟨b, off, none⟩) ar.length ac] 25)) w6 := hHeld.2.2.2.out.trans ((Below.refl _ w5).grown hg6 (by omega) fun q hq => by have := (hnb q hq).1; omega)
        have M6 : Hid (GrowT (w6.setCell ⟨w.heap.size + 1, e, none⟩ (.slice (some ⟨gv, 0, none⟩) ((L k e).length + 1) cv)) (w.heap.size + 1) (w.heap.size + 1 + 1) el 23 45 3 _ _ _) := M5.out.step he ho6 (by rw [HVV.out]; exact hg6) (by rw [HVV.out]; exact hb6)
        have nb : some wr.heap.size ≠ ve.ownBlock := fun c => by have := (hnb _ c.symm).2; omega
        refine hK.out _ _ ?_ (fun hHeld2 => ?_)
        · exact ⟨hg6.cell hHeld.1 nb, hg6.cell hHeld.2.1 nb, hg6.cell hHeld.2.2.1 nb, BG6⟩
        clear hK K hHeld
        have hHeld := hHeld2
        clear hHeld2 g0 g1 g2
        have ct : ∃ u, w6.cell? ⟨w.heap.size + 1, e, none⟩ = some u := by have h := M5.out.2.2.1.cell he; exact ⟨_, hg6.cell h (fun c => by have h9 : w.heap.size + 1 + 1 ≤ w.heap.size + 1 := (hnb _ c.symm).1; omega)⟩
        have cf : w6.frozen? ⟨w.heap.size + 1, e, none⟩ = false := by have h := M5.out.2.2.1.of_block (hg6.block _ M5.out.2.2.1.lt (fun c => by have h9 : w.heap.size + 1 + 1 ≤ w.heap.size + 1 := (hnb _ c.symm).1; omega)); exact h.frozen e
        obtain ⟨cu, ct⟩ := ct
        try simp only [Act.put, List.setIfInBounds_toArray, List.set_cons_zero, List.set_cons_succ]
        refine wpAnyH_take (oi := ⟨_, _, _, _, _, _⟩) (i := 11) (v := ?_) rfl (by kernel_rfl) (by kernel_rfl) (by kernel_rfl) (fun _ _ _ h => h) (Or.inl ⟨by rfl, ?yc11⟩) (by assumption) ?rc11
        case yc11 => (intro w hSw; (try dsimp only at hSw); go_simp; (try with_reducible rfl))
        try simp only [Act.put, List.setIfInBounds_toArray, List.set_cons_zero, List.set_cons_succ]
        refine wpAnyH_ready (rs := [12]) (by kernel_rfl) (by simp) ?_
        refine AllReadyH.cons (o := ⟨_, _, _, _, _, _⟩) rfl (fun K hK => ?_) AllReadyH.nil
        rw [if_pos (by rfl)]
        have BS := Lib.hid (hHeld.2.2.2.out.setCell (p := ⟨w.heap.size + 1, e, none⟩) (by show w.heap.size + 1 ≤ w.heap.size + 1; omega) (.slice (some ⟨gv, 0, none⟩) ((L k e).length + 1) cv))
        go_simp
        refine hK.out _ _ ?_ (fun hHeld2 => ?_)
        · refine ⟨?_, ?_, ?_, BS⟩ <;> (rw [World.cell?_of_block (blk_setCell_other _ _ _ _ (by show wr.heap.size ≠ w.heap.size + 1; omega))]; first | exact hHeld.1 | exact hHeld.2.1 | exact hHeld.2.2.1)
        clear hK K hHeld hHeld2
        try simp only [Act.put, List.setIfInBounds_toArray, List.set_cons_zero, List.set_cons_succ]
        refine wpAnyH_done (by kernel_rfl) ?_ _
        have M7 := Lib.hid (M6.out.congr (ln' := fun i => (L (k + 1) i).length) (X' := fun i => cellsE (L (k + 1) i)) (fun i _ => by
          rw [LSk.out i]
          by_cases hie : i = e
          · rw [if_pos hie, if_pos (by rw [hie]), hie]; simp
          · rw [if_neg hie, if_neg (fun c => hie (by omega))]) (fun i _ => by
          rw [LSk.out i]
          by_cases hie : i = e
          · rw [if_pos hie, if_pos (by rw [hie]), hie, cellsE_snoc]
          · rw [if_neg hie, if_neg (fun c => hie (by omega))]))
        go_wp2
        go_roundw
        case rel => exact ⟨k + 1, _, by omega, by go_num, M7, BS⟩
        case measure => simp [intOf]; omega
      · skip
        rw [if_pos (by rfl)]
        have LA : Below w4.heap.size w4 (w4.alloc (.cells #[.int .i64 xf, .int .i64 (e : Int), .int .i64 xo] 45)) := (Below.refl _ _).alloc (Nat.le_refl _) _
        have hv5 := keepc hv4 LA
        have M5 := Lib.hid (M4.out.below LA)
        go_simp
        refine hK.out _ _ ?_ (fun hHeld2 => ?_)
        · obtain ⟨h1, h2, h3, h4⟩ := hHeld; exact ⟨keepc h1 LA, keepc h2 LA, keepc h3 LA, h4.out.trans (LA.mono (by omega))⟩
        clear hK K hHeld
        have hHeld := hHeld2
        clear hHeld2 M4
        obtain ⟨w5, hw5⟩ : ∃ w5, w5 = w4.alloc (.cells #[.int .i64 xf, .int .i64 (e : Int), .int .i64 xo] 45) := ⟨_, rfl⟩
        rw [← hw5] at hHeld M5 LA hv5 ⊢
        have hs5 : w5.heap.size = wr.heap.size + 1 + 1 := by rw [hw5, World.size_alloc, hs4]
        have g0 : w5.cell? ⟨wr.heap.size + 1, 0, none⟩ = some (.int .i64 xf) := by rw [hw5, ← hs4]; simp
        have g1 : w5.cell? ⟨wr.heap.size + 1, 1, none⟩ = some (.int .i64 (e : Int)) := by rw [hw5, ← hs4]; simp
        have g2 : w5.cell? ⟨wr.heap.size + 1, 2, none⟩ = some (.int .i64 xo) := by rw [hw5, ← hs4]; simp
        clear hw5 LA
        have hOw : w5.ownsRow (w.heap.size + 1 + 1) 45 3 ve (L k e).length (cellsE (L k e)) := by have := M5.out.2.2.2.1 e he; rw [HVV.out] at this; exact this
        try simp only [Act.put, List.setIfInBounds_toArray, List.set_cons_zero, List.set_cons_succ]
        refine wpAnyH_ready (rs := [7]) (by kernel_rfl) (by simp) ?_
        refine AllReadyH.cons (o := ⟨_, _, _, _, _, _⟩) rfl (fun K hK => ?_) AllReadyH.nil
        rw [if_pos (by rfl)]
        go_simp
        refine hK.out _ _ ?_ (fun hHeld2 => ?_)
        · exact hHeld
        clear hK K hHeld
        have hHeld := hHeld2
        clear hHeld2
        try simp only [Act.put, List.setIfInBounds_toArray, List.set_cons_zero, List.set_cons_succ]
        refine wpAnyH_ready (rs := [10]) (by kernel_rfl) (by simp) ?_
        refine AllReadyH.cons (o := ⟨_, _, _, _, _, _⟩) rfl (fun K hK => ?_) AllReadyH.nil
        rw [if_pos (by rfl)]
        refine oper_edge (.tmp 24) (.tmp 26) rfl (w.heap.size + 1 + 1) ve (L k e) ⟨xf, e, xo⟩ rfl hOw (wr.heap.size + 1) rfl g0 g1 g2 (by omega) (by omega) ?_
        intro v' w6 ho6 hg6 hb6
        obtain ⟨gv, cv, hv'⟩ : ∃ gv cv, v' = .slice (some ⟨gv, 0, none⟩) ((L k e).length + 1) cv := by rcases ho6.2 with ⟨_, h0⟩ | ⟨g, cap, cur, h1, _⟩; (exact absurd h0 (by omega)); exact ⟨g, cap, h1⟩
        subst hv'
        have hnb : ∀ q, ve.ownBlock = some q → w.heap.size + 1 + 1 ≤ q ∧ q < wr.heap.size := fun q hq => by rcases hown with h | ⟨g, h, h1, h2⟩; (rw [h] at hq; cases hq); (rw [h] at hq; injection hq with hq; subst hq; exact ⟨h1, h2⟩)
        have BG6 : Below (w.heap.size + 1) (w.alloc (.cells #[.int .i64 sst, .slice EA el ec, .slice (some ⟨b, off, none⟩) ar.length ac] 25)) w6 := hHeld.2.2.2.out.trans ((Below.refl _ w5).grown hg6 (by omega) fun q hq => by have := (hnb q hq).1; omega)
        have M6 : Hid (GrowT (w6.setCell ⟨w.heap.size + 1, e, none⟩ (.slice (some ⟨gv, 0, none⟩) ((L k e).length + 1) cv)) (w.heap.size + 1) (w.heap.size + 1 + 1) el 23 45 3 _ _ _) := M5.out.step he ho6 (by rw [HVV.out]; exact hg6) (by rw [HVV.out]; exact hb6)
        have nb : some wr.heap.size ≠ ve.ownBlock := fun c => by have := (hnb _ c.symm).2; omega
        refine hK.out _ _ ?_ (fun hHeld2 => ?_)
        · exact ⟨hg6.cell hHeld.1 nb, hg6.cell hHeld.2.1 nb, hg6.cell hHeld.2.2.1 nb, BG6⟩
        clear hK K hHeld
        have hHeld := hHeld2
        clear hHeld2 g0 g1 g2
        have ct : ∃ u, w6.cell? ⟨w.heap.size + 1, e, none⟩ = some u := by have h := M5.out.2.2.1.cell he; exact ⟨_, hg6.cell h (fun c => by have h9 : w.heap.size + 1 + 1 ≤ w.heap.size + 1 := (hnb _ c.symm).1; omega)⟩
        have cf : w6.frozen? ⟨w.heap.size + 1, e, none⟩ = false := by have h := M5.out.2.2.1.of_block (hg6.block _ M5.out.2.2.1.lt (fun c => by have h9 : w.heap.size + 1 + 1 ≤ w.heap.size + 1 := (hnb _ c.symm).1; omega)); exact h.frozen e
        obtain ⟨cu, ct⟩ := ct
        try simp only [Act.put, List.setIfInBounds_toArray, List.set_cons_zero, List.set_cons_succ]
        refine wpAnyH_take (oi := ⟨_, _, _, _, _, _⟩) (i := 11) (v := ?_) rfl (by kernel_rfl) (by kernel_rfl) (by kernel_rfl) (fun _ _ _ h => h) (Or.inl ⟨by rfl, ?yd11⟩) (by assumption) ?rd11
        case yd11 => (intro w hSw; (try dsimp only at hSw); go_simp; (try with_reducible rfl))
        try simp only [Act.put, List.setIfInBounds_toArray, List.set_cons_zero, List.set_cons_succ]
        refine wpAnyH_ready (rs := [12]) (by kernel_rfl) (by simp) ?_
        refine AllReadyH.cons (o := ⟨_, _, _, _, _, _⟩) rfl (fun K hK => ?_) AllReadyH.nil
        rw [if_pos (by rfl)]
        have BS := Lib.hid (hHeld.2.2.2.out.setCell (p := ⟨w.heap.size + 1, e, none⟩) (by show w.heap.size + 1 ≤ w.heap.size + 1; omega) (.slice (some ⟨gv, 0, none⟩) ((L k e).length + 1) cv))
        go_simp
        refine hK.out _ _ ?_ (fun hHeld2 => ?_)
        · refine ⟨?_, ?_, ?_, BS⟩ <;> (rw [World.cell?_of_block (blk_setCell_other _ _ _ _ (by show wr.heap.size ≠ w.heap.size + 1; omega))]; first | exact hHeld.1 | exact hHeld.2.1 | exact hHeld.2.2.1)
        clear hK K hHeld hHeld2
        try simp only [Act.put, List.setIfInBounds_toArray, List.set_cons_zero, List.set_cons_succ]
        refine wpAnyH_done (by kernel_rfl) ?_ _
        have M7 := Lib.hid (M6.out.congr (ln' := fun i => (L (k + 1) i).length) (X' := fun i => cellsE (L (k + 1) i)) (fun i _ => by
          rw [LSk.out i]
          by_cases hie : i = e
          · rw [if_pos hie, if_pos (by rw [hie]), hie]; simp
          · rw [if_neg hie, if_neg (fun c => hie (by omega))]) (fun i _ => by
          rw [LSk.out i]
          by_cases hie : i = e
          · rw [if_pos hie, if_pos (by rw [hie]), hie, cellsE_snoc]
          · rw [if_neg hie, if_neg (fun c => hie (by omega))]))
        go_wp2
        go_roundw
        case rel => exact ⟨k + 1, _, by omega, by go_num, M7, BS⟩
        case measure => simp [intOf]; omega
    · obtain rfl : k = ar.length := by omega
      have TB := Lib.hid (MR.out.tab)
      go_wp2
      go_ret
      refine ⟨w.heap.size + 1, el, rfl, fun e he => ?_, BG.out⟩
      have h := TB.out e he
      rw [LE.out e] at h
      exact h
end Go.Proofs.Ytnlgfkokaphhjaa
