/- Push of digraph's queue. -/
import Derived.Test.YtdfljeonoallfaaGHW
import Derived.Test.YtdfljeonoallfaaGHV
import Derived.Maps.AppendAt
namespace Go.Proofs.Ytdfljeonoallfaa
open Go.RowKit Go.Deep

/-- a heap of numbers in memory, the empty one too -/
structure HeapQ (W : World) (Q base : Nat) (hv : Value) (m : Nat) (q : Nat → Int) : Prop where
  cell : W.cell? ⟨Q, 0, none⟩ = some hv
  frz : W.frozen? ⟨Q, 0, none⟩ = false
  own : W.ownsRow base 3 1 hv m ((tab m q).map (Value.int .i64))
  lt : hv.ownBlock ≠ some Q
  hm : m ≤ 100000
theorem HeapS.toQ {W : World} {Q base g m c : Nat} {q : Nat → Int} (h : HeapS W Q base g m c q) : HeapQ W Q base (.slice (some ⟨g, 0, none⟩) m c) m q := ⟨h.cell, h.frz, h.own, fun e => by injection e with e; exact h.lt e.symm, h.hm⟩
theorem HeapQ.toS {W : World} {Q base m : Nat} {hv : Value} {q : Nat → Int} (h : HeapQ W Q base hv m q) (h0 : 0 < m) : ∃ g c, hv = .slice (some ⟨g, 0, none⟩) m c ∧ HeapS W Q base g m c q := by
  rcases h.own.2 with ⟨_, e⟩ | ⟨g, cap, cur, e, _⟩
  · omega
  · subst e
    exact ⟨g, cap, rfl, h.cell, h.frz, h.own, fun e => h.lt (by rw [e]; rfl), h.hm⟩
theorem HeapQ.drew {W : World} {Q base m : Nat} {hv : Value} {q : Nat → Int} (h : HeapQ W Q base hv m q) : HeapQ W.drew Q base hv m q := ⟨h.cell, h.frz, h.own, h.lt, h.hm⟩
theorem HeapQ.keep {W W' : World} {Q base m : Nat} {hv : Value} {q : Nat → Int} {S : Nat → Prop} (h : HeapQ W Q base hv m q) (k : KeepOn S W W') (hQ : S Q) (hg : ∀ g, hv.ownBlock = some g → S g) : HeapQ W' Q base hv m q := by
  have hb := World.block_lt_of_cell? W ⟨Q, 0, none⟩ h.cell
  refine ⟨k.cell h.cell hQ, ?_, k.own h.own hg, h.lt, h.hm⟩
  have e : W'.heap[Q]? = W.heap[Q]? := k.block Q hb hQ
  have h2 := h.frz
  unfold World.frozen? at h2 ⊢
  rw [e]
  exact h2
theorem HeapQ.alloc {W : World} {Q base m : Nat} {hv : Value} {q : Nat → Int} (h : HeapQ W Q base hv m q) (o : Obj) : HeapQ (W.alloc o) Q base hv m q := h.keep (KeepOn.alloc (S := fun _ => True) _ _) trivial fun _ _ => trivial
theorem oper_que {o : Oper} {a : Act} {w : World} {K : Act → World → Prop} {Q : Exit → Act → World → Prop} (s x : Operand)
    (ho : o.op = .call { callee := .builtin .append, args := #[s, x], argTypes := #[48, 48] })
    (base : Nat) (v : Value) (m : Nat) (q : Nat → Int) (z : Int) (hs : a.eval s = v) (hO : w.ownsRow base 3 1 v m ((tab m q).map (Value.int .i64))) (g : Nat) (hx : a.eval x = .slice (some ⟨g, 0, none⟩) 1 1)
    (hc : w.cell? ⟨g, 0, none⟩ = some (.int .i64 z)) (hl : m ≤ 100000) (hbase : base ≤ w.heap.size)
    (h : ∀ v' w', w'.ownsRow base 3 1 v' (m + 1) ((tab m q).map (Value.int .i64) ++ [.int .i64 z]) → w.grownBy w' v.ownBlock → (v'.ownBlock = v.ownBlock ∨ v'.ownBlock = some w.heap.size) → K (a.put o.dst v') w') : Oper.wp Try.prog o a w K Q := by
  obtain ⟨i, hi, hz, h1, h2⟩ := info_parts infoI
  obtain ⟨v', w', hr, h3, h4, _, h5⟩ := run_append_own_at (P := Try.prog) (w := w) base 48 o.type 3 i (.int .i64 0) 1 8 Try.underlying48 hi hz h1 h2 rfl (by decide) v m _ hO ⟨g, 0, none⟩ 1 1 [.int .i64 z] rfl (by
    intro j u hj
    cases j with
    | zero => simp at hj; subst hj; simpa [Addr.add] using hc
    | succ j => simp at hj) (by
    intro u hu
    simp at hu
    subst hu
    simp [Value.oneCell']) (by unfold maxLen; omega) (by omega) hbase
  unfold Oper.wp execOp
  simp only [ho, resolve, invoke, builtin, Sem.run_bind, Sem.run_pure, Result.andThen_ok, List.map_toArray, List.map_cons, List.map_nil, hs, hx, hr]
  exact h v' w' h3 h4 h5
theorem tab_push (m : Nat) (q : Nat → Int) (x : Int) : (tab (m + 1) fun k => if k = m then x else q k) = tab m q ++ [x] := by
  refine List.ext_getElem? fun i => ?_
  unfold tab
  by_cases h : i < m
  · rw [List.getElem?_append_left (by simp; exact h)]
    simp [h, Nat.lt_succ_of_lt h, Nat.ne_of_lt h]
  · by_cases e : i = m
    · subst e
      simp
    · rw [List.getElem?_eq_none (by simp; omega), List.getElem?_eq_none (by simp; omega)]
theorem qpush_step {w w5 w6 : World} {Q base m : Nat} {hv v' : Value} {q : Nat → Int} {x : Int} (h : HeapQ w5 Q base hv m q) (hm : m < 100000) (ho : w6.ownsRow base 3 1 v' (m + 1) ((tab m q).map (Value.int .i64) ++ [.int .i64 x])) (hg : w5.grownBy w6 hv.ownBlock) (hb : v'.ownBlock = hv.ownBlock ∨ v'.ownBlock = some w5.heap.size) (hz : w.heap.size ≤ w5.heap.size) :
    ∃ g c, v' = .slice (some ⟨g, 0, none⟩) (m + 1) c ∧ HeapS (w6.setCell ⟨Q, 0, none⟩ v') Q base g (m + 1) c (fun k => if k = m then x else q k) ∧ KeepOn (fun k => k ≠ Q ∧ hv.ownBlock ≠ some k) w5 w6 ∧ (hv.ownBlock = some g ∨ w.heap.size ≤ g) ∧ w6.cell? ⟨Q, 0, none⟩ = some hv ∧ w6.frozen? ⟨Q, 0, none⟩ = false := by
  have hQ := World.block_lt_of_cell? w5 ⟨Q, 0, none⟩ h.cell
  have hQo : some Q ≠ hv.ownBlock := fun e => h.lt e.symm
  have e6 : w6.heap[Q]? = w5.heap[Q]? := hg.block Q hQ hQo
  have hc6 : w6.cell? ⟨Q, 0, none⟩ = some hv := (World.cell?_of_block (w := w5) (a := ⟨Q, 0, none⟩) e6).trans h.cell
  have hf6 : w6.frozen? ⟨Q, 0, none⟩ = false := (World.frozen?_of_block (w := w5) (a := ⟨Q, 0, none⟩) e6).trans h.frz
  rcases ho.2 with ⟨_, e⟩ | ⟨g, cap, cur, e, hbg, _⟩
  · omega
  · subst e
    have hQg : Q ≠ g := fun c => by
      rcases hb with e | e
      · exact h.lt (by rw [← e, c]; rfl)
      · injection e with e
        have e : g = w5.heap.size := e
        have hQ : Q < w5.heap.size := hQ
        omega
    refine ⟨g, cap, rfl, ⟨?_, ?_, ?_, hQg, by omega⟩, ⟨hg.os, hg.tape, hg.output, hg.size, fun k hk hs => hg.block k hk fun e => hs.2 e.symm⟩, ?_, hc6, hf6⟩
    · simp [go_sem, hc6]
    · simp [go_sem, hf6]
    · rw [tab_push, List.map_append]
      exact own_block ho fun g' e => by
        injection e with e
        rw [← e]
        exact blk_setCell_other _ _ _ _ (fun c => hQg c.symm)
    · rcases hb with e | e
      · left; rw [← e]; rfl
      · right
        injection e with e
        have e : g = w5.heap.size := e
        omega
theorem ta_int (x : Int) (w : World) : Sem.run Try.prog (Instr.typeAssert (.iface 3 (.int .i64 x)) 20 3 false) w = .ok (.int .i64 x) w := by kernel_rfl
set_option maxHeartbeats 4000000 in
set_option maxRecDepth 100000 in
theorem qpush_any (Q base m : Nat) (hv : Value) (q : Nat → Int) (x : Int) (w : World) (H : HeapQ w Q base hv m q) (hm : m < 100000) (hb : base ≤ w.heap.size) :
    Calls Try.prog 65 #[.pointer (some ⟨Q, 0, none⟩), .iface 3 (.int .i64 x)] w fun e w' => (∃ z, e = .returned z) ∧ ∃ g c, HeapS w' Q base g (m + 1) c (fun k => if k = m then x else q k) ∧ KeepOn (fun k => k ≠ Q ∧ hv.ownBlock ≠ some k) w w' ∧ (hv.ownBlock = some g ∨ w.heap.size ≤ g) := by
  have hz : w.heap.size ≤ w.heap.size := Nat.le_refl _
  go_enter Try.func65, Try.ntmps65
  go_wp2
  go_upto_region 10 with fail
  refine wp_region_held_drew (S := fun w' => True) (by kernel_rfl) ?_ (fun hHeld => ?_)
  · trivial
  refine wpAnyH_take (oi := ⟨_, _, _, _, _, _⟩) (i := 0) (v := ?_) rfl (by kernel_rfl) (by kernel_rfl) (by kernel_rfl) (fun _ _ _ h => h) (Or.inl ⟨by rfl, ?ya0⟩) (by assumption) ?ra0
  case ya0 => (intro w hSw; (try dsimp only at hSw); go_simp; (try with_reducible rfl))
  try simp only [Act.put, List.setIfInBounds_toArray, List.set_cons_zero, List.set_cons_succ]
  refine wpAnyH_take (oi := ⟨_, _, _, _, _, _⟩) (i := 1) (v := ?_) rfl (by kernel_rfl) (by kernel_rfl) (by kernel_rfl) (fun _ _ _ h => h) (Or.inl ⟨by rfl, ?ya1⟩) (by assumption) ?ra1
  case ya1 => (intro w hSw; (try dsimp only at hSw); go_simp; (try with_reducible rfl))
  try simp only [Act.put, List.setIfInBounds_toArray, List.set_cons_zero, List.set_cons_succ]
  refine wpAnyH_take (oi := ⟨_, _, _, _, _, _⟩) (i := 2) (v := ?_) rfl (by kernel_rfl) (by kernel_rfl) (by kernel_rfl) (fun _ _ _ h => h) (Or.inl ⟨by rfl, ?ya2⟩) (by assumption) ?ra2
  case ya2 => (intro w hSw; (try dsimp only at hSw); go_simp; (try with_reducible rfl))
  try simp only [Act.put, List.setIfInBounds_toArray, List.set_cons_zero, List.set_cons_succ]
  refine wpAnyH_take (oi := ⟨_, _, _, _, _, _⟩) (i := 4) (v := ?_) rfl (by kernel_rfl) (by kernel_rfl) (by kernel_rfl) (fun _ _ _ h => h) (Or.inl ⟨by rfl, ?ya4⟩) (by assumption) ?ra4
  case ya4 => (intro w hSw; (try dsimp only at hSw); go_simp; (try with_reducible rfl))
  try simp only [Act.put, List.setIfInBounds_toArray, List.set_cons_zero, List.set_cons_succ]
  refine wpAnyH_take (oi := ⟨_, _, _, _, _, _⟩) (i := 5) (v := ?_) rfl (by kernel_rfl) (by kernel_rfl) (by kernel_rfl) (fun _ _ _ h => h) (Or.inl ⟨by rfl, ?ya5⟩) (by assumption) ?ra5
  case ya5 => (intro w hSw; (try dsimp only at hSw); go_simp; rw [ta_int]; rfl)
  try simp only [Act.put, List.setIfInBounds_toArray, List.set_cons_zero, List.set_cons_succ]
  have HQ4 : Hid (HeapQ w.drew Q base hv m q) := H.drew
  have HK4 : Hid (KeepOn (fun k => k ≠ Q ∧ hv.ownBlock ≠ some k) w w.drew) := KeepOn.drew _
  have hz4 : w.heap.size ≤ w.drew.heap.size := Nat.le_refl _
  have hb4 : base ≤ w.drew.heap.size := hb
  generalize w.drew = w4 at *
  have hc4 := HQ4.out.cell
  have HQ5 : Hid (HeapQ (w4.alloc (.cells #[.int .i64 x] 3)) Q base hv m q) := HQ4.out.alloc _
  have HK5 : Hid (KeepOn (fun k => k ≠ Q ∧ hv.ownBlock ≠ some k) w (w4.alloc (.cells #[.int .i64 x] 3))) := HK4.out.trans (KeepOn.alloc _ _)
  have hc5 := HQ5.out.cell
  refine wpAnyH_ready (rs := [3, 6]) (by kernel_rfl) (by simp) ?_
  refine AllReadyH.cons (o := ⟨_, _, _, _, _, _⟩) rfl (fun K hK => ?_) (AllReadyH.cons (o := ⟨_, _, _, _, _, _⟩) rfl (fun K hK => ?_) AllReadyH.nil)
  · as_aux_lemma =>
      rw [if_pos (by rfl)]
      go_simp
      refine hK.out _ _ trivial (fun hHeld2 => ?_)
      clear hK K hHeld
      have hHeld := hHeld2
      clear hHeld2
      try simp only [Act.put, List.setIfInBounds_toArray, List.set_cons_zero, List.set_cons_succ]
      refine wpAnyH_ready (rs := [6]) (by kernel_rfl) (by simp) ?_
      refine AllReadyH.cons (o := ⟨_, _, _, _, _, _⟩) rfl (fun K hK => ?_) AllReadyH.nil
      rw [if_pos (by rfl)]
      go_simp
      refine hK.out _ _ trivial (fun hHeld2 => ?_)
      clear hK K hHeld
      have hHeld := hHeld2
      clear hHeld2
      try simp only [Act.put, List.setIfInBounds_toArray, List.set_cons_zero, List.set_cons_succ]
      refine wpAnyH_ready (rs := [7]) (by kernel_rfl) (by simp) ?_
      refine AllReadyH.cons (o := ⟨_, _, _, _, _, _⟩) rfl (fun K hK => ?_) AllReadyH.nil
      rw [if_pos (by rfl)]
      refine oper_que (.tmp 7) (.tmp 10) rfl base hv m q x rfl HQ5.out.own w4.heap.size rfl (cell_new1 _ _ _) (by omega) (size_le_alloc hb4 _) ?_
      intro v' w6 hown' hg6 ho6
      obtain ⟨g6, c6, e6, hq6, hk6, hn6, hc6, hf6⟩ := qpush_step HQ5.out hm hown' hg6 ho6 (size_le_alloc hz4 _)
      subst e6
      have HK6 := Lib.hid ((HK5.out.trans hk6).trans (KeepOn.set w6 ⟨Q, 0, none⟩ (.slice (some ⟨g6, 0, none⟩) (m + 1) c6) fun h => h.1 rfl))
      have HQ6 := Lib.hid hq6
      have HN6 := Lib.hid hn6
      clear hq6 hk6 hn6 hown' hg6 ho6 HQ5 HK5
      refine hK.out _ _ trivial (fun hHeld2 => ?_)
      clear hK K hHeld
      have hHeld := hHeld2
      clear hHeld2
      try simp only [Act.put, List.setIfInBounds_toArray, List.set_cons_zero, List.set_cons_succ]
      refine wpAnyH_take (oi := ⟨_, _, _, _, _, _⟩) (i := 8) (v := ?_) rfl (by kernel_rfl) (by kernel_rfl) (by kernel_rfl) (fun _ _ _ h => h) (Or.inl ⟨by rfl, ?yc8x⟩) (by assumption) ?rc8x
      case yc8x => (intro w hSw; (try dsimp only at hSw); go_simp; (try with_reducible rfl))
      try simp only [Act.put, List.setIfInBounds_toArray, List.set_cons_zero, List.set_cons_succ]
      refine wpAnyH_ready (rs := [9]) (by kernel_rfl) (by simp) ?_
      refine AllReadyH.cons (o := ⟨_, _, _, _, _, _⟩) rfl (fun K hK => ?_) AllReadyH.nil
      rw [if_pos (by rfl)]
      go_simp
      refine hK.out _ _ trivial (fun hHeld2 => ?_)
      clear hK K hHeld
      have hHeld := hHeld2
      clear hHeld2
      try simp only [Act.put, List.setIfInBounds_toArray, List.set_cons_zero, List.set_cons_succ]
      refine wpAnyH_done (by kernel_rfl) ?_ _
      go_wp2
      go_end0
      exact ⟨⟨_, rfl⟩, g6, c6, HQ6.out, HK6.out, HN6.out⟩
  · as_aux_lemma =>
      rw [if_pos (by rfl)]
      go_simp
      refine hK.out _ _ trivial (fun hHeld2 => ?_)
      clear hK K hHeld
      have hHeld := hHeld2
      clear hHeld2
      try simp only [Act.put, List.setIfInBounds_toArray, List.set_cons_zero, List.set_cons_succ]
      refine wpAnyH_ready (rs := [3]) (by kernel_rfl) (by simp) ?_
      refine AllReadyH.cons (o := ⟨_, _, _, _, _, _⟩) rfl (fun K hK => ?_) AllReadyH.nil
      rw [if_pos (by rfl)]
      go_simp
      refine hK.out _ _ trivial (fun hHeld2 => ?_)
      clear hK K hHeld
      have hHeld := hHeld2
      clear hHeld2
      try simp only [Act.put, List.setIfInBounds_toArray, List.set_cons_zero, List.set_cons_succ]
      refine wpAnyH_ready (rs := [7]) (by kernel_rfl) (by simp) ?_
      refine AllReadyH.cons (o := ⟨_, _, _, _, _, _⟩) rfl (fun K hK => ?_) AllReadyH.nil
      rw [if_pos (by rfl)]
      refine oper_que (.tmp 7) (.tmp 10) rfl base hv m q x rfl HQ5.out.own w4.heap.size rfl (cell_new1 _ _ _) (by omega) (size_le_alloc hb4 _) ?_
      intro v' w6 hown' hg6 ho6
      obtain ⟨g6, c6, e6, hq6, hk6, hn6, hc6, hf6⟩ := qpush_step HQ5.out hm hown' hg6 ho6 (size_le_alloc hz4 _)
      subst e6
      have HK6 := Lib.hid ((HK5.out.trans hk6).trans (KeepOn.set w6 ⟨Q, 0, none⟩ (.slice (some ⟨g6, 0, none⟩) (m + 1) c6) fun h => h.1 rfl))
      have HQ6 := Lib.hid hq6
      have HN6 := Lib.hid hn6
      clear hq6 hk6 hn6 hown' hg6 ho6 HQ5 HK5
      refine hK.out _ _ trivial (fun hHeld2 => ?_)
      clear hK K hHeld
      have hHeld := hHeld2
      clear hHeld2
      try simp only [Act.put, List.setIfInBounds_toArray, List.set_cons_zero, List.set_cons_succ]
      refine wpAnyH_take (oi := ⟨_, _, _, _, _, _⟩) (i := 8) (v := ?_) rfl (by kernel_rfl) (by kernel_rfl) (by kernel_rfl) (fun _ _ _ h => h) (Or.inl ⟨by rfl, ?yc8y⟩) (by assumption) ?rc8y
      case yc8y => (intro w hSw; (try dsimp only at hSw); go_simp; (try with_reducible rfl))
      try simp only [Act.put, List.setIfInBounds_toArray, List.set_cons_zero, List.set_cons_succ]
      refine wpAnyH_ready (rs := [9]) (by kernel_rfl) (by simp) ?_
      refine AllReadyH.cons (o := ⟨_, _, _, _, _, _⟩) rfl (fun K hK => ?_) AllReadyH.nil
      rw [if_pos (by rfl)]
      go_simp
      refine hK.out _ _ trivial (fun hHeld2 => ?_)
      clear hK K hHeld
      have hHeld := hHeld2
      clear hHeld2
      try simp only [Act.put, List.setIfInBounds_toArray, List.set_cons_zero, List.set_cons_succ]
      refine wpAnyH_done (by kernel_rfl) ?_ _
      go_wp2
      go_end0
      exact ⟨⟨_, rfl⟩, g6, c6, HQ6.out, HK6.out, HN6.out⟩
end Go.Proofs.Ytdfljeonoallfaa
