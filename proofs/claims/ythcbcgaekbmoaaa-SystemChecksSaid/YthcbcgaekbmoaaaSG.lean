/- Systems: Reachable of the program. -/
import Derived.Test.YthcbcgaekbmoaaaSI
import Derived.Test.YthcbcgaekbmoaaaRT
namespace Go.Proofs.Ythcbcgaekbmoaaa
open Go.RowKit Go.Deep

def outI (l : List EdgeV) (e : Nat) : List Int := (l.filter fun a => a.f == (e : Int)).map (·.o)
theorem outI_take {l : List EdgeV} {k : Nat} (h : k < l.length) (e : Nat) : outI (l.take (k + 1)) e = if (eA l k).f = e then outI (l.take k) e ++ [(eA l k).o] else outI (l.take k) e := by
  unfold outI
  rw [eA_take h, List.filter_append, List.map_append]
  by_cases h1 : (eA l k).f = e
  · rw [if_pos h1]
    simp [h1]
  · rw [if_neg h1]
    simp [h1]
def rchV (s : SysV) : Bool := okS s && allB (reachL (fun i => outI s.ar i) s.st.toNat [0])
theorem infoSl : (Try.prog.info? 34).map (fun i => (i.zero, i.size, i.bytes)) = some (some (.slice none 0 0), 1, 24) := by kernel_rfl
theorem run_make_rows (n : Nat) (hn : n ≤ 100000) (w : World) : (Instr.makeSlice 48 (.int .i64 (n : Int)) (.int .i64 (n : Int))).run Try.prog w = .ok (.slice (some ⟨w.heap.size, 0, none⟩) n n) (w.alloc (.cells (madeCells #[.slice none 0 0] n) 34)) := by
  obtain ⟨i, hi, hzz⟩ := Option.map_eq_some_iff.1 infoSl
  simp only [Prod.mk.injEq] at hzz
  obtain ⟨hz, hs, hb⟩ := hzz
  have hr := run_make (P := Try.prog) w 48 34 i _ Try.underlying48 hi hz .i64 .i64 n n (by omega) (Int.le_refl _) (by rw [hb]; omega) (by omega)
  simp only [Int.toNat_natCast, hs, Nat.mul_one] at hr
  exact hr
/-- one number is appended to a row -/
theorem oper_int {o : Oper} {a : Act} {w : World} {K : Act → World → Prop} {Q : Exit → Act → World → Prop} (s x : Operand)
    (ho : o.op = .call { callee := .builtin .append, args := #[s, x], argTypes := #[34, 34] })
    (base : Nat) (v : Value) (l : List Int) (d : Int) (hs : a.eval s = v) (hO : w.ownsRow base 3 1 v l.length (vI l)) (g : Nat) (hx : a.eval x = .slice (some ⟨g, 0, none⟩) 1 1)
    (h0 : w.cell? ⟨g, 0, none⟩ = some (.int .i64 d)) (hl : l.length ≤ 100000) (hbase : base ≤ w.heap.size)
    (h : ∀ v' w', w'.ownsRow base 3 1 v' (l.length + 1) (vI l ++ [.int .i64 d]) → w.grownBy w' v.ownBlock → (v'.ownBlock = v.ownBlock ∨ v'.ownBlock = some w.heap.size) → K (a.put o.dst v') w') : Oper.wp Try.prog o a w K Q := by
  obtain ⟨i, hi, hz, e1, e2⟩ := info_parts infoI
  refine oper_append_blk w s x 34 ho base 3 i _ 1 8 Try.underlying34 hi hz e1 e2 rfl (by decide) v l.length (vI l) hs hO ⟨g, 0, none⟩ 1 1 [.int .i64 d] hx rfl ?_ ?_ (by unfold maxLen; omega) (by omega) hbase h
  · intro j u hj
    match j, hj with
    | 0, hj => simp at hj; subst hj; simpa [Addr.add] using h0
    | j + 1, hj => simp at hj
  · intro u hu
    simp at hu
    subst hu
    rfl
def addrOf : Value → Option Addr
  | .slice A _ _ => A
  | _ => none
def capOf : Value → Nat
  | .slice _ _ c => c
  | _ => 0
theorem graph_of {w : World} {T B N : Nat} {L : Nat → List Int} {vs : Nat → Value} (h : GrowT w T B N 34 3 1 (fun e => (L e).length) (fun e => vI (L e)) vs) (hn : N ≤ 200) (hl : ∀ e, (L e).length ≤ 400) : GraphR w (some ⟨T, 0, none⟩) N (fun e => addrOf (vs e)) L (fun e => capOf (vs e)) where
  hn := by omega
  row := fun e he => by
    obtain ⟨A, c, e1, h1⟩ := ReadsV.own (h.2.2.2.1 e he)
    refine ⟨T, 0, rfl, h.2.2.1.lt, ?_⟩
    rw [Nat.zero_add, h.2.2.1.cell he]
    rw [e1]
    rfl
  rd := fun e he => by
    obtain ⟨A, c, e1, h1⟩ := ReadsV.own (h.2.2.2.1 e he)
    rw [e1]
    exact h1
  ll := fun e _ => Nat.le_trans (hl e) (by decide)
theorem GraphR.below {w w' : World} {gA : Option Addr} {n : Nat} {RA : Nat → Option Addr} {RL : Nat → List Int} {RK : Nat → Nat} (h : GraphR w gA n RA RL RK) (hb : Below w.heap.size w w') : GraphR w' gA n RA RL RK where
  hn := h.hn
  row := fun i hi => by
    obtain ⟨b, off, e, h1, h2⟩ := h.row i hi
    exact ⟨b, off, e, Nat.lt_of_lt_of_le h1 hb.size, (hb.cell (p := ⟨b, off + i, none⟩) h1).trans h2⟩
  rd := fun i hi => (h.rd i hi).below hb (Nat.le_refl _)
  ll := h.ll
set_option maxHeartbeats 8000000 in
set_option maxRecDepth 100000 in
theorem reachable_any (s : SysV) (w : World) (hr : SysR w s) :
    Calls Try.prog 12 #[.agg #[.int .i64 s.st, .slice s.EA s.el s.ec, .slice s.AA s.ar.length s.ac]] w (VPost w.heap.size w (.bool (rchV s))) := by
  have B0 : Below w.heap.size w (w.alloc (.cells #[.int .i64 s.st, .slice s.EA s.el s.ec, .slice s.AA s.ar.length s.ac] 25)) := (Below.refl _ _).alloc (Nat.le_refl _) _
  have C := valid_sys s (w.alloc (.cells #[.int .i64 s.st, .slice s.EA s.el s.ec, .slice s.AA s.ar.length s.ac] 25)) (hr.below B0 (Nat.le_refl _))
  have HE := Lib.hid hr.re
  have hal := hr.hal
  have c0' : (w.alloc (.cells #[.int .i64 s.st, .slice s.EA s.el s.ec, .slice s.AA s.ar.length s.ac] 25)).cell? ⟨w.heap.size, 0, none⟩ = some (.int .i64 s.st) := by simp
  have c2' : (w.alloc (.cells #[.int .i64 s.st, .slice s.EA s.el s.ec, .slice s.AA s.ar.length s.ac] 25)).cell? ⟨w.heap.size, 2, none⟩ = some (.slice s.AA s.ar.length s.ac) := by simp
  have HOK := Lib.hid (@okS_parts s)
  have HNO : Hid (okS s = false → rchV s = false) := fun h => by show _ = _; unfold rchV; rw [h]; rfl
  have HYES : Hid (okS s = true → rchV s = allB (reachL (fun i => outI s.ar i) s.st.toNat [0])) := fun h => by show _ = _; unfold rchV; rw [h]; rfl
  clear hr
  generalize okS s = ok at *
  generalize rchV s = V at *
  obtain ⟨sst, EA, el, ev, ec, AA, ar, ac⟩ := s
  dsimp only at *
  obtain ⟨w0, hw0⟩ : ∃ w0, w0 = w.alloc (.cells #[.int .i64 sst, .slice EA el ec, .slice AA ar.length ac] 25) := ⟨_, rfl⟩
  have hlt0 : w.heap.size < w0.heap.size := by rw [hw0, World.size_alloc]; omega
  rw [← hw0] at B0 C c0' c2'
  have HW0 := Lib.hid hw0
  clear hw0
  replace B0 := Lib.hid B0
  replace C := Lib.hid C
  go_enter Try.func12, Try.ntmps12
  go_wp2_with fail
  rw [← HW0.out]
  refine C.out.mono ?_
  rintro e w1 ⟨rfl, K⟩
  have B1 := Lib.hid (B0.out.trans (K.mono (by omega)))
  have q0 := keepc c0' K
  have q2 := keepc c2' K
  have hlt1 : w.heap.size < w1.heap.size := Nat.lt_of_lt_of_le hlt0 K.size
  clear C c0' c2' HW0 K
  cases ok
  · have E := Lib.hid (HNO.out rfl)
    clear HNO HYES HOK
    go_wp2
    go_ret
    exact ⟨by rw [E.out]; rfl, B1.out⟩
  obtain ⟨hst1, hst2, -, hps⟩ := HOK.out rfl
  have HP := Lib.hid hps
  have HV := HYES.out rfl
  obtain ⟨N, rfl⟩ : ∃ N : Nat, sst = N := ⟨sst.toNat, by omega⟩
  rw [show ((N : Int)).toNat = N from rfl] at HV
  have hN : N ≤ 200 := by omega
  have hN1 : 1 ≤ N := by omega
  replace HV := Lib.hid HV
  clear HNO HYES HOK hps
  have hmk := run_make_rows N (by omega)
  have L0 : Hid (∀ e : Nat, outI (ar.take 0) e = []) := fun _ => rfl
  have LS : Hid (∀ (k : Nat) (e : Nat), k < ar.length → outI (ar.take (k + 1)) e = if (eA ar k).f = e then outI (ar.take k) e ++ [(eA ar k).o] else outI (ar.take k) e) := fun k e hk => outI_take hk e
  have LL : Hid (∀ (k e : Nat), (outI (ar.take k) e).length ≤ 400) := fun k e => by
    unfold outI
    rw [List.length_map]
    exact Nat.le_trans (List.length_filter_le _ _) (by rw [List.length_take]; omega)
  have LE : Hid ((fun e => outI (ar.take ar.length) e) = fun e => outI ar e) := by show _ = _; rw [List.take_length]
  generalize hL : (fun (k e : Nat) => outI (ar.take k) e) = L at *
  have hL' : ∀ k e : Nat, outI (ar.take k) e = L k e := fun k e => by rw [← hL]
  simp only [hL'] at L0 LS LL LE
  clear hL hL'
  have M0 : Hid (GrowT (w1.alloc (.cells (madeCells #[.slice none 0 0] N) 34)) w1.heap.size (w1.heap.size + 1) N 34 3 1 (fun e => (L 0 e).length) (fun e => vI (L 0 e)) (fun _ => .slice none 0 0)) := by
    have h := GrowT.start (w := w1) N 34 3 1
    exact h.congr (fun e _ => by rw [L0.out e]; rfl) (fun e _ => by rw [L0.out e]; rfl)
  have START : Hid (Below w1.heap.size w1 (w1.alloc (.cells (madeCells #[.slice none 0 0] N) 34))) := (Below.refl _ _).alloc (Nat.le_refl _) _
  have PQ : Hid (∀ W, Below w1.heap.size w1 W → W.cell? ⟨w.heap.size, 0, none⟩ = some (.int .i64 (N : Int)) ∧ W.cell? ⟨w.heap.size, 2, none⟩ = some (.slice AA ar.length ac)) := fun W hW => ⟨keepc q0 hW, keepc q2 hW⟩
  have WG : Hid (∀ W, Below w1.heap.size w1 W → Below w.heap.size w W) := fun W hW => B1.out.trans (hW.mono (by omega))
  obtain ⟨e1, e2⟩ := PQ.out _ START.out
  clear L0 hst1 hst2
  go_wp2_with fail
  go_loopw [15] (fun q wr => ∃ (k : Nat) (vs : Nat → Value), k ≤ ar.length ∧ q = .int .i64 k ∧ Hid (GrowT wr w1.heap.size (w1.heap.size + 1) N 34 3 1 (fun e => (L k e).length) (fun e => vI (L k e)) vs) ∧ Hid (Below w1.heap.size w1 wr)) (fun q _ => ar.length - (intOf q).toNat)
  case atStart => exact ⟨0, _, by omega, rfl, M0, START⟩
  case round =>
    clear M0 START e1 e2
    obtain ⟨k, vs, hk, rfl, MR, BB⟩ := hrel
    have BG := Lib.hid (WG.out _ BB.out)
    by_cases hlt : k < ar.length
    · obtain ⟨e1, e2⟩ := PQ.out _ BB.out
      obtain ⟨b, off, eA', hb, c0, c1, c2⟩ := (HE.out.below BG.out (Nat.le_refl _)) k hlt
      have hxm := HP.out _ (eA_mem hlt)
      have LSk := fun e => LS.out k e hlt
      have LLk := LL.out k
      clear LS LL
      generalize eA ar k = x at *
      obtain ⟨xf, xt, xo⟩ := x
      dsimp only at *
      obtain ⟨e, rfl⟩ : ∃ e : Nat, xf = e := ⟨xf.toNat, by omega⟩
      have he : e < N := by omega
      clear hxm
      subst eA'
      have LSk := Lib.hid LSk
      have hv := MR.out.2.2.1.cell he
      have hown := own_ge (MR.out.2.2.2.1 e he)
      have hlen := LLk e
      clear LLk
      have hbig := BB.out.size
      have hsz2 : w1.heap.size < wr.heap.size := MR.out.2.2.1.lt
      generalize hvv : vs e = ve at *
      have HVV := Lib.hid hvv
      clear hvv
      obtain ⟨wb, hwb⟩ : ∃ wb, wb = wr.alloc (.cells #[.int .i64 (e : Int), .int .i64 xt, .int .i64 xo] 43) := ⟨_, rfl⟩
      have hwbs : wb.heap.size = wr.heap.size + 1 := by rw [hwb, World.size_alloc]
      have KB : Below wr.heap.size wr wb := by rw [hwb]; exact (Below.refl _ _).alloc (Nat.le_refl _) _
      have f0 : wb.cell? ⟨wr.heap.size, 0, none⟩ = some (.int .i64 (e : Int)) := by rw [hwb]; simp
      have f1 : wb.cell? ⟨wr.heap.size, 1, none⟩ = some (.int .i64 xt) := by rw [hwb]; simp
      have f2 : wb.cell? ⟨wr.heap.size, 2, none⟩ = some (.int .i64 xo) := by rw [hwb]; simp
      have MB := Lib.hid (MR.out.below KB)
      have hvb := keepc hv KB
      have BBb := Lib.hid (BB.out.trans (KB.mono (by omega)))
      clear MR KB hv
      go_wp2_with fail
      rw [← hwb]
      go_upto_region 7 with fail
      refine wp_region_held_drew (S := fun w' => w'.cell? ⟨wr.heap.size, 0, none⟩ = some (.int .i64 (e : Int)) ∧ w'.cell? ⟨wr.heap.size, 1, none⟩ = some (.int .i64 xt) ∧ w'.cell? ⟨wr.heap.size, 2, none⟩ = some (.int .i64 xo) ∧ Hid (Below w1.heap.size w1 w')) (by kernel_rfl) ?_ (fun hHeld => ?_)
      · exact ⟨f0, f1, f2, BBb.out.drew⟩
      refine wpAnyH_take (oi := ⟨_, _, _, _, _, _⟩) (i := 0) (v := ?_) rfl (by kernel_rfl) (by kernel_rfl) (by kernel_rfl) (fun _ _ _ h => h) (Or.inl ⟨by rfl, ?ya0⟩) (by assumption) ?ra0
      case ya0 => (intro w hSw; (try dsimp only at hSw); go_simp; (try with_reducible rfl))
      try simp only [Act.put, List.setIfInBounds_toArray, List.set_cons_zero, List.set_cons_succ]
      refine wpAnyH_take (oi := ⟨_, _, _, _, _, _⟩) (i := 1) (v := ?_) rfl (by kernel_rfl) (by kernel_rfl) (by kernel_rfl) (fun _ _ _ h => h) (Or.inl ⟨by rfl, ?ya1⟩) (by assumption) ?ra1
      case ya1 => (intro w hSw; (try dsimp only at hSw); go_simp; (try with_reducible rfl))
      try simp only [Act.put, List.setIfInBounds_toArray, List.set_cons_zero, List.set_cons_succ]
      refine wpAnyH_take (oi := ⟨_, _, _, _, _, _⟩) (i := 2) (v := ?_) rfl (by kernel_rfl) (by kernel_rfl) (by kernel_rfl) (fun _ _ _ h => h) (Or.inl ⟨by rfl, ?ya2⟩) (by assumption) ?ra2
      case ya2 => (intro w hSw; (try dsimp only at hSw); go_simp; (try with_reducible rfl))
      try simp only [Act.put, List.setIfInBounds_toArray, List.set_cons_zero, List.set_cons_succ]
      refine wpAnyH_take (oi := ⟨_, _, _, _, _, _⟩) (i := 3) (v := ?_) rfl (by kernel_rfl) (by kernel_rfl) (by kernel_rfl) (fun _ _ _ h => h) (Or.inl ⟨by rfl, ?ya3⟩) (by assumption) ?ra3
      case ya3 => (intro w hSw; (try dsimp only at hSw); go_simp; (try with_reducible rfl))
      try simp only [Act.put, List.setIfInBounds_toArray, List.set_cons_zero, List.set_cons_succ]
      refine wpAnyH_take (oi := ⟨_, _, _, _, _, _⟩) (i := 4) (v := ?_) rfl (by kernel_rfl) (by kernel_rfl) (by kernel_rfl) (fun _ _ _ h => h) (Or.inl ⟨by rfl, ?ya4⟩) (by assumption) ?ra4
      case ya4 => (intro w hSw; (try dsimp only at hSw); go_simp; (try with_reducible rfl))
      try simp only [Act.put, List.setIfInBounds_toArray, List.set_cons_zero, List.set_cons_succ]
      refine wpAnyH_take (oi := ⟨_, _, _, _, _, _⟩) (i := 5) (v := ?_) rfl (by kernel_rfl) (by kernel_rfl) (by kernel_rfl) (fun _ _ _ h => h) (Or.inl ⟨by rfl, ?ya5⟩) (by assumption) ?ra5
      case ya5 => (intro w hSw; (try dsimp only at hSw); go_simp; (try with_reducible rfl))
      try simp only [Act.put, List.setIfInBounds_toArray, List.set_cons_zero, List.set_cons_succ]
      refine wpAnyH_take (oi := ⟨_, _, _, _, _, _⟩) (i := 6) (v := ?_) rfl (by kernel_rfl) (by kernel_rfl) (by kernel_rfl) (fun _ _ _ h => h) (Or.inl ⟨by rfl, ?ya6⟩) (by assumption) ?ra6
      case ya6 => (intro w hSw; (try dsimp only at hSw); go_simp; (try with_reducible rfl))
      try simp only [Act.put, List.setIfInBounds_toArray, List.set_cons_zero, List.set_cons_succ]
      refine wpAnyH_take (oi := ⟨_, _, _, _, _, _⟩) (i := 8) (v := ?_) rfl (by kernel_rfl) (by kernel_rfl) (by kernel_rfl) (fun _ _ _ h => h) (Or.inl ⟨by rfl, ?ya8⟩) (by assumption) ?ra8
      case ya8 => (intro w hSw; (try dsimp only at hSw); go_simp; (try with_reducible rfl))
      try simp only [Act.put, List.setIfInBounds_toArray, List.set_cons_zero, List.set_cons_succ]
      refine wpAnyH_take (oi := ⟨_, _, _, _, _, _⟩) (i := 9) (v := ?_) rfl (by kernel_rfl) (by kernel_rfl) (by kernel_rfl) (fun _ _ _ h => h) (Or.inl ⟨by rfl, ?ya9⟩) (by assumption) ?ra9
      case ya9 => (intro w hSw; (try dsimp only at hSw); go_simp; (try with_reducible rfl))
      try simp only [Act.put, List.setIfInBounds_toArray, List.set_cons_zero, List.set_cons_succ]
      have M4 : Hid (GrowT wb.drew w1.heap.size (w1.heap.size + 1) N 34 3 1 (fun e => (L k e).length) (fun e => vI (L k e)) vs) := MB.out.drew
      have hv4 : wb.drew.cell? ⟨w1.heap.size, e, none⟩ = some ve := hvb
      have hs4 : wb.drew.heap.size = wr.heap.size + 1 := hwbs
      generalize wb.drew = w4 at *
      refine wpAnyH_ready (rs := [7, 10]) (by kernel_rfl) (by simp) ?_
      refine AllReadyH.cons (o := ⟨_, _, _, _, _, _⟩) rfl (fun K hK => ?_) (AllReadyH.cons (o := ⟨_, _, _, _, _, _⟩) rfl (fun K hK => ?_) AllReadyH.nil)
      · skip
        rw [if_pos (by rfl)]
        go_simp
        refine hK.out _ _ ?_ (fun hHeld2 => ?_)
        · exact hHeld
        clear hK K hHeld
        have hHeld := hHeld2
        clear hHeld2
        try simp only [Act.put, List.setIfInBounds_toArray, List.set_cons_zero, List.set_cons_succ]
        refine wpAnyH_ready (rs := [10]) (by kernel_rfl) (by simp) ?_
        refine AllReadyH.cons (o := ⟨_, _, _, _, _, _⟩) rfl (fun K hK => ?_) AllReadyH.nil
        rw [if_pos (by rfl)]
        have LA : Below w4.heap.size w4 (w4.alloc (.cells #[.int .i64 xo] 3)) := (Below.refl _ _).alloc (Nat.le_refl _) _
        have hv5 := keepc hv4 LA
        have M5 := Lib.hid (M4.out.below LA)
        go_simp
        refine hK.out _ _ ?_ (fun hHeld2 => ?_)
        · obtain ⟨h1, h2, h3, h4⟩ := hHeld; exact ⟨keepc h1 LA, keepc h2 LA, keepc h3 LA, h4.out.trans (LA.mono (by omega))⟩
        clear hK K hHeld
        have hHeld := hHeld2
        clear hHeld2 M4
        obtain ⟨w5, hw5⟩ : ∃ w5, w5 = w4.alloc (.cells #[.int .i64 xo] 3) := ⟨_, rfl⟩
        rw [← hw5] at hHeld M5 LA hv5 ⊢
        have hs5 : w5.heap.size = wr.heap.size + 1 + 1 := by rw [hw5, World.size_alloc, hs4]
        have g0 : w5.cell? ⟨wr.heap.size + 1, 0, none⟩ = some (.int .i64 xo) := by rw [hw5, ← hs4]; simp
        clear hw5 LA
        have hOw : w5.ownsRow (w1.heap.size + 1) 3 1 ve (L k e).length (vI (L k e)) := by have := M5.out.2.2.2.1 e he; rw [HVV.out] at this; exact this
        try simp only [Act.put, List.setIfInBounds_toArray, List.set_cons_zero, List.set_cons_succ]
        refine wpAnyH_ready (rs := [11]) (by kernel_rfl) (by simp) ?_
        refine AllReadyH.cons (o := ⟨_, _, _, _, _, _⟩) rfl (fun K hK => ?_) AllReadyH.nil
        rw [if_pos (by rfl)]
        refine oper_int (.tmp 26) (.tmp 29) rfl (w1.heap.size + 1) ve (L k e) xo rfl hOw (wr.heap.size + 1) rfl g0 (by omega) (by omega) ?_
        intro v' w6 ho6 hg6 hb6
        obtain ⟨gv, cv, hv'⟩ : ∃ gv cv, v' = .slice (some ⟨gv, 0, none⟩) ((L k e).length + 1) cv := by rcases ho6.2 with ⟨_, h0⟩ | ⟨g, cap, cur, h1, _⟩; (exact absurd h0 (by omega)); exact ⟨g, cap, h1⟩
        subst hv'
        have hnb : ∀ q, ve.ownBlock = some q → w1.heap.size + 1 ≤ q ∧ q < wr.heap.size := fun q hq => by rcases hown with h | ⟨g, h, h1, h2⟩; (rw [h] at hq; cases hq); (rw [h] at hq; injection hq with hq; subst hq; exact ⟨h1, h2⟩)
        have BG6 : Below w1.heap.size w1 w6 := hHeld.2.2.2.out.trans ((Below.refl _ w5).grown hg6 (by omega) fun q hq => by have := (hnb q hq).1; omega)
        have M6 : Hid (GrowT (w6.setCell ⟨w1.heap.size, e, none⟩ (.slice (some ⟨gv, 0, none⟩) ((L k e).length + 1) cv)) w1.heap.size (w1.heap.size + 1) N 34 3 1 _ _ _) := M5.out.step he ho6 (by rw [HVV.out]; exact hg6) (by rw [HVV.out]; exact hb6)
        have nb : some wr.heap.size ≠ ve.ownBlock := fun c => by have := (hnb _ c.symm).2; omega
        refine hK.out _ _ ?_ (fun hHeld2 => ?_)
        · exact ⟨hg6.cell hHeld.1 nb, hg6.cell hHeld.2.1 nb, hg6.cell hHeld.2.2.1 nb, BG6⟩
        clear hK K hHeld
        have hHeld := hHeld2
        clear hHeld2 g0
        have ct : ∃ u, w6.cell? ⟨w1.heap.size, e, none⟩ = some u := by have h := M5.out.2.2.1.cell he; exact ⟨_, hg6.cell h (fun c => by have h9 : w1.heap.size + 1 ≤ w1.heap.size := (hnb _ c.symm).1; omega)⟩
        have cf : w6.frozen? ⟨w1.heap.size, e, none⟩ = false := by have h := M5.out.2.2.1.of_block (hg6.block _ M5.out.2.2.1.lt (fun c => by have h9 : w1.heap.size + 1 ≤ w1.heap.size := (hnb _ c.symm).1; omega)); exact h.frozen e
        obtain ⟨cu, ct⟩ := ct
        try simp only [Act.put, List.setIfInBounds_toArray, List.set_cons_zero, List.set_cons_succ]
        refine wpAnyH_take (oi := ⟨_, _, _, _, _, _⟩) (i := 12) (v := ?_) rfl (by kernel_rfl) (by kernel_rfl) (by kernel_rfl) (fun _ _ _ h => h) (Or.inl ⟨by rfl, ?yc12⟩) (by assumption) ?rc12
        case yc12 => (intro w hSw; (try dsimp only at hSw); go_simp; (try with_reducible rfl))
        try simp only [Act.put, List.setIfInBounds_toArray, List.set_cons_zero, List.set_cons_succ]
        refine wpAnyH_ready (rs := [13]) (by kernel_rfl) (by simp) ?_
        refine AllReadyH.cons (o := ⟨_, _, _, _, _, _⟩) rfl (fun K hK => ?_) AllReadyH.nil
        rw [if_pos (by rfl)]
        have BS := Lib.hid (hHeld.2.2.2.out.setCell (p := ⟨w1.heap.size, e, none⟩) (by show w1.heap.size ≤ w1.heap.size; omega) (.slice (some ⟨gv, 0, none⟩) ((L k e).length + 1) cv))
        go_simp
        refine hK.out _ _ ?_ (fun hHeld2 => ?_)
        · refine ⟨?_, ?_, ?_, BS⟩ <;> (rw [World.cell?_of_block (blk_setCell_other _ _ _ _ (by show wr.heap.size ≠ w1.heap.size; omega))]; first | exact hHeld.1 | exact hHeld.2.1 | exact hHeld.2.2.1)
        clear hK K hHeld hHeld2
        try simp only [Act.put, List.setIfInBounds_toArray, List.set_cons_zero, List.set_cons_succ]
        refine wpAnyH_done (by kernel_rfl) ?_ _
        have M7 := Lib.hid (M6.out.congr (ln' := fun i => (L (k + 1) i).length) (X' := fun i => vI (L (k + 1) i)) (fun i _ => by
          rw [LSk.out i]
          by_cases hie : i = e
          · rw [if_pos hie, if_pos (by rw [hie]), hie]; simp
          · rw [if_neg hie, if_neg (fun c => hie (by omega))]) (fun i _ => by
          rw [LSk.out i]
          by_cases hie : i = e
          · rw [if_pos hie, if_pos (by rw [hie]), hie, vI_snoc]
          · rw [if_neg hie, if_neg (fun c => hie (by omega))]))
        go_wp2
        go_roundw
        case rel => exact ⟨k + 1, _, by omega, by go_num, M7, BS⟩
        case measure => simp [intOf]; omega
      · skip
        rw [if_pos (by rfl)]
        have LA : Below w4.heap.size w4 (w4.alloc (.cells #[.int .i64 xo] 3)) := (Below.refl _ _).alloc (Nat.le_refl _) _
        have hv5 := keepc hv4 LA
        have M5 := Lib.hid (M4.out.below LA)
        go_simp
        refine hK.out _ _ ?_ (fun hHeld2 => ?_)
        · obtain ⟨h1, h2, h3, h4⟩ := hHeld; exact ⟨keepc h1 LA, keepc h2 LA, keepc h3 LA, h4.out.trans (LA.mono (by omega))⟩
        clear hK K hHeld
        have hHeld := hHeld2
        clear hHeld2 M4
        obtain ⟨w5, hw5⟩ : ∃ w5, w5 = w4.alloc (.cells #[.int .i64 xo] 3) := ⟨_, rfl⟩
        rw [← hw5] at hHeld M5 LA hv5 ⊢
        have hs5 : w5.heap.size = wr.heap.size + 1 + 1 := by rw [hw5, World.size_alloc, hs4]
        have g0 : w5.cell? ⟨wr.heap.size + 1, 0, none⟩ = some (.int .i64 xo) := by rw [hw5, ← hs4]; simp
        clear hw5 LA
        have hOw : w5.ownsRow (w1.heap.size + 1) 3 1 ve (L k e).length (vI (L k e)) := by have := M5.out.2.2.2.1 e he; rw [HVV.out] at this; exact this
        try simp only [Act.put, List.setIfInBounds_toArray, List.set_cons_zero, List.set_cons_succ]
        refine wpAnyH_ready (rs := [7]) (by kernel_rfl) (by simp) ?_
        refine AllReadyH.cons (o := ⟨_, _, _, _, _, _⟩) rfl (fun K hK => ?_) AllReadyH.nil
        rw [if_pos (by rfl)]
        go_simp
        refine hK.out _ _ ?_ (fun hHeld2 => ?_)
        · exact hHeld
        clear hK K hHeld
        have hHeld := hHeld2
        clear hHeld2
        try simp only [Act.put, List.setIfInBounds_toArray, List.set_cons_zero, List.set_cons_succ]
        refine wpAnyH_ready (rs := [11]) (by kernel_rfl) (by simp) ?_
        refine AllReadyH.cons (o := ⟨_, _, _, _, _, _⟩) rfl (fun K hK => ?_) AllReadyH.nil
        rw [if_pos (by rfl)]
        refine oper_int (.tmp 26) (.tmp 29) rfl (w1.heap.size + 1) ve (L k e) xo rfl hOw (wr.heap.size + 1) rfl g0 (by omega) (by omega) ?_
        intro v' w6 ho6 hg6 hb6
        obtain ⟨gv, cv, hv'⟩ : ∃ gv cv, v' = .slice (some ⟨gv, 0, none⟩) ((L k e).length + 1) cv := by rcases ho6.2 with ⟨_, h0⟩ | ⟨g, cap, cur, h1, _⟩; (exact absurd h0 (by omega)); exact ⟨g, cap, h1⟩
        subst hv'
        have hnb : ∀ q, ve.ownBlock = some q → w1.heap.size + 1 ≤ q ∧ q < wr.heap.size := fun q hq => by rcases hown with h | ⟨g, h, h1, h2⟩; (rw [h] at hq; cases hq); (rw [h] at hq; injection hq with hq; subst hq; exact ⟨h1, h2⟩)
        have BG6 : Below w1.heap.size w1 w6 := hHeld.2.2.2.out.trans ((Below.refl _ w5).grown hg6 (by omega) fun q hq => by have := (hnb q hq).1; omega)
        have M6 : Hid (GrowT (w6.setCell ⟨w1.heap.size, e, none⟩ (.slice (some ⟨gv, 0, none⟩) ((L k e).length + 1) cv)) w1.heap.size (w1.heap.size + 1) N 34 3 1 _ _ _) := M5.out.step he ho6 (by rw [HVV.out]; exact hg6) (by rw [HVV.out]; exact hb6)
        have nb : some wr.heap.size ≠ ve.ownBlock := fun c => by have := (hnb _ c.symm).2; omega
        refine hK.out _ _ ?_ (fun hHeld2 => ?_)
        · exact ⟨hg6.cell hHeld.1 nb, hg6.cell hHeld.2.1 nb, hg6.cell hHeld.2.2.1 nb, BG6⟩
        clear hK K hHeld
        have hHeld := hHeld2
        clear hHeld2 g0
        have ct : ∃ u, w6.cell? ⟨w1.heap.size, e, none⟩ = some u := by have h := M5.out.2.2.1.cell he; exact ⟨_, hg6.cell h (fun c => by have h9 : w1.heap.size + 1 ≤ w1.heap.size := (hnb _ c.symm).1; omega)⟩
        have cf : w6.frozen? ⟨w1.heap.size, e, none⟩ = false := by have h := M5.out.2.2.1.of_block (hg6.block _ M5.out.2.2.1.lt (fun c => by have h9 : w1.heap.size + 1 ≤ w1.heap.size := (hnb _ c.symm).1; omega)); exact h.frozen e
        obtain ⟨cu, ct⟩ := ct
        try simp only [Act.put, List.setIfInBounds_toArray, List.set_cons_zero, List.set_cons_succ]
        refine wpAnyH_take (oi := ⟨_, _, _, _, _, _⟩) (i := 12) (v := ?_) rfl (by kernel_rfl) (by kernel_rfl) (by kernel_rfl) (fun _ _ _ h => h) (Or.inl ⟨by rfl, ?yd12⟩) (by assumption) ?rd12
        case yd12 => (intro w hSw; (try dsimp only at hSw); go_simp; (try with_reducible rfl))
        try simp only [Act.put, List.setIfInBounds_toArray, List.set_cons_zero, List.set_cons_succ]
        refine wpAnyH_ready (rs := [13]) (by kernel_rfl) (by simp) ?_
        refine AllReadyH.cons (o := ⟨_, _, _, _, _, _⟩) rfl (fun K hK => ?_) AllReadyH.nil
        rw [if_pos (by rfl)]
        have BS := Lib.hid (hHeld.2.2.2.out.setCell (p := ⟨w1.heap.size, e, none⟩) (by show w1.heap.size ≤ w1.heap.size; omega) (.slice (some ⟨gv, 0, none⟩) ((L k e).length + 1) cv))
        go_simp
        refine hK.out _ _ ?_ (fun hHeld2 => ?_)
        · refine ⟨?_, ?_, ?_, BS⟩ <;> (rw [World.cell?_of_block (blk_setCell_other _ _ _ _ (by show wr.heap.size ≠ w1.heap.size; omega))]; first | exact hHeld.1 | exact hHeld.2.1 | exact hHeld.2.2.1)
        clear hK K hHeld hHeld2
        try simp only [Act.put, List.setIfInBounds_toArray, List.set_cons_zero, List.set_cons_succ]
        refine wpAnyH_done (by kernel_rfl) ?_ _
        have M7 := Lib.hid (M6.out.congr (ln' := fun i => (L (k + 1) i).length) (X' := fun i => vI (L (k + 1) i)) (fun i _ => by
          rw [LSk.out i]
          by_cases hie : i = e
          · rw [if_pos hie, if_pos (by rw [hie]), hie]; simp
          · rw [if_neg hie, if_neg (fun c => hie (by omega))]) (fun i _ => by
          rw [LSk.out i]
          by_cases hie : i = e
          · rw [if_pos hie, if_pos (by rw [hie]), hie, vI_snoc]
          · rw [if_neg hie, if_neg (fun c => hie (by omega))]))
        go_wp2
        go_roundw
        case rel => exact ⟨k + 1, _, by omega, by go_num, M7, BS⟩
        case measure => simp [intOf]; omega
    · obtain rfl : k = ar.length := by omega
      have GR := graph_of MR.out hN (fun e => LL.out ar.length e)
      have hs1 : w1.heap.size ≤ wr.heap.size := BB.out.size
      obtain ⟨w2, hw2⟩ : ∃ w2, w2 = wr.alloc (.cells #[.int .i64 0] 3) := ⟨_, rfl⟩
      have KB : Below wr.heap.size wr w2 := by rw [hw2]; exact (Below.refl _ _).alloc (Nat.le_refl _) _
      have R0 : ReadsV w2 (some ⟨wr.heap.size, 0, none⟩) [0] := fun j hj => by
        obtain rfl : j = 0 := by simp at hj; omega
        exact ⟨_, _, rfl, by rw [hw2, World.size_alloc]; omega, by rw [hw2]; simp [at0]⟩
      have CR := reach_any (some ⟨w1.heap.size, 0, none⟩) N N _ _ _ (some ⟨wr.heap.size, 0, none⟩) [0] 1 w2 (GR.below KB) R0 (by decide)
      have e3 : reachL (L ar.length) N [0] = reachL (fun e => outI ar e) N [0] := by rw [← LE.out]
      rw [e3] at CR
      have CR := Lib.hid CR
      have B2 := Lib.hid (BG.out.trans (KB.mono BG.out.size))
      have HW2 := Lib.hid hw2
      have CC : Hid (∀ A c (zs : List Bool) W, ReadsT W A zs → zs.length = N → Calls Try.prog 29 #[.slice A N c, .bool false] W fun e w' => e = .returned (.bool (!allB zs)) ∧ W = w') := fun A c zs W h1 h2 => by
        have h := contains_bool A zs c W h1 (by omega)
        rw [h2] at h
        exact h
      clear GR KB R0 hw2 e3 MR LE LL LS HE HP PQ WG
      generalize reachL (fun e => outI ar e) N [0] = RS at *
      go_wp2_with fail
      rw [← HW2.out]
      refine CR.out.mono ?_
      rintro e w3 ⟨A3, c3, rfl, RT, hlen, K3⟩
      have B3 := Lib.hid (B2.out.trans (K3.mono B2.out.size))
      have C4 := Lib.hid (CC.out A3 c3 RS w3 RT hlen)
      clear RT K3 CC CR
      go_wp2_with fail
      refine C4.out.mono ?_
      rintro e w4 ⟨rfl, rfl⟩
      go_wp2
      go_ret
      exact ⟨by rw [HV.out]; simp, B3.out⟩
end Go.Proofs.Ythcbcgaekbmoaaa
