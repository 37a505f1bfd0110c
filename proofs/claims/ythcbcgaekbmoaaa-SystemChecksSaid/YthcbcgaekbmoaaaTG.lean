/- Systems: the graph of the states, by the reference. -/
import Derived.Test.YthcbcgaekbmoaaaTE
namespace Go.Proofs.Ythcbcgaekbmoaaa
open Go.RowKit Go.Deep

theorem wpList_intg {ops : Array Oper} {rest : List Oper} {o : Oper} {a : Act} {w : World} {Q : Exit → Act → World → Prop} (hgd : o.guard = none) (s x : Operand)
    (ho : o.op = .call { callee := .builtin .append, args := #[s, x], argTypes := #[34, 34] })
    (base : Nat) (v : Value) (l : List Int) (d : Int) (hs : a.eval s = v) (hO : w.ownsRow base 3 1 v l.length (vI l)) (g : Nat) (hx : a.eval x = .slice (some ⟨g, 0, none⟩) 1 1)
    (h0 : w.cell? ⟨g, 0, none⟩ = some (.int .i64 d)) (hl : l.length ≤ 100000) (hbase : base ≤ w.heap.size)
    (h : ∀ v' w', w'.ownsRow base 3 1 v' (l.length + 1) (vI l ++ [.int .i64 d]) → w.grownBy w' v.ownBlock → (v'.ownBlock = v.ownBlock ∨ v'.ownBlock = some w.heap.size) → wpList Try.prog ops Q rest (a.put o.dst v') w') : wpList Try.prog ops Q (o :: rest) a w := by
  refine wpList_plain hgd fun K hK => ?_
  exact oper_int s x ho base v l d hs hO g hx h0 hl hbase fun v' w' h1 h2 h3 => hK _ _ (h v' w' h1 h2 h3)
theorem own_form {w : World} {B : Nat} {te : TypeId} {v : Value} {n : Nat} {xs : List Value} (h : w.ownsRow B te 1 v (n + 1) xs) : ∃ g c, v = .slice (some ⟨g, 0, none⟩) (n + 1) c := by
  rcases h.2 with ⟨_, h0⟩ | ⟨g, cap, cur, h1, _⟩
  · exact absurd h0 (by omega)
  · exact ⟨g, cap, h1⟩
def GPost (s : SysV) (w : World) (e : Ending) (w' : World) : Prop := ∃ T vs, e = .returned (.slice (some ⟨T, 0, none⟩) s.st.toNat s.st.toNat) ∧ GrowT w' T (T + 1) s.st.toNat 34 3 1 (fun e => (outI s.ar e).length) (fun e => vI (outI s.ar e)) vs ∧ Below w.heap.size w w'
set_option maxHeartbeats 8000000 in
set_option maxRecDepth 100000 in
theorem rgraph_any (s : SysV) (w : World) (hr : SysR w s) (hok : okS s = true) :
    Calls Try.prog 32 #[.agg #[.int .i64 s.st, .slice s.EA s.el s.ec, .slice s.AA s.ar.length s.ac]] w (GPost s w) := by
  unfold GPost
  have HE := Lib.hid hr.re
  have hal := hr.hal
  obtain ⟨hst1, hst2, -, hps⟩ := okS_parts hok
  clear hr hok
  obtain ⟨sst, EA, el, ev, ec, AA, ar, ac⟩ := s
  dsimp only at *
  have HP := Lib.hid hps
  obtain ⟨N, rfl⟩ : ∃ N : Nat, sst = N := ⟨sst.toNat, by omega⟩
  rw [show ((N : Int)).toNat = N from rfl]
  have hN : N ≤ 200 := by omega
  clear hps
  obtain ⟨w1, hw1⟩ : ∃ w1, w1 = w.alloc (.cells #[.int .i64 (N : Int), .slice EA el ec, .slice AA ar.length ac] 25) := ⟨_, rfl⟩
  have hlt1 : w.heap.size < w1.heap.size := by rw [hw1, World.size_alloc]; omega
  have B1 : Hid (Below w.heap.size w w1) := by rw [hw1]; exact (Below.refl _ _).alloc (Nat.le_refl _) _
  have q0 : w1.cell? ⟨w.heap.size, 0, none⟩ = some (.int .i64 (N : Int)) := by rw [hw1]; simp
  have q2 : w1.cell? ⟨w.heap.size, 2, none⟩ = some (.slice AA ar.length ac) := by rw [hw1]; simp
  have HS1 : Hid (w1.heap.size = w.heap.size + 1) := by show _ = _; rw [hw1, World.size_alloc]
  have HW1 := Lib.hid hw1
  clear hw1
  have hmk := run_make_rows N (by omega)
  have L0 : Hid (∀ e : Nat, outI (ar.take 0) e = []) := fun _ => rfl
  have LS : Hid (∀ (k : Nat) (e : Nat), k < ar.length → outI (ar.take (k + 1)) e = if (eA ar k).f = e then outI (ar.take k) e ++ [(eA ar k).o] else outI (ar.take k) e) := fun k e hk => outI_take hk e
  have LL : Hid (∀ (k e : Nat), (outI (ar.take k) e).length ≤ 400) := fun k e => by
    unfold outI
    rw [List.length_map]
    exact Nat.le_trans (List.length_filter_le _ _) (by rw [List.length_take]; omega)
  have LE : Hid ((fun e => outI (ar.take ar.length) e) = fun e => outI ar e) := by show _ = _; rw [List.take_length]
  have LE1 : Hid (∀ e, outI (ar.take ar.length) e = outI ar e) := fun e => by rw [List.take_length]
  clear LE
  obtain ⟨L, hL⟩ : ∃ L : Nat → Nat → List Int, L = fun k e => outI (ar.take k) e := ⟨_, rfl⟩
  have hL' : ∀ k e : Nat, outI (ar.take k) e = L k e := fun k e => by rw [hL]
  simp only [hL'] at L0 LS LL LE1
  clear hL hL'
  generalize outI ar = LF at *
  have M0 : Hid (GrowT (w1.alloc (.cells (madeCells #[.slice none 0 0] N) 34)) w1.heap.size (w1.heap.size + 1) N 34 3 1 (fun e => (L 0 e).length) (fun e => vI (L 0 e)) (fun _ => .slice none 0 0)) := by
    have h := GrowT.start (w := w1) N 34 3 1
    exact h.congr (fun e _ => by rw [L0.out e]; rfl) (fun e _ => by rw [L0.out e]; rfl)
  have START : Hid (Below w1.heap.size w1 (w1.alloc (.cells (madeCells #[.slice none 0 0] N) 34))) := (Below.refl _ _).alloc (Nat.le_refl _) _
  have PQ : Hid (∀ W, Below w1.heap.size w1 W → W.cell? ⟨w.heap.size, 2, none⟩ = some (.slice AA ar.length ac)) := fun W hW => keepc q2 hW
  have WG : Hid (∀ W, Below w1.heap.size w1 W → Below w.heap.size w W) := fun W hW => B1.out.trans (hW.mono (by omega))
  clear L0 hst1 hst2 B1
  go_enter Try.func32, Try.ntmps32
  rw [HW1.out] at q0
  go_wp2_with fail
  rw [← HW1.out] at q0 ⊢
  rw [← HS1.out]
  go_loopw [4] (fun q wr => ∃ (k : Nat) (vs : Nat → Value), k ≤ ar.length ∧ q = .int .i64 k ∧ Hid (GrowT wr w1.heap.size (w1.heap.size + 1) N 34 3 1 (fun e => (L k e).length) (fun e => vI (L k e)) vs) ∧ Hid (Below w1.heap.size w1 wr)) (fun q _ => ar.length - (intOf q).toNat)
  case atStart => exact ⟨0, _, by omega, rfl, M0, START⟩
  case round =>
    clear M0 START q0 q2
    obtain ⟨wo, rfl⟩ : ∃ wo, wo = wr := ⟨_, rfl⟩
    obtain ⟨k, vs, hk, rfl, MR, BB⟩ := hrel
    have BG := Lib.hid (WG.out _ BB.out)
    have e2 := PQ.out _ BB.out
    by_cases hlt : k < ar.length
    · have EC : Hid (∀ W, Below w1.heap.size w1 W → ∃ b off, AA = some ⟨b, off, none⟩ ∧ W.cell? ⟨b, off + k * 3, none⟩ = some (.int .i64 (eA ar k).f) ∧ W.cell? ⟨b, off + k * 3 + 2, none⟩ = some (.int .i64 (eA ar k).o)) := fun W hW => by
        obtain ⟨b, off, e, _, c0, _, c2⟩ := (HE.out.below (WG.out W hW) (Nat.le_refl _)) k hlt
        exact ⟨b, off, e, c0, c2⟩
      have hxm := HP.out _ (eA_mem hlt)
      have LSk := fun e => LS.out k e hlt
      have LLk := LL.out k
      clear LS LL
      generalize eA ar k = x at *
      obtain ⟨xf, xt, xo⟩ := x
      dsimp only at *
      obtain ⟨e, rfl⟩ : ∃ e : Nat, xf = e := ⟨xf.toNat, by omega⟩
      have he : e < N := by omega
      clear hxm
      obtain ⟨b, off, rfl, c0, c2⟩ := EC.out _ BB.out
      have EC2 : Hid (∀ W, Below w1.heap.size w1 W → W.cell? ⟨b, off + k * 3, none⟩ = some (.int .i64 (e : Int)) ∧ W.cell? ⟨b, off + k * 3 + 2, none⟩ = some (.int .i64 xo)) := fun W hW => by
        obtain ⟨b', off', e', h1, h2⟩ := EC.out W hW
        injection e' with e'
        injection e' with e1 e2
        subst e1 e2
        exact ⟨h1, h2⟩
      clear EC
      have LSk := Lib.hid LSk
      have hv := MR.out.2.2.1.cell he
      have hown := own_ge (MR.out.2.2.2.1 e he)
      have hlen := LLk e
      clear LLk
      have hbig := BB.out.size
      have hsz2 : w1.heap.size < wo.heap.size := MR.out.2.2.1.lt
      have hOw0 := MR.out.2.2.2.1 e he
      generalize hvv : vs e = ve at *
      have HVV := Lib.hid hvv
      clear hvv
      obtain ⟨vA, vc, hve⟩ : ∃ A c, ve = .slice A (L k e).length c := by
        rcases hOw0.2 with ⟨h1, h0⟩ | ⟨g, cap, cur, h1, _⟩
        · have h0 : (L k e).length = 0 := h0
          exact ⟨none, 0, by rw [h1, h0]⟩
        · exact ⟨_, _, h1⟩
      have HV := Lib.hid hve
      have HOW0 := Lib.hid hOw0
      clear hve hOw0
      obtain ⟨w5, hw5⟩ : ∃ w5, w5 = wo.alloc (.cells #[.int .i64 xo] 3) := ⟨_, rfl⟩
      have KB : Below wo.heap.size wo w5 := by rw [hw5]; exact (Below.refl _ _).alloc (Nat.le_refl _) _
      have hs5 : w5.heap.size = wo.heap.size + 1 := by rw [hw5, World.size_alloc]
      have g0 : w5.cell? ⟨wo.heap.size, 0, none⟩ = some (.int .i64 xo) := by rw [hw5]; simp
      have hOw : w5.ownsRow (w1.heap.size + 1) 3 1 ve (L k e).length (vI (L k e)) := by rw [hw5]; exact HOW0.out.alloc _
      have M5 := MR.out.below KB
      have B5 := BB.out.trans (KB.mono (by omega))
      have PACK : Hid (∀ v' w6, w6.ownsRow (w1.heap.size + 1) 3 1 v' ((L k e).length + 1) (vI (L k e) ++ [.int .i64 xo]) → w5.grownBy w6 ve.ownBlock → (v'.ownBlock = ve.ownBlock ∨ v'.ownBlock = some w5.heap.size) →
          (∃ vs', GrowT (w6.setCell ⟨w1.heap.size, e, none⟩ v') w1.heap.size (w1.heap.size + 1) N 34 3 1 (fun e => (L (k + 1) e).length) (fun e => vI (L (k + 1) e)) vs') ∧ Below w1.heap.size w1 w6 ∧ Below w1.heap.size w1 (w6.setCell ⟨w1.heap.size, e, none⟩ v') ∧ (∃ u, w6.cell? ⟨w1.heap.size, e, none⟩ = some u) ∧ w6.frozen? ⟨w1.heap.size, e, none⟩ = false) := fun v' w6 ho6 hg6 hb6 => by
        have hnb : ∀ q, ve.ownBlock = some q → w1.heap.size + 1 ≤ q ∧ q < wo.heap.size := fun q hq => by rcases hown with h | ⟨g, h, h1, h2⟩; (rw [h] at hq; cases hq); (rw [h] at hq; injection hq with hq; subst hq; exact ⟨h1, h2⟩)
        have BG6 : Below w1.heap.size w1 w6 := B5.trans ((Below.refl _ w5).grown hg6 (by omega) fun q hq => by have := (hnb q hq).1; omega)
        have M6 := M5.step he ho6 (by rw [HVV.out]; exact hg6) (by rw [HVV.out]; exact hb6)
        have ne : some w1.heap.size ≠ ve.ownBlock := fun c => by have h9 : w1.heap.size + 1 ≤ w1.heap.size := (hnb _ c.symm).1; omega
        have h3 := M5.2.2.1.of_block (hg6.block _ M5.2.2.1.lt ne)
        refine ⟨⟨_, M6.congr (ln' := fun i => (L (k + 1) i).length) (X' := fun i => vI (L (k + 1) i)) (fun i _ => ?_) (fun i _ => ?_)⟩, BG6, BG6.setCell (Nat.le_refl _) _, ⟨_, h3.cell he⟩, h3.frozen e⟩
        · rw [LSk.out i]
          by_cases hie : i = e
          · rw [if_pos hie, if_pos (by rw [hie]), hie]; simp
          · rw [if_neg hie, if_neg (fun c => hie (by omega))]
        · rw [LSk.out i]
          by_cases hie : i = e
          · rw [if_pos hie, if_pos (by rw [hie]), hie, vI_snoc]
          · rw [if_neg hie, if_neg (fun c => hie (by omega))]
      have HW5 := Lib.hid hw5
      have HOW := Lib.hid hOw
      clear hOw hw5 MR M5 KB hown LSk HOW0
      rw [HV.out] at hv
      go_wp2_with (at_builtin; rw [← HW5.out, ← HV.out]; go_loud (refine wpList_intg rfl (.tmp 25) (.tmp 32) rfl (w1.heap.size + 1) ve (L k e) xo rfl HOW.out wo.heap.size rfl g0 (by omega) (by omega) ?_); intro v' w6 ho6 hg6 hb6; obtain ⟨gv, cv, hv'⟩ := own_form ho6; subst hv'; obtain ⟨⟨vs', m6⟩, b6, b7, ⟨cu, ct⟩, cf⟩ := PACK.out _ w6 ho6 hg6 hb6; have M6 := Lib.hid m6; have B7 := Lib.hid b7; obtain ⟨d0, d2⟩ := EC2.out _ b6; have e2 := PQ.out _ b6; clear m6 b6 b7 ho6 hg6 hb6 PACK c0 c2)
      go_roundw
      case rel => exact ⟨k + 1, _, by omega, by go_num, M6, B7⟩
      case measure => simp [intOf]; omega
    · obtain rfl : k = ar.length := by omega
      have M9 : Hid (GrowT wo w1.heap.size (w1.heap.size + 1) N 34 3 1 (fun e => (LF e).length) (fun e => vI (LF e)) vs) := MR.out.congr (fun e _ => by rw [LE1.out e]) (fun e _ => by rw [LE1.out e])
      clear MR LE1 LS LL
      go_wp2
      go_ret
      exact ⟨_, _, rfl, M9.out, BG.out⟩
end Go.Proofs.Ythcbcgaekbmoaaa
