/- Graphs: Topo. -/
import Derived.Test.YtdfljeonoallfaaGTM
namespace Go.Proofs.Ytdfljeonoallfaa
open Go.RowKit Go.Deep

theorem len_back (RL : Nat → List Int) (n v : Nat) : (revV RL n v).length = cntT (tabB RL) n (fun _ => false) v := by
  unfold cntT cN revV tabB
  simp
theorem fol_rev (RL : Nat → List Int) {n v : Nat} (hv : v < n) : revV (revV RL n) n v = pickI (tabB RL v) n := by
  have h : ∀ k, k ≤ n → pickI (fun u => (revV RL n u).contains (v : Int)) k = pickI (tabB RL v) k := by
    intro k
    induction k with
    | zero => intro _; rfl
    | succ k ih =>
      intro hk
      have e : (revV RL n k).contains (v : Int) = tabB RL v k := by
        unfold revV tabB
        cases c : (RL v).contains (k : Int)
        · rw [Bool.eq_false_iff]
          intro h
          have := (pick_has.1 h).2
          rw [c] at this
          cases this
        · exact pick_has.2 ⟨hv, c⟩
      cases c : tabB RL v k
      · rw [pickI_no _ _ c, pickI_no _ _ (by rw [e]; exact c), ih (by omega)]
      · rw [pickI_yes _ _ c, pickI_yes _ _ (by rw [e]; exact c), ih (by omega)]
  exact h n (Nat.le_refl _)
theorem GraphR.at {w : World} {T n : Nat} {RA : Nat → Option Addr} {RL : Nat → List Int} {RK : Nat → Nat} (h : GraphR w (some ⟨T, 0, none⟩) n RA RL RK) {k : Nat} (hk : k < n) : w.cell? ⟨T, k, none⟩ = some (.slice (RA k) (RL k).length (RK k)) := by
  obtain ⟨b, off, e, _, h2⟩ := h.row k hk
  injection e with e
  injection e with e1 e2
  subst e1 e2
  rw [Nat.zero_add] at h2
  exact h2
theorem HeapQ.start (w : World) (gm : Nat) (a : Obj) (hg : w.heap.size = gm) : HeapQ (((w.alloc a).alloc (.cells #[] 3)).alloc (.cells #[.slice (some ⟨gm + 1, 0, none⟩) 0 0] 48)) (gm + 1 + 1) (gm + 1) (.slice (some ⟨gm + 1, 0, none⟩) 0 0) 0 (fun _ => 0) := by
  subst hg
  have e1 : (((w.alloc a).alloc (.cells #[] 3)).alloc (.cells #[.slice (some ⟨w.heap.size + 1, 0, none⟩) 0 0] 48)).heap[w.heap.size + 1 + 1]? = some (.cells #[.slice (some ⟨w.heap.size + 1, 0, none⟩) 0 0] 48) := by
    have h := Go.heap_alloc_new ((w.alloc a).alloc (.cells #[] 3)) (.cells #[.slice (some ⟨w.heap.size + 1, 0, none⟩) 0 0] 48)
    rw [World.size_alloc, World.size_alloc] at h
    exact h
  have e2 : (((w.alloc a).alloc (.cells #[] 3)).alloc (.cells #[.slice (some ⟨w.heap.size + 1, 0, none⟩) 0 0] 48)).heap[w.heap.size + 1]? = some (.cells #[] 3) := by
    rw [blk_alloc_lt _ _ _ (by rw [World.size_alloc, World.size_alloc]; omega)]
    have h := Go.heap_alloc_new (w.alloc a) (.cells #[] 3)
    rw [World.size_alloc] at h
    exact h
  refine ⟨?_, ?_, ⟨rfl, Or.inr ⟨w.heap.size + 1, 0, #[], rfl, Nat.le_refl _, e2, Nat.le_refl _, by unfold maxLen; omega, rfl, rfl⟩⟩, fun e => ?_, by omega⟩
  · unfold World.cell?
    dsimp only
    rw [e1]
    rfl
  · unfold World.frozen?
    dsimp only
    rw [e1]
    rfl
  · injection e with e
    have e : w.heap.size + 1 = w.heap.size + 1 + 1 := e
    omega
theorem HeapQ.form {W : World} {Q base m : Nat} {hv : Value} {q : Nat → Int} (h : HeapQ W Q base hv m q) : ∃ A c, hv = .slice A m c := by
  rcases h.own.2 with ⟨e, h0⟩ | ⟨g, cap, cur, e, _⟩
  · exact ⟨none, 0, by rw [e, h0]⟩
  · exact ⟨_, _, e⟩
def lenV : Value → Nat
  | .slice _ m _ => m
  | _ => 0
theorem OwnI.len {w : World} {s : Nat} {v : Value} {zs : List Int} (h : OwnI w s v zs) : lenV v = zs.length := by
  rcases h.2 with ⟨e, h0⟩ | ⟨g, cap, cur, e, _⟩
  · rw [e, h0]; rfl
  · rw [e]; rfl
/-- memory at the beginning of Topo: counters and heap -/
structure TopA (w1 : World) (gm gq n : Nat) (mis : Nat → Nat) (hv : Value) (m : Nat) (q : Nat → Int) (W : World) : Prop where
  bl : Below w1.heap.size w1 W
  hq : HeapQ W gq (gm + 1) hv m q
  mr : W.rowIs gm 3 n (fun j => .int .i64 (mis j : Nat))
section
variable {w1 W W' : World} {gm gq n m : Nat} {mis : Nat → Nat} {hv hv' : Value} {q q' : Nat → Int}
theorem TopA.drew (h : TopA w1 gm gq n mis hv m q W) : TopA w1 gm gq n mis hv m q W.drew := ⟨h.bl.drew, h.hq.drew, h.mr.drew⟩
theorem TopA.put (h : TopA w1 gm gq n mis hv m q W) (h1 : w1.heap.size ≤ gm) (h2 : gm ≠ gq) (i x : Nat) : TopA w1 gm gq n (fun j => if j = i then x else mis j) hv m q (W.setCell ⟨gm, i, none⟩ (.int .i64 (x : Nat))) :=
  ⟨h.bl.setCell (by exact h1) _, h.hq.keep (S := fun k => k ≠ gm) (KeepOn.set _ _ _ fun c => c rfl) (fun c => h2 c.symm) fun g e c => by
    have := (h.hq.own.lt g e).1
    omega, (h.mr.set i (.int .i64 (x : Nat))).congr fun j _ => by by_cases c : j = i <;> simp [c]⟩
theorem TopA.pushed {g c : Nat} (h : TopA w1 gm gq n mis hv m q W) (h1 : w1.heap.size ≤ gm) (h2 : gm ≠ gq) (h3 : w1.heap.size ≤ gq) (hs : HeapS W' gq (gm + 1) g (m + 1) c q') (hk : KeepOn (fun k => k ≠ gq ∧ hv.ownBlock ≠ some k) W W') : TopA w1 gm gq n mis (.slice (some ⟨g, 0, none⟩) (m + 1) c) (m + 1) q' W' := by
  have ho : ∀ k, k ≤ gm → hv.ownBlock ≠ some k := fun k hk e => by
    have := (h.hq.own.lt k e).1
    omega
  exact ⟨h.bl.trans (hk.below h.bl.size fun k hk2 => ⟨by omega, ho k (by omega)⟩), hs.toQ, h.mr.of_block (hk.block gm h.mr.lt ⟨h2, ho gm (Nat.le_refl _)⟩)⟩
theorem TopA.congr {mis' : Nat → Nat} (h : TopA w1 gm gq n mis hv m q W) (e : ∀ j, j < n → mis j = mis' j) : TopA w1 gm gq n mis' hv m q W := ⟨h.bl, h.hq, h.mr.congr fun j hj => by rw [e j hj]⟩
theorem TopA.own (h : TopA w1 gm gq n mis hv m q W) : gm + 1 ≤ W.heap.size := h.mr.lt
theorem TopA.popped {g c : Nat} (h : TopA w1 gm gq n mis (.slice (some ⟨g, 0, none⟩) (m + 1) c) (m + 1) q W) (h1 : w1.heap.size ≤ gm) (h2 : gm ≠ gq) (h3 : w1.heap.size ≤ gq) (hs : HeapS W' gq (gm + 1) g m c q') (hk : KeepOn (fun k => k ≠ gq ∧ k ≠ g) W W') : TopA w1 gm gq n mis (.slice (some ⟨g, 0, none⟩) m c) m q' W' := by
  have ho : gm + 1 ≤ g := (h.hq.own.lt g rfl).1
  exact ⟨h.bl.trans (hk.below h.bl.size fun k hk2 => ⟨by omega, by omega⟩), hs.toQ, h.mr.of_block (hk.block gm h.mr.lt ⟨h2, by omega⟩)⟩
theorem TopA.below (h : TopA w1 gm gq n mis hv m q W) (hb : Below W.heap.size W W') : TopA w1 gm gq n mis hv m q W' :=
  ⟨h.bl.trans (hb.mono h.bl.size), h.hq.keep (S := fun _ => True) (KeepOn.of_below _ hb) trivial fun _ _ => trivial, h.mr.of_block (hb.block gm h.mr.lt)⟩
/-- memory within Topo -/
structure TopS (w1 w2 : World) (gm gq T2 n : Nat) (mis : Nat → Nat) (hv : Value) (m : Nat) (q : Nat → Int) (ov : Value) (o : List Int) (W : World) : Prop where
  ta : TopA w1 gm gq n mis hv m q W
  kf : KeepOn (fun b => T2 ≤ b ∧ b < w2.heap.size) w2 W
  ow : OwnI W w2.heap.size ov o
  far : ∀ g, hv.ownBlock = some g → g < T2 ∨ w2.heap.size ≤ g
  dif : ∀ g, ov.ownBlock = some g → hv.ownBlock ≠ some g
variable {w2 : World} {T2 : Nat} {ov ov' : Value} {o : List Int}
theorem TopS.congr {mis' : Nat → Nat} (h : TopS w1 w2 gm gq T2 n mis hv m q ov o W) (e : ∀ j, j < n → mis j = mis' j) : TopS w1 w2 gm gq T2 n mis' hv m q ov o W := ⟨h.ta.congr e, h.kf, h.ow, h.far, h.dif⟩
theorem TopS.put (h : TopS w1 w2 gm gq T2 n mis hv m q ov o W) (h1 : w1.heap.size ≤ gm) (h2 : gm ≠ gq) (h4 : gm < T2) (h5 : T2 ≤ w2.heap.size) (i x : Nat) : TopS w1 w2 gm gq T2 n (fun j => if j = i then x else mis j) hv m q ov o (W.setCell ⟨gm, i, none⟩ (.int .i64 (x : Nat))) :=
  ⟨h.ta.put h1 h2 i x, h.kf.trans (KeepOn.set _ _ _ fun c => by have := c.1; have h6 : T2 ≤ gm := this; omega), own_other h.ow (by omega), h.far, h.dif⟩
theorem TopS.pushed {g c : Nat} (h : TopS w1 w2 gm gq T2 n mis hv m q ov o W) (h1 : w1.heap.size ≤ gm) (h2 : gm ≠ gq) (h3 : w1.heap.size ≤ gq) (h4 : gq < T2) (h5 : T2 ≤ w2.heap.size) (hs : HeapS W' gq (gm + 1) g (m + 1) c q') (hk : KeepOn (fun k => k ≠ gq ∧ hv.ownBlock ≠ some k) W W') (hn : hv.ownBlock = some g ∨ W.heap.size ≤ g) : TopS w1 w2 gm gq T2 n mis (.slice (some ⟨g, 0, none⟩) (m + 1) c) (m + 1) q' ov o W' where
  ta := h.ta.pushed h1 h2 h3 hs hk
  kf := h.kf.trans (hk.mono fun b _ hb => ⟨by omega, fun e => by have := h.far b e; omega⟩)
  ow := hk.own h.ow fun b hb => ⟨by have := (h.ow.lt b hb).1; omega, h.dif b hb⟩
  far := fun b e => by
    injection e with e
    have e : g = b := e
    rcases hn with h6 | h6
    · exact h.far b (by rw [← e]; exact h6)
    · have := h.kf.size
      omega
  dif := fun b hb e => by
    injection e with e
    have e : g = b := e
    rcases hn with h6 | h6
    · exact h.dif b hb (by rw [← e]; exact h6)
    · have := (h.ow.lt b hb).2
      omega
theorem TopS.popped {g c : Nat} (h : TopS w1 w2 gm gq T2 n mis (.slice (some ⟨g, 0, none⟩) (m + 1) c) (m + 1) q ov o W) (h1 : w1.heap.size ≤ gm) (h2 : gm ≠ gq) (h3 : w1.heap.size ≤ gq) (h4 : gq < T2) (h5 : T2 ≤ w2.heap.size) (hs : HeapS W' gq (gm + 1) g m c q') (hk : KeepOn (fun k => k ≠ gq ∧ k ≠ g) W W') : TopS w1 w2 gm gq T2 n mis (.slice (some ⟨g, 0, none⟩) m c) m q' ov o W' where
  ta := h.ta.popped h1 h2 h3 hs hk
  kf := h.kf.trans (hk.mono fun b _ hb => ⟨by omega, by have := h.far g rfl; omega⟩)
  ow := hk.own h.ow fun b hb => ⟨by have := (h.ow.lt b hb).1; omega, fun e => h.dif b hb (by rw [e]; rfl)⟩
  far := fun b e => h.far b e
  dif := fun b hb e => h.dif b hb e
theorem TopS.grown {ob : Obj} {d : Int} (h : TopS w1 w2 gm gq T2 n mis hv m q ov o W) (h1 : w1.heap.size ≤ gm) (h2 : gm ≠ gq) (h3 : w1.heap.size ≤ gq) (h4 : gq < T2) (h4' : gm < T2) (h5 : T2 ≤ w2.heap.size) (ho : W'.ownsRow w2.heap.size 3 1 ov' (o.length + 1) (vI o ++ [.int .i64 d])) (hg : (W.alloc ob).grownBy W' ov.ownBlock) (hn : ov'.ownBlock = ov.ownBlock ∨ ov'.ownBlock = some (W.alloc ob).heap.size) : TopS w1 w2 gm gq T2 n mis hv m q ov' (o ++ [d]) W' := by
  have hK : KeepOn (fun k => ov.ownBlock ≠ some k) W W' := (KeepOn.alloc (S := fun k => ov.ownBlock ≠ some k) W ob).trans ⟨hg.os, hg.tape, hg.output, hg.size, fun k hk hs => hg.block k hk fun e => hs e.symm⟩
  have hov : ∀ k, k < w2.heap.size → ov.ownBlock ≠ some k := fun k hk e => by have := (h.ow.lt k e).1; omega
  have hw : w1.heap.size ≤ w2.heap.size := by omega
  refine ⟨⟨h.ta.bl.trans (hK.below h.ta.bl.size fun k hk => hov k (by omega)), h.ta.hq.keep hK (hov _ (by omega)) fun g e c => h.dif g c e, h.ta.mr.of_block (hK.block gm h.ta.mr.lt (hov gm (by omega)))⟩, h.kf.trans (hK.mono fun b _ hb => hov b hb.2), ?_, h.far, fun b hb e => ?_⟩
  · unfold OwnI
    rw [List.length_append, List.length_singleton, List.map_append]
    exact ho
  · rcases hn with h6 | h6
    · exact h.dif b (by rw [← h6]; exact hb) e
    · rw [h6] at hb
      injection hb with hb
      have := (h.ta.hq.own.lt b e).2
      rw [World.size_alloc] at hb
      omega
end
def misS (C : Nat → Nat) (k : Nat) : Nat → Nat := fun j => if j < k then C j else 0
set_option maxHeartbeats 8000000 in
set_option maxRecDepth 100000 in
theorem topo_any (gA : Option Addr) (n gc : Nat) (RA : Nat → Option Addr) (RL : Nat → List Int) (RK : Nat → Nat) (w : World) (GR : GraphR w gA n RA RL RK) :
    Calls Try.prog 27 #[.slice gA n gc] w (PthPost w.heap.size w (topG RL n)) := by
  have hn := GR.hn
  have CR := Lib.hid (reverse_any gA n gc RA RL RK w GR)
  have LB := Lib.hid (len_back RL n)
  have hmk := run_make_ints n (by omega)
  have CP : Hid (∀ (Q base m : Nat) (hv : Value) (q : Nat → Int) (x : Int) (W : World), HeapQ W Q base hv m q → hOk q m → m < 100000 → base ≤ W.heap.size → Calls Try.prog 38 #[.iface 47 (.pointer (some ⟨Q, 0, none⟩)), .iface 3 (.int .i64 x)] W fun e w' => (∃ z, e = .returned z) ∧ ∃ g c q', HeapS w' Q base g (m + 1) c q' ∧ hOk q' (m + 1) ∧ SameH (fun k => if k = m then x else q k) q' (m + 1) ∧ KeepOn (fun k => k ≠ Q ∧ hv.ownBlock ≠ some k) W w' ∧ (hv.ownBlock = some g ∨ W.heap.size ≤ g)) := fun Q base m hv q x W h1 h2 h3 h4 => hpush_any Q base m hv q x W h1 h2 h3 h4
  clear GR
  unfold PthPost
  have HA : Hid (topF (tabB RL) n n (fun _ => false) [] = topG RL n) := rfl
  generalize topG RL n = ANS at *
  go_enter Try.func27, Try.ntmps27
  go_wp2_with fail
  refine CR.out.mono ?_
  rintro e w1 ⟨vs1, rfl, M1, K1⟩
  have GB := Lib.hid (rev_graph M1 hn)
  have K1 := Lib.hid K1
  clear CR M1
  generalize (fun e => addrOf (vs1 e)) = RA1 at *
  generalize (fun e => capOf (vs1 e)) = RK1 at *
  have A0 : Hid (TopA w1 w1.heap.size (w1.heap.size + 1 + 1) n (misS (cntT (tabB RL) n fun _ => false) 0) (.slice (some ⟨w1.heap.size + 1, 0, none⟩) 0 0) 0 (fun _ => 0) (((w1.alloc (.cells (madeCells #[.int .i64 0] n) 3)).alloc (.cells #[] 3)).alloc (.cells #[.slice (some ⟨w1.heap.size + 1, 0, none⟩) 0 0] 48))) :=
    ⟨(((Below.refl _ _).alloc (Nat.le_refl _) _).alloc (by simp) _).alloc (by simp; omega) _, HeapQ.start w1 _ _ rfl, (((World.rowIs_made w1 (.int .i64 0) n 3).alloc _).alloc _).congr fun j hj => by unfold misS; simp⟩
  have KS0 : Hid (KahnS (tabB RL) n 0 0 (fun _ => 0)) := KahnS.start _ _ _
  have OK0 : Hid (hOk (fun _ => 0) 0) := fun i h1 h2 => absurd h2 (by omega)
  have hmk3 := hmk
  clear hmk
  generalize hC : (cntT (tabB RL) n fun _ => false) = C at *
  have HC := Lib.hid hC
  clear hC
  go_wp2_with fail
  go_loopw [22] (fun iv wr => ∃ (k m : Nat) (hv : Value) (q : Nat → Int), k ≤ n ∧ iv = .int .i64 (k : Nat) ∧ Hid (KahnS (tabB RL) n k m q) ∧ Hid (hOk q m) ∧ Hid (TopA w1 w1.heap.size (w1.heap.size + 1 + 1) n (misS C k) hv m q wr)) (fun iv _ => n - (intOf iv).toNat)
  case atStart => exact ⟨0, 0, _, _, by omega, rfl, KS0, OK0, A0⟩
  case round =>
    clear KS0 OK0 A0
    obtain ⟨wo, rfl⟩ : ∃ wo, wo = wr := ⟨_, rfl⟩
    obtain ⟨k, m, hv, q, hk, rfl, KS, OK, TA⟩ := hrel
    by_cases hlt : k < n
    · have c0 := (GB.out.below TA.out.bl).at hlt
      have c1 := TA.out.mr.cell hlt
      have f1 := TA.out.mr.frozen k
      have hlen := LB.out k
      have hmm := KS.out.few
      obtain ⟨x, hx⟩ : ∃ x, x = C k := ⟨_, rfl⟩
      have T2 : Hid (TopA w1 w1.heap.size (w1.heap.size + 1 + 1) n (misS C (k + 1)) hv m q (wo.setCell ⟨w1.heap.size, k, none⟩ (.int .i64 (x : Nat)))) := by
        refine (TA.out.put (Nat.le_refl _) (by omega) k x).congr fun j hj => ?_
        unfold misS
        by_cases c : j = k
        · rw [if_pos c, if_pos (by omega), hx, c]
        · rw [if_neg c]
          by_cases c2 : j < k
          · rw [if_pos c2, if_pos (by omega)]
          · rw [if_neg c2, if_neg (by omega)]
      have hlen : (revV RL n k).length = x := by rw [LB.out k, hx, ← HC.out]
      have hxk : cntT (tabB RL) n (fun _ => false) k = x := by rw [hx, ← HC.out]
      rw [hlen] at c0
      have hxb : x ≤ 4000 := by
        rw [← hlen]
        have := pickI_len (fun u => (RL u).contains (k : Int)) n
        unfold revV
        omega
      clear hlen hx
      by_cases hx0 : x = 0
      · subst hx0
        have KS2 : Hid (∀ q', SameH (putQ q m (k : Int)) q' (m + 1) → KahnS (tabB RL) n (k + 1) (m + 1) q') := fun q' h => KS.out.push hlt hxk h
        have CPk := Lib.hid (CP.out _ _ m hv q (k : Int) _ T2.out.hq OK.out (by omega) T2.out.own)
        have hhm := hmm
        clear hmm hxk KS OK TA
        go_wp2_with fail
        refine CPk.out.mono ?_
        rintro e w2 ⟨⟨z, rfl⟩, g, c, q2, H2, O2, S2, K2, N2⟩
        have KS3 := Lib.hid (KS2.out q2 S2)
        have T3 := Lib.hid (T2.out.pushed (Nat.le_refl _) (by omega) (by omega) H2 K2)
        have O3 := Lib.hid O2
        clear H2 O2 S2 K2 N2 T2 KS2 CPk
        go_wp2
        go_roundw
        case rel => exact ⟨k + 1, m + 1, _, q2, by omega, by go_num, KS3, O3, T3⟩
        case measure => simp [intOf]; omega
      · have KS2 := Lib.hid (KS.out.skip hlt (by rw [hxk]; exact hx0))
        have hd : ((x : Int) == 0) = false := by simp; omega
        clear hmm hxk KS TA hx0
        go_wp2
        go_roundw
        case rel => exact ⟨k + 1, m, hv, q, by omega, by go_num, KS2, OK, T2⟩
        case measure => simp [intOf]; omega
    · obtain rfl : k = n := by omega
      have KI := Lib.hid KS.out.done
      clear KS
      have CR2 := Lib.hid (reverse_any (some ⟨w.heap.size, 0, none⟩) k k RA1 (revV RL k) RK1 wo (GB.out.below TA.out.bl))
      have hg1 : w1.heap.size < wo.heap.size := TA.out.mr.lt
      have hg2 : w1.heap.size + 1 + 1 < wo.heap.size := World.block_lt_of_cell? wo ⟨w1.heap.size + 1 + 1, 0, none⟩ TA.out.hq.cell
      clear GB LB hk hlt
      go_wp2_with fail
      refine CR2.out.mono ?_
      rintro e w2 ⟨vs2, rfl, M2, K2⟩
      have hg3 : wo.heap.size ≤ w2.heap.size := K2.size
      have FW : Hid (∀ W, KeepOn (fun b => wo.heap.size ≤ b ∧ b < w2.heap.size) w2 W → ∀ v, v < k → W.cell? ⟨wo.heap.size, v, none⟩ = some (.slice (addrOf (vs2 v)) (pickI (tabB RL v) k).length (capOf (vs2 v))) ∧ ReadsV W (addrOf (vs2 v)) (pickI (tabB RL v) k)) := fun W hW v hv => by
        have G := rev_graph (M2.keepOn hW.size fun j h1 h2 => hW.block j h2 ⟨h1, h2⟩) hn
        rw [← fol_rev RL hv]
        exact ⟨G.at hv, G.rd v hv⟩
      have TS0 : Hid (TopS w1 w2 w1.heap.size (w1.heap.size + 1 + 1) wo.heap.size k (cntT (tabB RL) k fun _ => false) hv m q (.slice none 0 0) [] w2) :=
        ⟨(TA.out.below K2).congr fun j hj => by unfold misS; rw [if_pos hj, ← HC.out], KeepOn.refl _ _, OwnI.nil _ _, fun g e => Or.inl (TA.out.hq.own.lt g e).2, fun g e => by cases e⟩
      have Q0 : Hid (topF (tabB RL) k (k - 0) (fun _ => false) [] = ANS) := by show _ = _; rw [Nat.sub_zero]; exact HA.out
      have D0 : Hid (cN (fun _ => false) k = 0) := cN_zero.2 fun _ _ => rfl
      have CL : Hid (∀ A m c W, m ≤ 1000000 → Calls Try.prog 39 #[.slice A m c] W fun e w' => e = .returned (.int .i64 (m : Nat)) ∧ w' = W) := qlen_any
      have CO : Hid (∀ (Q base g m c : Nat) (q : Nat → Int) (w : World), HeapS w Q base g (m + 1) c q → hOk q (m + 1) → Calls Try.prog 40 #[.iface 47 (.pointer (some ⟨Q, 0, none⟩))] w fun e w' => e = .returned (.iface 3 (.int .i64 (q 0))) ∧ ∃ q', HeapS w' Q base g m c q' ∧ hOk q' m ∧ SameH q (fun k => if k = m then q 0 else q' k) (m + 1) ∧ KeepOn (fun k => k ≠ Q ∧ k ≠ g) w w') := hpop_any
      have hTA := @ta_int
      clear CR2 M2 TA HC HA hmk3
      generalize (fun e => addrOf (vs2 e)) = RA2 at *
      generalize tabB RL = T at *
      generalize hgm : w1.heap.size = gm at *
      generalize hgq : gm + 1 + 1 = gq at *
      generalize wo.heap.size = T2 at *
      have HGM := Lib.hid hgm
      have hgm1 : w1.heap.size ≤ gm := by omega
      have hgq1 : w1.heap.size ≤ gq := by omega
      have hgmq : gm ≠ gq := by omega
      clear hgm hgq
      have KI0 := KI
      have OK0 := OK
      clear KI OK
      go_wp2_with fail
      go_loopw [9] (fun ov wr => ∃ (r m : Nat) (hv : Value) (q : Nat → Int) (D : Nat → Bool) (o : List Int), r ≤ k ∧ o.length = r ∧ Hid (KahnI T k D m q) ∧ Hid (hOk q m) ∧ Hid (TopS w1 w2 gm gq T2 k (cntT T k D) hv m q ov o wr) ∧ Hid (topF T k (k - r) D o = ANS) ∧ Hid (cN D k = r)) (fun ov _ => k - lenV ov)
      case atStart => exact ⟨0, m, hv, q, _, [], by omega, rfl, KI0, OK0, TS0, Q0, D0⟩
      case round =>
        clear KI0 OK0 TS0 Q0 D0
        obtain ⟨wx, rfl⟩ : ∃ wx, wx = wr := ⟨_, rfl⟩
        obtain ⟨r, m, hv, q, D, o, hr, hol, KI, OK, TS, HQ, HD⟩ := hrel
        obtain ⟨A, c, rfl⟩ := TS.out.ta.hq.form
        have hlv := Lib.hid TS.out.ow.len
        have hmm := KI.out.few
        have cQ := TS.out.ta.hq.cell
        have CLm := Lib.hid (CL.out A m c wx (by omega))
        have HOL := Lib.hid hol
        clear hol
        obtain ⟨Ao, co, eo, ro⟩ := ReadsV.own TS.out.ow
        subst eo
        have RO := Lib.hid ro
        clear ro hlv
        cases m with
        | zero =>
          have NX := Lib.hid KI.out.none
          have BF := Lib.hid (K1.out.trans (TS.out.ta.bl.mono K1.out.size))
          have hol : o.length ≤ 4000 := by rw [HOL.out]; omega
          clear KI TS OK CO CP FW HD hmm
          by_cases hlt : r < k
          · have E : Hid (ANS = ([], false)) := by
              show _ = _
              rw [← HQ.out, show k - r = (k - (r + 1)) + 1 by omega]
              exact topF_no NX.out
            have hlo : (o.length : Int) < (k : Int) := by rw [HOL.out]; omega
            clear HQ NX
            go_wp2_with fail
            refine CLm.out.mono ?_
            rintro e w3 ⟨rfl, rfl⟩
            go_wp2_with fail
            go_ret2
            exact ⟨none, 0, by rw [E.out]; rfl, by rw [E.out]; exact fun j hj => absurd hj (by simp), BF.out⟩
          · obtain rfl : r = k := by omega
            have E : Hid ((o, true) = ANS) := by
              show _ = _
              rw [← HQ.out, Nat.sub_self]
              rfl
            have hlo : ¬ (o.length : Int) < (r : Int) := by rw [HOL.out]; omega
            clear HQ NX
            go_wp2_with fail
            refine CLm.out.mono ?_
            rintro e w3 ⟨rfl, rfl⟩
            go_wp2_with fail
            go_ret2
            exact ⟨Ao, co, by rw [← E.out]; rfl, by rw [← E.out]; exact RO.out, BF.out⟩
        | succ m =>
          obtain ⟨v, hv, e0, hd, hc, hnx⟩ := KI.out.next OK.out
          obtain ⟨g, c', eg, HS⟩ := TS.out.ta.hq.toS (Nat.succ_pos m)
          injection eg with eg1 eg2 eg3
          subst eg1 eg3
          have hrk : r < k := by rw [← HD.out]; exact cN_lt hv hd
          have COx := Lib.hid (CO.out _ _ g m c q wx HS OK.out)
          rw [e0] at COx
          have KP : Hid (∀ q', SameH q (putQ q' m (v : Int)) (m + 1) → KahnR T k D v 0 m q') := fun q' h => KI.out.pop hv e0 hd hc (by rw [e0]; exact h)
          have Q2 : Hid (topF T k (k - (r + 1)) (putD D v) (o ++ [(v : Int)]) = ANS) := by
            show _ = _
            rw [← HQ.out, show k - r = (k - (r + 1)) + 1 by omega]
            exact (topF_yes hnx).symm
          have D2 : Hid (cN (putD D v) k = r + 1) := by
            show _ = _
            rw [cN_putD hv hd, HD.out]
          have FWv := Lib.hid fun W hW => FW.out W hW v hv
          generalize addrOf (vs2 v) = AF at *
          generalize capOf (vs2 v) = KF at *
          have hfl : (pickI (T v) k).length ≤ k := pickI_len _ _
          have hol : o.length ≤ 4000 := by rw [HOL.out]; omega
          have hmp : (0 : Int) < ((m + 1 : Nat) : Int) := by omega
          have hgq2 : wx.cell? ⟨gq, 0, none⟩ = some (.slice (some ⟨g, 0, none⟩) (m + 1) c) := cQ
          clear KI OK HQ HD hnx e0 CO FW cQ HS
          go_wp2_with fail
          refine CLm.out.mono ?_
          rintro e w3 ⟨rfl, rfl⟩
          clear CLm
          go_wp2_with fail
          refine COx.out.mono ?_
          rintro e w6 ⟨rfl, q6, H6, O6, S6, K6⟩
          have TS6 := Lib.hid (TS.out.popped hgm1 hgmq hgq1 hg2 hg3 H6 K6)
          have KR6 := Lib.hid (KP.out q6 S6)
          have O6 := Lib.hid O6
          have hz6 : w2.heap.size ≤ w6.heap.size := TS6.out.kf.size
          clear COx TS KP H6 S6 K6 hgq2 hmp
          go_wp2_with (at_builtin; go_loud (refine wpList_intg rfl (.tmp 55) (.tmp 57) rfl w2.heap.size _ o (v : Int) rfl (TS6.out.ow.alloc _) w6.heap.size rfl (cell_new1 _ _ _) (by omega) (size_le_alloc hz6 _) ?_); intro v' w7 ho7 hg7 hn7; have TS7 := Lib.hid (TS6.out.grown hgm1 hgmq hgq1 hg2 hg1 hg3 ho7 hg7 hn7); obtain ⟨c7, r7⟩ := FWv.out w7 TS7.out.kf; clear ho7 hg7 hn7 r7)
          have TS0 : Hid (TopS w1 w2 gm gq T2 k (misF T k D v 0) (.slice (some ⟨g, 0, none⟩) m c) m q6 v' (o ++ [(v : Int)]) w7) := TS7.out.congr fun j _ => (misF_zero T k D v j).symm
          clear TS7 TS6
          go_loopw [64] (fun iv wr => ∃ (r2 m2 : Nat) (hv2 : Value) (q2 : Nat → Int), r2 ≤ (pickI (T v) k).length ∧ iv = .int .i64 (r2 : Nat) ∧ Hid (KahnR T k D v r2 m2 q2) ∧ Hid (hOk q2 m2) ∧ Hid (TopS w1 w2 gm gq T2 k (misF T k D v r2) hv2 m2 q2 v' (o ++ [(v : Int)]) wr)) (fun iv _ => (pickI (T v) k).length - (intOf iv).toNat)
          case atStart => exact ⟨0, m, _, q6, by omega, rfl, KR6, O6, TS0⟩
          case round =>
            clear KR6 O6 TS0
            obtain ⟨r2, m2, hv2, q2, hr2, rfl, KR, OK, TS⟩ := hrel
            by_cases hlt : r2 < (pickI (T v) k).length
            · obtain ⟨p, ep, hp, hmp⟩ := KR.out.at hlt
              obtain ⟨cv, rv⟩ := FWv.out wr TS.out.kf
              obtain ⟨bF, oF, eF, _, cF⟩ := rv r2 hlt
              rw [ep] at cF
              have cM := TS.out.ta.mr.cell hp
              have fM := TS.out.ta.mr.frozen p
              have hmm2 := KR.out.few
              have hxb : misF T k D v r2 p ≤ 4000 := by
                have h1 : cntT T k D p ≤ k := pickI_len _ _
                have h2 : misF T k D v r2 p = cntT T k D p := mis_at hlt ep
                omega
              have KSk : Hid (misF T k D v r2 p - 1 ≠ 0 → KahnR T k D v (r2 + 1) m2 q2) := fun h => KR.out.skip hlt ep hmp h
              have KPu : Hid (∀ q', misF T k D v r2 p - 1 = 0 → SameH (putQ q2 m2 (p : Int)) q' (m2 + 1) → KahnR T k D v (r2 + 1) (m2 + 1) q') := fun q' h h2 => KR.out.push hlt ep hp hmp h h2
              have TPu : Hid (∀ y, y = misF T k D v r2 p - 1 → TopS w1 w2 gm gq T2 k (misF T k D v (r2 + 1)) hv2 m2 q2 v' (o ++ [(v : Int)]) (wr.setCell ⟨gm, p, none⟩ (.int .i64 (y : Nat)))) := fun y hy => (TS.out.put hgm1 hgmq hg1 hg3 p y).congr fun j _ => by
                rw [mis_next hlt ep]
                by_cases c : j = p
                · rw [if_pos c, if_pos c, hy]
                · rw [if_neg c, if_neg c]
              obtain ⟨x, hx⟩ : ∃ x, x = misF T k D v r2 p := ⟨_, rfl⟩
              obtain ⟨y, hy⟩ : ∃ y, x = y + 1 := ⟨x - 1, by omega⟩
              rw [← hx] at cM hxb KSk KPu TPu
              have hy1 : x - 1 = y := by omega
              rw [hy1] at KSk KPu TPu
              have T3 := Lib.hid (TPu.out y rfl)
              have hxy : (x : Int) - 1 = (y : Int) := by omega
              have hyb : y ≤ 4000 := by omega
              rw [eF] at cv
              try rw [eF]
              clear hx hy hy1 KR TS TPu hmp ep rv
              by_cases hy0 : y = 0
              · have K4 : Hid (∀ q', SameH (putQ q2 m2 (p : Int)) q' (m2 + 1) → KahnR T k D v (r2 + 1) (m2 + 1) q') := fun q' h => KPu.out q' hy0 h
                have CPk := Lib.hid (CP.out _ _ m2 hv2 q2 (p : Int) _ T3.out.ta.hq OK.out (by omega) T3.out.ta.own)
                have hyd : ((y : Int) == 0) = true := by simp [hy0]
                clear KSk KPu hy0 OK
                go_wp2_with fail
                refine CPk.out.mono ?_
                rintro e w9 ⟨⟨z, rfl⟩, g9, c9, q9, H9, O9, S9, K9, N9⟩
                have KR9 := Lib.hid (K4.out q9 S9)
                have T9 := Lib.hid (T3.out.pushed hgm1 hgmq hgq1 hg2 hg3 H9 K9 N9)
                have O9' := Lib.hid O9
                clear H9 S9 K9 N9 T3 K4 CPk
                go_wp2
                go_roundw
                case rel => exact ⟨r2 + 1, m2 + 1, _, q9, by omega, by go_num, KR9, O9', T9⟩
                case measure => simp [intOf]; omega
              · have K4 := Lib.hid (KSk.out hy0)
                have hyd : ((y : Int) == 0) = false := by simp; omega
                clear KSk KPu hy0
                go_wp2
                go_roundw
                case rel => exact ⟨r2 + 1, m2, hv2, q2, by omega, by go_num, K4, OK, T3⟩
                case measure => simp [intOf]; omega
            · obtain rfl : r2 = (pickI (T v) k).length := by omega
              have KI2 := Lib.hid KR.out.done
              have TS2 : Hid (TopS w1 w2 gm gq T2 k (cntT T k (putD D v)) hv2 m2 q2 v' (o ++ [(v : Int)]) wr) := TS.out.congr fun j hj => misF_end hv hd hj
              have hl2 := Lib.hid TS.out.ow.len
              clear KR TS
              go_wp2
              go_roundw
              case rel => exact ⟨r + 1, m2, hv2, q2, _, _, by omega, by rw [List.length_append, List.length_singleton, HOL.out], KI2, OK, TS2, Q2, D2⟩
              case measure =>
                rw [hl2.out]
                simp [lenV, HOL.out]
                omega
end Go.Proofs.Ytdfljeonoallfaa
