/- Systems: Deterministic of the program. -/
import Derived.Test.YthcbcgaekbmoaaaSG
import Derived.Deep.RegionHeld3
import Derived.Deep.QuietTactic
namespace Go.Proofs.Ythcbcgaekbmoaaa
open Go.RowKit

def eqFT (a b : EdgeV) : Bool := a.f == b.f && a.t == b.t
def sameN (l : List EdgeV) (j : Nat) : Bool := eqFT (eA l j) (eA l (j + 1))
def detV (s : SysV) : Bool := okS s && !anyN (sameN s.ar) (s.ar.length - 1)
/-- a box with an edge -/
def EBx (W : World) (b : Nat) (x y z : Int) : Prop := W.heap[b]? = some (.cells #[.int .i64 x, .int .i64 y, .int .i64 z] 43 (0, 0))
theorem EBx.c0 {W : World} {b : Nat} {x y z : Int} (h : EBx W b x y z) : W.cell? ⟨b, 0, none⟩ = some (.int .i64 x) := by simp [World.cell?, show W.heap[b]? = _ from h]
theorem EBx.c1 {W : World} {b : Nat} {x y z : Int} (h : EBx W b x y z) : W.cell? ⟨b, 1, none⟩ = some (.int .i64 y) := by simp [World.cell?, show W.heap[b]? = _ from h]
theorem EBx.c2 {W : World} {b : Nat} {x y z : Int} (h : EBx W b x y z) : W.cell? ⟨b, 2, none⟩ = some (.int .i64 z) := by simp [World.cell?, show W.heap[b]? = _ from h]
theorem EBx.fr {W : World} {b : Nat} {x y z : Int} (h : EBx W b x y z) (o : Nat) : W.frozen? ⟨b, o, none⟩ = false := by simp [World.frozen?, show W.heap[b]? = _ from h]
theorem EBx.lt {W : World} {b : Nat} {x y z : Int} (h : EBx W b x y z) : b < W.heap.size := (Array.getElem?_eq_some_iff.1 h).1
theorem EBx.new (W : World) (x y z : Int) : EBx (W.alloc (.cells #[.int .i64 x, .int .i64 y, .int .i64 z] 43)) W.heap.size x y z := heap_alloc_new W _
theorem EBx.keep {W W' : World} {b : Nat} {x y z : Int} (h : EBx W b x y z) (hb : Below W.heap.size W W') : EBx W' b x y z := (hb.block b h.lt).trans h
theorem EBx.set3 {W : World} {b : Nat} {x y z : Int} (h : EBx W b x y z) (x' y' z' : Int) : EBx (((W.setCell ⟨b, 0, none⟩ (.int .i64 x')).setCell ⟨b, 1, none⟩ (.int .i64 y')).setCell ⟨b, 2, none⟩ (.int .i64 z')) b x' y' z' := by
  have step : ∀ {W : World} {cs : Array Value} (i : Nat) (v : Value), W.heap[b]? = some (.cells cs 43 (0, 0)) → (W.setCell ⟨b, i, none⟩ v).heap[b]? = some (.cells (cs.setIfInBounds i v) 43 (0, 0)) := by
    intro W cs i v hk
    obtain ⟨hlt, hk2⟩ := Array.getElem?_eq_some_iff.1 hk
    show (W.heap.modify b _)[b]? = _
    rw [Array.getElem?_eq_getElem (by rw [Array.size_modify]; exact hlt), Array.getElem_modify_self, hk2]
    rfl
  exact step 2 _ (step 1 _ (step 0 _ h))
theorem EBx.keep3 {W : World} {b b' : Nat} {x y z : Int} (h : EBx W b x y z) (x' y' z' : Int) (hne : b ≠ b') : EBx (((W.setCell ⟨b', 0, none⟩ (.int .i64 x')).setCell ⟨b', 1, none⟩ (.int .i64 y')).setCell ⟨b', 2, none⟩ (.int .i64 z')) b x y z :=
  ((Below.heap_setCell _ _ _ b hne).trans ((Below.heap_setCell _ _ _ b hne).trans (Below.heap_setCell _ _ _ b hne))).trans h
theorem set3_other {W : World} {b q o : Nat} {u : Value} {x' y' z' : Int} (hne : b ≠ q) (h : W.cell? ⟨q, o, none⟩ = some u) : (((W.setCell ⟨b, 0, none⟩ (.int .i64 x')).setCell ⟨b, 1, none⟩ (.int .i64 y')).setCell ⟨b, 2, none⟩ (.int .i64 z')).cell? ⟨q, o, none⟩ = some u := by
  have k : ∀ (W : World) (i : Nat) (v : Value), (W.setCell ⟨b, i, none⟩ v).cell? ⟨q, o, none⟩ = W.cell? ⟨q, o, none⟩ := fun W i v => World.cell?_setCell_other _ _ _ _ (by intro e; injection e with e1; first | exact hne e1 | exact hne e1.symm)
  rw [k, k, k]
  exact h
set_option maxHeartbeats 8000000 in
set_option maxRecDepth 100000 in
theorem det_any (s : SysV) (w : World) (hr : SysR w s) :
    Calls Try.prog 10 #[.agg #[.int .i64 s.st, .slice s.EA s.el s.ec, .slice s.AA s.ar.length s.ac]] w (VPost w.heap.size w (.bool (detV s))) := by
  have B0 : Below w.heap.size w (w.alloc (.cells #[.int .i64 s.st, .slice s.EA s.el s.ec, .slice s.AA s.ar.length s.ac] 25)) := (Below.refl _ _).alloc (Nat.le_refl _) _
  have C := valid_sys s (w.alloc (.cells #[.int .i64 s.st, .slice s.EA s.el s.ec, .slice s.AA s.ar.length s.ac] 25)) (hr.below B0 (Nat.le_refl _))
  have HE := Lib.hid hr.re
  have hal := hr.hal
  have c2' : (w.alloc (.cells #[.int .i64 s.st, .slice s.EA s.el s.ec, .slice s.AA s.ar.length s.ac] 25)).cell? ⟨w.heap.size, 2, none⟩ = some (.slice s.AA s.ar.length s.ac) := by simp
  have HNO : Hid (okS s = false → detV s = false) := fun h => by show _ = _; unfold detV; rw [h]; rfl
  have HYES : Hid (okS s = true → detV s = !anyN (sameN s.ar) (s.ar.length - 1)) := fun h => by show _ = _; unfold detV; rw [h]; rfl
  clear hr
  generalize okS s = ok at *
  generalize detV s = V at *
  obtain ⟨sst, EA, el, ev, ec, AA, ar, ac⟩ := s
  dsimp only at *
  obtain ⟨w0, hw0⟩ : ∃ w0, w0 = w.alloc (.cells #[.int .i64 sst, .slice EA el ec, .slice AA ar.length ac] 25) := ⟨_, rfl⟩
  have hlt0 : w.heap.size < w0.heap.size := by rw [hw0, World.size_alloc]; omega
  rw [← hw0] at B0 C c2'
  have HW0 := Lib.hid hw0
  clear hw0
  replace B0 := Lib.hid B0
  replace C := Lib.hid C
  go_enter Try.func10, Try.ntmps10
  go_wp2_with fail
  rw [← HW0.out]
  refine C.out.mono ?_
  rintro e w1 ⟨rfl, K⟩
  have B1 := Lib.hid (B0.out.trans (K.mono (by omega)))
  have q2 := keepc c2' K
  have hlt1 : w.heap.size < w1.heap.size := Nat.lt_of_lt_of_le hlt0 K.size
  clear C c2' HW0 K
  cases ok
  · have E := Lib.hid (HNO.out rfl)
    clear HNO HYES
    go_wp2
    go_ret
    exact ⟨by rw [E.out]; rfl, B1.out⟩
  have HV := Lib.hid (HYES.out rfl)
  have HN : Hid ((∀ j, j < ar.length - 1 → sameN ar j = false) → V = true) := fun h => by show _ = _; rw [HV.out, anyN_no h]; rfl
  have HY : Hid (∀ k, k < ar.length - 1 → sameN ar k = true → V = false) := fun k hk h => by show _ = _; rw [HV.out, anyN_yes hk h]; rfl
  have HSM : Hid (∀ k, sameN ar k = eqFT (eA ar k) (eA ar (k + 1))) := fun k => rfl
  clear HNO HYES HV
  generalize sameN ar = sm at *
  have PQ : Hid (∀ W, Below w1.heap.size w1 W → W.cell? ⟨w.heap.size, 2, none⟩ = some (.slice AA ar.length ac)) := fun W hW => keepc q2 hW
  have WG : Hid (∀ W, Below w1.heap.size w1 W → Below w.heap.size w W) := fun W hW => B1.out.trans (hW.mono (by omega))
  go_wp2
  go_loopg [3] ar.length (fun gg q wr => ∃ k m : Nat, gg = ar.length - k ∧ (k = 0 ∨ k + 1 ≤ ar.length) ∧ m = k + 1 ∧ q = .int .i64 (m : Nat) ∧ Hid (∀ j, j < k → sm j = false) ∧ Hid (Below w1.heap.size w1 wr))
  case atStart => exact ⟨0, 1, rfl, .inl rfl, rfl, rfl, fun j hj => absurd hj (by omega), Below.refl _ _⟩
  case round =>
    obtain ⟨k, m, hgg, hk, hm, rfl, HJ, BB⟩ := hrel
    have e2 := PQ.out _ BB.out
    have BG := WG.out _ BB.out
    by_cases hlt : m < ar.length
    · obtain ⟨b, off, eA', hb, c0, c1, c2⟩ := (HE.out.below BG (Nat.le_refl _)) m hlt
      obtain ⟨b', off', eA2, hb', d0, d1, d2⟩ := (HE.out.below BG (Nat.le_refl _)) k (by omega)
      rw [eA'] at eA2
      injection eA2 with eA2
      injection eA2 with z1 z2
      subst z1 z2
      have hsm := HSM.out k
      have HJ2 : Hid (sm k = false → ∀ j, j < k + 1 → sm j = false) := fun h j hj => by
        by_cases e : j = k
        · rw [e]; exact h
        · exact HJ.out j (by omega)
      have HYk := HY.out k (by omega)
      rw [← hm] at hsm
      generalize eA ar m = x at *
      generalize eA ar k = y at *
      obtain ⟨xf, xt, xo⟩ := x
      obtain ⟨yf, yt, yo⟩ := y
      unfold eqFT at hsm
      dsimp only at *
      subst eA'
      have hk1 : k < ar.length := by omega
      have hkI : (k : Int) < (ar.length : Int) := by omega
      have hI : ((m : Nat) : Int) < (ar.length : Int) := by omega
      have zm : ((m : Nat) : Int) - 1 = k := by omega
      have HM := Lib.hid hm
      have hm1 : 0 < m := by omega
      clear hm
      have zi : IntKind.i64.wrap ((k : Nat) : Int) = k := by rw [IntKind.wrap_i64]; omega
      go_wp2_with fail
      have hlw : w.heap.size < wr.heap.size := Nat.lt_of_lt_of_le hlt1 BB.out.size
      refine wp_region_held_drew (S := fun w' => w'.cell? ⟨b, off + m * 3, none⟩ = some (.int .i64 xf) ∧ w'.cell? ⟨b, off + m * 3 + 1, none⟩ = some (.int .i64 xt) ∧ w'.cell? ⟨b, off + m * 3 + 2, none⟩ = some (.int .i64 xo) ∧ w'.cell? ⟨b, off + k * 3, none⟩ = some (.int .i64 yf) ∧ w'.cell? ⟨b, off + k * 3 + 1, none⟩ = some (.int .i64 yt) ∧ w'.cell? ⟨b, off + k * 3 + 2, none⟩ = some (.int .i64 yo) ∧ w'.cell? ⟨w.heap.size, 2, none⟩ = some (.slice (some ⟨b, off, none⟩) ar.length ac) ∧ Hid (Below wr.heap.size wr w')) (by kernel_rfl) ?_ (fun hHeld => ?_)
      · exact ⟨c0, c1, c2, d0, d1, d2, e2, (Below.refl _ wr).drew⟩
      refine wpAnyH_take (oi := ⟨_, _, _, _, _, _⟩) (i := 0) (v := ?_) rfl (by kernel_rfl) (by kernel_rfl) (by kernel_rfl) (fun _ _ _ h => h) (Or.inl ⟨by rfl, ?ya0⟩) (by assumption) ?ra0
      case ya0 => (intro w hSw; (try dsimp only at hSw); go_simp; (try with_reducible rfl))
      try simp only [Act.put, List.setIfInBounds_toArray, List.set_cons_zero, List.set_cons_succ]
      refine wpAnyH_take (oi := ⟨_, _, _, _, _, _⟩) (i := 1) (v := ?_) rfl (by kernel_rfl) (by kernel_rfl) (by kernel_rfl) (fun _ _ _ h => h) (Or.inl ⟨by rfl, ?ya1⟩) (by assumption) ?ra1
      case ya1 => (intro w hSw; (try dsimp only at hSw); go_simp; (try with_reducible rfl))
      try simp only [Act.put, List.setIfInBounds_toArray, List.set_cons_zero, List.set_cons_succ]
      refine wpAnyH_take (oi := ⟨_, _, _, _, _, _⟩) (i := 2) (v := ?_) rfl (by kernel_rfl) (by kernel_rfl) (by kernel_rfl) (fun _ _ _ h => h) (Or.inl ⟨by rfl, ?ya2⟩) (by assumption) ?ra2
      case ya2 => (intro w hSw; (try dsimp only at hSw); go_simp; (try with_reducible rfl))
      try simp only [Act.put, List.setIfInBounds_toArray, List.set_cons_zero, List.set_cons_succ]
      refine wpAnyH_take (oi := ⟨_, _, _, _, _, _⟩) (i := 3) (v := ?_) rfl (by kernel_rfl) (by kernel_rfl) (by kernel_rfl) (fun _ _ _ h => h) (Or.inl ⟨by rfl, ?ya3⟩) (by assumption) ?ra3
      case ya3 => (intro w hSw; (try dsimp only at hSw); go_simp; (try with_reducible rfl))
      try simp only [Act.put, List.setIfInBounds_toArray, List.set_cons_zero, List.set_cons_succ]
      refine wpAnyH_take (oi := ⟨_, _, _, _, _, _⟩) (i := 4) (v := ?_) rfl (by kernel_rfl) (by kernel_rfl) (by kernel_rfl) (fun _ _ _ h => h) (Or.inl ⟨by rfl, ?ya4⟩) (by assumption) ?ra4
      case ya4 => (intro w hSw; (try dsimp only at hSw); go_simp; (try with_reducible rfl))
      try simp only [Act.put, List.setIfInBounds_toArray, List.set_cons_zero, List.set_cons_succ]
      refine wpAnyH_take (oi := ⟨_, _, _, _, _, _⟩) (i := 5) (v := ?_) rfl (by kernel_rfl) (by kernel_rfl) (by kernel_rfl) (fun _ _ _ h => h) (Or.inl ⟨by rfl, ?ya5⟩) (by assumption) ?ra5
      case ya5 => (intro w hSw; (try dsimp only at hSw); go_simp; (try with_reducible rfl))
      try simp only [Act.put, List.setIfInBounds_toArray, List.set_cons_zero, List.set_cons_succ]
      refine wpAnyH_take (oi := ⟨_, _, _, _, _, _⟩) (i := 6) (v := ?_) rfl (by kernel_rfl) (by kernel_rfl) (by kernel_rfl) (fun _ _ _ h => h) (Or.inl ⟨by rfl, ?ya6⟩) (by assumption) ?ra6
      case ya6 => (intro w hSw; (try dsimp only at hSw); go_simp; (try with_reducible rfl))
      try simp only [Act.put, List.setIfInBounds_toArray, List.set_cons_zero, List.set_cons_succ]
      refine wpAnyH_take (oi := ⟨_, _, _, _, _, _⟩) (i := 7) (v := ?_) rfl (by kernel_rfl) (by kernel_rfl) (by kernel_rfl) (fun _ _ _ h => h) (Or.inl ⟨by rfl, ?ya7⟩) (by assumption) ?ra7
      case ya7 => (intro w hSw; (try dsimp only at hSw); go_simp; (try with_reducible rfl))
      try simp only [Act.put, List.setIfInBounds_toArray, List.set_cons_zero, List.set_cons_succ]
      refine wpAnyH_take (oi := ⟨_, _, _, _, _, _⟩) (i := 8) (v := ?_) rfl (by kernel_rfl) (by kernel_rfl) (by kernel_rfl) (fun _ _ _ h => h) (Or.inl ⟨by rfl, ?ya8⟩) (by assumption) ?ra8
      case ya8 => (intro w hSw; (try dsimp only at hSw); go_simp; (try with_reducible rfl))
      try simp only [Act.put, List.setIfInBounds_toArray, List.set_cons_zero, List.set_cons_succ]
      refine wpAnyH_take (oi := ⟨_, _, _, _, _, _⟩) (i := 9) (v := ?_) rfl (by kernel_rfl) (by kernel_rfl) (by kernel_rfl) (fun _ _ _ h => h) (Or.inl ⟨by rfl, ?ya9⟩) (by assumption) ?ra9
      case ya9 => (intro w hSw; (try dsimp only at hSw); go_simp; (try with_reducible rfl))
      try simp only [Act.put, List.setIfInBounds_toArray, List.set_cons_zero, List.set_cons_succ]
      refine wpAnyH_take (oi := ⟨_, _, _, _, _, _⟩) (i := 10) (v := ?_) rfl (by kernel_rfl) (by kernel_rfl) (by kernel_rfl) (fun _ _ _ h => h) (Or.inl ⟨by rfl, ?ya10⟩) (by assumption) ?ra10
      case ya10 => (intro w hSw; (try dsimp only at hSw); go_simp; (try with_reducible rfl))
      try simp only [Act.put, List.setIfInBounds_toArray, List.set_cons_zero, List.set_cons_succ]
      generalize wr.drew = v0 at *
      refine wpAnyH_ready (rs := [11, 12]) (by kernel_rfl) (by simp) ?_
      refine AllReadyH.cons (o := ⟨_, _, _, _, _, _⟩) rfl (fun K hK => ?_) (AllReadyH.cons (o := ⟨_, _, _, _, _, _⟩) rfl (fun K hK => ?_) AllReadyH.nil)
      · skip
        have LA : Below v0.heap.size v0 (v0.alloc (.cells #[.int .i64 0, .int .i64 0, .int .i64 0] 43)) := (Below.refl _ _).alloc (Nat.le_refl _) _
        go_simp
        refine hK.out _ _ ?_ (fun hHeld2 => ?_)
        · obtain ⟨h1, h2, h3, h4, h5, h6, h7, h8⟩ := hHeld; exact ⟨keepc h1 LA, keepc h2 LA, keepc h3 LA, keepc h4 LA, keepc h5 LA, keepc h6 LA, keepc h7 LA, h8.out.trans (LA.mono h8.out.size)⟩
        clear hK K
        have hs1 := hHeld.2.2.2.2.2.2.2.out.size
        clear hHeld
        have hHeld := hHeld2
        clear hHeld2
        obtain ⟨v1, hw1⟩ : ∃ v1, v1 = v0.alloc (.cells #[.int .i64 0, .int .i64 0, .int .i64 0] 43) := ⟨_, rfl⟩
        have A : EBx v1 v0.heap.size 0 0 0 := by rw [hw1]; exact EBx.new _ _ _ _
        have lt1 : v0.heap.size < v1.heap.size := by rw [hw1, World.size_alloc]; omega
        rw [← hw1] at hHeld ⊢
        clear hw1 LA
        try simp only [Act.put, List.setIfInBounds_toArray, List.set_cons_zero, List.set_cons_succ]
        refine wpAnyH_ready (rs := [12]) (by kernel_rfl) (by simp) ?_
        refine AllReadyH.cons (o := ⟨_, _, _, _, _, _⟩) rfl (fun K hK => ?_) AllReadyH.nil
        have LA : Below v1.heap.size v1 (v1.alloc (.cells #[.int .i64 0, .int .i64 0, .int .i64 0] 43)) := (Below.refl _ _).alloc (Nat.le_refl _) _
        go_simp
        refine hK.out _ _ ?_ (fun hHeld2 => ?_)
        · obtain ⟨h1, h2, h3, h4, h5, h6, h7, h8⟩ := hHeld; exact ⟨keepc h1 LA, keepc h2 LA, keepc h3 LA, keepc h4 LA, keepc h5 LA, keepc h6 LA, keepc h7 LA, h8.out.trans (LA.mono h8.out.size)⟩
        clear hK K
        have hs2 := hHeld.2.2.2.2.2.2.2.out.size
        clear hHeld
        have hHeld := hHeld2
        clear hHeld2
        obtain ⟨v2, hw2⟩ : ∃ v2, v2 = v1.alloc (.cells #[.int .i64 0, .int .i64 0, .int .i64 0] 43) := ⟨_, rfl⟩
        have B : EBx v2 v1.heap.size 0 0 0 := by rw [hw2]; exact EBx.new _ _ _ _
        replace A := A.keep LA
        rw [← hw2] at A
        have lt2 : v1.heap.size < v2.heap.size := by rw [hw2, World.size_alloc]; omega
        rw [← hw2] at hHeld ⊢
        clear hw2 LA
        try simp only [Act.put, List.setIfInBounds_toArray, List.set_cons_zero, List.set_cons_succ]
        refine wpAnyH_ready (rs := [13]) (by kernel_rfl) (by simp) ?_
        refine AllReadyH.cons (o := ⟨_, _, _, _, _, _⟩) rfl (fun K hK => ?_) AllReadyH.nil
        have p0 := A.c0; have p1 := A.c1; have p2 := A.c2; have pf := A.fr
        have hne : wr.heap.size ≤ v0.heap.size := by omega
        go_simp
        refine hK.out _ _ ?_ (fun hHeld2 => ?_)
        · obtain ⟨h1, h2, h3, h4, h5, h6, h7, h8⟩ := hHeld; exact ⟨set3_other (by omega) h1, set3_other (by omega) h2, set3_other (by omega) h3, set3_other (by omega) h4, set3_other (by omega) h5, set3_other (by omega) h6, set3_other (by omega) h7, ((h8.out.setCell hne _).setCell hne _).setCell hne _⟩
        clear hK K hHeld
        have hHeld := hHeld2
        clear hHeld2 p0 p1 p2 pf
        replace A := A.set3 yf yt yo
        replace B := B.keep3 (b' := v0.heap.size) yf yt yo (by omega)
        generalize ((v2.setCell ⟨v0.heap.size, 0, none⟩ (.int .i64 yf)).setCell ⟨v0.heap.size, 1, none⟩ (.int .i64 yt)).setCell ⟨v0.heap.size, 2, none⟩ (.int .i64 yo) = v3 at *
        try simp only [Act.put, List.setIfInBounds_toArray, List.set_cons_zero, List.set_cons_succ]
        refine wpAnyH_ready (rs := [14]) (by kernel_rfl) (by simp) ?_
        refine AllReadyH.cons (o := ⟨_, _, _, _, _, _⟩) rfl (fun K hK => ?_) AllReadyH.nil
        have p0 := B.c0; have p1 := B.c1; have p2 := B.c2; have pf := B.fr
        have hne : wr.heap.size ≤ v1.heap.size := by omega
        go_simp
        refine hK.out _ _ ?_ (fun hHeld2 => ?_)
        · obtain ⟨h1, h2, h3, h4, h5, h6, h7, h8⟩ := hHeld; exact ⟨set3_other (by omega) h1, set3_other (by omega) h2, set3_other (by omega) h3, set3_other (by omega) h4, set3_other (by omega) h5, set3_other (by omega) h6, set3_other (by omega) h7, ((h8.out.setCell hne _).setCell hne _).setCell hne _⟩
        clear hK K hHeld
        have hHeld := hHeld2
        clear hHeld2 p0 p1 p2 pf
        replace B := B.set3 xf xt xo
        replace A := A.keep3 (b' := v1.heap.size) xf xt xo (by omega)
        generalize ((v3.setCell ⟨v1.heap.size, 0, none⟩ (.int .i64 xf)).setCell ⟨v1.heap.size, 1, none⟩ (.int .i64 xt)).setCell ⟨v1.heap.size, 2, none⟩ (.int .i64 xo) = v4 at *
        try simp only [Act.put, List.setIfInBounds_toArray, List.set_cons_zero, List.set_cons_succ]
        refine wpAnyH_done (by kernel_rfl) ?_ _
        obtain ⟨-, -, -, -, -, -, -, BF⟩ := hHeld
        have BF2 := Lib.hid (BB.out.trans (BF.out.mono BB.out.size))
        have f0 := A.c0; have f1 := A.c1; have g0 := B.c0; have g1 := B.c1
        clear A B BF
        by_cases h1 : yf = xf
        · have z1 : (yf == xf) = true := by simpa using h1
          by_cases h2 : yt = xt
          · have z2 : (yt == xt) = true := by simpa using h2
            have E := Lib.hid (HYk (by rw [hsm, z1, z2]; rfl))
            have BG2 := Lib.hid (WG.out _ BF2.out)
            clear hsm HJ2 HYk h1 h2
            go_wp2
            go_ret
            exact ⟨by rw [E.out]; rfl, BG2.out⟩
          · have z2 : (yt == xt) = false := by simpa using h2
            have HJ3 := Lib.hid (HJ2.out (by rw [hsm, z1, z2]; rfl))
            clear hsm HJ2 HYk h1 h2
            go_wp2
            go_roundg (ar.length - (k + 1))
            case rel => exact ⟨k + 1, m + 1, rfl, .inr (by have := HM.out; omega), by have := HM.out; omega, by go_num, HJ3.out, BF2.out⟩
            case measure => omega
        · have z1 : (yf == xf) = false := by simpa using h1
          have HJ3 := Lib.hid (HJ2.out (by rw [hsm, z1]; rfl))
          clear hsm HJ2 HYk h1
          go_wp2
          go_roundg (ar.length - (k + 1))
          case rel => exact ⟨k + 1, m + 1, rfl, .inr (by have := HM.out; omega), by have := HM.out; omega, by go_num, HJ3.out, BF2.out⟩
          case measure => omega
      · skip
        have LA : Below v0.heap.size v0 (v0.alloc (.cells #[.int .i64 0, .int .i64 0, .int .i64 0] 43)) := (Below.refl _ _).alloc (Nat.le_refl _) _
        go_simp
        refine hK.out _ _ ?_ (fun hHeld2 => ?_)
        · obtain ⟨h1, h2, h3, h4, h5, h6, h7, h8⟩ := hHeld; exact ⟨keepc h1 LA, keepc h2 LA, keepc h3 LA, keepc h4 LA, keepc h5 LA, keepc h6 LA, keepc h7 LA, h8.out.trans (LA.mono h8.out.size)⟩
        clear hK K
        have hs1 := hHeld.2.2.2.2.2.2.2.out.size
        clear hHeld
        have hHeld := hHeld2
        clear hHeld2
        obtain ⟨v1, hw1⟩ : ∃ v1, v1 = v0.alloc (.cells #[.int .i64 0, .int .i64 0, .int .i64 0] 43) := ⟨_, rfl⟩
        have B : EBx v1 v0.heap.size 0 0 0 := by rw [hw1]; exact EBx.new _ _ _ _
        have lt1 : v0.heap.size < v1.heap.size := by rw [hw1, World.size_alloc]; omega
        rw [← hw1] at hHeld ⊢
        clear hw1 LA
        try simp only [Act.put, List.setIfInBounds_toArray, List.set_cons_zero, List.set_cons_succ]
        refine wpAnyH_ready (rs := [11]) (by kernel_rfl) (by simp) ?_
        refine AllReadyH.cons (o := ⟨_, _, _, _, _, _⟩) rfl (fun K hK => ?_) AllReadyH.nil
        have LA : Below v1.heap.size v1 (v1.alloc (.cells #[.int .i64 0, .int .i64 0, .int .i64 0] 43)) := (Below.refl _ _).alloc (Nat.le_refl _) _
        go_simp
        refine hK.out _ _ ?_ (fun hHeld2 => ?_)
        · obtain ⟨h1, h2, h3, h4, h5, h6, h7, h8⟩ := hHeld; exact ⟨keepc h1 LA, keepc h2 LA, keepc h3 LA, keepc h4 LA, keepc h5 LA, keepc h6 LA, keepc h7 LA, h8.out.trans (LA.mono h8.out.size)⟩
        clear hK K
        have hs2 := hHeld.2.2.2.2.2.2.2.out.size
        clear hHeld
        have hHeld := hHeld2
        clear hHeld2
        obtain ⟨v2, hw2⟩ : ∃ v2, v2 = v1.alloc (.cells #[.int .i64 0, .int .i64 0, .int .i64 0] 43) := ⟨_, rfl⟩
        have A : EBx v2 v1.heap.size 0 0 0 := by rw [hw2]; exact EBx.new _ _ _ _
        replace B := B.keep LA
        rw [← hw2] at B
        have lt2 : v1.heap.size < v2.heap.size := by rw [hw2, World.size_alloc]; omega
        rw [← hw2] at hHeld ⊢
        clear hw2 LA
        try simp only [Act.put, List.setIfInBounds_toArray, List.set_cons_zero, List.set_cons_succ]
        refine wpAnyH_ready (rs := [13]) (by kernel_rfl) (by simp) ?_
        refine AllReadyH.cons (o := ⟨_, _, _, _, _, _⟩) rfl (fun K hK => ?_) AllReadyH.nil
        have p0 := A.c0; have p1 := A.c1; have p2 := A.c2; have pf := A.fr
        have hne : wr.heap.size ≤ v1.heap.size := by omega
        go_simp
        refine hK.out _ _ ?_ (fun hHeld2 => ?_)
        · obtain ⟨h1, h2, h3, h4, h5, h6, h7, h8⟩ := hHeld; exact ⟨set3_other (by omega) h1, set3_other (by omega) h2, set3_other (by omega) h3, set3_other (by omega) h4, set3_other (by omega) h5, set3_other (by omega) h6, set3_other (by omega) h7, ((h8.out.setCell hne _).setCell hne _).setCell hne _⟩
        clear hK K hHeld
        have hHeld := hHeld2
        clear hHeld2 p0 p1 p2 pf
        replace A := A.set3 yf yt yo
        replace B := B.keep3 (b' := v1.heap.size) yf yt yo (by omega)
        generalize ((v2.setCell ⟨v1.heap.size, 0, none⟩ (.int .i64 yf)).setCell ⟨v1.heap.size, 1, none⟩ (.int .i64 yt)).setCell ⟨v1.heap.size, 2, none⟩ (.int .i64 yo) = v3 at *
        try simp only [Act.put, List.setIfInBounds_toArray, List.set_cons_zero, List.set_cons_succ]
        refine wpAnyH_ready (rs := [14]) (by kernel_rfl) (by simp) ?_
        refine AllReadyH.cons (o := ⟨_, _, _, _, _, _⟩) rfl (fun K hK => ?_) AllReadyH.nil
        have p0 := B.c0; have p1 := B.c1; have p2 := B.c2; have pf := B.fr
        have hne : wr.heap.size ≤ v0.heap.size := by omega
        go_simp
        refine hK.out _ _ ?_ (fun hHeld2 => ?_)
        · obtain ⟨h1, h2, h3, h4, h5, h6, h7, h8⟩ := hHeld; exact ⟨set3_other (by omega) h1, set3_other (by omega) h2, set3_other (by omega) h3, set3_other (by omega) h4, set3_other (by omega) h5, set3_other (by omega) h6, set3_other (by omega) h7, ((h8.out.setCell hne _).setCell hne _).setCell hne _⟩
        clear hK K hHeld
        have hHeld := hHeld2
        clear hHeld2 p0 p1 p2 pf
        replace B := B.set3 xf xt xo
        replace A := A.keep3 (b' := v0.heap.size) xf xt xo (by omega)
        generalize ((v3.setCell ⟨v0.heap.size, 0, none⟩ (.int .i64 xf)).setCell ⟨v0.heap.size, 1, none⟩ (.int .i64 xt)).setCell ⟨v0.heap.size, 2, none⟩ (.int .i64 xo) = v4 at *
        try simp only [Act.put, List.setIfInBounds_toArray, List.set_cons_zero, List.set_cons_succ]
        refine wpAnyH_done (by kernel_rfl) ?_ _
        obtain ⟨-, -, -, -, -, -, -, BF⟩ := hHeld
        have BF2 := Lib.hid (BB.out.trans (BF.out.mono BB.out.size))
        have f0 := A.c0; have f1 := A.c1; have g0 := B.c0; have g1 := B.c1
        clear A B BF
        by_cases h1 : yf = xf
        · have z1 : (yf == xf) = true := by simpa using h1
          by_cases h2 : yt = xt
          · have z2 : (yt == xt) = true := by simpa using h2
            have E := Lib.hid (HYk (by rw [hsm, z1, z2]; rfl))
            have BG2 := Lib.hid (WG.out _ BF2.out)
            clear hsm HJ2 HYk h1 h2
            go_wp2
            go_ret
            exact ⟨by rw [E.out]; rfl, BG2.out⟩
          · have z2 : (yt == xt) = false := by simpa using h2
            have HJ3 := Lib.hid (HJ2.out (by rw [hsm, z1, z2]; rfl))
            clear hsm HJ2 HYk h1 h2
            go_wp2
            go_roundg (ar.length - (k + 1))
            case rel => exact ⟨k + 1, m + 1, rfl, .inr (by have := HM.out; omega), by have := HM.out; omega, by go_num, HJ3.out, BF2.out⟩
            case measure => omega
        · have z1 : (yf == xf) = false := by simpa using h1
          have HJ3 := Lib.hid (HJ2.out (by rw [hsm, z1]; rfl))
          clear hsm HJ2 HYk h1
          go_wp2
          go_roundg (ar.length - (k + 1))
          case rel => exact ⟨k + 1, m + 1, rfl, .inr (by have := HM.out; omega), by have := HM.out; omega, by go_num, HJ3.out, BF2.out⟩
          case measure => omega
    · have E := Lib.hid (HN.out fun j hj => HJ.out j (by omega))
      have BG := Lib.hid BG
      go_wp2
      go_ret
      exact ⟨by rw [E.out]; rfl, BG.out⟩
end Go.Proofs.Ythcbcgaekbmoaaa
