/- Iso at the example. -/
import Derived.Test.YthcbcgaekbmoaaaST
namespace Go.Proofs.Ythcbcgaekbmoaaa
open Go.RowKit Go.Deep

def cycA (e a : Nat) : Value := .agg #[.int .i64 2, .slice (some ⟨e, 0, none⟩) 2 2, .slice (some ⟨a, 0, none⟩) 2 2]
theorem cyc_det (e a : Nat) : detV (cycS e a) = true := by kernel_rfl
theorem cyc_rch (e a : Nat) : rchV (cycS e a) = true := by kernel_rfl
theorem cyc_next (e a : Nat) : nextV (cycS e a) 1 1 = 0 := by kernel_rfl
theorem det_cyc (e a : Nat) (w : World) (h1 : Ab w e) (h2 : Ac w a) : Calls Try.prog 10 #[.agg #[.int .i64 2, .slice (some ⟨e, 0, none⟩) 2 2, .slice (some ⟨a, 0, none⟩) 2 2]] w (VPost w.heap.size w (.bool true)) := by
  have h := det_any (cycS e a) w (cyc_sys h1 h2)
  rw [cyc_det] at h
  exact h
theorem rch_cyc (e a : Nat) (w : World) (h1 : Ab w e) (h2 : Ac w a) : Calls Try.prog 12 #[.agg #[.int .i64 2, .slice (some ⟨e, 0, none⟩) 2 2, .slice (some ⟨a, 0, none⟩) 2 2]] w (VPost w.heap.size w (.bool true)) := by
  have h := reachable_any (cycS e a) w (cyc_sys h1 h2)
  rw [cyc_rch] at h
  exact h
theorem next_cyc (e a : Nat) (w : World) (h1 : Ab w e) (h2 : Ac w a) : Calls Try.prog 14 #[.agg #[.int .i64 2, .slice (some ⟨e, 0, none⟩) 2 2, .slice (some ⟨a, 0, none⟩) 2 2], .int .i64 1, .int .i64 1] w (VPost w.heap.size w (.int .i64 0)) := by
  have h := next_any (cycS e a) 1 1 w (cyc_sys h1 h2)
  rw [cyc_next] at h
  exact h
/-- a box with one value -/
def Bx (W : World) (t : TypeId) (b : Nat) (v : Value) : Prop := W.heap[b]? = some (.cells #[v] t (0, 0))
theorem Bx.c0 {W : World} {t : TypeId} {b : Nat} {v : Value} (h : Bx W t b v) : W.cell? ⟨b, 0, none⟩ = some v := by simp [World.cell?, show W.heap[b]? = _ from h]
theorem Bx.fr {W : World} {t : TypeId} {b : Nat} {v : Value} (h : Bx W t b v) : W.frozen? ⟨b, 0, none⟩ = false := by simp [World.frozen?, show W.heap[b]? = _ from h]
theorem Bx.lt {W : World} {t : TypeId} {b : Nat} {v : Value} (h : Bx W t b v) : b < W.heap.size := (Array.getElem?_eq_some_iff.1 h).1
theorem Bx.new (W : World) (t : TypeId) (v : Value) : Bx (W.alloc (.cells #[v] t)) t W.heap.size v := heap_alloc_new W _
theorem Bx.keep {W W' : World} {t : TypeId} {b : Nat} {v : Value} (h : Bx W t b v) (hb : Below W.heap.size W W') : Bx W' t b v := (hb.block b h.lt).trans h
theorem Bx.set {W : World} {t : TypeId} {b : Nat} {v : Value} (h : Bx W t b v) (u : Value) : Bx (W.setCell ⟨b, 0, none⟩ u) t b u := by
  obtain ⟨hlt, hk2⟩ := Array.getElem?_eq_some_iff.1 h
  show (W.heap.modify b _)[b]? = _
  rw [Array.getElem?_eq_getElem (by rw [Array.size_modify]; exact hlt), Array.getElem_modify_self, hk2]
  rfl
theorem Bx.other {W : World} {t : TypeId} {b k : Nat} {u v : Value} (h : Bx W t b v) (hne : b ≠ k) : Bx (W.setCell ⟨k, 0, none⟩ u) t b v := (Below.heap_setCell _ _ _ b hne).trans h
theorem Bx.ne_in {W : World} {t : TypeId} {b k : Nat} {v : Value} {x y : Int} (h : Bx W t k v) (h2 : In2 W b x y) : b ≠ k := by
  rintro rfl
  have := (show W.heap[b]? = _ from h).symm.trans h2
  simp at this
theorem Bx.ne_sl {W : World} {t : TypeId} {b k p q : Nat} {v : Value} (h : Bx W t k v) (h2 : Sl2 W b p q) : b ≠ k := by
  rintro rfl
  have := (show W.heap[b]? = _ from h).symm.trans h2
  simp at this
theorem Bx.ne_ab {W : World} {t : TypeId} {b k : Nat} {v : Value} (h : Bx W t k v) (h2 : Ab W b) : b ≠ k := by
  rintro rfl
  have := (show W.heap[b]? = _ from h).symm.trans h2
  simp at this
/-- the example's rows -/
structure TabX (W : World) (q r s : Nat) : Prop where
  tt : Sl2 W q r s
  rr : In2 W r 1 (-1)
  ss : In2 W s (-1) 0
theorem TabX.keep {W W' : World} {q r s : Nat} (h : TabX W q r s) (hb : Below W.heap.size W W') : TabX W' q r s := ⟨h.tt.keep hb, h.rr.keep hb, h.ss.keep hb⟩
theorem TabX.store {W : World} {q r s k : Nat} {t : TypeId} {u v : Value} (h : TabX W q r s) (hb : Bx W t k u) : TabX (W.setCell ⟨k, 0, none⟩ v) q r s := ⟨h.tt.other (hb.ne_sl h.tt), h.rr.other (hb.ne_in h.rr), h.ss.other (hb.ne_in h.ss)⟩
theorem In2.store {W : World} {b k : Nat} {x y : Int} {t : TypeId} {u v : Value} (h : In2 W b x y) (hb : Bx W t k u) : In2 (W.setCell ⟨k, 0, none⟩ v) b x y := h.other (hb.ne_in h)
theorem far_c {W : World} {b o k i : Nat} {u v : Value} (h : W.cell? ⟨b, o, none⟩ = some u) (hne : b ≠ k) : (W.setCell ⟨k, i, none⟩ v).cell? ⟨b, o, none⟩ = some u :=
  (World.cell?_setCell_other _ _ _ _ (by intro e; injection e with e1; first | exact hne e1 | exact hne e1.symm)).trans h
def IsoP (g : Nat) (w : World) (e : Ending) (w' : World) : Prop := ∃ q, e = .returned (.tuple #[.slice (some ⟨q, 0, none⟩) 2 2, .bool true]) ∧ In2 w' q 0 1 ∧ Below g w w'
set_option maxHeartbeats 4000000 in
set_option maxRecDepth 100000 in
theorem iso_cyc (e1 a1 e2 a2 : Nat) (w : World) (h1 : Ab w e1) (h2 : Ac w a1) (h3 : Ab w e2) (h4 : Ac w a2) :
    Calls Try.prog 16 #[.agg #[.int .i64 2, .slice (some ⟨e1, 0, none⟩) 2 2, .slice (some ⟨a1, 0, none⟩) 2 2], .agg #[.int .i64 2, .slice (some ⟨e2, 0, none⟩) 2 2, .slice (some ⟨a2, 0, none⟩) 2 2]] w (IsoP w.heap.size w) := by
  obtain ⟨w1, hw1⟩ : ∃ w1, w1 = (w.alloc (.cells #[.int .i64 2, .slice (some ⟨e1, 0, none⟩) 2 2, .slice (some ⟨a1, 0, none⟩) 2 2] 25)).alloc (.cells #[.int .i64 2, .slice (some ⟨e2, 0, none⟩) 2 2, .slice (some ⟨a2, 0, none⟩) 2 2] 25) := ⟨_, rfl⟩
  have B1 : Below w.heap.size w w1 := by rw [hw1]; exact ((Below.refl _ _).alloc (Nat.le_refl _) _).alloc (by rw [World.size_alloc]; omega) _
  have M := Lib.hid (fun (W : World) (hW : Below w1.heap.size w1 W) => (⟨h1.below (B1.trans (hW.mono B1.size)) h1.lt, h2.below (B1.trans (hW.mono B1.size)) h2.lt, h3.below (B1.trans (hW.mono B1.size)) h3.lt, h4.below (B1.trans (hW.mono B1.size)) h4.lt⟩ : Ab W e1 ∧ Ac W a1 ∧ Ab W e2 ∧ Ac W a2))
  clear h1 h2 h3 h4
  go_enter Try.func16, Try.ntmps16
  have Q : Hid (∀ W, Below w1.heap.size w1 W → (W.cell? ⟨w.heap.size, 0, none⟩ = some (.int .i64 2) ∧ W.cell? ⟨w.heap.size, 1, none⟩ = some (.slice (some ⟨e1, 0, none⟩) 2 2) ∧ W.cell? ⟨w.heap.size, 2, none⟩ = some (.slice (some ⟨a1, 0, none⟩) 2 2)) ∧
      W.cell? ⟨w.heap.size + 1, 0, none⟩ = some (.int .i64 2) ∧ W.cell? ⟨w.heap.size + 1, 1, none⟩ = some (.slice (some ⟨e2, 0, none⟩) 2 2) ∧ W.cell? ⟨w.heap.size + 1, 2, none⟩ = some (.slice (some ⟨a2, 0, none⟩) 2 2)) := by
    have hs : w1.heap.size = w.heap.size + 1 + 1 := by rw [hw1, World.size_alloc, World.size_alloc]
    have hn : ∀ o, w1.cell? ⟨w.heap.size + 1, o, none⟩ = (#[.int .i64 2, .slice (some ⟨e2, 0, none⟩) 2 2, .slice (some ⟨a2, 0, none⟩) 2 2] : Array Value)[o]? := fun o => by
      rw [hw1, ← World.size_alloc w (.cells #[.int .i64 2, .slice (some ⟨e1, 0, none⟩) 2 2, .slice (some ⟨a1, 0, none⟩) 2 2] 25)]
      exact World.cell?_alloc_new _ _ _ _
    have ho : ∀ o, w1.cell? ⟨w.heap.size, o, none⟩ = (#[.int .i64 2, .slice (some ⟨e1, 0, none⟩) 2 2, .slice (some ⟨a1, 0, none⟩) 2 2] : Array Value)[o]? := fun o => by
      rw [hw1, World.cell?_alloc_lt _ _ _ (by show w.heap.size < _; rw [World.size_alloc]; omega)]
      exact World.cell?_alloc_new _ _ _ _
    have kc : ∀ W, Below w1.heap.size w1 W → ∀ b o, b < w1.heap.size → W.cell? ⟨b, o, none⟩ = w1.cell? ⟨b, o, none⟩ := fun W hW b o hb => hW.cell (p := ⟨b, o, none⟩) hb
    intro W hW
    refine ⟨⟨?_, ?_, ?_⟩, ?_, ?_, ?_⟩ <;> (rw [kc W hW _ _ (by omega)]; first | (rw [ho]; rfl) | (rw [hn]; rfl))
  have hn1 : w.heap.size + 1 < w1.heap.size := by rw [hw1, World.size_alloc, World.size_alloc]; omega
  have HN1 := Lib.hid hn1
  clear hn1
  go_wp2_with fail
  rw [← hw1]
  clear hw1
  have R0 : Hid (Below w1.heap.size w1 w1) := Below.refl _ _
  obtain ⟨⟨q0, q1, q2⟩, p0, p1, p2⟩ := Q.out _ R0.out
  refine (det_cyc e1 a1 _ (M.out _ R0.out).1 (M.out _ R0.out).2.1).mono ?_
  rintro e w2 ⟨rfl, K⟩
  have R1 : Hid (Below w1.heap.size w1 w2) := K
  clear K q0 q1 q2 p0 p1 p2 R0
  obtain ⟨⟨q0, q1, q2⟩, p0, p1, p2⟩ := Q.out _ R1.out
  go_wp2_with fail
  refine (det_cyc e2 a2 _ (M.out _ R1.out).2.2.1 (M.out _ R1.out).2.2.2).mono ?_
  rintro e w3 ⟨rfl, K⟩
  have R2 : Hid (Below w1.heap.size w1 w3) := R1.out.trans (K.mono R1.out.size)
  clear K q0 q1 q2 p0 p1 p2 R1
  obtain ⟨⟨q0, q1, q2⟩, p0, p1, p2⟩ := Q.out _ R2.out
  go_wp2_with fail
  refine (rch_cyc e1 a1 _ (M.out _ R2.out).1 (M.out _ R2.out).2.1).mono ?_
  rintro e w4 ⟨rfl, K⟩
  have R3 : Hid (Below w1.heap.size w1 w4) := R2.out.trans (K.mono R2.out.size)
  clear K q0 q1 q2 p0 p1 p2 R2
  obtain ⟨⟨q0, q1, q2⟩, p0, p1, p2⟩ := Q.out _ R3.out
  go_wp2_with fail
  refine (rch_cyc e2 a2 _ (M.out _ R3.out).2.2.1 (M.out _ R3.out).2.2.2).mono ?_
  rintro e w5 ⟨rfl, K⟩
  have R4 : Hid (Below w1.heap.size w1 w5) := R3.out.trans (K.mono R3.out.size)
  clear K q0 q1 q2 p0 p1 p2 R3
  obtain ⟨⟨q0, q1, q2⟩, p0, p1, p2⟩ := Q.out _ R4.out
  go_wp2_with fail
  refine (same_events e1 e2 _ (M.out _ R4.out).1 (M.out _ R4.out).2.2.1).mono ?_
  rintro e w6 ⟨E, rfl, hE, hE2, K⟩
  have R5 : Hid (Below w1.heap.size w1 w6) := R4.out.trans (K.mono R4.out.size)
  have HE := Lib.hid hE
  clear K q0 q1 q2 p0 p1 p2 R4 hE hE2
  obtain ⟨⟨q0, q1, q2⟩, p0, p1, p2⟩ := Q.out _ R5.out
  go_upto_region 6 with fail
  obtain ⟨w7, hw7⟩ : ∃ w7, w7 = w6.alloc (.cells #[.slice (some ⟨E, 0, none⟩) 2 2] 34) := ⟨_, rfl⟩
  have K7 : Below w6.heap.size w6 w7 := by rw [hw7]; exact (Below.refl _ _).alloc (Nat.le_refl _) _
  have XE : Hid (Bx w7 34 w6.heap.size (.slice (some ⟨E, 0, none⟩) 2 2)) := by rw [hw7]; exact Bx.new _ _ _
  have HE7 : Hid (In2 w7 E 0 1) := HE.out.keep K7
  have R6 : Hid (Below w1.heap.size w1 w7) := R5.out.trans (K7.mono R5.out.size)
  rw [← hw7]
  clear hw7 K7 HE q0 q1 q2 p0 p1 p2 R5
  generalize w6.heap.size = be at *
  obtain ⟨⟨q0, q1, q2⟩, p0, p1, p2⟩ := Q.out _ R6.out
  have lim : Hid (w.heap.size + 1 < w7.heap.size) := Nat.lt_of_lt_of_le HN1.out R6.out.size
  go_cut [8, 9] (fun s8 s9 wx => ∃ A B qa ra sa qb rb sb, s8 = .pointer (some ⟨A, 0, none⟩) ∧ s9 = .pointer (some ⟨B, 0, none⟩) ∧ Hid (Bx wx 48 A (.slice (some ⟨qa, 0, none⟩) 2 2)) ∧ Hid (Bx wx 48 B (.slice (some ⟨qb, 0, none⟩) 2 2)) ∧ Hid (TabX wx qa ra sa) ∧ Hid (TabX wx qb rb sb) ∧ Hid (Below w7.heap.size w7 wx))
  case first =>
    refine wp_region_held_drew (S := fun w' => w'.cell? ⟨w.heap.size, 0, none⟩ = some (.int .i64 2) ∧ w'.cell? ⟨w.heap.size, 1, none⟩ = some (.slice (some ⟨e1, 0, none⟩) 2 2) ∧ w'.cell? ⟨w.heap.size, 2, none⟩ = some (.slice (some ⟨a1, 0, none⟩) 2 2) ∧ w'.cell? ⟨w.heap.size + 1, 0, none⟩ = some (.int .i64 2) ∧ w'.cell? ⟨w.heap.size + 1, 1, none⟩ = some (.slice (some ⟨e2, 0, none⟩) 2 2) ∧ w'.cell? ⟨w.heap.size + 1, 2, none⟩ = some (.slice (some ⟨a2, 0, none⟩) 2 2) ∧ Hid (Below w7.heap.size w7 w')) (by kernel_rfl) ?_ (fun hHeld => ?_)
    · exact ⟨q0, q1, q2, p0, p1, p2, (Below.refl _ w7).drew⟩
    refine wpAnyH_take (oi := ⟨_, _, _, _, _, _⟩) (i := 0) (v := ?_) rfl (by kernel_rfl) (by kernel_rfl) (by kernel_rfl) (fun _ _ _ h => h) (Or.inl ⟨by rfl, ?ya0⟩) (by assumption) ?ra0
    case ya0 => (intro w hSw; (try dsimp only at hSw); go_simp; (try with_reducible rfl))
    try simp only [Act.put, List.setIfInBounds_toArray, List.set_cons_zero, List.set_cons_succ]
    refine wpAnyH_take (oi := ⟨_, _, _, _, _, _⟩) (i := 2) (v := ?_) rfl (by kernel_rfl) (by kernel_rfl) (by kernel_rfl) (fun _ _ _ h => h) (Or.inl ⟨by rfl, ?ya2⟩) (by assumption) ?ra2
    case ya2 => (intro w hSw; (try dsimp only at hSw); go_simp; (try with_reducible rfl))
    try simp only [Act.put, List.setIfInBounds_toArray, List.set_cons_zero, List.set_cons_succ]
    generalize w7.drew = v0 at *
    refine wpAnyH_ready (rs := [1, 4, 5]) (by kernel_rfl) (by simp) ?_
    refine AllReadyH.cons (o := ⟨_, _, _, _, _, _⟩) rfl (fun K hK => ?_) (AllReadyH.cons (o := ⟨_, _, _, _, _, _⟩) rfl (fun K hK => ?_) (AllReadyH.cons (o := ⟨_, _, _, _, _, _⟩) rfl (fun K hK => ?_) AllReadyH.nil))
    · skip
      go_simp
      go_at_call 34; refine (table_cyc e1 a1 v0 (M.out _ (R6.out.trans (hHeld.2.2.2.2.2.2.out.mono R6.out.size))).1 (M.out _ (R6.out.trans (hHeld.2.2.2.2.2.2.out.mono R6.out.size))).2.1).mono ?_; rintro e v1 ⟨qa, ra, sa, rfl, ht, hr, hs, -, -, -, K1⟩; (try go_wp2_with fail)
      have T1 : TabX _ qa ra sa := ⟨ht, hr, hs⟩
      clear ht hr hs
      try replace zA := Nat.lt_of_lt_of_le zA K1.size
      try replace zB := Nat.lt_of_lt_of_le zB K1.size
      refine hK.out _ _ ?_ (fun hHeld2 => ?_)
      · obtain ⟨h1, h2, h3, h4, h5, h6, h7⟩ := hHeld; exact ⟨keepc h1 K1, keepc h2 K1, keepc h3 K1, keepc h4 K1, keepc h5 K1, keepc h6 K1, h7.out.trans (K1.mono h7.out.size)⟩
      clear K1
      clear hK K hHeld
      have hHeld := hHeld2
      clear hHeld2
      try simp only [Act.put, List.setIfInBounds_toArray, List.set_cons_zero, List.set_cons_succ]
      refine wpAnyH_ready (rs := [3, 4, 5]) (by kernel_rfl) (by simp) ?_
      refine AllReadyH.cons (o := ⟨_, _, _, _, _, _⟩) rfl (fun K hK => ?_) (AllReadyH.cons (o := ⟨_, _, _, _, _, _⟩) rfl (fun K hK => ?_) (AllReadyH.cons (o := ⟨_, _, _, _, _, _⟩) rfl (fun K hK => ?_) AllReadyH.nil))
      · skip
        go_simp
        go_at_call 34; refine (table_cyc e2 a2 v1 (M.out _ (R6.out.trans (hHeld.2.2.2.2.2.2.out.mono R6.out.size))).2.2.1 (M.out _ (R6.out.trans (hHeld.2.2.2.2.2.2.out.mono R6.out.size))).2.2.2).mono ?_; rintro e v2 ⟨qb, rb, sb, rfl, ht, hr, hs, -, -, -, K1⟩; (try go_wp2_with fail)
        have T2 : TabX _ qb rb sb := ⟨ht, hr, hs⟩
        clear ht hr hs
        try replace zA := Nat.lt_of_lt_of_le zA K1.size
        try replace zB := Nat.lt_of_lt_of_le zB K1.size
        refine hK.out _ _ ?_ (fun hHeld2 => ?_)
        · obtain ⟨h1, h2, h3, h4, h5, h6, h7⟩ := hHeld; exact ⟨keepc h1 K1, keepc h2 K1, keepc h3 K1, keepc h4 K1, keepc h5 K1, keepc h6 K1, h7.out.trans (K1.mono h7.out.size)⟩
        replace T1 := T1.keep K1
        clear K1
        clear hK K hHeld
        have hHeld := hHeld2
        clear hHeld2
        try simp only [Act.put, List.setIfInBounds_toArray, List.set_cons_zero, List.set_cons_succ]
        refine wpAnyH_ready (rs := [4, 5]) (by kernel_rfl) (by simp) ?_
        refine AllReadyH.cons (o := ⟨_, _, _, _, _, _⟩) rfl (fun K hK => ?_) (AllReadyH.cons (o := ⟨_, _, _, _, _, _⟩) rfl (fun K hK => ?_) AllReadyH.nil)
        · skip
          have LA : Below v2.heap.size v2 (v2.alloc (.cells #[.slice none 0 0] 48)) := (Below.refl _ _).alloc (Nat.le_refl _) _
          go_simp
          refine hK.out _ _ ?_ (fun hHeld2 => ?_)
          · obtain ⟨h1, h2, h3, h4, h5, h6, h7⟩ := hHeld; exact ⟨keepc h1 LA, keepc h2 LA, keepc h3 LA, keepc h4 LA, keepc h5 LA, keepc h6 LA, h7.out.trans (LA.mono h7.out.size)⟩
          replace T1 := T1.keep LA
          replace T2 := T2.keep LA
          have A := Bx.new v2 48 (.slice none 0 0)
          have lA : w7.heap.size ≤ v2.heap.size := by obtain ⟨-, -, -, -, -, -, hh⟩ := hHeld; exact hh.out.size
          have zA' : v2.heap.size < (v2.alloc (.cells #[.slice none 0 0] 48)).heap.size := by rw [World.size_alloc]; omega
          have zA := zA'
          clear zA' LA
          generalize v2.alloc (.cells #[.slice none 0 0] 48) = v3 at *
          generalize v2.heap.size = A0 at *
          clear hK K hHeld
          have hHeld := hHeld2
          clear hHeld2
          try simp only [Act.put, List.setIfInBounds_toArray, List.set_cons_zero, List.set_cons_succ]
          refine wpAnyH_ready (rs := [5]) (by kernel_rfl) (by simp) ?_
          refine AllReadyH.cons (o := ⟨_, _, _, _, _, _⟩) rfl (fun K hK => ?_) AllReadyH.nil
          have LA : Below v3.heap.size v3 (v3.alloc (.cells #[.slice none 0 0] 48)) := (Below.refl _ _).alloc (Nat.le_refl _) _
          go_simp
          refine hK.out _ _ ?_ (fun hHeld2 => ?_)
          · obtain ⟨h1, h2, h3, h4, h5, h6, h7⟩ := hHeld; exact ⟨keepc h1 LA, keepc h2 LA, keepc h3 LA, keepc h4 LA, keepc h5 LA, keepc h6 LA, h7.out.trans (LA.mono h7.out.size)⟩
          replace T1 := T1.keep LA
          replace T2 := T2.keep LA
          replace A := A.keep LA
          have B := Bx.new v3 48 (.slice none 0 0)
          have lB : w7.heap.size ≤ v3.heap.size := by obtain ⟨-, -, -, -, -, -, hh⟩ := hHeld; exact hh.out.size
          have hne : A0 ≠ v3.heap.size := fun e => Nat.lt_irrefl _ (e ▸ zA)
          have zB' : v3.heap.size < (v3.alloc (.cells #[.slice none 0 0] 48)).heap.size := by rw [World.size_alloc]; omega
          replace zA := Nat.lt_trans zA zB'
          have zB := zB'
          clear zB' LA
          generalize v3.alloc (.cells #[.slice none 0 0] 48) = v4 at *
          generalize v3.heap.size = B0 at *
          clear hK K hHeld
          have hHeld := hHeld2
          clear hHeld2
          try simp only [Act.put, List.setIfInBounds_toArray, List.set_cons_zero, List.set_cons_succ]
          refine wpAnyH_ready (rs := [6]) (by kernel_rfl) (by simp) ?_
          refine AllReadyH.cons (o := ⟨_, _, _, _, _, _⟩) rfl (fun K hK => ?_) AllReadyH.nil
          have p0 := A.c0; have pf := A.fr
          go_simp
          refine hK.out _ _ ?_ (fun hHeld2 => ?_)
          · obtain ⟨h1, h2, h3, h4, h5, h6, h7⟩ := hHeld; exact ⟨far_c h1 (by have := lim.out; omega), far_c h2 (by have := lim.out; omega), far_c h3 (by have := lim.out; omega), far_c h4 (by have := lim.out; omega), far_c h5 (by have := lim.out; omega), far_c h6 (by have := lim.out; omega), Lib.hid (h7.out.setCell lA _)⟩
          replace T1 := T1.store (v := (.slice (some ⟨qa, 0, none⟩) 2 2)) A
          replace T2 := T2.store (v := (.slice (some ⟨qa, 0, none⟩) 2 2)) A
          replace B := B.other (u := (.slice (some ⟨qa, 0, none⟩) 2 2)) (k := A0) (by omega)
          replace A := A.set (.slice (some ⟨qa, 0, none⟩) 2 2)
          clear p0 pf
          generalize v4.setCell ⟨A0, 0, none⟩ (.slice (some ⟨qa, 0, none⟩) 2 2) = v5 at *
          clear hK K hHeld
          have hHeld := hHeld2
          clear hHeld2
          try simp only [Act.put, List.setIfInBounds_toArray, List.set_cons_zero, List.set_cons_succ]
          refine wpAnyH_ready (rs := [7]) (by kernel_rfl) (by simp) ?_
          refine AllReadyH.cons (o := ⟨_, _, _, _, _, _⟩) rfl (fun K hK => ?_) AllReadyH.nil
          have p0 := B.c0; have pf := B.fr
          go_simp
          refine hK.out _ _ ?_ (fun hHeld2 => ?_)
          · obtain ⟨h1, h2, h3, h4, h5, h6, h7⟩ := hHeld; exact ⟨far_c h1 (by have := lim.out; omega), far_c h2 (by have := lim.out; omega), far_c h3 (by have := lim.out; omega), far_c h4 (by have := lim.out; omega), far_c h5 (by have := lim.out; omega), far_c h6 (by have := lim.out; omega), Lib.hid (h7.out.setCell lB _)⟩
          replace T1 := T1.store (v := (.slice (some ⟨qb, 0, none⟩) 2 2)) B
          replace T2 := T2.store (v := (.slice (some ⟨qb, 0, none⟩) 2 2)) B
          replace A := A.other (u := (.slice (some ⟨qb, 0, none⟩) 2 2)) (k := B0) (by omega)
          replace B := B.set (.slice (some ⟨qb, 0, none⟩) 2 2)
          clear p0 pf
          generalize v5.setCell ⟨B0, 0, none⟩ (.slice (some ⟨qb, 0, none⟩) 2 2) = v6 at *
          clear hK K hHeld
          have hHeld := hHeld2
          clear hHeld2
          try simp only [Act.put, List.setIfInBounds_toArray, List.set_cons_zero, List.set_cons_succ]
          refine wpAnyH_done (by kernel_rfl) ?_ _
          go_wp2_with fail
          go_meet
          case rel => exact ⟨A0, B0, qa, ra, sa, qb, rb, sb, rfl, rfl, A, B, T1, T2, hHeld.2.2.2.2.2.2⟩
        · skip
          have LA : Below v2.heap.size v2 (v2.alloc (.cells #[.slice none 0 0] 48)) := (Below.refl _ _).alloc (Nat.le_refl _) _
          go_simp
          refine hK.out _ _ ?_ (fun hHeld2 => ?_)
          · obtain ⟨h1, h2, h3, h4, h5, h6, h7⟩ := hHeld; exact ⟨keepc h1 LA, keepc h2 LA, keepc h3 LA, keepc h4 LA, keepc h5 LA, keepc h6 LA, h7.out.trans (LA.mono h7.out.size)⟩
          replace T1 := T1.keep LA
          replace T2 := T2.keep LA
          have B := Bx.new v2 48 (.slice none 0 0)
          have lB : w7.heap.size ≤ v2.heap.size := by obtain ⟨-, -, -, -, -, -, hh⟩ := hHeld; exact hh.out.size
          have zB' : v2.heap.size < (v2.alloc (.cells #[.slice none 0 0] 48)).heap.size := by rw [World.size_alloc]; omega
          have zB := zB'
          clear zB' LA
          generalize v2.alloc (.cells #[.slice none 0 0] 48) = v3 at *
          generalize v2.heap.size = B0 at *
          clear hK K hHeld
          have hHeld := hHeld2
          clear hHeld2
          try simp only [Act.put, List.setIfInBounds_toArray, List.set_cons_zero, List.set_cons_succ]
          refine wpAnyH_ready (rs := [4]) (by kernel_rfl) (by simp) ?_
          refine AllReadyH.cons (o := ⟨_, _, _, _, _, _⟩) rfl (fun K hK => ?_) AllReadyH.nil
          have LA : Below v3.heap.size v3 (v3.alloc (.cells #[.slice none 0 0] 48)) := (Below.refl _ _).alloc (Nat.le_refl _) _
          go_simp
          refine hK.out _ _ ?_ (fun hHeld2 => ?_)
          · obtain ⟨h1, h2, h3, h4, h5, h6, h7⟩ := hHeld; exact ⟨keepc h1 LA, keepc h2 LA, keepc h3 LA, keepc h4 LA, keepc h5 LA, keepc h6 LA, h7.out.trans (LA.mono h7.out.size)⟩
          replace T1 := T1.keep LA
          replace T2 := T2.keep LA
          replace B := B.keep LA
          have A := Bx.new v3 48 (.slice none 0 0)
          have lA : w7.heap.size ≤ v3.heap.size := by obtain ⟨-, -, -, -, -, -, hh⟩ := hHeld; exact hh.out.size
          have hne : B0 ≠ v3.heap.size := fun e => Nat.lt_irrefl _ (e ▸ zB)
          have zA' : v3.heap.size < (v3.alloc (.cells #[.slice none 0 0] 48)).heap.size := by rw [World.size_alloc]; omega
          replace zB := Nat.lt_trans zB zA'
          have zA := zA'
          clear zA' LA
          generalize v3.alloc (.cells #[.slice none 0 0] 48) = v4 at *
          generalize v3.heap.size = A0 at *
          clear hK K hHeld
          have hHeld := hHeld2
          clear hHeld2
          try simp only [Act.put, List.setIfInBounds_toArray, List.set_cons_zero, List.set_cons_succ]
          refine wpAnyH_ready (rs := [6]) (by kernel_rfl) (by simp) ?_
          refine AllReadyH.cons (o := ⟨_, _, _, _, _, _⟩) rfl (fun K hK => ?_) AllReadyH.nil
          have p0 := A.c0; have pf := A.fr
          go_simp
          refine hK.out _ _ ?_ (fun hHeld2 => ?_)
          · obtain ⟨h1, h2, h3, h4, h5, h6, h7⟩ := hHeld; exact ⟨far_c h1 (by have := lim.out; omega), far_c h2 (by have := lim.out; omega), far_c h3 (by have := lim.out; omega), far_c h4 (by have := lim.out; omega), far_c h5 (by have := lim.out; omega), far_c h6 (by have := lim.out; omega), Lib.hid (h7.out.setCell lA _)⟩
          replace T1 := T1.store (v := (.slice (some ⟨qa, 0, none⟩) 2 2)) A
          replace T2 := T2.store (v := (.slice (some ⟨qa, 0, none⟩) 2 2)) A
          replace B := B.other (u := (.slice (some ⟨qa, 0, none⟩) 2 2)) (k := A0) (by omega)
          replace A := A.set (.slice (some ⟨qa, 0, none⟩) 2 2)
          clear p0 pf
          generalize v4.setCell ⟨A0, 0, none⟩ (.slice (some ⟨qa, 0, none⟩) 2 2) = v5 at *
          clear hK K hHeld
          have hHeld := hHeld2
          clear hHeld2
          try simp only [Act.put, List.setIfInBounds_toArray, List.set_cons_zero, List.set_cons_succ]
          refine wpAnyH_ready (rs := [7]) (by kernel_rfl) (by simp) ?_
          refine AllReadyH.cons (o := ⟨_, _, _, _, _, _⟩) rfl (fun K hK => ?_) AllReadyH.nil
          have p0 := B.c0; have pf := B.fr
          go_simp
          refine hK.out _ _ ?_ (fun hHeld2 => ?_)
          · obtain ⟨h1, h2, h3, h4, h5, h6, h7⟩ := hHeld; exact ⟨far_c h1 (by have := lim.out; omega), far_c h2 (by have := lim.out; omega), far_c h3 (by have := lim.out; omega), far_c h4 (by have := lim.out; omega), far_c h5 (by have := lim.out; omega), far_c h6 (by have := lim.out; omega), Lib.hid (h7.out.setCell lB _)⟩
          replace T1 := T1.store (v := (.slice (some ⟨qb, 0, none⟩) 2 2)) B
          replace T2 := T2.store (v := (.slice (some ⟨qb, 0, none⟩) 2 2)) B
          replace A := A.other (u := (.slice (some ⟨qb, 0, none⟩) 2 2)) (k := B0) (by omega)
          replace B := B.set (.slice (some ⟨qb, 0, none⟩) 2 2)
          clear p0 pf
          generalize v5.setCell ⟨B0, 0, none⟩ (.slice (some ⟨qb, 0, none⟩) 2 2) = v6 at *
          clear hK K hHeld
          have hHeld := hHeld2
          clear hHeld2
          try simp only [Act.put, List.setIfInBounds_toArray, List.set_cons_zero, List.set_cons_succ]
          refine wpAnyH_done (by kernel_rfl) ?_ _
          go_wp2_with fail
          go_meet
          case rel => exact ⟨A0, B0, qa, ra, sa, qb, rb, sb, rfl, rfl, A, B, T1, T2, hHeld.2.2.2.2.2.2⟩
      · skip
        have LA : Below v1.heap.size v1 (v1.alloc (.cells #[.slice none 0 0] 48)) := (Below.refl _ _).alloc (Nat.le_refl _) _
        go_simp
        refine hK.out _ _ ?_ (fun hHeld2 => ?_)
        · obtain ⟨h1, h2, h3, h4, h5, h6, h7⟩ := hHeld; exact ⟨keepc h1 LA, keepc h2 LA, keepc h3 LA, keepc h4 LA, keepc h5 LA, keepc h6 LA, h7.out.trans (LA.mono h7.out.size)⟩
        replace T1 := T1.keep LA
        have A := Bx.new v1 48 (.slice none 0 0)
        have lA : w7.heap.size ≤ v1.heap.size := by obtain ⟨-, -, -, -, -, -, hh⟩ := hHeld; exact hh.out.size
        have zA' : v1.heap.size < (v1.alloc (.cells #[.slice none 0 0] 48)).heap.size := by rw [World.size_alloc]; omega
        have zA := zA'
        clear zA' LA
        generalize v1.alloc (.cells #[.slice none 0 0] 48) = v2 at *
        generalize v1.heap.size = A0 at *
        clear hK K hHeld
        have hHeld := hHeld2
        clear hHeld2
        try simp only [Act.put, List.setIfInBounds_toArray, List.set_cons_zero, List.set_cons_succ]
        refine wpAnyH_ready (rs := [3, 5]) (by kernel_rfl) (by simp) ?_
        refine AllReadyH.cons (o := ⟨_, _, _, _, _, _⟩) rfl (fun K hK => ?_) (AllReadyH.cons (o := ⟨_, _, _, _, _, _⟩) rfl (fun K hK => ?_) AllReadyH.nil)
        · skip
          go_simp
          go_at_call 34; refine (table_cyc e2 a2 v2 (M.out _ (R6.out.trans (hHeld.2.2.2.2.2.2.out.mono R6.out.size))).2.2.1 (M.out _ (R6.out.trans (hHeld.2.2.2.2.2.2.out.mono R6.out.size))).2.2.2).mono ?_; rintro e v3 ⟨qb, rb, sb, rfl, ht, hr, hs, -, -, -, K1⟩; (try go_wp2_with fail)
          have T2 : TabX _ qb rb sb := ⟨ht, hr, hs⟩
          clear ht hr hs
          try replace zA := Nat.lt_of_lt_of_le zA K1.size
          try replace zB := Nat.lt_of_lt_of_le zB K1.size
          refine hK.out _ _ ?_ (fun hHeld2 => ?_)
          · obtain ⟨h1, h2, h3, h4, h5, h6, h7⟩ := hHeld; exact ⟨keepc h1 K1, keepc h2 K1, keepc h3 K1, keepc h4 K1, keepc h5 K1, keepc h6 K1, h7.out.trans (K1.mono h7.out.size)⟩
          replace T1 := T1.keep K1
          replace A := A.keep K1
          clear K1
          clear hK K hHeld
          have hHeld := hHeld2
          clear hHeld2
          try simp only [Act.put, List.setIfInBounds_toArray, List.set_cons_zero, List.set_cons_succ]
          refine wpAnyH_ready (rs := [5]) (by kernel_rfl) (by simp) ?_
          refine AllReadyH.cons (o := ⟨_, _, _, _, _, _⟩) rfl (fun K hK => ?_) AllReadyH.nil
          have LA : Below v3.heap.size v3 (v3.alloc (.cells #[.slice none 0 0] 48)) := (Below.refl _ _).alloc (Nat.le_refl _) _
          go_simp
          refine hK.out _ _ ?_ (fun hHeld2 => ?_)
          · obtain ⟨h1, h2, h3, h4, h5, h6, h7⟩ := hHeld; exact ⟨keepc h1 LA, keepc h2 LA, keepc h3 LA, keepc h4 LA, keepc h5 LA, keepc h6 LA, h7.out.trans (LA.mono h7.out.size)⟩
          replace T1 := T1.keep LA
          replace T2 := T2.keep LA
          replace A := A.keep LA
          have B := Bx.new v3 48 (.slice none 0 0)
          have lB : w7.heap.size ≤ v3.heap.size := by obtain ⟨-, -, -, -, -, -, hh⟩ := hHeld; exact hh.out.size
          have hne : A0 ≠ v3.heap.size := fun e => Nat.lt_irrefl _ (e ▸ zA)
          have zB' : v3.heap.size < (v3.alloc (.cells #[.slice none 0 0] 48)).heap.size := by rw [World.size_alloc]; omega
          replace zA := Nat.lt_trans zA zB'
          have zB := zB'
          clear zB' LA
          generalize v3.alloc (.cells #[.slice none 0 0] 48) = v4 at *
          generalize v3.heap.size = B0 at *
          clear hK K hHeld
          have hHeld := hHeld2
          clear hHeld2
          try simp only [Act.put, List.setIfInBounds_toArray, List.set_cons_zero, List.set_cons_succ]
          refine wpAnyH_ready (rs := [6]) (by kernel_rfl) (by simp) ?_
          refine AllReadyH.cons (o := ⟨_, _, _, _, _, _⟩) rfl (fun K hK => ?_) AllReadyH.nil
          have p0 := A.c0; have pf := A.fr
          go_simp
          refine hK.out _ _ ?_ (fun hHeld2 => ?_)
          · obtain ⟨h1, h2, h3, h4, h5, h6, h7⟩ := hHeld; exact ⟨far_c h1 (by have := lim.out; omega), far_c h2 (by have := lim.out; omega), far_c h3 (by have := lim.out; omega), far_c h4 (by have := lim.out; omega), far_c h5 (by have := lim.out; omega), far_c h6 (by have := lim.out; omega), Lib.hid (h7.out.setCell lA _)⟩
          replace T1 := T1.store (v := (.slice (some ⟨qa, 0, none⟩) 2 2)) A
          replace T2 := T2.store (v := (.slice (some ⟨qa, 0, none⟩) 2 2)) A
          replace B := B.other (u := (.slice (some ⟨qa, 0, none⟩) 2 2)) (k := A0) (by omega)
          replace A := A.set (.slice (some ⟨qa, 0, none⟩) 2 2)
          clear p0 pf
          generalize v4.setCell ⟨A0, 0, none⟩ (.slice (some ⟨qa, 0, none⟩) 2 2) = v5 at *
          clear hK K hHeld
          have hHeld := hHeld2
          clear hHeld2
          try simp only [Act.put, List.setIfInBounds_toArray, List.set_cons_zero, List.set_cons_succ]
          refine wpAnyH_ready (rs := [7]) (by kernel_rfl) (by simp) ?_
          refine AllReadyH.cons (o := ⟨_, _, _, _, _, _⟩) rfl (fun K hK => ?_) AllReadyH.nil
          have p0 := B.c0; have pf := B.fr
          go_simp
          refine hK.out _ _ ?_ (fun hHeld2 => ?_)
          · obtain ⟨h1, h2, h3, h4, h5, h6, h7⟩ := hHeld; exact ⟨far_c h1 (by have := lim.out; omega), far_c h2 (by have := lim.out; omega), far_c h3 (by have := lim.out; omega), far_c h4 (by have := lim.out; omega), far_c h5 (by have := lim.out; omega), far_c h6 (by have := lim.out; omega), Lib.hid (h7.out.setCell lB _)⟩
          replace T1 := T1.store (v := (.slice (some ⟨qb, 0, none⟩) 2 2)) B
          replace T2 := T2.store (v := (.slice (some ⟨qb, 0, none⟩) 2 2)) B
          replace A := A.other (u := (.slice (some ⟨qb, 0, none⟩) 2 2)) (k := B0) (by omega)
          replace B := B.set (.slice (some ⟨qb, 0, none⟩) 2 2)
          clear p0 pf
          generalize v5.setCell ⟨B0, 0, none⟩ (.slice (some ⟨qb, 0, none⟩) 2 2) = v6 at *
          clear hK K hHeld
          have hHeld := hHeld2
          clear hHeld2
          try simp only [Act.put, List.setIfInBounds_toArray, List.set_cons_zero, List.set_cons_succ]
          refine wpAnyH_done (by kernel_rfl) ?_ _
          go_wp2_with fail
          go_meet
          case rel => exact ⟨A0, B0, qa, ra, sa, qb, rb, sb, rfl, rfl, A, B, T1, T2, hHeld.2.2.2.2.2.2⟩
        · skip
          have LA : Below v2.heap.size v2 (v2.alloc (.cells #[.slice none 0 0] 48)) := (Below.refl _ _).alloc (Nat.le_refl _) _
          go_simp
          refine hK.out _ _ ?_ (fun hHeld2 => ?_)
          · obtain ⟨h1, h2, h3, h4, h5, h6, h7⟩ := hHeld; exact ⟨keepc h1 LA, keepc h2 LA, keepc h3 LA, keepc h4 LA, keepc h5 LA, keepc h6 LA, h7.out.trans (LA.mono h7.out.size)⟩
          replace T1 := T1.keep LA
          replace A := A.keep LA
          have B := Bx.new v2 48 (.slice none 0 0)
          have lB : w7.heap.size ≤ v2.heap.size := by obtain ⟨-, -, -, -, -, -, hh⟩ := hHeld; exact hh.out.size
          have hne : A0 ≠ v2.heap.size := fun e => Nat.lt_irrefl _ (e ▸ zA)
          have zB' : v2.heap.size < (v2.alloc (.cells #[.slice none 0 0] 48)).heap.size := by rw [World.size_alloc]; omega
          replace zA := Nat.lt_trans zA zB'
          have zB := zB'
          clear zB' LA
          generalize v2.alloc (.cells #[.slice none 0 0] 48) = v3 at *
          generalize v2.heap.size = B0 at *
          clear hK K hHeld
          have hHeld := hHeld2
          clear hHeld2
          try simp only [Act.put, List.setIfInBounds_toArray, List.set_cons_zero, List.set_cons_succ]
          refine wpAnyH_ready (rs := [3]) (by kernel_rfl) (by simp) ?_
          refine AllReadyH.cons (o := ⟨_, _, _, _, _, _⟩) rfl (fun K hK => ?_) AllReadyH.nil
          go_simp
          go_at_call 34; refine (table_cyc e2 a2 v3 (M.out _ (R6.out.trans (hHeld.2.2.2.2.2.2.out.mono R6.out.size))).2.2.1 (M.out _ (R6.out.trans (hHeld.2.2.2.2.2.2.out.mono R6.out.size))).2.2.2).mono ?_; rintro e v4 ⟨qb, rb, sb, rfl, ht, hr, hs, -, -, -, K1⟩; (try go_wp2_with fail)
          have T2 : TabX _ qb rb sb := ⟨ht, hr, hs⟩
          clear ht hr hs
          try replace zA := Nat.lt_of_lt_of_le zA K1.size
          try replace zB := Nat.lt_of_lt_of_le zB K1.size
          refine hK.out _ _ ?_ (fun hHeld2 => ?_)
          · obtain ⟨h1, h2, h3, h4, h5, h6, h7⟩ := hHeld; exact ⟨keepc h1 K1, keepc h2 K1, keepc h3 K1, keepc h4 K1, keepc h5 K1, keepc h6 K1, h7.out.trans (K1.mono h7.out.size)⟩
          replace T1 := T1.keep K1
          replace A := A.keep K1
          replace B := B.keep K1
          clear K1
          clear hK K hHeld
          have hHeld := hHeld2
          clear hHeld2
          try simp only [Act.put, List.setIfInBounds_toArray, List.set_cons_zero, List.set_cons_succ]
          refine wpAnyH_ready (rs := [6]) (by kernel_rfl) (by simp) ?_
          refine AllReadyH.cons (o := ⟨_, _, _, _, _, _⟩) rfl (fun K hK => ?_) AllReadyH.nil
          have p0 := A.c0; have pf := A.fr
          go_simp
          refine hK.out _ _ ?_ (fun hHeld2 => ?_)
          · obtain ⟨h1, h2, h3, h4, h5, h6, h7⟩ := hHeld; exact ⟨far_c h1 (by have := lim.out; omega), far_c h2 (by have := lim.out; omega), far_c h3 (by have := lim.out; omega), far_c h4 (by have := lim.out; omega), far_c h5 (by have := lim.out; omega), far_c h6 (by have := lim.out; omega), Lib.hid (h7.out.setCell lA _)⟩
          replace T1 := T1.store (v := (.slice (some ⟨qa, 0, none⟩) 2 2)) A
          replace T2 := T2.store (v := (.slice (some ⟨qa, 0, none⟩) 2 2)) A
          replace B := B.other (u := (.slice (some ⟨qa, 0, none⟩) 2 2)) (k := A0) (by omega)
          replace A := A.set (.slice (some ⟨qa, 0, none⟩) 2 2)
          clear p0 pf
          generalize v4.setCell ⟨A0, 0, none⟩ (.slice (some ⟨qa, 0, none⟩) 2 2) = v5 at *
          clear hK K hHeld
          have hHeld := hHeld2
          clear hHeld2
          try simp only [Act.put, List.setIfInBounds_toArray, List.set_cons_zero, List.set_cons_succ]
          refine wpAnyH_ready (rs := [7]) (by kernel_rfl) (by simp) ?_
          refine AllReadyH.cons (o := ⟨_, _, _, _, _, _⟩) rfl (fun K hK => ?_) AllReadyH.nil
          have p0 := B.c0; have pf := B.fr
          go_simp
          refine hK.out _ _ ?_ (fun hHeld2 => ?_)
          · obtain ⟨h1, h2, h3, h4, h5, h6, h7⟩ := hHeld; exact ⟨far_c h1 (by have := lim.out; omega), far_c h2 (by have := lim.out; omega), far_c h3 (by have := lim.out; omega), far_c h4 (by have := lim.out; omega), far_c h5 (by have := lim.out; omega), far_c h6 (by have := lim.out; omega), Lib.hid (h7.out.setCell lB _)⟩
          replace T1 := T1.store (v := (.slice (some ⟨qb, 0, none⟩) 2 2)) B
          replace T2 := T2.store (v := (.slice (some ⟨qb, 0, none⟩) 2 2)) B
          replace A := A.other (u := (.slice (some ⟨qb, 0, none⟩) 2 2)) (k := B0) (by omega)
          replace B := B.set (.slice (some ⟨qb, 0, none⟩) 2 2)
          clear p0 pf
          generalize v5.setCell ⟨B0, 0, none⟩ (.slice (some ⟨qb, 0, none⟩) 2 2) = v6 at *
          clear hK K hHeld
          have hHeld := hHeld2
          clear hHeld2
          try simp only [Act.put, List.setIfInBounds_toArray, List.set_cons_zero, List.set_cons_succ]
          refine wpAnyH_done (by kernel_rfl) ?_ _
          go_wp2_with fail
          go_meet
          case rel => exact ⟨A0, B0, qa, ra, sa, qb, rb, sb, rfl, rfl, A, B, T1, T2, hHeld.2.2.2.2.2.2⟩
      · skip
        have LA : Below v1.heap.size v1 (v1.alloc (.cells #[.slice none 0 0] 48)) := (Below.refl _ _).alloc (Nat.le_refl _) _
        go_simp
        refine hK.out _ _ ?_ (fun hHeld2 => ?_)
        · obtain ⟨h1, h2, h3, h4, h5, h6, h7⟩ := hHeld; exact ⟨keepc h1 LA, keepc h2 LA, keepc h3 LA, keepc h4 LA, keepc h5 LA, keepc h6 LA, h7.out.trans (LA.mono h7.out.size)⟩
        replace T1 := T1.keep LA
        have B := Bx.new v1 48 (.slice none 0 0)
        have lB : w7.heap.size ≤ v1.heap.size := by obtain ⟨-, -, -, -, -, -, hh⟩ := hHeld; exact hh.out.size
        have zB' : v1.heap.size < (v1.alloc (.cells #[.slice none 0 0] 48)).heap.size := by rw [World.size_alloc]; omega
        have zB := zB'
        clear zB' LA
        generalize v1.alloc (.cells #[.slice none 0 0] 48) = v2 at *
        generalize v1.heap.size = B0 at *
        clear hK K hHeld
        have hHeld := hHeld2
        clear hHeld2
        try simp only [Act.put, List.setIfInBounds_toArray, List.set_cons_zero, List.set_cons_succ]
        refine wpAnyH_ready (rs := [3, 4]) (by kernel_rfl) (by simp) ?_
        refine AllReadyH.cons (o := ⟨_, _, _, _, _, _⟩) rfl (fun K hK => ?_) (AllReadyH.cons (o := ⟨_, _, _, _, _, _⟩) rfl (fun K hK => ?_) AllReadyH.nil)
        · skip
          go_simp
          go_at_call 34; refine (table_cyc e2 a2 v2 (M.out _ (R6.out.trans (hHeld.2.2.2.2.2.2.out.mono R6.out.size))).2.2.1 (M.out _ (R6.out.trans (hHeld.2.2.2.2.2.2.out.mono R6.out.size))).2.2.2).mono ?_; rintro e v3 ⟨qb, rb, sb, rfl, ht, hr, hs, -, -, -, K1⟩; (try go_wp2_with fail)
          have T2 : TabX _ qb rb sb := ⟨ht, hr, hs⟩
          clear ht hr hs
          try replace zA := Nat.lt_of_lt_of_le zA K1.size
          try replace zB := Nat.lt_of_lt_of_le zB K1.size
          refine hK.out _ _ ?_ (fun hHeld2 => ?_)
          · obtain ⟨h1, h2, h3, h4, h5, h6, h7⟩ := hHeld; exact ⟨keepc h1 K1, keepc h2 K1, keepc h3 K1, keepc h4 K1, keepc h5 K1, keepc h6 K1, h7.out.trans (K1.mono h7.out.size)⟩
          replace T1 := T1.keep K1
          replace B := B.keep K1
          clear K1
          clear hK K hHeld
          have hHeld := hHeld2
          clear hHeld2
          try simp only [Act.put, List.setIfInBounds_toArray, List.set_cons_zero, List.set_cons_succ]
          refine wpAnyH_ready (rs := [4]) (by kernel_rfl) (by simp) ?_
          refine AllReadyH.cons (o := ⟨_, _, _, _, _, _⟩) rfl (fun K hK => ?_) AllReadyH.nil
          have LA : Below v3.heap.size v3 (v3.alloc (.cells #[.slice none 0 0] 48)) := (Below.refl _ _).alloc (Nat.le_refl _) _
          go_simp
          refine hK.out _ _ ?_ (fun hHeld2 => ?_)
          · obtain ⟨h1, h2, h3, h4, h5, h6, h7⟩ := hHeld; exact ⟨keepc h1 LA, keepc h2 LA, keepc h3 LA, keepc h4 LA, keepc h5 LA, keepc h6 LA, h7.out.trans (LA.mono h7.out.size)⟩
          replace T1 := T1.keep LA
          replace T2 := T2.keep LA
          replace B := B.keep LA
          have A := Bx.new v3 48 (.slice none 0 0)
          have lA : w7.heap.size ≤ v3.heap.size := by obtain ⟨-, -, -, -, -, -, hh⟩ := hHeld; exact hh.out.size
          have hne : B0 ≠ v3.heap.size := fun e => Nat.lt_irrefl _ (e ▸ zB)
          have zA' : v3.heap.size < (v3.alloc (.cells #[.slice none 0 0] 48)).heap.size := by rw [World.size_alloc]; omega
          replace zB := Nat.lt_trans zB zA'
          have zA := zA'
          clear zA' LA
          generalize v3.alloc (.cells #[.slice none 0 0] 48) = v4 at *
          generalize v3.heap.size = A0 at *
          clear hK K hHeld
          have hHeld := hHeld2
          clear hHeld2
          try simp only [Act.put, List.setIfInBounds_toArray, List.set_cons_zero, List.set_cons_succ]
          refine wpAnyH_ready (rs := [6]) (by kernel_rfl) (by simp) ?_
          refine AllReadyH.cons (o := ⟨_, _, _, _, _, _⟩) rfl (fun K hK => ?_) AllReadyH.nil
          have p0 := A.c0; have pf := A.fr
          go_simp
          refine hK.out _ _ ?_ (fun hHeld2 => ?_)
          · obtain ⟨h1, h2, h3, h4, h5, h6, h7⟩ := hHeld; exact ⟨far_c h1 (by have := lim.out; omega), far_c h2 (by have := lim.out; omega), far_c h3 (by have := lim.out; omega), far_c h4 (by have := lim.out; omega), far_c h5 (by have := lim.out; omega), far_c h6 (by have := lim.out; omega), Lib.hid (h7.out.setCell lA _)⟩
          replace T1 := T1.store (v := (.slice (some ⟨qa, 0, none⟩) 2 2)) A
          replace T2 := T2.store (v := (.slice (some ⟨qa, 0, none⟩) 2 2)) A
          replace B := B.other (u := (.slice (some ⟨qa, 0, none⟩) 2 2)) (k := A0) (by omega)
          replace A := A.set (.slice (some ⟨qa, 0, none⟩) 2 2)
          clear p0 pf
          generalize v4.setCell ⟨A0, 0, none⟩ (.slice (some ⟨qa, 0, none⟩) 2 2) = v5 at *
          clear hK K hHeld
          have hHeld := hHeld2
          clear hHeld2
          try simp only [Act.put, List.setIfInBounds_toArray, List.set_cons_zero, List.set_cons_succ]
          refine wpAnyH_ready (rs := [7]) (by kernel_rfl) (by simp) ?_
          refine AllReadyH.cons (o := ⟨_, _, _, _, _, _⟩) rfl (fun K hK => ?_) AllReadyH.nil
          have p0 := B.c0; have pf := B.fr
          go_simp
          refine hK.out _ _ ?_ (fun hHeld2 => ?_)
          · obtain ⟨h1, h2, h3, h4, h5, h6, h7⟩ := hHeld; exact ⟨far_c h1 (by have := lim.out; omega), far_c h2 (by have := lim.out; omega), far_c h3 (by have := lim.out; omega), far_c h4 (by have := lim.out; omega), far_c h5 (by have := lim.out; omega), far_c h6 (by have := lim.out; omega), Lib.hid (h7.out.setCell lB _)⟩
          replace T1 := T1.store (v := (.slice (some ⟨qb, 0, none⟩) 2 2)) B
          replace T2 := T2.store (v := (.slice (some ⟨qb, 0, none⟩) 2 2)) B
          replace A := A.other (u := (.slice (some ⟨qb, 0, none⟩) 2 2)) (k := B0) (by omega)
          replace B := B.set (.slice (some ⟨qb, 0, none⟩) 2 2)
          clear p0 pf
          generalize v5.setCell ⟨B0, 0, none⟩ (.slice (some ⟨qb, 0, none⟩) 2 2) = v6 at *
          clear hK K hHeld
          have hHeld := hHeld2
          clear hHeld2
          try simp only [Act.put, List.setIfInBounds_toArray, List.set_cons_zero, List.set_cons_succ]
          refine wpAnyH_done (by kernel_rfl) ?_ _
          go_wp2_with fail
          go_meet
          case rel => exact ⟨A0, B0, qa, ra, sa, qb, rb, sb, rfl, rfl, A, B, T1, T2, hHeld.2.2.2.2.2.2⟩
        · skip
          have LA : Below v2.heap.size v2 (v2.alloc (.cells #[.slice none 0 0] 48)) := (Below.refl _ _).alloc (Nat.le_refl _) _
          go_simp
          refine hK.out _ _ ?_ (fun hHeld2 => ?_)
          · obtain ⟨h1, h2, h3, h4, h5, h6, h7⟩ := hHeld; exact ⟨keepc h1 LA, keepc h2 LA, keepc h3 LA, keepc h4 LA, keepc h5 LA, keepc h6 LA, h7.out.trans (LA.mono h7.out.size)⟩
          replace T1 := T1.keep LA
          replace B := B.keep LA
          have A := Bx.new v2 48 (.slice none 0 0)
          have lA : w7.heap.size ≤ v2.heap.size := by obtain ⟨-, -, -, -, -, -, hh⟩ := hHeld; exact hh.out.size
          have hne : B0 ≠ v2.heap.size := fun e => Nat.lt_irrefl _ (e ▸ zB)
          have zA' : v2.heap.size < (v2.alloc (.cells #[.slice none 0 0] 48)).heap.size := by rw [World.size_alloc]; omega
          replace zB := Nat.lt_trans zB zA'
          have zA := zA'
          clear zA' LA
          generalize v2.alloc (.cells #[.slice none 0 0] 48) = v3 at *
          generalize v2.heap.size = A0 at *
          clear hK K hHeld
          have hHeld := hHeld2
          clear hHeld2
          try simp only [Act.put, List.setIfInBounds_toArray, List.set_cons_zero, List.set_cons_succ]
          refine wpAnyH_ready (rs := [3]) (by kernel_rfl) (by simp) ?_
          refine AllReadyH.cons (o := ⟨_, _, _, _, _, _⟩) rfl (fun K hK => ?_) AllReadyH.nil
          go_simp
          go_at_call 34; refine (table_cyc e2 a2 v3 (M.out _ (R6.out.trans (hHeld.2.2.2.2.2.2.out.mono R6.out.size))).2.2.1 (M.out _ (R6.out.trans (hHeld.2.2.2.2.2.2.out.mono R6.out.size))).2.2.2).mono ?_; rintro e v4 ⟨qb, rb, sb, rfl, ht, hr, hs, -, -, -, K1⟩; (try go_wp2_with fail)
          have T2 : TabX _ qb rb sb := ⟨ht, hr, hs⟩
          clear ht hr hs
          try replace zA := Nat.lt_of_lt_of_le zA K1.size
          try replace zB := Nat.lt_of_lt_of_le zB K1.size
          refine hK.out _ _ ?_ (fun hHeld2 => ?_)
          · obtain ⟨h1, h2, h3, h4, h5, h6, h7⟩ := hHeld; exact ⟨keepc h1 K1, keepc h2 K1, keepc h3 K1, keepc h4 K1, keepc h5 K1, keepc h6 K1, h7.out.trans (K1.mono h7.out.size)⟩
          replace T1 := T1.keep K1
          replace A := A.keep K1
          replace B := B.keep K1
          clear K1
          clear hK K hHeld
          have hHeld := hHeld2
          clear hHeld2
          try simp only [Act.put, List.setIfInBounds_toArray, List.set_cons_zero, List.set_cons_succ]
          refine wpAnyH_ready (rs := [6]) (by kernel_rfl) (by simp) ?_
          refine AllReadyH.cons (o := ⟨_, _, _, _, _, _⟩) rfl (fun K hK => ?_) AllReadyH.nil
          have p0 := A.c0; have pf := A.fr
          go_simp
          refine hK.out _ _ ?_ (fun hHeld2 => ?_)
          · obtain ⟨h1, h2, h3, h4, h5, h6, h7⟩ := hHeld; exact ⟨far_c h1 (by have := lim.out; omega), far_c h2 (by have := lim.out; omega), far_c h3 (by have := lim.out; omega), far_c h4 (by have := lim.out; omega), far_c h5 (by have := lim.out; omega), far_c h6 (by have := lim.out; omega), Lib.hid (h7.out.setCell lA _)⟩
          replace T1 := T1.store (v := (.slice (some ⟨qa, 0, none⟩) 2 2)) A
          replace T2 := T2.store (v := (.slice (some ⟨qa, 0, none⟩) 2 2)) A
          replace B := B.other (u := (.slice (some ⟨qa, 0, none⟩) 2 2)) (k := A0) (by omega)
          replace A := A.set (.slice (some ⟨qa, 0, none⟩) 2 2)
          clear p0 pf
          generalize v4.setCell ⟨A0, 0, none⟩ (.slice (some ⟨qa, 0, none⟩) 2 2) = v5 at *
          clear hK K hHeld
          have hHeld := hHeld2
          clear hHeld2
          try simp only [Act.put, List.setIfInBounds_toArray, List.set_cons_zero, List.set_cons_succ]
          refine wpAnyH_ready (rs := [7]) (by kernel_rfl) (by simp) ?_
          refine AllReadyH.cons (o := ⟨_, _, _, _, _, _⟩) rfl (fun K hK => ?_) AllReadyH.nil
          have p0 := B.c0; have pf := B.fr
          go_simp
          refine hK.out _ _ ?_ (fun hHeld2 => ?_)
          · obtain ⟨h1, h2, h3, h4, h5, h6, h7⟩ := hHeld; exact ⟨far_c h1 (by have := lim.out; omega), far_c h2 (by have := lim.out; omega), far_c h3 (by have := lim.out; omega), far_c h4 (by have := lim.out; omega), far_c h5 (by have := lim.out; omega), far_c h6 (by have := lim.out; omega), Lib.hid (h7.out.setCell lB _)⟩
          replace T1 := T1.store (v := (.slice (some ⟨qb, 0, none⟩) 2 2)) B
          replace T2 := T2.store (v := (.slice (some ⟨qb, 0, none⟩) 2 2)) B
          replace A := A.other (u := (.slice (some ⟨qb, 0, none⟩) 2 2)) (k := B0) (by omega)
          replace B := B.set (.slice (some ⟨qb, 0, none⟩) 2 2)
          clear p0 pf
          generalize v5.setCell ⟨B0, 0, none⟩ (.slice (some ⟨qb, 0, none⟩) 2 2) = v6 at *
          clear hK K hHeld
          have hHeld := hHeld2
          clear hHeld2
          try simp only [Act.put, List.setIfInBounds_toArray, List.set_cons_zero, List.set_cons_succ]
          refine wpAnyH_done (by kernel_rfl) ?_ _
          go_wp2_with fail
          go_meet
          case rel => exact ⟨A0, B0, qa, ra, sa, qb, rb, sb, rfl, rfl, A, B, T1, T2, hHeld.2.2.2.2.2.2⟩
    · skip
      have LA : Below v0.heap.size v0 (v0.alloc (.cells #[.slice none 0 0] 48)) := (Below.refl _ _).alloc (Nat.le_refl _) _
      go_simp
      refine hK.out _ _ ?_ (fun hHeld2 => ?_)
      · obtain ⟨h1, h2, h3, h4, h5, h6, h7⟩ := hHeld; exact ⟨keepc h1 LA, keepc h2 LA, keepc h3 LA, keepc h4 LA, keepc h5 LA, keepc h6 LA, h7.out.trans (LA.mono h7.out.size)⟩
      have A := Bx.new v0 48 (.slice none 0 0)
      have lA : w7.heap.size ≤ v0.heap.size := by obtain ⟨-, -, -, -, -, -, hh⟩ := hHeld; exact hh.out.size
      have zA' : v0.heap.size < (v0.alloc (.cells #[.slice none 0 0] 48)).heap.size := by rw [World.size_alloc]; omega
      have zA := zA'
      clear zA' LA
      generalize v0.alloc (.cells #[.slice none 0 0] 48) = v1 at *
      generalize v0.heap.size = A0 at *
      clear hK K hHeld
      have hHeld := hHeld2
      clear hHeld2
      try simp only [Act.put, List.setIfInBounds_toArray, List.set_cons_zero, List.set_cons_succ]
      refine wpAnyH_ready (rs := [1, 5]) (by kernel_rfl) (by simp) ?_
      refine AllReadyH.cons (o := ⟨_, _, _, _, _, _⟩) rfl (fun K hK => ?_) (AllReadyH.cons (o := ⟨_, _, _, _, _, _⟩) rfl (fun K hK => ?_) AllReadyH.nil)
      · skip
        go_simp
        go_at_call 34; refine (table_cyc e1 a1 v1 (M.out _ (R6.out.trans (hHeld.2.2.2.2.2.2.out.mono R6.out.size))).1 (M.out _ (R6.out.trans (hHeld.2.2.2.2.2.2.out.mono R6.out.size))).2.1).mono ?_; rintro e v2 ⟨qa, ra, sa, rfl, ht, hr, hs, -, -, -, K1⟩; (try go_wp2_with fail)
        have T1 : TabX _ qa ra sa := ⟨ht, hr, hs⟩
        clear ht hr hs
        try replace zA := Nat.lt_of_lt_of_le zA K1.size
        try replace zB := Nat.lt_of_lt_of_le zB K1.size
        refine hK.out _ _ ?_ (fun hHeld2 => ?_)
        · obtain ⟨h1, h2, h3, h4, h5, h6, h7⟩ := hHeld; exact ⟨keepc h1 K1, keepc h2 K1, keepc h3 K1, keepc h4 K1, keepc h5 K1, keepc h6 K1, h7.out.trans (K1.mono h7.out.size)⟩
        replace A := A.keep K1
        clear K1
        clear hK K hHeld
        have hHeld := hHeld2
        clear hHeld2
        try simp only [Act.put, List.setIfInBounds_toArray, List.set_cons_zero, List.set_cons_succ]
        refine wpAnyH_ready (rs := [3, 5]) (by kernel_rfl) (by simp) ?_
        refine AllReadyH.cons (o := ⟨_, _, _, _, _, _⟩) rfl (fun K hK => ?_) (AllReadyH.cons (o := ⟨_, _, _, _, _, _⟩) rfl (fun K hK => ?_) AllReadyH.nil)
        · skip
          go_simp
          go_at_call 34; refine (table_cyc e2 a2 v2 (M.out _ (R6.out.trans (hHeld.2.2.2.2.2.2.out.mono R6.out.size))).2.2.1 (M.out _ (R6.out.trans (hHeld.2.2.2.2.2.2.out.mono R6.out.size))).2.2.2).mono ?_; rintro e v3 ⟨qb, rb, sb, rfl, ht, hr, hs, -, -, -, K1⟩; (try go_wp2_with fail)
          have T2 : TabX _ qb rb sb := ⟨ht, hr, hs⟩
          clear ht hr hs
          try replace zA := Nat.lt_of_lt_of_le zA K1.size
          try replace zB := Nat.lt_of_lt_of_le zB K1.size
          refine hK.out _ _ ?_ (fun hHeld2 => ?_)
          · obtain ⟨h1, h2, h3, h4, h5, h6, h7⟩ := hHeld; exact ⟨keepc h1 K1, keepc h2 K1, keepc h3 K1, keepc h4 K1, keepc h5 K1, keepc h6 K1, h7.out.trans (K1.mono h7.out.size)⟩
          replace T1 := T1.keep K1
          replace A := A.keep K1
          clear K1
          clear hK K hHeld
          have hHeld := hHeld2
          clear hHeld2
          try simp only [Act.put, List.setIfInBounds_toArray, List.set_cons_zero, List.set_cons_succ]
          refine wpAnyH_ready (rs := [5]) (by kernel_rfl) (by simp) ?_
          refine AllReadyH.cons (o := ⟨_, _, _, _, _, _⟩) rfl (fun K hK => ?_) AllReadyH.nil
          have LA : Below v3.heap.size v3 (v3.alloc (.cells #[.slice none 0 0] 48)) := (Below.refl _ _).alloc (Nat.le_refl _) _
          go_simp
          refine hK.out _ _ ?_ (fun hHeld2 => ?_)
          · obtain ⟨h1, h2, h3, h4, h5, h6, h7⟩ := hHeld; exact ⟨keepc h1 LA, keepc h2 LA, keepc h3 LA, keepc h4 LA, keepc h5 LA, keepc h6 LA, h7.out.trans (LA.mono h7.out.size)⟩
          replace T1 := T1.keep LA
          replace T2 := T2.keep LA
          replace A := A.keep LA
          have B := Bx.new v3 48 (.slice none 0 0)
          have lB : w7.heap.size ≤ v3.heap.size := by obtain ⟨-, -, -, -, -, -, hh⟩ := hHeld; exact hh.out.size
          have hne : A0 ≠ v3.heap.size := fun e => Nat.lt_irrefl _ (e ▸ zA)
          have zB' : v3.heap.size < (v3.alloc (.cells #[.slice none 0 0] 48)).heap.size := by rw [World.size_alloc]; omega
          replace zA := Nat.lt_trans zA zB'
          have zB := zB'
          clear zB' LA
          generalize v3.alloc (.cells #[.slice none 0 0] 48) = v4 at *
          generalize v3.heap.size = B0 at *
          clear hK K hHeld
          have hHeld := hHeld2
          clear hHeld2
          try simp only [Act.put, List.setIfInBounds_toArray, List.set_cons_zero, List.set_cons_succ]
          refine wpAnyH_ready (rs := [6]) (by kernel_rfl) (by simp) ?_
          refine AllReadyH.cons (o := ⟨_, _, _, _, _, _⟩) rfl (fun K hK => ?_) AllReadyH.nil
          have p0 := A.c0; have pf := A.fr
          go_simp
          refine hK.out _ _ ?_ (fun hHeld2 => ?_)
          · obtain ⟨h1, h2, h3, h4, h5, h6, h7⟩ := hHeld; exact ⟨far_c h1 (by have := lim.out; omega), far_c h2 (by have := lim.out; omega), far_c h3 (by have := lim.out; omega), far_c h4 (by have := lim.out; omega), far_c h5 (by have := lim.out; omega), far_c h6 (by have := lim.out; omega), Lib.hid (h7.out.setCell lA _)⟩
          replace T1 := T1.store (v := (.slice (some ⟨qa, 0, none⟩) 2 2)) A
          replace T2 := T2.store (v := (.slice (some ⟨qa, 0, none⟩) 2 2)) A
          replace B := B.other (u := (.slice (some ⟨qa, 0, none⟩) 2 2)) (k := A0) (by omega)
          replace A := A.set (.slice (some ⟨qa, 0, none⟩) 2 2)
          clear p0 pf
          generalize v4.setCell ⟨A0, 0, none⟩ (.slice (some ⟨qa, 0, none⟩) 2 2) = v5 at *
          clear hK K hHeld
          have hHeld := hHeld2
          clear hHeld2
          try simp only [Act.put, List.setIfInBounds_toArray, List.set_cons_zero, List.set_cons_succ]
          refine wpAnyH_ready (rs := [7]) (by kernel_rfl) (by simp) ?_
          refine AllReadyH.cons (o := ⟨_, _, _, _, _, _⟩) rfl (fun K hK => ?_) AllReadyH.nil
          have p0 := B.c0; have pf := B.fr
          go_simp
          refine hK.out _ _ ?_ (fun hHeld2 => ?_)
          · obtain ⟨h1, h2, h3, h4, h5, h6, h7⟩ := hHeld; exact ⟨far_c h1 (by have := lim.out; omega), far_c h2 (by have := lim.out; omega), far_c h3 (by have := lim.out; omega), far_c h4 (by have := lim.out; omega), far_c h5 (by have := lim.out; omega), far_c h6 (by have := lim.out; omega), Lib.hid (h7.out.setCell lB _)⟩
          replace T1 := T1.store (v := (.slice (some ⟨qb, 0, none⟩) 2 2)) B
          replace T2 := T2.store (v := (.slice (some ⟨qb, 0, none⟩) 2 2)) B
          replace A := A.other (u := (.slice (some ⟨qb, 0, none⟩) 2 2)) (k := B0) (by omega)
          replace B := B.set (.slice (some ⟨qb, 0, none⟩) 2 2)
          clear p0 pf
          generalize v5.setCell ⟨B0, 0, none⟩ (.slice (some ⟨qb, 0, none⟩) 2 2) = v6 at *
          clear hK K hHeld
          have hHeld := hHeld2
          clear hHeld2
          try simp only [Act.put, List.setIfInBounds_toArray, List.set_cons_zero, List.set_cons_succ]
          refine wpAnyH_done (by kernel_rfl) ?_ _
          go_wp2_with fail
          go_meet
          case rel => exact ⟨A0, B0, qa, ra, sa, qb, rb, sb, rfl, rfl, A, B, T1, T2, hHeld.2.2.2.2.2.2⟩
        · skip
          have LA : Below v2.heap.size v2 (v2.alloc (.cells #[.slice none 0 0] 48)) := (Below.refl _ _).alloc (Nat.le_refl _) _
          go_simp
          refine hK.out _ _ ?_ (fun hHeld2 => ?_)
          · obtain ⟨h1, h2, h3, h4, h5, h6, h7⟩ := hHeld; exact ⟨keepc h1 LA, keepc h2 LA, keepc h3 LA, keepc h4 LA, keepc h5 LA, keepc h6 LA, h7.out.trans (LA.mono h7.out.size)⟩
          replace T1 := T1.keep LA
          replace A := A.keep LA
          have B := Bx.new v2 48 (.slice none 0 0)
          have lB : w7.heap.size ≤ v2.heap.size := by obtain ⟨-, -, -, -, -, -, hh⟩ := hHeld; exact hh.out.size
          have hne : A0 ≠ v2.heap.size := fun e => Nat.lt_irrefl _ (e ▸ zA)
          have zB' : v2.heap.size < (v2.alloc (.cells #[.slice none 0 0] 48)).heap.size := by rw [World.size_alloc]; omega
          replace zA := Nat.lt_trans zA zB'
          have zB := zB'
          clear zB' LA
          generalize v2.alloc (.cells #[.slice none 0 0] 48) = v3 at *
          generalize v2.heap.size = B0 at *
          clear hK K hHeld
          have hHeld := hHeld2
          clear hHeld2
          try simp only [Act.put, List.setIfInBounds_toArray, List.set_cons_zero, List.set_cons_succ]
          refine wpAnyH_ready (rs := [3]) (by kernel_rfl) (by simp) ?_
          refine AllReadyH.cons (o := ⟨_, _, _, _, _, _⟩) rfl (fun K hK => ?_) AllReadyH.nil
          go_simp
          go_at_call 34; refine (table_cyc e2 a2 v3 (M.out _ (R6.out.trans (hHeld.2.2.2.2.2.2.out.mono R6.out.size))).2.2.1 (M.out _ (R6.out.trans (hHeld.2.2.2.2.2.2.out.mono R6.out.size))).2.2.2).mono ?_; rintro e v4 ⟨qb, rb, sb, rfl, ht, hr, hs, -, -, -, K1⟩; (try go_wp2_with fail)
          have T2 : TabX _ qb rb sb := ⟨ht, hr, hs⟩
          clear ht hr hs
          try replace zA := Nat.lt_of_lt_of_le zA K1.size
          try replace zB := Nat.lt_of_lt_of_le zB K1.size
          refine hK.out _ _ ?_ (fun hHeld2 => ?_)
          · obtain ⟨h1, h2, h3, h4, h5, h6, h7⟩ := hHeld; exact ⟨keepc h1 K1, keepc h2 K1, keepc h3 K1, keepc h4 K1, keepc h5 K1, keepc h6 K1, h7.out.trans (K1.mono h7.out.size)⟩
          replace T1 := T1.keep K1
          replace A := A.keep K1
          replace B := B.keep K1
          clear K1
          clear hK K hHeld
          have hHeld := hHeld2
          clear hHeld2
          try simp only [Act.put, List.setIfInBounds_toArray, List.set_cons_zero, List.set_cons_succ]
          refine wpAnyH_ready (rs := [6]) (by kernel_rfl) (by simp) ?_
          refine AllReadyH.cons (o := ⟨_, _, _, _, _, _⟩) rfl (fun K hK => ?_) AllReadyH.nil
          have p0 := A.c0; have pf := A.fr
          go_simp
          refine hK.out _ _ ?_ (fun hHeld2 => ?_)
          · obtain ⟨h1, h2, h3, h4, h5, h6, h7⟩ := hHeld; exact ⟨far_c h1 (by have := lim.out; omega), far_c h2 (by have := lim.out; omega), far_c h3 (by have := lim.out; omega), far_c h4 (by have := lim.out; omega), far_c h5 (by have := lim.out; omega), far_c h6 (by have := lim.out; omega), Lib.hid (h7.out.setCell lA _)⟩
          replace T1 := T1.store (v := (.slice (some ⟨qa, 0, none⟩) 2 2)) A
          replace T2 := T2.store (v := (.slice (some ⟨qa, 0, none⟩) 2 2)) A
          replace B := B.other (u := (.slice (some ⟨qa, 0, none⟩) 2 2)) (k := A0) (by omega)
          replace A := A.set (.slice (some ⟨qa, 0, none⟩) 2 2)
          clear p0 pf
          generalize v4.setCell ⟨A0, 0, none⟩ (.slice (some ⟨qa, 0, none⟩) 2 2) = v5 at *
          clear hK K hHeld
          have hHeld := hHeld2
          clear hHeld2
          try simp only [Act.put, List.setIfInBounds_toArray, List.set_cons_zero, List.set_cons_succ]
          refine wpAnyH_ready (rs := [7]) (by kernel_rfl) (by simp) ?_
          refine AllReadyH.cons (o := ⟨_, _, _, _, _, _⟩) rfl (fun K hK => ?_) AllReadyH.nil
          have p0 := B.c0; have pf := B.fr
          go_simp
          refine hK.out _ _ ?_ (fun hHeld2 => ?_)
          · obtain ⟨h1, h2, h3, h4, h5, h6, h7⟩ := hHeld; exact ⟨far_c h1 (by have := lim.out; omega), far_c h2 (by have := lim.out; omega), far_c h3 (by have := lim.out; omega), far_c h4 (by have := lim.out; omega), far_c h5 (by have := lim.out; omega), far_c h6 (by have := lim.out; omega), Lib.hid (h7.out.setCell lB _)⟩
          replace T1 := T1.store (v := (.slice (some ⟨qb, 0, none⟩) 2 2)) B
          replace T2 := T2.store (v := (.slice (some ⟨qb, 0, none⟩) 2 2)) B
          replace A := A.other (u := (.slice (some ⟨qb, 0, none⟩) 2 2)) (k := B0) (by omega)
          replace B := B.set (.slice (some ⟨qb, 0, none⟩) 2 2)
          clear p0 pf
          generalize v5.setCell ⟨B0, 0, none⟩ (.slice (some ⟨qb, 0, none⟩) 2 2) = v6 at *
          clear hK K hHeld
          have hHeld := hHeld2
          clear hHeld2
          try simp only [Act.put, List.setIfInBounds_toArray, List.set_cons_zero, List.set_cons_succ]
          refine wpAnyH_done (by kernel_rfl) ?_ _
          go_wp2_with fail
          go_meet
          case rel => exact ⟨A0, B0, qa, ra, sa, qb, rb, sb, rfl, rfl, A, B, T1, T2, hHeld.2.2.2.2.2.2⟩
      · skip
        have LA : Below v1.heap.size v1 (v1.alloc (.cells #[.slice none 0 0] 48)) := (Below.refl _ _).alloc (Nat.le_refl _) _
        go_simp
        refine hK.out _ _ ?_ (fun hHeld2 => ?_)
        · obtain ⟨h1, h2, h3, h4, h5, h6, h7⟩ := hHeld; exact ⟨keepc h1 LA, keepc h2 LA, keepc h3 LA, keepc h4 LA, keepc h5 LA, keepc h6 LA, h7.out.trans (LA.mono h7.out.size)⟩
        replace A := A.keep LA
        have B := Bx.new v1 48 (.slice none 0 0)
        have lB : w7.heap.size ≤ v1.heap.size := by obtain ⟨-, -, -, -, -, -, hh⟩ := hHeld; exact hh.out.size
        have hne : A0 ≠ v1.heap.size := fun e => Nat.lt_irrefl _ (e ▸ zA)
        have zB' : v1.heap.size < (v1.alloc (.cells #[.slice none 0 0] 48)).heap.size := by rw [World.size_alloc]; omega
        replace zA := Nat.lt_trans zA zB'
        have zB := zB'
        clear zB' LA
        generalize v1.alloc (.cells #[.slice none 0 0] 48) = v2 at *
        generalize v1.heap.size = B0 at *
        clear hK K hHeld
        have hHeld := hHeld2
        clear hHeld2
        try simp only [Act.put, List.setIfInBounds_toArray, List.set_cons_zero, List.set_cons_succ]
        refine wpAnyH_ready (rs := [1]) (by kernel_rfl) (by simp) ?_
        refine AllReadyH.cons (o := ⟨_, _, _, _, _, _⟩) rfl (fun K hK => ?_) AllReadyH.nil
        go_simp
        go_at_call 34; refine (table_cyc e1 a1 v2 (M.out _ (R6.out.trans (hHeld.2.2.2.2.2.2.out.mono R6.out.size))).1 (M.out _ (R6.out.trans (hHeld.2.2.2.2.2.2.out.mono R6.out.size))).2.1).mono ?_; rintro e v3 ⟨qa, ra, sa, rfl, ht, hr, hs, -, -, -, K1⟩; (try go_wp2_with fail)
        have T1 : TabX _ qa ra sa := ⟨ht, hr, hs⟩
        clear ht hr hs
        try replace zA := Nat.lt_of_lt_of_le zA K1.size
        try replace zB := Nat.lt_of_lt_of_le zB K1.size
        refine hK.out _ _ ?_ (fun hHeld2 => ?_)
        · obtain ⟨h1, h2, h3, h4, h5, h6, h7⟩ := hHeld; exact ⟨keepc h1 K1, keepc h2 K1, keepc h3 K1, keepc h4 K1, keepc h5 K1, keepc h6 K1, h7.out.trans (K1.mono h7.out.size)⟩
        replace A := A.keep K1
        replace B := B.keep K1
        clear K1
        clear hK K hHeld
        have hHeld := hHeld2
        clear hHeld2
        try simp only [Act.put, List.setIfInBounds_toArray, List.set_cons_zero, List.set_cons_succ]
        refine wpAnyH_ready (rs := [3]) (by kernel_rfl) (by simp) ?_
        refine AllReadyH.cons (o := ⟨_, _, _, _, _, _⟩) rfl (fun K hK => ?_) AllReadyH.nil
        go_simp
        go_at_call 34; refine (table_cyc e2 a2 v3 (M.out _ (R6.out.trans (hHeld.2.2.2.2.2.2.out.mono R6.out.size))).2.2.1 (M.out _ (R6.out.trans (hHeld.2.2.2.2.2.2.out.mono R6.out.size))).2.2.2).mono ?_; rintro e v4 ⟨qb, rb, sb, rfl, ht, hr, hs, -, -, -, K1⟩; (try go_wp2_with fail)
        have T2 : TabX _ qb rb sb := ⟨ht, hr, hs⟩
        clear ht hr hs
        try replace zA := Nat.lt_of_lt_of_le zA K1.size
        try replace zB := Nat.lt_of_lt_of_le zB K1.size
        refine hK.out _ _ ?_ (fun hHeld2 => ?_)
        · obtain ⟨h1, h2, h3, h4, h5, h6, h7⟩ := hHeld; exact ⟨keepc h1 K1, keepc h2 K1, keepc h3 K1, keepc h4 K1, keepc h5 K1, keepc h6 K1, h7.out.trans (K1.mono h7.out.size)⟩
        replace T1 := T1.keep K1
        replace A := A.keep K1
        replace B := B.keep K1
        clear K1
        clear hK K hHeld
        have hHeld := hHeld2
        clear hHeld2
        try simp only [Act.put, List.setIfInBounds_toArray, List.set_cons_zero, List.set_cons_succ]
        refine wpAnyH_ready (rs := [6]) (by kernel_rfl) (by simp) ?_
        refine AllReadyH.cons (o := ⟨_, _, _, _, _, _⟩) rfl (fun K hK => ?_) AllReadyH.nil
        have p0 := A.c0; have pf := A.fr
        go_simp
        refine hK.out _ _ ?_ (fun hHeld2 => ?_)
        · obtain ⟨h1, h2, h3, h4, h5, h6, h7⟩ := hHeld; exact ⟨far_c h1 (by have := lim.out; omega), far_c h2 (by have := lim.out; omega), far_c h3 (by have := lim.out; omega), far_c h4 (by have := lim.out; omega), far_c h5 (by have := lim.out; omega), far_c h6 (by have := lim.out; omega), Lib.hid (h7.out.setCell lA _)⟩
        replace T1 := T1.store (v := (.slice (some ⟨qa, 0, none⟩) 2 2)) A
        replace T2 := T2.store (v := (.slice (some ⟨qa, 0, none⟩) 2 2)) A
        replace B := B.other (u := (.slice (some ⟨qa, 0, none⟩) 2 2)) (k := A0) (by omega)
        replace A := A.set (.slice (some ⟨qa, 0, none⟩) 2 2)
        clear p0 pf
        generalize v4.setCell ⟨A0, 0, none⟩ (.slice (some ⟨qa, 0, none⟩) 2 2) = v5 at *
        clear hK K hHeld
        have hHeld := hHeld2
        clear hHeld2
        try simp only [Act.put, List.setIfInBounds_toArray, List.set_cons_zero, List.set_cons_succ]
        refine wpAnyH_ready (rs := [7]) (by kernel_rfl) (by simp) ?_
        refine AllReadyH.cons (o := ⟨_, _, _, _, _, _⟩) rfl (fun K hK => ?_) AllReadyH.nil
        have p0 := B.c0; have pf := B.fr
        go_simp
        refine hK.out _ _ ?_ (fun hHeld2 => ?_)
        · obtain ⟨h1, h2, h3, h4, h5, h6, h7⟩ := hHeld; exact ⟨far_c h1 (by have := lim.out; omega), far_c h2 (by have := lim.out; omega), far_c h3 (by have := lim.out; omega), far_c h4 (by have := lim.out; omega), far_c h5 (by have := lim.out; omega), far_c h6 (by have := lim.out; omega), Lib.hid (h7.out.setCell lB _)⟩
        replace T1 := T1.store (v := (.slice (some ⟨qb, 0, none⟩) 2 2)) B
        replace T2 := T2.store (v := (.slice (some ⟨qb, 0, none⟩) 2 2)) B
        replace A := A.other (u := (.slice (some ⟨qb, 0, none⟩) 2 2)) (k := B0) (by omega)
        replace B := B.set (.slice (some ⟨qb, 0, none⟩) 2 2)
        clear p0 pf
        generalize v5.setCell ⟨B0, 0, none⟩ (.slice (some ⟨qb, 0, none⟩) 2 2) = v6 at *
        clear hK K hHeld
        have hHeld := hHeld2
        clear hHeld2
        try simp only [Act.put, List.setIfInBounds_toArray, List.set_cons_zero, List.set_cons_succ]
        refine wpAnyH_done (by kernel_rfl) ?_ _
        go_wp2_with fail
        go_meet
        case rel => exact ⟨A0, B0, qa, ra, sa, qb, rb, sb, rfl, rfl, A, B, T1, T2, hHeld.2.2.2.2.2.2⟩
    · skip
      have LA : Below v0.heap.size v0 (v0.alloc (.cells #[.slice none 0 0] 48)) := (Below.refl _ _).alloc (Nat.le_refl _) _
      go_simp
      refine hK.out _ _ ?_ (fun hHeld2 => ?_)
      · obtain ⟨h1, h2, h3, h4, h5, h6, h7⟩ := hHeld; exact ⟨keepc h1 LA, keepc h2 LA, keepc h3 LA, keepc h4 LA, keepc h5 LA, keepc h6 LA, h7.out.trans (LA.mono h7.out.size)⟩
      have B := Bx.new v0 48 (.slice none 0 0)
      have lB : w7.heap.size ≤ v0.heap.size := by obtain ⟨-, -, -, -, -, -, hh⟩ := hHeld; exact hh.out.size
      have zB' : v0.heap.size < (v0.alloc (.cells #[.slice none 0 0] 48)).heap.size := by rw [World.size_alloc]; omega
      have zB := zB'
      clear zB' LA
      generalize v0.alloc (.cells #[.slice none 0 0] 48) = v1 at *
      generalize v0.heap.size = B0 at *
      clear hK K hHeld
      have hHeld := hHeld2
      clear hHeld2
      try simp only [Act.put, List.setIfInBounds_toArray, List.set_cons_zero, List.set_cons_succ]
      refine wpAnyH_ready (rs := [1, 4]) (by kernel_rfl) (by simp) ?_
      refine AllReadyH.cons (o := ⟨_, _, _, _, _, _⟩) rfl (fun K hK => ?_) (AllReadyH.cons (o := ⟨_, _, _, _, _, _⟩) rfl (fun K hK => ?_) AllReadyH.nil)
      · skip
        go_simp
        go_at_call 34; refine (table_cyc e1 a1 v1 (M.out _ (R6.out.trans (hHeld.2.2.2.2.2.2.out.mono R6.out.size))).1 (M.out _ (R6.out.trans (hHeld.2.2.2.2.2.2.out.mono R6.out.size))).2.1).mono ?_; rintro e v2 ⟨qa, ra, sa, rfl, ht, hr, hs, -, -, -, K1⟩; (try go_wp2_with fail)
        have T1 : TabX _ qa ra sa := ⟨ht, hr, hs⟩
        clear ht hr hs
        try replace zA := Nat.lt_of_lt_of_le zA K1.size
        try replace zB := Nat.lt_of_lt_of_le zB K1.size
        refine hK.out _ _ ?_ (fun hHeld2 => ?_)
        · obtain ⟨h1, h2, h3, h4, h5, h6, h7⟩ := hHeld; exact ⟨keepc h1 K1, keepc h2 K1, keepc h3 K1, keepc h4 K1, keepc h5 K1, keepc h6 K1, h7.out.trans (K1.mono h7.out.size)⟩
        replace B := B.keep K1
        clear K1
        clear hK K hHeld
        have hHeld := hHeld2
        clear hHeld2
        try simp only [Act.put, List.setIfInBounds_toArray, List.set_cons_zero, List.set_cons_succ]
        refine wpAnyH_ready (rs := [3, 4]) (by kernel_rfl) (by simp) ?_
        refine AllReadyH.cons (o := ⟨_, _, _, _, _, _⟩) rfl (fun K hK => ?_) (AllReadyH.cons (o := ⟨_, _, _, _, _, _⟩) rfl (fun K hK => ?_) AllReadyH.nil)
        · skip
          go_simp
          go_at_call 34; refine (table_cyc e2 a2 v2 (M.out _ (R6.out.trans (hHeld.2.2.2.2.2.2.out.mono R6.out.size))).2.2.1 (M.out _ (R6.out.trans (hHeld.2.2.2.2.2.2.out.mono R6.out.size))).2.2.2).mono ?_; rintro e v3 ⟨qb, rb, sb, rfl, ht, hr, hs, -, -, -, K1⟩; (try go_wp2_with fail)
          have T2 : TabX _ qb rb sb := ⟨ht, hr, hs⟩
          clear ht hr hs
          try replace zA := Nat.lt_of_lt_of_le zA K1.size
          try replace zB := Nat.lt_of_lt_of_le zB K1.size
          refine hK.out _ _ ?_ (fun hHeld2 => ?_)
          · obtain ⟨h1, h2, h3, h4, h5, h6, h7⟩ := hHeld; exact ⟨keepc h1 K1, keepc h2 K1, keepc h3 K1, keepc h4 K1, keepc h5 K1, keepc h6 K1, h7.out.trans (K1.mono h7.out.size)⟩
          replace T1 := T1.keep K1
          replace B := B.keep K1
          clear K1
          clear hK K hHeld
          have hHeld := hHeld2
          clear hHeld2
          try simp only [Act.put, List.setIfInBounds_toArray, List.set_cons_zero, List.set_cons_succ]
          refine wpAnyH_ready (rs := [4]) (by kernel_rfl) (by simp) ?_
          refine AllReadyH.cons (o := ⟨_, _, _, _, _, _⟩) rfl (fun K hK => ?_) AllReadyH.nil
          have LA : Below v3.heap.size v3 (v3.alloc (.cells #[.slice none 0 0] 48)) := (Below.refl _ _).alloc (Nat.le_refl _) _
          go_simp
          refine hK.out _ _ ?_ (fun hHeld2 => ?_)
          · obtain ⟨h1, h2, h3, h4, h5, h6, h7⟩ := hHeld; exact ⟨keepc h1 LA, keepc h2 LA, keepc h3 LA, keepc h4 LA, keepc h5 LA, keepc h6 LA, h7.out.trans (LA.mono h7.out.size)⟩
          replace T1 := T1.keep LA
          replace T2 := T2.keep LA
          replace B := B.keep LA
          have A := Bx.new v3 48 (.slice none 0 0)
          have lA : w7.heap.size ≤ v3.heap.size := by obtain ⟨-, -, -, -, -, -, hh⟩ := hHeld; exact hh.out.size
          have hne : B0 ≠ v3.heap.size := fun e => Nat.lt_irrefl _ (e ▸ zB)
          have zA' : v3.heap.size < (v3.alloc (.cells #[.slice none 0 0] 48)).heap.size := by rw [World.size_alloc]; omega
          replace zB := Nat.lt_trans zB zA'
          have zA := zA'
          clear zA' LA
          generalize v3.alloc (.cells #[.slice none 0 0] 48) = v4 at *
          generalize v3.heap.size = A0 at *
          clear hK K hHeld
          have hHeld := hHeld2
          clear hHeld2
          try simp only [Act.put, List.setIfInBounds_toArray, List.set_cons_zero, List.set_cons_succ]
          refine wpAnyH_ready (rs := [6]) (by kernel_rfl) (by simp) ?_
          refine AllReadyH.cons (o := ⟨_, _, _, _, _, _⟩) rfl (fun K hK => ?_) AllReadyH.nil
          have p0 := A.c0; have pf := A.fr
          go_simp
          refine hK.out _ _ ?_ (fun hHeld2 => ?_)
          · obtain ⟨h1, h2, h3, h4, h5, h6, h7⟩ := hHeld; exact ⟨far_c h1 (by have := lim.out; omega), far_c h2 (by have := lim.out; omega), far_c h3 (by have := lim.out; omega), far_c h4 (by have := lim.out; omega), far_c h5 (by have := lim.out; omega), far_c h6 (by have := lim.out; omega), Lib.hid (h7.out.setCell lA _)⟩
          replace T1 := T1.store (v := (.slice (some ⟨qa, 0, none⟩) 2 2)) A
          replace T2 := T2.store (v := (.slice (some ⟨qa, 0, none⟩) 2 2)) A
          replace B := B.other (u := (.slice (some ⟨qa, 0, none⟩) 2 2)) (k := A0) (by omega)
          replace A := A.set (.slice (some ⟨qa, 0, none⟩) 2 2)
          clear p0 pf
          generalize v4.setCell ⟨A0, 0, none⟩ (.slice (some ⟨qa, 0, none⟩) 2 2) = v5 at *
          clear hK K hHeld
          have hHeld := hHeld2
          clear hHeld2
          try simp only [Act.put, List.setIfInBounds_toArray, List.set_cons_zero, List.set_cons_succ]
          refine wpAnyH_ready (rs := [7]) (by kernel_rfl) (by simp) ?_
          refine AllReadyH.cons (o := ⟨_, _, _, _, _, _⟩) rfl (fun K hK => ?_) AllReadyH.nil
          have p0 := B.c0; have pf := B.fr
          go_simp
          refine hK.out _ _ ?_ (fun hHeld2 => ?_)
          · obtain ⟨h1, h2, h3, h4, h5, h6, h7⟩ := hHeld; exact ⟨far_c h1 (by have := lim.out; omega), far_c h2 (by have := lim.out; omega), far_c h3 (by have := lim.out; omega), far_c h4 (by have := lim.out; omega), far_c h5 (by have := lim.out; omega), far_c h6 (by have := lim.out; omega), Lib.hid (h7.out.setCell lB _)⟩
          replace T1 := T1.store (v := (.slice (some ⟨qb, 0, none⟩) 2 2)) B
          replace T2 := T2.store (v := (.slice (some ⟨qb, 0, none⟩) 2 2)) B
          replace A := A.other (u := (.slice (some ⟨qb, 0, none⟩) 2 2)) (k := B0) (by omega)
          replace B := B.set (.slice (some ⟨qb, 0, none⟩) 2 2)
          clear p0 pf
          generalize v5.setCell ⟨B0, 0, none⟩ (.slice (some ⟨qb, 0, none⟩) 2 2) = v6 at *
          clear hK K hHeld
          have hHeld := hHeld2
          clear hHeld2
          try simp only [Act.put, List.setIfInBounds_toArray, List.set_cons_zero, List.set_cons_succ]
          refine wpAnyH_done (by kernel_rfl) ?_ _
          go_wp2_with fail
          go_meet
          case rel => exact ⟨A0, B0, qa, ra, sa, qb, rb, sb, rfl, rfl, A, B, T1, T2, hHeld.2.2.2.2.2.2⟩
        · skip
          have LA : Below v2.heap.size v2 (v2.alloc (.cells #[.slice none 0 0] 48)) := (Below.refl _ _).alloc (Nat.le_refl _) _
          go_simp
          refine hK.out _ _ ?_ (fun hHeld2 => ?_)
          · obtain ⟨h1, h2, h3, h4, h5, h6, h7⟩ := hHeld; exact ⟨keepc h1 LA, keepc h2 LA, keepc h3 LA, keepc h4 LA, keepc h5 LA, keepc h6 LA, h7.out.trans (LA.mono h7.out.size)⟩
          replace T1 := T1.keep LA
          replace B := B.keep LA
          have A := Bx.new v2 48 (.slice none 0 0)
          have lA : w7.heap.size ≤ v2.heap.size := by obtain ⟨-, -, -, -, -, -, hh⟩ := hHeld; exact hh.out.size
          have hne : B0 ≠ v2.heap.size := fun e => Nat.lt_irrefl _ (e ▸ zB)
          have zA' : v2.heap.size < (v2.alloc (.cells #[.slice none 0 0] 48)).heap.size := by rw [World.size_alloc]; omega
          replace zB := Nat.lt_trans zB zA'
          have zA := zA'
          clear zA' LA
          generalize v2.alloc (.cells #[.slice none 0 0] 48) = v3 at *
          generalize v2.heap.size = A0 at *
          clear hK K hHeld
          have hHeld := hHeld2
          clear hHeld2
          try simp only [Act.put, List.setIfInBounds_toArray, List.set_cons_zero, List.set_cons_succ]
          refine wpAnyH_ready (rs := [3]) (by kernel_rfl) (by simp) ?_
          refine AllReadyH.cons (o := ⟨_, _, _, _, _, _⟩) rfl (fun K hK => ?_) AllReadyH.nil
          go_simp
          go_at_call 34; refine (table_cyc e2 a2 v3 (M.out _ (R6.out.trans (hHeld.2.2.2.2.2.2.out.mono R6.out.size))).2.2.1 (M.out _ (R6.out.trans (hHeld.2.2.2.2.2.2.out.mono R6.out.size))).2.2.2).mono ?_; rintro e v4 ⟨qb, rb, sb, rfl, ht, hr, hs, -, -, -, K1⟩; (try go_wp2_with fail)
          have T2 : TabX _ qb rb sb := ⟨ht, hr, hs⟩
          clear ht hr hs
          try replace zA := Nat.lt_of_lt_of_le zA K1.size
          try replace zB := Nat.lt_of_lt_of_le zB K1.size
          refine hK.out _ _ ?_ (fun hHeld2 => ?_)
          · obtain ⟨h1, h2, h3, h4, h5, h6, h7⟩ := hHeld; exact ⟨keepc h1 K1, keepc h2 K1, keepc h3 K1, keepc h4 K1, keepc h5 K1, keepc h6 K1, h7.out.trans (K1.mono h7.out.size)⟩
          replace T1 := T1.keep K1
          replace A := A.keep K1
          replace B := B.keep K1
          clear K1
          clear hK K hHeld
          have hHeld := hHeld2
          clear hHeld2
          try simp only [Act.put, List.setIfInBounds_toArray, List.set_cons_zero, List.set_cons_succ]
          refine wpAnyH_ready (rs := [6]) (by kernel_rfl) (by simp) ?_
          refine AllReadyH.cons (o := ⟨_, _, _, _, _, _⟩) rfl (fun K hK => ?_) AllReadyH.nil
          have p0 := A.c0; have pf := A.fr
          go_simp
          refine hK.out _ _ ?_ (fun hHeld2 => ?_)
          · obtain ⟨h1, h2, h3, h4, h5, h6, h7⟩ := hHeld; exact ⟨far_c h1 (by have := lim.out; omega), far_c h2 (by have := lim.out; omega), far_c h3 (by have := lim.out; omega), far_c h4 (by have := lim.out; omega), far_c h5 (by have := lim.out; omega), far_c h6 (by have := lim.out; omega), Lib.hid (h7.out.setCell lA _)⟩
          replace T1 := T1.store (v := (.slice (some ⟨qa, 0, none⟩) 2 2)) A
          replace T2 := T2.store (v := (.slice (some ⟨qa, 0, none⟩) 2 2)) A
          replace B := B.other (u := (.slice (some ⟨qa, 0, none⟩) 2 2)) (k := A0) (by omega)
          replace A := A.set (.slice (some ⟨qa, 0, none⟩) 2 2)
          clear p0 pf
          generalize v4.setCell ⟨A0, 0, none⟩ (.slice (some ⟨qa, 0, none⟩) 2 2) = v5 at *
          clear hK K hHeld
          have hHeld := hHeld2
          clear hHeld2
          try simp only [Act.put, List.setIfInBounds_toArray, List.set_cons_zero, List.set_cons_succ]
          refine wpAnyH_ready (rs := [7]) (by kernel_rfl) (by simp) ?_
          refine AllReadyH.cons (o := ⟨_, _, _, _, _, _⟩) rfl (fun K hK => ?_) AllReadyH.nil
          have p0 := B.c0; have pf := B.fr
          go_simp
          refine hK.out _ _ ?_ (fun hHeld2 => ?_)
          · obtain ⟨h1, h2, h3, h4, h5, h6, h7⟩ := hHeld; exact ⟨far_c h1 (by have := lim.out; omega), far_c h2 (by have := lim.out; omega), far_c h3 (by have := lim.out; omega), far_c h4 (by have := lim.out; omega), far_c h5 (by have := lim.out; omega), far_c h6 (by have := lim.out; omega), Lib.hid (h7.out.setCell lB _)⟩
          replace T1 := T1.store (v := (.slice (some ⟨qb, 0, none⟩) 2 2)) B
          replace T2 := T2.store (v := (.slice (some ⟨qb, 0, none⟩) 2 2)) B
          replace A := A.other (u := (.slice (some ⟨qb, 0, none⟩) 2 2)) (k := B0) (by omega)
          replace B := B.set (.slice (some ⟨qb, 0, none⟩) 2 2)
          clear p0 pf
          generalize v5.setCell ⟨B0, 0, none⟩ (.slice (some ⟨qb, 0, none⟩) 2 2) = v6 at *
          clear hK K hHeld
          have hHeld := hHeld2
          clear hHeld2
          try simp only [Act.put, List.setIfInBounds_toArray, List.set_cons_zero, List.set_cons_succ]
          refine wpAnyH_done (by kernel_rfl) ?_ _
          go_wp2_with fail
          go_meet
          case rel => exact ⟨A0, B0, qa, ra, sa, qb, rb, sb, rfl, rfl, A, B, T1, T2, hHeld.2.2.2.2.2.2⟩
      · skip
        have LA : Below v1.heap.size v1 (v1.alloc (.cells #[.slice none 0 0] 48)) := (Below.refl _ _).alloc (Nat.le_refl _) _
        go_simp
        refine hK.out _ _ ?_ (fun hHeld2 => ?_)
        · obtain ⟨h1, h2, h3, h4, h5, h6, h7⟩ := hHeld; exact ⟨keepc h1 LA, keepc h2 LA, keepc h3 LA, keepc h4 LA, keepc h5 LA, keepc h6 LA, h7.out.trans (LA.mono h7.out.size)⟩
        replace B := B.keep LA
        have A := Bx.new v1 48 (.slice none 0 0)
        have lA : w7.heap.size ≤ v1.heap.size := by obtain ⟨-, -, -, -, -, -, hh⟩ := hHeld; exact hh.out.size
        have hne : B0 ≠ v1.heap.size := fun e => Nat.lt_irrefl _ (e ▸ zB)
        have zA' : v1.heap.size < (v1.alloc (.cells #[.slice none 0 0] 48)).heap.size := by rw [World.size_alloc]; omega
        replace zB := Nat.lt_trans zB zA'
        have zA := zA'
        clear zA' LA
        generalize v1.alloc (.cells #[.slice none 0 0] 48) = v2 at *
        generalize v1.heap.size = A0 at *
        clear hK K hHeld
        have hHeld := hHeld2
        clear hHeld2
        try simp only [Act.put, List.setIfInBounds_toArray, List.set_cons_zero, List.set_cons_succ]
        refine wpAnyH_ready (rs := [1]) (by kernel_rfl) (by simp) ?_
        refine AllReadyH.cons (o := ⟨_, _, _, _, _, _⟩) rfl (fun K hK => ?_) AllReadyH.nil
        go_simp
        go_at_call 34; refine (table_cyc e1 a1 v2 (M.out _ (R6.out.trans (hHeld.2.2.2.2.2.2.out.mono R6.out.size))).1 (M.out _ (R6.out.trans (hHeld.2.2.2.2.2.2.out.mono R6.out.size))).2.1).mono ?_; rintro e v3 ⟨qa, ra, sa, rfl, ht, hr, hs, -, -, -, K1⟩; (try go_wp2_with fail)
        have T1 : TabX _ qa ra sa := ⟨ht, hr, hs⟩
        clear ht hr hs
        try replace zA := Nat.lt_of_lt_of_le zA K1.size
        try replace zB := Nat.lt_of_lt_of_le zB K1.size
        refine hK.out _ _ ?_ (fun hHeld2 => ?_)
        · obtain ⟨h1, h2, h3, h4, h5, h6, h7⟩ := hHeld; exact ⟨keepc h1 K1, keepc h2 K1, keepc h3 K1, keepc h4 K1, keepc h5 K1, keepc h6 K1, h7.out.trans (K1.mono h7.out.size)⟩
        replace A := A.keep K1
        replace B := B.keep K1
        clear K1
        clear hK K hHeld
        have hHeld := hHeld2
        clear hHeld2
        try simp only [Act.put, List.setIfInBounds_toArray, List.set_cons_zero, List.set_cons_succ]
        refine wpAnyH_ready (rs := [3]) (by kernel_rfl) (by simp) ?_
        refine AllReadyH.cons (o := ⟨_, _, _, _, _, _⟩) rfl (fun K hK => ?_) AllReadyH.nil
        go_simp
        go_at_call 34; refine (table_cyc e2 a2 v3 (M.out _ (R6.out.trans (hHeld.2.2.2.2.2.2.out.mono R6.out.size))).2.2.1 (M.out _ (R6.out.trans (hHeld.2.2.2.2.2.2.out.mono R6.out.size))).2.2.2).mono ?_; rintro e v4 ⟨qb, rb, sb, rfl, ht, hr, hs, -, -, -, K1⟩; (try go_wp2_with fail)
        have T2 : TabX _ qb rb sb := ⟨ht, hr, hs⟩
        clear ht hr hs
        try replace zA := Nat.lt_of_lt_of_le zA K1.size
        try replace zB := Nat.lt_of_lt_of_le zB K1.size
        refine hK.out _ _ ?_ (fun hHeld2 => ?_)
        · obtain ⟨h1, h2, h3, h4, h5, h6, h7⟩ := hHeld; exact ⟨keepc h1 K1, keepc h2 K1, keepc h3 K1, keepc h4 K1, keepc h5 K1, keepc h6 K1, h7.out.trans (K1.mono h7.out.size)⟩
        replace T1 := T1.keep K1
        replace A := A.keep K1
        replace B := B.keep K1
        clear K1
        clear hK K hHeld
        have hHeld := hHeld2
        clear hHeld2
        try simp only [Act.put, List.setIfInBounds_toArray, List.set_cons_zero, List.set_cons_succ]
        refine wpAnyH_ready (rs := [6]) (by kernel_rfl) (by simp) ?_
        refine AllReadyH.cons (o := ⟨_, _, _, _, _, _⟩) rfl (fun K hK => ?_) AllReadyH.nil
        have p0 := A.c0; have pf := A.fr
        go_simp
        refine hK.out _ _ ?_ (fun hHeld2 => ?_)
        · obtain ⟨h1, h2, h3, h4, h5, h6, h7⟩ := hHeld; exact ⟨far_c h1 (by have := lim.out; omega), far_c h2 (by have := lim.out; omega), far_c h3 (by have := lim.out; omega), far_c h4 (by have := lim.out; omega), far_c h5 (by have := lim.out; omega), far_c h6 (by have := lim.out; omega), Lib.hid (h7.out.setCell lA _)⟩
        replace T1 := T1.store (v := (.slice (some ⟨qa, 0, none⟩) 2 2)) A
        replace T2 := T2.store (v := (.slice (some ⟨qa, 0, none⟩) 2 2)) A
        replace B := B.other (u := (.slice (some ⟨qa, 0, none⟩) 2 2)) (k := A0) (by omega)
        replace A := A.set (.slice (some ⟨qa, 0, none⟩) 2 2)
        clear p0 pf
        generalize v4.setCell ⟨A0, 0, none⟩ (.slice (some ⟨qa, 0, none⟩) 2 2) = v5 at *
        clear hK K hHeld
        have hHeld := hHeld2
        clear hHeld2
        try simp only [Act.put, List.setIfInBounds_toArray, List.set_cons_zero, List.set_cons_succ]
        refine wpAnyH_ready (rs := [7]) (by kernel_rfl) (by simp) ?_
        refine AllReadyH.cons (o := ⟨_, _, _, _, _, _⟩) rfl (fun K hK => ?_) AllReadyH.nil
        have p0 := B.c0; have pf := B.fr
        go_simp
        refine hK.out _ _ ?_ (fun hHeld2 => ?_)
        · obtain ⟨h1, h2, h3, h4, h5, h6, h7⟩ := hHeld; exact ⟨far_c h1 (by have := lim.out; omega), far_c h2 (by have := lim.out; omega), far_c h3 (by have := lim.out; omega), far_c h4 (by have := lim.out; omega), far_c h5 (by have := lim.out; omega), far_c h6 (by have := lim.out; omega), Lib.hid (h7.out.setCell lB _)⟩
        replace T1 := T1.store (v := (.slice (some ⟨qb, 0, none⟩) 2 2)) B
        replace T2 := T2.store (v := (.slice (some ⟨qb, 0, none⟩) 2 2)) B
        replace A := A.other (u := (.slice (some ⟨qb, 0, none⟩) 2 2)) (k := B0) (by omega)
        replace B := B.set (.slice (some ⟨qb, 0, none⟩) 2 2)
        clear p0 pf
        generalize v5.setCell ⟨B0, 0, none⟩ (.slice (some ⟨qb, 0, none⟩) 2 2) = v6 at *
        clear hK K hHeld
        have hHeld := hHeld2
        clear hHeld2
        try simp only [Act.put, List.setIfInBounds_toArray, List.set_cons_zero, List.set_cons_succ]
        refine wpAnyH_done (by kernel_rfl) ?_ _
        go_wp2_with fail
        go_meet
        case rel => exact ⟨A0, B0, qa, ra, sa, qb, rb, sb, rfl, rfl, A, B, T1, T2, hHeld.2.2.2.2.2.2⟩
  case rest =>
    obtain ⟨Bn, Bm, T, r, s, U, p, q, rfl, rfl, XN, XM, TN, TM, K8⟩ := hcut
    generalize wc = w8 at *
    have XE8 := Lib.hid (XE.out.keep K8.out)
    have HE8 := Lib.hid (HE7.out.keep K8.out)
    have R7 : Hid (Below w1.heap.size w1 w8) := R6.out.trans (K8.out.mono R6.out.size)
    have lim8 : Hid (w.heap.size + 1 < w8.heap.size) := Nat.lt_of_lt_of_le lim.out K8.out.size
    clear XE HE7 q0 q1 q2 p0 p1 p2 K8 lim M
    have q0 := (Q.out _ R7.out).1.1
    have lim := lim8
    clear lim8
    go_upto_region 7 with fail
    go_cut [10, 11] (fun s10 s11 wx => ∃ A B ia ib, s10 = .pointer (some ⟨A, 0, none⟩) ∧ s11 = .pointer (some ⟨B, 0, none⟩) ∧ Hid (Bx wx 34 A (.slice (some ⟨ia, 0, none⟩) 2 2)) ∧ Hid (Bx wx 34 B (.slice (some ⟨ib, 0, none⟩) 2 2)) ∧ Hid (In2 wx ia (-1) (-1)) ∧ Hid (In2 wx ib (-1) (-1)) ∧ Hid (ia ≠ ib ∧ w8.heap.size ≤ ia ∧ w8.heap.size ≤ ib) ∧ Hid (Below w8.heap.size w8 wx))
    case first =>
      refine wp_region_held_drew (S := fun w' => w'.cell? ⟨w.heap.size, 0, none⟩ = some (.int .i64 2) ∧ Hid (Below w8.heap.size w8 w')) (by kernel_rfl) ?_ (fun hHeld => ?_)
      · exact ⟨q0, (Below.refl _ w8).drew⟩
      refine wpAnyH_take (oi := ⟨_, _, _, _, _, _⟩) (i := 0) (v := ?_) rfl (by kernel_rfl) (by kernel_rfl) (by kernel_rfl) (fun _ _ _ h => h) (Or.inl ⟨by rfl, ?yb0⟩) (by assumption) ?rb0
      case yb0 => (intro w hSw; (try dsimp only at hSw); go_simp; (try with_reducible rfl))
      try simp only [Act.put, List.setIfInBounds_toArray, List.set_cons_zero, List.set_cons_succ]
      refine wpAnyH_take (oi := ⟨_, _, _, _, _, _⟩) (i := 1) (v := ?_) rfl (by kernel_rfl) (by kernel_rfl) (by kernel_rfl) (fun _ _ _ h => h) (Or.inl ⟨by rfl, ?yb1⟩) (by assumption) ?rb1
      case yb1 => (intro w hSw; (try dsimp only at hSw); go_simp; (try with_reducible rfl))
      try simp only [Act.put, List.setIfInBounds_toArray, List.set_cons_zero, List.set_cons_succ]
      refine wpAnyH_take (oi := ⟨_, _, _, _, _, _⟩) (i := 3) (v := ?_) rfl (by kernel_rfl) (by kernel_rfl) (by kernel_rfl) (fun _ _ _ h => h) (Or.inl ⟨by rfl, ?yb3⟩) (by assumption) ?rb3
      case yb3 => (intro w hSw; (try dsimp only at hSw); go_simp; (try with_reducible rfl))
      try simp only [Act.put, List.setIfInBounds_toArray, List.set_cons_zero, List.set_cons_succ]
      refine wpAnyH_take (oi := ⟨_, _, _, _, _, _⟩) (i := 4) (v := ?_) rfl (by kernel_rfl) (by kernel_rfl) (by kernel_rfl) (fun _ _ _ h => h) (Or.inl ⟨by rfl, ?yb4⟩) (by assumption) ?rb4
      case yb4 => (intro w hSw; (try dsimp only at hSw); go_simp; (try with_reducible rfl))
      try simp only [Act.put, List.setIfInBounds_toArray, List.set_cons_zero, List.set_cons_succ]
      generalize w8.drew = v0 at *
      refine wpAnyH_ready (rs := [2, 6, 7]) (by kernel_rfl) (by simp) ?_
      refine AllReadyH.cons (o := ⟨_, _, _, _, _, _⟩) rfl (fun K hK => ?_) (AllReadyH.cons (o := ⟨_, _, _, _, _, _⟩) rfl (fun K hK => ?_) (AllReadyH.cons (o := ⟨_, _, _, _, _, _⟩) rfl (fun K hK => ?_) AllReadyH.nil))
      · skip
        go_simp
        go_at_call 35; refine (nowhere_two v0).mono ?_; rintro e v1 ⟨ia, rfl, ht, hl, K1⟩; (try go_wp2_with fail)
        have T1 : In2 _ ia (-1) (-1) := ht
        have L1 : w8.heap.size ≤ ia := Nat.le_trans hHeld.2.out.size hl
        clear ht hl
        try replace zA := Nat.lt_of_lt_of_le zA K1.size
        try replace zB := Nat.lt_of_lt_of_le zB K1.size
        refine hK.out _ _ ?_ (fun hHeld2 => ?_)
        · obtain ⟨h1, h2⟩ := hHeld; exact ⟨keepc h1 K1, h2.out.trans (K1.mono h2.out.size)⟩
        clear K1
        clear hK K hHeld
        have hHeld := hHeld2
        clear hHeld2
        try simp only [Act.put, List.setIfInBounds_toArray, List.set_cons_zero, List.set_cons_succ]
        refine wpAnyH_ready (rs := [5, 6, 7]) (by kernel_rfl) (by simp) ?_
        refine AllReadyH.cons (o := ⟨_, _, _, _, _, _⟩) rfl (fun K hK => ?_) (AllReadyH.cons (o := ⟨_, _, _, _, _, _⟩) rfl (fun K hK => ?_) (AllReadyH.cons (o := ⟨_, _, _, _, _, _⟩) rfl (fun K hK => ?_) AllReadyH.nil))
        · skip
          go_simp
          go_at_call 35; refine (nowhere_two v1).mono ?_; rintro e v2 ⟨ib, rfl, ht, hl, K1⟩; (try go_wp2_with fail)
          have T2 : In2 _ ib (-1) (-1) := ht
          have hio : ia ≠ ib := Nat.ne_of_lt (Nat.lt_of_lt_of_le T1.lt hl)
          have L2 : w8.heap.size ≤ ib := Nat.le_trans hHeld.2.out.size hl
          clear ht hl
          try replace zA := Nat.lt_of_lt_of_le zA K1.size
          try replace zB := Nat.lt_of_lt_of_le zB K1.size
          refine hK.out _ _ ?_ (fun hHeld2 => ?_)
          · obtain ⟨h1, h2⟩ := hHeld; exact ⟨keepc h1 K1, h2.out.trans (K1.mono h2.out.size)⟩
          replace T1 := T1.keep K1
          clear K1
          clear hK K hHeld
          have hHeld := hHeld2
          clear hHeld2
          try simp only [Act.put, List.setIfInBounds_toArray, List.set_cons_zero, List.set_cons_succ]
          refine wpAnyH_ready (rs := [6, 7]) (by kernel_rfl) (by simp) ?_
          refine AllReadyH.cons (o := ⟨_, _, _, _, _, _⟩) rfl (fun K hK => ?_) (AllReadyH.cons (o := ⟨_, _, _, _, _, _⟩) rfl (fun K hK => ?_) AllReadyH.nil)
          · skip
            have LA : Below v2.heap.size v2 (v2.alloc (.cells #[.slice none 0 0] 34)) := (Below.refl _ _).alloc (Nat.le_refl _) _
            go_simp
            refine hK.out _ _ ?_ (fun hHeld2 => ?_)
            · obtain ⟨h1, h2⟩ := hHeld; exact ⟨keepc h1 LA, h2.out.trans (LA.mono h2.out.size)⟩
            replace T1 := T1.keep LA
            replace T2 := T2.keep LA
            have A := Bx.new v2 34 (.slice none 0 0)
            have lA : w8.heap.size ≤ v2.heap.size := by obtain ⟨-, hh⟩ := hHeld; exact hh.out.size
            have zA' : v2.heap.size < (v2.alloc (.cells #[.slice none 0 0] 34)).heap.size := by rw [World.size_alloc]; omega
            have zA := zA'
            clear zA' LA
            generalize v2.alloc (.cells #[.slice none 0 0] 34) = v3 at *
            generalize v2.heap.size = A0 at *
            clear hK K hHeld
            have hHeld := hHeld2
            clear hHeld2
            try simp only [Act.put, List.setIfInBounds_toArray, List.set_cons_zero, List.set_cons_succ]
            refine wpAnyH_ready (rs := [7]) (by kernel_rfl) (by simp) ?_
            refine AllReadyH.cons (o := ⟨_, _, _, _, _, _⟩) rfl (fun K hK => ?_) AllReadyH.nil
            have LA : Below v3.heap.size v3 (v3.alloc (.cells #[.slice none 0 0] 34)) := (Below.refl _ _).alloc (Nat.le_refl _) _
            go_simp
            refine hK.out _ _ ?_ (fun hHeld2 => ?_)
            · obtain ⟨h1, h2⟩ := hHeld; exact ⟨keepc h1 LA, h2.out.trans (LA.mono h2.out.size)⟩
            replace T1 := T1.keep LA
            replace T2 := T2.keep LA
            replace A := A.keep LA
            have B := Bx.new v3 34 (.slice none 0 0)
            have lB : w8.heap.size ≤ v3.heap.size := by obtain ⟨-, hh⟩ := hHeld; exact hh.out.size
            have hne : A0 ≠ v3.heap.size := fun e => Nat.lt_irrefl _ (e ▸ zA)
            have zB' : v3.heap.size < (v3.alloc (.cells #[.slice none 0 0] 34)).heap.size := by rw [World.size_alloc]; omega
            replace zA := Nat.lt_trans zA zB'
            have zB := zB'
            clear zB' LA
            generalize v3.alloc (.cells #[.slice none 0 0] 34) = v4 at *
            generalize v3.heap.size = B0 at *
            clear hK K hHeld
            have hHeld := hHeld2
            clear hHeld2
            try simp only [Act.put, List.setIfInBounds_toArray, List.set_cons_zero, List.set_cons_succ]
            refine wpAnyH_ready (rs := [8]) (by kernel_rfl) (by simp) ?_
            refine AllReadyH.cons (o := ⟨_, _, _, _, _, _⟩) rfl (fun K hK => ?_) AllReadyH.nil
            have p0 := A.c0; have pf := A.fr
            go_simp
            refine hK.out _ _ ?_ (fun hHeld2 => ?_)
            · obtain ⟨h1, h2⟩ := hHeld; exact ⟨far_c h1 (by have := lim.out; omega), Lib.hid (h2.out.setCell lA _)⟩
            replace T1 := T1.store (v := (.slice (some ⟨ia, 0, none⟩) 2 2)) A
            replace T2 := T2.store (v := (.slice (some ⟨ia, 0, none⟩) 2 2)) A
            replace B := B.other (u := (.slice (some ⟨ia, 0, none⟩) 2 2)) (k := A0) (by omega)
            replace A := A.set (.slice (some ⟨ia, 0, none⟩) 2 2)
            clear p0 pf
            generalize v4.setCell ⟨A0, 0, none⟩ (.slice (some ⟨ia, 0, none⟩) 2 2) = v5 at *
            clear hK K hHeld
            have hHeld := hHeld2
            clear hHeld2
            try simp only [Act.put, List.setIfInBounds_toArray, List.set_cons_zero, List.set_cons_succ]
            refine wpAnyH_ready (rs := [9]) (by kernel_rfl) (by simp) ?_
            refine AllReadyH.cons (o := ⟨_, _, _, _, _, _⟩) rfl (fun K hK => ?_) AllReadyH.nil
            have p0 := B.c0; have pf := B.fr
            go_simp
            refine hK.out _ _ ?_ (fun hHeld2 => ?_)
            · obtain ⟨h1, h2⟩ := hHeld; exact ⟨far_c h1 (by have := lim.out; omega), Lib.hid (h2.out.setCell lB _)⟩
            replace T1 := T1.store (v := (.slice (some ⟨ib, 0, none⟩) 2 2)) B
            replace T2 := T2.store (v := (.slice (some ⟨ib, 0, none⟩) 2 2)) B
            replace A := A.other (u := (.slice (some ⟨ib, 0, none⟩) 2 2)) (k := B0) (by omega)
            replace B := B.set (.slice (some ⟨ib, 0, none⟩) 2 2)
            clear p0 pf
            generalize v5.setCell ⟨B0, 0, none⟩ (.slice (some ⟨ib, 0, none⟩) 2 2) = v6 at *
            clear hK K hHeld
            have hHeld := hHeld2
            clear hHeld2
            try simp only [Act.put, List.setIfInBounds_toArray, List.set_cons_zero, List.set_cons_succ]
            refine wpAnyH_done (by kernel_rfl) ?_ _
            go_wp2_with fail
            go_meet
            case rel => exact ⟨A0, B0, ia, ib, rfl, rfl, A, B, T1, T2, ⟨hio, L1, L2⟩, hHeld.2⟩
          · skip
            have LA : Below v2.heap.size v2 (v2.alloc (.cells #[.slice none 0 0] 34)) := (Below.refl _ _).alloc (Nat.le_refl _) _
            go_simp
            refine hK.out _ _ ?_ (fun hHeld2 => ?_)
            · obtain ⟨h1, h2⟩ := hHeld; exact ⟨keepc h1 LA, h2.out.trans (LA.mono h2.out.size)⟩
            replace T1 := T1.keep LA
            replace T2 := T2.keep LA
            have B := Bx.new v2 34 (.slice none 0 0)
            have lB : w8.heap.size ≤ v2.heap.size := by obtain ⟨-, hh⟩ := hHeld; exact hh.out.size
            have zB' : v2.heap.size < (v2.alloc (.cells #[.slice none 0 0] 34)).heap.size := by rw [World.size_alloc]; omega
            have zB := zB'
            clear zB' LA
            generalize v2.alloc (.cells #[.slice none 0 0] 34) = v3 at *
            generalize v2.heap.size = B0 at *
            clear hK K hHeld
            have hHeld := hHeld2
            clear hHeld2
            try simp only [Act.put, List.setIfInBounds_toArray, List.set_cons_zero, List.set_cons_succ]
            refine wpAnyH_ready (rs := [6]) (by kernel_rfl) (by simp) ?_
            refine AllReadyH.cons (o := ⟨_, _, _, _, _, _⟩) rfl (fun K hK => ?_) AllReadyH.nil
            have LA : Below v3.heap.size v3 (v3.alloc (.cells #[.slice none 0 0] 34)) := (Below.refl _ _).alloc (Nat.le_refl _) _
            go_simp
            refine hK.out _ _ ?_ (fun hHeld2 => ?_)
            · obtain ⟨h1, h2⟩ := hHeld; exact ⟨keepc h1 LA, h2.out.trans (LA.mono h2.out.size)⟩
            replace T1 := T1.keep LA
            replace T2 := T2.keep LA
            replace B := B.keep LA
            have A := Bx.new v3 34 (.slice none 0 0)
            have lA : w8.heap.size ≤ v3.heap.size := by obtain ⟨-, hh⟩ := hHeld; exact hh.out.size
            have hne : B0 ≠ v3.heap.size := fun e => Nat.lt_irrefl _ (e ▸ zB)
            have zA' : v3.heap.size < (v3.alloc (.cells #[.slice none 0 0] 34)).heap.size := by rw [World.size_alloc]; omega
            replace zB := Nat.lt_trans zB zA'
            have zA := zA'
            clear zA' LA
            generalize v3.alloc (.cells #[.slice none 0 0] 34) = v4 at *
            generalize v3.heap.size = A0 at *
            clear hK K hHeld
            have hHeld := hHeld2
            clear hHeld2
            try simp only [Act.put, List.setIfInBounds_toArray, List.set_cons_zero, List.set_cons_succ]
            refine wpAnyH_ready (rs := [8]) (by kernel_rfl) (by simp) ?_
            refine AllReadyH.cons (o := ⟨_, _, _, _, _, _⟩) rfl (fun K hK => ?_) AllReadyH.nil
            have p0 := A.c0; have pf := A.fr
            go_simp
            refine hK.out _ _ ?_ (fun hHeld2 => ?_)
            · obtain ⟨h1, h2⟩ := hHeld; exact ⟨far_c h1 (by have := lim.out; omega), Lib.hid (h2.out.setCell lA _)⟩
            replace T1 := T1.store (v := (.slice (some ⟨ia, 0, none⟩) 2 2)) A
            replace T2 := T2.store (v := (.slice (some ⟨ia, 0, none⟩) 2 2)) A
            replace B := B.other (u := (.slice (some ⟨ia, 0, none⟩) 2 2)) (k := A0) (by omega)
            replace A := A.set (.slice (some ⟨ia, 0, none⟩) 2 2)
            clear p0 pf
            generalize v4.setCell ⟨A0, 0, none⟩ (.slice (some ⟨ia, 0, none⟩) 2 2) = v5 at *
            clear hK K hHeld
            have hHeld := hHeld2
            clear hHeld2
            try simp only [Act.put, List.setIfInBounds_toArray, List.set_cons_zero, List.set_cons_succ]
            refine wpAnyH_ready (rs := [9]) (by kernel_rfl) (by simp) ?_
            refine AllReadyH.cons (o := ⟨_, _, _, _, _, _⟩) rfl (fun K hK => ?_) AllReadyH.nil
            have p0 := B.c0; have pf := B.fr
            go_simp
            refine hK.out _ _ ?_ (fun hHeld2 => ?_)
            · obtain ⟨h1, h2⟩ := hHeld; exact ⟨far_c h1 (by have := lim.out; omega), Lib.hid (h2.out.setCell lB _)⟩
            replace T1 := T1.store (v := (.slice (some ⟨ib, 0, none⟩) 2 2)) B
            replace T2 := T2.store (v := (.slice (some ⟨ib, 0, none⟩) 2 2)) B
            replace A := A.other (u := (.slice (some ⟨ib, 0, none⟩) 2 2)) (k := B0) (by omega)
            replace B := B.set (.slice (some ⟨ib, 0, none⟩) 2 2)
            clear p0 pf
            generalize v5.setCell ⟨B0, 0, none⟩ (.slice (some ⟨ib, 0, none⟩) 2 2) = v6 at *
            clear hK K hHeld
            have hHeld := hHeld2
            clear hHeld2
            try simp only [Act.put, List.setIfInBounds_toArray, List.set_cons_zero, List.set_cons_succ]
            refine wpAnyH_done (by kernel_rfl) ?_ _
            go_wp2_with fail
            go_meet
            case rel => exact ⟨A0, B0, ia, ib, rfl, rfl, A, B, T1, T2, ⟨hio, L1, L2⟩, hHeld.2⟩
        · skip
          have LA : Below v1.heap.size v1 (v1.alloc (.cells #[.slice none 0 0] 34)) := (Below.refl _ _).alloc (Nat.le_refl _) _
          go_simp
          refine hK.out _ _ ?_ (fun hHeld2 => ?_)
          · obtain ⟨h1, h2⟩ := hHeld; exact ⟨keepc h1 LA, h2.out.trans (LA.mono h2.out.size)⟩
          replace T1 := T1.keep LA
          have A := Bx.new v1 34 (.slice none 0 0)
          have lA : w8.heap.size ≤ v1.heap.size := by obtain ⟨-, hh⟩ := hHeld; exact hh.out.size
          have zA' : v1.heap.size < (v1.alloc (.cells #[.slice none 0 0] 34)).heap.size := by rw [World.size_alloc]; omega
          have zA := zA'
          clear zA' LA
          generalize v1.alloc (.cells #[.slice none 0 0] 34) = v2 at *
          generalize v1.heap.size = A0 at *
          clear hK K hHeld
          have hHeld := hHeld2
          clear hHeld2
          try simp only [Act.put, List.setIfInBounds_toArray, List.set_cons_zero, List.set_cons_succ]
          refine wpAnyH_ready (rs := [5, 7]) (by kernel_rfl) (by simp) ?_
          refine AllReadyH.cons (o := ⟨_, _, _, _, _, _⟩) rfl (fun K hK => ?_) (AllReadyH.cons (o := ⟨_, _, _, _, _, _⟩) rfl (fun K hK => ?_) AllReadyH.nil)
          · skip
            go_simp
            go_at_call 35; refine (nowhere_two v2).mono ?_; rintro e v3 ⟨ib, rfl, ht, hl, K1⟩; (try go_wp2_with fail)
            have T2 : In2 _ ib (-1) (-1) := ht
            have hio : ia ≠ ib := Nat.ne_of_lt (Nat.lt_of_lt_of_le T1.lt hl)
            have L2 : w8.heap.size ≤ ib := Nat.le_trans hHeld.2.out.size hl
            clear ht hl
            try replace zA := Nat.lt_of_lt_of_le zA K1.size
            try replace zB := Nat.lt_of_lt_of_le zB K1.size
            refine hK.out _ _ ?_ (fun hHeld2 => ?_)
            · obtain ⟨h1, h2⟩ := hHeld; exact ⟨keepc h1 K1, h2.out.trans (K1.mono h2.out.size)⟩
            replace T1 := T1.keep K1
            replace A := A.keep K1
            clear K1
            clear hK K hHeld
            have hHeld := hHeld2
            clear hHeld2
            try simp only [Act.put, List.setIfInBounds_toArray, List.set_cons_zero, List.set_cons_succ]
            refine wpAnyH_ready (rs := [7]) (by kernel_rfl) (by simp) ?_
            refine AllReadyH.cons (o := ⟨_, _, _, _, _, _⟩) rfl (fun K hK => ?_) AllReadyH.nil
            have LA : Below v3.heap.size v3 (v3.alloc (.cells #[.slice none 0 0] 34)) := (Below.refl _ _).alloc (Nat.le_refl _) _
            go_simp
            refine hK.out _ _ ?_ (fun hHeld2 => ?_)
            · obtain ⟨h1, h2⟩ := hHeld; exact ⟨keepc h1 LA, h2.out.trans (LA.mono h2.out.size)⟩
            replace T1 := T1.keep LA
            replace T2 := T2.keep LA
            replace A := A.keep LA
            have B := Bx.new v3 34 (.slice none 0 0)
            have lB : w8.heap.size ≤ v3.heap.size := by obtain ⟨-, hh⟩ := hHeld; exact hh.out.size
            have hne : A0 ≠ v3.heap.size := fun e => Nat.lt_irrefl _ (e ▸ zA)
            have zB' : v3.heap.size < (v3.alloc (.cells #[.slice none 0 0] 34)).heap.size := by rw [World.size_alloc]; omega
            replace zA := Nat.lt_trans zA zB'
            have zB := zB'
            clear zB' LA
            generalize v3.alloc (.cells #[.slice none 0 0] 34) = v4 at *
            generalize v3.heap.size = B0 at *
            clear hK K hHeld
            have hHeld := hHeld2
            clear hHeld2
            try simp only [Act.put, List.setIfInBounds_toArray, List.set_cons_zero, List.set_cons_succ]
            refine wpAnyH_ready (rs := [8]) (by kernel_rfl) (by simp) ?_
            refine AllReadyH.cons (o := ⟨_, _, _, _, _, _⟩) rfl (fun K hK => ?_) AllReadyH.nil
            have p0 := A.c0; have pf := A.fr
            go_simp
            refine hK.out _ _ ?_ (fun hHeld2 => ?_)
            · obtain ⟨h1, h2⟩ := hHeld; exact ⟨far_c h1 (by have := lim.out; omega), Lib.hid (h2.out.setCell lA _)⟩
            replace T1 := T1.store (v := (.slice (some ⟨ia, 0, none⟩) 2 2)) A
            replace T2 := T2.store (v := (.slice (some ⟨ia, 0, none⟩) 2 2)) A
            replace B := B.other (u := (.slice (some ⟨ia, 0, none⟩) 2 2)) (k := A0) (by omega)
            replace A := A.set (.slice (some ⟨ia, 0, none⟩) 2 2)
            clear p0 pf
            generalize v4.setCell ⟨A0, 0, none⟩ (.slice (some ⟨ia, 0, none⟩) 2 2) = v5 at *
            clear hK K hHeld
            have hHeld := hHeld2
            clear hHeld2
            try simp only [Act.put, List.setIfInBounds_toArray, List.set_cons_zero, List.set_cons_succ]
            refine wpAnyH_ready (rs := [9]) (by kernel_rfl) (by simp) ?_
            refine AllReadyH.cons (o := ⟨_, _, _, _, _, _⟩) rfl (fun K hK => ?_) AllReadyH.nil
            have p0 := B.c0; have pf := B.fr
            go_simp
            refine hK.out _ _ ?_ (fun hHeld2 => ?_)
            · obtain ⟨h1, h2⟩ := hHeld; exact ⟨far_c h1 (by have := lim.out; omega), Lib.hid (h2.out.setCell lB _)⟩
            replace T1 := T1.store (v := (.slice (some ⟨ib, 0, none⟩) 2 2)) B
            replace T2 := T2.store (v := (.slice (some ⟨ib, 0, none⟩) 2 2)) B
            replace A := A.other (u := (.slice (some ⟨ib, 0, none⟩) 2 2)) (k := B0) (by omega)
            replace B := B.set (.slice (some ⟨ib, 0, none⟩) 2 2)
            clear p0 pf
            generalize v5.setCell ⟨B0, 0, none⟩ (.slice (some ⟨ib, 0, none⟩) 2 2) = v6 at *
            clear hK K hHeld
            have hHeld := hHeld2
            clear hHeld2
            try simp only [Act.put, List.setIfInBounds_toArray, List.set_cons_zero, List.set_cons_succ]
            refine wpAnyH_done (by kernel_rfl) ?_ _
            go_wp2_with fail
            go_meet
            case rel => exact ⟨A0, B0, ia, ib, rfl, rfl, A, B, T1, T2, ⟨hio, L1, L2⟩, hHeld.2⟩
          · skip
            have LA : Below v2.heap.size v2 (v2.alloc (.cells #[.slice none 0 0] 34)) := (Below.refl _ _).alloc (Nat.le_refl _) _
            go_simp
            refine hK.out _ _ ?_ (fun hHeld2 => ?_)
            · obtain ⟨h1, h2⟩ := hHeld; exact ⟨keepc h1 LA, h2.out.trans (LA.mono h2.out.size)⟩
            replace T1 := T1.keep LA
            replace A := A.keep LA
            have B := Bx.new v2 34 (.slice none 0 0)
            have lB : w8.heap.size ≤ v2.heap.size := by obtain ⟨-, hh⟩ := hHeld; exact hh.out.size
            have hne : A0 ≠ v2.heap.size := fun e => Nat.lt_irrefl _ (e ▸ zA)
            have zB' : v2.heap.size < (v2.alloc (.cells #[.slice none 0 0] 34)).heap.size := by rw [World.size_alloc]; omega
            replace zA := Nat.lt_trans zA zB'
            have zB := zB'
            clear zB' LA
            generalize v2.alloc (.cells #[.slice none 0 0] 34) = v3 at *
            generalize v2.heap.size = B0 at *
            clear hK K hHeld
            have hHeld := hHeld2
            clear hHeld2
            try simp only [Act.put, List.setIfInBounds_toArray, List.set_cons_zero, List.set_cons_succ]
            refine wpAnyH_ready (rs := [5]) (by kernel_rfl) (by simp) ?_
            refine AllReadyH.cons (o := ⟨_, _, _, _, _, _⟩) rfl (fun K hK => ?_) AllReadyH.nil
            go_simp
            go_at_call 35; refine (nowhere_two v3).mono ?_; rintro e v4 ⟨ib, rfl, ht, hl, K1⟩; (try go_wp2_with fail)
            have T2 : In2 _ ib (-1) (-1) := ht
            have hio : ia ≠ ib := Nat.ne_of_lt (Nat.lt_of_lt_of_le T1.lt hl)
            have L2 : w8.heap.size ≤ ib := Nat.le_trans hHeld.2.out.size hl
            clear ht hl
            try replace zA := Nat.lt_of_lt_of_le zA K1.size
            try replace zB := Nat.lt_of_lt_of_le zB K1.size
            refine hK.out _ _ ?_ (fun hHeld2 => ?_)
            · obtain ⟨h1, h2⟩ := hHeld; exact ⟨keepc h1 K1, h2.out.trans (K1.mono h2.out.size)⟩
            replace T1 := T1.keep K1
            replace A := A.keep K1
            replace B := B.keep K1
            clear K1
            clear hK K hHeld
            have hHeld := hHeld2
            clear hHeld2
            try simp only [Act.put, List.setIfInBounds_toArray, List.set_cons_zero, List.set_cons_succ]
            refine wpAnyH_ready (rs := [8]) (by kernel_rfl) (by simp) ?_
            refine AllReadyH.cons (o := ⟨_, _, _, _, _, _⟩) rfl (fun K hK => ?_) AllReadyH.nil
            have p0 := A.c0; have pf := A.fr
            go_simp
            refine hK.out _ _ ?_ (fun hHeld2 => ?_)
            · obtain ⟨h1, h2⟩ := hHeld; exact ⟨far_c h1 (by have := lim.out; omega), Lib.hid (h2.out.setCell lA _)⟩
            replace T1 := T1.store (v := (.slice (some ⟨ia, 0, none⟩) 2 2)) A
            replace T2 := T2.store (v := (.slice (some ⟨ia, 0, none⟩) 2 2)) A
            replace B := B.other (u := (.slice (some ⟨ia, 0, none⟩) 2 2)) (k := A0) (by omega)
            replace A := A.set (.slice (some ⟨ia, 0, none⟩) 2 2)
            clear p0 pf
            generalize v4.setCell ⟨A0, 0, none⟩ (.slice (some ⟨ia, 0, none⟩) 2 2) = v5 at *
            clear hK K hHeld
            have hHeld := hHeld2
            clear hHeld2
            try simp only [Act.put, List.setIfInBounds_toArray, List.set_cons_zero, List.set_cons_succ]
            refine wpAnyH_ready (rs := [9]) (by kernel_rfl) (by simp) ?_
            refine AllReadyH.cons (o := ⟨_, _, _, _, _, _⟩) rfl (fun K hK => ?_) AllReadyH.nil
            have p0 := B.c0; have pf := B.fr
            go_simp
            refine hK.out _ _ ?_ (fun hHeld2 => ?_)
            · obtain ⟨h1, h2⟩ := hHeld; exact ⟨far_c h1 (by have := lim.out; omega), Lib.hid (h2.out.setCell lB _)⟩
            replace T1 := T1.store (v := (.slice (some ⟨ib, 0, none⟩) 2 2)) B
            replace T2 := T2.store (v := (.slice (some ⟨ib, 0, none⟩) 2 2)) B
            replace A := A.other (u := (.slice (some ⟨ib, 0, none⟩) 2 2)) (k := B0) (by omega)
            replace B := B.set (.slice (some ⟨ib, 0, none⟩) 2 2)
            clear p0 pf
            generalize v5.setCell ⟨B0, 0, none⟩ (.slice (some ⟨ib, 0, none⟩) 2 2) = v6 at *
            clear hK K hHeld
            have hHeld := hHeld2
            clear hHeld2
            try simp only [Act.put, List.setIfInBounds_toArray, List.set_cons_zero, List.set_cons_succ]
            refine wpAnyH_done (by kernel_rfl) ?_ _
            go_wp2_with fail
            go_meet
            case rel => exact ⟨A0, B0, ia, ib, rfl, rfl, A, B, T1, T2, ⟨hio, L1, L2⟩, hHeld.2⟩
        · skip
          have LA : Below v1.heap.size v1 (v1.alloc (.cells #[.slice none 0 0] 34)) := (Below.refl _ _).alloc (Nat.le_refl _) _
          go_simp
          refine hK.out _ _ ?_ (fun hHeld2 => ?_)
          · obtain ⟨h1, h2⟩ := hHeld; exact ⟨keepc h1 LA, h2.out.trans (LA.mono h2.out.size)⟩
          replace T1 := T1.keep LA
          have B := Bx.new v1 34 (.slice none 0 0)
          have lB : w8.heap.size ≤ v1.heap.size := by obtain ⟨-, hh⟩ := hHeld; exact hh.out.size
          have zB' : v1.heap.size < (v1.alloc (.cells #[.slice none 0 0] 34)).heap.size := by rw [World.size_alloc]; omega
          have zB := zB'
          clear zB' LA
          generalize v1.alloc (.cells #[.slice none 0 0] 34) = v2 at *
          generalize v1.heap.size = B0 at *
          clear hK K hHeld
          have hHeld := hHeld2
          clear hHeld2
          try simp only [Act.put, List.setIfInBounds_toArray, List.set_cons_zero, List.set_cons_succ]
          refine wpAnyH_ready (rs := [5, 6]) (by kernel_rfl) (by simp) ?_
          refine AllReadyH.cons (o := ⟨_, _, _, _, _, _⟩) rfl (fun K hK => ?_) (AllReadyH.cons (o := ⟨_, _, _, _, _, _⟩) rfl (fun K hK => ?_) AllReadyH.nil)
          · skip
            go_simp
            go_at_call 35; refine (nowhere_two v2).mono ?_; rintro e v3 ⟨ib, rfl, ht, hl, K1⟩; (try go_wp2_with fail)
            have T2 : In2 _ ib (-1) (-1) := ht
            have hio : ia ≠ ib := Nat.ne_of_lt (Nat.lt_of_lt_of_le T1.lt hl)
            have L2 : w8.heap.size ≤ ib := Nat.le_trans hHeld.2.out.size hl
            clear ht hl
            try replace zA := Nat.lt_of_lt_of_le zA K1.size
            try replace zB := Nat.lt_of_lt_of_le zB K1.size
            refine hK.out _ _ ?_ (fun hHeld2 => ?_)
            · obtain ⟨h1, h2⟩ := hHeld; exact ⟨keepc h1 K1, h2.out.trans (K1.mono h2.out.size)⟩
            replace T1 := T1.keep K1
            replace B := B.keep K1
            clear K1
            clear hK K hHeld
            have hHeld := hHeld2
            clear hHeld2
            try simp only [Act.put, List.setIfInBounds_toArray, List.set_cons_zero, List.set_cons_succ]
            refine wpAnyH_ready (rs := [6]) (by kernel_rfl) (by simp) ?_
            refine AllReadyH.cons (o := ⟨_, _, _, _, _, _⟩) rfl (fun K hK => ?_) AllReadyH.nil
            have LA : Below v3.heap.size v3 (v3.alloc (.cells #[.slice none 0 0] 34)) := (Below.refl _ _).alloc (Nat.le_refl _) _
            go_simp
            refine hK.out _ _ ?_ (fun hHeld2 => ?_)
            · obtain ⟨h1, h2⟩ := hHeld; exact ⟨keepc h1 LA, h2.out.trans (LA.mono h2.out.size)⟩
            replace T1 := T1.keep LA
            replace T2 := T2.keep LA
            replace B := B.keep LA
            have A := Bx.new v3 34 (.slice none 0 0)
            have lA : w8.heap.size ≤ v3.heap.size := by obtain ⟨-, hh⟩ := hHeld; exact hh.out.size
            have hne : B0 ≠ v3.heap.size := fun e => Nat.lt_irrefl _ (e ▸ zB)
            have zA' : v3.heap.size < (v3.alloc (.cells #[.slice none 0 0] 34)).heap.size := by rw [World.size_alloc]; omega
            replace zB := Nat.lt_trans zB zA'
            have zA := zA'
            clear zA' LA
            generalize v3.alloc (.cells #[.slice none 0 0] 34) = v4 at *
            generalize v3.heap.size = A0 at *
            clear hK K hHeld
            have hHeld := hHeld2
            clear hHeld2
            try simp only [Act.put, List.setIfInBounds_toArray, List.set_cons_zero, List.set_cons_succ]
            refine wpAnyH_ready (rs := [8]) (by kernel_rfl) (by simp) ?_
            refine AllReadyH.cons (o := ⟨_, _, _, _, _, _⟩) rfl (fun K hK => ?_) AllReadyH.nil
            have p0 := A.c0; have pf := A.fr
            go_simp
            refine hK.out _ _ ?_ (fun hHeld2 => ?_)
            · obtain ⟨h1, h2⟩ := hHeld; exact ⟨far_c h1 (by have := lim.out; omega), Lib.hid (h2.out.setCell lA _)⟩
            replace T1 := T1.store (v := (.slice (some ⟨ia, 0, none⟩) 2 2)) A
            replace T2 := T2.store (v := (.slice (some ⟨ia, 0, none⟩) 2 2)) A
            replace B := B.other (u := (.slice (some ⟨ia, 0, none⟩) 2 2)) (k := A0) (by omega)
            replace A := A.set (.slice (some ⟨ia, 0, none⟩) 2 2)
            clear p0 pf
            generalize v4.setCell ⟨A0, 0, none⟩ (.slice (some ⟨ia, 0, none⟩) 2 2) = v5 at *
            clear hK K hHeld
            have hHeld := hHeld2
            clear hHeld2
            try simp only [Act.put, List.setIfInBounds_toArray, List.set_cons_zero, List.set_cons_succ]
            refine wpAnyH_ready (rs := [9]) (by kernel_rfl) (by simp) ?_
            refine AllReadyH.cons (o := ⟨_, _, _, _, _, _⟩) rfl (fun K hK => ?_) AllReadyH.nil
            have p0 := B.c0; have pf := B.fr
            go_simp
            refine hK.out _ _ ?_ (fun hHeld2 => ?_)
            · obtain ⟨h1, h2⟩ := hHeld; exact ⟨far_c h1 (by have := lim.out; omega), Lib.hid (h2.out.setCell lB _)⟩
            replace T1 := T1.store (v := (.slice (some ⟨ib, 0, none⟩) 2 2)) B
            replace T2 := T2.store (v := (.slice (some ⟨ib, 0, none⟩) 2 2)) B
            replace A := A.other (u := (.slice (some ⟨ib, 0, none⟩) 2 2)) (k := B0) (by omega)
            replace B := B.set (.slice (some ⟨ib, 0, none⟩) 2 2)
            clear p0 pf
            generalize v5.setCell ⟨B0, 0, none⟩ (.slice (some ⟨ib, 0, none⟩) 2 2) = v6 at *
            clear hK K hHeld
            have hHeld := hHeld2
            clear hHeld2
            try simp only [Act.put, List.setIfInBounds_toArray, List.set_cons_zero, List.set_cons_succ]
            refine wpAnyH_done (by kernel_rfl) ?_ _
            go_wp2_with fail
            go_meet
            case rel => exact ⟨A0, B0, ia, ib, rfl, rfl, A, B, T1, T2, ⟨hio, L1, L2⟩, hHeld.2⟩
          · skip
            have LA : Below v2.heap.size v2 (v2.alloc (.cells #[.slice none 0 0] 34)) := (Below.refl _ _).alloc (Nat.le_refl _) _
            go_simp
            refine hK.out _ _ ?_ (fun hHeld2 => ?_)
            · obtain ⟨h1, h2⟩ := hHeld; exact ⟨keepc h1 LA, h2.out.trans (LA.mono h2.out.size)⟩
            replace T1 := T1.keep LA
            replace B := B.keep LA
            have A := Bx.new v2 34 (.slice none 0 0)
            have lA : w8.heap.size ≤ v2.heap.size := by obtain ⟨-, hh⟩ := hHeld; exact hh.out.size
            have hne : B0 ≠ v2.heap.size := fun e => Nat.lt_irrefl _ (e ▸ zB)
            have zA' : v2.heap.size < (v2.alloc (.cells #[.slice none 0 0] 34)).heap.size := by rw [World.size_alloc]; omega
            replace zB := Nat.lt_trans zB zA'
            have zA := zA'
            clear zA' LA
            generalize v2.alloc (.cells #[.slice none 0 0] 34) = v3 at *
            generalize v2.heap.size = A0 at *
            clear hK K hHeld
            have hHeld := hHeld2
            clear hHeld2
            try simp only [Act.put, List.setIfInBounds_toArray, List.set_cons_zero, List.set_cons_succ]
            refine wpAnyH_ready (rs := [5]) (by kernel_rfl) (by simp) ?_
            refine AllReadyH.cons (o := ⟨_, _, _, _, _, _⟩) rfl (fun K hK => ?_) AllReadyH.nil
            go_simp
            go_at_call 35; refine (nowhere_two v3).mono ?_; rintro e v4 ⟨ib, rfl, ht, hl, K1⟩; (try go_wp2_with fail)
            have T2 : In2 _ ib (-1) (-1) := ht
            have hio : ia ≠ ib := Nat.ne_of_lt (Nat.lt_of_lt_of_le T1.lt hl)
            have L2 : w8.heap.size ≤ ib := Nat.le_trans hHeld.2.out.size hl
            clear ht hl
            try replace zA := Nat.lt_of_lt_of_le zA K1.size
            try replace zB := Nat.lt_of_lt_of_le zB K1.size
            refine hK.out _ _ ?_ (fun hHeld2 => ?_)
            · obtain ⟨h1, h2⟩ := hHeld; exact ⟨keepc h1 K1, h2.out.trans (K1.mono h2.out.size)⟩
            replace T1 := T1.keep K1
            replace A := A.keep K1
            replace B := B.keep K1
            clear K1
            clear hK K hHeld
            have hHeld := hHeld2
            clear hHeld2
            try simp only [Act.put, List.setIfInBounds_toArray, List.set_cons_zero, List.set_cons_succ]
            refine wpAnyH_ready (rs := [8]) (by kernel_rfl) (by simp) ?_
            refine AllReadyH.cons (o := ⟨_, _, _, _, _, _⟩) rfl (fun K hK => ?_) AllReadyH.nil
            have p0 := A.c0; have pf := A.fr
            go_simp
            refine hK.out _ _ ?_ (fun hHeld2 => ?_)
            · obtain ⟨h1, h2⟩ := hHeld; exact ⟨far_c h1 (by have := lim.out; omega), Lib.hid (h2.out.setCell lA _)⟩
            replace T1 := T1.store (v := (.slice (some ⟨ia, 0, none⟩) 2 2)) A
            replace T2 := T2.store (v := (.slice (some ⟨ia, 0, none⟩) 2 2)) A
            replace B := B.other (u := (.slice (some ⟨ia, 0, none⟩) 2 2)) (k := A0) (by omega)
            replace A := A.set (.slice (some ⟨ia, 0, none⟩) 2 2)
            clear p0 pf
            generalize v4.setCell ⟨A0, 0, none⟩ (.slice (some ⟨ia, 0, none⟩) 2 2) = v5 at *
            clear hK K hHeld
            have hHeld := hHeld2
            clear hHeld2
            try simp only [Act.put, List.setIfInBounds_toArray, List.set_cons_zero, List.set_cons_succ]
            refine wpAnyH_ready (rs := [9]) (by kernel_rfl) (by simp) ?_
            refine AllReadyH.cons (o := ⟨_, _, _, _, _, _⟩) rfl (fun K hK => ?_) AllReadyH.nil
            have p0 := B.c0; have pf := B.fr
            go_simp
            refine hK.out _ _ ?_ (fun hHeld2 => ?_)
            · obtain ⟨h1, h2⟩ := hHeld; exact ⟨far_c h1 (by have := lim.out; omega), Lib.hid (h2.out.setCell lB _)⟩
            replace T1 := T1.store (v := (.slice (some ⟨ib, 0, none⟩) 2 2)) B
            replace T2 := T2.store (v := (.slice (some ⟨ib, 0, none⟩) 2 2)) B
            replace A := A.other (u := (.slice (some ⟨ib, 0, none⟩) 2 2)) (k := B0) (by omega)
            replace B := B.set (.slice (some ⟨ib, 0, none⟩) 2 2)
            clear p0 pf
            generalize v5.setCell ⟨B0, 0, none⟩ (.slice (some ⟨ib, 0, none⟩) 2 2) = v6 at *
            clear hK K hHeld
            have hHeld := hHeld2
            clear hHeld2
            try simp only [Act.put, List.setIfInBounds_toArray, List.set_cons_zero, List.set_cons_succ]
            refine wpAnyH_done (by kernel_rfl) ?_ _
            go_wp2_with fail
            go_meet
            case rel => exact ⟨A0, B0, ia, ib, rfl, rfl, A, B, T1, T2, ⟨hio, L1, L2⟩, hHeld.2⟩
      · skip
        have LA : Below v0.heap.size v0 (v0.alloc (.cells #[.slice none 0 0] 34)) := (Below.refl _ _).alloc (Nat.le_refl _) _
        go_simp
        refine hK.out _ _ ?_ (fun hHeld2 => ?_)
        · obtain ⟨h1, h2⟩ := hHeld; exact ⟨keepc h1 LA, h2.out.trans (LA.mono h2.out.size)⟩
        have A := Bx.new v0 34 (.slice none 0 0)
        have lA : w8.heap.size ≤ v0.heap.size := by obtain ⟨-, hh⟩ := hHeld; exact hh.out.size
        have zA' : v0.heap.size < (v0.alloc (.cells #[.slice none 0 0] 34)).heap.size := by rw [World.size_alloc]; omega
        have zA := zA'
        clear zA' LA
        generalize v0.alloc (.cells #[.slice none 0 0] 34) = v1 at *
        generalize v0.heap.size = A0 at *
        clear hK K hHeld
        have hHeld := hHeld2
        clear hHeld2
        try simp only [Act.put, List.setIfInBounds_toArray, List.set_cons_zero, List.set_cons_succ]
        refine wpAnyH_ready (rs := [2, 7]) (by kernel_rfl) (by simp) ?_
        refine AllReadyH.cons (o := ⟨_, _, _, _, _, _⟩) rfl (fun K hK => ?_) (AllReadyH.cons (o := ⟨_, _, _, _, _, _⟩) rfl (fun K hK => ?_) AllReadyH.nil)
        · skip
          go_simp
          go_at_call 35; refine (nowhere_two v1).mono ?_; rintro e v2 ⟨ia, rfl, ht, hl, K1⟩; (try go_wp2_with fail)
          have T1 : In2 _ ia (-1) (-1) := ht
          have L1 : w8.heap.size ≤ ia := Nat.le_trans hHeld.2.out.size hl
          clear ht hl
          try replace zA := Nat.lt_of_lt_of_le zA K1.size
          try replace zB := Nat.lt_of_lt_of_le zB K1.size
          refine hK.out _ _ ?_ (fun hHeld2 => ?_)
          · obtain ⟨h1, h2⟩ := hHeld; exact ⟨keepc h1 K1, h2.out.trans (K1.mono h2.out.size)⟩
          replace A := A.keep K1
          clear K1
          clear hK K hHeld
          have hHeld := hHeld2
          clear hHeld2
          try simp only [Act.put, List.setIfInBounds_toArray, List.set_cons_zero, List.set_cons_succ]
          refine wpAnyH_ready (rs := [5, 7]) (by kernel_rfl) (by simp) ?_
          refine AllReadyH.cons (o := ⟨_, _, _, _, _, _⟩) rfl (fun K hK => ?_) (AllReadyH.cons (o := ⟨_, _, _, _, _, _⟩) rfl (fun K hK => ?_) AllReadyH.nil)
          · skip
            go_simp
            go_at_call 35; refine (nowhere_two v2).mono ?_; rintro e v3 ⟨ib, rfl, ht, hl, K1⟩; (try go_wp2_with fail)
            have T2 : In2 _ ib (-1) (-1) := ht
            have hio : ia ≠ ib := Nat.ne_of_lt (Nat.lt_of_lt_of_le T1.lt hl)
            have L2 : w8.heap.size ≤ ib := Nat.le_trans hHeld.2.out.size hl
            clear ht hl
            try replace zA := Nat.lt_of_lt_of_le zA K1.size
            try replace zB := Nat.lt_of_lt_of_le zB K1.size
            refine hK.out _ _ ?_ (fun hHeld2 => ?_)
            · obtain ⟨h1, h2⟩ := hHeld; exact ⟨keepc h1 K1, h2.out.trans (K1.mono h2.out.size)⟩
            replace T1 := T1.keep K1
            replace A := A.keep K1
            clear K1
            clear hK K hHeld
            have hHeld := hHeld2
            clear hHeld2
            try simp only [Act.put, List.setIfInBounds_toArray, List.set_cons_zero, List.set_cons_succ]
            refine wpAnyH_ready (rs := [7]) (by kernel_rfl) (by simp) ?_
            refine AllReadyH.cons (o := ⟨_, _, _, _, _, _⟩) rfl (fun K hK => ?_) AllReadyH.nil
            have LA : Below v3.heap.size v3 (v3.alloc (.cells #[.slice none 0 0] 34)) := (Below.refl _ _).alloc (Nat.le_refl _) _
            go_simp
            refine hK.out _ _ ?_ (fun hHeld2 => ?_)
            · obtain ⟨h1, h2⟩ := hHeld; exact ⟨keepc h1 LA, h2.out.trans (LA.mono h2.out.size)⟩
            replace T1 := T1.keep LA
            replace T2 := T2.keep LA
            replace A := A.keep LA
            have B := Bx.new v3 34 (.slice none 0 0)
            have lB : w8.heap.size ≤ v3.heap.size := by obtain ⟨-, hh⟩ := hHeld; exact hh.out.size
            have hne : A0 ≠ v3.heap.size := fun e => Nat.lt_irrefl _ (e ▸ zA)
            have zB' : v3.heap.size < (v3.alloc (.cells #[.slice none 0 0] 34)).heap.size := by rw [World.size_alloc]; omega
            replace zA := Nat.lt_trans zA zB'
            have zB := zB'
            clear zB' LA
            generalize v3.alloc (.cells #[.slice none 0 0] 34) = v4 at *
            generalize v3.heap.size = B0 at *
            clear hK K hHeld
            have hHeld := hHeld2
            clear hHeld2
            try simp only [Act.put, List.setIfInBounds_toArray, List.set_cons_zero, List.set_cons_succ]
            refine wpAnyH_ready (rs := [8]) (by kernel_rfl) (by simp) ?_
            refine AllReadyH.cons (o := ⟨_, _, _, _, _, _⟩) rfl (fun K hK => ?_) AllReadyH.nil
            have p0 := A.c0; have pf := A.fr
            go_simp
            refine hK.out _ _ ?_ (fun hHeld2 => ?_)
            · obtain ⟨h1, h2⟩ := hHeld; exact ⟨far_c h1 (by have := lim.out; omega), Lib.hid (h2.out.setCell lA _)⟩
            replace T1 := T1.store (v := (.slice (some ⟨ia, 0, none⟩) 2 2)) A
            replace T2 := T2.store (v := (.slice (some ⟨ia, 0, none⟩) 2 2)) A
            replace B := B.other (u := (.slice (some ⟨ia, 0, none⟩) 2 2)) (k := A0) (by omega)
            replace A := A.set (.slice (some ⟨ia, 0, none⟩) 2 2)
            clear p0 pf
            generalize v4.setCell ⟨A0, 0, none⟩ (.slice (some ⟨ia, 0, none⟩) 2 2) = v5 at *
            clear hK K hHeld
            have hHeld := hHeld2
            clear hHeld2
            try simp only [Act.put, List.setIfInBounds_toArray, List.set_cons_zero, List.set_cons_succ]
            refine wpAnyH_ready (rs := [9]) (by kernel_rfl) (by simp) ?_
            refine AllReadyH.cons (o := ⟨_, _, _, _, _, _⟩) rfl (fun K hK => ?_) AllReadyH.nil
            have p0 := B.c0; have pf := B.fr
            go_simp
            refine hK.out _ _ ?_ (fun hHeld2 => ?_)
            · obtain ⟨h1, h2⟩ := hHeld; exact ⟨far_c h1 (by have := lim.out; omega), Lib.hid (h2.out.setCell lB _)⟩
            replace T1 := T1.store (v := (.slice (some ⟨ib, 0, none⟩) 2 2)) B
            replace T2 := T2.store (v := (.slice (some ⟨ib, 0, none⟩) 2 2)) B
            replace A := A.other (u := (.slice (some ⟨ib, 0, none⟩) 2 2)) (k := B0) (by omega)
            replace B := B.set (.slice (some ⟨ib, 0, none⟩) 2 2)
            clear p0 pf
            generalize v5.setCell ⟨B0, 0, none⟩ (.slice (some ⟨ib, 0, none⟩) 2 2) = v6 at *
            clear hK K hHeld
            have hHeld := hHeld2
            clear hHeld2
            try simp only [Act.put, List.setIfInBounds_toArray, List.set_cons_zero, List.set_cons_succ]
            refine wpAnyH_done (by kernel_rfl) ?_ _
            go_wp2_with fail
            go_meet
            case rel => exact ⟨A0, B0, ia, ib, rfl, rfl, A, B, T1, T2, ⟨hio, L1, L2⟩, hHeld.2⟩
          · skip
            have LA : Below v2.heap.size v2 (v2.alloc (.cells #[.slice none 0 0] 34)) := (Below.refl _ _).alloc (Nat.le_refl _) _
            go_simp
            refine hK.out _ _ ?_ (fun hHeld2 => ?_)
            · obtain ⟨h1, h2⟩ := hHeld; exact ⟨keepc h1 LA, h2.out.trans (LA.mono h2.out.size)⟩
            replace T1 := T1.keep LA
            replace A := A.keep LA
            have B := Bx.new v2 34 (.slice none 0 0)
            have lB : w8.heap.size ≤ v2.heap.size := by obtain ⟨-, hh⟩ := hHeld; exact hh.out.size
            have hne : A0 ≠ v2.heap.size := fun e => Nat.lt_irrefl _ (e ▸ zA)
            have zB' : v2.heap.size < (v2.alloc (.cells #[.slice none 0 0] 34)).heap.size := by rw [World.size_alloc]; omega
            replace zA := Nat.lt_trans zA zB'
            have zB := zB'
            clear zB' LA
            generalize v2.alloc (.cells #[.slice none 0 0] 34) = v3 at *
            generalize v2.heap.size = B0 at *
            clear hK K hHeld
            have hHeld := hHeld2
            clear hHeld2
            try simp only [Act.put, List.setIfInBounds_toArray, List.set_cons_zero, List.set_cons_succ]
            refine wpAnyH_ready (rs := [5]) (by kernel_rfl) (by simp) ?_
            refine AllReadyH.cons (o := ⟨_, _, _, _, _, _⟩) rfl (fun K hK => ?_) AllReadyH.nil
            go_simp
            go_at_call 35; refine (nowhere_two v3).mono ?_; rintro e v4 ⟨ib, rfl, ht, hl, K1⟩; (try go_wp2_with fail)
            have T2 : In2 _ ib (-1) (-1) := ht
            have hio : ia ≠ ib := Nat.ne_of_lt (Nat.lt_of_lt_of_le T1.lt hl)
            have L2 : w8.heap.size ≤ ib := Nat.le_trans hHeld.2.out.size hl
            clear ht hl
            try replace zA := Nat.lt_of_lt_of_le zA K1.size
            try replace zB := Nat.lt_of_lt_of_le zB K1.size
            refine hK.out _ _ ?_ (fun hHeld2 => ?_)
            · obtain ⟨h1, h2⟩ := hHeld; exact ⟨keepc h1 K1, h2.out.trans (K1.mono h2.out.size)⟩
            replace T1 := T1.keep K1
            replace A := A.keep K1
            replace B := B.keep K1
            clear K1
            clear hK K hHeld
            have hHeld := hHeld2
            clear hHeld2
            try simp only [Act.put, List.setIfInBounds_toArray, List.set_cons_zero, List.set_cons_succ]
            refine wpAnyH_ready (rs := [8]) (by kernel_rfl) (by simp) ?_
            refine AllReadyH.cons (o := ⟨_, _, _, _, _, _⟩) rfl (fun K hK => ?_) AllReadyH.nil
            have p0 := A.c0; have pf := A.fr
            go_simp
            refine hK.out _ _ ?_ (fun hHeld2 => ?_)
            · obtain ⟨h1, h2⟩ := hHeld; exact ⟨far_c h1 (by have := lim.out; omega), Lib.hid (h2.out.setCell lA _)⟩
            replace T1 := T1.store (v := (.slice (some ⟨ia, 0, none⟩) 2 2)) A
            replace T2 := T2.store (v := (.slice (some ⟨ia, 0, none⟩) 2 2)) A
            replace B := B.other (u := (.slice (some ⟨ia, 0, none⟩) 2 2)) (k := A0) (by omega)
            replace A := A.set (.slice (some ⟨ia, 0, none⟩) 2 2)
            clear p0 pf
            generalize v4.setCell ⟨A0, 0, none⟩ (.slice (some ⟨ia, 0, none⟩) 2 2) = v5 at *
            clear hK K hHeld
            have hHeld := hHeld2
            clear hHeld2
            try simp only [Act.put, List.setIfInBounds_toArray, List.set_cons_zero, List.set_cons_succ]
            refine wpAnyH_ready (rs := [9]) (by kernel_rfl) (by simp) ?_
            refine AllReadyH.cons (o := ⟨_, _, _, _, _, _⟩) rfl (fun K hK => ?_) AllReadyH.nil
            have p0 := B.c0; have pf := B.fr
            go_simp
            refine hK.out _ _ ?_ (fun hHeld2 => ?_)
            · obtain ⟨h1, h2⟩ := hHeld; exact ⟨far_c h1 (by have := lim.out; omega), Lib.hid (h2.out.setCell lB _)⟩
            replace T1 := T1.store (v := (.slice (some ⟨ib, 0, none⟩) 2 2)) B
            replace T2 := T2.store (v := (.slice (some ⟨ib, 0, none⟩) 2 2)) B
            replace A := A.other (u := (.slice (some ⟨ib, 0, none⟩) 2 2)) (k := B0) (by omega)
            replace B := B.set (.slice (some ⟨ib, 0, none⟩) 2 2)
            clear p0 pf
            generalize v5.setCell ⟨B0, 0, none⟩ (.slice (some ⟨ib, 0, none⟩) 2 2) = v6 at *
            clear hK K hHeld
            have hHeld := hHeld2
            clear hHeld2
            try simp only [Act.put, List.setIfInBounds_toArray, List.set_cons_zero, List.set_cons_succ]
            refine wpAnyH_done (by kernel_rfl) ?_ _
            go_wp2_with fail
            go_meet
            case rel => exact ⟨A0, B0, ia, ib, rfl, rfl, A, B, T1, T2, ⟨hio, L1, L2⟩, hHeld.2⟩
        · skip
          have LA : Below v1.heap.size v1 (v1.alloc (.cells #[.slice none 0 0] 34)) := (Below.refl _ _).alloc (Nat.le_refl _) _
          go_simp
          refine hK.out _ _ ?_ (fun hHeld2 => ?_)
          · obtain ⟨h1, h2⟩ := hHeld; exact ⟨keepc h1 LA, h2.out.trans (LA.mono h2.out.size)⟩
          replace A := A.keep LA
          have B := Bx.new v1 34 (.slice none 0 0)
          have lB : w8.heap.size ≤ v1.heap.size := by obtain ⟨-, hh⟩ := hHeld; exact hh.out.size
          have hne : A0 ≠ v1.heap.size := fun e => Nat.lt_irrefl _ (e ▸ zA)
          have zB' : v1.heap.size < (v1.alloc (.cells #[.slice none 0 0] 34)).heap.size := by rw [World.size_alloc]; omega
          replace zA := Nat.lt_trans zA zB'
          have zB := zB'
          clear zB' LA
          generalize v1.alloc (.cells #[.slice none 0 0] 34) = v2 at *
          generalize v1.heap.size = B0 at *
          clear hK K hHeld
          have hHeld := hHeld2
          clear hHeld2
          try simp only [Act.put, List.setIfInBounds_toArray, List.set_cons_zero, List.set_cons_succ]
          refine wpAnyH_ready (rs := [2]) (by kernel_rfl) (by simp) ?_
          refine AllReadyH.cons (o := ⟨_, _, _, _, _, _⟩) rfl (fun K hK => ?_) AllReadyH.nil
          go_simp
          go_at_call 35; refine (nowhere_two v2).mono ?_; rintro e v3 ⟨ia, rfl, ht, hl, K1⟩; (try go_wp2_with fail)
          have T1 : In2 _ ia (-1) (-1) := ht
          have L1 : w8.heap.size ≤ ia := Nat.le_trans hHeld.2.out.size hl
          clear ht hl
          try replace zA := Nat.lt_of_lt_of_le zA K1.size
          try replace zB := Nat.lt_of_lt_of_le zB K1.size
          refine hK.out _ _ ?_ (fun hHeld2 => ?_)
          · obtain ⟨h1, h2⟩ := hHeld; exact ⟨keepc h1 K1, h2.out.trans (K1.mono h2.out.size)⟩
          replace A := A.keep K1
          replace B := B.keep K1
          clear K1
          clear hK K hHeld
          have hHeld := hHeld2
          clear hHeld2
          try simp only [Act.put, List.setIfInBounds_toArray, List.set_cons_zero, List.set_cons_succ]
          refine wpAnyH_ready (rs := [5]) (by kernel_rfl) (by simp) ?_
          refine AllReadyH.cons (o := ⟨_, _, _, _, _, _⟩) rfl (fun K hK => ?_) AllReadyH.nil
          go_simp
          go_at_call 35; refine (nowhere_two v3).mono ?_; rintro e v4 ⟨ib, rfl, ht, hl, K1⟩; (try go_wp2_with fail)
          have T2 : In2 _ ib (-1) (-1) := ht
          have hio : ia ≠ ib := Nat.ne_of_lt (Nat.lt_of_lt_of_le T1.lt hl)
          have L2 : w8.heap.size ≤ ib := Nat.le_trans hHeld.2.out.size hl
          clear ht hl
          try replace zA := Nat.lt_of_lt_of_le zA K1.size
          try replace zB := Nat.lt_of_lt_of_le zB K1.size
          refine hK.out _ _ ?_ (fun hHeld2 => ?_)
          · obtain ⟨h1, h2⟩ := hHeld; exact ⟨keepc h1 K1, h2.out.trans (K1.mono h2.out.size)⟩
          replace T1 := T1.keep K1
          replace A := A.keep K1
          replace B := B.keep K1
          clear K1
          clear hK K hHeld
          have hHeld := hHeld2
          clear hHeld2
          try simp only [Act.put, List.setIfInBounds_toArray, List.set_cons_zero, List.set_cons_succ]
          refine wpAnyH_ready (rs := [8]) (by kernel_rfl) (by simp) ?_
          refine AllReadyH.cons (o := ⟨_, _, _, _, _, _⟩) rfl (fun K hK => ?_) AllReadyH.nil
          have p0 := A.c0; have pf := A.fr
          go_simp
          refine hK.out _ _ ?_ (fun hHeld2 => ?_)
          · obtain ⟨h1, h2⟩ := hHeld; exact ⟨far_c h1 (by have := lim.out; omega), Lib.hid (h2.out.setCell lA _)⟩
          replace T1 := T1.store (v := (.slice (some ⟨ia, 0, none⟩) 2 2)) A
          replace T2 := T2.store (v := (.slice (some ⟨ia, 0, none⟩) 2 2)) A
          replace B := B.other (u := (.slice (some ⟨ia, 0, none⟩) 2 2)) (k := A0) (by omega)
          replace A := A.set (.slice (some ⟨ia, 0, none⟩) 2 2)
          clear p0 pf
          generalize v4.setCell ⟨A0, 0, none⟩ (.slice (some ⟨ia, 0, none⟩) 2 2) = v5 at *
          clear hK K hHeld
          have hHeld := hHeld2
          clear hHeld2
          try simp only [Act.put, List.setIfInBounds_toArray, List.set_cons_zero, List.set_cons_succ]
          refine wpAnyH_ready (rs := [9]) (by kernel_rfl) (by simp) ?_
          refine AllReadyH.cons (o := ⟨_, _, _, _, _, _⟩) rfl (fun K hK => ?_) AllReadyH.nil
          have p0 := B.c0; have pf := B.fr
          go_simp
          refine hK.out _ _ ?_ (fun hHeld2 => ?_)
          · obtain ⟨h1, h2⟩ := hHeld; exact ⟨far_c h1 (by have := lim.out; omega), Lib.hid (h2.out.setCell lB _)⟩
          replace T1 := T1.store (v := (.slice (some ⟨ib, 0, none⟩) 2 2)) B
          replace T2 := T2.store (v := (.slice (some ⟨ib, 0, none⟩) 2 2)) B
          replace A := A.other (u := (.slice (some ⟨ib, 0, none⟩) 2 2)) (k := B0) (by omega)
          replace B := B.set (.slice (some ⟨ib, 0, none⟩) 2 2)
          clear p0 pf
          generalize v5.setCell ⟨B0, 0, none⟩ (.slice (some ⟨ib, 0, none⟩) 2 2) = v6 at *
          clear hK K hHeld
          have hHeld := hHeld2
          clear hHeld2
          try simp only [Act.put, List.setIfInBounds_toArray, List.set_cons_zero, List.set_cons_succ]
          refine wpAnyH_done (by kernel_rfl) ?_ _
          go_wp2_with fail
          go_meet
          case rel => exact ⟨A0, B0, ia, ib, rfl, rfl, A, B, T1, T2, ⟨hio, L1, L2⟩, hHeld.2⟩
      · skip
        have LA : Below v0.heap.size v0 (v0.alloc (.cells #[.slice none 0 0] 34)) := (Below.refl _ _).alloc (Nat.le_refl _) _
        go_simp
        refine hK.out _ _ ?_ (fun hHeld2 => ?_)
        · obtain ⟨h1, h2⟩ := hHeld; exact ⟨keepc h1 LA, h2.out.trans (LA.mono h2.out.size)⟩
        have B := Bx.new v0 34 (.slice none 0 0)
        have lB : w8.heap.size ≤ v0.heap.size := by obtain ⟨-, hh⟩ := hHeld; exact hh.out.size
        have zB' : v0.heap.size < (v0.alloc (.cells #[.slice none 0 0] 34)).heap.size := by rw [World.size_alloc]; omega
        have zB := zB'
        clear zB' LA
        generalize v0.alloc (.cells #[.slice none 0 0] 34) = v1 at *
        generalize v0.heap.size = B0 at *
        clear hK K hHeld
        have hHeld := hHeld2
        clear hHeld2
        try simp only [Act.put, List.setIfInBounds_toArray, List.set_cons_zero, List.set_cons_succ]
        refine wpAnyH_ready (rs := [2, 6]) (by kernel_rfl) (by simp) ?_
        refine AllReadyH.cons (o := ⟨_, _, _, _, _, _⟩) rfl (fun K hK => ?_) (AllReadyH.cons (o := ⟨_, _, _, _, _, _⟩) rfl (fun K hK => ?_) AllReadyH.nil)
        · skip
          go_simp
          go_at_call 35; refine (nowhere_two v1).mono ?_; rintro e v2 ⟨ia, rfl, ht, hl, K1⟩; (try go_wp2_with fail)
          have T1 : In2 _ ia (-1) (-1) := ht
          have L1 : w8.heap.size ≤ ia := Nat.le_trans hHeld.2.out.size hl
          clear ht hl
          try replace zA := Nat.lt_of_lt_of_le zA K1.size
          try replace zB := Nat.lt_of_lt_of_le zB K1.size
          refine hK.out _ _ ?_ (fun hHeld2 => ?_)
          · obtain ⟨h1, h2⟩ := hHeld; exact ⟨keepc h1 K1, h2.out.trans (K1.mono h2.out.size)⟩
          replace B := B.keep K1
          clear K1
          clear hK K hHeld
          have hHeld := hHeld2
          clear hHeld2
          try simp only [Act.put, List.setIfInBounds_toArray, List.set_cons_zero, List.set_cons_succ]
          refine wpAnyH_ready (rs := [5, 6]) (by kernel_rfl) (by simp) ?_
          refine AllReadyH.cons (o := ⟨_, _, _, _, _, _⟩) rfl (fun K hK => ?_) (AllReadyH.cons (o := ⟨_, _, _, _, _, _⟩) rfl (fun K hK => ?_) AllReadyH.nil)
          · skip
            go_simp
            go_at_call 35; refine (nowhere_two v2).mono ?_; rintro e v3 ⟨ib, rfl, ht, hl, K1⟩; (try go_wp2_with fail)
            have T2 : In2 _ ib (-1) (-1) := ht
            have hio : ia ≠ ib := Nat.ne_of_lt (Nat.lt_of_lt_of_le T1.lt hl)
            have L2 : w8.heap.size ≤ ib := Nat.le_trans hHeld.2.out.size hl
            clear ht hl
            try replace zA := Nat.lt_of_lt_of_le zA K1.size
            try replace zB := Nat.lt_of_lt_of_le zB K1.size
            refine hK.out _ _ ?_ (fun hHeld2 => ?_)
            · obtain ⟨h1, h2⟩ := hHeld; exact ⟨keepc h1 K1, h2.out.trans (K1.mono h2.out.size)⟩
            replace T1 := T1.keep K1
            replace B := B.keep K1
            clear K1
            clear hK K hHeld
            have hHeld := hHeld2
            clear hHeld2
            try simp only [Act.put, List.setIfInBounds_toArray, List.set_cons_zero, List.set_cons_succ]
            refine wpAnyH_ready (rs := [6]) (by kernel_rfl) (by simp) ?_
            refine AllReadyH.cons (o := ⟨_, _, _, _, _, _⟩) rfl (fun K hK => ?_) AllReadyH.nil
            have LA : Below v3.heap.size v3 (v3.alloc (.cells #[.slice none 0 0] 34)) := (Below.refl _ _).alloc (Nat.le_refl _) _
            go_simp
            refine hK.out _ _ ?_ (fun hHeld2 => ?_)
            · obtain ⟨h1, h2⟩ := hHeld; exact ⟨keepc h1 LA, h2.out.trans (LA.mono h2.out.size)⟩
            replace T1 := T1.keep LA
            replace T2 := T2.keep LA
            replace B := B.keep LA
            have A := Bx.new v3 34 (.slice none 0 0)
            have lA : w8.heap.size ≤ v3.heap.size := by obtain ⟨-, hh⟩ := hHeld; exact hh.out.size
            have hne : B0 ≠ v3.heap.size := fun e => Nat.lt_irrefl _ (e ▸ zB)
            have zA' : v3.heap.size < (v3.alloc (.cells #[.slice none 0 0] 34)).heap.size := by rw [World.size_alloc]; omega
            replace zB := Nat.lt_trans zB zA'
            have zA := zA'
            clear zA' LA
            generalize v3.alloc (.cells #[.slice none 0 0] 34) = v4 at *
            generalize v3.heap.size = A0 at *
            clear hK K hHeld
            have hHeld := hHeld2
            clear hHeld2
            try simp only [Act.put, List.setIfInBounds_toArray, List.set_cons_zero, List.set_cons_succ]
            refine wpAnyH_ready (rs := [8]) (by kernel_rfl) (by simp) ?_
            refine AllReadyH.cons (o := ⟨_, _, _, _, _, _⟩) rfl (fun K hK => ?_) AllReadyH.nil
            have p0 := A.c0; have pf := A.fr
            go_simp
            refine hK.out _ _ ?_ (fun hHeld2 => ?_)
            · obtain ⟨h1, h2⟩ := hHeld; exact ⟨far_c h1 (by have := lim.out; omega), Lib.hid (h2.out.setCell lA _)⟩
            replace T1 := T1.store (v := (.slice (some ⟨ia, 0, none⟩) 2 2)) A
            replace T2 := T2.store (v := (.slice (some ⟨ia, 0, none⟩) 2 2)) A
            replace B := B.other (u := (.slice (some ⟨ia, 0, none⟩) 2 2)) (k := A0) (by omega)
            replace A := A.set (.slice (some ⟨ia, 0, none⟩) 2 2)
            clear p0 pf
            generalize v4.setCell ⟨A0, 0, none⟩ (.slice (some ⟨ia, 0, none⟩) 2 2) = v5 at *
            clear hK K hHeld
            have hHeld := hHeld2
            clear hHeld2
            try simp only [Act.put, List.setIfInBounds_toArray, List.set_cons_zero, List.set_cons_succ]
            refine wpAnyH_ready (rs := [9]) (by kernel_rfl) (by simp) ?_
            refine AllReadyH.cons (o := ⟨_, _, _, _, _, _⟩) rfl (fun K hK => ?_) AllReadyH.nil
            have p0 := B.c0; have pf := B.fr
            go_simp
            refine hK.out _ _ ?_ (fun hHeld2 => ?_)
            · obtain ⟨h1, h2⟩ := hHeld; exact ⟨far_c h1 (by have := lim.out; omega), Lib.hid (h2.out.setCell lB _)⟩
            replace T1 := T1.store (v := (.slice (some ⟨ib, 0, none⟩) 2 2)) B
            replace T2 := T2.store (v := (.slice (some ⟨ib, 0, none⟩) 2 2)) B
            replace A := A.other (u := (.slice (some ⟨ib, 0, none⟩) 2 2)) (k := B0) (by omega)
            replace B := B.set (.slice (some ⟨ib, 0, none⟩) 2 2)
            clear p0 pf
            generalize v5.setCell ⟨B0, 0, none⟩ (.slice (some ⟨ib, 0, none⟩) 2 2) = v6 at *
            clear hK K hHeld
            have hHeld := hHeld2
            clear hHeld2
            try simp only [Act.put, List.setIfInBounds_toArray, List.set_cons_zero, List.set_cons_succ]
            refine wpAnyH_done (by kernel_rfl) ?_ _
            go_wp2_with fail
            go_meet
            case rel => exact ⟨A0, B0, ia, ib, rfl, rfl, A, B, T1, T2, ⟨hio, L1, L2⟩, hHeld.2⟩
          · skip
            have LA : Below v2.heap.size v2 (v2.alloc (.cells #[.slice none 0 0] 34)) := (Below.refl _ _).alloc (Nat.le_refl _) _
            go_simp
            refine hK.out _ _ ?_ (fun hHeld2 => ?_)
            · obtain ⟨h1, h2⟩ := hHeld; exact ⟨keepc h1 LA, h2.out.trans (LA.mono h2.out.size)⟩
            replace T1 := T1.keep LA
            replace B := B.keep LA
            have A := Bx.new v2 34 (.slice none 0 0)
            have lA : w8.heap.size ≤ v2.heap.size := by obtain ⟨-, hh⟩ := hHeld; exact hh.out.size
            have hne : B0 ≠ v2.heap.size := fun e => Nat.lt_irrefl _ (e ▸ zB)
            have zA' : v2.heap.size < (v2.alloc (.cells #[.slice none 0 0] 34)).heap.size := by rw [World.size_alloc]; omega
            replace zB := Nat.lt_trans zB zA'
            have zA := zA'
            clear zA' LA
            generalize v2.alloc (.cells #[.slice none 0 0] 34) = v3 at *
            generalize v2.heap.size = A0 at *
            clear hK K hHeld
            have hHeld := hHeld2
            clear hHeld2
            try simp only [Act.put, List.setIfInBounds_toArray, List.set_cons_zero, List.set_cons_succ]
            refine wpAnyH_ready (rs := [5]) (by kernel_rfl) (by simp) ?_
            refine AllReadyH.cons (o := ⟨_, _, _, _, _, _⟩) rfl (fun K hK => ?_) AllReadyH.nil
            go_simp
            go_at_call 35; refine (nowhere_two v3).mono ?_; rintro e v4 ⟨ib, rfl, ht, hl, K1⟩; (try go_wp2_with fail)
            have T2 : In2 _ ib (-1) (-1) := ht
            have hio : ia ≠ ib := Nat.ne_of_lt (Nat.lt_of_lt_of_le T1.lt hl)
            have L2 : w8.heap.size ≤ ib := Nat.le_trans hHeld.2.out.size hl
            clear ht hl
            try replace zA := Nat.lt_of_lt_of_le zA K1.size
            try replace zB := Nat.lt_of_lt_of_le zB K1.size
            refine hK.out _ _ ?_ (fun hHeld2 => ?_)
            · obtain ⟨h1, h2⟩ := hHeld; exact ⟨keepc h1 K1, h2.out.trans (K1.mono h2.out.size)⟩
            replace T1 := T1.keep K1
            replace A := A.keep K1
            replace B := B.keep K1
            clear K1
            clear hK K hHeld
            have hHeld := hHeld2
            clear hHeld2
            try simp only [Act.put, List.setIfInBounds_toArray, List.set_cons_zero, List.set_cons_succ]
            refine wpAnyH_ready (rs := [8]) (by kernel_rfl) (by simp) ?_
            refine AllReadyH.cons (o := ⟨_, _, _, _, _, _⟩) rfl (fun K hK => ?_) AllReadyH.nil
            have p0 := A.c0; have pf := A.fr
            go_simp
            refine hK.out _ _ ?_ (fun hHeld2 => ?_)
            · obtain ⟨h1, h2⟩ := hHeld; exact ⟨far_c h1 (by have := lim.out; omega), Lib.hid (h2.out.setCell lA _)⟩
            replace T1 := T1.store (v := (.slice (some ⟨ia, 0, none⟩) 2 2)) A
            replace T2 := T2.store (v := (.slice (some ⟨ia, 0, none⟩) 2 2)) A
            replace B := B.other (u := (.slice (some ⟨ia, 0, none⟩) 2 2)) (k := A0) (by omega)
            replace A := A.set (.slice (some ⟨ia, 0, none⟩) 2 2)
            clear p0 pf
            generalize v4.setCell ⟨A0, 0, none⟩ (.slice (some ⟨ia, 0, none⟩) 2 2) = v5 at *
            clear hK K hHeld
            have hHeld := hHeld2
            clear hHeld2
            try simp only [Act.put, List.setIfInBounds_toArray, List.set_cons_zero, List.set_cons_succ]
            refine wpAnyH_ready (rs := [9]) (by kernel_rfl) (by simp) ?_
            refine AllReadyH.cons (o := ⟨_, _, _, _, _, _⟩) rfl (fun K hK => ?_) AllReadyH.nil
            have p0 := B.c0; have pf := B.fr
            go_simp
            refine hK.out _ _ ?_ (fun hHeld2 => ?_)
            · obtain ⟨h1, h2⟩ := hHeld; exact ⟨far_c h1 (by have := lim.out; omega), Lib.hid (h2.out.setCell lB _)⟩
            replace T1 := T1.store (v := (.slice (some ⟨ib, 0, none⟩) 2 2)) B
            replace T2 := T2.store (v := (.slice (some ⟨ib, 0, none⟩) 2 2)) B
            replace A := A.other (u := (.slice (some ⟨ib, 0, none⟩) 2 2)) (k := B0) (by omega)
            replace B := B.set (.slice (some ⟨ib, 0, none⟩) 2 2)
            clear p0 pf
            generalize v5.setCell ⟨B0, 0, none⟩ (.slice (some ⟨ib, 0, none⟩) 2 2) = v6 at *
            clear hK K hHeld
            have hHeld := hHeld2
            clear hHeld2
            try simp only [Act.put, List.setIfInBounds_toArray, List.set_cons_zero, List.set_cons_succ]
            refine wpAnyH_done (by kernel_rfl) ?_ _
            go_wp2_with fail
            go_meet
            case rel => exact ⟨A0, B0, ia, ib, rfl, rfl, A, B, T1, T2, ⟨hio, L1, L2⟩, hHeld.2⟩
        · skip
          have LA : Below v1.heap.size v1 (v1.alloc (.cells #[.slice none 0 0] 34)) := (Below.refl _ _).alloc (Nat.le_refl _) _
          go_simp
          refine hK.out _ _ ?_ (fun hHeld2 => ?_)
          · obtain ⟨h1, h2⟩ := hHeld; exact ⟨keepc h1 LA, h2.out.trans (LA.mono h2.out.size)⟩
          replace B := B.keep LA
          have A := Bx.new v1 34 (.slice none 0 0)
          have lA : w8.heap.size ≤ v1.heap.size := by obtain ⟨-, hh⟩ := hHeld; exact hh.out.size
          have hne : B0 ≠ v1.heap.size := fun e => Nat.lt_irrefl _ (e ▸ zB)
          have zA' : v1.heap.size < (v1.alloc (.cells #[.slice none 0 0] 34)).heap.size := by rw [World.size_alloc]; omega
          replace zB := Nat.lt_trans zB zA'
          have zA := zA'
          clear zA' LA
          generalize v1.alloc (.cells #[.slice none 0 0] 34) = v2 at *
          generalize v1.heap.size = A0 at *
          clear hK K hHeld
          have hHeld := hHeld2
          clear hHeld2
          try simp only [Act.put, List.setIfInBounds_toArray, List.set_cons_zero, List.set_cons_succ]
          refine wpAnyH_ready (rs := [2]) (by kernel_rfl) (by simp) ?_
          refine AllReadyH.cons (o := ⟨_, _, _, _, _, _⟩) rfl (fun K hK => ?_) AllReadyH.nil
          go_simp
          go_at_call 35; refine (nowhere_two v2).mono ?_; rintro e v3 ⟨ia, rfl, ht, hl, K1⟩; (try go_wp2_with fail)
          have T1 : In2 _ ia (-1) (-1) := ht
          have L1 : w8.heap.size ≤ ia := Nat.le_trans hHeld.2.out.size hl
          clear ht hl
          try replace zA := Nat.lt_of_lt_of_le zA K1.size
          try replace zB := Nat.lt_of_lt_of_le zB K1.size
          refine hK.out _ _ ?_ (fun hHeld2 => ?_)
          · obtain ⟨h1, h2⟩ := hHeld; exact ⟨keepc h1 K1, h2.out.trans (K1.mono h2.out.size)⟩
          replace A := A.keep K1
          replace B := B.keep K1
          clear K1
          clear hK K hHeld
          have hHeld := hHeld2
          clear hHeld2
          try simp only [Act.put, List.setIfInBounds_toArray, List.set_cons_zero, List.set_cons_succ]
          refine wpAnyH_ready (rs := [5]) (by kernel_rfl) (by simp) ?_
          refine AllReadyH.cons (o := ⟨_, _, _, _, _, _⟩) rfl (fun K hK => ?_) AllReadyH.nil
          go_simp
          go_at_call 35; refine (nowhere_two v3).mono ?_; rintro e v4 ⟨ib, rfl, ht, hl, K1⟩; (try go_wp2_with fail)
          have T2 : In2 _ ib (-1) (-1) := ht
          have hio : ia ≠ ib := Nat.ne_of_lt (Nat.lt_of_lt_of_le T1.lt hl)
          have L2 : w8.heap.size ≤ ib := Nat.le_trans hHeld.2.out.size hl
          clear ht hl
          try replace zA := Nat.lt_of_lt_of_le zA K1.size
          try replace zB := Nat.lt_of_lt_of_le zB K1.size
          refine hK.out _ _ ?_ (fun hHeld2 => ?_)
          · obtain ⟨h1, h2⟩ := hHeld; exact ⟨keepc h1 K1, h2.out.trans (K1.mono h2.out.size)⟩
          replace T1 := T1.keep K1
          replace A := A.keep K1
          replace B := B.keep K1
          clear K1
          clear hK K hHeld
          have hHeld := hHeld2
          clear hHeld2
          try simp only [Act.put, List.setIfInBounds_toArray, List.set_cons_zero, List.set_cons_succ]
          refine wpAnyH_ready (rs := [8]) (by kernel_rfl) (by simp) ?_
          refine AllReadyH.cons (o := ⟨_, _, _, _, _, _⟩) rfl (fun K hK => ?_) AllReadyH.nil
          have p0 := A.c0; have pf := A.fr
          go_simp
          refine hK.out _ _ ?_ (fun hHeld2 => ?_)
          · obtain ⟨h1, h2⟩ := hHeld; exact ⟨far_c h1 (by have := lim.out; omega), Lib.hid (h2.out.setCell lA _)⟩
          replace T1 := T1.store (v := (.slice (some ⟨ia, 0, none⟩) 2 2)) A
          replace T2 := T2.store (v := (.slice (some ⟨ia, 0, none⟩) 2 2)) A
          replace B := B.other (u := (.slice (some ⟨ia, 0, none⟩) 2 2)) (k := A0) (by omega)
          replace A := A.set (.slice (some ⟨ia, 0, none⟩) 2 2)
          clear p0 pf
          generalize v4.setCell ⟨A0, 0, none⟩ (.slice (some ⟨ia, 0, none⟩) 2 2) = v5 at *
          clear hK K hHeld
          have hHeld := hHeld2
          clear hHeld2
          try simp only [Act.put, List.setIfInBounds_toArray, List.set_cons_zero, List.set_cons_succ]
          refine wpAnyH_ready (rs := [9]) (by kernel_rfl) (by simp) ?_
          refine AllReadyH.cons (o := ⟨_, _, _, _, _, _⟩) rfl (fun K hK => ?_) AllReadyH.nil
          have p0 := B.c0; have pf := B.fr
          go_simp
          refine hK.out _ _ ?_ (fun hHeld2 => ?_)
          · obtain ⟨h1, h2⟩ := hHeld; exact ⟨far_c h1 (by have := lim.out; omega), Lib.hid (h2.out.setCell lB _)⟩
          replace T1 := T1.store (v := (.slice (some ⟨ib, 0, none⟩) 2 2)) B
          replace T2 := T2.store (v := (.slice (some ⟨ib, 0, none⟩) 2 2)) B
          replace A := A.other (u := (.slice (some ⟨ib, 0, none⟩) 2 2)) (k := B0) (by omega)
          replace B := B.set (.slice (some ⟨ib, 0, none⟩) 2 2)
          clear p0 pf
          generalize v5.setCell ⟨B0, 0, none⟩ (.slice (some ⟨ib, 0, none⟩) 2 2) = v6 at *
          clear hK K hHeld
          have hHeld := hHeld2
          clear hHeld2
          try simp only [Act.put, List.setIfInBounds_toArray, List.set_cons_zero, List.set_cons_succ]
          refine wpAnyH_done (by kernel_rfl) ?_ _
          go_wp2_with fail
          go_meet
          case rel => exact ⟨A0, B0, ia, ib, rfl, rfl, A, B, T1, T2, ⟨hio, L1, L2⟩, hHeld.2⟩
    case rest =>
      obtain ⟨Bi, Bo, I, O, rfl, rfl, XI, XO, HI, HO, HN, K9⟩ := hcut
      generalize wc = w9 at *
      have XE9 := Lib.hid (XE8.out.keep K9.out)
      have HE9 := Lib.hid (HE8.out.keep K9.out)
      have XN9 := Lib.hid (XN.out.keep K9.out)
      have XM9 := Lib.hid (XM.out.keep K9.out)
      have TN9 := Lib.hid (TN.out.keep K9.out)
      have TM9 := Lib.hid (TM.out.keep K9.out)
      have L8 := Lib.hid (show be < w8.heap.size ∧ E < w8.heap.size ∧ Bn < w8.heap.size ∧ Bm < w8.heap.size ∧ T < w8.heap.size ∧ r < w8.heap.size ∧ s < w8.heap.size ∧ U < w8.heap.size ∧ p < w8.heap.size ∧ q < w8.heap.size from ⟨XE8.out.lt, HE8.out.lt, XN.out.lt, XM.out.lt, TN.out.tt.lt, TN.out.rr.lt, TN.out.ss.lt, TM.out.tt.lt, TM.out.rr.lt, TM.out.ss.lt⟩)
      have R8 : Hid (Below w1.heap.size w1 w9) := R7.out.trans (K9.out.mono R7.out.size)
      clear XE8 HE8 XN XM TN TM q0
      go_upto_region 10 with fail
      obtain ⟨C, hC⟩ : ∃ C : IsC, C = ⟨w8.heap.size, Bi, Bo, Bn, Bm, be, w9.heap.size, I, O, E, T, r, s, U, p, q⟩ := ⟨_, rfl⟩
      obtain ⟨w10, hw10⟩ : ∃ w10, w10 = w9.alloc (.cells #[C.fn] 44) := ⟨_, rfl⟩
      have K10 : Below w9.heap.size w9 w10 := by rw [hw10]; exact (Below.refl _ _).alloc (Nat.le_refl _) _
      have XV : Bx w10 44 w9.heap.size C.fn := by rw [hw10]; exact Bx.new _ _ _
      have HG : GeoI C := by
        obtain ⟨h0, h1, h2⟩ := HN.out
        obtain ⟨l1, l2, l3, l4, l5, l6, l7, l8, l9, l10⟩ := L8.out
        have a1 := XI.out.ne_in HI.out
        have a2 := XI.out.ne_in HO.out
        have a3 := XO.out.ne_in HI.out
        have a4 := XO.out.ne_in HO.out
        have a5 := HI.out.lt
        have a6 := HO.out.lt
        rw [hC]
        exact ⟨h0, h1, h2, ⟨Ne.symm a1, Ne.symm a3, by show Bn ≠ I; omega, by show Bm ≠ I; omega, by show be ≠ I; omega, by show w9.heap.size ≠ I; omega, by show E ≠ I; omega, by show T ≠ I; omega, by show r ≠ I; omega, by show s ≠ I; omega, by show U ≠ I; omega, by show p ≠ I; omega, by show q ≠ I; omega⟩,
          ⟨Ne.symm a2, Ne.symm a4, by show Bn ≠ O; omega, by show Bm ≠ O; omega, by show be ≠ O; omega, by show w9.heap.size ≠ O; omega, by show E ≠ O; omega, by show T ≠ O; omega, by show r ≠ O; omega, by show s ≠ O; omega, by show U ≠ O; omega, by show p ≠ O; omega, by show q ≠ O; omega⟩⟩
      have HE : EnvI C w8 (-1) (-1) (-1) (-1) w10 := by
        rw [hC] at XV ⊢
        exact ⟨(XI.out.keep K10).c0, (XO.out.keep K10).c0, (XN9.out.keep K10).c0, (XM9.out.keep K10).c0, (XE9.out.keep K10).c0, XV.c0, HI.out.keep K10, HO.out.keep K10, HE9.out.keep K10, (TN9.out.keep K10).tt, (TM9.out.keep K10).tt, (TN9.out.keep K10).rr, (TN9.out.keep K10).ss, (TM9.out.keep K10).rr, (TM9.out.keep K10).ss, K9.out.trans (K10.mono K9.out.size)⟩
      have CV := Lib.hid (visit_first C HG w8 w10 HE)
      have b0 := XV.c0
      have HC := Lib.hid hC
      have RW : Hid (Below w.heap.size w w8) := B1.trans (R7.out.mono B1.size)
      rw [hC] at hw10 b0
      unfold IsC.fn at hw10 b0
      rw [← hw10]
      rw [hC] at CV
      unfold IsC.args at CV
      clear hw10 K10 XV HG HE hC
      clear XI XO HI HO XE9 HE9 XN9 XM9 TN9 TM9 HN L8 R8 K9 R7 R6 lim Q HN1 B1
      go_wp2_with fail
      refine CV.out.mono ?_
      rintro e w11 ⟨rfl, HF⟩
      have e0 := HF.bi
      have HF := Lib.hid HF
      dsimp only at e0
      go_wp2
      go_ret2
      exact ⟨_, rfl, HF.out.ii, RW.out.trans (HF.out.bw.mono RW.out.size)⟩
end Go.Proofs.Ythcbcgaekbmoaaa
