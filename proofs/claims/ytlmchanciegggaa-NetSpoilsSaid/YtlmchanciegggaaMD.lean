/- The example: lives. -/
import Derived.Test.YtlmchanciegggaaMC
import Derived.Deep.RegionHeld3
namespace Go.Proofs.Ytlmchanciegggaa
open Go.RowKit

def IncC (w : World) (R : Nat) : Prop := w.cell? ⟨R, 0, none⟩ = some (.slice (some ⟨R + 1, 0, none⟩) 1 1) ∧ w.cell? ⟨R, 1, none⟩ = some (.slice (some ⟨R + 2, 0, none⟩) 1 1) ∧ w.cell? ⟨R + 1, 0, none⟩ = some (.int .i64 (-2)) ∧ w.cell? ⟨R + 2, 0, none⟩ = some (.int .i64 1)
theorem keepc {w w' : World} {p : Addr} {v : Value} (h : w.cell? p = some v) (hb : Below w.heap.size w w') : w'.cell? p = some v := (hb.cell (World.block_lt_of_cell? w p h)).trans h
theorem IncC.below {w w' : World} {R : Nat} (h : IncC w R) (hb : Below w.heap.size w w') : IncC w' R := ⟨keepc h.1 hb, keepc h.2.1 hb, keepc h.2.2.1 hb, keepc h.2.2.2 hb⟩
def One (w : World) (A : Option Addr) (x : Int) : Prop := ∃ b off, A = some ⟨b, off, none⟩ ∧ w.cell? ⟨b, off, none⟩ = some (.int .i64 x)
theorem One.below {w w' : World} {A : Option Addr} {x : Int} (h : One w A x) (hb : Below w.heap.size w w') : One w' A x := by
  obtain ⟨b, off, e, h1⟩ := h
  exact ⟨b, off, e, keepc h1 hb⟩
theorem One.of {w : World} {A : Option Addr} {x : Int} (h : ReadsV w A [x]) : One w A x := by
  obtain ⟨b, off, e, _, h1⟩ := h 0 (by simp)
  exact ⟨b, off, e, h1⟩
def Two (w : World) (A : Option Addr) (x y : Int) : Prop := ∃ b off, A = some ⟨b, off, none⟩ ∧ w.cell? ⟨b, off, none⟩ = some (.int .i64 x) ∧ w.cell? ⟨b, off + 1, none⟩ = some (.int .i64 y)
theorem Two.below {w w' : World} {A : Option Addr} {x y : Int} (h : Two w A x y) (hb : Below w.heap.size w w') : Two w' A x y := by
  obtain ⟨b, off, e, h1, h2⟩ := h
  exact ⟨b, off, e, keepc h1 hb, keepc h2 hb⟩
theorem Two.of {w : World} {A : Option Addr} {x y : Int} (h : ReadsV w A [x, y]) : Two w A x y := by
  obtain ⟨b, off, e, _, h1⟩ := h 0 (by simp)
  obtain ⟨b2, off2, e2, _, h2⟩ := h 1 (by simp)
  subst e
  cases e2
  exact ⟨b, off, rfl, h1, h2⟩
section
variable (a b c d : Nat) (W : World) (h : NetR W (pairV a b c d))
include h
theorem L_inc : Calls Try.prog 16 #[(.agg #[.string sN, .slice (some ⟨a, 0, none⟩) 2 2, .slice (some ⟨b, 0, none⟩) 1 1])] W (fun e w' => ∃ R, e = .returned (.slice (some ⟨R, 0, none⟩) 2 2) ∧ IncC w' R ∧ Below W.heap.size W w') := by
  refine (incidenceN_any (pairV a b c d) W h).mono ?_
  rintro e w' ⟨hb, h1, _⟩
  obtain ⟨R, _, he, m1, m2⟩ := h1 ⟨pair_ok a b c d, (show 0 < 1 by decide)⟩
  refine ⟨R, he, ⟨m1.cell (i := 0) (show 0 < 2 by decide), m1.cell (i := 1) (show 1 < 2 by decide), ?_, ?_⟩, hb⟩
  · rw [← pair_inc0 a b c d]; exact (m2 0 (show 0 < 2 by decide)).cell (i := 0) (show 0 < 1 by decide)
  · rw [← pair_inc1 a b c d]; exact (m2 1 (show 1 < 2 by decide)).cell (i := 0) (show 0 < 1 by decide)
theorem L_ini : Calls Try.prog 19 #[(.agg #[.string sN, .slice (some ⟨a, 0, none⟩) 2 2, .slice (some ⟨b, 0, none⟩) 1 1])] W (fun e w' => ∃ A k, e = .returned (.slice A 2 k) ∧ Two w' A (2) (0) ∧ Below W.heap.size W w') := by
  have C := initialN_any (pairV a b c d)  W h
  rw [pair_ini a b c d] at C
  refine C.mono ?_
  rintro e w' ⟨A, k, he, hr, hb⟩
  exact ⟨A, k, he, Two.of hr, hb⟩
theorem L_in : Calls Try.prog 33 #[(.agg #[.string sN, .slice (some ⟨a, 0, none⟩) 2 2, .slice (some ⟨b, 0, none⟩) 1 1]), .int .i64 0] W (fun e w' => ∃ A k, e = .returned (.slice A 1 k) ∧ One w' A (0) ∧ Below W.heap.size W w') := by
  have C := inputsN_any (pairV a b c d) 0 W h
  rw [pair_in a b c d] at C
  refine C.mono ?_
  rintro e w' ⟨A, k, he, hr, hb⟩
  exact ⟨A, k, he, One.of hr, hb⟩
theorem L_out : Calls Try.prog 35 #[(.agg #[.string sN, .slice (some ⟨a, 0, none⟩) 2 2, .slice (some ⟨b, 0, none⟩) 1 1]), .int .i64 0] W (fun e w' => ∃ A k, e = .returned (.slice A 1 k) ∧ One w' A (1) ∧ Below W.heap.size W w') := by
  have C := outputsN_any (pairV a b c d) 0 W h
  rw [pair_out a b c d] at C
  refine C.mono ?_
  rintro e w' ⟨A, k, he, hr, hb⟩
  exact ⟨A, k, he, One.of hr, hb⟩
theorem L_pro : Calls Try.prog 37 #[(.agg #[.string sN, .slice (some ⟨a, 0, none⟩) 2 2, .slice (some ⟨b, 0, none⟩) 1 1]), .int .i64 1] W (fun e w' => ∃ A k, e = .returned (.slice A 1 k) ∧ One w' A (0) ∧ Below W.heap.size W w') := by
  have C := producersN_any (pairV a b c d) 1 W h
  rw [pair_pro a b c d] at C
  refine C.mono ?_
  rintro e w' ⟨A, k, he, hr, hb⟩
  exact ⟨A, k, he, One.of hr, hb⟩
theorem L_con : Calls Try.prog 39 #[(.agg #[.string sN, .slice (some ⟨a, 0, none⟩) 2 2, .slice (some ⟨b, 0, none⟩) 1 1]), .int .i64 0] W (fun e w' => ∃ A k, e = .returned (.slice A 1 k) ∧ One w' A (0) ∧ Below W.heap.size W w') := by
  have C := consumersN_any (pairV a b c d) 0 W h
  rw [pair_con a b c d] at C
  refine C.mono ?_
  rintro e w' ⟨A, k, he, hr, hb⟩
  exact ⟨A, k, he, One.of hr, hb⟩
theorem L_chk : Calls Try.prog 13 #[(.agg #[.string sN, .slice (some ⟨a, 0, none⟩) 2 2, .slice (some ⟨b, 0, none⟩) 1 1])] W (fun e w' => e = .returned (.agg #[.int .i64 0, .int .i64 0]) ∧ Below W.heap.size W w') := by
  have C := check_any (pairV a b c d)  W h
  rw [pair_chk a b c d] at C
  exact C
theorem L_pq : Calls Try.prog 25 #[(.agg #[.string sN, .slice (some ⟨a, 0, none⟩) 2 2, .slice (some ⟨b, 0, none⟩) 1 1]), .string sQ] W (fun e w' => e = .returned (.int .i64 1) ∧ Below W.heap.size W w') := by
  have C := placeN_any (pairV a b c d) sQ W h
  rw [pair_q a b c d] at C
  exact C
theorem L_pt : Calls Try.prog 25 #[(.agg #[.string sN, .slice (some ⟨a, 0, none⟩) 2 2, .slice (some ⟨b, 0, none⟩) 1 1]), .string sT] W (fun e w' => e = .returned (.int .i64 (-1)) ∧ Below W.heap.size W w') := by
  have C := placeN_any (pairV a b c d) sT W h
  rw [pair_t a b c d] at C
  exact C
theorem L_tt : Calls Try.prog 27 #[(.agg #[.string sN, .slice (some ⟨a, 0, none⟩) 2 2, .slice (some ⟨b, 0, none⟩) 1 1]), .string sT] W (fun e w' => e = .returned (.int .i64 0) ∧ Below W.heap.size W w') := by
  have C := transN_any (pairV a b c d) sT W h
  rw [pair_tt a b c d] at C
  exact C
theorem L_pre : Calls Try.prog 29 #[(.agg #[.string sN, .slice (some ⟨a, 0, none⟩) 2 2, .slice (some ⟨b, 0, none⟩) 1 1]), .int .i64 0, .int .i64 0] W (fun e w' => e = .returned (.int .i64 2) ∧ Below W.heap.size W w') := by
  have C := preN_any (pairV a b c d) 0 0 W h
  rw [pair_pre a b c d] at C
  exact C
theorem L_post : Calls Try.prog 31 #[(.agg #[.string sN, .slice (some ⟨a, 0, none⟩) 2 2, .slice (some ⟨b, 0, none⟩) 1 1]), .int .i64 0, .int .i64 1] W (fun e w' => e = .returned (.int .i64 1) ∧ Below W.heap.size W w') := by
  have C := postN_any (pairV a b c d) 0 1 W h
  rw [pair_post a b c d] at C
  exact C
theorem L_plain : Calls Try.prog 21 #[(.agg #[.string sN, .slice (some ⟨a, 0, none⟩) 2 2, .slice (some ⟨b, 0, none⟩) 1 1])] W (fun e w' => e = .returned (.bool true) ∧ Below W.heap.size W w') := by
  have C := plainN_any (pairV a b c d)  W h
  rw [pair_plain a b c d] at C
  exact C
theorem L_ord : Calls Try.prog 23 #[(.agg #[.string sN, .slice (some ⟨a, 0, none⟩) 2 2, .slice (some ⟨b, 0, none⟩) 1 1])] W (fun e w' => e = .returned (.bool false) ∧ Below W.heap.size W w') := by
  have C := ordinaryN_any (pairV a b c d)  W h
  rw [pair_ord a b c d] at C
  exact C
theorem L_same : Calls Try.prog 44 #[(.agg #[.string sN, .slice (some ⟨a, 0, none⟩) 2 2, .slice (some ⟨b, 0, none⟩) 1 1]), (.agg #[.string sN, .slice (some ⟨a, 0, none⟩) 2 2, .slice (some ⟨b, 0, none⟩) 1 1])] W (fun e w' => e = .returned (.bool true) ∧ Below W.heap.size W w') := by
  have C := sameN_any (pairV a b c d) (pairV a b c d) W h h
  rw [pair_same a b c d] at C
  exact C
theorem L_other (t : Nat) (h2 : NetR W (twiceV t)) : Calls Try.prog 44 #[(.agg #[.string sN, .slice (some ⟨a, 0, none⟩) 2 2, .slice (some ⟨b, 0, none⟩) 1 1]), (.agg #[.string sN, .slice (some ⟨t, 0, none⟩) 2 2, .slice none 0 0])] W (fun e w' => e = .returned (.bool false) ∧ Below W.heap.size W w') := by
  have C := sameN_any (pairV a b c d) (twiceV t) W h h2
  rw [pair_other a b c d t] at C
  exact C
end
theorem L_twice (t : Nat) (W : World) (h : NetR W (twiceV t)) : Calls Try.prog 13 #[(.agg #[.string sN, .slice (some ⟨t, 0, none⟩) 2 2, .slice none 0 0])] W (fun e w' => e = .returned (.agg #[.int .i64 6, .int .i64 1]) ∧ Below W.heap.size W w') := by
  have C := check_any (twiceV t) W h
  rw [twice_chk t] at C
  exact C
theorem L_a1 (W : World) : Calls Try.prog 41 #[.string sA1] W (fun e w' => e = .returned (.bool true) ∧ Below W.heap.size W w') := by
  have C := name_any2 sA1 W (by decide)
  rw [name_a1] at C
  exact C
theorem L_1a (W : World) : Calls Try.prog 41 #[.string s1A] W (fun e w' => e = .returned (.bool false) ∧ Below W.heap.size W w') := by
  have C := name_any2 s1A W (by decide)
  rw [name_1a] at C
  exact C

set_option maxHeartbeats 8000000 in
set_option maxRecDepth 1000000 in
theorem lives_any (w : World) : Calls Try.prog 12 #[] w fun e w' => e = .returned (.bool true) ∧ Below w.heap.size w w' := by
  go_enter Try.func12, Try.ntmps12
  go_wp2_with fail
  refine (pair_any _).mono ?_
  rintro e w1 ⟨a, b, c, d, rfl, RN, K⟩
  go_wp2_with fail
  obtain ⟨w0, hw0⟩ : ∃ w0, w0 = (((w1.alloc (.cells #[.string sN, .slice (some ⟨a, 0, none⟩) 2 2, .slice (some ⟨b, 0, none⟩) 1 1] 25)).alloc (.cells #[.string ⟨#[112]⟩, .int .i64 0, .int .i64 0, .string ⟨#[112]⟩, .int .i64 0, .int .i64 0] 50)).alloc (.cells #[.string ⟨#[110]⟩, .slice (some ⟨w1.heap.size + 1, 0, none⟩) 2 2, .slice none 0 0] 25)) := ⟨_, rfl⟩
  have BW : Hid (Below w.heap.size w w0) := by
    rw [hw0]
    exact ((K.alloc K.size _).alloc (by simp only [World.size_alloc]; have := K.size; omega) _).alloc (by simp only [World.size_alloc]; have := K.size; omega) _
  have B1 : Below w1.heap.size w1 w0 := by
    rw [hw0]
    exact (((Below.refl _ _).alloc (Nat.le_refl _) _).alloc (by simp) _).alloc (by simp only [World.size_alloc]; omega) _
  have Q0 : Hid (w0.cell? ⟨w1.heap.size, 0, none⟩ = some (.string sN)) := by show _ = _; rw [hw0]; repeat (first | (refine newc _ _ _ _ _ rfl ?_; (simp; done)) | refine past ?_)
  have Q1 : Hid (w0.cell? ⟨w1.heap.size, 1, none⟩ = some (.slice (some ⟨a, 0, none⟩) 2 2)) := by show _ = _; rw [hw0]; repeat (first | (refine newc _ _ _ _ _ rfl ?_; (simp; done)) | refine past ?_)
  have Q2 : Hid (w0.cell? ⟨w1.heap.size, 2, none⟩ = some (.slice (some ⟨b, 0, none⟩) 1 1)) := by show _ = _; rw [hw0]; repeat (first | (refine newc _ _ _ _ _ rfl ?_; (simp; done)) | refine past ?_)
  have Q3 : Hid (w0.cell? ⟨w1.heap.size + 1 + 1, 0, none⟩ = some (.string sN)) := by show _ = _; rw [hw0]; repeat (first | (refine newc _ _ _ _ _ rfl ?_; (simp; done)) | refine past ?_)
  have Q4 : Hid (w0.cell? ⟨w1.heap.size + 1 + 1, 1, none⟩ = some (.slice (some ⟨w1.heap.size + 1, 0, none⟩) 2 2)) := by show _ = _; rw [hw0]; repeat (first | (refine newc _ _ _ _ _ rfl ?_; (simp; done)) | refine past ?_)
  have Q5 : Hid (w0.cell? ⟨w1.heap.size + 1 + 1, 2, none⟩ = some (.slice none 0 0)) := by show _ = _; rw [hw0]; repeat (first | (refine newc _ _ _ _ _ rfl ?_; (simp; done)) | refine past ?_)
  have RT2 : Hid (NetR w0 (twiceV (w1.heap.size + 1))) := by
    refine ⟨(show sN.size ≤ maxLen by decide), okp2 (show sP.size ≤ maxLen by decide) (show sP.size ≤ maxLen by decide), okt0, (show 2 ≤ 2 by decide), (show 0 ≤ 0 by decide), ?_, ReadsT.nil _ _⟩
    rw [hw0]
    exact readsP2 (by simp) (by repeat (first | (refine newc _ _ _ _ _ rfl ?_; (simp; done)) | refine past ?_)) (by repeat (first | (refine newc _ _ _ _ _ rfl ?_; (simp; done)) | refine past ?_)) (by repeat (first | (refine newc _ _ _ _ _ rfl ?_; (simp; done)) | refine past ?_)) (by repeat (first | (refine newc _ _ _ _ _ rfl ?_; (simp; done)) | refine past ?_)) (by repeat (first | (refine newc _ _ _ _ _ rfl ?_; (simp; done)) | refine past ?_)) (by repeat (first | (refine newc _ _ _ _ _ rfl ?_; (simp; done)) | refine past ?_))
  have RN2 : Hid (NetR w0 (pairV a b c d)) := RN.below B1 (Nat.le_refl _)
  rw [← hw0]
  clear hw0 B1 RN K
  generalize w1.heap.size + 1 + 1 = x2 at *
  generalize w1.heap.size + 1 = t at *
  generalize w1.heap.size = x1 at *
  have CN : Hid (∀ W, Below w0.heap.size w0 W → NetR W (pairV a b c d)) := fun W hW => RN2.out.below hW (Nat.le_refl _)
  have CT : Hid (∀ W, Below w0.heap.size w0 W → NetR W (twiceV t)) := fun W hW => RT2.out.below hW (Nat.le_refl _)
  clear RN2 RT2
  refine wp_region_held_drew (S := fun w' => w'.cell? ⟨x1, 0, none⟩ = some (.string sN) ∧ w'.cell? ⟨x1, 1, none⟩ = some (.slice (some ⟨a, 0, none⟩) 2 2) ∧ w'.cell? ⟨x1, 2, none⟩ = some (.slice (some ⟨b, 0, none⟩) 1 1) ∧ Hid (Below w0.heap.size w0 w')) (by kernel_rfl) ?_ (fun hHeld => ?_)
  · exact ⟨Q0.out, Q1.out, Q2.out, (Below.refl _ _).drew⟩
  refine wpAnyH_take (oi := ⟨_, _, _, _, _, _⟩) (i := 0) (v := ?_) rfl (by kernel_rfl) (by kernel_rfl) (by kernel_rfl) (fun _ _ _ h => h) (Or.inl ⟨by rfl, ?ya0⟩) (by assumption) ?ra0
  case ya0 => (intro w hSw; (try dsimp only at hSw); go_simp; (try with_reducible rfl))
  try simp only [Act.put, List.setIfInBounds_toArray, List.set_cons_zero, List.set_cons_succ]
  refine wpAnyH_take (oi := ⟨_, _, _, _, _, _⟩) (i := 2) (v := ?_) rfl (by kernel_rfl) (by kernel_rfl) (by kernel_rfl) (fun _ _ _ h => h) (Or.inl ⟨by rfl, ?ya2⟩) (by assumption) ?ra2
  case ya2 => (intro w hSw; (try dsimp only at hSw); go_simp; (try with_reducible rfl))
  try simp only [Act.put, List.setIfInBounds_toArray, List.set_cons_zero, List.set_cons_succ]
  refine wpAnyH_ready (rs := [1]) (by kernel_rfl) (by simp) ?_
  refine AllReadyH.cons (o := ⟨_, _, _, _, _, _⟩) rfl (fun K hK => ?_) AllReadyH.nil
  go_simp
  go_at_call 16; refine (L_inc a b c d _ (CN.out _ hHeld.2.2.2.out)).mono ?_; rintro e w2 ⟨R, rfl, I2, L2⟩; (try go_wp2_with fail)
  refine hK.out _ _ ?_ (fun hHeld2 => ?_)
  · obtain ⟨h1, h2, h3, h4⟩ := hHeld; exact ⟨keepc h1 L2, keepc h2 L2, keepc h3 L2, h4.out.trans (L2.mono h4.out.size)⟩
  clear hK K hHeld
  have hHeld := hHeld2
  clear hHeld2
  try simp only [Act.put, List.setIfInBounds_toArray, List.set_cons_zero, List.set_cons_succ]
  refine wpAnyH_ready (rs := [3]) (by kernel_rfl) (by simp) ?_
  refine AllReadyH.cons (o := ⟨_, _, _, _, _, _⟩) rfl (fun K hK => ?_) AllReadyH.nil
  go_simp
  go_at_call 19; refine (L_ini a b c d _ (CN.out _ hHeld.2.2.2.out)).mono ?_; rintro e w3 ⟨A3, k3, rfl, T3, L3⟩; (try go_wp2_with fail)
  refine hK.out _ _ ?_ (fun hHeld2 => ?_)
  · obtain ⟨h1, h2, h3, h4⟩ := hHeld; exact ⟨keepc h1 L3, keepc h2 L3, keepc h3 L3, h4.out.trans (L3.mono h4.out.size)⟩
  clear hK K hHeld
  have hHeld := hHeld2
  clear hHeld2
  try simp only [Act.put, List.setIfInBounds_toArray, List.set_cons_zero, List.set_cons_succ]
  refine wpAnyH_take (oi := ⟨_, _, _, _, _, _⟩) (i := 4) (v := ?_) rfl (by kernel_rfl) (by kernel_rfl) (by kernel_rfl) (fun _ _ _ h => h) (Or.inl ⟨by rfl, ?ya4⟩) (by assumption) ?ra4
  case ya4 => (intro w hSw; (try dsimp only at hSw); go_simp; (try with_reducible rfl))
  try simp only [Act.put, List.setIfInBounds_toArray, List.set_cons_zero, List.set_cons_succ]
  refine wpAnyH_take (oi := ⟨_, _, _, _, _, _⟩) (i := 5) (v := ?_) rfl (by kernel_rfl) (by kernel_rfl) (by kernel_rfl) (fun _ _ _ h => h) (Or.inl ⟨by rfl, ?ya5⟩) (by assumption) ?ra5
  case ya5 => (intro w hSw; (try dsimp only at hSw); go_simp; (try with_reducible rfl))
  try simp only [Act.put, List.setIfInBounds_toArray, List.set_cons_zero, List.set_cons_succ]
  refine wpAnyH_done (by kernel_rfl) ?_ _
  have I3 : Hid (IncC w3 R) := I2.below L3
  have T3 := Lib.hid T3
  have Bw3 := Lib.hid hHeld.2.2.2.out
  clear I2 L2 L3 hHeld
  have q0w3 : w3.cell? ⟨x1, 0, none⟩ = some (.string sN) := keepc Q0.out Bw3.out
  have q1w3 : w3.cell? ⟨x1, 1, none⟩ = some (.slice (some ⟨a, 0, none⟩) 2 2) := keepc Q1.out Bw3.out
  have q2w3 : w3.cell? ⟨x1, 2, none⟩ = some (.slice (some ⟨b, 0, none⟩) 1 1) := keepc Q2.out Bw3.out
  have q3w3 : w3.cell? ⟨x2, 0, none⟩ = some (.string sN) := keepc Q3.out Bw3.out
  have q4w3 : w3.cell? ⟨x2, 1, none⟩ = some (.slice (some ⟨t, 0, none⟩) 2 2) := keepc Q4.out Bw3.out
  have q5w3 : w3.cell? ⟨x2, 2, none⟩ = some (.slice none 0 0) := keepc Q5.out Bw3.out
  go_wp2_with fail
  refine (L_chk a b c d _ (CN.out _ Bw3.out)).mono ?_
  rintro e w4 ⟨rfl, L⟩
  have I4 := Lib.hid (I3.out.below L)
  have T4 := Lib.hid (T3.out.below L)
  have Bw4 := Lib.hid (Bw3.out.trans (L.mono Bw3.out.size))
  clear q0w3 q1w3 q2w3 q3w3 q4w3 q5w3
  clear L I3 T3 Bw3
  have q0w4 : w4.cell? ⟨x1, 0, none⟩ = some (.string sN) := keepc Q0.out Bw4.out
  have q1w4 : w4.cell? ⟨x1, 1, none⟩ = some (.slice (some ⟨a, 0, none⟩) 2 2) := keepc Q1.out Bw4.out
  have q2w4 : w4.cell? ⟨x1, 2, none⟩ = some (.slice (some ⟨b, 0, none⟩) 1 1) := keepc Q2.out Bw4.out
  have q3w4 : w4.cell? ⟨x2, 0, none⟩ = some (.string sN) := keepc Q3.out Bw4.out
  have q4w4 : w4.cell? ⟨x2, 1, none⟩ = some (.slice (some ⟨t, 0, none⟩) 2 2) := keepc Q4.out Bw4.out
  have q5w4 : w4.cell? ⟨x2, 2, none⟩ = some (.slice none 0 0) := keepc Q5.out Bw4.out
  have hfd : ∀ (a b : Int) (w : World), (Instr.field 31 (.agg #[.int .i64 a, .int .i64 b]) 0).run Try.prog w = .ok (.int .i64 a) w := fun _ _ _ => by kernel_rfl
  have hfn : ∀ w, (binOp .neq 31 (.agg #[.int .i64 6, .int .i64 1]) (.agg #[.int .i64 6, .int .i64 1])).run Try.prog w = .ok (.bool false) w := fun w => faultNeq 6 1 6 1 w
  have hmg : Try.prog.eqGuardType Try.prog.depth 31 = false := by kernel_rfl
  go_wp2_with fail
  refine (L_twice t _ (CT.out _ Bw4.out)).mono ?_
  rintro e w5 ⟨rfl, L⟩
  obtain ⟨i0, i1, i2, i3⟩ := I4.out.below L
  obtain ⟨bi, oi, rfl, t0, t1⟩ := T4.out.below L
  have Bw5 := Lib.hid (Bw4.out.trans (L.mono Bw4.out.size))
  clear q0w4 q1w4 q2w4 q3w4 q4w4 q5w4
  clear L I4 T4 Bw4
  have q0w5 : w5.cell? ⟨x1, 0, none⟩ = some (.string sN) := keepc Q0.out Bw5.out
  have q1w5 : w5.cell? ⟨x1, 1, none⟩ = some (.slice (some ⟨a, 0, none⟩) 2 2) := keepc Q1.out Bw5.out
  have q2w5 : w5.cell? ⟨x1, 2, none⟩ = some (.slice (some ⟨b, 0, none⟩) 1 1) := keepc Q2.out Bw5.out
  have q3w5 : w5.cell? ⟨x2, 0, none⟩ = some (.string sN) := keepc Q3.out Bw5.out
  have q4w5 : w5.cell? ⟨x2, 1, none⟩ = some (.slice (some ⟨t, 0, none⟩) 2 2) := keepc Q4.out Bw5.out
  have q5w5 : w5.cell? ⟨x2, 2, none⟩ = some (.slice none 0 0) := keepc Q5.out Bw5.out
  go_wp2_with fail
  clear i0 i1 i2 i3 t0 t1 hfd hfn hmg
  refine wp_region_held_drew (S := fun w' => w'.cell? ⟨x1, 0, none⟩ = some (.string sN) ∧ w'.cell? ⟨x1, 1, none⟩ = some (.slice (some ⟨a, 0, none⟩) 2 2) ∧ w'.cell? ⟨x1, 2, none⟩ = some (.slice (some ⟨b, 0, none⟩) 1 1) ∧ Hid (Below w0.heap.size w0 w')) (by kernel_rfl) ?_ (fun hHeld => ?_)
  · exact ⟨q0w5, q1w5, q2w5, Bw5.out.drew⟩
  refine wpAnyH_take (oi := ⟨_, _, _, _, _, _⟩) (i := 0) (v := ?_) rfl (by kernel_rfl) (by kernel_rfl) (by kernel_rfl) (fun _ _ _ h => h) (Or.inl ⟨by rfl, ?yb0⟩) (by assumption) ?rb0
  case yb0 => (intro w hSw; (try dsimp only at hSw); go_simp; (try with_reducible rfl))
  try simp only [Act.put, List.setIfInBounds_toArray, List.set_cons_zero, List.set_cons_succ]
  refine wpAnyH_take (oi := ⟨_, _, _, _, _, _⟩) (i := 2) (v := ?_) rfl (by kernel_rfl) (by kernel_rfl) (by kernel_rfl) (fun _ _ _ h => h) (Or.inl ⟨by rfl, ?yb2⟩) (by assumption) ?rb2
  case yb2 => (intro w hSw; (try dsimp only at hSw); go_simp; (try with_reducible rfl))
  try simp only [Act.put, List.setIfInBounds_toArray, List.set_cons_zero, List.set_cons_succ]
  refine wpAnyH_take (oi := ⟨_, _, _, _, _, _⟩) (i := 4) (v := ?_) rfl (by kernel_rfl) (by kernel_rfl) (by kernel_rfl) (fun _ _ _ h => h) (Or.inl ⟨by rfl, ?yb4⟩) (by assumption) ?rb4
  case yb4 => (intro w hSw; (try dsimp only at hSw); go_simp; (try with_reducible rfl))
  try simp only [Act.put, List.setIfInBounds_toArray, List.set_cons_zero, List.set_cons_succ]
  refine wpAnyH_take (oi := ⟨_, _, _, _, _, _⟩) (i := 6) (v := ?_) rfl (by kernel_rfl) (by kernel_rfl) (by kernel_rfl) (fun _ _ _ h => h) (Or.inl ⟨by rfl, ?yb6⟩) (by assumption) ?rb6
  case yb6 => (intro w hSw; (try dsimp only at hSw); go_simp; (try with_reducible rfl))
  try simp only [Act.put, List.setIfInBounds_toArray, List.set_cons_zero, List.set_cons_succ]
  refine wpAnyH_ready (rs := [1]) (by kernel_rfl) (by simp) ?_
  refine AllReadyH.cons (o := ⟨_, _, _, _, _, _⟩) rfl (fun K hK => ?_) AllReadyH.nil
  go_simp
  go_at_call 33; refine (L_in a b c d _ (CN.out _ hHeld.2.2.2.out)).mono ?_; rintro e w6 ⟨A6, k6, rfl, T6, L6⟩; (try go_wp2_with fail)
  refine hK.out _ _ ?_ (fun hHeld2 => ?_)
  · obtain ⟨h1, h2, h3, h4⟩ := hHeld; exact ⟨keepc h1 L6, keepc h2 L6, keepc h3 L6, h4.out.trans (L6.mono h4.out.size)⟩
  clear hK K hHeld
  have hHeld := hHeld2
  clear hHeld2
  try simp only [Act.put, List.setIfInBounds_toArray, List.set_cons_zero, List.set_cons_succ]
  refine wpAnyH_ready (rs := [3]) (by kernel_rfl) (by simp) ?_
  refine AllReadyH.cons (o := ⟨_, _, _, _, _, _⟩) rfl (fun K hK => ?_) AllReadyH.nil
  go_simp
  go_at_call 35; refine (L_out a b c d _ (CN.out _ hHeld.2.2.2.out)).mono ?_; rintro e w7 ⟨A7, k7, rfl, T7, L7⟩; (try go_wp2_with fail)
  refine hK.out _ _ ?_ (fun hHeld2 => ?_)
  · obtain ⟨h1, h2, h3, h4⟩ := hHeld; exact ⟨keepc h1 L7, keepc h2 L7, keepc h3 L7, h4.out.trans (L7.mono h4.out.size)⟩
  clear hK K hHeld
  have hHeld := hHeld2
  clear hHeld2
  try simp only [Act.put, List.setIfInBounds_toArray, List.set_cons_zero, List.set_cons_succ]
  refine wpAnyH_ready (rs := [5]) (by kernel_rfl) (by simp) ?_
  refine AllReadyH.cons (o := ⟨_, _, _, _, _, _⟩) rfl (fun K hK => ?_) AllReadyH.nil
  go_simp
  go_at_call 37; refine (L_pro a b c d _ (CN.out _ hHeld.2.2.2.out)).mono ?_; rintro e w8 ⟨A8, k8, rfl, T8, L8⟩; (try go_wp2_with fail)
  refine hK.out _ _ ?_ (fun hHeld2 => ?_)
  · obtain ⟨h1, h2, h3, h4⟩ := hHeld; exact ⟨keepc h1 L8, keepc h2 L8, keepc h3 L8, h4.out.trans (L8.mono h4.out.size)⟩
  clear hK K hHeld
  have hHeld := hHeld2
  clear hHeld2
  try simp only [Act.put, List.setIfInBounds_toArray, List.set_cons_zero, List.set_cons_succ]
  refine wpAnyH_ready (rs := [7]) (by kernel_rfl) (by simp) ?_
  refine AllReadyH.cons (o := ⟨_, _, _, _, _, _⟩) rfl (fun K hK => ?_) AllReadyH.nil
  go_simp
  go_at_call 39; refine (L_con a b c d _ (CN.out _ hHeld.2.2.2.out)).mono ?_; rintro e w9 ⟨A9, k9, rfl, T9, L9⟩; (try go_wp2_with fail)
  refine hK.out _ _ ?_ (fun hHeld2 => ?_)
  · obtain ⟨h1, h2, h3, h4⟩ := hHeld; exact ⟨keepc h1 L9, keepc h2 L9, keepc h3 L9, h4.out.trans (L9.mono h4.out.size)⟩
  clear hK K hHeld
  have hHeld := hHeld2
  clear hHeld2
  try simp only [Act.put, List.setIfInBounds_toArray, List.set_cons_zero, List.set_cons_succ]
  refine wpAnyH_take (oi := ⟨_, _, _, _, _, _⟩) (i := 8) (v := ?_) rfl (by kernel_rfl) (by kernel_rfl) (by kernel_rfl) (fun _ _ _ h => h) (Or.inl ⟨by rfl, ?yb8⟩) (by assumption) ?rb8
  case yb8 => (intro w hSw; (try dsimp only at hSw); go_simp; (try with_reducible rfl))
  try simp only [Act.put, List.setIfInBounds_toArray, List.set_cons_zero, List.set_cons_succ]
  refine wpAnyH_take (oi := ⟨_, _, _, _, _, _⟩) (i := 9) (v := ?_) rfl (by kernel_rfl) (by kernel_rfl) (by kernel_rfl) (fun _ _ _ h => h) (Or.inl ⟨by rfl, ?yb9⟩) (by assumption) ?rb9
  case yb9 => (intro w hSw; (try dsimp only at hSw); go_simp; (try with_reducible rfl))
  try simp only [Act.put, List.setIfInBounds_toArray, List.set_cons_zero, List.set_cons_succ]
  refine wpAnyH_take (oi := ⟨_, _, _, _, _, _⟩) (i := 10) (v := ?_) rfl (by kernel_rfl) (by kernel_rfl) (by kernel_rfl) (fun _ _ _ h => h) (Or.inl ⟨by rfl, ?yb10⟩) (by assumption) ?rb10
  case yb10 => (intro w hSw; (try dsimp only at hSw); go_simp; (try with_reducible rfl))
  try simp only [Act.put, List.setIfInBounds_toArray, List.set_cons_zero, List.set_cons_succ]
  refine wpAnyH_take (oi := ⟨_, _, _, _, _, _⟩) (i := 11) (v := ?_) rfl (by kernel_rfl) (by kernel_rfl) (by kernel_rfl) (fun _ _ _ h => h) (Or.inl ⟨by rfl, ?yb11⟩) (by assumption) ?rb11
  case yb11 => (intro w hSw; (try dsimp only at hSw); go_simp; (try with_reducible rfl))
  try simp only [Act.put, List.setIfInBounds_toArray, List.set_cons_zero, List.set_cons_succ]
  refine wpAnyH_done (by kernel_rfl) ?_ _
  obtain ⟨b6, o6, rfl, t6⟩ := ((T6.below L7).below L8).below L9
  obtain ⟨b7, o7, rfl, t7⟩ := (T7.below L8).below L9
  obtain ⟨b8, o8, rfl, t8⟩ := T8.below L9
  obtain ⟨b9, o9, rfl, t9⟩ := T9
  have Bw9 := Lib.hid hHeld.2.2.2.out
  clear T6 T7 T8 L6 L7 L8 L9 hHeld Bw5 q0w5 q1w5 q2w5 q3w5 q4w5 q5w5
  have q0w9 : w9.cell? ⟨x1, 0, none⟩ = some (.string sN) := keepc Q0.out Bw9.out
  have q1w9 : w9.cell? ⟨x1, 1, none⟩ = some (.slice (some ⟨a, 0, none⟩) 2 2) := keepc Q1.out Bw9.out
  have q2w9 : w9.cell? ⟨x1, 2, none⟩ = some (.slice (some ⟨b, 0, none⟩) 1 1) := keepc Q2.out Bw9.out
  have q3w9 : w9.cell? ⟨x2, 0, none⟩ = some (.string sN) := keepc Q3.out Bw9.out
  have q4w9 : w9.cell? ⟨x2, 1, none⟩ = some (.slice (some ⟨t, 0, none⟩) 2 2) := keepc Q4.out Bw9.out
  have q5w9 : w9.cell? ⟨x2, 2, none⟩ = some (.slice none 0 0) := keepc Q5.out Bw9.out
  go_wp2_with fail
  clear t6 t7 t8 t9
  refine (L_a1 _).mono ?_
  rintro e w10 ⟨rfl, L⟩
  have Bw10 := Lib.hid (Bw9.out.trans (L.mono Bw9.out.size))
  clear q0w9 q1w9 q2w9 q3w9 q4w9 q5w9
  clear L Bw9
  have q0w10 : w10.cell? ⟨x1, 0, none⟩ = some (.string sN) := keepc Q0.out Bw10.out
  have q1w10 : w10.cell? ⟨x1, 1, none⟩ = some (.slice (some ⟨a, 0, none⟩) 2 2) := keepc Q1.out Bw10.out
  have q2w10 : w10.cell? ⟨x1, 2, none⟩ = some (.slice (some ⟨b, 0, none⟩) 1 1) := keepc Q2.out Bw10.out
  have q3w10 : w10.cell? ⟨x2, 0, none⟩ = some (.string sN) := keepc Q3.out Bw10.out
  have q4w10 : w10.cell? ⟨x2, 1, none⟩ = some (.slice (some ⟨t, 0, none⟩) 2 2) := keepc Q4.out Bw10.out
  have q5w10 : w10.cell? ⟨x2, 2, none⟩ = some (.slice none 0 0) := keepc Q5.out Bw10.out
  go_wp2_with fail
  refine (L_1a _).mono ?_
  rintro e w11 ⟨rfl, L⟩
  have Bw11 := Lib.hid (Bw10.out.trans (L.mono Bw10.out.size))
  clear q0w10 q1w10 q2w10 q3w10 q4w10 q5w10
  clear L Bw10
  have q0w11 : w11.cell? ⟨x1, 0, none⟩ = some (.string sN) := keepc Q0.out Bw11.out
  have q1w11 : w11.cell? ⟨x1, 1, none⟩ = some (.slice (some ⟨a, 0, none⟩) 2 2) := keepc Q1.out Bw11.out
  have q2w11 : w11.cell? ⟨x1, 2, none⟩ = some (.slice (some ⟨b, 0, none⟩) 1 1) := keepc Q2.out Bw11.out
  have q3w11 : w11.cell? ⟨x2, 0, none⟩ = some (.string sN) := keepc Q3.out Bw11.out
  have q4w11 : w11.cell? ⟨x2, 1, none⟩ = some (.slice (some ⟨t, 0, none⟩) 2 2) := keepc Q4.out Bw11.out
  have q5w11 : w11.cell? ⟨x2, 2, none⟩ = some (.slice none 0 0) := keepc Q5.out Bw11.out
  go_wp2_with fail
  refine (L_pq a b c d _ (CN.out _ Bw11.out)).mono ?_
  rintro e w12 ⟨rfl, L⟩
  have Bw12 := Lib.hid (Bw11.out.trans (L.mono Bw11.out.size))
  clear q0w11 q1w11 q2w11 q3w11 q4w11 q5w11
  clear L Bw11
  have q0w12 : w12.cell? ⟨x1, 0, none⟩ = some (.string sN) := keepc Q0.out Bw12.out
  have q1w12 : w12.cell? ⟨x1, 1, none⟩ = some (.slice (some ⟨a, 0, none⟩) 2 2) := keepc Q1.out Bw12.out
  have q2w12 : w12.cell? ⟨x1, 2, none⟩ = some (.slice (some ⟨b, 0, none⟩) 1 1) := keepc Q2.out Bw12.out
  have q3w12 : w12.cell? ⟨x2, 0, none⟩ = some (.string sN) := keepc Q3.out Bw12.out
  have q4w12 : w12.cell? ⟨x2, 1, none⟩ = some (.slice (some ⟨t, 0, none⟩) 2 2) := keepc Q4.out Bw12.out
  have q5w12 : w12.cell? ⟨x2, 2, none⟩ = some (.slice none 0 0) := keepc Q5.out Bw12.out
  go_wp2_with fail
  refine (L_pt a b c d _ (CN.out _ Bw12.out)).mono ?_
  rintro e w13 ⟨rfl, L⟩
  have Bw13 := Lib.hid (Bw12.out.trans (L.mono Bw12.out.size))
  clear q0w12 q1w12 q2w12 q3w12 q4w12 q5w12
  clear L Bw12
  have q0w13 : w13.cell? ⟨x1, 0, none⟩ = some (.string sN) := keepc Q0.out Bw13.out
  have q1w13 : w13.cell? ⟨x1, 1, none⟩ = some (.slice (some ⟨a, 0, none⟩) 2 2) := keepc Q1.out Bw13.out
  have q2w13 : w13.cell? ⟨x1, 2, none⟩ = some (.slice (some ⟨b, 0, none⟩) 1 1) := keepc Q2.out Bw13.out
  have q3w13 : w13.cell? ⟨x2, 0, none⟩ = some (.string sN) := keepc Q3.out Bw13.out
  have q4w13 : w13.cell? ⟨x2, 1, none⟩ = some (.slice (some ⟨t, 0, none⟩) 2 2) := keepc Q4.out Bw13.out
  have q5w13 : w13.cell? ⟨x2, 2, none⟩ = some (.slice none 0 0) := keepc Q5.out Bw13.out
  go_wp2_with fail
  refine (L_tt a b c d _ (CN.out _ Bw13.out)).mono ?_
  rintro e w14 ⟨rfl, L⟩
  have Bw14 := Lib.hid (Bw13.out.trans (L.mono Bw13.out.size))
  clear q0w13 q1w13 q2w13 q3w13 q4w13 q5w13
  clear L Bw13
  have q0w14 : w14.cell? ⟨x1, 0, none⟩ = some (.string sN) := keepc Q0.out Bw14.out
  have q1w14 : w14.cell? ⟨x1, 1, none⟩ = some (.slice (some ⟨a, 0, none⟩) 2 2) := keepc Q1.out Bw14.out
  have q2w14 : w14.cell? ⟨x1, 2, none⟩ = some (.slice (some ⟨b, 0, none⟩) 1 1) := keepc Q2.out Bw14.out
  have q3w14 : w14.cell? ⟨x2, 0, none⟩ = some (.string sN) := keepc Q3.out Bw14.out
  have q4w14 : w14.cell? ⟨x2, 1, none⟩ = some (.slice (some ⟨t, 0, none⟩) 2 2) := keepc Q4.out Bw14.out
  have q5w14 : w14.cell? ⟨x2, 2, none⟩ = some (.slice none 0 0) := keepc Q5.out Bw14.out
  go_wp2_with fail
  refine (L_pre a b c d _ (CN.out _ Bw14.out)).mono ?_
  rintro e w15 ⟨rfl, L⟩
  have Bw15 := Lib.hid (Bw14.out.trans (L.mono Bw14.out.size))
  clear q0w14 q1w14 q2w14 q3w14 q4w14 q5w14
  clear L Bw14
  have q0w15 : w15.cell? ⟨x1, 0, none⟩ = some (.string sN) := keepc Q0.out Bw15.out
  have q1w15 : w15.cell? ⟨x1, 1, none⟩ = some (.slice (some ⟨a, 0, none⟩) 2 2) := keepc Q1.out Bw15.out
  have q2w15 : w15.cell? ⟨x1, 2, none⟩ = some (.slice (some ⟨b, 0, none⟩) 1 1) := keepc Q2.out Bw15.out
  have q3w15 : w15.cell? ⟨x2, 0, none⟩ = some (.string sN) := keepc Q3.out Bw15.out
  have q4w15 : w15.cell? ⟨x2, 1, none⟩ = some (.slice (some ⟨t, 0, none⟩) 2 2) := keepc Q4.out Bw15.out
  have q5w15 : w15.cell? ⟨x2, 2, none⟩ = some (.slice none 0 0) := keepc Q5.out Bw15.out
  go_wp2_with fail
  refine (L_post a b c d _ (CN.out _ Bw15.out)).mono ?_
  rintro e w16 ⟨rfl, L⟩
  have Bw16 := Lib.hid (Bw15.out.trans (L.mono Bw15.out.size))
  clear q0w15 q1w15 q2w15 q3w15 q4w15 q5w15
  clear L Bw15
  have q0w16 : w16.cell? ⟨x1, 0, none⟩ = some (.string sN) := keepc Q0.out Bw16.out
  have q1w16 : w16.cell? ⟨x1, 1, none⟩ = some (.slice (some ⟨a, 0, none⟩) 2 2) := keepc Q1.out Bw16.out
  have q2w16 : w16.cell? ⟨x1, 2, none⟩ = some (.slice (some ⟨b, 0, none⟩) 1 1) := keepc Q2.out Bw16.out
  have q3w16 : w16.cell? ⟨x2, 0, none⟩ = some (.string sN) := keepc Q3.out Bw16.out
  have q4w16 : w16.cell? ⟨x2, 1, none⟩ = some (.slice (some ⟨t, 0, none⟩) 2 2) := keepc Q4.out Bw16.out
  have q5w16 : w16.cell? ⟨x2, 2, none⟩ = some (.slice none 0 0) := keepc Q5.out Bw16.out
  go_wp2_with fail
  refine (L_plain a b c d _ (CN.out _ Bw16.out)).mono ?_
  rintro e w17 ⟨rfl, L⟩
  have Bw17 := Lib.hid (Bw16.out.trans (L.mono Bw16.out.size))
  clear q0w16 q1w16 q2w16 q3w16 q4w16 q5w16
  clear L Bw16
  have q0w17 : w17.cell? ⟨x1, 0, none⟩ = some (.string sN) := keepc Q0.out Bw17.out
  have q1w17 : w17.cell? ⟨x1, 1, none⟩ = some (.slice (some ⟨a, 0, none⟩) 2 2) := keepc Q1.out Bw17.out
  have q2w17 : w17.cell? ⟨x1, 2, none⟩ = some (.slice (some ⟨b, 0, none⟩) 1 1) := keepc Q2.out Bw17.out
  have q3w17 : w17.cell? ⟨x2, 0, none⟩ = some (.string sN) := keepc Q3.out Bw17.out
  have q4w17 : w17.cell? ⟨x2, 1, none⟩ = some (.slice (some ⟨t, 0, none⟩) 2 2) := keepc Q4.out Bw17.out
  have q5w17 : w17.cell? ⟨x2, 2, none⟩ = some (.slice none 0 0) := keepc Q5.out Bw17.out
  go_wp2_with fail
  refine (L_ord a b c d _ (CN.out _ Bw17.out)).mono ?_
  rintro e w18 ⟨rfl, L⟩
  have Bw18 := Lib.hid (Bw17.out.trans (L.mono Bw17.out.size))
  clear q0w17 q1w17 q2w17 q3w17 q4w17 q5w17
  clear L Bw17
  have q0w18 : w18.cell? ⟨x1, 0, none⟩ = some (.string sN) := keepc Q0.out Bw18.out
  have q1w18 : w18.cell? ⟨x1, 1, none⟩ = some (.slice (some ⟨a, 0, none⟩) 2 2) := keepc Q1.out Bw18.out
  have q2w18 : w18.cell? ⟨x1, 2, none⟩ = some (.slice (some ⟨b, 0, none⟩) 1 1) := keepc Q2.out Bw18.out
  have q3w18 : w18.cell? ⟨x2, 0, none⟩ = some (.string sN) := keepc Q3.out Bw18.out
  have q4w18 : w18.cell? ⟨x2, 1, none⟩ = some (.slice (some ⟨t, 0, none⟩) 2 2) := keepc Q4.out Bw18.out
  have q5w18 : w18.cell? ⟨x2, 2, none⟩ = some (.slice none 0 0) := keepc Q5.out Bw18.out
  go_wp2_with fail
  refine (L_same a b c d _ (CN.out _ Bw18.out)).mono ?_
  rintro e w19 ⟨rfl, L⟩
  have Bw19 := Lib.hid (Bw18.out.trans (L.mono Bw18.out.size))
  clear q0w18 q1w18 q2w18 q3w18 q4w18 q5w18
  clear L Bw18
  have q0w19 : w19.cell? ⟨x1, 0, none⟩ = some (.string sN) := keepc Q0.out Bw19.out
  have q1w19 : w19.cell? ⟨x1, 1, none⟩ = some (.slice (some ⟨a, 0, none⟩) 2 2) := keepc Q1.out Bw19.out
  have q2w19 : w19.cell? ⟨x1, 2, none⟩ = some (.slice (some ⟨b, 0, none⟩) 1 1) := keepc Q2.out Bw19.out
  have q3w19 : w19.cell? ⟨x2, 0, none⟩ = some (.string sN) := keepc Q3.out Bw19.out
  have q4w19 : w19.cell? ⟨x2, 1, none⟩ = some (.slice (some ⟨t, 0, none⟩) 2 2) := keepc Q4.out Bw19.out
  have q5w19 : w19.cell? ⟨x2, 2, none⟩ = some (.slice none 0 0) := keepc Q5.out Bw19.out
  go_wp2_with fail
  refine (L_other a b c d _ (CN.out _ Bw19.out) t (CT.out _ Bw19.out)).mono ?_
  rintro e w20 ⟨rfl, L⟩
  have Bw20 := Lib.hid (Bw19.out.trans (L.mono Bw19.out.size))
  clear q0w19 q1w19 q2w19 q3w19 q4w19 q5w19
  clear L Bw19
  have q0w20 : w20.cell? ⟨x1, 0, none⟩ = some (.string sN) := keepc Q0.out Bw20.out
  have q1w20 : w20.cell? ⟨x1, 1, none⟩ = some (.slice (some ⟨a, 0, none⟩) 2 2) := keepc Q1.out Bw20.out
  have q2w20 : w20.cell? ⟨x1, 2, none⟩ = some (.slice (some ⟨b, 0, none⟩) 1 1) := keepc Q2.out Bw20.out
  have q3w20 : w20.cell? ⟨x2, 0, none⟩ = some (.string sN) := keepc Q3.out Bw20.out
  have q4w20 : w20.cell? ⟨x2, 1, none⟩ = some (.slice (some ⟨t, 0, none⟩) 2 2) := keepc Q4.out Bw20.out
  have q5w20 : w20.cell? ⟨x2, 2, none⟩ = some (.slice none 0 0) := keepc Q5.out Bw20.out
  go_wp2_with fail
  go_ret
  exact ⟨rfl, BW.out.trans (Bw20.out.mono BW.out.size)⟩
end Go.Proofs.Ytlmchanciegggaa
