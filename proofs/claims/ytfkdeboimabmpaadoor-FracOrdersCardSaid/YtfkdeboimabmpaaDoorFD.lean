/- Contract of the reference's normal form. -/
import Derived.Test.YtfkdeboimabmpaaDoorFC
namespace Go.Proofs.YtfkdeboimabmpaaDoor
open Go.RowKit

def normV (neg : Bool) (p q : Nat) : Value :=
  if 9223372036854775807 < p ∨ 9223372036854775807 < q then .tuple #[.agg #[.int .i64 0, .int .i64 0], .int .i64 3]
  else .tuple #[.agg #[.int .i64 (if neg then -(p : Int) else (p : Int)), .int .i64 (q : Int)], .int .i64 0]
/-- block g holds the number zero -/
def Rl (w : World) (g : Nat) : Prop := w.heap[g]? = some (.cells #[.int .i64 0, .int .i64 0] 23 (0, 0))
def NInv (g : Nat) (n d : Nat) (w : World) : Prop := Bl w g n ∧ Bl w (g + 1) d ∧ Rl w (g + 1 + 1)
section
variable {w w' : World} {g n d : Nat}
theorem Rl.lt (h : Rl w g) : g < w.heap.size := (Array.getElem?_eq_some_iff.1 h).1
theorem Rl.c0 (h : Rl w g) : w.cell? ⟨g, 0, none⟩ = some (.int .i64 0) := (cell_of_row w g 0 _ _ (0, 0) h).trans rfl
theorem Rl.c1 (h : Rl w g) : w.cell? ⟨g, 1, none⟩ = some (.int .i64 0) := (cell_of_row w g 1 _ _ (0, 0) h).trans rfl
theorem Rl.f0 (h : Rl w g) : w.frozen? ⟨g, 0, none⟩ = false := by unfold Rl at h; simp [World.frozen?, h]
theorem Rl.f1 (h : Rl w g) : w.frozen? ⟨g, 1, none⟩ = false := by unfold Rl at h; simp [World.frozen?, h]
theorem Rl.below {B : Nat} (h : Rl w g) (hb : Below B w w') (hg : g < B) : Rl w' g := (hb.block g hg).trans h
theorem Rl.alloc (h : Rl w g) (o : Obj) : Rl (w.alloc o) g := (Below.heap_alloc w o g h.lt).trans h
theorem Rl.new' (w : World) {k : Nat} (hk : w.heap.size = k) : Rl (w.alloc (.cells #[.int .i64 0, .int .i64 0] 23)) k := by subst hk; exact heap_alloc_new w _
theorem NInv.below (h : NInv g n d w) (hb : Below w.heap.size w w') : NInv g n d w' := ⟨h.1.below hb h.1.lt, h.2.1.below hb h.2.1.lt, h.2.2.below hb h.2.2.lt⟩
theorem NInv.alloc (h : NInv g n d w) (o : Obj) : NInv g n d (w.alloc o) := ⟨h.1.alloc o, h.2.1.alloc o, h.2.2.alloc o⟩
theorem NInv.size (h : NInv g n d w) : g + 3 ≤ w.heap.size := h.2.2.lt
theorem NInv.cells (h : NInv g n d w) : w.cell? ⟨g, 0, none⟩ = some (.int .u64 (hI n)) ∧ w.cell? ⟨g, 1, none⟩ = some (.int .u64 (lI n)) ∧ w.cell? ⟨g + 1, 0, none⟩ = some (.int .u64 (hI d)) ∧ w.cell? ⟨g + 1, 1, none⟩ = some (.int .u64 (lI d)) :=
  ⟨h.1.c0, h.1.c1, h.2.1.c0, h.2.1.c1⟩
end
theorem norm_start (n d : Nat) (w : World) : NInv w.heap.size n d (((w.alloc (.cells #[.int .u64 (hI n), .int .u64 (lI n)] 42)).alloc (.cells #[.int .u64 (hI d), .int .u64 (lI d)] 42)).alloc (.cells #[.int .i64 0, .int .i64 0] 23)) :=
  ⟨((Bl.new' w n rfl).alloc _).alloc _, (Bl.new' _ d (by simp)).alloc _, Rl.new' _ (by simp)⟩
theorem halves (p : Nat) (h : p < 340282366920938463463374607431768211456) :
    (0 < hI p ∧ 9223372036854775807 < p) ∨ (¬ 0 < hI p ∧ 9223372036854775807 < lI p ∧ 9223372036854775807 < p) ∨ (¬ 0 < hI p ∧ ¬ 9223372036854775807 < lI p ∧ ¬ 9223372036854775807 < p ∧ lI p = (p : Int)) := by
  unfold hI lI
  omega
theorem normV_over {neg : Bool} {p q : Nat} (h : 9223372036854775807 < p ∨ 9223372036854775807 < q) : .tuple #[.agg #[.int .i64 0, .int .i64 0], .int .i64 3] = normV neg p q := by rw [normV, if_pos h]
theorem normV_ok {neg : Bool} {p q : Nat} (h : ¬ 9223372036854775807 < p) (k : ¬ 9223372036854775807 < q) {x y : Int} (hx : x = if neg then -(p : Int) else (p : Int)) (hy : y = (q : Int)) : .tuple #[.agg #[.int .i64 x, .int .i64 y], .int .i64 0] = normV neg p q := by
  rw [normV, if_neg (by omega), hx, hy]
set_option maxHeartbeats 4000000 in
set_option maxRecDepth 1000000 in
theorem normal_w (neg : Bool) (n d : Nat) (w : World) (hn : n < 340282366920938463463374607431768211456) (hd : 0 < d) (hd2 : d < 170141183460469231731687303715884105728) :
    Calls Tryd.prog 18 #[.bool neg, .agg #[.int .u64 (hI n), .int .u64 (lI n)], .agg #[.int .u64 (hI d), .int .u64 (lI d)]] w fun e w' => e = .returned (normV neg (n / Nat.gcd n d) (d / Nat.gcd n d)) ∧ Below w.heap.size w w' := by
  have HN := Lib.hid hn
  have HD := Lib.hid hd2
  have HG : Hid (0 < Nat.gcd n d ∧ Nat.gcd n d < 170141183460469231731687303715884105728) := ⟨Nat.gcd_pos_of_pos_right n hd, Nat.lt_of_le_of_lt (Nat.gcd_le_right n hd) hd2⟩
  clear hn hd hd2
  have H1 := Lib.hid (norm_start n d w)
  have K1 : Hid (Below w.heap.size w (((w.alloc (.cells #[.int .u64 (hI n), .int .u64 (lI n)] 42)).alloc (.cells #[.int .u64 (hI d), .int .u64 (lI d)] 42)).alloc (.cells #[.int .i64 0, .int .i64 0] 23))) :=
    ((((Below.refl _ _).alloc (Nat.le_refl _) _).alloc (by first | (simp; done) | (simp; omega)) _).alloc (by first | (simp; done) | (simp; omega)) _)
  have L1 := Lib.hid H1.out.size
  obtain ⟨A1, A2, A3, A4⟩ := H1.out.cells
  go_enter Tryd.func18, Tryd.ntmps18
  go_wp2_with fail
  clear A1 A2 A3 A4
  -- common
  go_at_call 21
  refine (common_w n d _ HN.out HD.out).mono ?_
  rintro _ w1 ⟨rfl, hb⟩
  generalize eG : Nat.gcd n d = G at *
  have EG := Lib.hid eG
  clear eG
  have H2 := Lib.hid ((H1.out.below hb).alloc (.cells #[.int .u64 (hI G), .int .u64 (lI G)] 42))
  have S2 := Lib.hid (H1.out.below hb).size
  have K2 := Lib.hid ((K1.out.trans (hb.mono (Nat.le_trans (Nat.le_add_right _ 3) L1.out))).alloc (Nat.le_trans (Nat.le_add_right _ 3) S2.out) (.cells #[.int .u64 (hI G), .int .u64 (lI G)] 42))
  have Z2 := Lib.hid (Bl.new w1 G)
  clear hb H1 K1 L1
  obtain ⟨A1, A2, A3, A4⟩ := H2.out.cells
  have Y1 := Z2.out.c0
  have Y2 := Z2.out.c1
  go_wp2_with fail
  clear A1 A2 A3 A4 Y1 Y2
  generalize w1.alloc (.cells #[.int .u64 (hI G), .int .u64 (lI G)] 42) = w2 at *
  generalize w1.heap.size = z1 at *
  clear w1
  have L2 := Lib.hid H2.out.size
  have HP := Lib.hid (Nat.lt_of_le_of_lt (Nat.div_le_self n G) HN.out)
  have HQ := Lib.hid (Nat.lt_of_le_of_lt (Nat.div_le_self d G) (Nat.lt_trans HD.out (by decide : (170141183460469231731687303715884105728 : Nat) < 340282366920938463463374607431768211456)))
  go_at_call 30
  refine (divide_w n G _ HN.out HG.out.1 HG.out.2).mono ?_
  rintro _ w3 ⟨rfl, hb⟩
  generalize eP : n / G = p at *
  have EP := Lib.hid eP
  clear eP
  generalize n % G = r at *
  have H3 := Lib.hid (((H2.out.below hb).alloc (.cells #[.int .u64 (hI p), .int .u64 (lI p)] 42)).alloc (.cells #[.int .u64 (hI r), .int .u64 (lI r)] 42))
  have S3 := Lib.hid (H2.out.below hb).size
  have K3 := Lib.hid (((K2.out.trans (hb.mono (Nat.le_trans (Nat.le_add_right _ 3) L2.out))).alloc (Nat.le_trans (Nat.le_add_right _ 3) S3.out) (.cells #[.int .u64 (hI p), .int .u64 (lI p)] 42)).alloc (by have := S3.out; simp; omega) (.cells #[.int .u64 (hI r), .int .u64 (lI r)] 42))
  have Z3 := Lib.hid (((Z2.out.below hb Z2.out.lt).alloc (.cells #[.int .u64 (hI p), .int .u64 (lI p)] 42)).alloc (.cells #[.int .u64 (hI r), .int .u64 (lI r)] 42))
  have X3 := Lib.hid ((Bl.new w3 p).alloc (.cells #[.int .u64 (hI r), .int .u64 (lI r)] 42))
  clear hb H2 K2 L2 Z2 S2 S3
  obtain ⟨A1, A2, A3, A4⟩ := H3.out.cells
  have Y1 := Z3.out.c0
  have Y2 := Z3.out.c1
  go_wp2_with fail
  clear A1 A2 A3 A4 Y1 Y2
  generalize (w3.alloc (.cells #[.int .u64 (hI p), .int .u64 (lI p)] 42)).alloc (.cells #[.int .u64 (hI r), .int .u64 (lI r)] 42) = w4 at *
  generalize w3.heap.size = z2 at *
  clear w3
  have L3 := Lib.hid H3.out.size
  go_at_call 30
  refine (divide_w d G _ (Nat.lt_trans HD.out (by decide)) HG.out.1 HG.out.2).mono ?_
  rintro _ w5 ⟨rfl, hb⟩
  generalize eQ : d / G = q at *
  have EQ := Lib.hid eQ
  clear eQ
  generalize d % G = s at *
  have S4 := Lib.hid (H3.out.below hb).size
  have R4 := Lib.hid (((H3.out.below hb).2.2.alloc (.cells #[.int .u64 (hI q), .int .u64 (lI q)] 42)).alloc (.cells #[.int .u64 (hI s), .int .u64 (lI s)] 42))
  have K4 := Lib.hid (((K3.out.trans (hb.mono (Nat.le_trans (Nat.le_add_right _ 3) L3.out))).alloc (Nat.le_trans (Nat.le_add_right _ 3) S4.out) (.cells #[.int .u64 (hI q), .int .u64 (lI q)] 42)).alloc (by have := S4.out; simp; omega) (.cells #[.int .u64 (hI s), .int .u64 (lI s)] 42))
  have X4 := Lib.hid (((X3.out.below hb X3.out.lt).alloc (.cells #[.int .u64 (hI q), .int .u64 (lI q)] 42)).alloc (.cells #[.int .u64 (hI s), .int .u64 (lI s)] 42))
  have T4 := Lib.hid ((Bl.new w5 q).alloc (.cells #[.int .u64 (hI s), .int .u64 (lI s)] 42))
  have M4 : Hid (w.heap.size + 1 + 1 < ((w5.alloc (.cells #[.int .u64 (hI q), .int .u64 (lI q)] 42)).alloc (.cells #[.int .u64 (hI s), .int .u64 (lI s)] 42)).heap.size) := R4.out.lt
  clear hb H3 K3 L3 Z3 X3
  have Y1 := X4.out.c0
  have Y2 := X4.out.c1
  have Y3 := T4.out.c0
  have Y4 := T4.out.c1
  have F1 := R4.out.f0
  have F2 := R4.out.f1
  have F3 := R4.out.c0
  have F4 := R4.out.c1
  rcases halves p HP.out with ⟨c1, c2⟩ | ⟨c1, c2, c3⟩ | ⟨c1, c2, c3, c4⟩
  · have HC := Lib.hid c2
    clear c2
    go_wp2_with fail
    refine bodyPost_ret (v := .tuple #[.agg #[.int .i64 0, .int .i64 0], .int .i64 3]) (by simp [results, Tryd.results18, go_sem, *]) rfl ⟨by rw [EG.out, EP.out, EQ.out]; exact congrArg Ending.returned (normV_over (.inl HC.out)), ?_⟩
    exact (K4.out.setCell (by simp; omega) _).setCell (by simp; omega) _
  · have HC := Lib.hid c3
    clear c3
    go_wp2_with fail
    refine bodyPost_ret (v := .tuple #[.agg #[.int .i64 0, .int .i64 0], .int .i64 3]) (by simp [results, Tryd.results18, go_sem, *]) rfl ⟨by rw [EG.out, EP.out, EQ.out]; exact congrArg Ending.returned (normV_over (.inl HC.out)), ?_⟩
    exact (K4.out.setCell (by simp; omega) _).setCell (by simp; omega) _
  · have HC := Lib.hid c3
    have HC4 := Lib.hid c4
    clear c3 c4
    rcases halves q HQ.out with ⟨d1, d2⟩ | ⟨d1, d2, d3⟩ | ⟨d1, d2, d3, d4⟩
    · have HE := Lib.hid d2
      clear d2
      go_wp2_with fail
      refine bodyPost_ret (v := .tuple #[.agg #[.int .i64 0, .int .i64 0], .int .i64 3]) (by simp [results, Tryd.results18, go_sem, *]) rfl ⟨by rw [EG.out, EP.out, EQ.out]; exact congrArg Ending.returned (normV_over (.inr HE.out)), ?_⟩
      exact (K4.out.setCell (by simp; omega) _).setCell (by simp; omega) _
    · have HE := Lib.hid d3
      clear d3
      go_wp2_with fail
      refine bodyPost_ret (v := .tuple #[.agg #[.int .i64 0, .int .i64 0], .int .i64 3]) (by simp [results, Tryd.results18, go_sem, *]) rfl ⟨by rw [EG.out, EP.out, EQ.out]; exact congrArg Ending.returned (normV_over (.inr HE.out)), ?_⟩
      exact (K4.out.setCell (by simp; omega) _).setCell (by simp; omega) _
    · have HE := Lib.hid d3
      have HE4 := Lib.hid d4
      have r1 : -9223372036854775808 ≤ lI p ∧ lI p ≤ 9223372036854775807 := by rw [HC4.out]; have := HC.out; omega
      have r2 : -9223372036854775808 ≤ lI q ∧ lI q ≤ 9223372036854775807 := by rw [HE4.out]; have := HE.out; omega
      have r3 : -9223372036854775808 ≤ -lI p ∧ -lI p ≤ 9223372036854775807 := by rw [HC4.out]; have := HC.out; omega
      have g1 : IntKind.i64.wrap (lI p) = lI p := IntWalk.i64_in _ r1
      have g2 : IntKind.i64.wrap (lI q) = lI q := IntWalk.i64_in _ r2
      have g3 : IntKind.i64.wrap (-lI p) = -lI p := IntWalk.i64_in _ r3
      have g4 : wrap64 (lI p) = lI p := by unfold wrap64; omega
      have g5 : wrap64 (lI q) = lI q := by unfold wrap64; omega
      have g6 : wrap64 (-lI p) = -lI p := by unfold wrap64; omega
      clear r1 r2 r3
      clear d3 d4
      have q1 : ¬ w5.heap.size + 1 + 1 = w.heap.size + 1 + 1 := by have := S4.out; omega
      have q2 : ¬ w.heap.size + 1 + 1 = w5.heap.size + 1 + 1 := by have := S4.out; omega
      have q3 : ¬ w5.heap.size = w.heap.size := by have := S4.out; omega
      have q4 : ¬ w.heap.size = w5.heap.size := by have := S4.out; omega
      have R5 := Lib.hid (R4.out.alloc (.cells #[.int .i64 (lI p), .int .i64 (lI q)] 23))
      have K5 := Lib.hid (K4.out.alloc (by have := S4.out; simp; omega) (.cells #[.int .i64 (lI p), .int .i64 (lI q)] 23))
      have E1 := R5.out.f0
      have E2 := R5.out.f1
      have E3 := R5.out.c0
      have E4 := R5.out.c1
      cases neg with
      | false =>
        go_wp2_with fail
        refine bodyPost_ret (v := .tuple #[.agg #[.int .i64 (lI p), .int .i64 (lI q)], .int .i64 0]) (by simp [results, Tryd.results18, go_sem, *]) rfl ⟨by rw [EG.out, EP.out, EQ.out]; exact congrArg Ending.returned (normV_ok HC.out HE.out HC4.out HE4.out), ?_⟩
        exact (K5.out.setCell (by simp; omega) _).setCell (by simp; omega) _
      | true =>
        have R6 := Lib.hid (R4.out.alloc (.cells #[.int .i64 (-lI p), .int .i64 (lI q)] 23))
        have K6 := Lib.hid (K4.out.alloc (by have := S4.out; simp; omega) (.cells #[.int .i64 (-lI p), .int .i64 (lI q)] 23))
        have D1 := R6.out.f0
        have D2 := R6.out.f1
        have D3 := R6.out.c0
        have D4 := R6.out.c1
        go_wp2_with fail
        refine bodyPost_ret (v := .tuple #[.agg #[.int .i64 (-lI p), .int .i64 (lI q)], .int .i64 0]) (by simp [results, Tryd.results18, go_sem, *]) rfl ⟨by rw [EG.out, EP.out, EQ.out]; exact congrArg Ending.returned (normV_ok HC.out HE.out (by rw [HC4.out]; rfl) HE4.out), ?_⟩
        exact (K6.out.setCell (by simp; omega) _).setCell (by simp; omega) _
end Go.Proofs.YtfkdeboimabmpaaDoor
