/- Contracts of the reference's division with remainder. -/
import Derived.Test.YtdmcpnpiepmnkaaDoorFA
import Derived.Laws.Rows
import Derived.Laws.OwnMore
import Derived.Deep.Draws
import Derived.Deep.CutRange
import Derived.BigRegion
namespace Go.Proofs.YtdmcpnpiepmnkaaDoor
open Go.RowKit

/-- the halves of a number below 2^128 -/
def hI (n : Nat) : Int := ((n / 18446744073709551616 : Nat) : Int)
def lI (n : Nat) : Int := ((n % 18446744073709551616 : Nat) : Int)
def bI (a i : Nat) : Int := ((a / 2 ^ i % 2 : Nat) : Int)
theorem wv_eq (n : Nat) : wv n = .agg #[.int .u64 (hI n), .int .u64 (lI n)] := rfl
theorem plus_w (a b c : Nat) (w : World) (h : a + b = c) (hc : c < 340282366920938463463374607431768211456) :
    Calls Tryd.prog 23 #[.agg #[.int .u64 (hI a), .int .u64 (lI a)], .agg #[.int .u64 (hI b), .int .u64 (lI b)]] w fun e w' => e = .returned (.agg #[.int .u64 (hI c), .int .u64 (lI c)]) ∧ Below w.heap.size w w' := by
  subst h; exact plus_any a b w hc
theorem minus_w (a b c : Nat) (w : World) (h : a - b = c) (hb : b ≤ a) (ha : a < 340282366920938463463374607431768211456) :
    Calls Tryd.prog 26 #[.agg #[.int .u64 (hI a), .int .u64 (lI a)], .agg #[.int .u64 (hI b), .int .u64 (lI b)]] w fun e w' => e = .returned (.agg #[.int .u64 (hI c), .int .u64 (lI c)]) ∧ Below w.heap.size w w' := by
  subst h; exact minus_any a b w hb ha
theorem less_w (a b : Nat) (v : Bool) (w : World) (h : decide (a < b) = v) (ha : a < 340282366920938463463374607431768211456) (hb : b < 340282366920938463463374607431768211456) :
    Calls Tryd.prog 25 #[.agg #[.int .u64 (hI a), .int .u64 (lI a)], .agg #[.int .u64 (hI b), .int .u64 (lI b)]] w fun e w' => e = .returned (.bool v) ∧ Below w.heap.size w w' := by
  subst h; exact less_any a b w ha hb
theorem bit_w (a i : Nat) (w : World) (hi : i < 128) :
    Calls Tryd.prog 24 #[.agg #[.int .u64 (hI a), .int .u64 (lI a)], .int .i64 i] w fun e w' => e = .returned (.int .u64 (bI a i)) ∧ Below w.heap.size w w' := bit_any a i w hi
theorem lI_add (r b : Nat) (hb : b < 2) : IntKind.u64.wrap (lI (2 * r) + (b : Int)) = lI (2 * r + b) ∧ hI (2 * r + b) = hI (2 * r) := by
  unfold lI hI
  refine ⟨?_, ?_⟩
  · rw [IntKind.wrap_u64]; omega
  · omega
/-- block g is one number below 2^128 -/
def Bl (w : World) (g : Nat) (n : Nat) : Prop := w.heap[g]? = some (.cells #[.int .u64 (hI n), .int .u64 (lI n)] 36 (0, 0))
section
variable {w w' : World} {g n m : Nat}
theorem Bl.lt (h : Bl w g n) : g < w.heap.size := (Array.getElem?_eq_some_iff.1 h).1
theorem Bl.c0 (h : Bl w g n) : w.cell? ⟨g, 0, none⟩ = some (.int .u64 (hI n)) := (cell_of_row w g 0 _ _ (0, 0) h).trans rfl
theorem Bl.c1 (h : Bl w g n) : w.cell? ⟨g, 1, none⟩ = some (.int .u64 (lI n)) := (cell_of_row w g 1 _ _ (0, 0) h).trans rfl
theorem Bl.f0 (h : Bl w g n) : w.frozen? ⟨g, 0, none⟩ = false := by unfold Bl at h; simp [World.frozen?, h]
theorem Bl.f1 (h : Bl w g n) : w.frozen? ⟨g, 1, none⟩ = false := by unfold Bl at h; simp [World.frozen?, h]
theorem Bl.new (w : World) (n : Nat) : Bl (w.alloc (.cells #[.int .u64 (hI n), .int .u64 (lI n)] 36)) w.heap.size n := heap_alloc_new w _
theorem Bl.below {B : Nat} (h : Bl w g n) (hb : Below B w w') (hg : g < B) : Bl w' g n := (hb.block g hg).trans h
theorem Bl.alloc (h : Bl w g n) (o : Obj) : Bl (w.alloc o) g n := (Below.heap_alloc w o g h.lt).trans h
theorem Bl.drewN (h : Bl w g n) (k : Nat) : Bl (w.drewN k) g n := h
theorem Bl.far (h : Bl w g n) {p : Addr} (hp : g ≠ p.block) (u : Value) : Bl (w.setCell p u) g n := (Below.heap_setCell w p u g hp).trans h
theorem heap_set {w : World} {g i : Nat} {cs : Array Value} {t : TypeId} {fr : Nat × Nat} (h : w.heap[g]? = some (.cells cs t fr)) (u : Value) : (w.setCell ⟨g, i, none⟩ u).heap[g]? = some (.cells (cs.setIfInBounds i u) t fr) := by
  simp [World.setCell, Array.getElem?_modify, h]
theorem Bl.put (h : Bl w g n) (m : Nat) : Bl ((w.setCell ⟨g, 0, none⟩ (.int .u64 (hI m))).setCell ⟨g, 1, none⟩ (.int .u64 (lI m))) g m := by
  have h1 := heap_set (i := 0) h (.int .u64 (hI m))
  exact heap_set (i := 1) h1 (.int .u64 (lI m))
theorem Bl.lo (h : Bl w g n) (m : Nat) (hm : hI m = hI n) : Bl (w.setCell ⟨g, 1, none⟩ (.int .u64 (lI m))) g m := by
  have h1 := heap_set (i := 1) h (.int .u64 (lI m))
  unfold Bl
  rw [h1, hm]
  rfl
end
theorem below_drewN {B : Nat} {a w : World} (h : Below B a w) (n : Nat) : Below B a (w.drewN n) := ⟨h.os, h.tape, h.output, h.size, h.block⟩

/-- what the loop holds when the bits above k have been read -/
theorem div_step (a d k : Nat) (hd : 0 < d) : a / 2 ^ k = 2 * (a / 2 ^ (k + 1)) + a / 2 ^ k % 2 ∧
    (2 * (a / 2 ^ (k + 1) % d) + a / 2 ^ k % 2 < d → a / 2 ^ k % d = 2 * (a / 2 ^ (k + 1) % d) + a / 2 ^ k % 2 ∧ a / 2 ^ k / d = 2 * (a / 2 ^ (k + 1) / d)) ∧
    (¬ 2 * (a / 2 ^ (k + 1) % d) + a / 2 ^ k % 2 < d → a / 2 ^ k % d = 2 * (a / 2 ^ (k + 1) % d) + a / 2 ^ k % 2 - d ∧ a / 2 ^ k / d = 2 * (a / 2 ^ (k + 1) / d) + 1) := by
  have h1 : a / 2 ^ (k + 1) = a / 2 ^ k / 2 := by rw [Nat.pow_succ, Nat.div_div_eq_div_mul]
  rw [h1]
  generalize a / 2 ^ k = y
  have h2 : y = 2 * (y / 2) + y % 2 := by omega
  have h3 : y / 2 = d * (y / 2 / d) + y / 2 % d := (Nat.div_add_mod _ _).symm
  have h4 : y / 2 % d < d := Nat.mod_lt _ hd
  generalize y / 2 % d = r at *
  generalize y / 2 / d = q at *
  have h5 : y = d * (2 * q) + (2 * r + y % 2) := by
    have : d * (2 * q) = 2 * (d * q) := by rw [Nat.mul_left_comm]
    omega
  refine ⟨h2, fun h => ?_, fun h => ?_⟩
  · constructor
    · conv => lhs; rw [h5]
      rw [Nat.mul_add_mod, Nat.mod_eq_of_lt h]
    · conv => lhs; rw [h5]
      rw [Nat.mul_add_div hd, Nat.div_eq_of_lt h, Nat.add_zero]
  · have h6 : y = d * (2 * q + 1) + (2 * r + y % 2 - d) := by rw [Nat.mul_add, Nat.mul_one]; omega
    have h7 : 2 * r + y % 2 - d < d := by omega
    constructor
    · conv => lhs; rw [h6]
      rw [Nat.mul_add_mod, Nat.mod_eq_of_lt h7]
    · conv => lhs; rw [h6]
      rw [Nat.mul_add_div hd, Nat.div_eq_of_lt h7, Nat.add_zero]
theorem div_bounds (a d j : Nat) (ha : a < 340282366920938463463374607431768211456) : a / 2 ^ (j + 1) / d < 170141183460469231731687303715884105728 := by
  have h1 : a / 2 ^ (j + 1) = a / 2 ^ j / 2 := by rw [Nat.pow_succ, Nat.div_div_eq_div_mul]
  have h2 : a / 2 ^ j ≤ a := Nat.div_le_self _ _
  have h3 : a / 2 ^ (j + 1) / d ≤ a / 2 ^ (j + 1) := Nat.div_le_self _ _
  rw [h1] at h3 ⊢
  omega
/-- the six blocks of the division -/
def DivInv (g : Nat) (a d q r : Nat) (w : World) : Prop := Bl w g a ∧ Bl w (g + 1) d ∧ Bl w (g + 1 + 1) 0 ∧ Bl w (g + 1 + 1 + 1) 0 ∧ Bl w (g + 1 + 1 + 1 + 1) q ∧ Bl w (g + 1 + 1 + 1 + 1 + 1) r
section
variable {g a d q r : Nat} {w w' : World}
theorem DivInv.below (h : DivInv g a d q r w) (hb : Below w.heap.size w w') : DivInv g a d q r w' :=
  ⟨h.1.below hb h.1.lt, h.2.1.below hb h.2.1.lt, h.2.2.1.below hb h.2.2.1.lt, h.2.2.2.1.below hb h.2.2.2.1.lt, h.2.2.2.2.1.below hb h.2.2.2.2.1.lt, h.2.2.2.2.2.below hb h.2.2.2.2.2.lt⟩
theorem DivInv.drewN (h : DivInv g a d q r w) (k : Nat) : DivInv g a d q r (w.drewN k) := h
theorem DivInv.putR (h : DivInv g a d q r w) (m : Nat) : DivInv g a d q m ((w.setCell ⟨g + 1 + 1 + 1 + 1 + 1, 0, none⟩ (.int .u64 (hI m))).setCell ⟨g + 1 + 1 + 1 + 1 + 1, 1, none⟩ (.int .u64 (lI m))) :=
  ⟨(h.1.far (by simp; omega) _).far (by simp; omega) _, (h.2.1.far (by simp) _).far (by simp) _, (h.2.2.1.far (by simp) _).far (by simp) _, (h.2.2.2.1.far (by simp) _).far (by simp) _, (h.2.2.2.2.1.far (by simp) _).far (by simp) _, h.2.2.2.2.2.put m⟩
theorem DivInv.putQ (h : DivInv g a d q r w) (m : Nat) : DivInv g a d m r ((w.setCell ⟨g + 1 + 1 + 1 + 1, 0, none⟩ (.int .u64 (hI m))).setCell ⟨g + 1 + 1 + 1 + 1, 1, none⟩ (.int .u64 (lI m))) :=
  ⟨(h.1.far (by simp; omega) _).far (by simp; omega) _, (h.2.1.far (by simp) _).far (by simp) _, (h.2.2.1.far (by simp) _).far (by simp) _, (h.2.2.2.1.far (by simp) _).far (by simp) _, h.2.2.2.2.1.put m, (h.2.2.2.2.2.far (by simp) _).far (by simp) _⟩
theorem DivInv.loR (h : DivInv g a d q r w) (m : Nat) (hm : hI m = hI r) : DivInv g a d q m (w.setCell ⟨g + 1 + 1 + 1 + 1 + 1, 1, none⟩ (.int .u64 (lI m))) :=
  ⟨h.1.far (by simp; omega) _, h.2.1.far (by simp) _, h.2.2.1.far (by simp) _, h.2.2.2.1.far (by simp) _, h.2.2.2.2.1.far (by simp) _, h.2.2.2.2.2.lo m hm⟩
theorem DivInv.loQ (h : DivInv g a d q r w) (m : Nat) (hm : hI m = hI q) : DivInv g a d m r (w.setCell ⟨g + 1 + 1 + 1 + 1, 1, none⟩ (.int .u64 (lI m))) :=
  ⟨h.1.far (by simp; omega) _, h.2.1.far (by simp) _, h.2.2.1.far (by simp) _, h.2.2.2.1.far (by simp) _, h.2.2.2.2.1.lo m hm, h.2.2.2.2.2.far (by simp) _⟩
theorem DivInv.cells (h : DivInv g a d q r w) : (w.cell? ⟨g, 0, none⟩ = some (.int .u64 (hI a)) ∧ w.cell? ⟨g, 1, none⟩ = some (.int .u64 (lI a)) ∧ w.cell? ⟨g + 1, 0, none⟩ = some (.int .u64 (hI d)) ∧ w.cell? ⟨g + 1, 1, none⟩ = some (.int .u64 (lI d))) ∧
    (w.cell? ⟨g + 1 + 1 + 1 + 1, 0, none⟩ = some (.int .u64 (hI q)) ∧ w.cell? ⟨g + 1 + 1 + 1 + 1, 1, none⟩ = some (.int .u64 (lI q)) ∧ w.cell? ⟨g + 1 + 1 + 1 + 1 + 1, 0, none⟩ = some (.int .u64 (hI r)) ∧ w.cell? ⟨g + 1 + 1 + 1 + 1 + 1, 1, none⟩ = some (.int .u64 (lI r))) ∧
    (w.frozen? ⟨g + 1 + 1 + 1 + 1, 0, none⟩ = false ∧ w.frozen? ⟨g + 1 + 1 + 1 + 1, 1, none⟩ = false ∧ w.frozen? ⟨g + 1 + 1 + 1 + 1 + 1, 0, none⟩ = false ∧ w.frozen? ⟨g + 1 + 1 + 1 + 1 + 1, 1, none⟩ = false) :=
  ⟨⟨h.1.c0, h.1.c1, h.2.1.c0, h.2.1.c1⟩, ⟨h.2.2.2.2.1.c0, h.2.2.2.2.1.c1, h.2.2.2.2.2.c0, h.2.2.2.2.2.c1⟩, h.2.2.2.2.1.f0, h.2.2.2.2.1.f1, h.2.2.2.2.2.f0, h.2.2.2.2.2.f1⟩
theorem DivInv.size (h : DivInv g a d q r w) : g + 6 ≤ w.heap.size := h.2.2.2.2.2.lt
end
theorem Bl.new' (w : World) (n : Nat) {k : Nat} (hk : w.heap.size = k) : Bl (w.alloc (.cells #[.int .u64 (hI n), .int .u64 (lI n)] 36)) k n := by subst hk; exact heap_alloc_new w _
theorem div_start (a d : Nat) (w : World) (ha : a < 340282366920938463463374607431768211456) : DivInv w.heap.size a d (a / 2 ^ 128 / d) (a / 2 ^ 128 % d)
    ((((((w.alloc (.cells #[.int .u64 (hI a), .int .u64 (lI a)] 36)).alloc (.cells #[.int .u64 (hI d), .int .u64 (lI d)] 36)).alloc
      (.cells #[.int .u64 0, .int .u64 0] 36)).alloc (.cells #[.int .u64 0, .int .u64 0] 36)).alloc
      (.cells #[.int .u64 0, .int .u64 0] 36)).alloc (.cells #[.int .u64 0, .int .u64 0] 36)) := by
  have e : a / 2 ^ 128 = 0 := Nat.div_eq_of_lt (by rw [show (2:Nat) ^ 128 = 340282366920938463463374607431768211456 by decide]; exact ha)
  rw [e, Nat.zero_div, Nat.zero_mod]
  have z : (Obj.cells #[.int .u64 0, .int .u64 0] 36) = .cells #[.int .u64 (hI 0), .int .u64 (lI 0)] 36 := rfl
  rw [z]
  exact ⟨(((((Bl.new' w a rfl).alloc _).alloc _).alloc _).alloc _).alloc _, ((((Bl.new' _ d (by simp)).alloc _).alloc _).alloc _).alloc _, (((Bl.new' _ 0 (by simp)).alloc _).alloc _).alloc _, ((Bl.new' _ 0 (by simp)).alloc _).alloc _, (Bl.new' _ 0 (by simp)).alloc _, Bl.new' _ 0 (by simp)⟩
theorem div_mid {g a d q r : Nat} {w w3 w4 : World} (hb : Below w3.drew.heap.size w3.drew w4) (h : DivInv g a d q r w3) (hB : Below g w w3) : Hid (DivInv g a d q r w4) ∧ Hid (Below g w w4) :=
  ⟨DivInv.below (w := w3.drew) h hb, hB.drew.trans (hb.mono (Nat.le_trans (Nat.le_add_right _ 6) h.size))⟩
set_option maxHeartbeats 4000000 in
set_option maxRecDepth 1000000 in
theorem divide_w (a d : Nat) (w : World) (ha : a < 340282366920938463463374607431768211456) (hd : 0 < d) (hd2 : d < 170141183460469231731687303715884105728) :
    Calls Tryd.prog 18 #[.agg #[.int .u64 (hI a), .int .u64 (lI a)], .agg #[.int .u64 (hI d), .int .u64 (lI d)]] w fun e w' => e = .returned (.tuple #[.agg #[.int .u64 (hI (a / d)), .int .u64 (lI (a / d))], .agg #[.int .u64 (hI (a % d)), .int .u64 (lI (a % d))]]) ∧ Below w.heap.size w w' := by
  have HA := Lib.hid ha
  have HD := Lib.hid hd
  have HD2 := Lib.hid hd2
  clear ha hd hd2
  go_enter Tryd.func18, Tryd.ntmps18
  go_wp2_with fail
  go_loopg [8] 128 (fun k q wr => k ≤ 128 ∧ q = .int .i64 ((k : Int) - 1) ∧ Hid (DivInv w.heap.size a d (a / 2 ^ k / d) (a / 2 ^ k % d) wr) ∧ Hid (Below w.heap.size w wr))
  case atStart =>
    exact ⟨Nat.le_refl _, rfl, div_start a d w HA.out, ((((((Below.refl _ _).alloc (Nat.le_refl _) _).alloc (by first | (simp; done) | (simp; omega)) _).alloc (by first | (simp; done) | (simp; omega)) _).alloc (by first | (simp; done) | (simp; omega)) _).alloc (by first | (simp; done) | (simp; omega)) _).alloc (by first | (simp; done) | (simp; omega)) _⟩
  case round =>
    obtain ⟨hk, hq, HI, HB⟩ := hrel
    subst hq
    by_cases h0 : gk = 0
    · subst h0
      clear hk
      have t : ¬ (0 : Int) ≤ ((0 : Nat) : Int) - 1 := by omega
      rw [Nat.pow_zero, Nat.div_one] at HI
      generalize eQ : a / d = Q at HI
      generalize eR : a % d = R at HI
      have EQ := Lib.hid eQ
      have ER := Lib.hid eR
      clear eQ eR
      obtain ⟨C1, C2, C3⟩ := HI.out.cells
      clear C1 C3
      have F1 := HI.out.2.2.1.f0
      have F2 := HI.out.2.2.1.f1
      have F3 := HI.out.2.2.2.1.f0
      have F4 := HI.out.2.2.2.1.f1
      have G1 := HI.out.2.2.1.c0
      have G2 := HI.out.2.2.1.c1
      have G3 := HI.out.2.2.2.1.c0
      have G4 := HI.out.2.2.2.1.c1
      go_wp2_with fail
      go_region
      all_goals go_wp2_with fail
      all_goals refine bodyPost_ret (v := .tuple #[.agg #[.int .u64 (hI Q), .int .u64 (lI Q)], .agg #[.int .u64 (hI R), .int .u64 (lI R)]]) (by simp [results, Tryd.results18, go_sem, *]) rfl ⟨by rw [EQ.out, ER.out], ?_⟩
      all_goals exact ((((HB.out.setCell (by simp; omega) _).setCell (by simp; omega) _).setCell (by simp; omega) _).setCell (by simp; omega) _).drew
    · obtain ⟨j, rfl⟩ : ∃ j, gk = j + 1 := ⟨gk - 1, by omega⟩
      have hj : j < 128 := by omega
      have HJ := Lib.hid hj
      have ej : ((j + 1 : Nat) : Int) - 1 = (j : Int) := by omega
      have t : (0 : Int) ≤ (j : Int) := by omega
      rw [ej]
      clear ej hk h0 hj
      obtain ⟨C1, C2, C3⟩ := HI.out.cells
      have HR := Lib.hid (Nat.mod_lt (a / 2 ^ (j + 1)) HD.out)
      have HQ := Lib.hid (div_bounds a d j HA.out)
      have HS := Lib.hid (div_step a d j HD.out)
      generalize a / 2 ^ (j + 1) % d = R at *
      generalize a / 2 ^ (j + 1) / d = Q at *
      have HG := Lib.hid HI.out.size
      go_wp2_with fail
      -- rest = plus(rest, rest)
      go_at_call 23
      refine (plus_w R R (2 * R) _ (by omega) (by have := HR.out; have := HD2.out; omega)).mono ?_
      rintro _ w1 ⟨rfl, hb⟩
      clear C1 C2 C3
      have HI1 := Lib.hid ((HI.out.below hb).putR (2 * R))
      have HB1 := Lib.hid (((HB.out.trans (hb.mono (by have := HG.out; omega))).setCell (p := ⟨w.heap.size + 1 + 1 + 1 + 1 + 1, 0, none⟩) (by simp; omega) (.int .u64 (hI (2 * R)))).setCell (p := ⟨w.heap.size + 1 + 1 + 1 + 1 + 1, 1, none⟩) (by simp; omega) (.int .u64 (lI (2 * R))))
      obtain ⟨C1, C2, C3⟩ := (HI.out.below hb).cells
      clear hb HI HB
      go_wp2_with fail
      clear C1 C2 C3
      -- rest.Lo = rest.Lo + bit(a, i)
      generalize (w1.setCell ⟨w.heap.size + 1 + 1 + 1 + 1 + 1, 0, none⟩ (.int .u64 (hI (2 * R)))).setCell ⟨w.heap.size + 1 + 1 + 1 + 1 + 1, 1, none⟩ (.int .u64 (lI (2 * R))) = w2 at *
      clear w1 HG wr
      generalize eb : a / 2 ^ j % 2 = b at *
      have hb2 : b < 2 := by omega
      have HB2 := Lib.hid hb2
      have EB : Hid (bI a j = (b : Int)) := by show _ = _; unfold bI; rw [eb]
      obtain ⟨L1, L2⟩ := lI_add R b hb2
      have HL2 := Lib.hid L2
      clear eb hb2 L2
      have HG := Lib.hid HI1.out.size
      go_cut [] from 11 to 38 (fun wc => Hid (DivInv w.heap.size a d Q (2 * R + b) wc) ∧ Hid (Below w.heap.size w wc))
      case first =>
        obtain ⟨C1, C2, C3⟩ := HI1.out.cells
        go_region_with (go_at_call 24; refine (bit_w a j _ HJ.out).mono ?_; rintro _ w4 ⟨rfl, hb4⟩; rw [EB.out]; obtain ⟨HI4, HB4⟩ := div_mid hb4 HI1.out HB1.out; obtain ⟨D1, D2, D3⟩ := HI4.out.cells; clear hb4)
        all_goals
          go_wp2_with fail
          go_meet
          case rel => exact ⟨HI4.out.loR _ HL2.out, HB4.out.setCell (by simp; omega) _⟩
      case rest =>
        clear L1 HI1 HB1 HG w2
        obtain ⟨HI3, HB3⟩ := hcut
        obtain ⟨C1, C2, C3⟩ := HI3.out.cells
        have HG := Lib.hid HI3.out.size
        go_wp2_with fail
        -- q = plus(q, q)
        go_at_call 23
        refine (plus_w Q Q (2 * Q) _ (by omega) (by have := HQ.out; omega)).mono ?_
        rintro _ w5 ⟨rfl, hb⟩
        clear C1 C2 C3
        have HI5 := Lib.hid ((HI3.out.below hb).putQ (2 * Q))
        have HB5 := Lib.hid (((HB3.out.trans (hb.mono (by have := HG.out; omega))).setCell (p := ⟨w.heap.size + 1 + 1 + 1 + 1, 0, none⟩) (by simp; omega) (.int .u64 (hI (2 * Q)))).setCell (p := ⟨w.heap.size + 1 + 1 + 1 + 1, 1, none⟩) (by simp; omega) (.int .u64 (lI (2 * Q))))
        obtain ⟨C1, C2, C3⟩ := (HI3.out.below hb).cells
        obtain ⟨D1, D2, D3⟩ := HI5.out.cells
        clear hb HI3 HB3 HG
        go_wp2_with fail
        clear C1 C2 C3 D1 D2 D3
        generalize (w5.setCell ⟨w.heap.size + 1 + 1 + 1 + 1, 0, none⟩ (.int .u64 (hI (2 * Q)))).setCell ⟨w.heap.size + 1 + 1 + 1 + 1, 1, none⟩ (.int .u64 (lI (2 * Q))) = w6 at *
        clear w5
        -- less(rest, d)
        obtain ⟨v, hv⟩ : ∃ v, decide (2 * R + b < d) = v := ⟨_, rfl⟩
        go_at_call 25
        refine (less_w (2 * R + b) d v _ hv (by have := HR.out; have := HD2.out; have := HB2.out; omega) (by have := HD2.out; omega)).mono ?_
        rintro _ w7 ⟨rfl, hb⟩
        have HG := Lib.hid HI5.out.size
        have HI7 := Lib.hid (HI5.out.below hb)
        have HB7 := Lib.hid (HB5.out.trans (hb.mono (by have := HG.out; omega)))
        clear hb HI5 HB5 HG w6
        have HG := Lib.hid HI7.out.size
        obtain ⟨C1, C2, C3⟩ := HI7.out.cells
        have hw : wrap64 ((j : Int) - 1) = (j : Int) - 1 := by have := HJ.out; unfold wrap64; omega
        cases v with
        | true =>
          have HV : Hid (2 * R + b < d) := of_decide_eq_true (p := 2 * R + b < d) hv
          clear hv
          go_wp2_with fail
          go_roundg j
          case measure => omega
          case rel =>
            refine ⟨by have := HJ.out; omega, by rw [hw], ?_, HB7⟩
            obtain ⟨-, H1, -⟩ := HS.out
            obtain ⟨e1, e2⟩ := H1 HV.out
            rw [e1, e2]
            exact HI7.out
        | false =>
          have HV : Hid (¬ 2 * R + b < d) := of_decide_eq_false (p := 2 * R + b < d) hv
          clear hv
          go_wp2_with fail
          go_at_call 26
          refine (minus_w (2 * R + b) d (2 * R + b - d) _ rfl (by have := HV.out; omega) (by have := HR.out; have := HD2.out; have := HB2.out; omega)).mono ?_
          rintro _ w8 ⟨rfl, hb⟩
          clear C1 C2 C3
          have HI8 := Lib.hid ((HI7.out.below hb).putR (2 * R + b - d))
          have HB8 := Lib.hid (((HB7.out.trans (hb.mono (by have := HG.out; omega))).setCell (p := ⟨w.heap.size + 1 + 1 + 1 + 1 + 1, 0, none⟩) (by simp; omega) (.int .u64 (hI (2 * R + b - d)))).setCell (p := ⟨w.heap.size + 1 + 1 + 1 + 1 + 1, 1, none⟩) (by simp; omega) (.int .u64 (lI (2 * R + b - d))))
          obtain ⟨C1, C2, C3⟩ := (HI7.out.below hb).cells
          obtain ⟨D1, D2, D3⟩ := HI8.out.cells
          obtain ⟨L1, L2⟩ := lI_add Q 1 (by omega)
          rw [show (((1 : Nat) : Int)) = 1 from rfl] at L1
          have HI9 := Lib.hid (HI8.out.loQ (2 * Q + 1) L2)
          have HB9 := Lib.hid (HB8.out.setCell (p := ⟨w.heap.size + 1 + 1 + 1 + 1, 1, none⟩) (by simp; omega) (.int .u64 (lI (2 * Q + 1))))
          clear hb HI7 HB7 HG L2
          go_wp2_with fail
          go_roundg j
          case measure => omega
          case rel =>
            refine ⟨by have := HJ.out; omega, by rw [hw], ?_, HB9⟩
            obtain ⟨-, -, H1⟩ := HS.out
            obtain ⟨e1, e2⟩ := H1 HV.out
            rw [e1, e2]
            exact HI9.out
end Go.Proofs.YtdmcpnpiepmnkaaDoor
