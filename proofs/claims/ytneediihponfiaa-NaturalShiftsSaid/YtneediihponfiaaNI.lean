/- Bounded natural solutions: what the iterator promises. -/
import Derived.Test.YtneediihponfiaaNJ
namespace Go.Proofs.Ytneediihponfiaa
open Go.RowKit

/-- a problem, as it comes -/
structure PV where
  A : Option Addr
  L : List Row
  ca : Nat
  B : Option Addr
  b : List Int
  cb : Nat
  U : Option Addr
  u : List Int
  cu : Nat
structure PR (w : World) (p : PV) : Prop where
  rA : ReadsL w p.A p.L
  rB : ReadsV w p.B p.b
  rU : ReadsV w p.U p.u
theorem PR.below {w w' : World} {p : PV} (h : PR w p) (hb : Below w.heap.size w w') : PR w' p := ⟨h.rA.below hb (Nat.le_refl _), h.rB.below hb (Nat.le_refl _), h.rU.below hb (Nat.le_refl _)⟩
/-- nothing is wrong with it -/
structure Fine (L : List Row) (b u : List Int) : Prop where
  u1 : 1 ≤ u.length
  u64 : u.length ≤ 64
  bl : L.length = b.length
  L64 : L.length ≤ 64
  len : ∀ i, i < L.length → (rA L i).zs.length = u.length
  row : ∀ i, i < L.length → withB (rA L i).zs (-10000) 10000 = true
  bb : withB b (-10000) 10000 = true
  ub : withB u 0 1000 = true
  lim : ∀ k, k < u.length → limF u k = false
theorem anyB_none {f : Nat → Bool} {n : Nat} (h : ¬ anyB f n = true) : ∀ j, j < n → f j = false := fun j hj => by
  cases e : f j
  · rfl
  · exact absurd (anyB_yes hj e) h
theorem chk0 {L : List Row} {b u : List Int} (h : chkP L b u = 0) : Fine L b u := by
  unfold chkP at h
  by_cases h1 : u.length < 1 ∨ 64 < u.length ∨ L.length ≠ b.length ∨ 64 < L.length
  · rw [if_pos h1] at h; cases h
  rw [if_neg h1] at h
  by_cases h2 : anyB (badR1 u.length L) L.length = true
  · rw [if_pos h2] at h; cases h
  rw [if_neg h2] at h
  by_cases h3 : withB b (-10000) 10000 = false ∨ withB u 0 1000 = false
  · rw [if_pos h3] at h; cases h
  rw [if_neg h3] at h
  by_cases h4 : anyB (badR2 L) L.length = true
  · rw [if_pos h4] at h; cases h
  rw [if_neg h4] at h
  by_cases h5 : anyB (limF u) u.length = true
  · rw [if_pos h5] at h; cases h
  have h6 := anyB_none h2
  have h7 := anyB_none h4
  refine ⟨by omega, by omega, by omega, by omega, fun i hi => ?_, fun i hi => ?_, ?_, ?_, anyB_none h5⟩
  · have := h6 i hi
    unfold badR1 at this
    have := of_decide_eq_false this
    omega
  · have := h7 i hi
    unfold badR2 at this
    simpa using this
  · cases hb : withB b (-10000) 10000
    · exact absurd (.inl hb) h3
    · rfl
  · cases hb : withB u 0 1000
    · exact absurd (.inr hb) h3
    · rfl
theorem own_mono {w : World} {base base' : Nat} {e : TypeId} {size n : Nat} {v : Value} {xs : List Value} (h : w.ownsRow base e size v n xs) (hb : base' ≤ base) : w.ownsRow base' e size v n xs := by
  refine ⟨h.1, ?_⟩
  rcases h.2 with h0 | ⟨g, cap, cur, h1, h2, h3⟩
  · exact .inl h0
  · exact .inr ⟨g, cap, cur, h1, by omega, h3⟩
theorem dot_zero (r : List Int) (n : Nat) : ∀ k, dotTo r (List.replicate n 0) k = 0
  | 0 => rfl
  | k + 1 => by
    have e : at0 (List.replicate n (0 : Int)) k = 0 := by
      unfold at0
      rw [List.getElem?_replicate]
      split <;> rfl
    simp only [dotTo]
    rw [dot_zero r n k, e]
    omega
def Sees (lo : Nat) (u : List Int) (hi : Nat) (x : List Int) (W : World) : Prop := lo + 1 < hi ∧ x.length = u.length ∧ W.ownsRow lo 2 1 (.slice (some ⟨lo + 1, 0, none⟩) u.length u.length) u.length (x.map (Value.int .i64))
theorem Sees.keep {lo hi : Nat} {u x : List Int} {A B : World} (h : Sees lo u hi x A) (k : KeepOn (fun k => lo ≤ k ∧ k < hi) A B) : Sees lo u hi x B :=
  ⟨h.1, h.2.1, k.own h.2.2 (fun g e => by cases e; exact ⟨by show lo ≤ lo + 1; omega, h.1⟩)⟩
def Pv (w0 : World) (aB uB k : Nat) : Prop := k < w0.heap.size ∨ k = aB ∨ k = uB
set_option maxHeartbeats 1000000 in
theorem sols_seq (n : Nat) (w0 w : World) (p : PV) (hr : PR w0 p) (D0 : Fine p.L p.b p.u) (hw : Below w0.heap.size w0 w) (aB bB uB : Nat)
    (ha : w.cell? ⟨aB, 0, none⟩ = some (.slice p.A p.L.length p.ca)) (hb : w.cell? ⟨bB, 0, none⟩ = some (.slice p.B p.b.length p.cb)) (hu : w.cell? ⟨uB, 0, none⟩ = some (.slice p.U p.u.length p.cu)) :
    SeqScr n Try.prog 32 #[.pointer (some ⟨uB, 0, none⟩), .pointer (some ⟨bB, 0, none⟩), .pointer (some ⟨aB, 0, none⟩)] (fun _ => #[.slice (some ⟨w.heap.size + 2 + 1, 0, none⟩) p.u.length p.u.length]) (Sees (w.heap.size + 2) p.u) (Pv w0 aB uB) (solT p.L p.b p.u) (w.heap.size + 2) w := by
  intro l J Jx W hlo hW hst h0 hY
  have hwW : Below w0.heap.size w0 W := hw.trans (hW.mono hw.size)
  have ha := keepc ha hW
  have hb := keepc hb hW
  have hu := keepc hu hW
  have hal : aB < W.heap.size := World.block_lt_of_cell? W ⟨aB, 0, none⟩ (by rw [ha])
  have hul : uB < W.heap.size := World.block_lt_of_cell? W ⟨uB, 0, none⟩ (by rw [hu])
  rw [← hlo] at hst h0 hY ⊢
  refine callsIn_wide.2 ?_
  refine sols_walk p.u p.b p.U p.B p.cu p.cb l aB bB uB W (fun W' => (∃ hi, W.heap.size ≤ hi ∧ hi ≤ W'.heap.size ∧ J hi (solT p.L p.b p.u) W') ∨ (∃ pre, pre <+: solT p.L p.b p.u ∧ Jx pre W')) hu hb (hr.rB.below hwW (Nat.le_refl _)) D0.u64 (by rw [← D0.bl]; exact D0.L64) ?_
  intro w5 x1 A2 c2 y g5 o5 kx o2 y1 y2 y3 ys yb
  have s5 : W.heap.size + 2 ≤ w5.heap.size := by
    have : W.heap.size + 1 < w5.heap.size := (o5.lt _ rfl).2
    omega
  have sx : w5.heap.size + 1 ≤ x1.heap.size := by
    have := kx.size
    rw [World.size_alloc] at this
    exact this
  have k5 : Below (W.heap.size + 1) (W.alloc (.cells #[.func (.yield l) #[] #[]] 48)) w5 := ⟨g5.os, g5.tape, g5.output, g5.size, fun k hk => g5.block k (by rw [World.size_alloc]; exact hk) (by simp)⟩
  have cy : w5.cell? ⟨W.heap.size, 0, none⟩ = some (.func (.yield l) #[] #[]) := by
    have := (Boxed.new W 48 (.func (.yield l) #[] #[])).cell
    exact (k5.cell (p := ⟨W.heap.size, 0, none⟩) (by show W.heap.size < _; omega)).trans this
  have k1 : Below W.heap.size W w5 := ((Below.refl _ _).alloc (Nat.le_refl _) _).trans (k5.mono (by omega))
  have k2 : Below w5.heap.size w5 x1 := ((Below.refl _ w5).alloc (Nat.le_refl _) (.cells #[.slice (some ⟨W.heap.size + 1, 0, none⟩) p.u.length p.u.length] 23)).trans (kx.mono (by simp))
  have k3 : Below w5.heap.size w5 y := k2.trans (yb.mono k2.size)
  have k4 : Below W.heap.size W y := k1.trans (k3.mono k1.size)
  have cx : x1.cell? ⟨w5.heap.size, 0, none⟩ = some (.slice (some ⟨W.heap.size + 1, 0, none⟩) p.u.length p.u.length) := keepc (Boxed.new w5 23 (.slice (some ⟨W.heap.size + 1, 0, none⟩) p.u.length p.u.length)).cell kx
  have ow : ∀ g, (Value.slice A2 p.L.length c2).ownBlock = some g → w5.heap.size + 1 ≤ g ∧ g < x1.heap.size := fun g e => by
    rw [D0.bl] at e
    have := o2.lt g e
    rw [World.size_alloc] at this
    exact this
  let C : ItC := { w0 := w0, A := p.A, L := p.L, ca := p.ca, U := p.U, u := p.u, cu := p.cu, b := p.b, aB := aB, uB := uB, yB := W.heap.size, xB := w5.heap.size, rB := x1.heap.size, sB := x1.heap.size + 1, fB := x1.heap.size + 1 + 1, X0 := W.heap.size + 1, R0 := (match A2 with | some a => a.block | none => 0), RA := A2, cr := c2, l := l, lo := W.heap.size, hi := y.heap.size }
  have ra : p.L.length ≠ 0 → A2 = some ⟨C.R0, 0, none⟩ := fun h => by
    rcases o2.2 with ⟨e, h1⟩ | ⟨g, cap, cur, e, _⟩
    · rw [D0.bl] at h
      exact absurd h1 h
    · cases e
      rfl
  have hR : ∀ k, C.rb k → w5.heap.size + 1 ≤ k ∧ k < x1.heap.size := fun k h => by
    refine ow k ?_
    have := ra h.1
    rw [this, h.2]
    rfl
  have G : Geo C := by
    refine ⟨hwW.size, hal, hul, ⟨Nat.le_refl _, ?_⟩, ⟨?_, ?_⟩, ⟨?_, ?_⟩, ⟨?_, ?_⟩, ⟨?_, ?_⟩, ⟨?_, ?_⟩, fun k h => ?_, ⟨?_, ?_, ?_, ?_, ?_⟩, ⟨fun h => ?_, fun h => ?_, fun h => ?_, fun h => ?_, fun h => ?_⟩, ra, fun h => ?_, fun g e => ?_⟩
    all_goals (first | (have h9 := hR _ h) | (have h9 := ow _ e) | skip)
    all_goals (dsimp only [C] at *; omega)
  have D : Good C := ⟨hr.rA, hr.rU, D0.L64, D0.u64, D0.bl, D0.len, D0.row, D0.bb, D0.ub⟩
  have em : (madeCells (Value.int IntKind.i64 0).cells (p.u.length * 1)).toList = (List.replicate p.u.length (0 : Int)).map (Value.int .i64) := by
    rw [show madeCells (Value.int IntKind.i64 0).cells (p.u.length * 1) = madeCells #[.int .i64 0] (p.u.length * 1) from rfl, toList_madeCells_one, Nat.mul_one, List.map_replicate]
  rw [em] at o5
  have S : St C (List.replicate p.u.length 0) p.b y := by
    refine ⟨⟨keepc ha k4, keepc hu k4, keepc cy k3, keepc cx yb, ?_, y2, y3, hwW.trans (k4.mono hwW.size)⟩, by simp [C], D0.bl.symm, own_below o5 k3 (Nat.le_refl _), ?_, fun k hk => ?_, fun k hk => ?_⟩
    · show y.cell? ⟨x1.heap.size, 0, none⟩ = some (.slice A2 p.L.length c2)
      rw [D0.bl]; exact y1
    · show y.ownsRow W.heap.size 2 1 (.slice A2 p.L.length c2) p.L.length _
      rw [D0.bl]
      exact own_mono (own_below o2 yb (Nat.le_refl _)) (by rw [World.size_alloc]; omega)
    · show at0 p.b k = at0 p.b k - dotTo _ _ _
      rw [dot_zero]; omega
    · have e : at0 (List.replicate p.u.length (0 : Int)) k = 0 := by
        unfold at0
        rw [List.getElem?_replicate]
        split <;> rfl
      rw [e]
      omega
  have hlohi : W.heap.size ≤ y.heap.size := k4.size
  have hJ : JStab C (J y.heap.size) := fun s A B hj k => hst y.heap.size s A B hlohi hj k
  have hYC : JYield C (J y.heap.size) Jx := fun m pre x r W1 h1 h2 h3 h4 => yield_any m (hY y.heap.size pre x W1 hlohi h1 h2 h3 ⟨G.X0.2, h4.xl, h4.xo⟩)
  have hp : ([] ++ solsP C.L C.b (C.u.drop 0) []) <+: TC C := by
    rw [List.nil_append, List.drop_zero, solT_eq]
    exact List.prefix_refl _
  have h := assign_any G D hJ hYC C.u.length 0 (by omega) [] [] (List.replicate p.u.length 0) p.b y rfl ⟨S, h0 y.heap.size y hlohi (Nat.le_refl _) (KeepOn.of_belowN k4 fun k h => h), Nat.le_refl _, rfl⟩ hp
  rw [List.nil_append, List.drop_zero, solT_eq] at h
  refine Calls.mono h ?_
  rintro e w' (⟨rfl, h1, -, h3⟩ | ⟨rfl, q, h1, h2⟩)
  · exact ⟨⟨true, rfl⟩, .inl ⟨y.heap.size, hlohi, h3, h1⟩⟩
  · exact ⟨⟨false, rfl⟩, .inr ⟨q, h1, h2⟩⟩
theorem solutions_any (p : PV) (w : World) :
    Calls Try.prog 26 #[.slice p.A p.L.length p.ca, .slice p.B p.b.length p.cb, .slice p.U p.u.length p.cu] w fun e w' => e = .returned (.func (.func 32) #[] #[.pointer (some ⟨w.heap.size + 1 + 1, 0, none⟩), .pointer (some ⟨w.heap.size + 1, 0, none⟩), .pointer (some ⟨w.heap.size, 0, none⟩)]) ∧ w' = ((w.alloc (.cells #[.slice p.A p.L.length p.ca] 22)).alloc (.cells #[.slice p.B p.b.length p.cb] 23)).alloc (.cells #[.slice p.U p.u.length p.cu] 23) := by
  go_enter Try.func26, Try.ntmps26
  go_wp2
  go_ret
  exact ⟨rfl, rfl⟩
end Go.Proofs.Ytneediihponfiaa
