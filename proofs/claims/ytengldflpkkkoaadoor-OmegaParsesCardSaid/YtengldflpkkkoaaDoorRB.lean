/- A range over an iterator that keeps its state in a box of its own (strings.SplitSeq, strings.Lines): the law for the caller, over the laws of the statement's own steps. -/
import Derived.Test.YtengldflpkkkoaaDoorChecked
import Derived.RangeFuncNested
import Derived.RangeFuncBound
import Derived.RangeFuncCalls
import Derived.RangeFuncLeaves
import Derived.Shelf.Abstract
import Derived.Shelf.RegionOpen
import Derived.WalkKit
import Derived.OwnWalkIn
import Derived.TacticsInMore
import Derived.LoopNIn
import Derived.LoopIn
namespace Go.Proofs.YtengldflpkkkoaaDoor
open Go.RowKit

/-- The m blocks from B on lie as they lay. -/
def KeepB (B m : Nat) (W W' : World) : Prop := ∀ k, B ≤ k → k < B + m → k < W.heap.size → W'.heap[k]? = W.heap[k]?
theorem KeepB.refl (B m : Nat) (W : World) : KeepB B m W W := fun _ _ _ _ => rfl
theorem KeepB.trans {B m : Nat} {X Y Z : World} (h : KeepB B m X Y) (k : KeepB B m Y Z) : KeepB B m X Z := fun i h1 h2 h3 => by
  have e := h i h1 h2 h3
  have hlt : i < Y.heap.size := by
    rw [Array.getElem?_eq_getElem h3] at e
    exact (Array.getElem?_eq_some_iff.1 e).1
  exact (k i h1 h2 hlt).trans e
theorem KeepB.alloc (B m : Nat) (W : World) (o : Obj) : KeepB B m W (W.alloc o) := fun k _ _ h => Below.heap_alloc W o k h
theorem KeepB.drew (B m : Nat) (W : World) : KeepB B m W W.drew := fun _ _ _ _ => rfl
theorem KeepB.put {B m l : Nat} {W : World} (o : Obj) (h : B + m ≤ l) : KeepB B m W (W.putObj l o) := fun k _ h2 _ => World.putObj_heap_other (by omega)
theorem KeepB.set {B m : Nat} {W : World} {a : Addr} (v : Value) (h : a.block < B ∨ B + m ≤ a.block) : KeepB B m W (W.setCell a v) := fun k h1 h2 _ => Below.heap_setCell W a v k (by omega)
theorem KeepB.below {B m n₀ : Nat} {W W' : World} (h : Below n₀ W W') (hB : B + m ≤ n₀) : KeepB B m W W' := fun k _ h2 _ => h.block k (by omega)
theorem KeepB.grown {B m : Nat} {W W' : World} {row : Option Nat} (h : W.grownBy W' row) (hr : ∀ r, row = some r → r < B ∨ B + m ≤ r) : KeepB B m W W' := fun k h1 h2 h3 => h.block k h3 (fun e => by have := hr k e.symm; omega)
theorem KeepB.cell {B m : Nat} {W W' : World} (h : KeepB B m W W') {k : Nat} (h1 : B ≤ k) (h2 : k < B + m) {t : TypeId} {v : Value} (hb : Boxed W k t v) : Boxed W' k t v := (h k h1 h2 hb.lt).trans hb

variable {F : Fence} {n : Nat} {P : Program}

/-- The iterator's word: each element of L in its order, one a round; it may store into its own box B (of type tS); of the rounds it wants that the m blocks from B on are kept. -/
def BoxSeq {α : Type} (F : Fence) (n : Nat) (P : Program) (gf : Nat) (lb : Array Value) (encs : α → Array Value) (B m : Nat) (tS : TypeId) (L : List α) (w : World) : Prop :=
  ∀ (l : Nat) (J Jx : List α → World → Prop) (W : World), Below w.heap.size w W →
    (∀ pre A u v, J pre A → Boxed A B tS u → J pre (A.setCell ⟨B, 0, none⟩ v)) →
    (∀ pre x rest W1, L = pre ++ x :: rest → J pre W1 → YieldAt F (n - 1) P l (encs x) W1 fun e W' =>
      (e = .returned (.bool true) ∧ J (pre ++ [x]) W' ∧ KeepB B m W1 W') ∨ (e = .returned (.bool false) ∧ Jx (pre ++ [x]) W')) →
    J [] W →
    CallsIn F n P gf (#[.func (.yield l) #[] #[]] ++ lb) W fun e W' => (∃ v, e = .returned v) ∧ (J L W' ∨ ∃ pre, pre <+: L ∧ Jx pre W')

/-- How the body of a round may be left. -/
def boxPost {α : Type} (D B m : Nat) (I : List α → World → Prop) (Ix : Code → List α → World → Prop) (xs : List α) (W : World) : Exit → Act → World → Prop
  | .normal, _, W' => KeepsFrom D W W' ∧ KeepB B m W W' ∧ I xs W'
  | .ret, _, W' => KeepsFrom D W W' ∧ Ix .ret xs W'
  | .exit id, _, W' => KeepsFrom D W W' ∧ Ix (.exit id) xs W'
  | .goto t, _, W' => KeepsFrom D W W' ∧ Ix (.goto t) xs W'
  | .panic _, _, _ => False
  | .outgrown, _, _ => False

/-- The caller's law. -/
theorem wpIn_rangeBox {α : Type} {g : Operand} {ps : Array Tmp} {assign body : Code} {Q : Exit → Act → World → Prop} {a : Act} {w w0 : World} {gf : Nat} {lb : Array Value} {encs : α → Array Value} {B m : Nat} {tS : TypeId} {L : List α}
    (outer : F.round = none) (room : 1 ≤ n) (value : a.eval g = .func (.func gf) #[] lb) (inF : F.fn gf) (enters : ∀ args w, (callFunc gf args).run P w = .ok (.enter gf args) w)
    (iter : BoxSeq F (n - 1) P gf lb encs B m tS L w0) (since : Below w0.heap.size w0 w) (hBm : B + m ≤ w.heap.size) (hps : ∀ x, (encs x).size = ps.size)
    (I : List α → World → Prop) (Ix : Code → List α → World → Prop) (hI : OwnFrom w.heap.size I) (hIx : ∀ c, OwnFrom w.heap.size (Ix c))
    (hIB : ∀ pre A u v, I pre A → Boxed A B tS u → I pre (A.setCell ⟨B, 0, none⟩ v)) (start : I [] w) (a₁ : α → Act)
    (hassign : ∀ (l : Nat) (x : α) (W : World) (K : Act → World → Prop), K (a₁ x) W →
      assign.wpIn (F.inRound l) (n - 1 - 1) P (Exit.then K (fun _ _ _ => False)) { tmps := (ps.zip (encs x)).foldl (fun t (p, v) => t.setIfInBounds p v) a.tmps, defers := [] } W)
    (hbody : ∀ (l : Nat) (pre : List α) (x : α) (rest : List α) (W : World), L = pre ++ x :: rest → I pre W → body.wpIn (F.inRound l) (n - 1 - 1) P (boxPost w.heap.size B m I Ix (pre ++ [x]) W) (a₁ x) W)
    (hdone : ∀ (D : Nat) (W : World), w.heap.size ≤ D → I L W → W.heap[D]? = some (.deferred (some [])) → Q .normal { a with defers := { target := .collected D, args := #[] } :: a.defers } W)
    (hstop : ∀ (D : Nat) (c : Code) (pre : List α) (W : World), w.heap.size ≤ D → pre <+: L → Ix c pre W → W.heap[D]? = some (.deferred (some [])) → c.wpIn F n P Q { a with defers := { target := .collected D, args := #[] } :: a.defers } W) :
    (Code.rangeFunc g ps assign body).wpIn F n P Q a w := by
  refine wpIn_rangeFunc fun fn hfn => ?_
  rw [outer]
  -- the two blocks of the loop's book-keeping: D for the rounds' deferred calls, l for the record
  obtain ⟨D, hD⟩ : ∃ D, D = w.heap.size := ⟨_, rfl⟩
  obtain ⟨rc, hrc⟩ : ∃ rc : LoopState → Option Code → Loop, rc = fun s p => { state := s, pending := p, fn, tmps := a.tmps, params := ps, assign, body, defers := D } := ⟨_, rfl⟩
  obtain ⟨V, hV⟩ : ∃ V, V = (w.alloc (.deferred (some []))).alloc (.loop (rc .ready none)) := ⟨_, rfl⟩
  have atD : V.heap[D]? = some (.deferred (some [])) := by
    rw [hV, hD]; exact (Below.heap_alloc _ _ _ (by simp)).trans (World.alloc_heap_new w _)
  have atL : V.heap[D + 1]? = some (.loop (rc .ready none)) := by
    have := World.alloc_heap_new (w.alloc (.deferred (some []))) (.loop (rc .ready none))
    rw [World.size_alloc] at this
    rw [hV, hD]; exact this
  have begun : I [] V := by rw [hV]; exact hI.alloc _ (hI.alloc _ start)
  have later : Below w0.heap.size w0 V := by
    rw [hV]; exact since.trans ((((Below.refl _ w).alloc (Nat.le_refl _) _).alloc (by simp) _).mono since.size)
  let Bk : LoopState → Option Code → World → Prop := fun s p W => W.heap[D + 1]? = some (.loop (rc s p)) ∧ W.heap[D]? = some (.deferred (some []))
  -- a store into the iterator's box leaves the book-keeping
  have kept : ∀ {s p W u v}, Bk s p W → Boxed W B tS u → Bk s p (W.setCell ⟨B, 0, none⟩ v) := by
    rintro s p W u v ⟨h1, h2⟩ hb
    have n1 : D + 1 ≠ B := fun e => by have hb' : W.heap[B]? = _ := hb; rw [← e, h1] at hb'; cases hb'
    have n2 : D ≠ B := fun e => by have hb' : W.heap[B]? = _ := hb; rw [← e, h2] at hb'; cases hb'
    exact ⟨(Below.heap_setCell W ⟨B, 0, none⟩ v _ n1).trans h1, (Below.heap_setCell W ⟨B, 0, none⟩ v _ n2).trans h2⟩
  refine ⟨D + 1, [{ target := .collected D, args := #[] }], V, { target := .fn (.func gf) lb, args := #[.func (.yield (D + 1)) #[] #[]] }, V, gf,
    #[.func (.yield (D + 1)) #[] #[]] ++ lb, V, ?_, ?_, ?_, ?_, fun _ => room, ?_⟩
  · rw [hV, hrc, hD]; exact run_enterLoop_outer _ _ _ _ _
  · simp only [resolve, value]
    simp [go_sem]
  · intro f' hf'; simp [Target.leads] at hf'; subst hf'; exact inF
  · simp [invoke, go_sem, enters]
  · refine (iter (D + 1) (fun pre W => I pre W ∧ Bk .ready none W) (fun pre W => ∃ c, Ix c pre W ∧ Bk .done (some c) W) V later
      (fun pre A u v h hb => ⟨hIB pre A u v h.1 hb, kept h.2 hb⟩) ?_ ⟨begun, atL, atD⟩).mono ?_
    · rintro pre x rest W hL ⟨hi, hl, hd⟩
      have hlt : D + 1 < W.heap.size := (Array.getElem?_eq_some_iff.1 hl).1
      have hy := run_yield (P := P) (args := encs x) hl (by rw [hrc]; exact hps x)
      rw [hrc] at hy
      refine ⟨fn, _, assign, body, hy, roundIn_of_wpIn hfn (hassign _ x W _ ⟨_, run_beginRound hl (by rw [hrc]), ?_⟩)⟩
      obtain ⟨busy, hbusy⟩ : ∃ busy : Loop, busy = { rc .ready none with state := .busy } := ⟨_, rfl⟩
      rw [← hbusy]
      have hl2 : (W.putObj (D + 1) (.loop busy)).heap[D + 1]? = some (.loop busy) := World.putObj_heap_same hlt
      have hd2 : (W.putObj (D + 1) (.loop busy)).heap[D]? = some (.deferred (some [])) := (World.putObj_heap_other (by omega)).trans hd
      -- the round's end, whichever way the body has gone
      have ended : ∀ (jump : Option Code) (W3 : World), KeepsFrom w.heap.size (W.putObj (D + 1) (.loop busy)) W3 →
          W3.heap[D + 1]? = some (.loop busy) ∧
          ∃ W4, W4 = W3.putObj (D + 1) (.loop (rc (if jump.isNone then .ready else .done) jump)) ∧ (Instr.endRound (D + 1) jump).run P W3 = .ok (.bool jump.isNone) W4 ∧ Bk (if jump.isNone then .ready else .done) jump W4 := by
        intro jump W3 hk
        have h3 := hk.same _ _ (by omega) hl2 rfl
        have e := run_endRound (P := P) jump h3
        rw [hbusy, hrc] at e
        refine ⟨h3, _, rfl, by rw [hrc]; exact e, World.putObj_heap_same (Array.getElem?_eq_some_iff.1 h3).1, (World.putObj_heap_other (by omega)).trans (hk.same _ _ (by omega) hd2 rfl)⟩
      refine wpIn_mono (hbody _ pre x rest _ hL (hI.putObj _ hi (by omega) hl rfl)) ?_
      rintro e a3 W3 hp
      cases e with
      | normal =>
        obtain ⟨hk, hkb, hi3⟩ := hp
        obtain ⟨h3, W4, e4, hr, hb⟩ := ended none W3 hk
        refine ⟨_, _, hr, .inl ⟨rfl, ⟨?_, hb⟩, ?_⟩⟩
        · rw [e4]; exact hI.putObj _ hi3 (by omega) h3 rfl
        · rw [e4]; exact ((KeepB.put _ (by omega)).trans hkb).trans (KeepB.put _ (by omega))
      | ret =>
        obtain ⟨hk, hi3⟩ := hp
        obtain ⟨h3, W4, e4, hr, hb⟩ := ended (some .ret) W3 hk
        exact ⟨_, _, hr, .inr ⟨rfl, .ret, by rw [e4]; exact (hIx _).putObj _ hi3 (by omega) h3 rfl, hb⟩⟩
      | exit id =>
        obtain ⟨hk, hi3⟩ := hp
        obtain ⟨h3, W4, e4, hr, hb⟩ := ended (some (.exit id)) W3 hk
        exact ⟨_, _, hr, .inr ⟨rfl, .exit id, by rw [e4]; exact (hIx _).putObj _ hi3 (by omega) h3 rfl, hb⟩⟩
      | goto t =>
        obtain ⟨hk, hi3⟩ := hp
        obtain ⟨h3, W4, e4, hr, hb⟩ := ended (some (.goto t)) W3 hk
        exact ⟨_, _, hr, .inr ⟨rfl, .goto t, by rw [e4]; exact (hIx _).putObj _ hi3 (by omega) h3 rfl, hb⟩⟩
      | panic ch => exact hp.elim
      | outgrown => exact hp.elim
    · rintro e W2 ⟨⟨v, rfl⟩, (⟨hi, hl, hd⟩ | ⟨pre, hpre, c, hi, hl, hd⟩)⟩
      · have e := run_endLoop (P := P) hl (by rw [hrc]; simp)
        rw [hrc] at e
        exact ⟨none, _, e, hD ▸ hdone D _ (by omega) (hI.putObj _ hi (by omega) hl rfl) ((World.putObj_heap_other (by omega)).trans hd)⟩
      · have e := run_endLoop (P := P) hl (by rw [hrc]; simp)
        rw [hrc] at e
        exact ⟨some c, _, e, hD ▸ hstop D c pre _ (by omega) hpre ((hIx c).putObj _ hi (by omega) hl rfl) ((World.putObj_heap_other (by omega)).trans hd)⟩
end Go.Proofs.YtengldflpkkkoaaDoor
