/- A range over a function whose iterator keeps its own memory between the rounds and writes it. -/
import Derived.Test.YtdfljeonoallfaaGS
import Derived.OwnWalkIn
import Derived.TacticsInMore
import Derived.LoopNIn
import Derived.LoopIn
import Derived.Shelf.Abstract
import Derived.Shelf.AbstractIn
import Derived.Shelf.RegionOpen
import Derived.RangeFuncNested
import Derived.RangeFuncBound
import Derived.RangeFuncCalls
import Derived.RangeFuncLeaves
import Derived.RangeFuncBox
namespace Go.Proofs.Ytdfljeonoallfaa
open Go.RowKit

/-- what lies in the blocks of S lies as it lay -/
structure KeepOn (S : Nat → Prop) (A B : World) : Prop where
  os : B.os = A.os
  tape : B.tape = A.tape
  output : B.output = A.output
  size : A.heap.size ≤ B.heap.size
  block : ∀ k, k < A.heap.size → S k → B.heap[k]? = A.heap[k]?
theorem KeepOn.refl (S : Nat → Prop) (A : World) : KeepOn S A A := ⟨rfl, rfl, rfl, Nat.le_refl _, fun _ _ _ => rfl⟩
theorem KeepOn.trans {S : Nat → Prop} {A B C : World} (h : KeepOn S A B) (k : KeepOn S B C) : KeepOn S A C :=
  ⟨k.os.trans h.os, k.tape.trans h.tape, k.output.trans h.output, Nat.le_trans h.size k.size, fun i hi hs => (k.block i (Nat.lt_of_lt_of_le hi h.size) hs).trans (h.block i hi hs)⟩
theorem KeepOn.mono {S T : Nat → Prop} {A B : World} (h : KeepOn S A B) (ht : ∀ k, k < A.heap.size → T k → S k) : KeepOn T A B := ⟨h.os, h.tape, h.output, h.size, fun k hk hs => h.block k hk (ht k hk hs)⟩
theorem KeepOn.below {S : Nat → Prop} {A B : World} {n : Nat} (h : KeepOn S A B) (hn : n ≤ A.heap.size) (hs : ∀ k, k < n → S k) : Below n A B := ⟨h.os, h.tape, h.output, h.size, fun k hk => h.block k (by omega) (hs k hk)⟩
theorem KeepOn.of_below {A B : World} (S : Nat → Prop) (h : Below A.heap.size A B) : KeepOn S A B := ⟨h.os, h.tape, h.output, h.size, fun k hk _ => h.block k hk⟩
theorem KeepOn.of_belowN {A B : World} {n : Nat} {S : Nat → Prop} (h : Below n A B) (hs : ∀ k, S k → k < n) : KeepOn S A B := ⟨h.os, h.tape, h.output, h.size, fun k _ hk => h.block k (hs k hk)⟩
theorem KeepOn.put {S : Nat → Prop} (A : World) (b : Nat) (o : Obj) (hb : ¬ S b) : KeepOn S A (A.putObj b o) :=
  ⟨rfl, rfl, rfl, by simp, fun k _ hs => World.putObj_heap_other (fun e => hb (by rw [← e]; exact hs))⟩
theorem KeepOn.set {S : Nat → Prop} (A : World) (a : Addr) (v : Value) (hb : ¬ S a.block) : KeepOn S A (A.setCell a v) :=
  ⟨rfl, rfl, rfl, by simp, fun k _ hs => Below.heap_setCell A a v k (fun e => hb (by rw [← e]; exact hs))⟩
theorem KeepOn.alloc {S : Nat → Prop} (A : World) (o : Obj) : KeepOn S A (A.alloc o) := KeepOn.of_below S ((Below.refl _ _).alloc (Nat.le_refl _) o)
theorem KeepOn.drew {S : Nat → Prop} (A : World) : KeepOn S A A.drew := KeepOn.of_below S ((Below.refl _ _).drew)
theorem KeepOn.cell {S : Nat → Prop} {A B : World} (h : KeepOn S A B) {b o : Nat} {v : Value} (hc : A.cell? ⟨b, o, none⟩ = some v) (hs : S b) : B.cell? ⟨b, o, none⟩ = some v :=
  (World.cell?_of_block (a := ⟨b, o, none⟩) (h.block b (World.block_lt_of_cell? A ⟨b, o, none⟩ hc) hs)).trans hc
theorem KeepOn.own {S : Nat → Prop} {A B : World} (h : KeepOn S A B) {base : Nat} {e : TypeId} {size n : Nat} {v : Value} {xs : List Value} (ho : A.ownsRow base e size v n xs) (hs : ∀ g, v.ownBlock = some g → S g) : B.ownsRow base e size v n xs := by
  refine ⟨ho.1, ?_⟩
  rcases ho.2 with h0 | ⟨g, cap, cur, h1, h2, h3, h4⟩
  · exact .inl h0
  · refine .inr ⟨g, cap, cur, h1, h2, ?_, h4⟩
    have hg : g < A.heap.size := (ho.lt g (by rw [h1]; rfl)).2
    rw [h.block g hg (hs g (by rw [h1]; rfl))]
    exact h3
theorem yield_any {m : Nat} (m' : Nat) {P : Program} {l : Nat} {args : Array Value} {W : World} {R : Ending → World → Prop} (h : YieldAt Fence.wide m P l args W R) : YieldAt Fence.wide m' P l args W R := by
  obtain ⟨fn, tmps, assign, body, hy, hF, hr⟩ := h
  exact ⟨fn, tmps, assign, body, hy, hF, fun c cs _ => hr c cs (by simp [Fence.room, Fence.inRound, Fence.wide])⟩

variable {α : Type}
/-- an iterator over T; it owns the blocks from lo to hi, and reads those of Pv -/
def SeqScr (n : Nat) (P : Program) (g : Nat) (lb : Array Value) (encs : α → Array Value) (Sees : Nat → α → World → Prop) (Pv : Nat → Prop) (T : List α) (lo : Nat) (w : World) : Prop :=
  ∀ (l : Nat) (J : Nat → List α → World → Prop) (Jx : List α → World → Prop) (W : World), W.heap.size = lo → Below w.heap.size w W →
    (∀ hi s A B, lo ≤ hi → J hi s A → KeepOn (fun k => k < lo ∨ hi ≤ k) A B → J hi s B) →
    (∀ hi W1, lo ≤ hi → hi ≤ W1.heap.size → KeepOn (fun k => k < lo) W W1 → J hi [] W1) →
    (∀ hi pre x W1, lo ≤ hi → hi ≤ W1.heap.size → (pre ++ [x]) <+: T → J hi pre W1 → Sees hi x W1 → YieldAt Fence.wide (n - 1) P l (encs x) W1 fun e W' =>
      (e = .returned (.bool true) ∧ J hi (pre ++ [x]) W' ∧ KeepOn (fun k => Pv k ∨ (lo ≤ k ∧ k < hi)) W1 W') ∨ (e = .returned (.bool false) ∧ Jx (pre ++ [x]) W')) →
    CallsIn Fence.wide n P g (#[.func (.yield l) #[] #[]] ++ lb) W fun e W' => (∃ v, e = .returned v) ∧ ((∃ hi, lo ≤ hi ∧ hi ≤ W'.heap.size ∧ J hi T W') ∨ (∃ pre, pre <+: T ∧ Jx pre W'))

/-- how a round may be left -/
def scrPost (b : Nat) (Pv : Nat → Prop) (hi : Nat) (I : List α → World → Prop) (Ix : Code → List α → World → Prop) (xs : List α) (W : World) : Exit → Act → World → Prop
  | .normal, _, W' => KeepOn (fun k => Pv k ∨ (b ≤ k ∧ k < hi)) W W' ∧ I xs W'
  | .ret, _, W' => KeepOn (fun k => Pv k ∨ (b ≤ k ∧ k < hi)) W W' ∧ Ix .ret xs W'
  | .exit id, _, W' => KeepOn (fun k => Pv k ∨ (b ≤ k ∧ k < hi)) W W' ∧ Ix (.exit id) xs W'
  | .goto t, _, W' => KeepOn (fun k => Pv k ∨ (b ≤ k ∧ k < hi)) W W' ∧ Ix (.goto t) xs W'
  | .panic _, _, _ => False
  | .outgrown, _, _ => False

theorem rangeFunc_scr {n : Nat} {P : Program} {g : Operand} {ps : Array Tmp} {assign body : Code} {Q : Exit → Act → World → Prop} {a : Act} {w : World}
    {gf : Nat} {lb : Array Value} (hg : a.eval g = .func (.func gf) #[] lb) (eg : ∀ args w, (callFunc gf args).run P w = .ok (.enter gf args) w)
    {encs : α → Array Value} {Sees : Nat → α → World → Prop} {Pv : Nat → Prop} {T : List α}
    (hseq : SeqScr (n - 1) P gf lb encs Sees Pv T (w.heap.size + 2) w) (hPv : ∀ k, Pv k → k < w.heap.size) (hps : ∀ x, (encs x).size = ps.size)
    (hSees : ∀ hi x A B, Sees hi x A → KeepOn (fun k => w.heap.size + 2 ≤ k ∧ k < hi) A B → Sees hi x B)
    (I : Nat → List α → World → Prop) (Ix : Code → List α → World → Prop)
    (hI : ∀ hi s A B, w.heap.size + 2 ≤ hi → I hi s A → KeepOn (fun k => k < w.heap.size ∨ hi ≤ k) A B → I hi s B)
    (hIx : ∀ c s A B, Ix c s A → KeepOn (fun k => k < w.heap.size ∨ w.heap.size + 2 ≤ k) A B → Ix c s B)
    (h0 : ∀ hi W1, w.heap.size + 2 ≤ hi → hi ≤ W1.heap.size → Below w.heap.size w W1 → I hi [] W1) (a₁ : α → Act)
    (hassign : ∀ (l : Nat) (x : α) (W : World) (K : Act → World → Prop), K (a₁ x) W →
      assign.wpIn (Fence.wide.inRound l) (n - 1 - 1) P (Exit.then K (fun _ _ _ => False)) { tmps := (ps.zip (encs x)).foldl (fun t (p, v) => t.setIfInBounds p v) a.tmps, defers := [] } W)
    (hbody : ∀ (l hi : Nat) (pre : List α) (x : α) (W : World), w.heap.size + 2 ≤ hi → hi ≤ W.heap.size → (pre ++ [x]) <+: T → I hi pre W → Sees hi x W → body.wpIn (Fence.wide.inRound l) (n - 1 - 1) P (scrPost w.heap.size Pv hi (I hi) Ix (pre ++ [x]) W) (a₁ x) W)
    (hdone : ∀ (D hi : Nat) (W : World), w.heap.size ≤ D → w.heap.size + 2 ≤ hi → hi ≤ W.heap.size → I hi T W → W.heap[D]? = some (.deferred (some [])) → Q .normal { a with defers := { target := .collected D, args := #[] } :: a.defers } W)
    (hstop : ∀ (D : Nat) (c : Code) (pre : List α) (W : World), w.heap.size ≤ D → pre <+: T → Ix c pre W → W.heap[D]? = some (.deferred (some [])) → c.wpIn Fence.wide n P Q { a with defers := { target := .collected D, args := #[] } :: a.defers } W) :
    (Code.rangeFunc g ps assign body).wpIn Fence.wide n P Q a w := by
  obtain ⟨b, hb⟩ : ∃ b, b = w.heap.size := ⟨_, rfl⟩
  rw [← hb] at hseq hPv hSees hI hIx h0 hbody hdone hstop
  refine wpIn_rangeFunc fun fn hfn => ?_
  obtain ⟨rc, hrc⟩ : ∃ rc : LoopState → Option Code → Loop, rc = fun st pe => { state := st, pending := pe, fn, tmps := a.tmps, params := ps, assign, body, defers := b } := ⟨_, rfl⟩
  obtain ⟨V, hV⟩ : ∃ V, (w.alloc (.deferred (some []))).alloc (.loop (rc .ready none)) = V := ⟨_, rfl⟩
  have v1 : V.heap[b + 1]? = some (.loop (rc .ready none)) := by
    have := World.alloc_heap_new (w.alloc (.deferred (some []))) (.loop (rc .ready none))
    rw [← hV]
    rwa [World.size_alloc, ← hb] at this
  have v0 : V.heap[b]? = some (.deferred (some [])) := by
    rw [← hV, hb]
    exact (Below.heap_alloc _ _ _ (by simp)).trans (World.alloc_heap_new w _)
  have vb : Below b w V := by
    rw [← hV]
    exact ((Below.refl _ w).alloc (by omega) _).alloc (by simp; omega) _
  have vs : V.heap.size = b + 2 := by rw [← hV, World.size_alloc, World.size_alloc, hb]
  refine ⟨b + 1, [{ target := .collected b, args := #[] }], V, { target := .fn (.func gf) lb, args := #[.func (.yield (b + 1)) #[] #[]] }, V, gf,
    #[.func (.yield (b + 1)) #[] #[]] ++ lb, V, ?_, ?_, fun _ _ => trivial, ?_, ?_, ?_⟩
  · rw [← hV, hrc, hb]
    exact run_enterLoop_outer _ _ _ _ _
  · simp only [resolve, hg]
    simp [go_sem]
  · simp [invoke, go_sem, eg]
  · intro h
    simp [Fence.wide] at h
  refine (hseq (b + 1) (fun hi pre W => I hi pre W ∧ W.heap[b + 1]? = some (.loop (rc .ready none)) ∧ W.heap[b]? = some (.deferred (some [])))
    (fun pre W => ∃ c, Ix c pre W ∧ W.heap[b + 1]? = some (.loop (rc .done (some c))) ∧ W.heap[b]? = some (.deferred (some []))) V vs (by rw [← hb]; exact vb) ?_ ?_ ?_).mono ?_
  · rintro hi s A B hlo ⟨h1, h2, h3⟩ k
    exact ⟨hI hi s A B hlo h1 (k.mono fun i _ hi' => by omega), (k.block _ (Array.getElem?_eq_some_iff.1 h2).1 (.inl (by omega))).trans h2, (k.block _ (Array.getElem?_eq_some_iff.1 h3).1 (.inl (by omega))).trans h3⟩
  · intro hi W1 h1 h2 k
    exact ⟨h0 hi W1 h1 h2 (vb.trans (k.below (by omega) fun i hi' => by omega)), (k.block _ (by omega) (by omega)).trans v1, (k.block _ (by omega) (by omega)).trans v0⟩
  · rintro hi pre x W hlo hhi hpre ⟨hi1, hl, hk⟩ hsee
    have hlt : b + 1 < W.heap.size := (Array.getElem?_eq_some_iff.1 hl).1
    have hy := run_yield (P := P) (args := encs x) hl (by rw [hrc]; exact hps x)
    rw [hrc] at hy
    refine ⟨fn, _, assign, body, hy, roundIn_of_wpIn hfn (hassign _ x W _ ⟨_, run_beginRound hl (by rw [hrc]), ?_⟩)⟩
    obtain ⟨W2, hW2⟩ : ∃ W2, W2 = W.putObj (b + 1) (.loop { rc .ready none with state := .busy }) := ⟨_, rfl⟩
    have l2 : W2.heap[b + 1]? = some (.loop { rc .ready none with state := .busy }) := by rw [hW2]; exact World.putObj_heap_same hlt
    have k2 : W2.heap[b]? = some (.deferred (some [])) := by rw [hW2]; exact (World.putObj_heap_other (by omega)).trans hk
    have s2 : W2.heap.size = W.heap.size := by rw [hW2]; simp
    have i2 : I hi pre W2 := hI hi pre W W2 hlo hi1 (by rw [hW2]; exact KeepOn.put _ _ _ (by omega))
    have e2 : Sees hi x W2 := hSees hi x W W2 hsee (by rw [hW2]; exact KeepOn.put _ _ _ (by omega))
    have kp2 : KeepOn (fun k => Pv k ∨ (b + 2 ≤ k ∧ k < hi)) W W2 := by
      rw [hW2]
      exact KeepOn.put _ _ _ (by rintro (h | h); have := hPv _ h; omega; omega)
    rw [← hW2]
    refine wpIn_mono (hbody _ hi pre x W2 hlo (by omega) hpre i2 e2) ?_
    have fin : ∀ (jump : Option Code) (W3 : World), KeepOn (fun k => Pv k ∨ (b ≤ k ∧ k < hi)) W2 W3 →
        (Instr.endRound (b + 1) jump).run P W3 = .ok (.bool jump.isNone) (W3.putObj (b + 1) (.loop (rc (if jump.isNone then .ready else .done) jump))) ∧
        (W3.putObj (b + 1) (.loop (rc (if jump.isNone then .ready else .done) jump))).heap[b + 1]? = some (.loop (rc (if jump.isNone then .ready else .done) jump)) ∧
        (W3.putObj (b + 1) (.loop (rc (if jump.isNone then .ready else .done) jump))).heap[b]? = some (.deferred (some [])) := fun jump W3 k3 => by
      have l3 := (k3.block (b + 1) (Array.getElem?_eq_some_iff.1 l2).1 (.inr (by omega))).trans l2
      have := run_endRound (P := P) jump l3
      rw [hrc] at this ⊢
      exact ⟨this, World.putObj_heap_same (Array.getElem?_eq_some_iff.1 l3).1, (World.putObj_heap_other (by omega)).trans ((k3.block b (Array.getElem?_eq_some_iff.1 k2).1 (.inr (by omega))).trans k2)⟩
    have ixp : ∀ c s W3 o, Ix c s W3 → Ix c s (W3.putObj (b + 1) o) := fun c s W3 o h => hIx c s _ _ h (KeepOn.put _ _ _ (by omega))
    rintro e a3 W3 hp
    cases e with
    | normal =>
      obtain ⟨k3, i3⟩ := hp
      obtain ⟨r, l4, k4⟩ := fin none W3 k3
      refine ⟨_, _, r, .inl ⟨rfl, ⟨hI hi _ _ _ hlo i3 (KeepOn.put _ _ _ (by omega)), l4, k4⟩, kp2.trans ((k3.mono fun i _ h => ?_).trans (KeepOn.put _ _ _ ?_))⟩⟩
      · rcases h with h | h
        · exact .inl h
        · exact .inr (by omega)
      · rintro (h | h)
        · have := hPv _ h; omega
        · omega
    | ret =>
      obtain ⟨k3, i3⟩ := hp
      obtain ⟨r, l4, k4⟩ := fin (some .ret) W3 k3
      exact ⟨_, _, r, .inr ⟨rfl, .ret, ixp _ _ _ _ i3, l4, k4⟩⟩
    | exit id =>
      obtain ⟨k3, i3⟩ := hp
      obtain ⟨r, l4, k4⟩ := fin (some (.exit id)) W3 k3
      exact ⟨_, _, r, .inr ⟨rfl, .exit id, ixp _ _ _ _ i3, l4, k4⟩⟩
    | goto t =>
      obtain ⟨k3, i3⟩ := hp
      obtain ⟨r, l4, k4⟩ := fin (some (.goto t)) W3 k3
      exact ⟨_, _, r, .inr ⟨rfl, .goto t, ixp _ _ _ _ i3, l4, k4⟩⟩
    | panic ch => exact hp.elim
    | outgrown => exact hp.elim
  · rintro e W2 ⟨⟨v, rfl⟩, ⟨hi, h1, h2, hi2, hl, hk⟩ | ⟨pre, hp, c, hix, hl, hk⟩⟩
    · exact ⟨none, _, by have := run_endLoop (P := P) hl (by rw [hrc]; simp); rw [hrc] at this; exact this,
        hdone b hi _ (by omega) h1 (by simpa using h2) (hI hi _ _ _ h1 hi2 (KeepOn.put _ _ _ (by omega))) ((World.putObj_heap_other (by omega)).trans hk)⟩
    · exact ⟨some c, _, by have := run_endLoop (P := P) hl (by rw [hrc]; simp); rw [hrc] at this; exact this,
        hstop b c pre _ (by omega) hp (hIx c _ _ _ hix (KeepOn.put _ _ _ (by omega))) ((World.putObj_heap_other (by omega)).trans hk)⟩
end Go.Proofs.Ytdfljeonoallfaa
