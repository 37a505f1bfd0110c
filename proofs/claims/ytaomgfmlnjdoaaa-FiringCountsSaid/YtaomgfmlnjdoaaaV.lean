/- Equality of arcs, places, transitions, nets. -/
import Derived.Test.YtaomgfmlnjdoaaaU
import Derived.Laws.StructEq
namespace Go.Proofs.Ytaomgfmlnjdoaaa
open Go.RowKit

def eqArc (l m : List (Int × Int)) (j : Nat) : Bool := aP l j == aP m j && aW l j == aW m j
def eqPl (ps qs : List PlaceV) (j : Nat) : Bool := eqS (pA ps j).nm (pA qs j).nm && ((pA ps j).ini == (pA qs j).ini && (pA ps j).cap == (pA qs j).cap)
def sameBy (n m : Nat) (f : Nat → Bool) : Bool := decide (n = m) && !anyB (fun j => !f j) n
def sameA (l m : List (Int × Int)) : Bool := sameBy l.length m.length (eqArc l m)
def sameP (ps qs : List PlaceV) : Bool := sameBy ps.length qs.length (eqPl ps qs)
def eqTr (ts us : List TransV) (j : Nat) : Bool :=
  eqS (tA ts j).nm (tA us j).nm && ((tA ts j).prio == (tA us j).prio && (sameA (tA ts j).pre.l (tA us j).pre.l && (sameA (tA ts j).post.l (tA us j).post.l && sameA (tA ts j).inh.l (tA us j).inh.l)))
def sameT (ts us : List TransV) : Bool := sameBy ts.length us.length (eqTr ts us)
def equalN (a b : NetV) : Bool := eqS a.nm b.nm && (sameP a.ps b.ps && sameT a.ts b.ts)
theorem sameBy_ne {n m : Nat} {f : Nat → Bool} (h : n ≠ m) : sameBy n m f = false := by simp [sameBy, h]
theorem sameBy_at {n m k : Nat} {f : Nat → Bool} (hk : k < n) (h : f k = false) : sameBy n m f = false := by
  have := anyB_yes (f := fun j => !f j) hk (by simp [h])
  simp [sameBy, this]
theorem sameBy_yes {n m : Nat} {f : Nat → Bool} (e : n = m) (h : ∀ j, j < n → f j = true) : sameBy n m f = true := by
  have := anyB_no (f := fun j => !f j) (n := n) (fun j hj => by simp [h j hj])
  simp [sameBy, this, e] at this ⊢
  subst e
  exact this
theorem sameBy_of {n m : Nat} {f : Nat → Bool} (h : sameBy n m f = true) : n = m ∧ ∀ j, j < n → f j = true := by
  by_cases e : n = m
  · refine ⟨e, fun j hj => ?_⟩
    cases hf : f j
    · rw [sameBy_at hj hf] at h; cases h
    · rfl
  · rw [sameBy_ne e] at h; cases h

theorem arcNeq (a b c d : Int) (w : World) : (binOp .neq 60 (.agg #[.int .i64 a, .int .i64 b]) (.agg #[.int .i64 c, .int .i64 d])).run Try.prog w = .ok (.bool (!(a == c && b == d))) w := by
  have hS : Try.prog.underlying 60 = some (.struct (Try.prog.fieldsOf 60)) := by kernel_rfl
  have hp : Try.prog.stoodInHeld 60 = false := by kernel_rfl
  rw [run_neq_struct, show (10000 : Nat) = 9999 + 1 from rfl, run_equalIn_agg w 9999 60 _ _ hS hp]
  simp only [Program.fieldsOf, Try.underlying60]
  go_simp
  by_cases h1 : a = c <;> by_cases h2 : b = d <;> simp [h1, h2]
theorem placeNeq (s t : ByteArray) (a b c d : Int) (w : World) : (binOp .neq 55 (.agg #[.string s, .int .i64 a, .int .i64 b]) (.agg #[.string t, .int .i64 c, .int .i64 d])).run Try.prog w = .ok (.bool (!(eqS s t && (a == c && b == d)))) w := by
  have hS : Try.prog.underlying 55 = some (.struct (Try.prog.fieldsOf 55)) := by kernel_rfl
  have hp : Try.prog.stoodInHeld 55 = false := by kernel_rfl
  rw [run_neq_struct, show (10000 : Nat) = 9999 + 1 from rfl, run_equalIn_agg w 9999 55 _ _ hS hp]
  simp only [Program.fieldsOf, Try.underlying55]
  unfold eqS
  go_simp
  by_cases h0 : s.toList = t.toList <;> by_cases h1 : a = c <;> by_cases h2 : b = d <;> simp [h0, h1, h2]
theorem faultNeq (a b c d : Int) (w : World) : (binOp .neq 38 (.agg #[.int .i64 a, .int .i64 b]) (.agg #[.int .i64 c, .int .i64 d])).run Try.prog w = .ok (.bool (!(a == c && b == d))) w := by
  have hS : Try.prog.underlying 38 = some (.struct (Try.prog.fieldsOf 38)) := by kernel_rfl
  have hp : Try.prog.stoodInHeld 38 = false := by kernel_rfl
  rw [run_neq_struct, show (10000 : Nat) = 9999 + 1 from rfl, run_equalIn_agg w 9999 38 _ _ hS hp]
  simp only [Program.fieldsOf, Try.underlying38]
  go_simp
  by_cases h1 : a = c <;> by_cases h2 : b = d <;> simp [h1, h2]

end Go.Proofs.Ytaomgfmlnjdoaaa
