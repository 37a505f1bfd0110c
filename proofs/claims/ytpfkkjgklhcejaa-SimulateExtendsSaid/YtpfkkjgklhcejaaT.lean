/- Plain and ordinary nets. Plain and ordinary nets: the functions themselves. Equality of arcs, places, transitions, nets. Equality of transitions and of nets. Equality of nets. -/
import Derived.Test.YtpfkkjgklhcejaaS
import Derived.Laws.EntriesVeiled
import Derived.Laws.StructEq
namespace Go.Proofs.Ytpfkkjgklhcejaa
open Go.RowKit

def anyB (f : Nat → Bool) (n : Nat) : Bool := decide (0 ≤ firstI f n 0)
theorem anyB_yes {f : Nat → Bool} {n k : Nat} (hk : k < n) (ht : f k = true) : anyB f n = true := by
  unfold anyB
  rcases firstI_cases f n with ⟨_, h⟩ | ⟨m, _, e, _, _⟩
  · rw [h k hk] at ht; cases ht
  · rw [e]; simp
theorem anyB_no {f : Nat → Bool} {n : Nat} (h : ∀ j, j < n → f j = false) : anyB f n = false := by
  unfold anyB
  rw [firstI_none h]
  decide
def oneF (l : List (Int × Int)) (j : Nat) : Bool := decide (aW l j ≠ 1)
def spF (ts : List TransV) (j : Nat) : Bool := decide (0 < (tA ts j).inh.l.length ∨ (tA ts j).prio ≠ 0)
def limF (ps : List PlaceV) (j : Nat) : Bool := decide ((pA ps j).cap ≠ 0)
def heavyV (l : List (Int × Int)) : Bool := anyB (oneF l) l.length
def hvF (ts : List TransV) (j : Nat) : Bool := heavyV (tA ts j).pre.l || heavyV (tA ts j).post.l
def plainN (n : NetV) : Bool := okN n && (!anyB (spF n.ts) n.ts.length && !anyB (limF n.ps) n.ps.length)
def ordinaryN (n : NetV) : Bool := okN n && !anyB (hvF n.ts) n.ts.length

end Go.Proofs.Ytpfkkjgklhcejaa

namespace Go.Proofs.Ytpfkkjgklhcejaa
open Go.RowKit


end Go.Proofs.Ytpfkkjgklhcejaa

namespace Go.Proofs.Ytpfkkjgklhcejaa
open Go.RowKit

def eqArc (l m : List (Int × Int)) (j : Nat) : Bool := aP l j == aP m j && aW l j == aW m j
def eqPl (ps qs : List PlaceV) (j : Nat) : Bool := eqS (pA ps j).nm (pA qs j).nm && ((pA ps j).ini == (pA qs j).ini && (pA ps j).cap == (pA qs j).cap)
def sameBy (n m : Nat) (f : Nat → Bool) : Bool := decide (n = m) && !anyB (fun j => !f j) n
def sameA (l m : List (Int × Int)) : Bool := sameBy l.length m.length (eqArc l m)
def sameP (ps qs : List PlaceV) : Bool := sameBy ps.length qs.length (eqPl ps qs)
def eqTr (ts us : List TransV) (j : Nat) : Bool :=
  eqS (tA ts j).nm (tA us j).nm && ((tA ts j).prio == (tA us j).prio && (sameA (tA ts j).pre.l (tA us j).pre.l && (sameA (tA ts j).post.l (tA us j).post.l && sameA (tA ts j).inh.l (tA us j).inh.l)))
def sameT (ts us : List TransV) : Bool := sameBy ts.length us.length (eqTr ts us)
def equalN (a b : NetV) : Bool := eqS a.nm b.nm && (sameP a.ps b.ps && sameT a.ts b.ts)
theorem sameBy_ne {n m : Nat} {f : Nat → Bool} (h : n ≠ m) : sameBy n m f = false := by simp [sameBy, h]
theorem sameBy_at {n m k : Nat} {f : Nat → Bool} (hk : k < n) (h : f k = false) : sameBy n m f = false := by
  have := anyB_yes (f := fun j => !f j) hk (by simp [h])
  simp [sameBy, this]
theorem sameBy_yes {n m : Nat} {f : Nat → Bool} (e : n = m) (h : ∀ j, j < n → f j = true) : sameBy n m f = true := by
  have := anyB_no (f := fun j => !f j) (n := n) (fun j hj => by simp [h j hj])
  simp [sameBy, this, e] at this ⊢
  subst e
  exact this
theorem sameBy_of {n m : Nat} {f : Nat → Bool} (h : sameBy n m f = true) : n = m ∧ ∀ j, j < n → f j = true := by
  by_cases e : n = m
  · refine ⟨e, fun j hj => ?_⟩
    cases hf : f j
    · rw [sameBy_at hj hf] at h; cases h
    · rfl
  · rw [sameBy_ne e] at h; cases h

theorem arcNeq (a b c d : Int) (w : World) : (binOp .neq 70 (.agg #[.int .i64 a, .int .i64 b]) (.agg #[.int .i64 c, .int .i64 d])).run Try.prog w = .ok (.bool (!(a == c && b == d))) w := by
  have hS : Try.prog.underlying 70 = some (.struct (Try.prog.fieldsOf 70)) := by kernel_rfl
  have hp : Try.prog.stoodInHeld 70 = false := by kernel_rfl
  rw [run_neq_struct, show (10000 : Nat) = 9999 + 1 from rfl, run_equalIn_agg w 9999 70 _ _ hS hp]
  simp only [Program.fieldsOf, Try.underlying70]
  go_simp
  by_cases h1 : a = c <;> by_cases h2 : b = d <;> simp [h1, h2]
theorem placeNeq (s t : ByteArray) (a b c d : Int) (w : World) : (binOp .neq 65 (.agg #[.string s, .int .i64 a, .int .i64 b]) (.agg #[.string t, .int .i64 c, .int .i64 d])).run Try.prog w = .ok (.bool (!(eqS s t && (a == c && b == d)))) w := by
  have hS : Try.prog.underlying 65 = some (.struct (Try.prog.fieldsOf 65)) := by kernel_rfl
  have hp : Try.prog.stoodInHeld 65 = false := by kernel_rfl
  rw [run_neq_struct, show (10000 : Nat) = 9999 + 1 from rfl, run_equalIn_agg w 9999 65 _ _ hS hp]
  simp only [Program.fieldsOf, Try.underlying65]
  unfold eqS
  go_simp
  by_cases h0 : s.toList = t.toList <;> by_cases h1 : a = c <;> by_cases h2 : b = d <;> simp [h0, h1, h2]
theorem faultNeq (a b c d : Int) (w : World) : (binOp .neq 57 (.agg #[.int .i64 a, .int .i64 b]) (.agg #[.int .i64 c, .int .i64 d])).run Try.prog w = .ok (.bool (!(a == c && b == d))) w := by
  have hS : Try.prog.underlying 57 = some (.struct (Try.prog.fieldsOf 57)) := by kernel_rfl
  have hp : Try.prog.stoodInHeld 57 = false := by kernel_rfl
  rw [run_neq_struct, show (10000 : Nat) = 9999 + 1 from rfl, run_equalIn_agg w 9999 57 _ _ hS hp]
  simp only [Program.fieldsOf, Try.underlying57]
  go_simp
  by_cases h1 : a = c <;> by_cases h2 : b = d <;> simp [h1, h2]

end Go.Proofs.Ytpfkkjgklhcejaa

namespace Go.Proofs.Ytpfkkjgklhcejaa
open Go.RowKit

def eqTV (x y : TransV) : Bool := eqS x.nm y.nm && (x.prio == y.prio && (sameA x.pre.l y.pre.l && (sameA x.post.l y.post.l && sameA x.inh.l y.inh.l)))
def OkTV (x : TransV) : Prop := x.nm.size ≤ maxLen ∧ x.pre.l.length ≤ 1000 ∧ x.post.l.length ≤ 1000 ∧ x.inh.l.length ≤ 1000

end Go.Proofs.Ytpfkkjgklhcejaa

namespace Go.Proofs.Ytpfkkjgklhcejaa
open Go.RowKit

def sameN (a b : NetV) : Bool := okN a && (okN b && equalN a b)

end Go.Proofs.Ytpfkkjgklhcejaa
