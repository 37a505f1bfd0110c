/- Runs of a net by weights: what holds at the head of each step. -/
import Derived.Test.YtpfkkjgklhcejaaSB
import Derived.Test.YtpfkkjgklhcejaaS
namespace Go.Proofs.Ytpfkkjgklhcejaa
open Go.RowKit

def netObj (n : NetV) : Obj := .cells #[.string n.nm, .slice n.PA n.ps.length n.pc, .slice n.TA n.ts.length n.tc] 25 (0, 0)
structure PI (n : NetV) (ws : List Int) (R : Option (Hist × Nat)) (Inv : Nat → Hist → World → Prop) (z P s N : Nat) (i : Nat) (h : Hist) (m : List Int) (st : Nat) (B : Option Addr) (wr : World) : Prop where
  sim : SimAt n ws R h (N - i) m st
  len : h.length = i
  good : goodN n m = true
  rd : ReadsV wr B m
  na : NotAt P B m
  inv : Inv s h wr
  row : ∃ f, wr.rowIs P 3 ws.length f
  blk : wr.heap[z]? = some (netObj n)
  big : s ≤ wr.heap.size
variable {n : NetV} {ws : List Int} {R : Option (Hist × Nat)} {Inv : Nat → Hist → World → Prop} {z P s N i : Nat} {h : Hist} {m : List Int} {st : Nat} {B : Option Addr} {wr w' : World}
theorem PI.grown (H : PI n ws R Inv z P s N i h m st B wr) (hz : z ≠ P) (hi : Inv s h wr → Inv s h w') (hg : wr.grownBy w' (some P)) (hr : ∃ f, w'.rowIs P 3 ws.length f) : PI n ws R Inv z P s N i h m st B w' :=
  ⟨H.sim, H.len, H.good, H.rd.grown H.na hg, H.na, hi H.inv, hr, (hg.block z (Array.getElem?_eq_some_iff.1 H.blk).1 (by simpa using hz)).trans H.blk, Nat.le_trans H.big hg.size⟩
theorem PI.below (H : PI n ws R Inv z P s N i h m st B wr) (hi : Inv s h wr → Inv s h w') (hb : Below wr.heap.size wr w') : PI n ws R Inv z P s N i h m st B w' := by
  obtain ⟨f, hf⟩ := H.row
  exact ⟨H.sim, H.len, H.good, H.rd.below hb (Nat.le_refl _), H.na, hi H.inv, ⟨f, hf.of_block (hb.block P hf.lt)⟩, (hb.block z (Array.getElem?_eq_some_iff.1 H.blk).1).trans H.blk, Nat.le_trans H.big hb.size⟩
theorem PI.q0 (H : PI n ws R Inv z P s N i h m st B wr) : wr.cell? ⟨z, 0, none⟩ = some (.string n.nm) := by simp [World.cell?, H.blk, netObj]
theorem PI.q1 (H : PI n ws R Inv z P s N i h m st B wr) : wr.cell? ⟨z, 1, none⟩ = some (.slice n.PA n.ps.length n.pc) := by simp [World.cell?, H.blk, netObj]
theorem PI.q2 (H : PI n ws R Inv z P s N i h m st B wr) : wr.cell? ⟨z, 2, none⟩ = some (.slice n.TA n.ts.length n.tc) := by simp [World.cell?, H.blk, netObj]
theorem row_of_own {w : World} {base g k : Nat} {xs : List Value} (h : w.ownsRow base 3 1 (.slice (some ⟨g, 0, none⟩) k k) k xs) (f : Nat → Value) (hf : ∀ i, i < k → xs[i]? = some (f i)) : w.rowIs g 3 k f := by
  rcases h.2 with ⟨h0, _⟩ | ⟨b, cap, cur, e, _, hb, _, _, hs, ht⟩
  · cases h0
  · injection e with e1 e2 e3
    injection e1 with e1
    injection e1 with e1
    subst e1 e3
    rw [Nat.mul_one] at hs ht
    have e4 : cur.toList = xs := by rw [← ht, List.take_of_length_le (by rw [Array.length_toList]; omega)]
    exact ⟨cur, hb, hs, fun i hi => by rw [← Array.getElem?_toList, e4]; exact hf i hi⟩
def PPost (g : Nat) (w0 : World) (z : Nat) (Inv : Nat → Hist → World → Prop) (R : Option (Hist × Nat)) (e : Ending) (w' : World) : Prop :=
  (∃ s r, z ≤ s ∧ R = some r ∧ e = .returned (.tuple #[.int .u64 (r.2 : Nat), .int .i64 0]) ∧ Inv s r.1 w') ∨ (R = none ∧ e = .returned (.tuple #[.int .u64 0, .int .i64 3]) ∧ Below g w0 w')
theorem at_fires {n : NetV} {m : List Int} {j : Nat} (h : j < (firesV n m).length) : ∃ k : Nat, k < n.ts.length ∧ at0 (firesV n m) j = (k : Int) := pick_at (mayB n m) n.ts.length j h
end Go.Proofs.Ytpfkkjgklhcejaa
