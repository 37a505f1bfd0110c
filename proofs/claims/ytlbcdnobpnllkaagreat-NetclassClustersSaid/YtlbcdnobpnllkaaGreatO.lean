/- Places and transitions by name, weights of arcs. -/
import Derived.Test.YtlbcdnobpnllkaaGreatN
namespace Go.Proofs.YtlbcdnobpnllkaaGreat
open Go.RowKit

def placeN (n : NetV) (s : ByteArray) : Int := if okN n = true then placeI n.ps n.ps.length s else -1
def transN (n : NetV) (s : ByteArray) : Int := if okN n = true then transI n.ts n.ts.length s else -1
def isT (n : NetV) (t : Int) : Bool := decide (0 ≤ t) && decide (t < n.ts.length) && okN n
def preN (n : NetV) (t p : Int) : Int := if isT n t = true then weightV (tA n.ts t.toNat).pre.l p else 0
def postN (n : NetV) (t p : Int) : Int := if isT n t = true then weightV (tA n.ts t.toNat).post.l p else 0

set_option maxHeartbeats 1000000 in
theorem weight_any (A : Option Addr) (l : List (Int × Int)) (c : Nat) (p : Int) (w : World) (hr : ReadsA w A l) (hl : l.length ≤ maxLen) :
    Calls Tryz.prog 102 #[.slice A l.length c, .int .i64 p] w (VPost w.heap.size w (.int .i64 (weightV l p))) := by
  unfold maxLen at hl
  generalize hS : weightV l p = S
  have HS := Lib.hid hS
  clear hS
  have HR := Lib.hid hr
  clear hr
  generalize hg : w.heap.size = g at *
  have HG := Lib.hid hg
  clear hg
  generalize hn : l.length = n at *
  have HN := Lib.hid hn
  clear hn
  go_enter Tryz.func102, Tryz.ntmps102
  go_wp2
  go_loopw [9] (fun q wr => ∃ k : Nat, k ≤ n ∧ q = .int .i64 k ∧ Hid (Below g w wr) ∧ Hid (∀ j, j < k → decide (aP l j = p) = false)) (fun q _ => n - (intOf q).toNat)
  case atStart => exact ⟨0, by omega, rfl, Below.refl _ _, fun j hj => absurd hj (by omega)⟩
  case round =>
    obtain ⟨k, hk, rfl, HB, HM⟩ := hrel
    by_cases hlt : k < n
    · obtain ⟨b0, off, rfl, hb0, hc0, hc1⟩ := (HR.out.below HB.out (by rw [HG.out]; exact Nat.le_refl _)) k (by rw [HN.out]; exact hlt)
      have HT : Hid (aP l k = p → aW l k = S) := fun h => by rw [← HS.out, weightV_at (by rw [HN.out]; exact hlt) HM.out h]
      have HF : Hid (¬ aP l k = p → ∀ j, j < k + 1 → decide (aP l j = p) = false) := fun h => upto_snoc HM.out (by simpa using h)
      have HB2 : Hid (∀ o, Below g w (wr.alloc o)) := fun o => HB.out.alloc (by have := HB.out.size; rw [HG.out] at this; exact this) o
      clear HM
      generalize aP l k = x at *
      generalize aW l k = u at *
      by_cases q : x = p
      · have E := Lib.hid (HT.out q)
        have qb : (x == p) = true := by simpa using q
        clear HT HF q
        go_wp2
        go_ret
        exact ⟨ret_i E.out, HB2.out _⟩
      · have G := Lib.hid (HF.out q)
        have qb : (x == p) = false := by simpa using q
        clear HT HF q
        go_wp2
        go_roundw
        case rel => exact ⟨k + 1, by omega, by go_num, HB2.out _, G⟩
        case measure => simp [intOf]; omega
    · have E : Hid (0 = S) := by
        show _ = _
        rw [← HS.out, weightV_none (fun j hj => HM.out j (by rw [HN.out] at hj; omega))]
      clear HM
      go_wp2
      go_ret
      exact ⟨ret_i E.out, HB.out⟩

set_option maxHeartbeats 1000000 in
theorem rweight_any (A : Option Addr) (l : List (Int × Int)) (c : Nat) (p : Int) (w : World) (hr : ReadsA w A l) (hl : l.length ≤ maxLen) :
    Calls Tryz.prog 37 #[.slice A l.length c, .int .i64 p] w (VPost w.heap.size w (.int .i64 (weightV l p))) := by
  unfold maxLen at hl
  generalize hS : weightV l p = S
  have HS := Lib.hid hS
  clear hS
  have HR := Lib.hid hr
  clear hr
  generalize hg : w.heap.size = g at *
  have HG := Lib.hid hg
  clear hg
  generalize hn : l.length = n at *
  have HN := Lib.hid hn
  clear hn
  go_enter Tryz.func37, Tryz.ntmps37
  go_wp2
  go_loopw [5] (fun q wr => ∃ k : Nat, k ≤ n ∧ q = .int .i64 k ∧ Hid (Below g w wr) ∧ Hid (∀ j, j < k → decide (aP l j = p) = false)) (fun q _ => n - (intOf q).toNat)
  case atStart => exact ⟨0, by omega, rfl, Below.refl _ _, fun j hj => absurd hj (by omega)⟩
  case round =>
    obtain ⟨k, hk, rfl, HB, HM⟩ := hrel
    by_cases hlt : k < n
    · obtain ⟨b0, off, rfl, hb0, hc0, hc1⟩ := (HR.out.below HB.out (by rw [HG.out]; exact Nat.le_refl _)) k (by rw [HN.out]; exact hlt)
      have HT : Hid (aP l k = p → aW l k = S) := fun h => by rw [← HS.out, weightV_at (by rw [HN.out]; exact hlt) HM.out h]
      have HF : Hid (¬ aP l k = p → ∀ j, j < k + 1 → decide (aP l j = p) = false) := fun h => upto_snoc HM.out (by simpa using h)
      have HB2 : Hid (∀ o, Below g w (wr.alloc o)) := fun o => HB.out.alloc (by have := HB.out.size; rw [HG.out] at this; exact this) o
      clear HM
      generalize aP l k = x at *
      generalize aW l k = u at *
      by_cases q : x = p
      · have E := Lib.hid (HT.out q)
        have qb : (x == p) = true := by simpa using q
        clear HT HF q
        go_wp2
        go_ret
        exact ⟨ret_i E.out, HB.out⟩
      · have G := Lib.hid (HF.out q)
        have qb : (x == p) = false := by simpa using q
        clear HT HF q
        go_wp2
        go_roundw
        case rel => exact ⟨k + 1, by omega, by go_num, HB.out, G⟩
        case measure => simp [intOf]; omega
    · have E : Hid (0 = S) := by
        show _ = _
        rw [← HS.out, weightV_none (fun j hj => HM.out j (by rw [HN.out] at hj; omega))]
      clear HM
      go_wp2
      go_ret
      exact ⟨ret_i E.out, HB.out⟩
end Go.Proofs.YtlbcdnobpnllkaaGreat
