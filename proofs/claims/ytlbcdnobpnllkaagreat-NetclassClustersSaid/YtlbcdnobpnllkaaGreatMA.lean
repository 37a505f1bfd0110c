/- What a valid net is; sums of weights. -/
import Derived.Test.YtlbcdnobpnllkaaGreatU
import Derived.Deep.OwnRows
namespace Go.Proofs.YtlbcdnobpnllkaaGreat
open Go.RowKit

theorem okN_parts {n : NetV} (h : okN n = true) : nameB (bytesI n.nm) = true ∧ 1 ≤ n.ps.length ∧ n.ps.length ≤ 24 ∧ n.ts.length ≤ 24 ∧ (∀ j, j < n.ps.length → placeE n.ps j = 0) ∧ (∀ j, j < n.ts.length → transE n.ps.length n.ps n.ts j = 0) := by
  have h0 : (checkV n.nm n.ps n.ts).1 = 0 := of_decide_eq_true h
  have hn : nameB (bytesI n.nm) = true := by
    cases e : nameB (bytesI n.nm)
    · rw [checkV_name e] at h0; exact absurd h0 (by decide)
    · rfl
  have hs : ¬ (n.ps.length < 1 ∨ 24 < n.ps.length ∨ 24 < n.ts.length) := fun e => by
    rw [checkV_size hn e] at h0; exact absurd h0 (by decide)
  have hp : ∀ j, j < n.ps.length → placeE n.ps j = 0 := by
    rcases firstI_cases (fun j => decide (placeE n.ps j ≠ 0)) n.ps.length with ⟨_, ha⟩ | ⟨k, hk, _, ht, ha⟩
    · exact fun j hj => by simpa using ha j hj
    · have hv : placeE n.ps k ≠ 0 := by simpa using ht
      rw [checkV_place hn hs hk (fun j hj => by simpa using ha j hj) hv] at h0
      exact absurd h0 hv
  have ht : ∀ j, j < n.ts.length → transE n.ps.length n.ps n.ts j = 0 := by
    rcases firstI_cases (fun j => decide (transE n.ps.length n.ps n.ts j ≠ 0)) n.ts.length with ⟨_, ha⟩ | ⟨k, hk, _, ht, ha⟩
    · exact fun j hj => by simpa using ha j hj
    · have hv : transE n.ps.length n.ps n.ts k ≠ 0 := by simpa using ht
      rw [checkV_trans hn hs hp hk (fun j hj => by simpa using ha j hj) hv] at h0
      exact absurd h0 hv
  exact ⟨hn, by omega, by omega, by omega, hp, ht⟩
theorem okN_mk {n : NetV} (h1 : nameB (bytesI n.nm) = true) (h2 : 1 ≤ n.ps.length) (h3 : n.ps.length ≤ 24) (h4 : n.ts.length ≤ 24) (h5 : ∀ j, j < n.ps.length → placeE n.ps j = 0) (h6 : ∀ j, j < n.ts.length → transE n.ps.length n.ps n.ts j = 0) : okN n = true := by
  have := checkV_ok (ts := n.ts) h1 (by omega) h5 h6
  simp [okN, chkV, this]
theorem transE_parts {m : Nat} {ps : List PlaceV} {ts : List TransV} {j : Nat} (h : transE m ps ts j = 0) :
    nameB (bytesI (tA ts j).nm) = true ∧ placeI ps m (tA ts j).nm < 0 ∧ transI ts j (tA ts j).nm < 0 ∧ 0 ≤ (tA ts j).prio ∧ (tA ts j).prio ≤ 9 ∧ arcsE m (tA ts j).pre.l = 0 ∧ arcsE m (tA ts j).post.l = 0 ∧ arcsE m (tA ts j).inh.l = 0 := by
  unfold transE at h
  split at h
  · exact absurd h (by decide)
  · rename_i h1
    split at h
    · exact absurd h (by decide)
    · rename_i h2
      split at h
      · exact absurd h (by decide)
      · rename_i h3
        unfold orE at h
        split at h
        · rename_i h4
          split at h
          · rename_i h5
            exact ⟨by simpa using h1, by omega, by omega, by omega, by omega, h4, h5, h⟩
          · rename_i h5
            exact absurd h h5
        · rename_i h4
          exact absurd h h4
theorem placeE_parts {ps : List PlaceV} {j : Nat} (h : placeE ps j = 0) : nameB (bytesI (pA ps j).nm) = true ∧ placeI ps j (pA ps j).nm < 0 := by
  unfold placeE at h
  split at h
  · exact absurd h (by decide)
  · rename_i h1
    split at h
    · exact absurd h (by decide)
    · rename_i h2
      exact ⟨by simpa using h1, by omega⟩
theorem arcsE_parts {m : Nat} {l : List (Int × Int)} (h : arcsE m l = 0) (j : Nat) (hj : j < l.length) : 0 ≤ aP l j ∧ aP l j < m ∧ prevP l j < aP l j ∧ 1 ≤ aW l j ∧ aW l j ≤ 99 := by
  unfold arcsE at h
  rcases firstV_cases (arcE m l) l.length with ⟨_, ha⟩ | ⟨k, _, e, hv, _⟩
  · have := ha j hj
    unfold arcE at this
    split at this
    · exact absurd this (by decide)
    · split at this
      · exact absurd this (by decide)
      · split at this
        · exact absurd this (by decide)
        · refine ⟨by omega, by omega, by omega, by omega, by omega⟩
  · rw [e] at h; exact absurd h hv
theorem arcs_mono {m : Nat} {l : List (Int × Int)} (h : arcsE m l = 0) : ∀ (d i : Nat), i + d + 1 < l.length → aP l i < aP l (i + d + 1)
  | 0, i, hi => by
    have := (arcsE_parts h (i + 1) hi).2.2.1
    simpa [prevP] using this
  | d + 1, i, hi => by
    have h1 := arcs_mono h d i (by omega)
    have h2 := (arcsE_parts h (i + (d + 1) + 1) hi).2.2.1
    have e : prevP l (i + (d + 1) + 1) = aP l (i + d + 1) := rfl
    rw [e] at h2
    omega
theorem arcs_lt {m : Nat} {l : List (Int × Int)} (h : arcsE m l = 0) {i j : Nat} (hij : i < j) (hj : j < l.length) : aP l i < aP l j := by
  have := arcs_mono h (j - i - 1) i (by omega)
  rwa [show i + (j - i - 1) + 1 = j from by omega] at this
/-- the sum of the weights of the first k arcs that lead to p -/
def sumW (l : List (Int × Int)) (p : Int) : Nat → Int
  | 0 => 0
  | k + 1 => sumW l p k + if aP l k = p then aW l k else 0
theorem sumW_none {l : List (Int × Int)} {p : Int} : ∀ k, (∀ j, j < k → aP l j ≠ p) → sumW l p k = 0
  | 0, _ => rfl
  | k + 1, h => by rw [sumW, sumW_none k (fun j hj => h j (by omega)), if_neg (h k (by omega))]; rfl
theorem sumW_bd {m : Nat} {l : List (Int × Int)} {p : Int} (h : arcsE m l = 0) : ∀ k, k ≤ l.length → 0 ≤ sumW l p k ∧ sumW l p k ≤ 99 * k
  | 0, _ => by simp [sumW]
  | k + 1, hk => by
    have := sumW_bd (p := p) h k (by omega)
    have b := arcsE_parts h k (by omega)
    rw [sumW]
    split <;> omega
theorem sumW_all {m : Nat} {l : List (Int × Int)} {p : Int} (h : arcsE m l = 0) : sumW l p l.length = weightV l p := by
  rcases firstI_cases (fun j => decide (aP l j = p)) l.length with ⟨_, ha⟩ | ⟨k, hk, e, ht, ha⟩
  · rw [weightV_none ha, sumW_none _ (fun j hj => by simpa using ha j hj)]
  · have hp : aP l k = p := by simpa using ht
    rw [weightV_at hk ha hp]
    have h1 : ∀ d, k + 1 + d ≤ l.length → sumW l p (k + 1 + d) = aW l k := by
      intro d
      induction d with
      | zero => intro _; rw [Nat.add_zero, sumW, sumW_none k (fun j hj => by simpa using ha j hj), if_pos hp]; omega
      | succ d ih =>
        intro hd
        rw [show k + 1 + (d + 1) = (k + 1 + d) + 1 from by omega, sumW, ih (by omega), if_neg (by have := arcs_lt h (i := k) (j := k + 1 + d) (by omega) (by omega); omega)]
        omega
    have := h1 (l.length - (k + 1)) (by omega)
    rwa [show k + 1 + (l.length - (k + 1)) = l.length from by omega] at this

end Go.Proofs.YtlbcdnobpnllkaaGreat
