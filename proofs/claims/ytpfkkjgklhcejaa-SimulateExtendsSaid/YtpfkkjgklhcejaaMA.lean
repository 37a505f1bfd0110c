/- What a valid net is; sums of weights. The net of the example. -/
import Derived.Test.YtpfkkjgklhcejaaT
import Derived.Deep.OwnRows
namespace Go.Proofs.Ytpfkkjgklhcejaa
open Go.RowKit

theorem okN_parts {n : NetV} (h : okN n = true) : nameB (bytesI n.nm) = true ∧ 1 ≤ n.ps.length ∧ n.ps.length ≤ 24 ∧ n.ts.length ≤ 24 ∧ (∀ j, j < n.ps.length → placeE n.ps j = 0) ∧ (∀ j, j < n.ts.length → transE n.ps.length n.ps n.ts j = 0) := by
  have h0 : (checkV n.nm n.ps n.ts).1 = 0 := of_decide_eq_true h
  have hn : nameB (bytesI n.nm) = true := by
    cases e : nameB (bytesI n.nm)
    · rw [checkV_name e] at h0; exact absurd h0 (by decide)
    · rfl
  have hs : ¬ (n.ps.length < 1 ∨ 24 < n.ps.length ∨ 24 < n.ts.length) := fun e => by
    rw [checkV_size hn e] at h0; exact absurd h0 (by decide)
  have hp : ∀ j, j < n.ps.length → placeE n.ps j = 0 := by
    rcases firstI_cases (fun j => decide (placeE n.ps j ≠ 0)) n.ps.length with ⟨_, ha⟩ | ⟨k, hk, _, ht, ha⟩
    · exact fun j hj => by simpa using ha j hj
    · have hv : placeE n.ps k ≠ 0 := by simpa using ht
      rw [checkV_place hn hs hk (fun j hj => by simpa using ha j hj) hv] at h0
      exact absurd h0 hv
  have ht : ∀ j, j < n.ts.length → transE n.ps.length n.ps n.ts j = 0 := by
    rcases firstI_cases (fun j => decide (transE n.ps.length n.ps n.ts j ≠ 0)) n.ts.length with ⟨_, ha⟩ | ⟨k, hk, _, ht, ha⟩
    · exact fun j hj => by simpa using ha j hj
    · have hv : transE n.ps.length n.ps n.ts k ≠ 0 := by simpa using ht
      rw [checkV_trans hn hs hp hk (fun j hj => by simpa using ha j hj) hv] at h0
      exact absurd h0 hv
  exact ⟨hn, by omega, by omega, by omega, hp, ht⟩
theorem okN_mk {n : NetV} (h1 : nameB (bytesI n.nm) = true) (h2 : 1 ≤ n.ps.length) (h3 : n.ps.length ≤ 24) (h4 : n.ts.length ≤ 24) (h5 : ∀ j, j < n.ps.length → placeE n.ps j = 0) (h6 : ∀ j, j < n.ts.length → transE n.ps.length n.ps n.ts j = 0) : okN n = true := by
  have := checkV_ok (ts := n.ts) h1 (by omega) h5 h6
  simp [okN, chkV, this]
theorem transE_parts {m : Nat} {ps : List PlaceV} {ts : List TransV} {j : Nat} (h : transE m ps ts j = 0) :
    nameB (bytesI (tA ts j).nm) = true ∧ placeI ps m (tA ts j).nm < 0 ∧ transI ts j (tA ts j).nm < 0 ∧ 0 ≤ (tA ts j).prio ∧ (tA ts j).prio ≤ 9 ∧ arcsE m (tA ts j).pre.l = 0 ∧ arcsE m (tA ts j).post.l = 0 ∧ arcsE m (tA ts j).inh.l = 0 := by
  unfold transE at h
  split at h
  · exact absurd h (by decide)
  · rename_i h1
    split at h
    · exact absurd h (by decide)
    · rename_i h2
      split at h
      · exact absurd h (by decide)
      · rename_i h3
        unfold orE at h
        split at h
        · rename_i h4
          split at h
          · rename_i h5
            exact ⟨by simpa using h1, by omega, by omega, by omega, by omega, h4, h5, h⟩
          · rename_i h5
            exact absurd h h5
        · rename_i h4
          exact absurd h h4
theorem placeE_parts {ps : List PlaceV} {j : Nat} (h : placeE ps j = 0) : nameB (bytesI (pA ps j).nm) = true ∧ placeI ps j (pA ps j).nm < 0 := by
  unfold placeE at h
  split at h
  · exact absurd h (by decide)
  · rename_i h1
    split at h
    · exact absurd h (by decide)
    · rename_i h2
      exact ⟨by simpa using h1, by omega⟩
theorem arcsE_parts {m : Nat} {l : List (Int × Int)} (h : arcsE m l = 0) (j : Nat) (hj : j < l.length) : 0 ≤ aP l j ∧ aP l j < m ∧ prevP l j < aP l j ∧ 1 ≤ aW l j ∧ aW l j ≤ 99 := by
  unfold arcsE at h
  rcases firstV_cases (arcE m l) l.length with ⟨_, ha⟩ | ⟨k, _, e, hv, _⟩
  · have := ha j hj
    unfold arcE at this
    split at this
    · exact absurd this (by decide)
    · split at this
      · exact absurd this (by decide)
      · split at this
        · exact absurd this (by decide)
        · refine ⟨by omega, by omega, by omega, by omega, by omega⟩
  · rw [e] at h; exact absurd h hv
theorem arcs_mono {m : Nat} {l : List (Int × Int)} (h : arcsE m l = 0) : ∀ (d i : Nat), i + d + 1 < l.length → aP l i < aP l (i + d + 1)
  | 0, i, hi => by
    have := (arcsE_parts h (i + 1) hi).2.2.1
    simpa [prevP] using this
  | d + 1, i, hi => by
    have h1 := arcs_mono h d i (by omega)
    have h2 := (arcsE_parts h (i + (d + 1) + 1) hi).2.2.1
    have e : prevP l (i + (d + 1) + 1) = aP l (i + d + 1) := rfl
    rw [e] at h2
    omega
theorem arcs_lt {m : Nat} {l : List (Int × Int)} (h : arcsE m l = 0) {i j : Nat} (hij : i < j) (hj : j < l.length) : aP l i < aP l j := by
  have := arcs_mono h (j - i - 1) i (by omega)
  rwa [show i + (j - i - 1) + 1 = j from by omega] at this
/-- the sum of the weights of the first k arcs that lead to p -/
def sumW (l : List (Int × Int)) (p : Int) : Nat → Int
  | 0 => 0
  | k + 1 => sumW l p k + if aP l k = p then aW l k else 0
theorem sumW_none {l : List (Int × Int)} {p : Int} : ∀ k, (∀ j, j < k → aP l j ≠ p) → sumW l p k = 0
  | 0, _ => rfl
  | k + 1, h => by rw [sumW, sumW_none k (fun j hj => h j (by omega)), if_neg (h k (by omega))]; rfl
theorem sumW_bd {m : Nat} {l : List (Int × Int)} {p : Int} (h : arcsE m l = 0) : ∀ k, k ≤ l.length → 0 ≤ sumW l p k ∧ sumW l p k ≤ 99 * k
  | 0, _ => by simp [sumW]
  | k + 1, hk => by
    have := sumW_bd (p := p) h k (by omega)
    have b := arcsE_parts h k (by omega)
    rw [sumW]
    split <;> omega
theorem sumW_all {m : Nat} {l : List (Int × Int)} {p : Int} (h : arcsE m l = 0) : sumW l p l.length = weightV l p := by
  rcases firstI_cases (fun j => decide (aP l j = p)) l.length with ⟨_, ha⟩ | ⟨k, hk, e, ht, ha⟩
  · rw [weightV_none ha, sumW_none _ (fun j hj => by simpa using ha j hj)]
  · have hp : aP l k = p := by simpa using ht
    rw [weightV_at hk ha hp]
    have h1 : ∀ d, k + 1 + d ≤ l.length → sumW l p (k + 1 + d) = aW l k := by
      intro d
      induction d with
      | zero => intro _; rw [Nat.add_zero, sumW, sumW_none k (fun j hj => by simpa using ha j hj), if_pos hp]; omega
      | succ d ih =>
        intro hd
        rw [show k + 1 + (d + 1) = (k + 1 + d) + 1 from by omega, sumW, ih (by omega), if_neg (by have := arcs_lt h (i := k) (j := k + 1 + d) (by omega) (by omega); omega)]
        omega
    have := h1 (l.length - (k + 1)) (by omega)
    rwa [show k + 1 + (l.length - (k + 1)) = l.length from by omega] at this

end Go.Proofs.Ytpfkkjgklhcejaa

namespace Go.Proofs.Ytpfkkjgklhcejaa
open Go.RowKit

def sN : ByteArray := ⟨#[110]⟩
def sP : ByteArray := ⟨#[112]⟩
def sQ : ByteArray := ⟨#[113]⟩
def sT : ByteArray := ⟨#[116]⟩
def pairV (a b c d : Nat) : NetV := ⟨sN, some ⟨a, 0, none⟩, [⟨sP, 2, 0⟩, ⟨sQ, 0, 0⟩], 2, some ⟨b, 0, none⟩, [⟨sT, ⟨some ⟨c, 0, none⟩, 1, [(0, 2)]⟩, ⟨some ⟨d, 0, none⟩, 1, [(1, 1)]⟩, ⟨none, 0, []⟩, 0⟩], 1⟩
def twiceV (a : Nat) : NetV := ⟨sN, some ⟨a, 0, none⟩, [⟨sP, 0, 0⟩, ⟨sP, 0, 0⟩], 2, none, [], 0⟩

theorem past {w : World} {o : Obj} {p : Addr} {v : Value} (h : w.cell? p = some v) : (w.alloc o).cell? p = some v := (World.cell?_alloc_lt _ _ _ (World.block_lt_of_cell? w p h)).trans h
theorem newc (w : World) (cs : Array Value) (t : TypeId) (i : Nat) (v : Value) (h : cs[i]? = some v) {g : Nat} (hg : g = w.heap.size) : (w.alloc (.cells cs t)).cell? ⟨g, i, none⟩ = some v := by
  subst hg
  rw [World.cell?_alloc_new]
  exact h
theorem readsP2 {w : World} {a : Nat} {p q : PlaceV} (h0 : a < w.heap.size) (h1 : w.cell? ⟨a, 0, none⟩ = some (.string p.nm)) (h2 : w.cell? ⟨a, 1, none⟩ = some (.int .i64 p.ini)) (h3 : w.cell? ⟨a, 2, none⟩ = some (.int .i64 p.cap))
    (h4 : w.cell? ⟨a, 3, none⟩ = some (.string q.nm)) (h5 : w.cell? ⟨a, 4, none⟩ = some (.int .i64 q.ini)) (h6 : w.cell? ⟨a, 5, none⟩ = some (.int .i64 q.cap)) : ReadsP w (some ⟨a, 0, none⟩) [p, q] := by
  intro j hj
  match j, hj with
  | 0, _ => exact ⟨a, 0, rfl, h0, h1, h2, h3⟩
  | 1, _ => exact ⟨a, 0, rfl, h0, h4, h5, h6⟩
theorem readsA1 {w : World} {a : Nat} {p u : Int} (h0 : a < w.heap.size) (h1 : w.cell? ⟨a, 0, none⟩ = some (.int .i64 p)) (h2 : w.cell? ⟨a, 1, none⟩ = some (.int .i64 u)) : ReadsA w (some ⟨a, 0, none⟩) [(p, u)] := by
  intro j hj
  match j, hj with
  | 0, _ => exact ⟨a, 0, rfl, h0, h1, h2⟩
theorem readsT1 {w : World} {a : Nat} {t : TransV} (h0 : a < w.heap.size) (h1 : w.cell? ⟨a, 0, none⟩ = some (.string t.nm)) (h2 : w.cell? ⟨a, 1, none⟩ = some (.slice t.pre.A t.pre.l.length t.pre.c)) (h3 : w.cell? ⟨a, 2, none⟩ = some (.slice t.post.A t.post.l.length t.post.c))
    (h4 : w.cell? ⟨a, 3, none⟩ = some (.slice t.inh.A t.inh.l.length t.inh.c)) (h5 : w.cell? ⟨a, 4, none⟩ = some (.int .i64 t.prio)) (r1 : ReadsA w t.pre.A t.pre.l) (r2 : ReadsA w t.post.A t.post.l) (r3 : ReadsA w t.inh.A t.inh.l) : ReadsT w (some ⟨a, 0, none⟩) [t] := by
  intro j hj
  match j, hj with
  | 0, _ => exact ⟨a, 0, rfl, h0, h1, h2, h3, h4, h5, r1, r2, r3⟩
theorem okp2 {p q : PlaceV} (h1 : p.nm.size ≤ maxLen) (h2 : q.nm.size ≤ maxLen) : OkP [p, q] := ⟨(show 2 ≤ 1000 by decide), fun j => match j with
  | 0 => h1
  | 1 => h2
  | _ + 2 => (by decide : ByteArray.empty.size ≤ maxLen)⟩
theorem okt1 {t : TransV} (h1 : t.nm.size ≤ maxLen) (h2 : t.pre.l.length ≤ 1000) (h3 : t.post.l.length ≤ 1000) (h4 : t.inh.l.length ≤ 1000) : OkT [t] := ⟨(show 1 ≤ 1000 by decide), fun j => match j with
  | 0 => ⟨h1, h2, h3, h4⟩
  | _ + 1 => ⟨(by decide : ByteArray.empty.size ≤ maxLen), Nat.zero_le _, Nat.zero_le _, Nat.zero_le _⟩⟩
theorem okt0 : OkT [] := ⟨by decide, fun _ => ⟨(by decide : ByteArray.empty.size ≤ maxLen), Nat.zero_le _, Nat.zero_le _, Nat.zero_le _⟩⟩

theorem pair_ok (a b c d : Nat) : okN (pairV a b c d) = true := by kernel_rfl
theorem twice_chk (a : Nat) : chkV (twiceV a) = (6, 1) := by kernel_rfl
theorem pair_chk (a b c d : Nat) : chkV (pairV a b c d) = (0, 0) := by kernel_rfl
theorem pair_ini (a b c d : Nat) : initialN (pairV a b c d) = [2, 0] := by kernel_rfl
theorem pair_in (a b c d : Nat) : inputsN (pairV a b c d) 0 = [0] := by kernel_rfl
theorem pair_out (a b c d : Nat) : outputsN (pairV a b c d) 0 = [1] := by kernel_rfl
theorem pair_pro (a b c d : Nat) : producersN (pairV a b c d) 1 = [0] := by kernel_rfl
theorem pair_con (a b c d : Nat) : consumersN (pairV a b c d) 0 = [0] := by kernel_rfl
theorem pair_q (a b c d : Nat) : placeN (pairV a b c d) sQ = 1 := by kernel_rfl
theorem pair_t (a b c d : Nat) : placeN (pairV a b c d) sT = -1 := by kernel_rfl
theorem pair_tt (a b c d : Nat) : transN (pairV a b c d) sT = 0 := by kernel_rfl
theorem pair_pre (a b c d : Nat) : preN (pairV a b c d) 0 0 = 2 := by kernel_rfl
theorem pair_post (a b c d : Nat) : postN (pairV a b c d) 0 1 = 1 := by kernel_rfl
theorem pair_plain (a b c d : Nat) : plainN (pairV a b c d) = true := by kernel_rfl
theorem pair_ord (a b c d : Nat) : ordinaryN (pairV a b c d) = false := by kernel_rfl
theorem pair_same (a b c d : Nat) : sameN (pairV a b c d) (pairV a b c d) = true := by kernel_rfl
theorem pair_other (a b c d e : Nat) : sameN (pairV a b c d) (twiceV e) = false := by kernel_rfl
def sA1 : ByteArray := ⟨#[97, 46, 49]⟩
def s1A : ByteArray := ⟨#[49, 97]⟩
theorem name_a1 : nameB (bytesI sA1) = true := by kernel_rfl
theorem name_1a : nameB (bytesI s1A) = false := by kernel_rfl
end Go.Proofs.Ytpfkkjgklhcejaa
