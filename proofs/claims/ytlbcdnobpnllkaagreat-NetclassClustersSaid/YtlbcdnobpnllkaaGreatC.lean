/- Plain data of nets: places, arcs, transitions; how they lie in memory. -/
import Derived.Test.YtlbcdnobpnllkaaGreatA
import Derived.Laws.Rows
import Derived.Laws.OwnMore
import Derived.Deep.Draws
import Derived.OwnWalk
namespace Go.Proofs.YtlbcdnobpnllkaaGreat
open Go.RowKit

structure PlaceV where
  nm : ByteArray
  ini : Int
  cap : Int
structure ArcsV where
  A : Option Addr
  c : Nat
  l : List (Int × Int)
structure TransV where
  nm : ByteArray
  pre : ArcsV
  post : ArcsV
  inh : ArcsV
  prio : Int
def pA (ps : List PlaceV) (i : Nat) : PlaceV := ps[i]?.getD ⟨ByteArray.empty, 0, 0⟩
def aP (l : List (Int × Int)) (i : Nat) : Int := (l[i]?.getD (0, 0)).1
def aW (l : List (Int × Int)) (i : Nat) : Int := (l[i]?.getD (0, 0)).2
def tA (ts : List TransV) (i : Nat) : TransV := ts[i]?.getD ⟨ByteArray.empty, ⟨none, 0, []⟩, ⟨none, 0, []⟩, ⟨none, 0, []⟩, 0⟩

def ReadsP (w : World) (A : Option Addr) (ps : List PlaceV) : Prop :=
  ∀ j, j < ps.length → ∃ b off, A = some ⟨b, off, none⟩ ∧ b < w.heap.size ∧
    w.cell? ⟨b, off + j * 3, none⟩ = some (.string (pA ps j).nm) ∧ w.cell? ⟨b, off + j * 3 + 1, none⟩ = some (.int .i64 (pA ps j).ini) ∧ w.cell? ⟨b, off + j * 3 + 2, none⟩ = some (.int .i64 (pA ps j).cap)
def ReadsA (w : World) (A : Option Addr) (l : List (Int × Int)) : Prop :=
  ∀ j, j < l.length → ∃ b off, A = some ⟨b, off, none⟩ ∧ b < w.heap.size ∧
    w.cell? ⟨b, off + j * 2, none⟩ = some (.int .i64 (aP l j)) ∧ w.cell? ⟨b, off + j * 2 + 1, none⟩ = some (.int .i64 (aW l j))
def ReadsT (w : World) (A : Option Addr) (ts : List TransV) : Prop :=
  ∀ j, j < ts.length → ∃ b off, A = some ⟨b, off, none⟩ ∧ b < w.heap.size ∧
    w.cell? ⟨b, off + j * 5, none⟩ = some (.string (tA ts j).nm) ∧
    w.cell? ⟨b, off + j * 5 + 1, none⟩ = some (.slice (tA ts j).pre.A (tA ts j).pre.l.length (tA ts j).pre.c) ∧
    w.cell? ⟨b, off + j * 5 + 2, none⟩ = some (.slice (tA ts j).post.A (tA ts j).post.l.length (tA ts j).post.c) ∧
    w.cell? ⟨b, off + j * 5 + 3, none⟩ = some (.slice (tA ts j).inh.A (tA ts j).inh.l.length (tA ts j).inh.c) ∧
    w.cell? ⟨b, off + j * 5 + 4, none⟩ = some (.int .i64 (tA ts j).prio) ∧
    ReadsA w (tA ts j).pre.A (tA ts j).pre.l ∧ ReadsA w (tA ts j).post.A (tA ts j).post.l ∧ ReadsA w (tA ts j).inh.A (tA ts j).inh.l
section
variable {w w' : World} {A : Option Addr} {B : Nat}
theorem ReadsP.below {ps : List PlaceV} (h : ReadsP w A ps) (hb : Below B w w') (hB : w.heap.size ≤ B) : ReadsP w' A ps := fun j hj => by
  obtain ⟨b, off, e, h0, h1, h2, h3⟩ := h j hj
  exact ⟨b, off, e, Nat.lt_of_lt_of_le h0 hb.size, (hb.cell (by show b < B; omega)).trans h1, (hb.cell (by show b < B; omega)).trans h2, (hb.cell (by show b < B; omega)).trans h3⟩
theorem ReadsA.below {l : List (Int × Int)} (h : ReadsA w A l) (hb : Below B w w') (hB : w.heap.size ≤ B) : ReadsA w' A l := fun j hj => by
  obtain ⟨b, off, e, h0, h1, h2⟩ := h j hj
  exact ⟨b, off, e, Nat.lt_of_lt_of_le h0 hb.size, (hb.cell (by show b < B; omega)).trans h1, (hb.cell (by show b < B; omega)).trans h2⟩
theorem ReadsT.below {ts : List TransV} (h : ReadsT w A ts) (hb : Below B w w') (hB : w.heap.size ≤ B) : ReadsT w' A ts := fun j hj => by
  obtain ⟨b, off, e, h0, h1, h2, h3, h4, h5, r1, r2, r3⟩ := h j hj
  exact ⟨b, off, e, Nat.lt_of_lt_of_le h0 hb.size, (hb.cell (by show b < B; omega)).trans h1, (hb.cell (by show b < B; omega)).trans h2, (hb.cell (by show b < B; omega)).trans h3, (hb.cell (by show b < B; omega)).trans h4, (hb.cell (by show b < B; omega)).trans h5, r1.below hb hB, r2.below hb hB, r3.below hb hB⟩
end
theorem ReadsP.nil (w : World) (A : Option Addr) : ReadsP w A [] := fun _ h => absurd h (by simp)
theorem ReadsA.nil (w : World) (A : Option Addr) : ReadsA w A [] := fun _ h => absurd h (by simp)
theorem ReadsT.nil (w : World) (A : Option Addr) : ReadsT w A [] := fun _ h => absurd h (by simp)

/-- the first index below n at which f is true -/
def firstI (f : Nat → Bool) : Nat → Nat → Int
  | 0, _ => -1
  | n + 1, k => if f k = true then k else firstI f n (k + 1)
theorem firstI_skip (f : Nat → Bool) : ∀ (k n i : Nat), (∀ j, i ≤ j → j < i + k → f j = false) → firstI f (k + n) i = firstI f n (i + k)
  | 0, n, i, _ => by rw [Nat.zero_add, Nat.add_zero]
  | k + 1, n, i, h => by
    rw [show k + 1 + n = (k + n) + 1 from by omega, firstI, if_neg (by rw [h i (Nat.le_refl _) (by omega)]; simp), firstI_skip f k n (i + 1) (fun j h1 h2 => h j (by omega) (by omega))]
    rw [show i + 1 + k = i + (k + 1) from by omega]
theorem firstI_at {f : Nat → Bool} {n k : Nat} (hk : k < n) (h : ∀ j, j < k → f j = false) (ht : f k = true) : firstI f n 0 = k := by
  have := firstI_skip f k (n - k) 0 (fun j _ h2 => h j (by omega))
  rw [show k + (n - k) = n from by omega, show n - k = (n - k - 1) + 1 from by omega, firstI, if_pos (by simpa using ht)] at this
  simpa using this
theorem firstI_none {f : Nat → Bool} {n : Nat} (h : ∀ j, j < n → f j = false) : firstI f n 0 = -1 := by
  have := firstI_skip f n 0 0 (fun j _ h2 => h j (by omega))
  simpa [firstI] using this
theorem firstI_cases (f : Nat → Bool) (n : Nat) : (firstI f n 0 = -1 ∧ ∀ j, j < n → f j = false) ∨ ∃ k, k < n ∧ firstI f n 0 = k ∧ f k = true ∧ ∀ j, j < k → f j = false := by
  by_cases h : ∃ k, k < n ∧ f k = true
  · obtain ⟨k, hk, ht⟩ := h
    have : ∃ m, m < n ∧ f m = true ∧ ∀ j, j < m → f j = false := by
      induction k using Nat.strongRecOn with
      | _ k ih =>
        by_cases h2 : ∃ j, j < k ∧ f j = true
        · obtain ⟨j, hj, hf⟩ := h2
          exact ih j hj (by omega) hf
        · exact ⟨k, hk, ht, fun j hj => by
            cases hf : f j
            · rfl
            · exact absurd ⟨j, hj, hf⟩ h2⟩
    obtain ⟨m, hm, hf, ha⟩ := this
    exact .inr ⟨m, hm, firstI_at hm ha hf, hf, ha⟩
  · have : ∀ j, j < n → f j = false := fun j hj => by
      cases hf : f j
      · rfl
      · exact absurd ⟨j, hj, hf⟩ h
    exact .inl ⟨firstI_none this, this⟩
/-- the first value that is not 0 -/
def firstV (f : Nat → Int) : Nat → Nat → Int
  | 0, _ => 0
  | n + 1, k => if f k = 0 then firstV f n (k + 1) else f k
theorem firstV_skip (f : Nat → Int) : ∀ (k n i : Nat), (∀ j, i ≤ j → j < i + k → f j = 0) → firstV f (k + n) i = firstV f n (i + k)
  | 0, n, i, _ => by rw [Nat.zero_add, Nat.add_zero]
  | k + 1, n, i, h => by
    rw [show k + 1 + n = (k + n) + 1 from by omega, firstV, if_pos (h i (Nat.le_refl _) (by omega)), firstV_skip f k n (i + 1) (fun j h1 h2 => h j (by omega) (by omega))]
    rw [show i + 1 + k = i + (k + 1) from by omega]
theorem firstV_at {f : Nat → Int} {n k : Nat} {v : Int} (hk : k < n) (h : ∀ j, j < k → f j = 0) (ht : f k = v) (hv : v ≠ 0) : firstV f n 0 = v := by
  have := firstV_skip f k (n - k) 0 (fun j _ h2 => h j (by omega))
  rw [show k + (n - k) = n from by omega, show n - k = (n - k - 1) + 1 from by omega, firstV, if_neg (by rw [Nat.zero_add, ht]; exact hv)] at this
  rw [this, Nat.zero_add, ht]
theorem firstV_none {f : Nat → Int} {n : Nat} (h : ∀ j, j < n → f j = 0) : firstV f n 0 = 0 := by
  have := firstV_skip f n 0 0 (fun j _ h2 => h j (by omega))
  simpa [firstV] using this
theorem upto_snoc {α : Type} {f : Nat → α} {v : α} {k : Nat} (h : ∀ j, j < k → f j = v) (hk : f k = v) : ∀ j, j < k + 1 → f j = v := fun j hj => by
  by_cases e : j < k
  · exact h j e
  · obtain rfl : j = k := by omega
    exact hk
theorem firstV_cases (f : Nat → Int) (n : Nat) : (firstV f n 0 = 0 ∧ ∀ j, j < n → f j = 0) ∨ ∃ k, k < n ∧ firstV f n 0 = f k ∧ f k ≠ 0 ∧ ∀ j, j < k → f j = 0 := by
  rcases firstI_cases (fun j => decide (f j ≠ 0)) n with ⟨_, h⟩ | ⟨k, hk, _, ht, h⟩
  · have h2 : ∀ j, j < n → f j = 0 := fun j hj => by simpa using h j hj
    exact .inl ⟨firstV_none h2, h2⟩
  · have h2 : ∀ j, j < k → f j = 0 := fun j hj => by simpa using h j hj
    have h3 : f k ≠ 0 := by simpa using ht
    exact .inr ⟨k, hk, firstV_at hk h2 rfl h3, h3, h2⟩
def prevP (l : List (Int × Int)) (k : Nat) : Int := if k = 0 then -1 else aP l (k - 1)
def arcE (n : Nat) (l : List (Int × Int)) (k : Nat) : Int :=
  if aP l k < 0 ∨ n ≤ aP l k then 7 else if aP l k ≤ prevP l k then 8 else if aW l k < 1 ∨ 99 < aW l k then 9 else 0
def arcsE (n : Nat) (l : List (Int × Int)) : Int := firstV (arcE n l) l.length 0
def eqS (a b : ByteArray) : Bool := a.toList == b.toList
def placeI (ps : List PlaceV) (n : Nat) (s : ByteArray) : Int := firstI (fun j => eqS (pA ps j).nm s) n 0
def transI (ts : List TransV) (n : Nat) (s : ByteArray) : Int := firstI (fun j => eqS (tA ts j).nm s) n 0
def OkP (ps : List PlaceV) : Prop := ps.length ≤ 1000 ∧ ∀ j, (pA ps j).nm.size ≤ maxLen
def OkT (ts : List TransV) : Prop := ts.length ≤ 1000 ∧ ∀ j, (tA ts j).nm.size ≤ maxLen ∧ (tA ts j).pre.l.length ≤ 1000 ∧ (tA ts j).post.l.length ≤ 1000 ∧ (tA ts j).inh.l.length ≤ 1000
def placeE (ps : List PlaceV) (i : Nat) : Int :=
  if nameB (bytesI (pA ps i).nm) = false then 5
  else if 0 ≤ placeI ps i (pA ps i).nm then 6
  else if (pA ps i).cap < 0 ∨ 1048576 < (pA ps i).cap then 1
  else if (pA ps i).ini < 0 ∨ 1048576 < (pA ps i).ini ∨ (pA ps i).cap ≠ 0 ∧ (pA ps i).cap < (pA ps i).ini then 10 else 0
def orE (a b : Int) : Int := if a = 0 then b else a
def transE (m : Nat) (ps : List PlaceV) (ts : List TransV) (i : Nat) : Int :=
  if nameB (bytesI (tA ts i).nm) = false then 5
  else if 0 ≤ placeI ps m (tA ts i).nm ∨ 0 ≤ transI ts i (tA ts i).nm then 6
  else if (tA ts i).prio < 0 ∨ 9 < (tA ts i).prio then 1
  else orE (arcsE m (tA ts i).pre.l) (orE (arcsE m (tA ts i).post.l) (arcsE m (tA ts i).inh.l))
def checkV (nm : ByteArray) (ps : List PlaceV) (ts : List TransV) : Int × Int :=
  if nameB (bytesI nm) = false then (5, 0)
  else if ps.length < 1 ∨ 24 < ps.length ∨ 24 < ts.length then (2, 0)
  else if 0 ≤ firstI (fun j => decide (placeE ps j ≠ 0)) ps.length 0 then
    (placeE ps (firstI (fun j => decide (placeE ps j ≠ 0)) ps.length 0).toNat, firstI (fun j => decide (placeE ps j ≠ 0)) ps.length 0)
  else if 0 ≤ firstI (fun j => decide (transE ps.length ps ts j ≠ 0)) ts.length 0 then
    (transE ps.length ps ts (firstI (fun j => decide (transE ps.length ps ts j ≠ 0)) ts.length 0).toNat, ps.length + firstI (fun j => decide (transE ps.length ps ts j ≠ 0)) ts.length 0)
  else (0, 0)
theorem checkV_name {nm : ByteArray} {ps : List PlaceV} {ts : List TransV} (h : nameB (bytesI nm) = false) : checkV nm ps ts = (5, 0) := by unfold checkV; rw [if_pos h]
theorem checkV_size {nm : ByteArray} {ps : List PlaceV} {ts : List TransV} (h : nameB (bytesI nm) = true) (h2 : ps.length < 1 ∨ 24 < ps.length ∨ 24 < ts.length) : checkV nm ps ts = (2, 0) := by
  unfold checkV; rw [if_neg (by rw [h]; simp), if_pos h2]
theorem checkV_place {nm : ByteArray} {ps : List PlaceV} {ts : List TransV} (h : nameB (bytesI nm) = true) (h2 : ¬ (ps.length < 1 ∨ 24 < ps.length ∨ 24 < ts.length)) {k : Nat} (hk : k < ps.length)
    (ha : ∀ j, j < k → placeE ps j = 0) (hv : placeE ps k ≠ 0) : checkV nm ps ts = (placeE ps k, (k : Int)) := by
  have e := firstI_at (f := fun j => decide (placeE ps j ≠ 0)) hk (fun j hj => by simpa using ha j hj) (by simpa using hv)
  unfold checkV
  rw [if_neg (by rw [h]; simp), if_neg h2, e, if_pos (by omega)]
  rfl
theorem checkV_trans {nm : ByteArray} {ps : List PlaceV} {ts : List TransV} (h : nameB (bytesI nm) = true) (h2 : ¬ (ps.length < 1 ∨ 24 < ps.length ∨ 24 < ts.length)) (hp : ∀ j, j < ps.length → placeE ps j = 0) {k : Nat} (hk : k < ts.length)
    (ha : ∀ j, j < k → transE ps.length ps ts j = 0) (hv : transE ps.length ps ts k ≠ 0) : checkV nm ps ts = (transE ps.length ps ts k, (ps.length : Int) + (k : Int)) := by
  have e0 := firstI_none (f := fun j => decide (placeE ps j ≠ 0)) (n := ps.length) (fun j hj => by simpa using hp j hj)
  have e := firstI_at (f := fun j => decide (transE ps.length ps ts j ≠ 0)) hk (fun j hj => by simpa using ha j hj) (by simpa using hv)
  unfold checkV
  rw [if_neg (by rw [h]; simp), if_neg h2, e0, if_neg (by omega), e, if_pos (by omega)]
  rfl
theorem checkV_ok {nm : ByteArray} {ps : List PlaceV} {ts : List TransV} (h : nameB (bytesI nm) = true) (h2 : ¬ (ps.length < 1 ∨ 24 < ps.length ∨ 24 < ts.length)) (hp : ∀ j, j < ps.length → placeE ps j = 0)
    (ha : ∀ j, j < ts.length → transE ps.length ps ts j = 0) : checkV nm ps ts = (0, 0) := by
  have e0 := firstI_none (f := fun j => decide (placeE ps j ≠ 0)) (n := ps.length) (fun j hj => by simpa using hp j hj)
  have e := firstI_none (f := fun j => decide (transE ps.length ps ts j ≠ 0)) (n := ts.length) (fun j hj => by simpa using ha j hj)
  unfold checkV
  rw [if_neg (by rw [h]; simp), if_neg h2, e0, if_neg (by omega), e, if_neg (by omega)]
structure NetV where
  nm : ByteArray
  PA : Option Addr
  ps : List PlaceV
  pc : Nat
  TA : Option Addr
  ts : List TransV
  tc : Nat
def NetV.val (n : NetV) : Value := .agg #[.string n.nm, .slice n.PA n.ps.length n.pc, .slice n.TA n.ts.length n.tc]
structure NetR (w : World) (n : NetV) : Prop where
  hnm : n.nm.size ≤ maxLen
  okp : OkP n.ps
  okt : OkT n.ts
  hpc : n.ps.length ≤ n.pc
  htc : n.ts.length ≤ n.tc
  rp : ReadsP w n.PA n.ps
  rt : ReadsT w n.TA n.ts
theorem NetR.below {w w' : World} {n : NetV} {B : Nat} (h : NetR w n) (hb : Below B w w') (hB : w.heap.size ≤ B) : NetR w' n :=
  ⟨h.hnm, h.okp, h.okt, h.hpc, h.htc, h.rp.below hb hB, h.rt.below hb hB⟩
def chkV (n : NetV) : Int × Int := checkV n.nm n.ps n.ts
theorem firstI_congr {f g : Nat → Bool} : ∀ (n i : Nat), (∀ j, i ≤ j → j < i + n → f j = g j) → firstI f n i = firstI g n i
  | 0, _, _ => rfl
  | n + 1, i, h => by
    rw [firstI, firstI, h i (Nat.le_refl _) (by omega), firstI_congr n (i + 1) (fun j h1 h2 => h j (by omega) (by omega))]
theorem pA_take (ps : List PlaceV) (i j : Nat) (h : j < i) : pA (ps.take i) j = pA ps j := by
  unfold pA
  rw [List.getElem?_take, if_pos h]
theorem tA_take (ts : List TransV) (i j : Nat) (h : j < i) : tA (ts.take i) j = tA ts j := by
  unfold tA
  rw [List.getElem?_take, if_pos h]
theorem placeI_take (ps : List PlaceV) (i : Nat) (s : ByteArray) : placeI (ps.take i) i s = placeI ps i s :=
  firstI_congr _ _ fun j _ h => by rw [pA_take _ _ _ (by omega)]
theorem transI_take (ts : List TransV) (i : Nat) (s : ByteArray) : transI (ts.take i) i s = transI ts i s :=
  firstI_congr _ _ fun j _ h => by rw [tA_take _ _ _ (by omega)]
theorem ReadsP.take {w : World} {A : Option Addr} {ps : List PlaceV} (h : ReadsP w A ps) (i : Nat) : ReadsP w A (ps.take i) := fun j hj => by
  rw [List.length_take] at hj
  rw [pA_take _ _ _ (by omega)]
  exact h j (by omega)
theorem ReadsT.take {w : World} {A : Option Addr} {ts : List TransV} (h : ReadsT w A ts) (i : Nat) : ReadsT w A (ts.take i) := fun j hj => by
  rw [List.length_take] at hj
  rw [tA_take _ _ _ (by omega)]
  exact h j (by omega)
theorem ret_i {k : IntKind} {a b : Int} (h : a = b) : Ending.returned (.int k a) = .returned (.int k b) := by rw [h]
theorem ret_i2 {k : IntKind} {a b : Int} (h : a = b) : Ending.returned (.int k a) = .returned (.int k b) := by rw [h]
end Go.Proofs.YtlbcdnobpnllkaaGreat
