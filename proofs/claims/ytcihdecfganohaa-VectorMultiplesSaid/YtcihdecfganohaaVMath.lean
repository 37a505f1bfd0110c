/- Plain lists for the statements about vectors: no program in sight. -/
import Derived.Test.YtcihdecfganohaaMath
import Derived.Below
import Derived.Laws.Rows
import Derived.Laws.OwnMore
import Derived.Deep.Draws
namespace Go.Proofs.Ytcihdecfganohaa
open Go.RowKit

/-- element k -/
def at0 (L : List Int) (k : Nat) : Int := L[k]?.getD 0
/-- whether every number is an int64 -/
def In64 (L : List Int) : Prop := ∀ x ∈ L, -9223372036854775808 ≤ x ∧ x ≤ 9223372036854775807
theorem In64.at {L : List Int} (h : In64 L) (k : Nat) : -9223372036854775808 ≤ at0 L k ∧ at0 L k ≤ 9223372036854775807 := by
  unfold at0
  by_cases hk : k < L.length
  · rw [List.getElem?_eq_getElem hk]; exact h _ (List.getElem_mem hk)
  · rw [List.getElem?_eq_none (by omega)]; simp
theorem fitV_in (n : Int) : -9223372036854775808 ≤ fitV n ∧ fitV n ≤ 9223372036854775807 := by
  unfold fitV
  split
  · rename_i h; exact (fits_iff n).1 h
  · omega

/-- the slice at address A reads the numbers zs -/
def ReadsV (w : World) (A : Option Addr) (zs : List Int) : Prop :=
  ∀ j, j < zs.length → ∃ b off, A = some ⟨b, off, none⟩ ∧ b < w.heap.size ∧ w.cell? ⟨b, off + j, none⟩ = some (.int .i64 (at0 zs j))
theorem ReadsV.nil (w : World) (A : Option Addr) : ReadsV w A [] := fun _ h => absurd h (by simp)
theorem ReadsV.below {w w' : World} {A : Option Addr} {zs : List Int} {B : Nat} (h : ReadsV w A zs) (hb : Below B w w') (hB : w.heap.size ≤ B) : ReadsV w' A zs := fun j hj => by
  obtain ⟨b, off, e, h1, h2⟩ := h j hj
  exact ⟨b, off, e, Nat.lt_of_lt_of_le h1 hb.size, (hb.cell (p := ⟨b, off + j, none⟩) (Nat.lt_of_lt_of_le h1 hB)).trans h2⟩
theorem ReadsV.alloc {w : World} {A : Option Addr} {zs : List Int} (h : ReadsV w A zs) (o : Obj) : ReadsV (w.alloc o) A zs := h.below (B := w.heap.size) ((Below.refl _ _).alloc (Nat.le_refl _) _) (Nat.le_refl _)
theorem ReadsV.own {w : World} {base : Nat} {e : TypeId} {v : Value} {n : Nat} {L : List Int} (h : w.ownsRow base e 1 v n (L.map (Value.int .i64))) : ∃ A c, v = .slice A L.length c ∧ ReadsV w A L := by
  have hl : L.length = n := by have := h.1; simpa using this
  rcases h.2 with ⟨rfl, h0⟩ | ⟨g, cap, cur, rfl, _, hg, _⟩
  · obtain rfl : L = [] := List.eq_nil_of_length_eq_zero (by omega)
    exact ⟨none, 0, rfl, ReadsV.nil _ _⟩
  · refine ⟨_, _, by rw [hl], fun j hj => ⟨_, _, rfl, ?_, ?_⟩⟩
    · have := h.cellAt j (by omega)
      exact World.block_lt_of_cell? w ⟨g, j, none⟩ (by rw [this]; simp [hj]; rfl)
    · rw [Nat.zero_add, h.cellAt j (by omega)]
      simp [hj, at0]
theorem ReadsV.row {w : World} {g : Nat} {t : TypeId} {cs : Array Value} {zs : List Int} (h : w.heap[g]? = some (.cells cs t (0, 0))) (hz : cs = (zs.map (Value.int .i64)).toArray) : ReadsV w (some ⟨g, 0, none⟩) zs := by
  subst hz
  intro j hj
  have hc := cell_of_row w g j _ t (0, 0) h
  refine ⟨g, 0, rfl, ?_, ?_⟩
  · exact World.block_lt_of_cell? w ⟨g, j, none⟩ (by rw [hc]; simp [hj]; rfl)
  · rw [Nat.zero_add, hc]
    simp [hj, at0]
theorem below_drewN {B : Nat} {a w : World} (h : Below B a w) (n : Nat) : Below B a (w.drewN n) := ⟨h.os, h.tape, h.output, h.size, h.block⟩

/-- a list that is computed element by element, or the error -/
def trF (n : Nat) (el : Nat → Int × Bool) : List Int × Int :=
  if (List.range n).all (fun k => (el k).2) then ((List.range n).map (fun k => (el k).1), 0) else ([], 3)
theorem trF_no {n : Nat} {el : Nat → Int × Bool} (k : Nat) (hk : k < n) (h : (el k).2 = false) : trF n el = ([], 3) := by
  unfold trF
  rw [if_neg]
  intro c
  rw [List.all_eq_true] at c
  rw [c k (List.mem_range.2 hk)] at h
  cases h
theorem trF_yes {n : Nat} {el : Nat → Int × Bool} (h : ∀ k, k < n → (el k).2 = true) : trF n el = ((List.range n).map (fun k => (el k).1), 0) := by
  unfold trF
  rw [if_pos]
  rw [List.all_eq_true]
  intro k hk
  exact h k (List.mem_range.1 hk)
theorem trF_congr {n : Nat} {el el' : Nat → Int × Bool} (h1 : ∀ k, k < n → (el k).2 = (el' k).2) (h2 : ∀ k, k < n → (el k).2 = true → (el k).1 = (el' k).1) : trF n el = trF n el' := by
  by_cases h : ∀ k, k < n → (el k).2 = true
  · rw [trF_yes h, trF_yes (fun k hk => (h1 k hk).symm.trans (h k hk))]
    congr 1
    refine List.map_congr_left fun k hk => ?_
    exact h2 k (List.mem_range.1 hk) (h k (List.mem_range.1 hk))
  · have : ∃ k, k < n ∧ (el k).2 = false := by
      apply Classical.byContradiction
      intro c
      apply h
      intro k hk
      cases he : (el k).2
      · exact absurd ⟨k, hk, he⟩ c
      · rfl
    obtain ⟨k, hk, he⟩ := this
    rw [trF_no k hk he, trF_no k hk ((h1 k hk).symm.trans he)]
theorem trF_len (n : Nat) (el : Nat → Int × Bool) (h : (trF n el).2 = 0) : (trF n el).1.length = n := by
  unfold trF at *
  split at h <;> simp_all

/-- the first k places are computed, the others 0 -/
def partL (n : Nat) (el : Nat → Int × Bool) (k : Nat) : List Int := (List.range n).map fun j => if j < k then (el j).1 else 0
theorem partL_len (n : Nat) (el : Nat → Int × Bool) (k : Nat) : (partL n el k).length = n := by simp [partL]
theorem partL_zero (n : Nat) (el : Nat → Int × Bool) : partL n el 0 = List.replicate n 0 := by
  apply List.ext_getElem
  · simp [partL]
  · intro i h1 h2
    simp [partL]
theorem partL_set (n : Nat) (el : Nat → Int × Bool) (k : Nat) : (partL n el k).set k (el k).1 = partL n el (k + 1) := by
  apply List.ext_getElem
  · simp [partL]
  · intro i h1 h2
    simp only [partL, List.getElem_set, List.getElem_map, List.getElem_range]
    by_cases h : k = i
    · subst h; simp
    · rw [if_neg h]
      by_cases h3 : i < k
      · rw [if_pos h3, if_pos (by omega)]
      · rw [if_neg h3, if_neg (by omega)]
theorem partL_all (n : Nat) (el : Nat → Int × Bool) : partL n el n = (List.range n).map fun k => (el k).1 := by
  unfold partL
  refine List.map_congr_left fun k hk => ?_
  rw [if_pos (List.mem_range.1 hk)]
/-- the first k elements -/
def headL (el : Nat → Int × Bool) (k : Nat) : List Int := (List.range k).map fun j => (el j).1
theorem headL_snoc (el : Nat → Int × Bool) (k : Nat) : headL el (k + 1) = headL el k ++ [(el k).1] := by
  unfold headL
  rw [List.range_succ, List.map_append]
  rfl
theorem headL_len (el : Nat → Int × Bool) (k : Nat) : (headL el k).length = k := by simp [headL]

def addE (a b : List Int) (k : Nat) : Int × Bool := (fitV (at0 a k + at0 b k), fits (at0 a k + at0 b k))
def subE (a b : List Int) (k : Nat) : Int × Bool := (fitV (at0 a k - at0 b k), fits (at0 a k - at0 b k))
def sclE (a : List Int) (x : Int) (k : Nat) : Int × Bool := (fitV (at0 a k * x), fits (at0 a k * x))
/-- one element of i * a + j * b, where a product that does not fit stops -/
def cmbP (x y : Int) : Int × Bool := if fits x && fits y then (fitV (x + y), fits (x + y)) else (0, false)
def cmbE (a : List Int) (i : Int) (b : List Int) (j : Int) (k : Nat) : Int × Bool := cmbP (i * at0 a k) (j * at0 b k)
def pairF (a b : List Int) (el : Nat → Int × Bool) : List Int × Int := if a.length = b.length then trF a.length el else ([], 2)
def addV (a b : List Int) : List Int × Int := pairF a b (addE a b)
def subV (a b : List Int) : List Int × Int := pairF a b (subE a b)
def sclV (a : List Int) (x : Int) : List Int × Int := trF a.length (sclE a x)
def cmbV (a : List Int) (i : Int) (b : List Int) (j : Int) : List Int × Int := pairF a b (cmbE a i b j)
/-- the reference's element -/
def rcmE (a : List Int) (i : Int) (b : List Int) (j : Int) (k : Nat) : Int × Bool :=
  (fitV (fitV (at0 a k * i) + fitV (at0 b k * j)), fits (at0 a k * i) && fits (at0 b k * j) && fits (fitV (at0 a k * i) + fitV (at0 b k * j)))
theorem fitV_of {n : Int} (h : fits n = true) : fitV n = n := by unfold fitV; rw [if_pos h]
theorem rcm_eq (a : List Int) (i : Int) (b : List Int) (j : Int) : pairF a b (rcmE a i b j) = cmbV a i b j := by
  unfold cmbV pairF
  split
  · apply trF_congr
    · intro k _
      unfold rcmE cmbE cmbP
      rw [Int.mul_comm i, Int.mul_comm j]
      cases h1 : fits (at0 a k * i)
      · simp
      cases h2 : fits (at0 b k * j)
      · simp
      rw [fitV_of h1, fitV_of h2]
      simp
    · intro k _ h
      unfold rcmE cmbE cmbP at *
      rw [Int.mul_comm i, Int.mul_comm j]
      simp only [Bool.and_eq_true] at h
      rw [fitV_of h.1.1, fitV_of h.1.2, h.1.1, h.1.2]
      simp
  · rfl
theorem radd_eq (a b : List Int) (ha : In64 a) (hb : In64 b) : cmbV a 1 b 1 = addV a b := by
  unfold cmbV addV pairF
  split
  · congr 1
    funext k
    have h1 := ha.at k
    have h2 := hb.at k
    unfold cmbE cmbP addE
    rw [Int.one_mul, Int.one_mul, fits_yes h1.1 h1.2, fits_yes h2.1 h2.2]
    simp
  · rfl

/-- sums of products -/
def dotS (a b : List Int) : Nat → Int
  | 0 => 0
  | k + 1 => dotS a b k + at0 a k * at0 b k
def dotO (a b : List Int) (k : Nat) : Bool := fits (at0 a k * at0 b k) && fits (dotS a b (k + 1))
def dotV (a b : List Int) : Int × Int :=
  if a.length = b.length then (if (List.range a.length).all (dotO a b) then (dotS a b a.length, 0) else (0, 3)) else (0, 2)
theorem dotV_no {a b : List Int} (k : Nat) (hl : a.length = b.length) (hk : k < a.length) (h : dotO a b k = false) : dotV a b = (0, 3) := by
  unfold dotV
  rw [if_pos hl, if_neg]
  intro c
  rw [List.all_eq_true] at c
  rw [c k (List.mem_range.2 hk)] at h
  cases h
theorem dotV_yes {a b : List Int} (hl : a.length = b.length) (h : ∀ k, k < a.length → dotO a b k = true) : dotV a b = (dotS a b a.length, 0) := by
  unfold dotV
  rw [if_pos hl, if_pos]
  rw [List.all_eq_true]
  intro k hk
  exact h k (List.mem_range.1 hk)
theorem dotV_len {a b : List Int} (hl : ¬ a.length = b.length) : dotV a b = (0, 2) := by
  unfold dotV
  rw [if_neg hl]

/-- comparison by the first difference -/
def cmpL : List Int → List Int → Int
  | [], [] => 0
  | [], _ :: _ => -1
  | _ :: _, [] => 1
  | x :: a, y :: b => if x < y then -1 else if y < x then 1 else cmpL a b
theorem cmpL_at {a b : List Int} (k : Nat) (ha : k < a.length) (hb : k < b.length) :
    cmpL (a.drop k) (b.drop k) = if at0 a k < at0 b k then -1 else if at0 b k < at0 a k then 1 else cmpL (a.drop (k + 1)) (b.drop (k + 1)) := by
  rw [List.drop_eq_getElem_cons ha, List.drop_eq_getElem_cons hb]
  unfold at0
  rw [List.getElem?_eq_getElem ha, List.getElem?_eq_getElem hb]
  rfl
theorem cmpL_first {a b : List Int} (k : Nat) (ha : a.length ≤ k) (hb : k < b.length) : cmpL (a.drop k) (b.drop k) = -1 := by
  rw [List.drop_of_length_le ha, List.drop_eq_getElem_cons hb]
  rfl
theorem cmpL_second {a b : List Int} (k : Nat) (ha : k < a.length) (hb : b.length ≤ k) : cmpL (a.drop k) (b.drop k) = 1 := by
  rw [List.drop_of_length_le hb, List.drop_eq_getElem_cons ha]
  rfl
theorem cmpL_both {a b : List Int} (k : Nat) (ha : a.length ≤ k) (hb : b.length ≤ k) : cmpL (a.drop k) (b.drop k) = 0 := by
  rw [List.drop_of_length_le hb, List.drop_of_length_le ha]
  rfl
theorem cmpL_self : ∀ a : List Int, cmpL a a = 0
  | [] => rfl
  | x :: a => by
    unfold cmpL
    rw [if_neg (Int.lt_irrefl x), if_neg (Int.lt_irrefl x)]
    exact cmpL_self a
/-- no element is greater -/
def leqV (a b : List Int) : Bool := decide (a.length = b.length) && (List.range a.length).all fun k => decide (at0 a k ≤ at0 b k)
theorem leqV_len {a b : List Int} (h : ¬ a.length = b.length) : leqV a b = false := by simp [leqV, h]
theorem leqV_no {a b : List Int} (k : Nat) (hk : k < a.length) (h : at0 b k < at0 a k) : leqV a b = false := by
  unfold leqV
  rw [Bool.and_eq_false_iff]
  right
  rw [List.all_eq_false]
  exact ⟨k, List.mem_range.2 hk, by simpa using h⟩
theorem leqV_yes {a b : List Int} (hl : a.length = b.length) (h : ∀ k, k < a.length → at0 a k ≤ at0 b k) : leqV a b = true := by
  unfold leqV
  rw [Bool.and_eq_true, decide_eq_true_eq, List.all_eq_true]
  refine ⟨hl, fun k hk => ?_⟩
  simpa using h k (List.mem_range.1 hk)

/-- the indices of the elements that are not 0 -/
def sup (a : List Int) (k : Nat) : List Int := ((List.range k).filter fun j => decide (at0 a j ≠ 0)).map fun (j : Nat) => (j : Int)
theorem sup_yes {a : List Int} {k : Nat} (h : at0 a k ≠ 0) : sup a (k + 1) = sup a k ++ [(k : Int)] := by
  unfold sup
  rw [List.range_succ, List.filter_append, List.map_append]
  simp [h]
theorem sup_no {a : List Int} {k : Nat} (h : at0 a k = 0) : sup a (k + 1) = sup a k := by
  unfold sup
  rw [List.range_succ, List.filter_append, List.map_append]
  simp [h]
theorem sup_len (a : List Int) (k : Nat) : (sup a k).length ≤ k := by
  unfold sup
  rw [List.length_map]
  have := List.length_filter_le (fun j => decide (at0 a j ≠ 0)) (List.range k)
  simpa using this

/-- the common divisor of the first k elements -/
def gcdS (a : List Int) : Nat → Nat
  | 0 => 0
  | k + 1 => Nat.gcd (gcdS a k) (at0 a k).natAbs
def leastV (a : List Int) : Bool := (List.range a.length).any fun k => decide (at0 a k = -9223372036854775808)
theorem leastV_yes {a : List Int} (k : Nat) (hk : k < a.length) (h : at0 a k = -9223372036854775808) : leastV a = true := by
  unfold leastV
  rw [List.any_eq_true]
  exact ⟨k, List.mem_range.2 hk, by simpa using h⟩
theorem leastV_no {a : List Int} (h : ∀ k, k < a.length → at0 a k ≠ -9223372036854775808) : leastV a = false := by
  unfold leastV
  rw [List.any_eq_false]
  intro k hk
  simpa using h k (List.mem_range.1 hk)
def primE (a : List Int) (g : Nat) (k : Nat) : Int × Bool := ((at0 a k).tdiv g, true)
def primV (a : List Int) : List Int × Int := if leastV a then ([], 3) else trF a.length (primE a (gcdS a a.length))
theorem gcdS_le {a : List Int} (ha : In64 a) (hn : ∀ k, k < a.length → at0 a k ≠ -9223372036854775808) : ∀ k, k ≤ a.length → gcdS a k ≤ 9223372036854775807
  | 0, _ => by simp [gcdS]
  | k + 1, hk => by
    have h := ha.at k
    have h2 := hn k (by omega)
    have ih := gcdS_le ha hn k (by omega)
    show Nat.gcd _ _ ≤ _
    rcases Nat.eq_zero_or_pos (gcdS a k) with h0 | h0
    · rw [h0, Nat.gcd_zero_left]; omega
    · exact Nat.le_trans (Nat.gcd_le_left _ h0) ih
theorem gcdS_dvd (a : List Int) : ∀ (n k : Nat), k < n → gcdS a n ∣ (at0 a k).natAbs
  | 0, _, h => by omega
  | n + 1, k, h => by
    show Nat.gcd _ _ ∣ _
    rcases Nat.lt_or_ge k n with h1 | h1
    · exact Nat.dvd_trans (Nat.gcd_dvd_left _ _) (gcdS_dvd a n k h1)
    · obtain rfl : k = n := by omega
      exact Nat.gcd_dvd_right _ _
theorem gcdS_zero {a : List Int} {n : Nat} (h : gcdS a n = 0) (k : Nat) (hk : k < n) : at0 a k = 0 := by
  have := gcdS_dvd a n k hk
  rw [h, Nat.zero_dvd] at this
  omega
theorem list_at0 (a : List Int) : (List.range a.length).map (at0 a) = a := by
  apply List.ext_getElem
  · simp
  · intro i h1 h2
    simp at h1
    simp [at0, h1]
theorem prim_zero {a : List Int} (h : gcdS a a.length = 0) (hl : leastV a = false) : primV a = (a, 0) := by
  unfold primV
  rw [hl, h]
  simp only [Bool.false_eq_true, if_false]
  rw [trF_yes (fun _ _ => rfl)]
  congr 1
  refine Eq.trans ?_ (list_at0 a)
  refine List.map_congr_left fun k hk => ?_
  simp [primE, gcdS_zero h k (List.mem_range.1 hk)]
end Go.Proofs.Ytcihdecfganohaa
