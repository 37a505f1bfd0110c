/- Bounded natural solutions: the mathematics. The vectors within bounds in lexicographic order are those of the numbers below the product. -/
namespace Go.Proofs.Ytneediihponfiaa

/-- all vectors within the bounds, in lexicographic order -/
def vecs : List Int → List (List Int)
  | [] => [[]]
  | u :: us => (List.range (u + 1).toNat).flatMap fun (v : Nat) => (vecs us).map fun x => (v : Int) :: x
def prodN : List Int → Nat
  | [] => 1
  | u :: us => (u + 1).toNat * prodN us
/-- the vector with number k -/
def vecN : List Int → Nat → List Int
  | [], _ => []
  | u :: us, k => ((k / prodN us % (u + 1).toNat : Nat) : Int) :: vecN us (k % prodN us)
theorem range_mul {α : Type} (f : Nat → α) (p : Nat) : ∀ n, (List.range (n * p)).map f = (List.range n).flatMap fun v => (List.range p).map fun k => f (v * p + k)
  | 0 => by simp
  | n + 1 => by
    rw [Nat.succ_mul, List.range_add, List.map_append, range_mul f p n, List.range_succ, List.flatMap_append]
    simp
theorem vecN_len : ∀ us k, (vecN us k).length = us.length
  | [], _ => rfl
  | u :: us, k => by simp [vecN, vecN_len us]
theorem flatMap_same {α β : Type} {f g : α → List β} : ∀ l : List α, (∀ x ∈ l, f x = g x) → l.flatMap f = l.flatMap g
  | [], _ => rfl
  | x :: l, h => by
    rw [List.flatMap_cons, List.flatMap_cons, h x (List.mem_cons_self ..), flatMap_same l fun y hy => h y (List.mem_cons_of_mem _ hy)]
theorem vecs_num : ∀ us, vecs us = (List.range (prodN us)).map (vecN us)
  | [] => by simp [vecs, prodN, vecN]
  | u :: us => by
    unfold vecs prodN
    rw [range_mul]
    refine flatMap_same _ fun v hv => ?_
    rw [List.mem_range] at hv
    rw [vecs_num us, List.map_map]
    refine List.map_congr_left fun k hk => ?_
    rw [List.mem_range] at hk
    have hp : 0 < prodN us := Nat.lt_of_le_of_lt (Nat.zero_le _) hk
    show (v : Int) :: vecN us k = vecN (u :: us) (v * prodN us + k)
    unfold vecN
    rw [Nat.mul_comm v, Nat.mul_add_div hp, Nat.mul_add_mod, Nat.div_eq_of_lt hk, Nat.mod_eq_of_lt hk, Nat.add_zero, Nat.mod_eq_of_lt hv]
    cases us <;> rfl
theorem vecs_len (us : List Int) : (vecs us).length = prodN us := by rw [vecs_num, List.length_map, List.length_range]
/-- strictly less, of vectors of one length -/
def LexLt : List Int → List Int → Prop
  | [], _ => False
  | _ :: _, [] => False
  | x :: xs, y :: ys => x < y ∨ (x = y ∧ LexLt xs ys)
theorem vecs_asc : ∀ us, (vecs us).Pairwise LexLt
  | [] => by simp [vecs]
  | u :: us => by
    unfold vecs
    rw [List.pairwise_flatMap]
    refine ⟨fun v _ => ?_, ?_⟩
    · rw [List.pairwise_map]
      exact (vecs_asc us).imp fun h => .inr ⟨rfl, h⟩
    · refine List.Pairwise.imp ?_ (List.pairwise_lt_range (n := (u + 1).toNat))
      intro v v' hv x hx y hy
      obtain ⟨x', _, rfl⟩ := List.mem_map.1 hx
      obtain ⟨y', _, rfl⟩ := List.mem_map.1 hy
      exact .inl (by omega)
theorem mem_vecs : ∀ (us x : List Int), x ∈ vecs us ↔ x.length = us.length ∧ ∀ k (h : k < x.length) (h' : k < us.length), 0 ≤ x[k] ∧ x[k] ≤ us[k]
  | [], x => by
    unfold vecs
    rw [List.mem_singleton]
    constructor
    · rintro rfl; exact ⟨rfl, fun k h => absurd h (by simp)⟩
    · exact fun h => List.eq_nil_of_length_eq_zero h.1
  | u :: us, x => by
    unfold vecs
    rw [List.mem_flatMap]
    constructor
    · rintro ⟨v, hv, hx⟩
      obtain ⟨x', h', rfl⟩ := List.mem_map.1 hx
      obtain ⟨h1, h2⟩ := (mem_vecs us x').1 h'
      rw [List.mem_range] at hv
      refine ⟨by simp [h1], fun k h h'' => ?_⟩
      cases k with
      | zero => show 0 ≤ (v : Int) ∧ (v : Int) ≤ u; omega
      | succ k => exact h2 k (by simpa using h) (by simpa using h'')
    · rintro ⟨h1, h2⟩
      cases x with
      | nil => simp at h1
      | cons y x =>
        have h0 := h2 0 (by simp) (by simp)
        have h0 : 0 ≤ y ∧ y ≤ u := h0
        refine ⟨y.toNat, List.mem_range.2 (by omega), List.mem_map.2 ⟨x, (mem_vecs us x).2 ⟨by simpa using h1, fun k h h' => h2 (k + 1) (by simpa using h) (by simpa using h')⟩, ?_⟩⟩
        rw [show ((y.toNat : Nat) : Int) = y by omega]
theorem vecs_more {u : Int} (us : List Int) (h : 0 ≤ u) : vecs ((u + 1) :: us) = vecs (u :: us) ++ (vecs us).map ((u + 1) :: ·) := by
  show (List.range (u + 1 + 1).toNat).flatMap _ = (List.range (u + 1).toNat).flatMap _ ++ _
  rw [show (u + 1 + 1).toNat = (u + 1).toNat + 1 by omega, List.range_succ, List.flatMap_append]
  congr 1
  simp
  intro x _
  omega
theorem count_more {u : Int} (us : List Int) (h : 0 ≤ u) (p : List Int → Bool) : (vecs (u :: us)).countP p ≤ (vecs ((u + 1) :: us)).countP p := by
  rw [vecs_more us h, List.countP_append]
  omega
def dotI : List Int → List Int → Int
  | a :: as, x :: xs => a * x + dotI as xs
  | _, _ => 0
theorem dot_scale (f : Int) : ∀ a x : List Int, dotI (a.map (f * ·)) x = f * dotI a x
  | [], x => by simp [dotI]
  | a :: as, [] => by simp [dotI]
  | a :: as, x :: xs => by
    simp only [List.map_cons, dotI]
    rw [dot_scale f as xs, Int.mul_add, Int.mul_assoc]
def isSol : List (List Int) → List Int → List Int → Bool
  | r :: A, c :: b, x => decide (dotI r x = c) && isSol A b x
  | _, _, _ => true
theorem isSol_snoc (r : List Int) (c : Int) (x : List Int) : ∀ (A : List (List Int)) (b : List Int), A.length = b.length → isSol (A ++ [r]) (b ++ [c]) x = (isSol A b x && decide (dotI r x = c))
  | [], [], _ => by simp [isSol]
  | r' :: A, c' :: b, h => by
    show (decide _ && isSol (A ++ [r]) (b ++ [c]) x) = ((decide _ && isSol A b x) && _)
    rw [isSol_snoc r c x A b (by simpa using h), Bool.and_assoc]
/-- the first row once more, or a multiple of it, changes nothing -/
theorem isSol_again (r : List Int) (c f : Int) (hf : f ≠ 0) (A : List (List Int)) (b x : List Int) (h : A.length = b.length) :
    isSol (r :: A ++ [r.map (f * ·)]) (c :: b ++ [f * c]) x = isSol (r :: A) (c :: b) x := by
  rw [isSol_snoc _ _ _ _ _ (by simp [h]), dot_scale]
  have e : decide (f * dotI r x = f * c) = decide (dotI r x = c) := decide_eq_decide.2 ⟨fun h => Int.eq_of_mul_eq_mul_left hf h, fun h => by rw [h]⟩
  rw [e]
  show ((decide (dotI r x = c) && isSol A b x) && decide (dotI r x = c)) = (decide (dotI r x = c) && isSol A b x)
  cases decide (dotI r x = c) <;> simp
theorem count_all (us : List Int) (p : List Int → Bool) : (vecs us).countP p ≤ prodN us := by
  rw [← vecs_len]; exact List.countP_le_length
/-- the first solutions by number -/
theorem sols_num (us : List Int) (p : List Int → Bool) : (vecs us).filter p = ((List.range (prodN us)).filter fun k => p (vecN us k)).map (vecN us) := by
  rw [vecs_num, List.filter_map]
  rfl
end Go.Proofs.Ytneediihponfiaa
