/- Event logs: variants: the plain mathematics. -/
import Derived.Test.YtgjgohnomophnaaDoorKY
import Derived.Test.YtgjgohnomophnaaDoorTI
import Derived.Maps.OwnSet
namespace Go.Proofs.YtgjgohnomophnaaDoor
open Go.RowKit Go.Maps Go.WideMaps

def keyL : List Txt → Txt
  | [] => []
  | x :: r => Lib.decDigits x.length ++ 32 :: (x ++ keyL r)
theorem keyL_snoc (x : Txt) : ∀ l : List Txt, keyL (l ++ [x]) = ((keyL l ++ Lib.decDigits x.length) ++ [32]) ++ x
  | [] => by simp [keyL]
  | y :: l => by
    rw [List.cons_append, keyL, keyL_snoc x l, keyL]
    simp
theorem keyT_eq (xs : List Txt) : ∀ k, k ≤ xs.length → keyT xs k = keyL (xs.take k)
  | 0, _ => rfl
  | k + 1, h => by
    have e : xs.take (k + 1) = xs.take k ++ [atS xs k] := by
      rw [List.take_add_one]
      unfold atS
      rw [List.getElem?_eq_getElem (by omega)]
      rfl
    rw [keyT, keyT_eq xs k (by omega), e, keyL_snoc]
theorem keyV_eq (xs : List Txt) : keyV xs = keyL xs := by
  unfold keyV
  rw [keyT_eq xs _ (Nat.le_refl _), List.take_length]
theorem dig_no {n : Nat} (h : n < 41) : ∀ b ∈ Lib.decDigits n, b ≠ 32 := by
  have : ∀ k : Fin 41, ∀ b ∈ Lib.decDigits k.val, b ≠ 32 := by decide +kernel
  exact this ⟨n, h⟩
theorem dig_inj {n m : Nat} (h : n < 41) (h' : m < 41) (e : Lib.decDigits n = Lib.decDigits m) : n = m := by
  have : ∀ k j : Fin 41, Lib.decDigits k.val = Lib.decDigits j.val → k = j := by decide +kernel
  exact congrArg Fin.val (this ⟨n, h⟩ ⟨m, h'⟩ e)
theorem cut_first {x y : Txt} : ∀ {p q : Txt}, (∀ b ∈ p, b ≠ 32) → (∀ b ∈ q, b ≠ 32) → p ++ 32 :: x = q ++ 32 :: y → p = q ∧ x = y
  | [], [], _, _, e => by simpa using e
  | [], b :: q, _, hq, e => by
    rw [List.nil_append, List.cons_append] at e
    injection e with e1 _
    exact absurd e1.symm (hq b List.mem_cons_self)
  | a :: p, [], hp, _, e => by
    rw [List.nil_append, List.cons_append] at e
    injection e with e1 _
    exact absurd e1 (hp a List.mem_cons_self)
  | a :: p, b :: q, hp, hq, e => by
    rw [List.cons_append, List.cons_append] at e
    injection e with e1 e2
    obtain ⟨h1, h2⟩ := cut_first (fun c hc => hp c (List.mem_cons_of_mem _ hc)) (fun c hc => hq c (List.mem_cons_of_mem _ hc)) e2
    exact ⟨by rw [e1, h1], h2⟩
theorem keyL_inj : ∀ {l m : List Txt}, (∀ x ∈ l, x.length ≤ 40) → (∀ x ∈ m, x.length ≤ 40) → keyL l = keyL m → l = m
  | [], [], _, _, _ => rfl
  | [], y :: m, _, _, e => by
    have := congrArg List.length e
    simp [keyL] at this
  | x :: l, [], _, _, e => by
    have := congrArg List.length e
    simp [keyL] at this
  | x :: l, y :: m, hl, hm, e => by
    have hx := hl x List.mem_cons_self
    have hy := hm y List.mem_cons_self
    obtain ⟨h1, h2⟩ := cut_first (dig_no (by omega)) (dig_no (by omega)) e
    obtain ⟨h3, h4⟩ := List.append_inj h2 (dig_inj (by omega) (by omega) h1)
    rw [h3, keyL_inj (fun c hc => hl c (List.mem_cons_of_mem _ hc)) (fun c hc => hm c (List.mem_cons_of_mem _ hc)) h4]
/-- a trace as the laws allow it -/
def SmT (t : List Txt) : Prop := t.length ≤ 80 ∧ ∀ i, (atS t i).length ≤ 40
theorem SmT.mem {t : List Txt} (h : SmT t) : ∀ x ∈ t, x.length ≤ 40 := fun x hx => by
  obtain ⟨i, hi, e⟩ := List.getElem_of_mem hx
  have := h.2 i
  unfold atS at this
  rw [List.getElem?_eq_getElem hi] at this
  rw [← e]; exact this
theorem keyV_inj {l m : List Txt} (hl : SmT l) (hm : SmT m) (e : keyV l = keyV m) : l = m := keyL_inj hl.mem hm.mem (by rw [← keyV_eq, ← keyV_eq]; exact e)

/-- the different traces of the first k -/
def vsK (R : List (List Txt)) : Nat → List (List Txt)
  | 0 => []
  | k + 1 => if R[k]?.getD [] ∈ vsK R k then vsK R k else vsK R k ++ [R[k]?.getD []]
theorem vs_nodup (R : List (List Txt)) : ∀ k, (vsK R k).Nodup
  | 0 => List.nodup_nil
  | k + 1 => by
    rw [vsK]
    split
    · exact vs_nodup R k
    · rename_i h
      rw [List.nodup_append]
      refine ⟨vs_nodup R k, by simp, fun a ha b hb e => h ?_⟩
      rw [List.mem_singleton] at hb
      rw [← hb, ← e]; exact ha
theorem vs_len (R : List (List Txt)) : ∀ k, (vsK R k).length ≤ k
  | 0 => Nat.le_refl _
  | k + 1 => by
    have h := vs_len R k
    rw [vsK]
    split
    · omega
    · rw [List.length_append, List.length_singleton]; omega
theorem vs_mem (R : List (List Txt)) : ∀ k j, j < k → R[j]?.getD [] ∈ vsK R k
  | 0, j, h => absurd h (by omega)
  | k + 1, j, h => by
    by_cases e : j = k
    · subst e
      rw [vsK]
      split
      · assumption
      · simp
    · have := vs_mem R k j (by omega)
      rw [vsK]
      split
      · exact this
      · exact List.mem_append_left _ this
theorem vs_here (R : List (List Txt)) (k : Nat) : R[k]?.getD [] ∈ vsK R (k + 1) := vs_mem R (k + 1) k (by omega)
theorem tim_zero (R : List (List Txt)) (t : List Txt) : ∀ k, (∀ j, j < k → R[j]?.getD [] ≠ t) → timK R t k = 0
  | 0, _ => rfl
  | k + 1, h => by
    have hn : ¬ sameT (R[k]?.getD []) t = true := fun e => h k (by omega) (of_decide_eq_true e)
    rw [timK, if_neg hn, tim_zero R t k (fun j hj => h j (by omega))]
theorem tim_new {R : List (List Txt)} {t : List Txt} {k : Nat} (h : t ∉ vsK R k) : timK R t k = 0 :=
  tim_zero R t k fun j hj e => h (by rw [← e]; exact vs_mem R k j hj)
theorem tim_step (R : List (List Txt)) (t : List Txt) (k : Nat) : timK R t (k + 1) = timK R t k + (if R[k]?.getD [] = t then 1 else 0) := by
  rw [timK]
  unfold sameT
  by_cases h : R[k]?.getD [] = t
  · simp [h]
  · simp [h]
/-- how often each has come so far -/
def cnK (R V : List (List Txt)) (k : Nat) : List Nat := V.map fun t => timK R t k
theorem cn_len (R V : List (List Txt)) (k : Nat) : (cnK R V k).length = V.length := by simp [cnK]
theorem cn_le (R V : List (List Txt)) (k : Nat) : ∀ n ∈ cnK R V k, n ≤ k := fun n hn => by
  simp only [cnK, List.mem_map] at hn
  obtain ⟨t, _, rfl⟩ := hn
  exact timK_le R t k
theorem cn_new {R : List (List Txt)} {k : Nat} (h : R[k]?.getD [] ∉ vsK R k) : cnK R (vsK R k ++ [R[k]?.getD []]) k = cnK R (vsK R k) k ++ [0] := by
  rw [cnK, List.map_append, List.map_singleton, tim_new h]
  rfl
theorem idx_ne {v x : List Txt} (e : ¬ v = x) (V : List (List Txt)) : (v :: V).idxOf x = V.idxOf x + 1 := by
  rw [List.idxOf_cons]
  have : (v == x) = false := by simpa using e
  rw [this]; rfl
theorem cn_inc (R : List (List Txt)) (k : Nat) : ∀ V : List (List Txt), V.Nodup → R[k]?.getD [] ∈ V → (cnK R V k).set (V.idxOf (R[k]?.getD [])) (timK R (R[k]?.getD []) k + 1) = cnK R V (k + 1)
  | [], _, h => absurd h (by simp)
  | v :: V, hn, hm => by
    rw [List.nodup_cons] at hn
    by_cases e : v = R[k]?.getD []
    · rw [e, List.idxOf_cons_self]
      show (_ :: cnK R V k).set 0 _ = timK R _ (k + 1) :: cnK R V (k + 1)
      rw [List.set_cons_zero, tim_step, if_pos rfl]
      congr 1
      unfold cnK
      refine List.map_congr_left fun t ht => ?_
      have : R[k]?.getD [] ≠ t := fun e2 => hn.1 (by rw [e, e2]; exact ht)
      rw [tim_step, if_neg this]; rfl
    · have hm2 : R[k]?.getD [] ∈ V := by
        rcases List.mem_cons.1 hm with h | h
        · exact absurd h.symm e
        · exact h
      have e1 : (v :: V).idxOf (R[k]?.getD []) = V.idxOf (R[k]?.getD []) + 1 := idx_ne e V
      rw [e1]
      show (timK R v k :: cnK R V k).set _ _ = timK R v (k + 1) :: cnK R V (k + 1)
      rw [List.set_cons_succ, cn_inc R k V hn.2 hm2, tim_step, if_neg (fun e2 => e e2.symm)]; rfl
theorem cn_at {R V : List (List Txt)} {k : Nat} {t : List Txt} (h : t ∈ V) : (cnK R V k)[V.idxOf t]? = some (timK R t k) := by
  unfold cnK
  rw [List.getElem?_map, List.getElem?_eq_getElem (List.idxOf_lt_length_of_mem h), List.getElem_idxOf]
  rfl
theorem cn_sum (R : List (List Txt)) : ∀ k, (cnK R (vsK R k) k).sum = k
  | 0 => rfl
  | k + 1 => by
    have key : ∀ V : List (List Txt), V.Nodup → R[k]?.getD [] ∈ V → (cnK R V (k + 1)).sum = (cnK R V k).sum + 1 := by
      intro V
      induction V with
      | nil => intro _ h; exact absurd h (by simp)
      | cons v V ih =>
        intro hn hm
        rw [List.nodup_cons] at hn
        show (timK R v (k + 1) :: cnK R V (k + 1)).sum = (timK R v k :: cnK R V k).sum + 1
        rw [List.sum_cons, List.sum_cons, tim_step]
        by_cases e : R[k]?.getD [] = v
        · have : cnK R V (k + 1) = cnK R V k := by
            unfold cnK
            refine List.map_congr_left fun t ht => ?_
            have : R[k]?.getD [] ≠ t := fun e2 => hn.1 (by rw [← e, e2]; exact ht)
            rw [tim_step, if_neg this]; rfl
          rw [if_pos e, this]; omega
        · have hm2 : R[k]?.getD [] ∈ V := by
            rcases List.mem_cons.1 hm with h | h
            · exact absurd h e
            · exact h
          rw [if_neg e, ih hn.2 hm2]; omega
    rw [key _ (vs_nodup R _) (vs_here R k)]
    have : (cnK R (vsK R (k + 1)) k).sum = (cnK R (vsK R k) k).sum := by
      rw [vsK]
      split
      · rfl
      · rename_i h
        rw [cn_new h]; simp
    rw [this, cn_sum R k]

/-! the map -/
def litK (t : List Txt) : Lit := .string (keyV t)
theorem litK_inj {l m : List Txt} (hl : SmT l) (hm : SmT m) (e : litK l = litK m) : l = m := keyV_inj hl hm (by unfold litK at e; injection e)
def MapOk {H : Type} (D : DataW H) (V : List (List Txt)) : Prop :=
  IsMap D ∧ (∀ t ∈ V, SmT t) ∧ ∀ t, SmT t → (t ∈ V → Maps.has D (litK t) = true ∧ D.atKey (litK t) (.lit (.int .i64 0)) = .lit (.int .i64 (V.idxOf t : Nat))) ∧ (t ∉ V → Maps.has D (litK t) = false)
theorem MapOk.nil {H : Type} : MapOk (H := H) (.map []) [] := ⟨isMap_empty, fun _ h => by simp at h, fun t _ => ⟨fun h => by simp at h, fun _ => rfl⟩⟩
theorem MapOk.put {H : Type} {D : DataW H} {V : List (List Txt)} (h : MapOk D V) {x : List Txt} (hx : SmT x) (hn : x ∉ V) : MapOk (D.put (litK x) (.lit (.int .i64 (V.length : Nat)))) (V ++ [x]) := by
  refine ⟨h.1.put _ _, fun t ht => ?_, fun t ht => ⟨fun hm => ?_, fun hm => ?_⟩⟩
  · rcases List.mem_append.1 ht with h1 | h1
    · exact h.2.1 t h1
    · rw [List.mem_singleton] at h1; rw [h1]; exact hx
  · by_cases e : t = x
    · subst e
      refine ⟨has_put_same h.1 (show WideAt.IsKeyLit (litK t) from trivial) _, ?_⟩
      rw [atKey_put_same h.1 (show WideAt.IsKeyLit (litK t) from trivial), List.idxOf_append, if_neg hn]
      simp
    · have hne : litK t ≠ litK x := fun e2 => e (litK_inj ht hx e2)
      have hm2 : t ∈ V := by
        rcases List.mem_append.1 hm with h1 | h1
        · exact h1
        · exact absurd (List.mem_singleton.1 h1) e
      have h3 := (h.2.2 t ht).1 hm2
      rw [has_put_other hne, atKey_put_other hne, List.idxOf_append, if_pos hm2]
      exact h3
  · have hne : litK t ≠ litK x := fun e2 => hm (by rw [litK_inj ht hx e2]; simp)
    rw [has_put_other hne]
    exact (h.2.2 t ht).2 fun h1 => hm (List.mem_append_left _ h1)
end Go.Proofs.YtgjgohnomophnaaDoor
