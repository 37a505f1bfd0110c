/- Event logs: a set of texts and its sorted list: the plain mathematics. -/
import Derived.Test.YtgjgohnomophnaaDoorVB
import Derived.Test.YtgjgohnomophnaaDoorShelfD
namespace Go.Proofs.YtgjgohnomophnaaDoor
open Go.RowKit Go.Maps Go.WideMaps

def insAll (l : List Txt) : List Txt := l.foldl insT []
def SortedT (l : List Txt) : Prop := l.Pairwise (fun a b => a < b)
theorem mem_putT {x s : Txt} : ∀ l : List Txt, x ∈ putT l s ↔ x ∈ l ∨ x = s
  | [] => by simp [putT]
  | y :: r => by
    rw [putT]
    split
    · simp only [List.mem_cons]
      constructor
      · rintro (h | h | h)
        · exact .inr h
        · exact .inl (.inl h)
        · exact .inl (.inr h)
      · rintro ((h | h) | h)
        · exact .inr (.inl h)
        · exact .inr (.inr h)
        · exact .inl h
    · rw [List.mem_cons, mem_putT r, List.mem_cons, or_assoc]
theorem mem_insT {x s : Txt} {l : List Txt} : x ∈ insT l s ↔ x ∈ l ∨ x = s := by
  unfold insT
  split
  · rename_i h
    constructor
    · exact .inl
    · rintro (h2 | rfl)
      · exact h2
      · exact h
  · exact mem_putT l
theorem putT_sorted {s : Txt} : ∀ {l : List Txt}, SortedT l → s ∉ l → SortedT (putT l s)
  | [], _, _ => by simp [putT, SortedT]
  | y :: r, h, hn => by
    unfold SortedT at h ⊢
    rw [List.pairwise_cons] at h
    rw [putT]
    split
    · rename_i hs
      rw [List.pairwise_cons, List.pairwise_cons]
      refine ⟨fun a ha => ?_, h.1, h.2⟩
      rcases List.mem_cons.1 ha with e | ha
      · rw [e]; exact hs
      · exact List.lt_trans hs (h.1 a ha)
    · rename_i hs
      rw [List.pairwise_cons]
      refine ⟨fun a ha => ?_, putT_sorted h.2 fun h2 => hn (List.mem_cons_of_mem _ h2)⟩
      rcases (mem_putT r).1 ha with ha | ha
      · exact h.1 a ha
      · rw [ha]
        have h1 : y ≤ s := List.not_lt.1 hs
        rcases List.le_iff_lt_or_eq.1 h1 with h2 | h2
        · exact h2
        · exact absurd (h2 ▸ List.mem_cons_self) hn
theorem insT_sorted {l : List Txt} (h : SortedT l) (s : Txt) : SortedT (insT l s) := by
  unfold insT
  split
  · exact h
  · rename_i hn; exact putT_sorted h hn
theorem fold_sorted : ∀ (l acc : List Txt), SortedT acc → SortedT (l.foldl insT acc)
  | [], _, h => h
  | x :: l, acc, h => fold_sorted l _ (insT_sorted h x)
theorem mem_fold {x : Txt} : ∀ (l acc : List Txt), x ∈ l.foldl insT acc ↔ x ∈ acc ∨ x ∈ l
  | [], acc => by simp
  | y :: l, acc => by
    rw [List.foldl_cons, mem_fold l, mem_insT, List.mem_cons, or_assoc]
theorem insAll_sorted (l : List Txt) : SortedT (insAll l) := fold_sorted l [] List.Pairwise.nil
theorem mem_insAll {x : Txt} (l : List Txt) : x ∈ insAll l ↔ x ∈ l := by
  unfold insAll
  rw [mem_fold]
  simp
theorem SortedT.nodup {l : List Txt} (h : SortedT l) : l.Nodup := List.Pairwise.imp (fun {a b} h e => by rw [e] at h; exact List.lt_irrefl _ h) h
theorem SortedT.merge {l : List Txt} (h : SortedT l) : l.mergeSort (fun x y => decide (x ≤ y)) = l :=
  List.mergeSort_of_pairwise (List.Pairwise.imp (fun {a b} h => decide_eq_true (List.le_of_lt h)) h)
/-- the set of these texts -/
def setT {H : Type} (acc : List Txt) : DataW H := setOf (.lit (.bool true)) (acc.map Lit.string)
theorem setT_snoc {H : Type} (acc : List Txt) (x : Txt) : setT (H := H) (acc ++ [x]) = (setT acc).put (.string x) (.lit (.bool true)) := by
  unfold setT
  rw [List.map_append, List.map_singleton, setOf_snoc]
theorem litsT (acc : List Txt) : ∀ x ∈ acc.map Lit.string, WideAt.IsKeyLit x := fun x hx => by
  obtain ⟨y, _, rfl⟩ := List.mem_map.1 hx
  exact (show WideAt.IsKeyLit (.string y) from trivial)
theorem has_setT {H : Type} (acc : List Txt) (x : Txt) : Maps.has (setT (H := H) acc) (.string x) = true ↔ x ∈ acc := by
  unfold setT
  rw [has_setOf _ _ _ (litsT acc), List.any_eq_true]
  constructor
  · rintro ⟨l, hl, e⟩
    obtain ⟨y, hy, rfl⟩ := List.mem_map.1 hl
    have : y = x := by simpa [Lit.sameKey] using e
    rw [← this]; exact hy
  · intro h
    exact ⟨_, List.mem_map.2 ⟨x, h, rfl⟩, by simp [Lit.sameKey]⟩
theorem size_setT {H : Type} (acc : List Txt) : Maps.size (setT (H := H) acc) ≤ acc.length := by
  unfold setT
  rw [size_setOf _ _ (litsT acc)]
  have key : ∀ (l m : List Lit), (l.foldl addKey m).length ≤ m.length + l.length := by
    intro l
    induction l with
    | nil => intro m; exact Nat.le_refl _
    | cons a l ih =>
      intro m
      rw [List.foldl_cons]
      have h := ih (addKey m a)
      have h2 : (addKey m a).length ≤ m.length + 1 := by
        unfold addKey
        split
        · omega
        · rw [List.length_append]; exact Nat.le_refl _
      rw [List.length_cons]
      omega
  have := key (acc.map Lit.string) []
  simpa using this
theorem sorted_set {H : Type} {acc : List Txt} {ss : List Txt} (hk : ∃ es, setT (H := H) acc = .map es ∧ ∀ p ∈ es, ∃ x, p.1 = Lit.string x) (h : ss.Perm (strKeys (setT (H := H) acc))) : ss.mergeSort (fun x y => decide (x ≤ y)) = insAll acc := by
  obtain ⟨es, he, hes⟩ := hk
  obtain ⟨es', he', hp⟩ := tidy_setOf (.lit (.bool true) : DataW H) (acc.map Lit.string) (litsT acc)
  have e2 : es' = es := by
    have : (DataW.map es' : DataW H) = .map es := by rw [← he', ← he]; rfl
    injection this
  subst e2
  have hperm : (insAll acc).Perm (strKeys (.map es')) := perm_strKeys hp hes (insAll_sorted acc).nodup fun x => by
    rw [mem_insAll, ← he, has_setT]
  rw [he] at h
  have := mergeSort_of_perm (h.trans hperm.symm)
  exact this.trans (insAll_sorted acc).merge
/-! what the three lists collect -/
def accK (part : List Txt → List Txt) (R : List (List Txt)) : Nat → List Txt
  | 0 => []
  | j + 1 => if R[j]?.getD [] = [] then accK part R j else accK part R j ++ part (R[j]?.getD [])
theorem actX_fold (acc xs : List Txt) : ∀ k, k ≤ xs.length → actX acc xs k = (xs.take k).foldl insT acc
  | 0, _ => rfl
  | k + 1, h => by
    have e : xs.take (k + 1) = xs.take k ++ [atS xs k] := by
      rw [List.take_add_one]
      unfold atS
      rw [List.getElem?_eq_getElem (by omega)]
      rfl
    rw [actX, actX_fold acc xs k (by omega), e, List.foldl_append]
    rfl
theorem acc_act (R : List (List Txt)) : ∀ j, insAll (accK id R j) = actK R j
  | 0 => rfl
  | j + 1 => by
    rw [accK, actK, actX_fold _ _ _ (Nat.le_refl _), List.take_length, ← acc_act R j]
    split
    · rename_i h; rw [h]; rfl
    · unfold insAll; rw [List.foldl_append]; rfl
def fstL (x : List Txt) : List Txt := x.take 1
def lstL (x : List Txt) : List Txt := x.drop (x.length - 1)
theorem fstL_eq {x : List Txt} (h : x ≠ []) : fstL x = [firT x] := by
  cases x with
  | nil => exact absurd rfl h
  | cons a r => rfl
theorem lstL_eq {x : List Txt} (h : x ≠ []) : lstL x = [lasT x] := by
  have hl : 0 < x.length := List.length_pos_iff.2 h
  unfold lstL lasT atS
  rw [List.drop_eq_getElem_cons (by omega), List.drop_of_length_le (by omega), List.getElem?_eq_getElem (by omega)]
  rfl
theorem acc_pick {part : List Txt → List Txt} {f : List Txt → Txt} (hp : ∀ x : List Txt, x ≠ [] → part x = [f x]) (R : List (List Txt)) : ∀ j, insAll (accK part R j) = pickK f R j
  | 0 => rfl
  | j + 1 => by
    rw [accK, pickK, ← acc_pick hp R j]
    by_cases h : R[j]?.getD [] = []
    · rw [if_pos h]
      simp [h]
    · rw [if_neg h, hp _ h]
      unfold insAll
      rw [List.foldl_append]
      simp [h]
theorem accK_len {part : List Txt → List Txt} (hp : ∀ x, (part x).length ≤ x.length) (R : List (List Txt)) : ∀ j, (accK part R j).length ≤ totL R j
  | 0 => Nat.le_refl _
  | j + 1 => by
    have h := accK_len hp R j
    rw [accK, totL]
    split
    · omega
    · have := hp (R[j]?.getD [])
      rw [List.length_append]; omega
end Go.Proofs.YtgjgohnomophnaaDoor
