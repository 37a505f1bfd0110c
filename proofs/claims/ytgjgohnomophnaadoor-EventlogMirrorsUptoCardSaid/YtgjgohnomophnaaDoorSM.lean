/- The pieces of a text between separators, in plain lists. -/
import Derived.Test.YtgjgohnomophnaaDoorChecked
import Derived.Lib.Bytealg
namespace Go.Proofs.YtgjgohnomophnaaDoor

/-- the pieces of l between the bytes c: one more than there are such bytes -/
def pieces (c : UInt8) : List UInt8 → List (List UInt8)
  | [] => [[]]
  | b :: r => if b = c then [] :: pieces c r else match pieces c r with
    | [] => [[b]]
    | h :: t => (b :: h) :: t
theorem pieces_ne (c : UInt8) : ∀ l, pieces c l ≠ []
  | [] => by simp [pieces]
  | b :: r => by
    unfold pieces
    split
    · simp
    · cases pieces c r <;> simp
theorem pieces_last (c : UInt8) : ∀ l, Lib.indexByte l c = -1 → pieces c l = [l]
  | [], _ => rfl
  | b :: r, h => by
    unfold Lib.indexByte at h
    unfold pieces
    by_cases hb : b = c
    · subst hb; simp at h
    · have hb' : (b == c) = false := by simpa using hb
      simp only [hb', Bool.false_eq_true, if_false] at h
      by_cases h1 : Lib.indexByte r c = -1
      · rw [if_neg hb, pieces_last c r h1]
      · simp only [beq_iff_eq, h1, if_false] at h
        have := Lib.indexByte_ge r c
        omega
theorem pieces_cut (c : UInt8) : ∀ (l : List UInt8) (i : Nat), Lib.indexByte l c = (i : Int) → i < l.length ∧ pieces c l = l.take i :: pieces c (l.drop (i + 1))
  | [], i, h => by simp [Lib.indexByte] at h
  | b :: r, i, h => by
    unfold Lib.indexByte at h
    by_cases hb : b = c
    · subst hb
      simp at h
      obtain rfl : i = 0 := by omega
      simp [pieces]
    · have hb' : (b == c) = false := by simpa using hb
      simp only [hb', Bool.false_eq_true, if_false] at h
      by_cases h1 : Lib.indexByte r c = -1
      · simp [h1] at h
      · simp only [beq_iff_eq, h1, if_false] at h
        have := Lib.indexByte_ge r c
        obtain ⟨j, rfl⟩ : ∃ j, i = j + 1 := ⟨i - 1, by omega⟩
        obtain ⟨h2, h3⟩ := pieces_cut c r j (by omega)
        refine ⟨by simp; omega, ?_⟩
        conv => lhs; unfold pieces
        rw [if_neg hb, h3]
        simp
theorem indexByte_cases (c : UInt8) (l : List UInt8) : Lib.indexByte l c = -1 ∨ ∃ i : Nat, Lib.indexByte l c = (i : Int) := by
  have := Lib.indexByte_ge l c
  by_cases h : Lib.indexByte l c = -1
  · exact .inl h
  · exact .inr ⟨(Lib.indexByte l c).toNat, by omega⟩
theorem pieces_length (c : UInt8) : ∀ l, (pieces c l).length ≤ l.length + 1
  | [] => by simp [pieces]
  | b :: r => by
    have h := pieces_length c r
    unfold pieces
    split
    · simp; omega
    · have := pieces_ne c r
      cases hp : pieces c r with
      | nil => simp
      | cons a t => rw [hp] at h; simp at h ⊢; omega
theorem pieces_size (c : UInt8) : ∀ l, ∀ x ∈ pieces c l, x.length ≤ l.length
  | [] => by simp [pieces]
  | b :: r => by
    have h := pieces_size c r
    unfold pieces
    split
    · intro x hx
      rcases List.mem_cons.1 hx with rfl | hx
      · simp
      · have := h x hx; simp; omega
    · cases hp : pieces c r with
      | nil => intro x hx; simp at hx; subst hx; simp
      | cons a t =>
        rw [hp] at h
        intro x hx
        rcases List.mem_cons.1 hx with rfl | hx
        · have := h a (by simp); simp; omega
        · have := h x (by simp [hx]); simp; omega
end Go.Proofs.YtgjgohnomophnaaDoor
