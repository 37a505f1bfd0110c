/- Text and Parse of the program. -/
import Derived.Test.YtbpadefpgkjnaaaDoorTA
namespace Go.Proofs.YtbpadefpgkjnaaaDoor
open Go.RowKit Go.Shelf

attribute [local go_sem] Oper.semAt_some

theorem text_law2 (A : Option Addr) (a : List Int) (ca : Nat) (w : World) (ra : ReadsV w A a) (hi : In64 a) (hl : a.length ≤ 4000) (hL : LaidW w) :
    Calls Tryd.prog 28 #[.slice A a.length ca] w fun e w' => e = .returned (.string ⟨(textL a).toArray⟩) ∧ Below w.heap.size w w' := by
  by_cases h : a = []
  · subst h
    have E : Hid (textL [] = [45]) := rfl
    go_enter Tryd.func28, Tryd.ntmps28
    go_wp2
    go_ret
    exact ⟨rfl, Below.refl _ _⟩
  · have C := Lib.hid (listed_law A a ca w ra hi hl hL)
    have hp : 0 < a.length := List.length_pos_iff.2 h
    have E : Hid (textL a = textTo a a.length) := if_neg h
    clear ra h hL
    rw [← E.out] at C
    generalize textL a = T at *
    generalize a.length = n at *
    have h1 : ((n : Int) == 0) = false := by simp; omega
    go_enter Tryd.func28, Tryd.ntmps28
    go_wp2_with fail
    refine C.out.mono ?_
    rintro e w' ⟨rfl, K⟩
    go_wp2
    go_ret
    exact ⟨rfl, K⟩

/-- one numeral -/
def atoiV (x : List UInt8) : Option Int := match Lib.atoiAll x with | .ok v => some v | _ => none
def numsL : List (List UInt8) → Option (List Int)
  | [] => some []
  | x :: r => match atoiV x, numsL r with
    | some v, some m => some (v :: m)
    | _, _ => none
theorem numsL_snoc : ∀ (pre : List (List UInt8)) (x : List UInt8), numsL (pre ++ [x]) = match numsL pre, atoiV x with | some m, some v => some (m ++ [v]) | _, _ => none
  | [], x => by
    simp only [List.nil_append, numsL]
    cases atoiV x <;> rfl
  | y :: r, x => by
    simp only [List.cons_append, numsL, numsL_snoc r x]
    cases atoiV y <;> cases numsL r <;> cases atoiV x <;> rfl
theorem numsL_len : ∀ (l : List (List UInt8)) (m : List Int), numsL l = some m → m.length = l.length
  | [], m, h => by simp [numsL] at h; subst h; rfl
  | x :: r, m, h => by
    simp only [numsL] at h
    cases h1 : atoiV x with
    | none => rw [h1] at h; cases h
    | some v =>
      cases h2 : numsL r with
      | none => rw [h1, h2] at h; cases h
      | some m' =>
        rw [h1, h2] at h
        cases h
        simp [numsL_len r m' h2]
theorem numsL_bad : ∀ (a b : List (List UInt8)), numsL a = none → numsL (a ++ b) = none
  | [], b, h => by simp [numsL] at h
  | x :: r, b, h => by
    simp only [List.cons_append, numsL] at h ⊢
    cases h1 : atoiV x with
    | none => rfl
    | some v =>
      cases h2 : numsL r with
      | none => rw [numsL_bad r b h2]
      | some m' => rw [h1, h2] at h; cases h
theorem atoiV_in {x : List UInt8} {v : Int} (h : atoiV x = some v) : -9223372036854775808 ≤ v ∧ v ≤ 9223372036854775807 := by
  unfold atoiV at h
  split at h
  · rename_i v' h'
    cases h
    have := Lib.atoiAll_bounds h'
    omega
  · cases h
theorem numsL_in : ∀ (l : List (List UInt8)) (m : List Int), numsL l = some m → In64 m
  | [], m, h => by simp [numsL] at h; subst h; exact in_nil
  | x :: r, m, h => by
    simp only [numsL] at h
    cases h1 : atoiV x with
    | none => rw [h1] at h; cases h
    | some v =>
      cases h2 : numsL r with
      | none => rw [h1, h2] at h; cases h
      | some m' =>
        rw [h1, h2] at h
        cases h
        intro z hz
        rcases List.mem_cons.1 hz with rfl | hz
        · exact atoiV_in h1
        · exact numsL_in r m' h2 z hz
theorem atoi_ok (x : List UInt8) (v : Int) (h : atoiV x = some v) (hx : x.length ≤ 100000) (w : World) :
    Calls Tryd.prog 35 #[.string ⟨x.toArray⟩] w fun e w' => e = .returned (.tuple #[.int .i64 v, .nilIface]) ∧ Below w.heap.size w w' := by
  have h' : Lib.atoiAll (⟨x.toArray⟩ : ByteArray).data.toList = .ok v := by
    unfold atoiV at h
    split at h
    · rename_i v' h'
      cases h
      exact h'
    · cases h
  refine (Tryd.strconv_Atoi_ok ⟨x.toArray⟩ (by rw [bytes_size]; omega) v h' w).mono ?_
  rintro e w' ⟨rfl, rfl | ⟨t, rfl⟩⟩
  · exact ⟨rfl, Below.refl _ _⟩
  · exact ⟨rfl, Lib.bytesWorld_below _ _ _⟩
theorem atoi_bad (x : List UInt8) (h : atoiV x = none) (hx : x.length ≤ 100000) (w : World) (hL : LaidW w) :
    Calls Tryd.prog 35 #[.string ⟨x.toArray⟩] w fun e w' => (∃ z t p, e = .returned (.tuple #[.int .i64 z, .iface t (.pointer (some p))])) ∧ Below w.heap.size w w' := by
  obtain ⟨tp, p, hs⟩ := hL.syn
  obtain ⟨tq, q, hr⟩ := hL.rng
  have hcase : Lib.atoiAll (⟨x.toArray⟩ : ByteArray).data.toList = Lib.atoiAll [] ∨ Lib.atoiAll (⟨x.toArray⟩ : ByteArray).data.toList = .range := by
    unfold atoiV at h
    show Lib.atoiAll x = _ ∨ Lib.atoiAll x = _
    rcases hc : Lib.atoiAll x with v | _ | _
    · rw [hc] at h; cases h
    · exact .inl rfl
    · exact .inr rfl
  rcases hcase with h' | h'
  · refine (Tryd.strconv_Atoi_syntax_var ⟨x.toArray⟩ (by rw [bytes_size]; omega) h' tp p w hs).mono ?_
    rintro e w' ⟨N, rfl, _, _, hb⟩
    exact ⟨⟨_, _, _, rfl⟩, hb⟩
  · refine (Tryd.strconv_Atoi_range_var ⟨x.toArray⟩ (by rw [bytes_size]; omega) h' tq q w hr).mono ?_
    rintro e w' ⟨N, rfl, _, _, hb⟩
    exact ⟨⟨_, _, _, rfl⟩, hb⟩
theorem keeps_below {D : Nat} {W W' : World} (h : Below W.heap.size W W') : KeepsFrom D W W' := ⟨h.size, fun k o _ hk _ => (h.block k (Array.getElem?_eq_some_iff.1 hk).1).trans hk⟩
theorem boxed_below {W W' : World} {B k : Nat} {t : TypeId} {v : Value} (h : Boxed W k t v) (hb : Below B W W') (hB : W.heap.size ≤ B) : Boxed W' k t v := (hb.block k (by have := h.lt; omega)).trans h
theorem keepB_below {B m : Nat} {W W' : World} (h : Below W.heap.size W W') : KeepB B m W W' := fun k _ _ hk => h.block k hk

/-- what Parse finds -/
def parseL (s : List UInt8) : Option (List Int) :=
  if s = [45] then some [] else if 191 < s.length then none else
  match numsL (pieces 44 s) with
  | none => none
  | some m => if totalL m < 0 ∨ textL m ≠ s then none else some m
def PPost (g : Nat) (w : World) (r : Option (List Int)) (e : Ending) (w' : World) : Prop := match r with
  | some m => ∃ A c, e = .returned (.tuple #[.slice A m.length c, .int .i64 0]) ∧ ReadsV w' A m ∧ Below g w w'
  | none => e = .returned (.tuple #[.slice none 0 0, .int .i64 11]) ∧ Below g w w'
end Go.Proofs.YtbpadefpgkjnaaaDoor
