/- The reference's pieces of a text. -/
import Derived.Test.YtgjgohnomophnaaDoorSR
namespace Go.Proofs.YtgjgohnomophnaaDoor
open Go.RowKit

theorem pieces_one (c : UInt8) : ∀ l : List UInt8, (∀ y ∈ l, y ≠ c) → pieces c l = [l]
  | [], _ => rfl
  | b :: r, h => by
    rw [pieces, if_neg (h b (List.mem_cons_self ..)), pieces_one c r fun y hc => h y (List.mem_cons_of_mem _ hc)]
theorem pieces_app (c : UInt8) : ∀ (l r : List UInt8), (∀ y ∈ l, y ≠ c) → pieces c (l ++ c :: r) = l :: pieces c r
  | [], r, _ => by simp [pieces]
  | b :: l, r, h => by
    rw [List.cons_append, pieces, if_neg (h b (List.mem_cons_self ..)), pieces_app c l r fun y hc => h y (List.mem_cons_of_mem _ hc)]
/-- what stands between two rounds -/
def SplI (c : UInt8) (s : List UInt8) (i a : Nat) (P : List (List UInt8)) : Prop :=
  (i ≤ s.length ∧ a ≤ i ∧ pieces c s = P ++ pieces c (s.drop a) ∧ ∀ j, a ≤ j → j < i → s[j]? ≠ some c) ∨ (i = s.length + 1 ∧ P = pieces c s)
theorem spl_start (c : UInt8) (s : List UInt8) : SplI c s 0 0 [] := .inl ⟨Nat.zero_le _, Nat.le_refl _, rfl, fun j _ h => absurd h (by omega)⟩
theorem spl_skip {c : UInt8} {s : List UInt8} {i a : Nat} {P : List (List UInt8)} (h : SplI c s i a P) (hi : i < s.length) (hc : s[i] ≠ c) : SplI c s (i + 1) a P := by
  rcases h with ⟨h1, h2, h3, h4⟩ | ⟨h1, _⟩
  · refine .inl ⟨hi, by omega, h3, fun j hj hj2 => ?_⟩
    by_cases e : j = i
    · subst e; simpa [hi] using hc
    · exact h4 j hj (by omega)
  · omega
theorem spl_no {c : UInt8} {s : List UInt8} {i a : Nat} (h4 : ∀ j, a ≤ j → j < i → s[j]? ≠ some c) : ∀ y ∈ (s.drop a).take (i - a), y ≠ c := by
  intro y hc e
  subst e
  obtain ⟨j, hj, e⟩ := List.getElem_of_mem hc
  rw [List.length_take, List.length_drop] at hj
  rw [List.getElem_take, List.getElem_drop] at e
  exact h4 (a + j) (by omega) (by omega) (by rw [List.getElem?_eq_getElem (by omega), e])
theorem spl_cut {c : UInt8} {s : List UInt8} {i a : Nat} {P : List (List UInt8)} (h : SplI c s i a P) (hi : i < s.length) (hc : s[i] = c) : SplI c s (i + 1) (i + 1) (P ++ [(s.drop a).take (i - a)]) := by
  rcases h with ⟨h1, h2, h3, h4⟩ | ⟨h1, _⟩
  · refine .inl ⟨hi, Nat.le_refl _, ?_, fun j hj hj2 => absurd hj2 (by omega)⟩
    have e : s.drop a = (s.drop a).take (i - a) ++ c :: s.drop (i + 1) := by
      have e1 := (List.take_append_drop (i - a) (s.drop a)).symm
      rw [List.drop_drop, show a + (i - a) = i by omega, List.drop_eq_getElem_cons hi, hc] at e1
      exact e1
    rw [h3, List.append_assoc]
    congr 1
    conv => lhs; rw [e]
    exact pieces_app _ _ _ (spl_no h4)
  · omega
theorem spl_end {c : UInt8} {s : List UInt8} {i a : Nat} {P : List (List UInt8)} (h : SplI c s i a P) (hi : i = s.length) : SplI c s (i + 1) (i + 1) (P ++ [(s.drop a).take (i - a)]) := by
  rcases h with ⟨h1, h2, h3, h4⟩ | ⟨h1, _⟩
  · refine .inr ⟨by omega, ?_⟩
    have e : (s.drop a).take (i - a) = s.drop a := List.take_of_length_le (by rw [List.length_drop]; omega)
    have n := spl_no h4
    rw [e] at n ⊢
    rw [h3, pieces_one _ _ n]
  · omega
theorem spl_done {c : UInt8} {s : List UInt8} {i a : Nat} {P : List (List UInt8)} (h : SplI c s i a P) (hi : ¬ i ≤ s.length) : P = pieces c s := by
  rcases h with ⟨h1, _⟩ | ⟨_, h2⟩
  · exact absurd h1 hi
  · exact h2
theorem spl_from {c : UInt8} {s : List UInt8} {i a : Nat} {P : List (List UInt8)} (h : SplI c s i a P) (hi : i ≤ s.length) : a ≤ i := by
  rcases h with ⟨_, h, _⟩ | ⟨h1, _⟩ <;> omega
theorem spl_len {c : UInt8} {s : List UInt8} {i a : Nat} {P : List (List UInt8)} (h : SplI c s i a P) : P.length ≤ s.length + 1 := by
  have hp := pieces_length c s
  rcases h with ⟨_, _, h3, _⟩ | ⟨_, h2⟩
  · rw [h3, List.length_append] at hp; omega
  · rw [h2]; exact hp

set_option maxHeartbeats 4000000 in
set_option maxRecDepth 100000 in
theorem rsplit_law (c : UInt8) (s : List UInt8) (hs : s.length ≤ 100000) (w : World) :
    Calls Tryd.prog 43 #[.string ⟨s.toArray⟩, .int .u8 c.toNat] w fun e w' => ∃ v, e = .returned v ∧ w'.ownsRow w.heap.size 9 1 v (pieces c s).length ((pieces c s).map sv) ∧ Below w.heap.size w w' := by
  obtain ⟨i0, hi, hz0, hz1, hz2⟩ := info_parts infoStr
  have HI := Lib.hid hi
  have HZ0 := Lib.hid hz0
  have HZ1 := Lib.hid hz1
  have HZ2 := Lib.hid hz2
  clear hi hz0 hz1 hz2
  have HDone := Lib.hid (fun i a P (h : SplI c s i a P) (hi : ¬ i ≤ s.length) => spl_done h hi)
  generalize pieces c s = R at *
  generalize hg : w.heap.size = g at *
  have HG := Lib.hid hg
  clear hg
  go_enter Tryd.func43, Tryd.ntmps43
  go_wp2_with fail
  go_loopg [5, 6, 7] (s.length + 1) (fun gg v f q wr => ∃ (i a : Nat) (P : List (List UInt8)), gg = s.length + 1 - i ∧ i ≤ s.length + 1 ∧ f = .int .i64 a ∧ q = .int .i64 i ∧ Hid (SplI c s i a P) ∧ Hid (wr.ownsRow g 9 1 v P.length (P.map sv)) ∧ Hid (Below g w wr))
  case atStart => exact ⟨0, 0, [], rfl, Nat.zero_le _, rfl, rfl, spl_start c s, World.ownsRow_nil _ _ _ _, Below.refl _ _⟩
  case round =>
    obtain ⟨i, a, P, hgg, hile, rfl, rfl, HS, O, B1⟩ := hrel
    by_cases hin : i ≤ s.length
    · have ha := spl_from HS.out hin
      have hpl := Lib.hid (spl_len HS.out)
      have b1 : P.length + 1 ≤ maxLen := by have := hpl.out; unfold maxLen; omega
      have b2 : (P.length + 1) * 16 ≤ 140737488355328 := by have := hpl.out; omega
      have gs := B1.out.size
      rw [HG.out] at gs
      have b3 : g ≤ wr.heap.size + 1 := by omega
      have HE := Lib.hid (ext_bytes s a i)
      by_cases hend : i = s.length
      · have HN := Lib.hid (spl_end HS.out hend)
        subst hend
        clear hin hile
        go_wp2_with (at_builtin; go_loud (refine wpList_append_own _ rfl (.tmp 25) (.tmp 30) 41 rfl g 9 i0 (.string ByteArray.empty) 1 16 Tryd.underlying41 HI.out HZ0.out HZ1.out HZ2.out rfl (by decide) u5 P.length _ rfl (O.out.alloc _) ⟨wr.heap.size, 0, none⟩ 1 1 [.string ((⟨s.toArray⟩ : ByteArray).extract a s.length)] rfl rfl (cell_one_new _ _ _) (by simp [Value.oneCell']) b1 b2 (by rw [World.size_alloc]; omega) ?_); intro v' w5 hown' hgrow _)
        have O5 : Hid (w5.ownsRow g 9 1 v' (P ++ [(s.drop a).take (s.length - a)]).length ((P ++ [(s.drop a).take (s.length - a)]).map sv)) := by
          show World.ownsRow _ _ _ _ _ _ _
          rw [List.map_append, List.length_append, List.map_singleton]
          unfold sv at *
          rw [← HE.out]
          exact hown'
        have B5 : Hid (Below g w w5) := (B1.out.alloc gs _).grown hgrow (by rw [World.size_alloc]; omega) (fun r e => (O.out.lt r e).1)
        clear hown' hgrow
        go_roundg (s.length + 1 - (s.length + 1))
        case rel => exact ⟨s.length + 1, s.length + 1, _, rfl, by omega, by go_num, by go_num, HN.out, O5.out, B5.out⟩
        case measure => omega
      · have hlt : i < s.length := by omega
        have e1 : ((i : Int) == (s.length : Int)) = false := by simp; omega
        by_cases hc : s[i] = c
        · have HN := Lib.hid (spl_cut HS.out hlt hc)
          have e2 : ((((⟨s.toArray⟩ : ByteArray)[i]'hlt).toNat : Int) == (c.toNat : Int)) = true := by show (((s[i].toNat : Nat) : Int) == (c.toNat : Int)) = true; rw [hc]; simp
          clear hc
          go_wp2_with (at_builtin; go_loud (refine wpList_append_own _ rfl (.tmp 25) (.tmp 30) 41 rfl g 9 i0 (.string ByteArray.empty) 1 16 Tryd.underlying41 HI.out HZ0.out HZ1.out HZ2.out rfl (by decide) u5 P.length _ rfl (O.out.alloc _) ⟨wr.heap.size, 0, none⟩ 1 1 [.string ((⟨s.toArray⟩ : ByteArray).extract a i)] rfl rfl (cell_one_new _ _ _) (by simp [Value.oneCell']) b1 b2 (by rw [World.size_alloc]; omega) ?_); intro v' w5 hown' hgrow _)
          have O5 : Hid (w5.ownsRow g 9 1 v' (P ++ [(s.drop a).take (i - a)]).length ((P ++ [(s.drop a).take (i - a)]).map sv)) := by
            show World.ownsRow _ _ _ _ _ _ _
            rw [List.map_append, List.length_append, List.map_singleton]
            unfold sv at *
            rw [← HE.out]
            exact hown'
          have B5 : Hid (Below g w w5) := (B1.out.alloc gs _).grown hgrow (by rw [World.size_alloc]; omega) (fun r e => (O.out.lt r e).1)
          clear hown' hgrow
          go_roundg (s.length + 1 - (i + 1))
          case rel => exact ⟨i + 1, i + 1, _, rfl, by omega, by go_num, by go_num, HN.out, O5.out, B5.out⟩
          case measure => omega
        · have HN := Lib.hid (spl_skip HS.out hlt hc)
          have e2 : ((((⟨s.toArray⟩ : ByteArray)[i]'hlt).toNat : Int) == (c.toNat : Int)) = false := by
            show (((s[i].toNat : Nat) : Int) == (c.toNat : Int)) = false
            have : s[i].toNat ≠ c.toNat := fun e => hc (UInt8.toNat_inj.1 e)
            simp; omega
          clear hc
          go_wp2_with fail
          go_roundg (s.length + 1 - (i + 1))
          case rel => exact ⟨i + 1, a, P, rfl, by omega, rfl, by go_num, HN.out, O.out, B1.out⟩
          case measure => omega
    · obtain rfl := HDone.out i a P HS.out hin
      go_wp2_with fail
      go_ret
      exact ⟨_, rfl, O.out, B1.out⟩
end Go.Proofs.YtgjgohnomophnaaDoor
