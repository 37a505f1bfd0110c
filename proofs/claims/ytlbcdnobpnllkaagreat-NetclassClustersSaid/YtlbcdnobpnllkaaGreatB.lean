/- The reference's rule for names. -/
import Derived.Test.YtlbcdnobpnllkaaGreatA
namespace Go.Proofs.YtlbcdnobpnllkaaGreat
open Go.RowKit

theorem bad_name (x : Int) (h : ¬ (97 ≤ x ∧ x ≤ 122 ∨ x = 95)) (g : ¬ (48 ≤ x ∧ x ≤ 57 ∨ x = 46)) : contI x = false := by
  simp only [contI, startI, h, g, decide_false, Bool.or_false]
theorem bad_start (x : Int) (h : ¬ (97 ≤ x ∧ x ≤ 122 ∨ x = 95)) : startI x = false := by
  simp only [startI, h, decide_false]
theorem good_start (x : Int) (h : 97 ≤ x ∧ x ≤ 122 ∨ x = 95) : startI x = true := by
  simp only [startI, h, decide_true]
theorem good_name (x : Int) (h : (97 ≤ x ∧ x ≤ 122 ∨ x = 95) ∨ (48 ≤ x ∧ x ≤ 57 ∨ x = 46)) : contI x = true := by
  rcases h with h | h
  · simp only [contI, startI, h, decide_true, Bool.true_or]
  · simp only [contI, h, decide_true, Bool.or_true]

set_option maxHeartbeats 4000000 in
theorem rname_any (s : ByteArray) (w : World) (hs : s.size ≤ maxLen) :
    Calls Tryz.prog 114 #[.string s] w fun e w' => e = .returned (.bool (nameB (bytesI s))) ∧ w = w' := by
  unfold maxLen at hs
  generalize hS : nameB (bytesI s) = S
  have HS := Lib.hid hS
  clear hS
  by_cases hl : s.size < 1 ∨ 16 < s.size
  · have E : Hid (false = S) := by show _ = _; rw [← HS.out, nameB_len (by rw [bytesI_len]; exact hl)]
    rcases hl with h1 | h1
    · go_enter Tryz.func114, Tryz.ntmps114
      go_wp2
      go_ret
      exact ⟨ret_b E.out, rfl⟩
    · go_enter Tryz.func114, Tryz.ntmps114
      go_wp2
      go_ret
      exact ⟨ret_b E.out, rfl⟩
  · have l1 : 1 ≤ s.size := by omega
    have l2 : s.size ≤ 16 := by omega
    have l0 : 0 < s.size := by omega
    clear hl
    go_enter Tryz.func114, Tryz.ntmps114
    go_wp2
    go_loop [3] (fun q => ∃ k : Nat, k ≤ s.size ∧ q = .int .i64 k ∧ Hid (((bytesI s).take k).all contI = true ∧ (1 ≤ k → startI (s[0].toNat : Int) = true))) (fun q => s.size - (intOf q).toNat)
    case atStart => exact ⟨0, by omega, rfl, by show _ ∧ _; simp⟩
    case round =>
      obtain ⟨k, hk, rfl, HA⟩ := hrel
      by_cases hlt : k < s.size
      · have hkl : k < (bytesI s).length := by rw [bytesI_len]; exact hlt
        have HC : Hid ((bytesI s)[k]?.getD 0 = (s[k].toNat : Int)) := bytesI_at s k hlt
        have HF : Hid (¬ (97 ≤ (s[k].toNat : Int) ∧ (s[k].toNat : Int) ≤ 122 ∨ (s[k].toNat : Int) = 95) → (k = 0 ∨ ¬ (48 ≤ (s[k].toNat : Int) ∧ (s[k].toNat : Int) ≤ 57 ∨ (s[k].toNat : Int) = 46)) → false = S) := by
          intro h g
          rcases g with rfl | g
          · rw [← HS.out, nameB_start (by rw [HC.out]; exact bad_start _ h)]
          · rw [← HS.out, nameB_cont k hkl (by rw [HC.out]; exact bad_name _ h g)]
        have HT : Hid ((97 ≤ (s[k].toNat : Int) ∧ (s[k].toNat : Int) ≤ 122 ∨ (s[k].toNat : Int) = 95) ∨ (k ≠ 0 ∧ (48 ≤ (s[k].toNat : Int) ∧ (s[k].toNat : Int) ≤ 57 ∨ (s[k].toNat : Int) = 46)) → ((bytesI s).take (k + 1)).all contI = true ∧ (1 ≤ k + 1 → startI (s[0].toNat : Int) = true)) := by
          intro h
          have h1 : contI (s[k].toNat : Int) = true := by
            rcases h with h | h
            · exact good_name _ (.inl h)
            · exact good_name _ (.inr h.2)
          refine ⟨all_snoc k hkl HA.out.1 (by rw [HC.out]; exact h1), fun _ => ?_⟩
          rcases Nat.eq_zero_or_pos k with z | z
          · subst z
            rcases h with h | h
            · exact good_start _ h
            · exact absurd rfl h.1
          · exact HA.out.2 z
        clear HC HA
        by_cases kz : k = 0
        · subst kz
          go_wp2
          all_goals first
            | (go_ret; exact ⟨ret_b (HF.out (by omega) (by omega)), rfl⟩)
            | (have G := Lib.hid (HT.out (by omega))
               clear HT HF
               go_round
               case rel => exact ⟨0 + 1, by omega, by go_num, G⟩
               case measure => simp [intOf]; omega)
            | (go_ret; exact ⟨ret_b (HF.out (by clear HT HF HS; simp at * <;> omega) (by clear HT HF HS; simp at * <;> omega)), rfl⟩)
            | (go_ret; refine ⟨ret_b (HF.out ?_ ?_), rfl⟩ <;> clear HT HF HS <;> simp only [Bool.not_eq_true', Bool.not_eq_false', beq_iff_eq, beq_eq_false_iff_ne, ne_eq, decide_eq_true_eq, decide_eq_false_iff_not] at * <;> omega)
            | (exfalso; clear HT HF HS; simp at * <;> omega)
            | (have G := Lib.hid (HT.out (by clear HT HF HS; simp only [Bool.not_eq_true', Bool.not_eq_false', beq_iff_eq, beq_eq_false_iff_ne, ne_eq, decide_eq_true_eq, decide_eq_false_iff_not] at *; omega))
               clear HT HF
               go_round
               case rel => exact ⟨0 + 1, by omega, by go_num, G⟩
               case measure => simp [intOf]; omega)
        · go_wp2
          all_goals first
            | (go_ret; exact ⟨ret_b (HF.out (by omega) (by omega)), rfl⟩)
            | (have G := Lib.hid (HT.out (by omega))
               clear HT HF
               go_round
               case rel => exact ⟨k + 1, by omega, by go_num, G⟩
               case measure => simp [intOf]; omega)
            | (go_ret; exact ⟨ret_b (HF.out (by clear HT HF HS; simp at * <;> omega) (by clear HT HF HS; simp at * <;> omega)), rfl⟩)
            | (go_ret; refine ⟨ret_b (HF.out ?_ ?_), rfl⟩ <;> clear HT HF HS <;> simp only [Bool.not_eq_true', Bool.not_eq_false', beq_iff_eq, beq_eq_false_iff_ne, ne_eq, decide_eq_true_eq, decide_eq_false_iff_not] at * <;> omega)
            | (exfalso; clear HT HF HS; simp at * <;> omega)
            | (have G := Lib.hid (HT.out (by clear HT HF HS; simp only [Bool.not_eq_false', beq_iff_eq, beq_eq_false_iff_ne, ne_eq] at *; omega))
               clear HT HF
               go_round
               case rel => exact ⟨k + 1, by omega, by go_num, G⟩
               case measure => simp [intOf]; omega)
      · have E : Hid (true = S) := by
          show _ = _
          obtain rfl : k = s.size := by omega
          rw [← HS.out, nameB_yes (by rw [bytesI_len]; omega) (by rw [bytesI_len]; omega) (by rw [bytesI_at s 0 l0]; exact HA.out.2 l1) (by rw [bytesI_len]; exact HA.out.1)]
        go_wp2
        go_ret
        exact ⟨ret_b E.out, rfl⟩
end Go.Proofs.YtlbcdnobpnllkaaGreat
