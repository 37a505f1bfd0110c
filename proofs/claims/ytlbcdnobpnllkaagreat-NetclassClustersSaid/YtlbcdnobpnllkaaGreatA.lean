/- Contracts of the functions on names. -/
import Derived.Test.YtlbcdnobpnllkaaGreatRows
import Derived.Test.YtlbcdnobpnllkaaGreatM
import Derived.WalkKit
import Derived.WalkLawsBesides
import Derived.WalkSpells
import Derived.Lib.Hide
import Derived.Deep.QuietTactic
import Derived.BigQuiet
import Derived.Below
import Derived.Laws.RangeAny
import Derived.Laws.RangeString
namespace Go.Proofs.YtlbcdnobpnllkaaGreat
open Go.RowKit

theorem ret_b {a b : Bool} (h : a = b) : Ending.returned (.bool a) = .returned (.bool b) := by rw [h]

theorem starts_any (c : Int) (w : World) :
    Calls Tryz.prog 124 #[.int .i32 c] w fun e w' => e = .returned (.bool (startI c)) ∧ w = w' := by
  generalize hS : startI c = S
  have HS := Lib.hid hS
  clear hS
  go_enter Tryz.func124, Tryz.ntmps124
  go_wp2
  all_goals
    go_ret
    refine ⟨ret_b ?_, rfl⟩
    rw [← HS.out]
    unfold startI
    rw [Bool.eq_iff_iff]
    simp
    try omega

def digI (c : Int) : Bool := decide (48 ≤ c ∧ c ≤ 57 ∨ c = 46)
theorem continues_any (c : Int) (w : World) :
    Calls Tryz.prog 125 #[.int .i32 c] w fun e w' => e = .returned (.bool (digI c)) ∧ w = w' := by
  generalize hS : digI c = S
  have HS := Lib.hid hS
  clear hS
  go_enter Tryz.func125, Tryz.ntmps125
  go_wp2
  all_goals
    go_ret
    refine ⟨ret_b ?_, rfl⟩
    rw [← HS.out]
    unfold digI
    rw [Bool.eq_iff_iff]
    simp
    try omega

theorem high_start {c : Int} (h : 128 ≤ c) : startI c = false := by
  unfold startI
  rw [decide_eq_false_iff_not]
  omega
theorem high_dig {c : Int} (h : 128 ≤ c) : digI c = false := by
  unfold digI
  rw [decide_eq_false_iff_not]
  omega
theorem cont_of (c : Int) : contI c = (startI c || digI c) := rfl

set_option maxHeartbeats 2000000 in
theorem valid_any (s : ByteArray) (w : World) (hs : s.size ≤ maxLen) :
    Calls Tryz.prog 110 #[.string s] w fun e w' => e = .returned (.bool (nameB (bytesI s))) ∧ Below w.heap.size w w' := by
  unfold maxLen at hs
  generalize hS : nameB (bytesI s) = S
  have HS := Lib.hid hS
  clear hS
  by_cases hl : s.size < 1 ∨ 16 < s.size
  · have E : Hid (false = S) := by show _ = _; rw [← HS.out, nameB_len (by rw [bytesI_len]; exact hl)]
    rcases hl with h1 | h1
    · go_enter Tryz.func110, Tryz.ntmps110
      go_wp2
      go_ret
      exact ⟨ret_b E.out, Below.refl _ _⟩
    · go_enter Tryz.func110, Tryz.ntmps110
      go_wp2_with fail
      go_ret
      exact ⟨ret_b E.out, Below.refl _ _⟩
  · have l1 : 1 ≤ s.size := by omega
    have l2 : s.size ≤ 16 := by omega
    have l0 : 0 < s.size := by omega
    clear hl
    have HB : Hid (∀ k, Below w.heap.size w (w.iter s k)) := fun k => (Below.refl _ _).alloc (Nat.le_refl _) _
    go_enter Tryz.func110, Tryz.ntmps110
    go_wp2
    go_loopw [3] (fun _ wr => ∃ k : Nat, k ≤ s.size ∧ wr = w.iter s k ∧ Hid (((bytesI s).take k).all contI = true) ∧ Hid (0 < k → startI ((bytesI s)[0]?.getD 0) = true)) (fun _ wr => s.size - wr.iterPos w.heap.size)
    case atStart => exact ⟨0, by omega, rfl, by show _ = _; simp, fun h => absurd h (by omega)⟩
    case round =>
      obtain ⟨k, hk, rfl, HA, HF⟩ := hrel
      by_cases hlt : k < s.size
      · have hkl : k < (bytesI s).length := by rw [bytesI_len]; exact hlt
        have HC : Hid ((bytesI s)[k]?.getD 0 = (s[k].toNat : Int)) := bytesI_at s k hlt
        have HN0 : Hid (k = 0 → startI (s[k].toNat : Int) = false → false = S) := fun h0 h => by
          subst h0
          rw [← HS.out, nameB_start (by rw [HC.out]; exact h)]
        have HN1 : Hid (contI (s[k].toNat : Int) = false → false = S) := fun h => by
          rw [← HS.out, nameB_cont k hkl (by rw [HC.out]; exact h)]
        have HA1 : Hid (contI (s[k].toNat : Int) = true → ((bytesI s).take (k + 1)).all contI = true) := fun h => all_snoc k hkl HA.out (by rw [HC.out]; exact h)
        have HF1 : Hid (startI (s[k].toNat : Int) = true → 0 < k + 1 → startI ((bytesI s)[0]?.getD 0) = true) := fun h _ => by
          rcases Nat.eq_zero_or_pos k with h0 | h0
          · subst h0
            rw [HC.out]; exact h
          · exact HF.out h0
        have HF2 : Hid (0 < k → 0 < k + 1 → startI ((bytesI s)[0]?.getD 0) = true) := fun h _ => HF.out h
        by_cases ha : (s[k]'hlt).toNat < 128
        · have hnx : ∀ ty, (Instr.next (.pointer (some ⟨w.heap.size, 0, none⟩)) true ty).run Tryz.prog (w.iter s k) = _ := fun ty => run_next_ascii (P := Tryz.prog) w s k ty hlt ha
          generalize (s[k]'hlt).toNat = c at *
          have C1 := starts_any (c : Int)
          have C2 := continues_any (c : Int)
          have HCC : Hid (contI (c : Int) = (startI (c : Int) || digI (c : Int))) := rfl
          generalize contI (c : Int) = tc at *
          generalize startI (c : Int) = ts at *
          generalize digI (c : Int) = td at *
          cases ts
          · by_cases h0 : k = 0
            · have E := Lib.hid (HN0.out h0 rfl)
              subst h0
              have C1 := Lib.hid C1
              have C2 := Lib.hid C2
              clear HF1 HF2 HA1 HN1 HN0
              go_wp2_with fail
              refine (C1.out _).mono ?_
              rintro e w1 ⟨rfl, rfl⟩
              go_wp2
              go_ret
              exact ⟨ret_b E.out, HB.out _⟩
            · have hk0 : 0 < k := by omega
              have z1 : ((k : Int) == 0) = false := by simp; omega
              cases td
              · have E := Lib.hid (HN1.out HCC.out)
                have C1 := Lib.hid C1
                have C2 := Lib.hid C2
                clear HF1 HF2 HA1 HN1 HN0
                go_wp2_with fail
                refine (C1.out _).mono ?_
                rintro e w1 ⟨rfl, rfl⟩
                go_wp2_with fail
                refine (C2.out _).mono ?_
                rintro e w1 ⟨rfl, rfl⟩
                go_wp2
                go_ret
                exact ⟨ret_b E.out, HB.out _⟩
              · have HA2 := Lib.hid (HA1.out HCC.out)
                have HF3 := Lib.hid (HF2.out hk0)
                have C1 := Lib.hid C1
                have C2 := Lib.hid C2
                clear HF1 HF2 HA1 HN1 HN0
                go_wp2_with fail
                refine (C1.out _).mono ?_
                rintro e w1 ⟨rfl, rfl⟩
                go_wp2_with fail
                refine (C2.out _).mono ?_
                rintro e w1 ⟨rfl, rfl⟩
                go_wp2
                go_roundw
                case rel => exact ⟨k + 1, by omega, rfl, HA2, HF3⟩
                case measure => simp; omega
          · have HA2 := Lib.hid (HA1.out (HCC.out.trans rfl))
            have HF3 := Lib.hid (HF1.out rfl)
            have C1 := Lib.hid C1
            have C2 := Lib.hid C2
            clear HF1 HF2 HA1 HN1 HN0
            go_wp2_with fail
            refine (C1.out _).mono ?_
            rintro e w1 ⟨rfl, rfl⟩
            go_wp2
            go_roundw
            case rel => exact ⟨k + 1, by omega, rfl, HA2, HF3⟩
            case measure => simp; omega
        · have hd := decode_high s k hlt (by omega)
          have hle := decode_le s k
          have hnx : ∀ ty, (Instr.next (.pointer (some ⟨w.heap.size, 0, none⟩)) true ty).run Tryz.prog (w.iter s k) = _ := fun ty => run_next_any (P := Tryz.prog) w s k ty hlt
          generalize (Utf8.decode s k).1 = r at *
          generalize (Utf8.decode s k).2 = d at *
          have E : Hid (false = S) := HN1.out (by rw [cont_of, high_start (by omega), high_dig (by omega)]; rfl)
          have C1 := starts_any (r : Int)
          have C2 := continues_any (r : Int)
          rw [high_start (by omega)] at C1
          rw [high_dig (by omega)] at C2
          have C1 := Lib.hid C1
          have C2 := Lib.hid C2
          clear HF1 HF2 HA1 HN1 HN0
          by_cases h0 : k = 0
          · subst h0
            go_wp2_with fail
            refine (C1.out _).mono ?_
            rintro e w1 ⟨rfl, rfl⟩
            go_wp2
            go_ret
            exact ⟨ret_b E.out, HB.out _⟩
          · have z1 : ((k : Int) == 0) = false := by simp; omega
            go_wp2_with fail
            refine (C1.out _).mono ?_
            rintro e w1 ⟨rfl, rfl⟩
            go_wp2_with fail
            refine (C2.out _).mono ?_
            rintro e w1 ⟨rfl, rfl⟩
            go_wp2
            go_ret
            exact ⟨ret_b E.out, HB.out _⟩
      · have hnx : ∀ ty, (Instr.next (.pointer (some ⟨w.heap.size, 0, none⟩)) true ty).run Tryz.prog (w.iter s k) = _ := fun ty => run_next_end (P := Tryz.prog) w s k ty hlt
        have E : Hid (true = S) := by
          show _ = _
          obtain rfl : k = s.size := by omega
          rw [← HS.out, nameB_yes (by rw [bytesI_len]; omega) (by rw [bytesI_len]; omega) (HF.out l0) (by rw [bytesI_len]; exact HA.out)]
        go_wp2
        go_ret
        exact ⟨ret_b E.out, HB.out _⟩

theorem name_any (s : ByteArray) (w : World) (hs : s.size ≤ maxLen) :
    Calls Tryz.prog 77 #[.string s] w fun e w' => e = .returned (.bool (nameB (bytesI s))) ∧ Below w.heap.size w w' := by
  have C := Lib.hid (valid_any s w hs)
  generalize nameB (bytesI s) = S at *
  go_enter Tryz.func77, Tryz.ntmps77
  go_wp2_with fail
  refine C.out.mono ?_
  rintro e w1 ⟨rfl, K⟩
  have K := Lib.hid K
  go_wp2
  go_ret
  exact ⟨rfl, K.out⟩

end Go.Proofs.YtlbcdnobpnllkaaGreat
