/- Contracts of the functions on names. -/
import Derived.Test.YthhdffbkjdpieaaDoorRows
import Derived.Test.YthhdffbkjdpieaaDoorM
import Derived.WalkKit
import Derived.WalkLawsBesides
import Derived.WalkSpells
import Derived.Lib.Hide
import Derived.Deep.QuietTactic
import Derived.BigQuiet
namespace Go.Proofs.YthhdffbkjdpieaaDoor
open Go.RowKit

theorem ret_b {a b : Bool} (h : a = b) : Ending.returned (.bool a) = .returned (.bool b) := by rw [h]

theorem starts_any (c : Int) (w : World) :
    Calls Tryd.prog 48 #[.int .u8 c] w fun e w' => e = .returned (.bool (startI c)) ∧ w = w' := by
  generalize hS : startI c = S
  have HS := Lib.hid hS
  clear hS
  go_enter Tryd.func48, Tryd.ntmps48
  go_wp2
  all_goals
    go_ret
    refine ⟨ret_b ?_, rfl⟩
    rw [← HS.out]
    unfold startI
    rw [Bool.eq_iff_iff]
    simp
    try omega

theorem continues_any (c : Int) (w : World) :
    Calls Tryd.prog 49 #[.int .u8 c] w fun e w' => e = .returned (.bool (contI c)) ∧ w = w' := by
  have C := Lib.hid (starts_any c)
  generalize hS : contI c = S
  have HS := Lib.hid hS
  clear hS
  have HE : Hid (contI c = (startI c || decide (48 ≤ c ∧ c ≤ 57 ∨ c = 46))) := rfl
  generalize startI c = T at *
  cases T
  all_goals
    go_enter Tryd.func49, Tryd.ntmps49
    go_wp2_with fail
    refine (C.out _).mono ?_
    rintro e w1 ⟨rfl, rfl⟩
    go_wp2
  all_goals
    go_ret
    refine ⟨ret_b ?_, rfl⟩
    rw [← HS.out, HE.out]
    rw [Bool.eq_iff_iff]
    simp
    try omega

theorem valid_any (s : ByteArray) (w : World) (hs : s.size ≤ maxLen) :
    Calls Tryd.prog 33 #[.string s] w fun e w' => e = .returned (.bool (nameB (bytesI s))) ∧ w = w' := by
  unfold maxLen at hs
  generalize hS : nameB (bytesI s) = S
  have HS := Lib.hid hS
  clear hS
  by_cases hl : s.size < 1 ∨ 16 < s.size
  · have E : Hid (false = S) := by show _ = _; rw [← HS.out, nameB_len (by rw [bytesI_len]; exact hl)]
    rcases hl with h1 | h1
    · go_enter Tryd.func33, Tryd.ntmps33
      go_wp2
      go_ret
      exact ⟨ret_b E.out, rfl⟩
    · go_enter Tryd.func33, Tryd.ntmps33
      go_wp2_with fail
      go_ret
      exact ⟨ret_b E.out, rfl⟩
  · have l1 : 1 ≤ s.size := by omega
    have l2 : s.size ≤ 16 := by omega
    have l0 : 0 < s.size := by omega
    clear hl
    have C := starts_any (s[0].toNat : Int)
    cases hst : startI (s[0].toNat : Int)
    · have E : Hid (false = S) := by show _ = _; rw [← HS.out, nameB_start (by rw [bytesI_at s 0 l0]; exact hst)]
      rw [hst] at C
      have C := Lib.hid C
      clear hst
      go_enter Tryd.func33, Tryd.ntmps33
      go_wp2_with fail
      refine (C.out _).mono ?_
      rintro e w1 ⟨rfl, rfl⟩
      go_wp2
      go_ret
      exact ⟨ret_b E.out, rfl⟩
    · rw [hst] at C
      have C := Lib.hid C
      have HST := Lib.hid hst
      clear hst
      go_enter Tryd.func33, Tryd.ntmps33
      go_wp2_with fail
      refine (C.out _).mono ?_
      rintro e w1 ⟨rfl, rfl⟩
      go_wp2
      go_loop [20] (fun q => ∃ k : Nat, k ≤ s.size ∧ q = .int .i64 k ∧ Hid (((bytesI s).take k).all contI = true)) (fun q => s.size - (intOf q).toNat)
      case atStart => exact ⟨0, by omega, rfl, by show _ = _; simp⟩
      case round =>
        obtain ⟨k, hk, rfl, HA⟩ := hrel
        by_cases hlt : k < s.size
        · have hkl : k < (bytesI s).length := by rw [bytesI_len]; exact hlt
          have C2 := continues_any (s[k].toNat : Int)
          have HC : Hid (contI ((bytesI s)[k]?.getD 0) = contI (s[k].toNat : Int)) := by show _ = _; rw [bytesI_at s k hlt]
          cases hc : contI (s[k].toNat : Int)
          · have E : Hid (false = S) := by show _ = _; rw [← HS.out, nameB_cont k hkl (by rw [HC.out]; exact hc)]
            rw [hc] at C2
            have C2 := Lib.hid C2
            clear hc
            go_wp2_with fail
            refine (C2.out _).mono ?_
            rintro e w1 ⟨rfl, rfl⟩
            go_wp2
            go_ret
            exact ⟨ret_b E.out, rfl⟩
          · have HN : Hid (((bytesI s).take (k + 1)).all contI = true) := all_snoc k hkl HA.out (by rw [HC.out]; exact hc)
            rw [hc] at C2
            have C2 := Lib.hid C2
            clear hc
            go_wp2_with fail
            refine (C2.out _).mono ?_
            rintro e w1 ⟨rfl, rfl⟩
            go_wp2
            go_round
            case rel => exact ⟨k + 1, by omega, by go_num, HN⟩
            case measure => simp [intOf]; omega
        · have E : Hid (true = S) := by
            show _ = _
            obtain rfl : k = s.size := by omega
            rw [← HS.out, nameB_yes (by rw [bytesI_len]; omega) (by rw [bytesI_len]; omega) (by rw [bytesI_at s 0 l0]; exact HST.out) (by rw [bytesI_len]; exact HA.out)]
          go_wp2
          go_ret
          exact ⟨ret_b E.out, rfl⟩

theorem name_any (s : ByteArray) (w : World) (hs : s.size ≤ maxLen) :
    Calls Tryd.prog 10 #[.string s] w fun e w' => e = .returned (.bool (nameB (bytesI s))) ∧ w = w' := by
  have C := Lib.hid (valid_any s w hs)
  generalize nameB (bytesI s) = S at *
  go_enter Tryd.func10, Tryd.ntmps10
  go_wp2_with fail
  refine C.out.mono ?_
  rintro e w1 ⟨rfl, rfl⟩
  go_wp2
  go_ret
  exact ⟨rfl, rfl⟩

end Go.Proofs.YthhdffbkjdpieaaDoor
