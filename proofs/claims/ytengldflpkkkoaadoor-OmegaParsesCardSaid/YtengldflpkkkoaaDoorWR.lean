/- The reference's texts of extended markings. -/
import Derived.Test.YtengldflpkkkoaaDoorWO
namespace Go.Proofs.YtengldflpkkkoaaDoor
open Go.RowKit

theorem cat_bytes (a b : List UInt8) : (⟨a.toArray⟩ : ByteArray) ++ ⟨b.toArray⟩ = ⟨(a ++ b).toArray⟩ := by
  apply ByteArray.ext
  simp
theorem textTo_succ (a : List Int) (k : Nat) (h : k ≠ 0) : textTo a (k + 1) = (textTo a k ++ [44]) ++ eW (at0 a k) := by
  rw [textTo, if_neg h]

set_option maxHeartbeats 4000000 in
set_option maxRecDepth 100000 in
theorem rtext_law (A : Option Addr) (a : List Int) (ca : Nat) (w : World) (ra : ReadsV w A a) (hi : In64 a) (hl : a.length ≤ 4000) :
    Calls Tryd.prog 14 #[.slice A a.length ca] w fun e w' => e = .returned (.string ⟨(textL a).toArray⟩) ∧ w = w' := by
  by_cases h : a = []
  · subst h
    have E : Hid (textL [] = [45]) := rfl
    go_enter Tryd.func14, Tryd.ntmps14
    go_wp2
    go_ret
    exact ⟨rfl, rfl⟩
  · have hp : 0 < a.length := List.length_pos_iff.2 h
    have E : Hid (textL a = textTo a a.length) := if_neg h
    have I := Lib.hid (fun k W => number_law (at0 a k) (hi.at k) W)
    have ZL := Lib.hid (textTo_len a hi)
    have IL := Lib.hid (fun k => Lib.itoa_length_le (at0 a k) (hi.at k).1 (hi.at k).2)
    have RA := Lib.hid ra
    clear ra h
    generalize textL a = T at *
    generalize hn : a.length = n at *
    have HN := Lib.hid hn
    clear hn
    have h1 : ((n : Int) == 0) = false := by simp; omega
    go_enter Tryd.func14, Tryd.ntmps14
    go_wp2_with fail
    go_loopg [3, 4] n (fun g s q wr => ∃ k : Nat, k ≤ n ∧ g = n - k ∧ s = .string ⟨(textTo a k).toArray⟩ ∧ q = .int .i64 k ∧ wr = w)
    case atStart => exact ⟨0, Nat.zero_le _, rfl, rfl, rfl, rfl⟩
    case round =>
      obtain ⟨k, hk, hg, rfl, rfl, rfl⟩ := hrel
      have zl := Lib.hid (ZL.out k)
      have il := Lib.hid (IL.out k)
      by_cases hlt : k < n
      · obtain ⟨ba, oa, e1, lx, hx⟩ := RA.out k (by rw [HN.out]; exact hlt)
        subst e1
        have I0 := Lib.hid (I.out k wr)
        by_cases h0 : k = 0
        · subst h0
          have HT : Hid (textTo a 1 = eW (at0 a 0)) := by show _ = _; simp [textTo]
          have HT0 : Hid (textTo a 0 = []) := rfl
          simp only [Nat.add_zero] at hx
          rw [HT0.out]
          clear I zl
          generalize at0 a 0 = x at *
          have p0 : ¬ (0 : Int) < 0 := by omega
          by_cases hw : x = -1
          · subst hw
            clear I0
            have HC := Lib.hid (cat_bytes [] [119])
            go_wp2_with fail
            go_roundg (n - 1)
            case rel => exact ⟨1, by omega, rfl, by rw [HT.out]; exact congrArg Value.string HC.out, by go_num, rfl⟩
            case measure => omega
          · have hw2 : (x == -1) = false := by simpa using hw
            rw [eW_no hw] at HT
            clear hw
            have HC := Lib.hid (cat_bytes [] (Lib.itoa x))
            go_wp2_with fail
            refine I0.out.mono ?_
            rintro e w2 ⟨rfl, rfl⟩
            go_wp2_with fail
            · exfalso
              have := il.out
              simp at *
              omega
            go_roundg (n - 1)
            case rel => exact ⟨1, by omega, rfl, by rw [HT.out]; exact congrArg Value.string HC.out, by go_num, rfl⟩
            case measure => omega
        · have HT : Hid (textTo a (k + 1) = (textTo a k ++ [44]) ++ eW (at0 a k)) := textTo_succ a k h0
          clear I
          generalize at0 a k = x at *
          generalize textTo a k = X at *
          have p0 : (0 : Int) < k := by omega
          have HC1 := Lib.hid (cat_bytes X [44])
          by_cases hw : x = -1
          · subst hw
            clear I0
            have HC2 := Lib.hid (cat_bytes (X ++ [44]) [119])
            go_wp2_with fail
            · exfalso
              have := zl.out
              simp at *
              omega
            · exfalso
              have := zl.out
              simp at *
              omega
            go_roundg (n - (k + 1))
            case rel => exact ⟨k + 1, by omega, rfl, by rw [HT.out, eW_om, ← HC2.out, ← HC1.out], by go_num, rfl⟩
            case measure => omega
          · have hw2 : (x == -1) = false := by simpa using hw
            rw [eW_no hw] at HT
            clear hw
            have HC2 := Lib.hid (cat_bytes (X ++ [44]) (Lib.itoa x))
            go_wp2_with fail
            · exfalso
              have := zl.out
              simp at *
              omega
            refine I0.out.mono ?_
            rintro e w2 ⟨rfl, rfl⟩
            go_wp2_with fail
            · exfalso
              have := zl.out
              have := il.out
              simp at *
              omega
            go_roundg (n - (k + 1))
            case rel => exact ⟨k + 1, by omega, rfl, by rw [HT.out, ← HC2.out, ← HC1.out], by go_num, rfl⟩
            case measure => omega
      · obtain rfl : k = n := by omega
        rw [← E.out] at *
        go_wp2_with fail
        go_ret
        exact ⟨rfl, rfl⟩
end Go.Proofs.YtengldflpkkkoaaDoor
