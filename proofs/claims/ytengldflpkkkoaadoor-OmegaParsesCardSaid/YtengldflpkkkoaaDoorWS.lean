/- The reference's numbers out of texts. -/
import Derived.Test.YtengldflpkkkoaaDoorWR
namespace Go.Proofs.YtengldflpkkkoaaDoor
open Go.RowKit

theorem natV_bad {s : List UInt8} {most : Int} (k : Nat) (hk : k < s.length) (h : ¬ (digB s[k] ∧ s.length ≤ 10)) : natV s most = -1 := by
  unfold natV
  rw [if_neg]
  rintro ⟨h1, h2, _⟩
  exact h ⟨h1 _ (List.getElem_mem hk), h2⟩
theorem natV_end {s : List UInt8} {most : Int} (hd : ∀ c ∈ s, digB c) (hl : s.length ≤ 10) : natV s most = if Lib.itoa (valN s) = s ∧ (valN s : Int) ≤ most then (valN s : Int) else -1 := by
  unfold natV
  by_cases h : Lib.itoa (valN s) = s ∧ (valN s : Int) ≤ most
  · rw [if_pos h, if_pos ⟨hd, hl, h⟩]
  · rw [if_neg h, if_neg fun e => h e.2.2]
theorem take_snoc {s : List UInt8} {k : Nat} (hk : k < s.length) : s.take (k + 1) = s.take k ++ [s[k]] := List.take_succ_eq_append_getElem hk
theorem valN_take {s : List UInt8} {k : Nat} (hk : k < s.length) (hd : digB s[k]) : ((valN (s.take (k + 1)) : Nat) : Int) = 10 * (valN (s.take k) : Nat) + (s[k].toNat : Int) - 48 := by
  unfold digB at hd
  rw [take_snoc hk, valN_snoc]; omega

theorem wrap_step (v c : Nat) (h : v < 10000000000) (h1 : 48 ≤ (c : Int)) (h2 : (c : Int) ≤ 57) : wrap64 (wrap64 (wrap64 (10 * (v : Int)) + (c : Int)) - 48) = 10 * (v : Int) + (c : Int) - 48 := by
  unfold wrap64
  omega

set_option maxHeartbeats 4000000 in
set_option maxRecDepth 100000 in
theorem natural_law (s : List UInt8) (most : Int) (hs : s.length ≤ 100000) (w : World) :
    Calls Tryd.prog 43 #[.string ⟨s.toArray⟩, .int .i64 most] w fun e w' => e = .returned (.int .i64 (natV s most)) ∧ w = w' := by
  obtain ⟨V, hV⟩ : ∃ V, V = natV s most := ⟨_, rfl⟩
  rw [← hV]
  have HV := Lib.hid hV
  clear hV
  go_enter Tryd.func43, Tryd.ntmps43
  go_wp2_with fail
  go_loopg [5, 6] s.length (fun g n q wr => ∃ k : Nat, k ≤ s.length ∧ g = s.length - k ∧ n = .int .i64 (valN (s.take k) : Nat) ∧ q = .int .i64 k ∧ wr = w ∧ Hid (∀ c ∈ s.take k, digB c) ∧ Hid (0 < k → s.length ≤ 10) ∧ Hid (valN (s.take k) < 10 ^ k))
  case atStart => exact ⟨0, Nat.zero_le _, rfl, rfl, rfl, rfl, fun c h => by simp at h, fun h => absurd h (by decide), by show _ < _; simp [valN]⟩
  case round =>
    obtain ⟨k, hk, hg, rfl, rfl, rfl, HD, HL, HB⟩ := hrel
    by_cases hlt : k < s.length
    · by_cases hb : digB s[k] ∧ s.length ≤ 10
      · have HX : Hid (digB s[k] ∧ s.length ≤ 10) := hb
        have h1 : ¬ (((⟨s.toArray⟩ : ByteArray)[k]'hlt).toNat : Int) < 48 := by have := hb.1.1; show ¬ ((s[k].toNat : Int) < 48); omega
        have h2 : ¬ (57 : Int) < (((⟨s.toArray⟩ : ByteArray)[k]'hlt).toNat : Int) := by have := hb.1.2; show ¬ ((57 : Int) < (s[k].toNat : Int)); omega
        have h3 : ¬ (10 : Int) < (s.length : Int) := by omega
        clear hb
        have HVal := Lib.hid (valN_take hlt HX.out.1)
        have HW : Hid (((((⟨s.toArray⟩ : ByteArray)[k]'hlt).toNat : Nat) : Int) = (s[k].toNat : Int)) := rfl
        have H57 : Hid ((s[k].toNat : Int) ≤ 57 ∧ 48 ≤ (s[k].toNat : Int)) := ⟨by have := HX.out.1.2; omega, by have := HX.out.1.1; omega⟩
        have HB2 : Hid (valN (s.take k) < 10000000000) := by
          have h4 := HB.out
          have h5 : (10 : Nat) ^ k ≤ 10 ^ 10 := Nat.pow_le_pow_right (by decide) (by have := HX.out.2; omega)
          have h6 : (10 : Nat) ^ 10 = 10000000000 := by decide +kernel
          show _ < _
          omega
        have HN : Hid (∀ c ∈ s.take (k + 1), digB c) := by
          intro c hc
          rw [take_snoc hlt] at hc
          rcases List.mem_append.1 hc with hc | hc
          · exact HD.out c hc
          · obtain rfl := List.mem_singleton.1 hc
            exact HX.out.1
        have HP : Hid (valN (s.take (k + 1)) < 10 ^ (k + 1)) := by
          have h4 := HB.out
          have h5 := HVal.out
          have h6 := H57.out
          show _ < _
          rw [Nat.pow_succ]
          omega
        go_wp2_with fail
        go_roundg (s.length - (k + 1))
        case rel =>
          refine ⟨k + 1, by omega, rfl, ?_, by go_num, rfl, HN.out, fun _ => HX.out.2, HP.out⟩
          have h4 := HVal.out
          have h5 := H57.out
          have h6 := HB2.out
          rw [h4]
          exact congrArg (Value.int .i64) (wrap_step (valN (List.take k s)) s[k].toNat h6 h5.2 h5.1)
        case measure => omega
      · have hv : V = -1 := by rw [HV.out]; exact natV_bad k hlt hb
        have HX : Hid (¬ (digB s[k] ∧ s.length ≤ 10)) := hb
        clear hb
        subst hv
        go_wp2_with fail
        all_goals first
          | (go_ret; exact ⟨rfl, rfl⟩)
          | (exfalso
             rename_i hx
             obtain ⟨⟨x1, x2⟩, x3⟩ := hx
             refine HX.out ⟨⟨?_, ?_⟩, by omega⟩
             · have : (48 : Int) ≤ (s[k].toNat : Int) := x1
               omega
             · have : (s[k].toNat : Int) ≤ 57 := x2
               omega)
    · obtain rfl : k = s.length := by omega
      have HD' : Hid (∀ c ∈ s, digB c) := by
        have h := HD.out
        rw [List.take_length] at h
        exact h
      have HB' : Hid (valN s < 10 ^ s.length) := by
        have h := HB.out
        rw [List.take_length] at h
        exact h
      rw [List.take_length]
      clear HD HB
      have HE : Hid (s.length ≤ 10 → V = if Lib.itoa (valN s) = s ∧ (valN s : Int) ≤ most then (valN s : Int) else -1) := fun h => HV.out.trans (natV_end HD'.out h)
      have HL2 : Hid (s.length ≤ 10) := by
        rcases Nat.eq_zero_or_pos s.length with h | h
        · show _ ≤ _; omega
        · exact HL.out h
      have HB2 : Hid (valN s < 10000000000) := by
        have h4 := HB'.out
        have h5 : (10 : Nat) ^ s.length ≤ 10 ^ 10 := Nat.pow_le_pow_right (by decide) HL2.out
        have h6 : (10 : Nat) ^ 10 = 10000000000 := by decide +kernel
        show _ < _
        omega
      have C := Lib.hid (number_law (valN s : Nat) (by have := HB2.out; omega) wr)
      have HE2 := Lib.hid (HE.out HL2.out)
      clear HE HV HL HB' HD'
      by_cases c1 : Lib.itoa (valN s) = s
      · rw [c1] at C
        by_cases c2 : (valN s : Int) ≤ most
        · obtain rfl : V = (valN s : Int) := by rw [HE2.out]; exact if_pos ⟨c1, c2⟩
          clear HE2 c1
          have c3 : ¬ most < (valN s : Int) := by omega
          go_wp2_with fail
          refine C.out.mono ?_
          rintro e w2 ⟨rfl, rfl⟩
          go_wp2_with fail
          go_ret
          exact ⟨rfl, rfl⟩
        · obtain rfl : V = -1 := by rw [HE2.out]; exact if_neg fun e => c2 e.2
          clear HE2 c1
          generalize valN s = n at *
          have c3 : most < (n : Int) := by omega
          clear c2
          go_wp2_with fail
          refine C.out.mono ?_
          rintro e w2 ⟨rfl, rfl⟩
          go_wp2_with fail
          go_ret
          exact ⟨rfl, rfl⟩
      · obtain rfl : V = -1 := by rw [HE2.out]; exact if_neg fun e => c1 e.1
        clear HE2
        have c3 : (Lib.itoa (valN s) == s) = false := by simpa using c1
        clear c1
        generalize Lib.itoa (valN s) = X at *
        generalize valN s = n at *
        go_wp2_with fail
        refine C.out.mono ?_
        rintro e w2 ⟨rfl, rfl⟩
        go_wp2_with fail
        go_ret
        exact ⟨rfl, rfl⟩
end Go.Proofs.YtengldflpkkkoaaDoor
