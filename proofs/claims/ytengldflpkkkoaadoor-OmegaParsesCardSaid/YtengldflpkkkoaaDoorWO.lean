/- The reference's numerals. -/
import Derived.Test.YtengldflpkkkoaaDoorWN
import Derived.Deep.LoopGhost
namespace Go.Proofs.YtengldflpkkkoaaDoor
open Go.RowKit

theorem digit_cat : ∀ (d : Nat) (S : List UInt8), d < 10 → (⟨#[48, 49, 50, 51, 52, 53, 54, 55, 56, 57]⟩ : ByteArray).extract d (d + 1) ++ ⟨S.toArray⟩ = ⟨(UInt8.ofNat (48 + d) :: S).toArray⟩ := by
  intro d S h
  have e : (⟨#[48, 49, 50, 51, 52, 53, 54, 55, 56, 57]⟩ : ByteArray).extract d (d + 1) = ⟨[UInt8.ofNat (48 + d)].toArray⟩ := by
    have : ∀ d : Fin 10, (⟨#[48, 49, 50, 51, 52, 53, 54, 55, 56, 57]⟩ : ByteArray).extract d (d + 1) = ⟨[UInt8.ofNat (48 + d)].toArray⟩ := by decide +kernel
    exact this ⟨d, h⟩
  rw [e]
  apply ByteArray.ext
  simp
def numI (T : List UInt8) (k : Nat) (S : List UInt8) : Prop := T = (if k = 0 ∧ S ≠ [] then [] else Lib.decDigits k) ++ S
theorem numI_len {T : List UInt8} {k : Nat} {S : List UInt8} (h : numI T k S) : S.length ≤ T.length := by
  unfold numI at h
  rw [h, List.length_append]; omega
theorem dec_len19 {u : Nat} (h : u ≤ 9223372036854775808) : (Lib.decDigits u).length ≤ 30 := by
  have h7 : (10 : Nat) ^ (18 + 1) = 10000000000000000000 := by decide +kernel
  have := dec_len 18 u (by omega)
  omega
theorem numI_step {T : List UInt8} {k : Nat} {S : List UInt8} (h : numI T k S) (hk : ¬ (k = 0 ∧ S ≠ [])) : numI T (k / 10) (UInt8.ofNat (48 + k % 10) :: S) := by
  unfold numI at h ⊢
  rw [if_neg hk] at h
  rw [h]
  by_cases h' : k < 10
  · rw [if_pos ⟨by omega, by simp⟩, dec_small h', Nat.mod_eq_of_lt h']; rfl
  · rw [if_neg (by omega), dec_big h']; simp

set_option maxHeartbeats 4000000 in
set_option maxRecDepth 100000 in
theorem number_pos (u : Nat) (h : u ≤ 9223372036854775807) (w : World) :
    Calls Tryd.prog 28 #[.int .i64 u] w fun e w' => e = .returned (.string ⟨(Lib.decDigits u).toArray⟩) ∧ w = w' := by
  obtain ⟨T, hT⟩ : ∃ T, T = Lib.decDigits u := ⟨_, rfl⟩
  rw [← hT]
  have HL : Hid (T.length ≤ 30) := by show _ ≤ _; rw [hT]; exact dec_len19 (by omega)
  have H0 : Hid (numI T u []) := by show T = _; rw [hT]; simp
  clear hT
  have p1 : ¬ (u : Int) < 0 := by omega
  go_enter Tryd.func28, Tryd.ntmps28
  go_wp2_with fail
  go_loopg [3, 4, 5] (2 * u + 1) (fun g s m d wr => ∃ (k : Nat) (S : List UInt8), s = .string ⟨S.toArray⟩ ∧ m = .int .i64 k ∧ wr = w ∧ k ≤ u ∧ Hid (g = 2 * k + (if S = [] then 1 else 0)) ∧ Hid (numI T k S))
  case atStart => exact ⟨u, [], rfl, rfl, rfl, Nat.le_refl _, by show _ = _; simp, H0.out⟩
  case round =>
    obtain ⟨k, S, rfl, rfl, rfl, hk, HG, HS⟩ := hrel
    by_cases hc : k = 0 ∧ S ≠ []
    · obtain ⟨rfl, hS⟩ := hc
      have e1 : (S == []) = false := by simpa using hS
      have e2 : T = S := by
        have := HS.out
        unfold numI at this
        rw [if_pos ⟨rfl, hS⟩] at this
        simpa using this
      subst e2
      clear H0 HS
      go_wp2_with fail
      go_ret
      exact ⟨rfl, rfl⟩
    · have HL3 : Hid (S.length ≤ 30) := Nat.le_trans (numI_len HS.out) HL.out
      have HX := Lib.hid (numI_step HS.out hc)
      have HC := Lib.hid (digit_cat (k % 10) S (by omega))
      have hm : 0 ≤ (k : Int) % 10 := by omega
      have HGn : Hid (2 * (k / 10) + 0 < gk) := by
        have := HG.out
        show _ < _
        rw [this]
        by_cases hk0 : k = 0
        · subst hk0
          have : S = [] := Classical.byContradiction fun e => hc ⟨rfl, e⟩
          simp [this]
        · omega
      clear H0 HS HG
      by_cases hk0 : k = 0
      · subst hk0
        obtain rfl : S = [] := Classical.byContradiction fun e => hc ⟨rfl, e⟩
        clear hc
        go_wp2_with fail
        go_roundg 0
        case rel => exact ⟨0, _, by rw [← HC.out], rfl, rfl, Nat.zero_le _, by show _ = _; simp, HX.out⟩
        case measure => have := HGn.out; omega
      · have e1 : ((k : Int) != 0) = true := by simpa using hk0
        clear hc
        go_wp2_with fail
        · exfalso
          have := HL3.out
          omega
        go_roundg (2 * (k / 10) + 0)
        case rel => exact ⟨k / 10, _, by rw [← HC.out], by go_num, rfl, by omega, by show _ = _; simp, HX.out⟩
        case measure => exact HGn.out
set_option maxHeartbeats 4000000 in
set_option maxRecDepth 100000 in
theorem number_neg (u : Nat) (h : u ≤ 9223372036854775808) (h1 : 1 ≤ u) (w : World) :
    Calls Tryd.prog 28 #[.int .i64 (-(u : Int))] w fun e w' => e = .returned (.string ⟨(45 :: Lib.decDigits u).toArray⟩) ∧ w = w' := by
  obtain ⟨T, hT⟩ : ∃ T, T = Lib.decDigits u := ⟨_, rfl⟩
  rw [← hT]
  have HL : Hid (T.length ≤ 30) := by show _ ≤ _; rw [hT]; exact dec_len19 (by omega)
  have H0 : Hid (numI T u []) := by show T = _; rw [hT]; simp
  clear hT
  have p1 : (-(u : Int)) < 0 := by omega
  go_enter Tryd.func28, Tryd.ntmps28
  go_wp2_with fail
  go_loopg [3, 4, 5] (2 * u + 1) (fun g s m d wr => ∃ (k : Nat) (S : List UInt8), s = .string ⟨S.toArray⟩ ∧ m = .int .i64 (-(k : Int)) ∧ wr = w ∧ k ≤ u ∧ (k = 0 → S ≠ []) ∧ Hid (g = 2 * k + (if S = [] then 1 else 0)) ∧ Hid (numI T k S))
  case atStart => exact ⟨u, [], rfl, rfl, rfl, Nat.le_refl _, fun e => by omega, by show _ = _; simp, H0.out⟩
  case round =>
    obtain ⟨k, S, rfl, rfl, rfl, hk, hkS, HG, HS⟩ := hrel
    by_cases hc : k = 0 ∧ S ≠ []
    · obtain ⟨rfl, hS⟩ := hc
      have e1 : (S == []) = false := by simpa using hS
      have e2 : T = S := by
        have := HS.out
        unfold numI at this
        rw [if_pos ⟨rfl, hS⟩] at this
        simpa using this
      subst e2
      clear H0 HS
      go_wp2_with fail
      · exfalso
        have := HL.out
        omega
      go_ret
      have e3 : (⟨#[45]⟩ : ByteArray) ++ ⟨T.toArray⟩ = ⟨(45 :: T).toArray⟩ := by
        apply ByteArray.ext
        simp
      exact ⟨by rw [e3]; rfl, rfl⟩
    · have HL3 : Hid (S.length ≤ 30) := Nat.le_trans (numI_len HS.out) HL.out
      have HX := Lib.hid (numI_step HS.out hc)
      have HC := Lib.hid (digit_cat (k % 10) S (by omega))
      have HGn : Hid (2 * (k / 10) + 0 < gk) := by
        have := HG.out
        show _ < _
        rw [this]
        have hk0 : k ≠ 0 := fun e => hc ⟨e, hkS e⟩
        omega
      clear H0 HS HG
      have hk0 : k ≠ 0 := fun e => hc ⟨e, hkS e⟩
      have e1 : ((-(k : Int)) != 0) = true := by simpa using hk0
      clear hc hkS
      by_cases hr : k % 10 = 0
      · have hr2 : (k : Int) % 10 = 0 := by omega
        rw [hr] at HC HX
        go_wp2_with fail
        · exfalso
          have := HL3.out
          omega
        go_roundg (2 * (k / 10) + 0)
        case rel => exact ⟨k / 10, _, by rw [← HC.out], by go_num, rfl, by omega, fun _ => by simp, by show _ = _; simp, HX.out⟩
        case measure => exact HGn.out
      · have hr2 : 0 < (k : Int) % 10 := by omega
        go_wp2_with fail
        · exfalso
          have := HL3.out
          omega
        go_roundg (2 * (k / 10) + 0)
        case rel => exact ⟨k / 10, _, by rw [← HC.out], by go_num, rfl, by omega, fun _ => by simp, by show _ = _; simp, HX.out⟩
        case measure => exact HGn.out

theorem number_law (x : Int) (h : -9223372036854775808 ≤ x ∧ x ≤ 9223372036854775807) (w : World) :
    Calls Tryd.prog 28 #[.int .i64 x] w fun e w' => e = .returned (.string ⟨(Lib.itoa x).toArray⟩) ∧ w = w' := by
  by_cases hx : x < 0
  · obtain ⟨u, rfl⟩ : ∃ u : Nat, x = -(u : Int) := ⟨x.natAbs, by omega⟩
    rw [Lib.itoa_neg u (by omega)]
    exact number_neg u (by omega) (by omega) w
  · obtain ⟨u, rfl⟩ : ∃ u : Nat, x = (u : Int) := ⟨x.toNat, by omega⟩
    rw [Lib.itoa_nonneg]
    exact number_pos u (by omega) w
end Go.Proofs.YtengldflpkkkoaaDoor
