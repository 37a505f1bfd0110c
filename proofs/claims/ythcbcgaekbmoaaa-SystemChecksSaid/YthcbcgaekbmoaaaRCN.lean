/- Regions: signs, by the reference; names in a list; the order of edges. -/
import Derived.Test.YthcbcgaekbmoaaaRB
namespace Go.Proofs.Ythcbcgaekbmoaaa
open Go.RowKit

set_option maxHeartbeats 2000000 in
set_option maxRecDepth 100000 in
theorem index_any (A : Option Addr) (n c : Nat) (f : Nat → ByteArray) (v : ByteArray) (w : World) (hr : RdS w A n f) (hl : n ≤ 9223372036854775807) :
    Calls Try.prog 39 #[.slice A n c, .string v] w (fun e w' => ∃ r : Int, e = .returned (.int .i64 r) ∧ ((r = -1 ∧ ∀ j, j < n → eqS v (f j) = false) ∨ ∃ k : Nat, r = k ∧ k < n ∧ eqS v (f k) = true ∧ ∀ j, j < k → eqS v (f j) = false) ∧ Below w.heap.size w w') := by
  have HR := Lib.hid hr
  clear hr
  go_enter Try.func39, Try.ntmps39
  go_wp2_with fail
  go_loopw [8] (fun q wr => ∃ (k : Nat), k ≤ n ∧ q = .int .i64 k ∧ Hid (∀ j, j < k → eqS v (f j) = false) ∧ Hid (Below w.heap.size w wr)) (fun q _ => n - (intOf q).toNat)
  case atStart => exact ⟨0, by omega, rfl, fun j hj => absurd hj (by omega), Below.refl _ _⟩
  case round =>
    obtain ⟨k, hk, rfl, HX, BB⟩ := hrel
    by_cases hlt : k < n
    · obtain ⟨b, off, e1, hb, hc⟩ := (HR.out.below BB.out (Nat.le_refl _)) k hlt
      subst e1
      have HF : Hid (eqS v (f k) = false → ∀ j, j < k + 1 → eqS v (f j) = false) := fun h j hj => by
        by_cases e : j = k
        · rw [e]; exact h
        · exact HX.out j (by omega)
      cases he : eqS v (f k)
      · have HF2 := Lib.hid (HF.out he)
        have z : (v.toList == (f k).toList) = false := he
        have z' : ((f k).toList == v.toList) = false := by rw [eqS_comm] at he; exact he
        clear HF HX he
        generalize f k = u at *
        go_wp2_with fail
        (try go_wp2)
        go_roundw
        case rel => exact ⟨k + 1, by omega, by go_num, HF2, by first | exact BB | exact below_drewN BB.out _⟩
        case measure => simp [intOf]; omega
      · have z : (v.toList == (f k).toList) = true := he
        have z' : ((f k).toList == v.toList) = true := by have h := he; rw [eqS_comm] at h; exact h
        have HT : Hid ((((k : Int) = -1) ∧ ∀ j, j < n → eqS v (f j) = false) ∨ ∃ i : Nat, (k : Int) = i ∧ i < n ∧ eqS v (f i) = true ∧ ∀ j, j < i → eqS v (f j) = false) := .inr ⟨k, rfl, hlt, he, HX.out⟩
        clear HF HX he
        generalize hu : f k = u at *
        go_wp2_with fail
        (try go_wp2)
        go_ret
        exact ⟨k, rfl, HT.out, by first | exact BB.out | exact below_drewN BB.out _⟩
    · have HT : Hid (∀ j, j < n → eqS v (f j) = false) := fun j hj => HX.out j (by omega)
      clear HX
      go_wp2
      go_ret
      exact ⟨-1, rfl, .inl ⟨rfl, HT.out⟩, BB.out⟩

set_option maxHeartbeats 2000000 in
set_option maxRecDepth 100000 in
theorem at_any (A : Option Addr) (n c : Nat) (f : Nat → ByteArray) (v : ByteArray) (w : World) (hr : RdS w A n f) (hl : n ≤ 9223372036854775807) :
    Calls Try.prog 25 #[.slice A n c, .string v] w (fun e w' => ∃ r : Int, e = .returned (.int .i64 r) ∧ ((r = -1 ∧ ∀ j, j < n → eqS v (f j) = false) ∨ ∃ k : Nat, r = k ∧ k < n ∧ eqS v (f k) = true ∧ ∀ j, j < k → eqS v (f j) = false) ∧ Below w.heap.size w w') := by
  have HR := Lib.hid hr
  clear hr
  go_enter Try.func25, Try.ntmps25
  go_wp2_with fail
  go_loopw [5] (fun q wr => ∃ (k : Nat), k ≤ n ∧ q = .int .i64 k ∧ Hid (∀ j, j < k → eqS v (f j) = false) ∧ Hid (Below w.heap.size w wr)) (fun q _ => n - (intOf q).toNat)
  case atStart => exact ⟨0, by omega, rfl, fun j hj => absurd hj (by omega), Below.refl _ _⟩
  case round =>
    obtain ⟨k, hk, rfl, HX, BB⟩ := hrel
    by_cases hlt : k < n
    · obtain ⟨b, off, e1, hb, hc⟩ := (HR.out.below BB.out (Nat.le_refl _)) k hlt
      subst e1
      have HF : Hid (eqS v (f k) = false → ∀ j, j < k + 1 → eqS v (f j) = false) := fun h j hj => by
        by_cases e : j = k
        · rw [e]; exact h
        · exact HX.out j (by omega)
      cases he : eqS v (f k)
      · have HF2 := Lib.hid (HF.out he)
        have z : (v.toList == (f k).toList) = false := he
        have z' : ((f k).toList == v.toList) = false := by rw [eqS_comm] at he; exact he
        clear HF HX he
        generalize f k = u at *
        go_wp2_with fail
        (try go_wp2)
        go_roundw
        case rel => exact ⟨k + 1, by omega, by go_num, HF2, by first | exact BB | exact below_drewN BB.out _⟩
        case measure => simp [intOf]; omega
      · have z : (v.toList == (f k).toList) = true := he
        have z' : ((f k).toList == v.toList) = true := by have h := he; rw [eqS_comm] at h; exact h
        have HT : Hid ((((k : Int) = -1) ∧ ∀ j, j < n → eqS v (f j) = false) ∨ ∃ i : Nat, (k : Int) = i ∧ i < n ∧ eqS v (f i) = true ∧ ∀ j, j < i → eqS v (f j) = false) := .inr ⟨k, rfl, hlt, he, HX.out⟩
        clear HF HX he
        generalize hu : f k = u at *
        go_wp2_with fail
        (try go_wp2)
        go_ret
        exact ⟨k, rfl, HT.out, by first | exact BB.out | exact below_drewN BB.out _⟩
    · have HT : Hid (∀ j, j < n → eqS v (f j) = false) := fun j hj => HX.out j (by omega)
      clear HX
      go_wp2
      go_ret
      exact ⟨-1, rfl, .inl ⟨rfl, HT.out⟩, BB.out⟩
end Go.Proofs.Ythcbcgaekbmoaaa
