/- Event logs: the example. -/
import Derived.Test.YtgjgohnomophnaaDoorEF
namespace Go.Proofs.YtgjgohnomophnaaDoor
open Go.RowKit

theorem ex_parse : parseL [97, 32, 98, 10, 97, 32, 99, 10] = ([[[97], [98]], [[97], [99]]], 0, 0) := by decide +kernel
set_option maxHeartbeats 1000000 in
theorem alive_any (w : World) : Calls Tryd.prog 10 #[] w fun e w' => e = .returned (.bool true) ∧ Below w.heap.size w w' := by
  have CP := Lib.hid (parse_any [97, 32, 98, 10, 97, 32, 99, 10] w (by decide))
  rw [ex_parse] at CP
  have CN1 : Hid (∀ W, Calls Tryd.prog 13 #[.string ⟨#[97, 49]⟩] W fun e w' => e = .returned (.bool true) ∧ Below W.heap.size W w') := fun W => by
    have h := name_any ⟨#[97, 49]⟩ W (by decide +kernel)
    rw [show nameB (bytesI ⟨#[97, 49]⟩) = true by decide +kernel] at h
    exact h
  have CN2 : Hid (∀ W, Calls Tryd.prog 13 #[.string ⟨#[49, 97]⟩] W fun e w' => e = .returned (.bool false) ∧ Below W.heap.size W w') := fun W => by
    have h := name_any ⟨#[49, 97]⟩ W (by decide +kernel)
    rw [show nameB (bytesI ⟨#[49, 97]⟩) = false by decide +kernel] at h
    exact h
  go_enter Tryd.func10, Tryd.ntmps10
  go_wp2_with fail
  refine CP.out.mono ?_
  rintro e w1 ⟨A, c, L, rfl, hL, R, K⟩
  have hl : L.length = 2 := by rw [← rowsL_len, hL]; rfl
  have K := Lib.hid K
  have CR1 : Hid (∀ W, Below w1.heap.size w1 W → Calls Tryd.prog 32 #[.slice A 2 c, .string ⟨#[97]⟩, .string ⟨#[98]⟩] W fun e w' => e = .returned (.int .i64 1) ∧ W = w') := fun W h => by
    have h := relation_any A L c [97] [98] W (R.below h (Nat.le_refl _)) (by omega)
    rw [hL, hl, show relV (folV [[[97], [98]], [[97], [99]]] [97] [98]) (folV [[[97], [98]], [[97], [99]]] [98] [97]) = 1 by decide +kernel] at h
    exact h
  have CR2 : Hid (∀ W, Below w1.heap.size w1 W → Calls Tryd.prog 32 #[.slice A 2 c, .string ⟨#[98]⟩, .string ⟨#[99]⟩] W fun e w' => e = .returned (.int .i64 0) ∧ W = w') := fun W h => by
    have h := relation_any A L c [98] [99] W (R.below h (Nat.le_refl _)) (by omega)
    rw [hL, hl, show relV (folV [[[97], [98]], [[97], [99]]] [98] [99]) (folV [[[97], [98]], [[97], [99]]] [99] [98]) = 0 by decide +kernel] at h
    exact h
  rw [hl]
  clear CP R hL hl
  unfold flt
  have kA : Below w1.heap.size w1 (w1.alloc (.cells #[.int .i64 0, .int .i64 0] 27)) := (Below.refl _ _).alloc (Nat.le_refl _) _
  go_wp2_with fail
  refine (CR1.out _ kA).mono ?_
  rintro e w2 ⟨rfl, rfl⟩
  go_wp2_with fail
  refine (CR2.out _ kA).mono ?_
  rintro e w2 ⟨rfl, rfl⟩
  go_wp2_with fail
  refine (CN1.out _).mono ?_
  rintro e w3 ⟨rfl, k3⟩
  have B3 := Lib.hid (kA.trans (k3.mono kA.size))
  clear k3
  go_wp2_with fail
  refine (CN2.out _).mono ?_
  rintro e w4 ⟨rfl, k4⟩
  have B4 := Lib.hid (B3.out.trans (k4.mono B3.out.size))
  clear k4
  go_wp2
  go_ret
  exact ⟨rfl, K.out.trans (B4.out.mono K.out.size)⟩
end Go.Proofs.YtgjgohnomophnaaDoor
