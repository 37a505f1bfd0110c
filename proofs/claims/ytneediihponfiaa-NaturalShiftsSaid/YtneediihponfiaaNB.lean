/- Bounded natural solutions: whether all elements of a list are from one number to another. -/
import Derived.Test.YtneediihponfiaaNA
namespace Go.Proofs.Ytneediihponfiaa
open Go.RowKit

def badI (lo hi : Int) (ws : List Int) (k : Nat) : Bool := decide (at0 ws k < lo) || decide (hi < at0 ws k)
def withB (l : List Int) (lo hi : Int) : Bool := !anyB (badI lo hi l) l.length
theorem clos_i (x : Int) (w : World) (p q : Nat) (lo hi : Int) (hp : w.cell? ⟨p, 0, none⟩ = some (.int .i64 lo)) (hq : w.cell? ⟨q, 0, none⟩ = some (.int .i64 hi)) :
    Calls Try.prog 31 #[.int .i64 x, .pointer (some ⟨p, 0, none⟩), .pointer (some ⟨q, 0, none⟩)] w fun e w' => e = .returned (.bool (decide (x < lo) || decide (hi < x))) ∧ w = w' := by
  by_cases h1 : x < lo
  · have z1 : decide (x < lo) = true := decide_eq_true h1
    rw [z1]
    clear h1
    go_enter Try.func31, Try.ntmps31
    go_wp2
    go_ret
    exact ⟨rfl, rfl⟩
  · have z1 : decide (x < lo) = false := decide_eq_false h1
    by_cases h2 : hi < x
    · have z2 : decide (hi < x) = true := decide_eq_true h2
      rw [z1, z2]
      clear h1 h2
      go_enter Try.func31, Try.ntmps31
      go_wp2
      go_ret
      exact ⟨rfl, rfl⟩
    · have z2 : decide (hi < x) = false := decide_eq_false h2
      rw [z1, z2]
      clear h1 h2
      go_enter Try.func31, Try.ntmps31
      go_wp2
      go_ret
      exact ⟨rfl, rfl⟩
set_option maxHeartbeats 1000000 in
theorem w_index (A : Option Addr) (ws : List Int) (c : Nat) (w : World) (hr : ReadsV w A ws) (hl : ws.length ≤ 9223372036854775806) (p q : Nat) (lo hi : Int) (hp : w.cell? ⟨p, 0, none⟩ = some (.int .i64 lo)) (hq : w.cell? ⟨q, 0, none⟩ = some (.int .i64 hi)) :
    Calls Try.prog 35 #[.slice A ws.length c, .func (.func 31) #[] #[.pointer (some ⟨p, 0, none⟩), .pointer (some ⟨q, 0, none⟩)]] w fun e w' => e = .returned (.int .i64 (firstI (badI lo hi ws) ws.length 0)) ∧ w = w' := by
  have hD : ∀ k, k < ws.length → (∀ j, j < k → badI lo hi ws j = false) → badI lo hi ws k = true → (k : Int) = firstI (badI lo hi ws) ws.length 0 := fun k h1 h2 h3 => (firstI_at h1 h2 h3).symm
  have hN : (∀ j, j < ws.length → badI lo hi ws j = false) → -1 = firstI (badI lo hi ws) ws.length 0 := fun h => (firstI_none h).symm
  generalize firstI (badI lo hi ws) ws.length 0 = S at *
  have HD := Lib.hid hD
  have HNo := Lib.hid hN
  have HR := Lib.hid hr
  have HC : Hid (∀ k, Calls Try.prog 31 #[.int .i64 (at0 ws k), .pointer (some ⟨p, 0, none⟩), .pointer (some ⟨q, 0, none⟩)] w fun e w' => e = .returned (.bool (badI lo hi ws k)) ∧ w = w') := fun k => clos_i (at0 ws k) w p q lo hi hp hq
  clear hr hD hN hp hq
  generalize hn : ws.length = n at *
  have HN := Lib.hid hn
  clear hn
  go_enter Try.func35, Try.ntmps35
  go_wp2
  go_loop [8] (fun q => ∃ k : Nat, k ≤ n ∧ q = .int .i64 k ∧ Hid (∀ j, j < k → badI lo hi ws j = false)) (fun q => n - (intOf q).toNat)
  case atStart => exact ⟨0, by omega, rfl, fun j hj => absurd hj (by omega)⟩
  case round =>
    obtain ⟨k, hk, rfl, HM⟩ := hrel
    by_cases hlt : k < n
    · obtain ⟨b0, off, rfl, hc0⟩ := at_of_reads HR.out k (by rw [HN.out]; exact hlt)
      have HT := Lib.hid (HD.out k hlt HM.out)
      have HF : Hid (badI lo hi ws k = false → ∀ j, j < k + 1 → badI lo hi ws j = false) := upto_snoc HM.out
      have C := HC.out k
      clear HM
      generalize badI lo hi ws k = t at *
      generalize at0 ws k = x at *
      replace C := Lib.hid C
      cases t
      · have HF2 := Lib.hid (HF.out rfl)
        go_wp2_with fail
        refine C.out.mono ?_
        rintro e w2 ⟨rfl, rfl⟩
        go_wp2
        go_round
        case rel => exact ⟨k + 1, by omega, by go_num, HF2⟩
        case measure => simp [intOf]; omega
      · have HT2 := Lib.hid (HT.out rfl)
        go_wp2_with fail
        refine C.out.mono ?_
        rintro e w2 ⟨rfl, rfl⟩
        go_wp2
        go_ret
        exact ⟨ret_i HT2.out, rfl⟩
    · have E := Lib.hid (HNo.out (fun j hj => HM.out j (by omega)))
      clear HM
      go_wp2
      go_ret
      exact ⟨ret_i E.out, rfl⟩
theorem w_contains (A : Option Addr) (ws : List Int) (c : Nat) (w : World) (hr : ReadsV w A ws) (hl : ws.length ≤ 9223372036854775806) (p q : Nat) (lo hi : Int) (hp : w.cell? ⟨p, 0, none⟩ = some (.int .i64 lo)) (hq : w.cell? ⟨q, 0, none⟩ = some (.int .i64 hi)) :
    Calls Try.prog 30 #[.slice A ws.length c, .func (.func 31) #[] #[.pointer (some ⟨p, 0, none⟩), .pointer (some ⟨q, 0, none⟩)]] w fun e w' => e = .returned (.bool (anyB (badI lo hi ws) ws.length)) ∧ w = w' := by
  have C := w_index A ws c w hr hl p q lo hi hp hq
  unfold anyB
  generalize firstI (badI lo hi ws) ws.length 0 = S at *
  generalize ws.length = n at *
  clear hr hp hq
  replace C := Lib.hid C
  go_enter Try.func30, Try.ntmps30
  go_wp2_with fail
  refine C.out.mono ?_
  rintro e w2 ⟨rfl, rfl⟩
  by_cases q : 0 ≤ S
  · have q2 : decide (0 ≤ S) = true := by simpa using q
    have q3 := Lib.hid q2
    go_wp2
    go_ret
    exact ⟨ret_b q3.out.symm, rfl⟩
  · have q2 : decide (0 ≤ S) = false := by simpa using q
    have q3 := Lib.hid q2
    go_wp2
    go_ret
    exact ⟨ret_b q3.out.symm, rfl⟩

theorem within_any (A : Option Addr) (ws : List Int) (c : Nat) (lo hi : Int) (w : World) (hr : ReadsV w A ws) (hl : ws.length ≤ 9223372036854775806) :
    Calls Try.prog 24 #[.slice A ws.length c, .int .i64 lo, .int .i64 hi] w (VPost w.heap.size w (.bool (withB ws lo hi))) := by
  have B1 : Below w.heap.size w (w.alloc (.cells #[.int .i64 lo] 2)) := (Below.refl _ _).alloc (Nat.le_refl _) _
  have B2 : Below w.heap.size w ((w.alloc (.cells #[.int .i64 lo] 2)).alloc (.cells #[.int .i64 hi] 2)) := B1.alloc (by simp) _
  have C := w_contains A ws c _ (hr.below B2 (Nat.le_refl _)) hl w.heap.size (w.heap.size + 1) lo hi (by simp [go_sem]) (by simp [go_sem])
  have e : withB ws lo hi = !anyB (badI lo hi ws) ws.length := rfl
  have HB := Lib.hid B2
  rw [e]
  generalize anyB (badI lo hi ws) ws.length = b at *
  generalize ws.length = n at *
  clear hr B1 B2 e
  replace C := Lib.hid C
  go_enter Try.func24, Try.ntmps24
  go_wp2_with fail
  refine C.out.mono ?_
  rintro e w2 ⟨rfl, rfl⟩
  cases b
  · go_wp2
    go_ret
    exact ⟨rfl, HB.out⟩
  · go_wp2
    go_ret
    exact ⟨rfl, HB.out⟩
end Go.Proofs.Ytneediihponfiaa
