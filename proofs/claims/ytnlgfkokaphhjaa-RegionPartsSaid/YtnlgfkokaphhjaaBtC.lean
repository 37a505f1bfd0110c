/- Contracts of the reference's Subset, All, Ints, Next. -/
import Derived.Test.YtnlgfkokaphhjaaBtB
namespace Go.Proofs.Ytnlgfkokaphhjaa.Bt
open Go.RowKit

theorem all_of {L : List Nat} {p : Nat → Bool} (h : ∀ j, j < L.length → ∀ x, L[j]? = some x → p x = true) : L.all p = true := by
  rw [List.all_eq_true]
  intro x hx
  obtain ⟨j, hj, hjx⟩ := List.getElem_of_mem hx
  exact h j hj x (List.getElem?_eq_some_iff.2 ⟨hj, hjx⟩)
theorem all_not {L : List Nat} {p : Nat → Bool} {j x : Nat} (h : L[j]? = some x) (hx : p x = false) : L.all p = false := by
  rw [List.all_eq_false]
  exact ⟨x, List.mem_of_getElem? h, by rw [hx]; decide⟩
set_option maxHeartbeats 1000000 in
theorem rsubset_any (a b : Nat) (w : World) (ha : a < 18446744073709551616) (hb : b < 18446744073709551616) :
    Calls Try.prog 44 #[.int .u64 a, .int .u64 b] w (BoolPost w.heap.size w (subV a b)) := by
  have C := Lib.hid (rlist_any a w ha)
  have E := Lib.hid (sub_all ha hb)
  generalize subV a b = v at *
  have HB : Hid (∀ x ∈ lst a, x ≤ 63) := fun x hx => by have := (mem_lst a x).1 hx; omega
  have hc : (lst a).length ≤ 64 := card_le a
  generalize lst a = L at *
  have HL : Hid ((vN L).length = L.length) := vN_len L
  go_enter Try.func44, Try.ntmps44
  go_wp2_with fail
  refine C.out.mono ?_
  rintro e w1 ⟨A1, c1, rfl, R1, B1⟩
  rw [HL.out]
  clear C
  have R1 := Lib.hid R1
  generalize hn : L.length = n at *
  have HN := Lib.hid hn
  clear hn
  go_wp2_with fail
  go_loop [6] (fun q => ∃ k : Nat, k ≤ n ∧ q = .int .i64 k ∧ Hid (∀ j, j < k → ∀ x, L[j]? = some x → b.testBit x = true)) (fun q => n - (intOf q).toNat)
  case atStart => exact ⟨0, by omega, rfl, fun j hj => absurd hj (by omega)⟩
  case round =>
    obtain ⟨k, hk, rfl, HI⟩ := hrel
    by_cases hlt : k < n
    · obtain ⟨x, hx⟩ := get_of_lt (L := L) (k := k) (by rw [HN.out]; exact hlt)
      obtain ⟨ba, off, rfl, hcell⟩ := R1.out.at_ (vN_at hx)
      have hx63 := HB.out x (List.mem_of_getElem? hx)
      have D := rhas_any b (x : Int) w1 hb
      rw [hasV_nat b x hx63] at D
      cases hv : b.testBit x
      · rw [hv] at D
        have D := Lib.hid D
        have E2 := Lib.hid (all_not hx hv)
        clear hx hv
        go_wp2_with fail
        refine D.out.mono ?_
        rintro e w' ⟨rfl, rfl⟩
        go_wp2
        go_ret
        exact ⟨ret_b (by rw [← E.out, E2.out]), B1⟩
      · rw [hv] at D
        have D := Lib.hid D
        have HI2 : Hid (∀ j, j < k + 1 → ∀ x, L[j]? = some x → b.testBit x = true) := fun j hj y hy => by
          by_cases e : j = k
          · subst e; rw [hx] at hy; cases hy; exact hv
          · exact HI.out j (by omega) y hy
        clear hx hv HI
        go_wp2_with fail
        refine D.out.mono ?_
        rintro e w' ⟨rfl, rfl⟩
        go_wp2
        go_round
        case rel => exact ⟨k + 1, by omega, by go_num, HI2⟩
        case measure => simp [intOf]; omega
    · obtain rfl : k = n := by omega
      have E2 := Lib.hid (all_of (fun j hj => HI.out j (by rw [← HN.out]; exact hj)))
      go_wp2
      go_ret
      exact ⟨ret_b (by rw [← E.out, E2.out]), B1⟩
theorem pow_sum (k : Nat) : 2 ^ k - 1 + 2 ^ k = 2 ^ (k + 1) - 1 := by have := Nat.two_pow_pos k; rw [Nat.pow_succ]; omega
set_option maxHeartbeats 1000000 in
theorem rall_any (n : Int) (w : World) (hn0 : -9223372036854775808 ≤ n) (hn1 : n ≤ 9223372036854775807) :
    Calls Try.prog 26 #[.int .i64 n] w fun e w' => e = .returned (.int .u64 (allV n : Int)) ∧ w = w' := by
  have HV : Hid (allV n = 2 ^ (min n.toNat 64) - 1) := rfl
  generalize allV n = v at *
  have HP : Hid (∀ k, k ≤ 63 → 2 ^ k - 1 + 2 ^ k = 2 ^ (k + 1) - 1 ∧ (2 : Nat) ^ k < 18446744073709551616 ∧ 0 < (2 : Nat) ^ k ∧ (2 : Nat) ^ (k + 1) = 2 ^ k * 2 ∧ (2 : Nat) ^ k ≤ 9223372036854775808) := fun k hk => ⟨pow_sum k, pow_lt64 hk, Nat.two_pow_pos k, Nat.pow_succ .., by have := Nat.pow_le_pow_right (n := 2) (by omega) hk; simpa using this⟩
  go_enter Try.func26, Try.ntmps26
  go_wp2
  go_loop [3, 4] (fun x q => ∃ k p : Nat, k ≤ 64 ∧ (k : Int) ≤ max n 0 ∧ q = .int .i64 k ∧ x = .int .u64 p ∧ Hid (p = 2 ^ k - 1)) (fun _ q => 64 - (intOf q).toNat)
  case atStart => exact ⟨0, 0, by omega, by omega, rfl, rfl, rfl⟩
  case round =>
    obtain ⟨k, p, hk, hkn, rfl, rfl, HQ⟩ := hrel
    by_cases hlt : k < 64 ∧ (k : Int) < n
    · obtain ⟨h1, h2⟩ := hlt
      have h1' : (k : Int) < 64 := by omega
      obtain ⟨p1, p2, p3, p4, p5⟩ := HP.out k (by omega)
      have C := bit_any k w (by omega)
      have HS : Hid (p + 2 ^ k = 2 ^ (k + 1) - 1) := by show _ = _; rw [HQ.out, p1]
      have hb : p + 2 ^ k < 18446744073709551616 := by rw [HQ.out]; omega
      clear p1 p2 p3 p4 p5
      generalize 2 ^ k = q at *
      have C := Lib.hid C
      have e : IntKind.u64.wrap ((p : Int) + (q : Int)) = ((p + q : Nat) : Int) := by rw [IntKind.wrap_u64]; omega
      have HE := Lib.hid e
      clear e
      go_wp2_with fail
      refine C.out.mono ?_
      rintro e w' ⟨rfl, rfl⟩
      go_wp2
      go_round
      case rel => exact ⟨k + 1, p + q, by omega, by omega, by go_num, by first | rw [HE.out] | go_num, HS⟩
      case measure => simp [intOf]; omega
    · have hv : p = v := by
        rw [HV.out, HQ.out]
        have : min n.toNat 64 = k := by omega
        rw [this]
      have HPV := Lib.hid hv
      clear hv
      by_cases h1 : k < 64
      · have h1' : (k : Int) < 64 := by omega
        have h2 : ¬ (k : Int) < n := by omega
        clear hlt
        go_wp2
        go_ret
        exact ⟨ret_u (by rw [HPV.out]), rfl⟩
      · obtain rfl : k = 64 := by omega
        clear hlt
        go_wp2
        go_ret
        exact ⟨ret_u (by rw [HPV.out]), rfl⟩
set_option maxHeartbeats 1000000 in
theorem ints_same (A B : Option Addr) (L : List Int) (ca cb : Nat) (w : World) (ra : Reads w A (vI L)) (rb : Reads w B (vI L)) (hl : L.length ≤ 9223372036854775806) :
    Calls Try.prog 16 #[.slice A L.length ca, .slice B L.length cb] w (BoolPost w.heap.size w true) := by
  have RA := Lib.hid ra
  have RB := Lib.hid rb
  clear ra rb
  generalize hg : w.heap.size = g at *
  have HG := Lib.hid hg
  clear hg
  generalize hn : L.length = n at *
  have HN := Lib.hid hn
  clear hn
  go_enter Try.func16, Try.ntmps16
  go_wp2_with fail
  go_loopw [5] (fun q wr => ∃ k : Nat, k ≤ n ∧ q = .int .i64 k ∧ Hid (Below g w wr)) (fun q _ => n - (intOf q).toNat)
  case atStart => exact ⟨0, by omega, rfl, Below.refl _ _⟩
  case round =>
    obtain ⟨k, hk, rfl, B1⟩ := hrel
    by_cases hlt : k < n
    · obtain ⟨x, hx⟩ := get_of_lt (L := L) (k := k) (by rw [HN.out]; exact hlt)
      obtain ⟨ba, oa, e1, hx1⟩ := (RA.out.below B1.out (by rw [HG.out]; exact Nat.le_refl _)).at_ (vI_at hx)
      subst e1
      obtain ⟨bb, ob, e2, hy1⟩ := (RB.out.below B1.out (by rw [HG.out]; exact Nat.le_refl _)).at_ (vI_at hx)
      subst e2
      clear hx
      go_wp2_with fail
      go_quiet (fail)
      go_wp2
      go_roundw
      case rel => exact ⟨k + 1, by omega, by go_num, below_drewN B1.out _⟩
      case measure => simp [intOf]; omega
    · go_wp2
      go_ret
      exact ⟨rfl, B1.out⟩
/-- a number, a bool, and what lay lies on -/
def UBPost (g : Nat) (w : World) (x : Nat) (b : Bool) (e : Ending) (w' : World) : Prop := e = .returned (.tuple #[.int .u64 (x : Int), .bool b]) ∧ Below g w w'
def nextN (s b : Nat) : Nat := if subV s b = true ∧ s ≠ b then nextV s b else 0
def nextB (s b : Nat) : Bool := decide (subV s b = true ∧ s ≠ b)
end Go.Proofs.Ytnlgfkokaphhjaa.Bt
