/- The comparison of two equal lists, and the walks of the laws on permutations. -/
import Derived.Test.YtgdbnpnlejgfgaaShB
import Derived.Deep.QuietTactic
import Derived.BigQuiet
namespace Go.Proofs.Ytgdbnpnlejgfgaa
open Go.RowKit

theorem ReadsI.below {w w1 : World} {A : Option Addr} {zs : List Int} (h : ReadsI w A zs) (hb : Below w.heap.size w w1) : ReadsI w1 A zs := by
  intro j hj
  obtain ⟨b, off, e, hc⟩ := h j hj
  exact ⟨b, off, e, (hb.cell (p := ⟨b, off + j, none⟩) (World.block_lt_of_cell? w _ hc)).trans hc⟩

theorem same_eq (A B : Option Addr) (zs : List Int) (c d : Nat) (w : World) (ha : ReadsI w A zs) (hb : ReadsI w B zs) (hl : zs.length ≤ 9223372036854775807) :
    Calls Try.prog 20 #[.slice A zs.length c, .slice B zs.length d] w fun e w' => e = .returned (.bool true) ∧ ∃ m, w' = w.drewN m := by
  have HA := Lib.hid ha
  have HB := Lib.hid hb
  clear ha hb
  generalize hn : zs.length = n at *
  have HN := Lib.hid hn
  clear hn
  go_enter Try.func20, Try.ntmps20
  go_wp2
  go_loopw [5] (fun q wr => ∃ k m : Nat, k ≤ n ∧ q = .int .i64 k ∧ wr = w.drewN m) (fun q _ => n - (intOf q).toNat)
  case atStart => exact ⟨0, 0, by omega, rfl, rfl⟩
  case round =>
    obtain ⟨k, m, hk, rfl, rfl⟩ := hrel
    by_cases hlt : k < n
    · have hkz : k < zs.length := by rw [HN.out]; exact hlt
      obtain ⟨b1, o1, rfl, c1⟩ := HA.out k hkz
      obtain ⟨b2, o2, rfl, c2⟩ := HB.out k hkz
      have i1 : (0 : Int) ≤ (k : Int) := Int.natCast_nonneg _
      have i2 : (k : Int) < (n : Int) := by omega
      generalize zs[k]?.getD 0 = x at *
      have hx : (x != x) = false := by simp
      go_wp2_with fail
      go_quiet (fail)
      go_wp2
      go_roundw
      case rel => exact ⟨k + 1, _, by omega, by go_num, rfl⟩
      case measure => simp [intOf]; omega
    · go_wp2
      go_ret
      exact ⟨rfl, m, rfl⟩

theorem same_nil (w : World) :
    Calls Try.prog 20 #[.slice none 0 0, .slice none 0 0] w fun e w' => e = .returned (.bool true) ∧ ∃ m, w' = w.drewN m :=
  same_eq none none [] 0 0 w (fun j hj => by simp at hj) (fun j hj => by simp at hj) (by simp)

theorem below_drewN {B : Nat} {a w : World} (h : Below B a w) (n : Nat) : Below B a (w.drewN n) := ⟨h.os, h.tape, h.output, h.size, h.block⟩

theorem shuffles_walk (s : Nat) (n : Int) (w : World) :
    Calls Try.prog 6 #[.int .u64 s, .int .i64 n] w fun e w' => e = .returned (.bool true) ∧ Below w.heap.size w w' := by
  by_cases hn : n < 1 ∨ 64 < n
  · have C1 := Lib.hid (shuffle_no s n hn)
    have C2 := Lib.hid (rshuffle_no s n hn)
    go_enter Try.func6, Try.ntmps6
    go_wp2_with fail
    refine (C1.out _).mono ?_
    rintro e w1 ⟨rfl, rfl⟩
    go_wp2_with fail
    refine (C2.out _).mono ?_
    rintro e w1 ⟨rfl, rfl⟩
    go_wp2_with fail
    refine (same_nil _).mono ?_
    rintro e w1 ⟨rfl, m, rfl⟩
    go_wp2_with fail
    refine (alive_any _).mono ?_
    rintro e w1 ⟨rfl, hb⟩
    go_wp2
    go_ret
    exact ⟨rfl, (below_drewN (Below.refl _ _) _).trans hb⟩
  · obtain ⟨k, rfl⟩ : ∃ k : Nat, n = k := ⟨n.toNat, by omega⟩
    have h1 : 1 ≤ k := by omega
    have h2 : k ≤ 64 := by omega
    have C1 := Lib.hid (shuffle_any s k h1 h2)
    have C2 := Lib.hid (rshuffle_any s k h1 h2)
    generalize shufF outR stepR (k - 1) (mkL k k) s = P at *
    clear hn
    go_enter Try.func6, Try.ntmps6
    go_wp2_with fail
    refine (C1.out _).mono ?_
    rintro e w1 ⟨A, c, rfl, hl1, hr1, hb1⟩
    have H1 := Lib.hid hr1
    have L1 := Lib.hid hl1
    clear hr1 hl1
    go_wp2_with fail
    refine (C2.out _).mono ?_
    rintro e w2 ⟨B, d, rfl, hl2, hr2, hb2⟩
    have H2 := Lib.hid hr2
    clear hr2 hl2
    have H3 := Lib.hid (H1.out.below hb2)
    go_wp2_with fail
    have CS := same_eq A B P.1 c d w2 H3.out H2.out (by rw [L1.out]; omega)
    rw [L1.out] at CS
    refine CS.mono ?_
    rintro e w3 ⟨rfl, m, rfl⟩
    go_wp2_with fail
    refine (alive_any _).mono ?_
    rintro e w4 ⟨rfl, hb4⟩
    go_wp2
    go_ret
    exact ⟨rfl, hb1.trans ((hb2.mono hb1.size).trans ((below_drewN (Below.refl _ _) m).trans (hb4.mono (Nat.le_trans hb1.size hb2.size))))⟩
end Go.Proofs.Ytgdbnpnlejgfgaa
