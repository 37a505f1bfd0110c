/- The greatest common divisor of a vector, and its quotient by it. -/
import Derived.Test.YtcihdecfganohaaV6
namespace Go.Proofs.Ytcihdecfganohaa
open Go.RowKit

theorem hl_law (A : Option Addr) (a : List Int) (ca : Nat) (w : World) (ra : ReadsV w A a) (hl : a.length ≤ 100) :
    Calls Try.prog 45 #[.slice A a.length ca] w (BPost w.heap.size w (leastV a)) := by
  generalize hP : leastV a = P
  have HP := Lib.hid hP
  clear hP
  have RA := Lib.hid ra
  clear ra
  generalize hg : w.heap.size = g at *
  have HG := Lib.hid hg
  clear hg
  generalize hn : a.length = n at *
  have HN := Lib.hid hn
  clear hn
  go_enter Try.func45, Try.ntmps45
  go_wp2
  go_step3
  go_wp2
  go_step3
  go_wp2
  go_loopw [8, 3] (fun q v wr => ∃ k : Nat, k ≤ n ∧ q = .int .i64 k ∧ v = .bool false ∧ Hid (Below g w wr) ∧ Hid (∀ j, j < k → at0 a j ≠ -9223372036854775808)) (fun q _ _ => n - (intOf q).toNat)
  case atStart => exact ⟨0, by omega, rfl, rfl, Below.refl _ _, fun j hj => absurd hj (by omega)⟩
  case round =>
    obtain ⟨k, hk, rfl, rfl, B1, HT⟩ := hrel
    by_cases hlt : k < n
    · obtain ⟨ba, oa, e1, hx⟩ := at_of_reads (RA.out.below B1.out (by rw [HG.out]; exact Nat.le_refl _)) k (by rw [HN.out]; exact hlt)
      subst e1
      have HX : Hid (at0 a k = -9223372036854775808 → P = true) := fun h => HP.out.symm.trans (leastV_yes k (by rw [HN.out]; exact hlt) h)
      have HY : Hid (at0 a k ≠ -9223372036854775808 → ∀ j, j < k + 1 → at0 a j ≠ -9223372036854775808) := fun h j hj => by
        by_cases e : j < k
        · exact HT.out j e
        · obtain rfl : j = k := by omega
          exact h
      generalize at0 a k = x at *
      by_cases hxy : x = -9223372036854775808
      · have E := Lib.hid (HX.out hxy)
        subst hxy
        go_wp2
        go_ret
        exact ⟨by rw [E.out]; rfl, B1.out⟩
      · have HE := Lib.hid (HY.out hxy)
        have z1 : (x == -9223372036854775808) = false := by simpa using hxy
        clear hxy
        go_wp2
        go_roundw
        case rel => exact ⟨k + 1, by omega, by go_num, rfl, B1, HE⟩
        case measure => simp [intOf]; omega
    · have E : Hid (P = false) := by
        refine HP.out.symm.trans (leastV_no fun j hj => HT.out j ?_)
        rw [HN.out] at hj
        omega
      go_wp2
      rw [Exit.noGoto_ret]
      go_ret
      exact ⟨by rw [E.out]; rfl, B1.out⟩

theorem clone_law (A : Option Addr) (a : List Int) (ca : Nat) (w : World) (ra : ReadsV w A a) (hl : a.length ≤ 100) :
    Calls Try.prog 47 #[.slice A a.length ca] w (IsPost w.heap.size w a) := by
  have hq := fun (w : World) (n c : Nat) (a : Option Addr) => Lib.run_eql_slice_nil (P := Try.prog) w 22 2 a n c 0 0 Try.underlying22
  obtain ⟨i0, hi, hz0, hz1, hz2⟩ := info_parts info64
  have HI := Lib.hid hi
  have HZ0 := Lib.hid hz0
  have HZ1 := Lib.hid hz1
  have HZ2 := Lib.hid hz2
  clear hi hz0 hz1 hz2
  cases A with
  | none =>
    obtain rfl : a = [] := by
      cases a with
      | nil => rfl
      | cons x r => obtain ⟨_, _, h, _⟩ := ra 0 (by simp); cases h
    go_enter Try.func47, Try.ntmps47
    go_wp2
    go_ret
    exact ⟨none, 0, rfl, ReadsV.nil _ _, Below.refl _ _⟩
  | some p =>
    have HC : Hid (∀ j u, (a.map (Value.int .i64))[j]? = some u → (w.alloc (.cells #[] 2)).cell? (p.add j) = some u) := by
      intro j u hu
      have hj : j < a.length := by
        rcases Nat.lt_or_ge j a.length with h | h
        · exact h
        · rw [List.getElem?_eq_none (by simpa using h)] at hu; cases hu
      obtain ⟨b, off, h1, _, h2⟩ := (ra.alloc (.cells #[] 2)) j hj
      cases h1
      rw [Go.WideShapes.add_plain]
      rw [h2]
      rw [List.getElem?_map, List.getElem?_eq_getElem hj] at hu
      rw [← Option.some.inj hu]
      unfold at0
      rw [List.getElem?_eq_getElem hj]
      rfl
    have HO : Hid ((w.alloc (.cells #[] 2)).ownsRow w.heap.size 2 1 (.slice (some ⟨w.heap.size, 0, none⟩) 0 0) 0 []) := World.ownsRow_lit w #[] 0 (Nat.le_refl _) (by unfold maxLen; omega) rfl
    have H1 : Hid (∀ u ∈ a.map (Value.int .i64), u.oneCell' = true) := by
      intro u hu
      obtain ⟨x, _, rfl⟩ := List.mem_map.1 hu
      rfl
    have hL : (a.map (Value.int .i64)).length = a.length * 1 := by simp
    have HL := Lib.hid hL
    clear hL ra
    generalize hLL : a.map (Value.int .i64) = L at *
    have HLL := Lib.hid hLL
    clear hLL
    generalize hn : a.length = n at *
    have HN := Lib.hid hn
    clear hn
    have B0 : Hid (Below w.heap.size w (w.alloc (.cells #[] 2))) := (Below.refl _ _).alloc (Nat.le_refl _) _
    go_enter Try.func47, Try.ntmps47
    go_wp2_with (at_builtin; (refine wpList_append_own _ rfl (.tmp 5) (.tmp 6) 22 rfl w.heap.size 2 i0 (.int .i64 0) 1 8 Try.underlying22 HI.out HZ0.out HZ1.out HZ2.out rfl (by decide) (.slice (some ⟨w.heap.size, 0, none⟩) 0 0) 0 _ rfl HO.out p n ca L rfl HL.out HC.out H1.out (by unfold maxLen; omega) (by omega) (by rw [World.size_alloc]; omega) ?_); intro v' w5 hown' hgrow _)
    have B5 : Hid (Below w.heap.size w w5) := B0.out.grown hgrow (by rw [World.size_alloc]; omega) (fun q hq => by simp [Value.ownBlock] at hq; omega)
    have O5 : Hid (w5.ownsRow w.heap.size 2 1 v' n (a.map (Value.int .i64))) := by
      show World.ownsRow _ _ _ _ _ _ _
      rw [HLL.out]
      simpa using hown'
    clear hown' hgrow
    obtain ⟨A2, c2, h1, h2⟩ := ReadsV.own O5.out
    rw [HN.out] at h1
    subst h1
    go_wp2
    go_ret
    exact ⟨A2, c2, by rw [HN.out]; rfl, h2, B5.out⟩

theorem rgcd_law (x y : Nat) (hx : x ≤ 9223372036854775807) (hy : y ≤ 9223372036854775807) (w : World) :
    Calls Try.prog 49 #[.int .i64 x, .int .i64 y] w fun e w' => e = .returned (.int .i64 (Nat.gcd x y : Nat)) ∧ w = w' := by
  go_enter Try.func49, Try.ntmps49
  go_wp2
  go_loop [0, 1] (fun p q => ∃ u v : Nat, p = .int .i64 u ∧ q = .int .i64 v ∧ u ≤ 9223372036854775807 ∧ v ≤ 9223372036854775807 ∧ Nat.gcd u v = Nat.gcd x y) (fun _ q => (intOf q).toNat)
  case atStart => exact ⟨x, y, rfl, rfl, by omega, by omega, rfl⟩
  case round =>
    obtain ⟨u, v, rfl, rfl, hu, hv, hg⟩ := hrel
    have HG := Lib.hid hg
    clear hg
    by_cases hlt : 0 < v
    · have hm : u % v < v := Nat.mod_lt _ hlt
      go_wp2
      go_round
      case rel => exact ⟨v, u % v, rfl, by go_num, hv, by omega, by rw [← HG.out, Nat.gcd_comm u v, Nat.gcd_rec v u, Nat.gcd_comm]⟩
      case measure => simp [intOf]; omega
    · go_wp2
      go_ret
      obtain rfl : v = 0 := by omega
      exact ⟨ret_i (by rw [← HG.out, Nat.gcd_zero_right]), rfl⟩

theorem lgcd_law (x y : Nat) (hx : x ≤ 9223372036854775807) (hy : y ≤ 9223372036854775807) (w : World) :
    Calls Try.prog 33 #[.int .i64 x, .int .i64 y] w fun e w' => e = .returned (.int .i64 (Nat.gcd x y : Nat)) ∧ w = w' := by
  go_enter Try.func33, Try.ntmps33
  go_wp2
  go_loop [0, 1] (fun p q => ∃ u v : Nat, p = .int .i64 u ∧ q = .int .i64 v ∧ u ≤ 9223372036854775807 ∧ v ≤ 9223372036854775807 ∧ Nat.gcd u v = Nat.gcd x y) (fun _ q => (intOf q).toNat)
  case atStart => exact ⟨x, y, rfl, rfl, by omega, by omega, rfl⟩
  case round =>
    obtain ⟨u, v, rfl, rfl, hu, hv, hg⟩ := hrel
    have HG := Lib.hid hg
    clear hg
    by_cases hlt : 0 < v
    · have hm : u % v < v := Nat.mod_lt _ hlt
      go_wp2
      go_round
      case rel => exact ⟨v, u % v, rfl, by go_num, hv, by omega, by rw [← HG.out, Nat.gcd_comm u v, Nat.gcd_rec v u, Nat.gcd_comm]⟩
      case measure => simp [intOf]; omega
    · go_wp2
      go_ret
      obtain rfl : v = 0 := by omega
      exact ⟨ret_i (by rw [← HG.out, Nat.gcd_zero_right]), rfl⟩
end Go.Proofs.Ytcihdecfganohaa
