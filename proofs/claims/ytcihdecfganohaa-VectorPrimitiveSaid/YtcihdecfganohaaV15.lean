/- The law on primitive vectors. -/
import Derived.Test.YtcihdecfganohaaV14
namespace Go.Proofs.Ytcihdecfganohaa
open Go.RowKit

theorem quiet_again {P : Program} {f : FuncId} {args : Array Value} {w : World} {a n : Nat} {v : Value}
    (h : Calls P f args (w.drewN (a + n)) fun e w' => e = .returned v ∧ w' = w.drewN (a + n)) :
    Calls P f args (w.drewN (a + n)) fun e w'' => e = .returned v ∧ ∃ m, w'' = w.drewN (a + m) :=
  h.mono fun _ _ ⟨he, hm⟩ => ⟨he, n, hm⟩
/-- the factor after the first k elements -/
def timesT (L : List Int) (G k : Nat) : Nat := if gcdS L k = 0 then 0 else G

set_option maxHeartbeats 8000000 in
set_option maxRecDepth 100000 in
theorem primitive_walk (A : Option Addr) (a : List Int) (ca : Nat) (w : World) (ia : In64 a) (ra : ReadsV w A a) :
    Calls Try.prog 9 #[.slice A a.length ca] w (BPost w.heap.size w true) := by
  have Sa : Hid (∀ W, Below w.heap.size w W → Calls Try.prog 32 #[.slice A a.length ca] W (BPost W.heap.size W (smallV a))) := fun W hW => small_law A a ca W (ra.below hW (Nat.le_refl _))
  have D0 : Hid (Below w.heap.size w w) := Below.refl _ _
  cases ha : smallV a
  · rw [ha] at Sa
    clear ra ha
    generalize a.length = n at *
    go_enter Try.func9, Try.ntmps9
    go_wp2_with fail
    (with_reducible refine (lives_any _).mono ?_)
    rintro e w1 ⟨rfl, K1⟩
    have K1 := Lib.hid K1
    have D1 : Hid (Below w.heap.size w w1) := D0.out.trans (K1.out.mono D0.out.size)
    go_wp2_with fail
    (with_reducible refine (Sa.out _ D1.out).mono ?_)
    rintro e w2 ⟨rfl, K2⟩
    have K2 := Lib.hid K2
    have D2 : Hid (Below w.heap.size w w2) := D1.out.trans (K2.out.mono D1.out.size)
    go_wp2
    go_ret
    exact ⟨rfl, D2.out⟩
  · obtain ⟨L, G, f1, lL, hG, hex, hLs, hz0, hz1, hz2⟩ := prim_facts ha
    have h20 := smallV_len ha
    have C1 : Hid (∀ W, Below w.heap.size w W → Calls Try.prog 27 #[.slice A a.length ca] W (VecN W.heap.size W a.length L)) := fun W hW => vecN lL (by
      rw [← f1]
      exact prim_law A a ca W ia (ra.below hW (Nat.le_refl _)) (by omega))
    rw [ha] at Sa
    have RA := Lib.hid ra
    have HEX := Lib.hid hex
    have HLS := Lib.hid hLs
    have HZ0 := Lib.hid hz0
    have HZ1 := Lib.hid hz1
    have HZ2 := Lib.hid hz2
    clear ra ha f1 ia hex hLs hz0 hz1 hz2
    generalize hn : a.length = n at *
    have HN := Lib.hid hn
    clear hn
    have LL := Lib.hid lL
    clear lL
    go_enter Try.func9, Try.ntmps9
    go_wp2_with fail
    (with_reducible refine (lives_any _).mono ?_)
    rintro e w1 ⟨rfl, K1⟩
    have K1 := Lib.hid K1
    have D1 : Hid (Below w.heap.size w w1) := D0.out.trans (K1.out.mono D0.out.size)
    go_wp2_with fail
    (with_reducible refine (Sa.out _ D1.out).mono ?_)
    rintro e w2 ⟨rfl, K2⟩
    have K2 := Lib.hid K2
    have D2 : Hid (Below w.heap.size w w2) := D1.out.trans (K2.out.mono D1.out.size)
    go_wp2_with fail
    (with_reducible refine (C1.out _ D2.out).mono ?_)
    rintro e w3 ⟨A3, c3, rfl, R3, K3⟩
    have R3 := Lib.hid R3
    have K3 := Lib.hid K3
    have D3 : Hid (Below w.heap.size w w3) := D2.out.trans (K3.out.mono D2.out.size)
    have hs3 := D3.out.size
    go_wp2_with fail
    go_loopw [5, 6, 7] (fun u t q wr => ∃ k d T : Nat, k ≤ n ∧ d ≤ 1048576 ∧ T ≤ 1048576 ∧ q = .int .i64 k ∧ u = .int .i64 d ∧ t = .int .i64 T ∧ Hid (d = gcdS L k ∧ T = timesT L G k) ∧ Hid (Below w3.heap.size w3 wr)) (fun _ _ q _ => n - (intOf q).toNat)
    case atStart => exact ⟨0, 0, 0, by omega, by omega, by omega, rfl, rfl, rfl, ⟨rfl, rfl⟩, Below.refl _ _⟩
    case round =>
      obtain ⟨k, d, T, hk, hd, hT, rfl, rfl, rfl, HI, B1⟩ := hrel
      by_cases hlt : k < n
      · obtain ⟨ba, oa, e1, hy⟩ := at_of_n ((RA.out.below D3.out (Nat.le_refl _)).below B1.out (Nat.le_refl _)) HN.out k hlt
        obtain ⟨bb, ob, e2, hx⟩ := at_of_n (R3.out.below B1.out (Nat.le_refl _)) LL.out k hlt
        subst e1 e2
        have HE := Lib.hid (HEX.out k hlt)
        obtain ⟨x1, x2⟩ := HLS.out k
        have HG0 : Hid (G = 0 → at0 L k = 0) := fun h => HZ0.out h k hlt
        have HK : Hid (Nat.gcd d (at0 L k).natAbs = gcdS L (k + 1)) := by
          show _ = Nat.gcd _ _
          rw [← HI.out.1]
        have hz : Nat.gcd d (at0 L k).natAbs ≤ 1048576 := by
          rcases Nat.eq_zero_or_pos d with h0 | h0
          · rw [h0, Nat.gcd_zero_left]; omega
          · exact Nat.le_trans (Nat.gcd_le_left _ h0) hd
        have HT1 : Hid (at0 L k = 0 → d = 0 → T = 0 ∧ 0 = timesT L G (k + 1)) := fun h1 h2 => by
          have e := HI.out
          rw [h2] at e
          refine ⟨by rw [e.2]; unfold timesT; rw [if_pos e.1.symm], ?_⟩
          unfold timesT
          rw [if_pos]
          show Nat.gcd (gcdS L k) (at0 L k).natAbs = 0
          rw [← e.1, h1]
          rfl
        have HT2 : Hid (at0 L k ≠ 0 → d = 0 → T = 0 ∧ G = timesT L G (k + 1)) := fun h1 h2 => by
          have e := HI.out
          rw [h2] at e
          refine ⟨by rw [e.2]; unfold timesT; rw [if_pos e.1.symm], ?_⟩
          unfold timesT
          rw [if_neg]
          show ¬ Nat.gcd (gcdS L k) (at0 L k).natAbs = 0
          rw [← e.1, Nat.gcd_zero_left]
          omega
        have HT3 : Hid (1 ≤ d → T = G ∧ G = timesT L G (k + 1) ∧ 1 ≤ G) := fun h1 => by
          have e := HI.out
          have hg1 : 1 ≤ G := by
            rcases Nat.eq_zero_or_pos G with h | h
            · have := gcdS_all0 (a := L) k fun j hj => HZ0.out h j (by omega)
              omega
            · exact h
          refine ⟨by rw [e.2]; unfold timesT; rw [if_neg]; omega, ?_, hg1⟩
          unfold timesT
          rw [if_neg]
          show ¬ Nat.gcd (gcdS L k) (at0 L k).natAbs = 0
          rw [← e.1]
          have := Nat.gcd_pos_of_pos_left (at0 L k).natAbs (show 0 < d by omega)
          omega
        have C : Hid (∀ W, Calls Try.prog 33 #[.int .i64 d, .int .i64 ((at0 L k).natAbs : Int)] W fun e w' => e = .returned (.int .i64 (Nat.gcd d (at0 L k).natAbs : Nat)) ∧ w' = W) := fun W => (lgcd_law d (at0 L k).natAbs (by omega) (by omega) W).mono fun _ _ ⟨h1, h2⟩ => ⟨h1, h2.symm⟩
        generalize Nat.gcd d (at0 L k).natAbs = z at *
        generalize at0 a k = y at *
        generalize at0 L k = x at *
        by_cases hx0 : x = 0
        · obtain rfl : y = 0 := by rw [HE.out, hx0]; simp
          subst hx0
          have hna : ((0 : Int).natAbs : Int) = 0 := rfl
          rw [hna] at C
          clear hna HE HG0
          by_cases hd0 : d = 0
          · obtain ⟨hTT, hT'⟩ := HT1.out rfl hd0
            have HT' := Lib.hid hT'
            clear hT' HT1 HT2 HT3 hd0
            subst hTT
            as_aux_lemma =>
            go_wp2_with fail
            go_quiet (fail)
            go_wp2_with fail
            go_quiet ((go_at_call 33; first | exact quiet_again (C.out _) | exact Calls.quiet_of_same (C.out _)))
            go_wp2
            go_roundw
            case rel => exact ⟨k + 1, z, 0, by omega, hz, by omega, by go_num, rfl, rfl, ⟨HK.out, HT'.out⟩, below_drewN B1.out _⟩
            case measure => simp [intOf]; omega
          · obtain ⟨hTT, hT', hG1'⟩ := HT3.out (by omega)
            have HT' := Lib.hid hT'
            clear hT' HT1 HT2 HT3 hd0
            subst hTT
            as_aux_lemma =>
            go_wp2_with fail
            go_quiet (fail)
            go_wp2_with fail
            go_quiet ((go_at_call 33; first | exact quiet_again (C.out _) | exact Calls.quiet_of_same (C.out _)))
            go_wp2
            go_roundw
            case rel => exact ⟨k + 1, z, T, by omega, hz, by omega, by go_num, rfl, rfl, ⟨HK.out, HT'.out⟩, below_drewN B1.out _⟩
            case measure => simp [intOf]; omega
        · have hG1 : 1 ≤ G := by
            rcases Nat.eq_zero_or_pos G with h | h
            · exact absurd (HG0.out h) hx0
            · exact h
          have hy0 : y ≠ 0 := by
            rw [HE.out]
            exact Int.mul_ne_zero hx0 (by omega)
          have HQ : Hid (y.tdiv x = G) := by
            show _ = _
            rw [HE.out, Int.mul_comm, Int.mul_tdiv_cancel _ hx0]
          have zx : (x == 0) = false := by simpa using hx0
          have zx2 : (x != 0) = true := by simpa using hx0
          have zy : (y == 0) = false := by simpa using hy0
          have hw : IntKind.i64.wrap (-x) = -x := IntWalk.i64_in _ (by omega)
          clear HE HG0 hy0
          by_cases hs : 0 ≤ x
          · have hna : (x.natAbs : Int) = x := by omega
            have hmax : max x (-x) = x := by omega
            have hle : -x ≤ x := by omega
            rw [hna] at C
            clear hna
            by_cases hd0 : d = 0
            · obtain ⟨hTT, hT'⟩ := HT2.out hx0 hd0
              have HT' := Lib.hid hT'
              clear hT' HT1 HT2 HT3 hd0
              subst hTT
              have hq := HQ.out
              have hwq : IntKind.i64.wrap (G : Int) = G := IntWalk.i64_in _ (by omega)
              have hxs : 1 ≤ x := by omega
              as_aux_lemma =>
              go_wp2_with fail
              go_quiet (fail)
              go_wp2_with fail
              go_quiet ((go_at_call 33; first | exact quiet_again (C.out _) | exact Calls.quiet_of_same (C.out _)))
              go_wp2_with fail
              go_quiet (fail)
              clear hq hw hmax
              go_wp2
              go_roundw
              case rel => exact ⟨k + 1, z, G, by omega, hz, by omega, by go_num, rfl, rfl, ⟨HK.out, HT'.out⟩, below_drewN B1.out _⟩
              case measure => simp [intOf]; omega
            · obtain ⟨hTT, hT', hG1'⟩ := HT3.out (by omega)
              have HT' := Lib.hid hT'
              clear hT' HT1 HT2 HT3 hd0 hx0
              subst hTT
              have zt : ((T : Int) == 0) = false := by simp; omega
              as_aux_lemma =>
              go_wp2_with fail
              go_quiet (fail)
              go_wp2_with fail
              go_quiet ((go_at_call 33; first | exact quiet_again (C.out _) | exact Calls.quiet_of_same (C.out _)))
              clear hw hmax
              go_wp2
              go_roundw
              case rel => exact ⟨k + 1, z, T, by omega, hz, by omega, by go_num, rfl, rfl, ⟨HK.out, HT'.out⟩, below_drewN B1.out _⟩
              case measure => simp [intOf]; omega
          · have hna : (x.natAbs : Int) = -x := by omega
            have hmax : max x (-x) = -x := by omega
            have hle : x ≤ -x := by omega
            rw [hna] at C
            clear hna
            by_cases hd0 : d = 0
            · obtain ⟨hTT, hT'⟩ := HT2.out hx0 hd0
              have HT' := Lib.hid hT'
              clear hT' HT1 HT2 HT3 hd0
              subst hTT
              have hq := HQ.out
              have hwq : IntKind.i64.wrap (G : Int) = G := IntWalk.i64_in _ (by omega)
              have hxs : x ≤ -1 := by omega
              as_aux_lemma =>
              go_wp2_with fail
              go_quiet (fail)
              go_wp2_with fail
              go_quiet ((go_at_call 33; first | exact quiet_again (C.out _) | exact Calls.quiet_of_same (C.out _)))
              go_wp2_with fail
              go_quiet (fail)
              clear hq hw hmax
              go_wp2
              go_roundw
              case rel => exact ⟨k + 1, z, G, by omega, hz, by omega, by go_num, rfl, rfl, ⟨HK.out, HT'.out⟩, below_drewN B1.out _⟩
              case measure => simp [intOf]; omega
            · obtain ⟨hTT, hT', hG1'⟩ := HT3.out (by omega)
              have HT' := Lib.hid hT'
              clear hT' HT1 HT2 HT3 hd0 hx0
              subst hTT
              have zt : ((T : Int) == 0) = false := by simp; omega
              as_aux_lemma =>
              go_wp2_with fail
              go_quiet (fail)
              go_wp2_with fail
              go_quiet ((go_at_call 33; first | exact quiet_again (C.out _) | exact Calls.quiet_of_same (C.out _)))
              clear hw hmax
              go_wp2
              go_roundw
              case rel => exact ⟨k + 1, z, T, by omega, hz, by omega, by go_num, rfl, rfl, ⟨HK.out, HT'.out⟩, below_drewN B1.out _⟩
              case measure => simp [intOf]; omega
      · obtain rfl : k = n := by omega
        have HTn : Hid ((d = 0 ∧ T = 0 ∧ G = 0) ∨ (d = 1 ∧ T = G ∧ 1 ≤ G)) := by
          show _ ∨ _
          have e := HI.out
          rcases Nat.eq_zero_or_pos G with h | h
          · left
            have hg := HZ1.out h
            refine ⟨by rw [e.1, hg], ?_, h⟩
            rw [e.2]; unfold timesT; rw [if_pos hg]
          · right
            have hg := HZ2.out h
            refine ⟨by rw [e.1, hg], ?_, h⟩
            rw [e.2]; unfold timesT; rw [if_neg (by omega)]
        have HTG : Hid (T = G) := by
          show _ = _
          rcases HTn.out with h | h <;> omega
        have BB : Hid (Below w.heap.size w wr) := D3.out.trans (B1.out.mono hs3)
        obtain ⟨wo, rfl⟩ : ∃ wo : World, wo = wr := ⟨_, rfl⟩
        have hsw := B1.out.size
        go_wp2_with fail
        go_loopw [8] (fun q wr => ∃ j : Nat, j ≤ k ∧ q = .int .i64 j ∧ Hid (Below wo.heap.size wo wr)) (fun q _ => k - (intOf q).toNat)
        case atStart => exact ⟨0, by omega, rfl, Below.refl _ _⟩
        case round =>
          obtain ⟨j, hj, rfl, B2⟩ := hrel
          by_cases hlt2 : j < k
          · obtain ⟨ba, oa, e1, hy⟩ := at_of_n ((RA.out.below BB.out (Nat.le_refl _)).below B2.out (Nat.le_refl _)) HN.out j hlt2
            obtain ⟨bb, ob, e2, hx⟩ := at_of_n ((R3.out.below B1.out (Nat.le_refl _)).below B2.out (Nat.le_refl _)) LL.out j hlt2
            subst e1 e2
            have HE := HEX.out j hlt2
            obtain ⟨x1, x2⟩ := HLS.out j
            rw [← HTG.out] at HE
            generalize at0 a j = y at *
            generalize at0 L j = x at *
            have hm : (x * T).natAbs ≤ 1048576 * 1048576 := mul_le x T 1048576 1048576 (by omega) (by omega)
            have hw : IntKind.i64.wrap y = y := by rw [HE]; exact IntWalk.i64_in _ (by omega)
            have y1 : -1099511627776 ≤ y := by rw [HE]; omega
            have y2 : y ≤ 1099511627776 := by rw [HE]; omega
            have HE2 := Lib.hid HE
            clear HE hm
            have hw2 : x * (T : Int) = y := HE2.out.symm
            go_wp2_with fail
            go_quiet (fail)
            clear hw hw2
            go_wp2
            go_roundw
            case rel => exact ⟨j + 1, by omega, by go_num, below_drewN B2.out _⟩
            case measure => simp [intOf]; omega
          · have hend : Hid (Below w.heap.size w wr) := BB.out.trans (B2.out.mono BB.out.size)
            rcases HTn.out with ⟨h1, h2, h3⟩ | ⟨h1, h2, h3⟩
            · subst h1 h2
              clear h3
              go_wp2
              go_ret
              exact ⟨rfl, hend.out⟩
            · subst h1
              have zt : ((T : Int) == 0) = false := by simp; omega
              have zt2 : (0 : Int) < (T : Int) := by omega
              clear h2 h3
              go_wp2
              go_ret
              exact ⟨rfl, hend.out⟩
end Go.Proofs.Ytcihdecfganohaa
