/- The linear law and the law on the order. -/
import Derived.Test.YtcihdecfganohaaV11
import Derived.Test.YtcihdecfganohaaV12M
namespace Go.Proofs.Ytcihdecfganohaa
open Go.RowKit

set_option maxHeartbeats 1000000 in
theorem small_law (A : Option Addr) (a : List Int) (ca : Nat) (w : World) (ra : ReadsV w A a) :
    Calls Try.prog 32 #[.slice A a.length ca] w (BPost w.heap.size w (smallV a)) := by
  by_cases hl : 20 < a.length
  · rw [smallV_long hl]
    clear ra
    generalize a.length = n at *
    go_enter Try.func32, Try.ntmps32
    go_wp2
    go_ret
    exact ⟨rfl, Below.refl _ _⟩
  · have hl : a.length ≤ 20 := by omega
    generalize hP : smallV a = P
    have HP := Lib.hid hP
    clear hP
    have RA := Lib.hid ra
    clear ra
    generalize hg : w.heap.size = g at *
    have HG := Lib.hid hg
    clear hg
    generalize hn : a.length = n at *
    have HN := Lib.hid hn
    clear hn
    go_enter Try.func32, Try.ntmps32
    go_wp2
    go_loopw [3] (fun q wr => ∃ k : Nat, k ≤ n ∧ q = .int .i64 k ∧ Hid (Below g w wr) ∧ Hid (∀ j, j < k → -1048576 ≤ at0 a j ∧ at0 a j ≤ 1048576)) (fun q _ => n - (intOf q).toNat)
    case atStart => exact ⟨0, by omega, rfl, Below.refl _ _, fun j hj => absurd hj (by omega)⟩
    case round =>
      obtain ⟨k, hk, rfl, B1, HT⟩ := hrel
      by_cases hlt : k < n
      · obtain ⟨ba, oa, e1, hx⟩ := at_of_reads (RA.out.below B1.out (by rw [HG.out]; exact Nat.le_refl _)) k (by rw [HN.out]; exact hlt)
        subst e1
        have HX : Hid (at0 a k < -1048576 ∨ 1048576 < at0 a k → P = false) := fun h => HP.out.symm.trans (smallV_no k (by rw [HN.out]; exact hlt) h)
        have HY : Hid (-1048576 ≤ at0 a k ∧ at0 a k ≤ 1048576 → ∀ j, j < k + 1 → -1048576 ≤ at0 a j ∧ at0 a j ≤ 1048576) := fun h j hj => by
          by_cases e : j < k
          · exact HT.out j e
          · obtain rfl : j = k := by omega
            exact h
        generalize at0 a k = x at *
        by_cases h1 : x < -1048576
        · have E := Lib.hid (HX.out (.inl h1))
          go_wp2
          go_ret
          exact ⟨by rw [E.out]; rfl, B1.out⟩
        have h1' : -1048576 ≤ x := by omega
        by_cases h2 : 1048576 < x
        · have E := Lib.hid (HX.out (.inr h2))
          go_wp2
          go_ret
          exact ⟨by rw [E.out]; rfl, B1.out⟩
        · have h2' : x ≤ 1048576 := by omega
          have HE := Lib.hid (HY.out ⟨h1', h2'⟩)
          go_wp2
          go_roundw
          case rel => exact ⟨k + 1, by omega, by go_num, B1, HE⟩
          case measure => simp [intOf]; omega
      · have E : Hid (P = true) := by
          refine HP.out.symm.trans (smallV_yes (by rw [HN.out]; exact hl) fun j hj => HT.out j ?_)
          rw [HN.out] at hj
          omega
        go_wp2
        go_ret
        exact ⟨by rw [E.out]; rfl, B1.out⟩

set_option maxHeartbeats 8000000 in
set_option maxRecDepth 100000 in
theorem linear_walk (A B C : Option Addr) (a b c : List Int) (ca cb cc : Nat) (w : World) (ia : In64 a) (ib : In64 b) (ic : In64 c) (ra : ReadsV w A a) (rb : ReadsV w B b) (rc : ReadsV w C c) :
    Calls Try.prog 8 #[.slice A a.length ca, .slice B b.length cb, .slice C c.length cc] w (BPost w.heap.size w true) := by
  have Sa : Hid (∀ W, Below w.heap.size w W → Calls Try.prog 32 #[.slice A a.length ca] W (BPost W.heap.size W (smallV a))) := fun W hW => small_law A a ca W (ra.below hW (Nat.le_refl _))
  have Sb : Hid (∀ W, Below w.heap.size w W → Calls Try.prog 32 #[.slice B b.length cb] W (BPost W.heap.size W (smallV b))) := fun W hW => small_law B b cb W (rb.below hW (Nat.le_refl _))
  have Sc : Hid (∀ W, Below w.heap.size w W → Calls Try.prog 32 #[.slice C c.length cc] W (BPost W.heap.size W (smallV c))) := fun W hW => small_law C c cc W (rc.below hW (Nat.le_refl _))
  have D0 : Hid (Below w.heap.size w w) := Below.refl _ _
  cases ha : smallV a
  · rw [ha] at Sa
    clear ra rb rc ha
    generalize a.length = n at *
    generalize b.length = m at *
    generalize c.length = l at *
    go_enter Try.func8, Try.ntmps8
    go_wp2_with fail
    (with_reducible refine (lives_any _).mono ?_)
    rintro e w1 ⟨rfl, K1⟩
    have K1 := Lib.hid K1
    have D1 : Hid (Below w.heap.size w w1) := D0.out.trans (K1.out.mono D0.out.size)
    go_wp2_with fail
    (with_reducible refine (Sa.out _ D1.out).mono ?_)
    rintro e w2 ⟨rfl, K2⟩
    have K2 := Lib.hid K2
    have D2 : Hid (Below w.heap.size w w2) := D1.out.trans (K2.out.mono D1.out.size)
    go_wp2
    go_ret
    exact ⟨rfl, D2.out⟩
  cases hb : smallV b
  · rw [ha] at Sa
    rw [hb] at Sb
    clear ra rb rc ha hb
    generalize a.length = n at *
    generalize b.length = m at *
    generalize c.length = l at *
    go_enter Try.func8, Try.ntmps8
    go_wp2_with fail
    (with_reducible refine (lives_any _).mono ?_)
    rintro e w1 ⟨rfl, K1⟩
    have K1 := Lib.hid K1
    have D1 : Hid (Below w.heap.size w w1) := D0.out.trans (K1.out.mono D0.out.size)
    go_wp2_with fail
    (with_reducible refine (Sa.out _ D1.out).mono ?_)
    rintro e w2 ⟨rfl, K2⟩
    have K2 := Lib.hid K2
    have D2 : Hid (Below w.heap.size w w2) := D1.out.trans (K2.out.mono D1.out.size)
    go_wp2_with fail
    (with_reducible refine (Sb.out _ D2.out).mono ?_)
    rintro e w3 ⟨rfl, K3⟩
    have K3 := Lib.hid K3
    have D3 : Hid (Below w.heap.size w w3) := D2.out.trans (K3.out.mono D2.out.size)
    go_wp2
    go_ret
    exact ⟨rfl, D3.out⟩
  cases hc : smallV c
  · rw [ha] at Sa
    rw [hb] at Sb
    rw [hc] at Sc
    clear ra rb rc ha hb hc
    generalize a.length = n at *
    generalize b.length = m at *
    generalize c.length = l at *
    go_enter Try.func8, Try.ntmps8
    go_wp2_with fail
    (with_reducible refine (lives_any _).mono ?_)
    rintro e w1 ⟨rfl, K1⟩
    have K1 := Lib.hid K1
    have D1 : Hid (Below w.heap.size w w1) := D0.out.trans (K1.out.mono D0.out.size)
    go_wp2_with fail
    (with_reducible refine (Sa.out _ D1.out).mono ?_)
    rintro e w2 ⟨rfl, K2⟩
    have K2 := Lib.hid K2
    have D2 : Hid (Below w.heap.size w w2) := D1.out.trans (K2.out.mono D1.out.size)
    go_wp2_with fail
    (with_reducible refine (Sb.out _ D2.out).mono ?_)
    rintro e w3 ⟨rfl, K3⟩
    have K3 := Lib.hid K3
    have D3 : Hid (Below w.heap.size w w3) := D2.out.trans (K3.out.mono D2.out.size)
    go_wp2_with fail
    (with_reducible refine (Sc.out _ D3.out).mono ?_)
    rintro e w4 ⟨rfl, K4⟩
    have K4 := Lib.hid K4
    have D4 : Hid (Below w.heap.size w w4) := D3.out.trans (K4.out.mono D3.out.size)
    go_wp2
    go_ret
    exact ⟨rfl, D4.out⟩
  by_cases hlb : a.length = b.length
  rotate_left
  · rw [ha] at Sa
    rw [hb] at Sb
    rw [hc] at Sc
    clear ra rb rc ha hb hc
    generalize a.length = n at *
    generalize b.length = m at *
    generalize c.length = l at *
    have h1 : (n != m) = true := by simpa using hlb
    have h2 : ((n : Int) != (m : Int)) = true := by simp; omega
    go_enter Try.func8, Try.ntmps8
    go_wp2_with fail
    (with_reducible refine (lives_any _).mono ?_)
    rintro e w1 ⟨rfl, K1⟩
    have K1 := Lib.hid K1
    have D1 : Hid (Below w.heap.size w w1) := D0.out.trans (K1.out.mono D0.out.size)
    go_wp2_with fail
    (with_reducible refine (Sa.out _ D1.out).mono ?_)
    rintro e w2 ⟨rfl, K2⟩
    have K2 := Lib.hid K2
    have D2 : Hid (Below w.heap.size w w2) := D1.out.trans (K2.out.mono D1.out.size)
    go_wp2_with fail
    (with_reducible refine (Sb.out _ D2.out).mono ?_)
    rintro e w3 ⟨rfl, K3⟩
    have K3 := Lib.hid K3
    have D3 : Hid (Below w.heap.size w w3) := D2.out.trans (K3.out.mono D2.out.size)
    go_wp2_with fail
    (with_reducible refine (Sc.out _ D3.out).mono ?_)
    rintro e w4 ⟨rfl, K4⟩
    have K4 := Lib.hid K4
    have D4 : Hid (Below w.heap.size w w4) := D3.out.trans (K4.out.mono D3.out.size)
    go_wp2
    go_ret
    exact ⟨rfl, D4.out⟩
  by_cases hlc : a.length = c.length
  rotate_left
  · rw [ha] at Sa
    rw [hb] at Sb
    rw [hc] at Sc
    clear ra rb rc ha hb hc
    generalize a.length = n at *
    generalize b.length = m at *
    generalize c.length = l at *
    subst hlb
    have h1 : (n != l) = true := by simpa using hlc
    have h2 : ((n : Int) != (l : Int)) = true := by simp; omega
    go_enter Try.func8, Try.ntmps8
    go_wp2_with fail
    (with_reducible refine (lives_any _).mono ?_)
    rintro e w1 ⟨rfl, K1⟩
    have K1 := Lib.hid K1
    have D1 : Hid (Below w.heap.size w w1) := D0.out.trans (K1.out.mono D0.out.size)
    go_wp2_with fail
    (with_reducible refine (Sa.out _ D1.out).mono ?_)
    rintro e w2 ⟨rfl, K2⟩
    have K2 := Lib.hid K2
    have D2 : Hid (Below w.heap.size w w2) := D1.out.trans (K2.out.mono D1.out.size)
    go_wp2_with fail
    (with_reducible refine (Sb.out _ D2.out).mono ?_)
    rintro e w3 ⟨rfl, K3⟩
    have K3 := Lib.hid K3
    have D3 : Hid (Below w.heap.size w w3) := D2.out.trans (K3.out.mono D2.out.size)
    go_wp2_with fail
    (with_reducible refine (Sc.out _ D3.out).mono ?_)
    rintro e w4 ⟨rfl, K4⟩
    have K4 := Lib.hid K4
    have D4 : Hid (Below w.heap.size w w4) := D3.out.trans (K4.out.mono D3.out.size)
    go_wp2
    go_ret
    exact ⟨rfl, D4.out⟩
  · obtain ⟨L, y, z, hL, hLl, iL, f1, f2, f3, f4, y1, y2, z1, z2⟩ := lin_facts ha hb hc hlb hlc
    have h100 : a.length ≤ 100 := by have := smallV_len ha; omega
    have C1 : Hid (∀ W, Below w.heap.size w W → Calls Try.prog 21 #[.slice A a.length ca, .int .i64 3, .slice B b.length cb, .int .i64 (-2)] W (VecPost W.heap.size W (L, 0))) := fun W hW => by
      rw [← hL]
      exact cmb_law A B a b ca cb 3 (-2) W ia ib (ra.below hW (Nat.le_refl _)) (rb.below hW (Nat.le_refl _)) h100 (by omega) (by omega) (by omega) (by omega)
    have C2 : Hid (∀ W A1 c1, Below w.heap.size w W → ReadsV W A1 L → Calls Try.prog 16 #[.slice A1 L.length c1, .slice C c.length cc] W (DPost W.heap.size W (3 * y - 2 * z, 0))) := fun W A1 c1 hW hr => by
      rw [← f1]
      exact dot_law A1 C L c c1 cc W iL ic hr (rc.below hW (Nat.le_refl _)) (by omega)
    have C3 : Hid (∀ W, Below w.heap.size w W → Calls Try.prog 16 #[.slice A a.length ca, .slice C c.length cc] W (DPost W.heap.size W (y, 0))) := fun W hW => by
      rw [← f2]
      exact dot_law A C a c ca cc W ia ic (ra.below hW (Nat.le_refl _)) (rc.below hW (Nat.le_refl _)) h100
    have C4 : Hid (∀ W, Below w.heap.size w W → Calls Try.prog 16 #[.slice C c.length cc, .slice B b.length cb] W (DPost W.heap.size W (z, 0))) := fun W hW => by
      rw [← f3]
      exact dot_law C B c b cc cb W ic ib (rc.below hW (Nat.le_refl _)) (rb.below hW (Nat.le_refl _)) (by omega)
    have C5 : Hid (∀ W, Below w.heap.size w W → Calls Try.prog 16 #[.slice C c.length cc, .slice A a.length ca] W (DPost W.heap.size W (y, 0))) := fun W hW => by
      rw [← f4]
      exact dot_law C A c a cc ca W ic ia (rc.below hW (Nat.le_refl _)) (ra.below hW (Nat.le_refl _)) (by omega)
    rw [ha] at Sa
    rw [hb] at Sb
    rw [hc] at Sc
    clear ra rb rc ha hb hc hL f1 f2 f3 f4 iL ia ib ic h100
    generalize a.length = n at *
    generalize b.length = m at *
    generalize c.length = l at *
    clear hLl
    subst hlb hlc
    go_enter Try.func8, Try.ntmps8
    go_wp2_with fail
    (with_reducible refine (lives_any _).mono ?_)
    rintro e w1 ⟨rfl, K1⟩
    have K1 := Lib.hid K1
    have D1 : Hid (Below w.heap.size w w1) := D0.out.trans (K1.out.mono D0.out.size)
    go_wp2_with fail
    (with_reducible refine (Sa.out _ D1.out).mono ?_)
    rintro e w2 ⟨rfl, K2⟩
    have K2 := Lib.hid K2
    have D2 : Hid (Below w.heap.size w w2) := D1.out.trans (K2.out.mono D1.out.size)
    go_wp2_with fail
    (with_reducible refine (Sb.out _ D2.out).mono ?_)
    rintro e w3 ⟨rfl, K3⟩
    have K3 := Lib.hid K3
    have D3 : Hid (Below w.heap.size w w3) := D2.out.trans (K3.out.mono D2.out.size)
    go_wp2_with fail
    (with_reducible refine (Sc.out _ D3.out).mono ?_)
    rintro e w4 ⟨rfl, K4⟩
    have K4 := Lib.hid K4
    have D4 : Hid (Below w.heap.size w w4) := D3.out.trans (K4.out.mono D3.out.size)
    go_wp2_with fail
    (with_reducible refine (C1.out _ D4.out).mono ?_)
    rintro e w5 ⟨A5, c5, rfl, R5, K5⟩
    have R5 := Lib.hid R5
    have K5 := Lib.hid K5
    have D5 : Hid (Below w.heap.size w w5) := D4.out.trans (K5.out.mono D4.out.size)
    go_wp2_with fail
    (with_reducible refine (C2.out _ _ _ D5.out R5.out).mono ?_)
    rintro e w6 ⟨rfl, K6⟩
    have K6 := Lib.hid K6
    have D6 : Hid (Below w.heap.size w w6) := D5.out.trans (K6.out.mono D5.out.size)
    go_wp2_with fail
    (with_reducible refine (C3.out _ D6.out).mono ?_)
    rintro e w7 ⟨rfl, K7⟩
    have K7 := Lib.hid K7
    have D7 : Hid (Below w.heap.size w w7) := D6.out.trans (K7.out.mono D6.out.size)
    go_wp2_with fail
    (with_reducible refine (C4.out _ D7.out).mono ?_)
    rintro e w8 ⟨rfl, K8⟩
    have K8 := Lib.hid K8
    have D8 : Hid (Below w.heap.size w w8) := D7.out.trans (K8.out.mono D7.out.size)
    go_wp2_with fail
    (with_reducible refine (C5.out _ D8.out).mono ?_)
    rintro e w9 ⟨rfl, K9⟩
    have K9 := Lib.hid K9
    have D9 : Hid (Below w.heap.size w w9) := D8.out.trans (K9.out.mono D8.out.size)
    go_wp2
    go_ret
    exact ⟨rfl, D9.out⟩
end Go.Proofs.Ytcihdecfganohaa
