/- The law on the order. -/
import Derived.Test.YtcihdecfganohaaV11
import Derived.Test.YtcihdecfganohaaV12M
namespace Go.Proofs.Ytcihdecfganohaa
open Go.RowKit

set_option maxHeartbeats 8000000 in
set_option maxRecDepth 100000 in
theorem lex_long (A B C : Option Addr) (n m l ca cb cc : Nat) (w : World) (h : 100 < n ∨ 100 < m ∨ 100 < l) :
    Calls Try.prog 10 #[.slice A n ca, .slice B m cb, .slice C l cc] w (BPost w.heap.size w true) := by
  have D0 : Hid (Below w.heap.size w w) := Below.refl _ _
  by_cases h1 : 100 < n
  · clear h
    go_enter Try.func10, Try.ntmps10
    go_wp2_with fail
    (with_reducible refine (lives_any _).mono ?_)
    rintro e w1 ⟨rfl, K1⟩
    have K1 := Lib.hid K1
    have D1 : Hid (Below w.heap.size w w1) := D0.out.trans (K1.out.mono D0.out.size)
    go_wp2
    go_ret
    exact ⟨rfl, D1.out⟩
  by_cases h2 : 100 < m
  · clear h
    go_enter Try.func10, Try.ntmps10
    go_wp2_with fail
    (with_reducible refine (lives_any _).mono ?_)
    rintro e w1 ⟨rfl, K1⟩
    have K1 := Lib.hid K1
    have D1 : Hid (Below w.heap.size w w1) := D0.out.trans (K1.out.mono D0.out.size)
    go_wp2
    go_ret
    exact ⟨rfl, D1.out⟩
  · have h3 : 100 < l := by omega
    clear h
    go_enter Try.func10, Try.ntmps10
    go_wp2_with fail
    (with_reducible refine (lives_any _).mono ?_)
    rintro e w1 ⟨rfl, K1⟩
    have K1 := Lib.hid K1
    have D1 : Hid (Below w.heap.size w w1) := D0.out.trans (K1.out.mono D0.out.size)
    go_wp2
    go_ret
    exact ⟨rfl, D1.out⟩

set_option maxHeartbeats 8000000 in
set_option maxRecDepth 100000 in
theorem lex_core (A B C : Option Addr) (n m l ca cb cc : Nat) (w : World) (hn : n ≤ 100) (hm : m ≤ 100) (hl : l ≤ 100) (x y z : Int) (p q : Bool)
    (CX : Hid (∀ W, Below w.heap.size w W → Calls Try.prog 25 #[.slice A n ca, .slice B m cb] W (IPost W.heap.size W x)))
    (CY : Hid (∀ W, Below w.heap.size w W → Calls Try.prog 25 #[.slice B m cb, .slice C l cc] W (IPost W.heap.size W y)))
    (CZ : Hid (∀ W, Below w.heap.size w W → Calls Try.prog 25 #[.slice A n ca, .slice C l cc] W (IPost W.heap.size W z)))
    (CB : Hid (∀ W, Below w.heap.size w W → Calls Try.prog 25 #[.slice B m cb, .slice A n ca] W (IPost W.heap.size W (-x))))
    (CA : Hid (∀ W, Below w.heap.size w W → Calls Try.prog 25 #[.slice A n ca, .slice A n ca] W (IPost W.heap.size W 0)))
    (LA : Hid (∀ W, Below w.heap.size w W → Calls Try.prog 23 #[.slice A n ca, .slice A n ca] W (BPost W.heap.size W true)))
    (LP : Hid (∀ W, Below w.heap.size w W → Calls Try.prog 23 #[.slice A n ca, .slice B m cb] W (BPost W.heap.size W p)))
    (LQ : Hid (∀ W, Below w.heap.size w W → Calls Try.prog 23 #[.slice B m cb, .slice A n ca] W (BPost W.heap.size W q)))
    (x1 : -1 ≤ x) (x2 : x ≤ 1) (hxy : x ≤ 0 → y ≤ 0 → z ≤ 0 ∧ (z = 0 → x = 0 ∧ y = 0)) (hp : p = true → x ≤ 0 ∧ n = m) (hq : p = true → q = true → x = 0) :
    Calls Try.prog 10 #[.slice A n ca, .slice B m cb, .slice C l cc] w (BPost w.heap.size w true) := by
  have D0 : Hid (Below w.heap.size w w) := Below.refl _ _
  by_cases hx0 : 0 < x
  · obtain rfl : x = 1 := by omega
    have hpf : p = false := by
      cases p
      · rfl
      · have := (hp rfl).1; omega
    subst hpf
    clear hxy hp hq x1 x2
    go_enter Try.func10, Try.ntmps10
    go_wp2_with fail
    (with_reducible refine (lives_any _).mono ?_)
    rintro e w1 ⟨rfl, K1⟩
    have K1 := Lib.hid K1
    have D1 : Hid (Below w.heap.size w w1) := D0.out.trans (K1.out.mono D0.out.size)
    go_wp2_with fail
    (with_reducible refine (CX.out _ D1.out).mono ?_)
    rintro e w2 ⟨rfl, K2⟩
    have K2 := Lib.hid K2
    have D2 : Hid (Below w.heap.size w w2) := D1.out.trans (K2.out.mono D1.out.size)
    go_wp2_with fail
    (with_reducible refine (CY.out _ D2.out).mono ?_)
    rintro e w3 ⟨rfl, K3⟩
    have K3 := Lib.hid K3
    have D3 : Hid (Below w.heap.size w w3) := D2.out.trans (K3.out.mono D2.out.size)
    go_wp2_with fail
    (with_reducible refine (CZ.out _ D3.out).mono ?_)
    rintro e w4 ⟨rfl, K4⟩
    have K4 := Lib.hid K4
    have D4 : Hid (Below w.heap.size w w4) := D3.out.trans (K4.out.mono D3.out.size)
    go_wp2_with fail
    (with_reducible refine (CB.out _ D4.out).mono ?_)
    rintro e w5 ⟨rfl, K5⟩
    have K5 := Lib.hid K5
    have D5 : Hid (Below w.heap.size w w5) := D4.out.trans (K5.out.mono D4.out.size)
    go_wp2_with fail
    (with_reducible refine (CA.out _ D5.out).mono ?_)
    rintro e w6 ⟨rfl, K6⟩
    have K6 := Lib.hid K6
    have D6 : Hid (Below w.heap.size w w6) := D5.out.trans (K6.out.mono D5.out.size)
    go_wp2_with fail
    (with_reducible refine (LA.out _ D6.out).mono ?_)
    rintro e w7 ⟨rfl, K7⟩
    have K7 := Lib.hid K7
    have D7 : Hid (Below w.heap.size w w7) := D6.out.trans (K7.out.mono D6.out.size)
    go_wp2_with fail
    (with_reducible refine (LP.out _ D7.out).mono ?_)
    rintro e w8 ⟨rfl, K8⟩
    have K8 := Lib.hid K8
    have D8 : Hid (Below w.heap.size w w8) := D7.out.trans (K8.out.mono D7.out.size)
    go_wp2_with fail
    (with_reducible refine (LP.out _ D8.out).mono ?_)
    rintro e w9 ⟨rfl, K9⟩
    have K9 := Lib.hid K9
    have D9 : Hid (Below w.heap.size w w9) := D8.out.trans (K9.out.mono D8.out.size)
    go_wp2
    go_ret
    exact ⟨rfl, D9.out⟩
  by_cases hx1 : x = -1
  · subst hx1
    clear x1 x2 hx0
    cases p
    · clear hp hq
      by_cases hy0 : 0 < y
      · clear hxy
        go_enter Try.func10, Try.ntmps10
        go_wp2_with fail
        (with_reducible refine (lives_any _).mono ?_)
        rintro e w1 ⟨rfl, K1⟩
        have K1 := Lib.hid K1
        have D1 : Hid (Below w.heap.size w w1) := D0.out.trans (K1.out.mono D0.out.size)
        go_wp2_with fail
        (with_reducible refine (CX.out _ D1.out).mono ?_)
        rintro e w2 ⟨rfl, K2⟩
        have K2 := Lib.hid K2
        have D2 : Hid (Below w.heap.size w w2) := D1.out.trans (K2.out.mono D1.out.size)
        go_wp2_with fail
        (with_reducible refine (CY.out _ D2.out).mono ?_)
        rintro e w3 ⟨rfl, K3⟩
        have K3 := Lib.hid K3
        have D3 : Hid (Below w.heap.size w w3) := D2.out.trans (K3.out.mono D2.out.size)
        go_wp2_with fail
        (with_reducible refine (CZ.out _ D3.out).mono ?_)
        rintro e w4 ⟨rfl, K4⟩
        have K4 := Lib.hid K4
        have D4 : Hid (Below w.heap.size w w4) := D3.out.trans (K4.out.mono D3.out.size)
        go_wp2_with fail
        (with_reducible refine (CB.out _ D4.out).mono ?_)
        rintro e w5 ⟨rfl, K5⟩
        have K5 := Lib.hid K5
        have D5 : Hid (Below w.heap.size w w5) := D4.out.trans (K5.out.mono D4.out.size)
        go_wp2_with fail
        (with_reducible refine (CA.out _ D5.out).mono ?_)
        rintro e w6 ⟨rfl, K6⟩
        have K6 := Lib.hid K6
        have D6 : Hid (Below w.heap.size w w6) := D5.out.trans (K6.out.mono D5.out.size)
        go_wp2_with fail
        (with_reducible refine (LA.out _ D6.out).mono ?_)
        rintro e w7 ⟨rfl, K7⟩
        have K7 := Lib.hid K7
        have D7 : Hid (Below w.heap.size w w7) := D6.out.trans (K7.out.mono D6.out.size)
        go_wp2_with fail
        (with_reducible refine (LP.out _ D7.out).mono ?_)
        rintro e w8 ⟨rfl, K8⟩
        have K8 := Lib.hid K8
        have D8 : Hid (Below w.heap.size w w8) := D7.out.trans (K8.out.mono D7.out.size)
        go_wp2_with fail
        (with_reducible refine (LP.out _ D8.out).mono ?_)
        rintro e w9 ⟨rfl, K9⟩
        have K9 := Lib.hid K9
        have D9 : Hid (Below w.heap.size w w9) := D8.out.trans (K9.out.mono D8.out.size)
        go_wp2
        go_ret
        exact ⟨rfl, D9.out⟩
      have hy : y ≤ 0 := by omega
      obtain ⟨hz1, hz2⟩ := hxy (by omega) hy
      have hz : z < 0 := by
        by_cases h : z = 0
        · have := (hz2 h).1; omega
        · omega
      clear hz1 hz2 hy0
      go_enter Try.func10, Try.ntmps10
      go_wp2_with fail
      (with_reducible refine (lives_any _).mono ?_)
      rintro e w1 ⟨rfl, K1⟩
      have K1 := Lib.hid K1
      have D1 : Hid (Below w.heap.size w w1) := D0.out.trans (K1.out.mono D0.out.size)
      go_wp2_with fail
      (with_reducible refine (CX.out _ D1.out).mono ?_)
      rintro e w2 ⟨rfl, K2⟩
      have K2 := Lib.hid K2
      have D2 : Hid (Below w.heap.size w w2) := D1.out.trans (K2.out.mono D1.out.size)
      go_wp2_with fail
      (with_reducible refine (CY.out _ D2.out).mono ?_)
      rintro e w3 ⟨rfl, K3⟩
      have K3 := Lib.hid K3
      have D3 : Hid (Below w.heap.size w w3) := D2.out.trans (K3.out.mono D2.out.size)
      go_wp2_with fail
      (with_reducible refine (CZ.out _ D3.out).mono ?_)
      rintro e w4 ⟨rfl, K4⟩
      have K4 := Lib.hid K4
      have D4 : Hid (Below w.heap.size w w4) := D3.out.trans (K4.out.mono D3.out.size)
      go_wp2_with fail
      (with_reducible refine (CB.out _ D4.out).mono ?_)
      rintro e w5 ⟨rfl, K5⟩
      have K5 := Lib.hid K5
      have D5 : Hid (Below w.heap.size w w5) := D4.out.trans (K5.out.mono D4.out.size)
      go_wp2_with fail
      (with_reducible refine (CA.out _ D5.out).mono ?_)
      rintro e w6 ⟨rfl, K6⟩
      have K6 := Lib.hid K6
      have D6 : Hid (Below w.heap.size w w6) := D5.out.trans (K6.out.mono D5.out.size)
      go_wp2_with fail
      (with_reducible refine (LA.out _ D6.out).mono ?_)
      rintro e w7 ⟨rfl, K7⟩
      have K7 := Lib.hid K7
      have D7 : Hid (Below w.heap.size w w7) := D6.out.trans (K7.out.mono D6.out.size)
      go_wp2_with fail
      (with_reducible refine (LP.out _ D7.out).mono ?_)
      rintro e w8 ⟨rfl, K8⟩
      have K8 := Lib.hid K8
      have D8 : Hid (Below w.heap.size w w8) := D7.out.trans (K8.out.mono D7.out.size)
      go_wp2_with fail
      (with_reducible refine (LP.out _ D8.out).mono ?_)
      rintro e w9 ⟨rfl, K9⟩
      have K9 := Lib.hid K9
      have D9 : Hid (Below w.heap.size w w9) := D8.out.trans (K9.out.mono D8.out.size)
      go_wp2
      go_ret
      exact ⟨rfl, D9.out⟩
    · obtain rfl := (hp rfl).2
      have hqf : q = false := by
        cases q
        · rfl
        · have := hq rfl rfl; omega
      subst hqf
      clear hp hq
      by_cases hy0 : 0 < y
      · clear hxy
        go_enter Try.func10, Try.ntmps10
        go_wp2_with fail
        (with_reducible refine (lives_any _).mono ?_)
        rintro e w1 ⟨rfl, K1⟩
        have K1 := Lib.hid K1
        have D1 : Hid (Below w.heap.size w w1) := D0.out.trans (K1.out.mono D0.out.size)
        go_wp2_with fail
        (with_reducible refine (CX.out _ D1.out).mono ?_)
        rintro e w2 ⟨rfl, K2⟩
        have K2 := Lib.hid K2
        have D2 : Hid (Below w.heap.size w w2) := D1.out.trans (K2.out.mono D1.out.size)
        go_wp2_with fail
        (with_reducible refine (CY.out _ D2.out).mono ?_)
        rintro e w3 ⟨rfl, K3⟩
        have K3 := Lib.hid K3
        have D3 : Hid (Below w.heap.size w w3) := D2.out.trans (K3.out.mono D2.out.size)
        go_wp2_with fail
        (with_reducible refine (CZ.out _ D3.out).mono ?_)
        rintro e w4 ⟨rfl, K4⟩
        have K4 := Lib.hid K4
        have D4 : Hid (Below w.heap.size w w4) := D3.out.trans (K4.out.mono D3.out.size)
        go_wp2_with fail
        (with_reducible refine (CB.out _ D4.out).mono ?_)
        rintro e w5 ⟨rfl, K5⟩
        have K5 := Lib.hid K5
        have D5 : Hid (Below w.heap.size w w5) := D4.out.trans (K5.out.mono D4.out.size)
        go_wp2_with fail
        (with_reducible refine (CA.out _ D5.out).mono ?_)
        rintro e w6 ⟨rfl, K6⟩
        have K6 := Lib.hid K6
        have D6 : Hid (Below w.heap.size w w6) := D5.out.trans (K6.out.mono D5.out.size)
        go_wp2_with fail
        (with_reducible refine (LA.out _ D6.out).mono ?_)
        rintro e w7 ⟨rfl, K7⟩
        have K7 := Lib.hid K7
        have D7 : Hid (Below w.heap.size w w7) := D6.out.trans (K7.out.mono D6.out.size)
        go_wp2_with fail
        (with_reducible refine (LP.out _ D7.out).mono ?_)
        rintro e w8 ⟨rfl, K8⟩
        have K8 := Lib.hid K8
        have D8 : Hid (Below w.heap.size w w8) := D7.out.trans (K8.out.mono D7.out.size)
        go_wp2_with fail
        (with_reducible refine (LP.out _ D8.out).mono ?_)
        rintro e w9 ⟨rfl, K9⟩
        have K9 := Lib.hid K9
        have D9 : Hid (Below w.heap.size w w9) := D8.out.trans (K9.out.mono D8.out.size)
        go_wp2_with fail
        (with_reducible refine (LQ.out _ D9.out).mono ?_)
        rintro e w10 ⟨rfl, K10⟩
        have K10 := Lib.hid K10
        have D10 : Hid (Below w.heap.size w w10) := D9.out.trans (K10.out.mono D9.out.size)
        go_wp2
        go_ret
        exact ⟨rfl, D10.out⟩
      have hy : y ≤ 0 := by omega
      obtain ⟨hz1, hz2⟩ := hxy (by omega) hy
      have hz : z < 0 := by
        by_cases h : z = 0
        · have := (hz2 h).1; omega
        · omega
      clear hz1 hz2 hy0
      go_enter Try.func10, Try.ntmps10
      go_wp2_with fail
      (with_reducible refine (lives_any _).mono ?_)
      rintro e w1 ⟨rfl, K1⟩
      have K1 := Lib.hid K1
      have D1 : Hid (Below w.heap.size w w1) := D0.out.trans (K1.out.mono D0.out.size)
      go_wp2_with fail
      (with_reducible refine (CX.out _ D1.out).mono ?_)
      rintro e w2 ⟨rfl, K2⟩
      have K2 := Lib.hid K2
      have D2 : Hid (Below w.heap.size w w2) := D1.out.trans (K2.out.mono D1.out.size)
      go_wp2_with fail
      (with_reducible refine (CY.out _ D2.out).mono ?_)
      rintro e w3 ⟨rfl, K3⟩
      have K3 := Lib.hid K3
      have D3 : Hid (Below w.heap.size w w3) := D2.out.trans (K3.out.mono D2.out.size)
      go_wp2_with fail
      (with_reducible refine (CZ.out _ D3.out).mono ?_)
      rintro e w4 ⟨rfl, K4⟩
      have K4 := Lib.hid K4
      have D4 : Hid (Below w.heap.size w w4) := D3.out.trans (K4.out.mono D3.out.size)
      go_wp2_with fail
      (with_reducible refine (CB.out _ D4.out).mono ?_)
      rintro e w5 ⟨rfl, K5⟩
      have K5 := Lib.hid K5
      have D5 : Hid (Below w.heap.size w w5) := D4.out.trans (K5.out.mono D4.out.size)
      go_wp2_with fail
      (with_reducible refine (CA.out _ D5.out).mono ?_)
      rintro e w6 ⟨rfl, K6⟩
      have K6 := Lib.hid K6
      have D6 : Hid (Below w.heap.size w w6) := D5.out.trans (K6.out.mono D5.out.size)
      go_wp2_with fail
      (with_reducible refine (LA.out _ D6.out).mono ?_)
      rintro e w7 ⟨rfl, K7⟩
      have K7 := Lib.hid K7
      have D7 : Hid (Below w.heap.size w w7) := D6.out.trans (K7.out.mono D6.out.size)
      go_wp2_with fail
      (with_reducible refine (LP.out _ D7.out).mono ?_)
      rintro e w8 ⟨rfl, K8⟩
      have K8 := Lib.hid K8
      have D8 : Hid (Below w.heap.size w w8) := D7.out.trans (K8.out.mono D7.out.size)
      go_wp2_with fail
      (with_reducible refine (LP.out _ D8.out).mono ?_)
      rintro e w9 ⟨rfl, K9⟩
      have K9 := Lib.hid K9
      have D9 : Hid (Below w.heap.size w w9) := D8.out.trans (K9.out.mono D8.out.size)
      go_wp2_with fail
      (with_reducible refine (LQ.out _ D9.out).mono ?_)
      rintro e w10 ⟨rfl, K10⟩
      have K10 := Lib.hid K10
      have D10 : Hid (Below w.heap.size w w10) := D9.out.trans (K10.out.mono D9.out.size)
      go_wp2
      go_ret
      exact ⟨rfl, D10.out⟩
  · obtain rfl : x = 0 := by omega
    clear x1 x2 hx0 hx1
    cases p
    · clear hp hq
      by_cases hy0 : 0 < y
      · clear hxy
        go_enter Try.func10, Try.ntmps10
        go_wp2_with fail
        (with_reducible refine (lives_any _).mono ?_)
        rintro e w1 ⟨rfl, K1⟩
        have K1 := Lib.hid K1
        have D1 : Hid (Below w.heap.size w w1) := D0.out.trans (K1.out.mono D0.out.size)
        go_wp2_with fail
        (with_reducible refine (CX.out _ D1.out).mono ?_)
        rintro e w2 ⟨rfl, K2⟩
        have K2 := Lib.hid K2
        have D2 : Hid (Below w.heap.size w w2) := D1.out.trans (K2.out.mono D1.out.size)
        go_wp2_with fail
        (with_reducible refine (CY.out _ D2.out).mono ?_)
        rintro e w3 ⟨rfl, K3⟩
        have K3 := Lib.hid K3
        have D3 : Hid (Below w.heap.size w w3) := D2.out.trans (K3.out.mono D2.out.size)
        go_wp2_with fail
        (with_reducible refine (CZ.out _ D3.out).mono ?_)
        rintro e w4 ⟨rfl, K4⟩
        have K4 := Lib.hid K4
        have D4 : Hid (Below w.heap.size w w4) := D3.out.trans (K4.out.mono D3.out.size)
        go_wp2_with fail
        (with_reducible refine (CB.out _ D4.out).mono ?_)
        rintro e w5 ⟨rfl, K5⟩
        have K5 := Lib.hid K5
        have D5 : Hid (Below w.heap.size w w5) := D4.out.trans (K5.out.mono D4.out.size)
        go_wp2_with fail
        (with_reducible refine (CA.out _ D5.out).mono ?_)
        rintro e w6 ⟨rfl, K6⟩
        have K6 := Lib.hid K6
        have D6 : Hid (Below w.heap.size w w6) := D5.out.trans (K6.out.mono D5.out.size)
        go_wp2_with fail
        (with_reducible refine (LA.out _ D6.out).mono ?_)
        rintro e w7 ⟨rfl, K7⟩
        have K7 := Lib.hid K7
        have D7 : Hid (Below w.heap.size w w7) := D6.out.trans (K7.out.mono D6.out.size)
        go_wp2_with fail
        (with_reducible refine (LP.out _ D7.out).mono ?_)
        rintro e w8 ⟨rfl, K8⟩
        have K8 := Lib.hid K8
        have D8 : Hid (Below w.heap.size w w8) := D7.out.trans (K8.out.mono D7.out.size)
        go_wp2_with fail
        (with_reducible refine (LP.out _ D8.out).mono ?_)
        rintro e w9 ⟨rfl, K9⟩
        have K9 := Lib.hid K9
        have D9 : Hid (Below w.heap.size w w9) := D8.out.trans (K9.out.mono D8.out.size)
        go_wp2
        go_ret
        exact ⟨rfl, D9.out⟩
      have hy : y ≤ 0 := by omega
      obtain ⟨hz1, hz2⟩ := hxy (by omega) hy
      by_cases hz : z = 0
      · obtain rfl := (hz2 hz).2
        subst hz
        clear hz1 hz2
        go_enter Try.func10, Try.ntmps10
        go_wp2_with fail
        (with_reducible refine (lives_any _).mono ?_)
        rintro e w1 ⟨rfl, K1⟩
        have K1 := Lib.hid K1
        have D1 : Hid (Below w.heap.size w w1) := D0.out.trans (K1.out.mono D0.out.size)
        go_wp2_with fail
        (with_reducible refine (CX.out _ D1.out).mono ?_)
        rintro e w2 ⟨rfl, K2⟩
        have K2 := Lib.hid K2
        have D2 : Hid (Below w.heap.size w w2) := D1.out.trans (K2.out.mono D1.out.size)
        go_wp2_with fail
        (with_reducible refine (CY.out _ D2.out).mono ?_)
        rintro e w3 ⟨rfl, K3⟩
        have K3 := Lib.hid K3
        have D3 : Hid (Below w.heap.size w w3) := D2.out.trans (K3.out.mono D2.out.size)
        go_wp2_with fail
        (with_reducible refine (CZ.out _ D3.out).mono ?_)
        rintro e w4 ⟨rfl, K4⟩
        have K4 := Lib.hid K4
        have D4 : Hid (Below w.heap.size w w4) := D3.out.trans (K4.out.mono D3.out.size)
        go_wp2_with fail
        (with_reducible refine (CB.out _ D4.out).mono ?_)
        rintro e w5 ⟨rfl, K5⟩
        have K5 := Lib.hid K5
        have D5 : Hid (Below w.heap.size w w5) := D4.out.trans (K5.out.mono D4.out.size)
        go_wp2_with fail
        (with_reducible refine (CA.out _ D5.out).mono ?_)
        rintro e w6 ⟨rfl, K6⟩
        have K6 := Lib.hid K6
        have D6 : Hid (Below w.heap.size w w6) := D5.out.trans (K6.out.mono D5.out.size)
        go_wp2_with fail
        (with_reducible refine (LA.out _ D6.out).mono ?_)
        rintro e w7 ⟨rfl, K7⟩
        have K7 := Lib.hid K7
        have D7 : Hid (Below w.heap.size w w7) := D6.out.trans (K7.out.mono D6.out.size)
        go_wp2_with fail
        (with_reducible refine (LP.out _ D7.out).mono ?_)
        rintro e w8 ⟨rfl, K8⟩
        have K8 := Lib.hid K8
        have D8 : Hid (Below w.heap.size w w8) := D7.out.trans (K8.out.mono D7.out.size)
        go_wp2_with fail
        (with_reducible refine (LP.out _ D8.out).mono ?_)
        rintro e w9 ⟨rfl, K9⟩
        have K9 := Lib.hid K9
        have D9 : Hid (Below w.heap.size w w9) := D8.out.trans (K9.out.mono D8.out.size)
        go_wp2
        go_ret
        exact ⟨rfl, D9.out⟩
      have hz3 : z < 0 := by omega
      clear hz1 hz2 hz
      go_enter Try.func10, Try.ntmps10
      go_wp2_with fail
      (with_reducible refine (lives_any _).mono ?_)
      rintro e w1 ⟨rfl, K1⟩
      have K1 := Lib.hid K1
      have D1 : Hid (Below w.heap.size w w1) := D0.out.trans (K1.out.mono D0.out.size)
      go_wp2_with fail
      (with_reducible refine (CX.out _ D1.out).mono ?_)
      rintro e w2 ⟨rfl, K2⟩
      have K2 := Lib.hid K2
      have D2 : Hid (Below w.heap.size w w2) := D1.out.trans (K2.out.mono D1.out.size)
      go_wp2_with fail
      (with_reducible refine (CY.out _ D2.out).mono ?_)
      rintro e w3 ⟨rfl, K3⟩
      have K3 := Lib.hid K3
      have D3 : Hid (Below w.heap.size w w3) := D2.out.trans (K3.out.mono D2.out.size)
      go_wp2_with fail
      (with_reducible refine (CZ.out _ D3.out).mono ?_)
      rintro e w4 ⟨rfl, K4⟩
      have K4 := Lib.hid K4
      have D4 : Hid (Below w.heap.size w w4) := D3.out.trans (K4.out.mono D3.out.size)
      go_wp2_with fail
      (with_reducible refine (CB.out _ D4.out).mono ?_)
      rintro e w5 ⟨rfl, K5⟩
      have K5 := Lib.hid K5
      have D5 : Hid (Below w.heap.size w w5) := D4.out.trans (K5.out.mono D4.out.size)
      go_wp2_with fail
      (with_reducible refine (CA.out _ D5.out).mono ?_)
      rintro e w6 ⟨rfl, K6⟩
      have K6 := Lib.hid K6
      have D6 : Hid (Below w.heap.size w w6) := D5.out.trans (K6.out.mono D5.out.size)
      go_wp2_with fail
      (with_reducible refine (LA.out _ D6.out).mono ?_)
      rintro e w7 ⟨rfl, K7⟩
      have K7 := Lib.hid K7
      have D7 : Hid (Below w.heap.size w w7) := D6.out.trans (K7.out.mono D6.out.size)
      go_wp2_with fail
      (with_reducible refine (LP.out _ D7.out).mono ?_)
      rintro e w8 ⟨rfl, K8⟩
      have K8 := Lib.hid K8
      have D8 : Hid (Below w.heap.size w w8) := D7.out.trans (K8.out.mono D7.out.size)
      go_wp2_with fail
      (with_reducible refine (LP.out _ D8.out).mono ?_)
      rintro e w9 ⟨rfl, K9⟩
      have K9 := Lib.hid K9
      have D9 : Hid (Below w.heap.size w w9) := D8.out.trans (K9.out.mono D8.out.size)
      go_wp2
      go_ret
      exact ⟨rfl, D9.out⟩
    · obtain rfl := (hp rfl).2
      clear hp hq
      cases q
      · skip
        by_cases hy0 : 0 < y
        · clear hxy
          go_enter Try.func10, Try.ntmps10
          go_wp2_with fail
          (with_reducible refine (lives_any _).mono ?_)
          rintro e w1 ⟨rfl, K1⟩
          have K1 := Lib.hid K1
          have D1 : Hid (Below w.heap.size w w1) := D0.out.trans (K1.out.mono D0.out.size)
          go_wp2_with fail
          (with_reducible refine (CX.out _ D1.out).mono ?_)
          rintro e w2 ⟨rfl, K2⟩
          have K2 := Lib.hid K2
          have D2 : Hid (Below w.heap.size w w2) := D1.out.trans (K2.out.mono D1.out.size)
          go_wp2_with fail
          (with_reducible refine (CY.out _ D2.out).mono ?_)
          rintro e w3 ⟨rfl, K3⟩
          have K3 := Lib.hid K3
          have D3 : Hid (Below w.heap.size w w3) := D2.out.trans (K3.out.mono D2.out.size)
          go_wp2_with fail
          (with_reducible refine (CZ.out _ D3.out).mono ?_)
          rintro e w4 ⟨rfl, K4⟩
          have K4 := Lib.hid K4
          have D4 : Hid (Below w.heap.size w w4) := D3.out.trans (K4.out.mono D3.out.size)
          go_wp2_with fail
          (with_reducible refine (CB.out _ D4.out).mono ?_)
          rintro e w5 ⟨rfl, K5⟩
          have K5 := Lib.hid K5
          have D5 : Hid (Below w.heap.size w w5) := D4.out.trans (K5.out.mono D4.out.size)
          go_wp2_with fail
          (with_reducible refine (CA.out _ D5.out).mono ?_)
          rintro e w6 ⟨rfl, K6⟩
          have K6 := Lib.hid K6
          have D6 : Hid (Below w.heap.size w w6) := D5.out.trans (K6.out.mono D5.out.size)
          go_wp2_with fail
          (with_reducible refine (LA.out _ D6.out).mono ?_)
          rintro e w7 ⟨rfl, K7⟩
          have K7 := Lib.hid K7
          have D7 : Hid (Below w.heap.size w w7) := D6.out.trans (K7.out.mono D6.out.size)
          go_wp2_with fail
          (with_reducible refine (LP.out _ D7.out).mono ?_)
          rintro e w8 ⟨rfl, K8⟩
          have K8 := Lib.hid K8
          have D8 : Hid (Below w.heap.size w w8) := D7.out.trans (K8.out.mono D7.out.size)
          go_wp2_with fail
          (with_reducible refine (LP.out _ D8.out).mono ?_)
          rintro e w9 ⟨rfl, K9⟩
          have K9 := Lib.hid K9
          have D9 : Hid (Below w.heap.size w w9) := D8.out.trans (K9.out.mono D8.out.size)
          go_wp2_with fail
          (with_reducible refine (LQ.out _ D9.out).mono ?_)
          rintro e w10 ⟨rfl, K10⟩
          have K10 := Lib.hid K10
          have D10 : Hid (Below w.heap.size w w10) := D9.out.trans (K10.out.mono D9.out.size)
          go_wp2
          go_ret
          exact ⟨rfl, D10.out⟩
        have hy : y ≤ 0 := by omega
        obtain ⟨hz1, hz2⟩ := hxy (by omega) hy
        by_cases hz : z = 0
        · obtain rfl := (hz2 hz).2
          subst hz
          clear hz1 hz2
          go_enter Try.func10, Try.ntmps10
          go_wp2_with fail
          (with_reducible refine (lives_any _).mono ?_)
          rintro e w1 ⟨rfl, K1⟩
          have K1 := Lib.hid K1
          have D1 : Hid (Below w.heap.size w w1) := D0.out.trans (K1.out.mono D0.out.size)
          go_wp2_with fail
          (with_reducible refine (CX.out _ D1.out).mono ?_)
          rintro e w2 ⟨rfl, K2⟩
          have K2 := Lib.hid K2
          have D2 : Hid (Below w.heap.size w w2) := D1.out.trans (K2.out.mono D1.out.size)
          go_wp2_with fail
          (with_reducible refine (CY.out _ D2.out).mono ?_)
          rintro e w3 ⟨rfl, K3⟩
          have K3 := Lib.hid K3
          have D3 : Hid (Below w.heap.size w w3) := D2.out.trans (K3.out.mono D2.out.size)
          go_wp2_with fail
          (with_reducible refine (CZ.out _ D3.out).mono ?_)
          rintro e w4 ⟨rfl, K4⟩
          have K4 := Lib.hid K4
          have D4 : Hid (Below w.heap.size w w4) := D3.out.trans (K4.out.mono D3.out.size)
          go_wp2_with fail
          (with_reducible refine (CB.out _ D4.out).mono ?_)
          rintro e w5 ⟨rfl, K5⟩
          have K5 := Lib.hid K5
          have D5 : Hid (Below w.heap.size w w5) := D4.out.trans (K5.out.mono D4.out.size)
          go_wp2_with fail
          (with_reducible refine (CA.out _ D5.out).mono ?_)
          rintro e w6 ⟨rfl, K6⟩
          have K6 := Lib.hid K6
          have D6 : Hid (Below w.heap.size w w6) := D5.out.trans (K6.out.mono D5.out.size)
          go_wp2_with fail
          (with_reducible refine (LA.out _ D6.out).mono ?_)
          rintro e w7 ⟨rfl, K7⟩
          have K7 := Lib.hid K7
          have D7 : Hid (Below w.heap.size w w7) := D6.out.trans (K7.out.mono D6.out.size)
          go_wp2_with fail
          (with_reducible refine (LP.out _ D7.out).mono ?_)
          rintro e w8 ⟨rfl, K8⟩
          have K8 := Lib.hid K8
          have D8 : Hid (Below w.heap.size w w8) := D7.out.trans (K8.out.mono D7.out.size)
          go_wp2_with fail
          (with_reducible refine (LP.out _ D8.out).mono ?_)
          rintro e w9 ⟨rfl, K9⟩
          have K9 := Lib.hid K9
          have D9 : Hid (Below w.heap.size w w9) := D8.out.trans (K9.out.mono D8.out.size)
          go_wp2_with fail
          (with_reducible refine (LQ.out _ D9.out).mono ?_)
          rintro e w10 ⟨rfl, K10⟩
          have K10 := Lib.hid K10
          have D10 : Hid (Below w.heap.size w w10) := D9.out.trans (K10.out.mono D9.out.size)
          go_wp2
          go_ret
          exact ⟨rfl, D10.out⟩
        have hz3 : z < 0 := by omega
        clear hz1 hz2 hz
        go_enter Try.func10, Try.ntmps10
        go_wp2_with fail
        (with_reducible refine (lives_any _).mono ?_)
        rintro e w1 ⟨rfl, K1⟩
        have K1 := Lib.hid K1
        have D1 : Hid (Below w.heap.size w w1) := D0.out.trans (K1.out.mono D0.out.size)
        go_wp2_with fail
        (with_reducible refine (CX.out _ D1.out).mono ?_)
        rintro e w2 ⟨rfl, K2⟩
        have K2 := Lib.hid K2
        have D2 : Hid (Below w.heap.size w w2) := D1.out.trans (K2.out.mono D1.out.size)
        go_wp2_with fail
        (with_reducible refine (CY.out _ D2.out).mono ?_)
        rintro e w3 ⟨rfl, K3⟩
        have K3 := Lib.hid K3
        have D3 : Hid (Below w.heap.size w w3) := D2.out.trans (K3.out.mono D2.out.size)
        go_wp2_with fail
        (with_reducible refine (CZ.out _ D3.out).mono ?_)
        rintro e w4 ⟨rfl, K4⟩
        have K4 := Lib.hid K4
        have D4 : Hid (Below w.heap.size w w4) := D3.out.trans (K4.out.mono D3.out.size)
        go_wp2_with fail
        (with_reducible refine (CB.out _ D4.out).mono ?_)
        rintro e w5 ⟨rfl, K5⟩
        have K5 := Lib.hid K5
        have D5 : Hid (Below w.heap.size w w5) := D4.out.trans (K5.out.mono D4.out.size)
        go_wp2_with fail
        (with_reducible refine (CA.out _ D5.out).mono ?_)
        rintro e w6 ⟨rfl, K6⟩
        have K6 := Lib.hid K6
        have D6 : Hid (Below w.heap.size w w6) := D5.out.trans (K6.out.mono D5.out.size)
        go_wp2_with fail
        (with_reducible refine (LA.out _ D6.out).mono ?_)
        rintro e w7 ⟨rfl, K7⟩
        have K7 := Lib.hid K7
        have D7 : Hid (Below w.heap.size w w7) := D6.out.trans (K7.out.mono D6.out.size)
        go_wp2_with fail
        (with_reducible refine (LP.out _ D7.out).mono ?_)
        rintro e w8 ⟨rfl, K8⟩
        have K8 := Lib.hid K8
        have D8 : Hid (Below w.heap.size w w8) := D7.out.trans (K8.out.mono D7.out.size)
        go_wp2_with fail
        (with_reducible refine (LP.out _ D8.out).mono ?_)
        rintro e w9 ⟨rfl, K9⟩
        have K9 := Lib.hid K9
        have D9 : Hid (Below w.heap.size w w9) := D8.out.trans (K9.out.mono D8.out.size)
        go_wp2_with fail
        (with_reducible refine (LQ.out _ D9.out).mono ?_)
        rintro e w10 ⟨rfl, K10⟩
        have K10 := Lib.hid K10
        have D10 : Hid (Below w.heap.size w w10) := D9.out.trans (K10.out.mono D9.out.size)
        go_wp2
        go_ret
        exact ⟨rfl, D10.out⟩
      · skip
        by_cases hy0 : 0 < y
        · clear hxy
          go_enter Try.func10, Try.ntmps10
          go_wp2_with fail
          (with_reducible refine (lives_any _).mono ?_)
          rintro e w1 ⟨rfl, K1⟩
          have K1 := Lib.hid K1
          have D1 : Hid (Below w.heap.size w w1) := D0.out.trans (K1.out.mono D0.out.size)
          go_wp2_with fail
          (with_reducible refine (CX.out _ D1.out).mono ?_)
          rintro e w2 ⟨rfl, K2⟩
          have K2 := Lib.hid K2
          have D2 : Hid (Below w.heap.size w w2) := D1.out.trans (K2.out.mono D1.out.size)
          go_wp2_with fail
          (with_reducible refine (CY.out _ D2.out).mono ?_)
          rintro e w3 ⟨rfl, K3⟩
          have K3 := Lib.hid K3
          have D3 : Hid (Below w.heap.size w w3) := D2.out.trans (K3.out.mono D2.out.size)
          go_wp2_with fail
          (with_reducible refine (CZ.out _ D3.out).mono ?_)
          rintro e w4 ⟨rfl, K4⟩
          have K4 := Lib.hid K4
          have D4 : Hid (Below w.heap.size w w4) := D3.out.trans (K4.out.mono D3.out.size)
          go_wp2_with fail
          (with_reducible refine (CB.out _ D4.out).mono ?_)
          rintro e w5 ⟨rfl, K5⟩
          have K5 := Lib.hid K5
          have D5 : Hid (Below w.heap.size w w5) := D4.out.trans (K5.out.mono D4.out.size)
          go_wp2_with fail
          (with_reducible refine (CA.out _ D5.out).mono ?_)
          rintro e w6 ⟨rfl, K6⟩
          have K6 := Lib.hid K6
          have D6 : Hid (Below w.heap.size w w6) := D5.out.trans (K6.out.mono D5.out.size)
          go_wp2_with fail
          (with_reducible refine (LA.out _ D6.out).mono ?_)
          rintro e w7 ⟨rfl, K7⟩
          have K7 := Lib.hid K7
          have D7 : Hid (Below w.heap.size w w7) := D6.out.trans (K7.out.mono D6.out.size)
          go_wp2_with fail
          (with_reducible refine (LP.out _ D7.out).mono ?_)
          rintro e w8 ⟨rfl, K8⟩
          have K8 := Lib.hid K8
          have D8 : Hid (Below w.heap.size w w8) := D7.out.trans (K8.out.mono D7.out.size)
          go_wp2_with fail
          (with_reducible refine (LP.out _ D8.out).mono ?_)
          rintro e w9 ⟨rfl, K9⟩
          have K9 := Lib.hid K9
          have D9 : Hid (Below w.heap.size w w9) := D8.out.trans (K9.out.mono D8.out.size)
          go_wp2_with fail
          (with_reducible refine (LQ.out _ D9.out).mono ?_)
          rintro e w10 ⟨rfl, K10⟩
          have K10 := Lib.hid K10
          have D10 : Hid (Below w.heap.size w w10) := D9.out.trans (K10.out.mono D9.out.size)
          go_wp2
          go_ret
          exact ⟨rfl, D10.out⟩
        have hy : y ≤ 0 := by omega
        obtain ⟨hz1, hz2⟩ := hxy (by omega) hy
        by_cases hz : z = 0
        · obtain rfl := (hz2 hz).2
          subst hz
          clear hz1 hz2
          go_enter Try.func10, Try.ntmps10
          go_wp2_with fail
          (with_reducible refine (lives_any _).mono ?_)
          rintro e w1 ⟨rfl, K1⟩
          have K1 := Lib.hid K1
          have D1 : Hid (Below w.heap.size w w1) := D0.out.trans (K1.out.mono D0.out.size)
          go_wp2_with fail
          (with_reducible refine (CX.out _ D1.out).mono ?_)
          rintro e w2 ⟨rfl, K2⟩
          have K2 := Lib.hid K2
          have D2 : Hid (Below w.heap.size w w2) := D1.out.trans (K2.out.mono D1.out.size)
          go_wp2_with fail
          (with_reducible refine (CY.out _ D2.out).mono ?_)
          rintro e w3 ⟨rfl, K3⟩
          have K3 := Lib.hid K3
          have D3 : Hid (Below w.heap.size w w3) := D2.out.trans (K3.out.mono D2.out.size)
          go_wp2_with fail
          (with_reducible refine (CZ.out _ D3.out).mono ?_)
          rintro e w4 ⟨rfl, K4⟩
          have K4 := Lib.hid K4
          have D4 : Hid (Below w.heap.size w w4) := D3.out.trans (K4.out.mono D3.out.size)
          go_wp2_with fail
          (with_reducible refine (CB.out _ D4.out).mono ?_)
          rintro e w5 ⟨rfl, K5⟩
          have K5 := Lib.hid K5
          have D5 : Hid (Below w.heap.size w w5) := D4.out.trans (K5.out.mono D4.out.size)
          go_wp2_with fail
          (with_reducible refine (CA.out _ D5.out).mono ?_)
          rintro e w6 ⟨rfl, K6⟩
          have K6 := Lib.hid K6
          have D6 : Hid (Below w.heap.size w w6) := D5.out.trans (K6.out.mono D5.out.size)
          go_wp2_with fail
          (with_reducible refine (LA.out _ D6.out).mono ?_)
          rintro e w7 ⟨rfl, K7⟩
          have K7 := Lib.hid K7
          have D7 : Hid (Below w.heap.size w w7) := D6.out.trans (K7.out.mono D6.out.size)
          go_wp2_with fail
          (with_reducible refine (LP.out _ D7.out).mono ?_)
          rintro e w8 ⟨rfl, K8⟩
          have K8 := Lib.hid K8
          have D8 : Hid (Below w.heap.size w w8) := D7.out.trans (K8.out.mono D7.out.size)
          go_wp2_with fail
          (with_reducible refine (LP.out _ D8.out).mono ?_)
          rintro e w9 ⟨rfl, K9⟩
          have K9 := Lib.hid K9
          have D9 : Hid (Below w.heap.size w w9) := D8.out.trans (K9.out.mono D8.out.size)
          go_wp2_with fail
          (with_reducible refine (LQ.out _ D9.out).mono ?_)
          rintro e w10 ⟨rfl, K10⟩
          have K10 := Lib.hid K10
          have D10 : Hid (Below w.heap.size w w10) := D9.out.trans (K10.out.mono D9.out.size)
          go_wp2
          go_ret
          exact ⟨rfl, D10.out⟩
        have hz3 : z < 0 := by omega
        clear hz1 hz2 hz
        go_enter Try.func10, Try.ntmps10
        go_wp2_with fail
        (with_reducible refine (lives_any _).mono ?_)
        rintro e w1 ⟨rfl, K1⟩
        have K1 := Lib.hid K1
        have D1 : Hid (Below w.heap.size w w1) := D0.out.trans (K1.out.mono D0.out.size)
        go_wp2_with fail
        (with_reducible refine (CX.out _ D1.out).mono ?_)
        rintro e w2 ⟨rfl, K2⟩
        have K2 := Lib.hid K2
        have D2 : Hid (Below w.heap.size w w2) := D1.out.trans (K2.out.mono D1.out.size)
        go_wp2_with fail
        (with_reducible refine (CY.out _ D2.out).mono ?_)
        rintro e w3 ⟨rfl, K3⟩
        have K3 := Lib.hid K3
        have D3 : Hid (Below w.heap.size w w3) := D2.out.trans (K3.out.mono D2.out.size)
        go_wp2_with fail
        (with_reducible refine (CZ.out _ D3.out).mono ?_)
        rintro e w4 ⟨rfl, K4⟩
        have K4 := Lib.hid K4
        have D4 : Hid (Below w.heap.size w w4) := D3.out.trans (K4.out.mono D3.out.size)
        go_wp2_with fail
        (with_reducible refine (CB.out _ D4.out).mono ?_)
        rintro e w5 ⟨rfl, K5⟩
        have K5 := Lib.hid K5
        have D5 : Hid (Below w.heap.size w w5) := D4.out.trans (K5.out.mono D4.out.size)
        go_wp2_with fail
        (with_reducible refine (CA.out _ D5.out).mono ?_)
        rintro e w6 ⟨rfl, K6⟩
        have K6 := Lib.hid K6
        have D6 : Hid (Below w.heap.size w w6) := D5.out.trans (K6.out.mono D5.out.size)
        go_wp2_with fail
        (with_reducible refine (LA.out _ D6.out).mono ?_)
        rintro e w7 ⟨rfl, K7⟩
        have K7 := Lib.hid K7
        have D7 : Hid (Below w.heap.size w w7) := D6.out.trans (K7.out.mono D6.out.size)
        go_wp2_with fail
        (with_reducible refine (LP.out _ D7.out).mono ?_)
        rintro e w8 ⟨rfl, K8⟩
        have K8 := Lib.hid K8
        have D8 : Hid (Below w.heap.size w w8) := D7.out.trans (K8.out.mono D7.out.size)
        go_wp2_with fail
        (with_reducible refine (LP.out _ D8.out).mono ?_)
        rintro e w9 ⟨rfl, K9⟩
        have K9 := Lib.hid K9
        have D9 : Hid (Below w.heap.size w w9) := D8.out.trans (K9.out.mono D8.out.size)
        go_wp2_with fail
        (with_reducible refine (LQ.out _ D9.out).mono ?_)
        rintro e w10 ⟨rfl, K10⟩
        have K10 := Lib.hid K10
        have D10 : Hid (Below w.heap.size w w10) := D9.out.trans (K10.out.mono D9.out.size)
        go_wp2
        go_ret
        exact ⟨rfl, D10.out⟩

theorem lex_walk (A B C : Option Addr) (a b c : List Int) (ca cb cc : Nat) (w : World) (ra : ReadsV w A a) (rb : ReadsV w B b) (rc : ReadsV w C c) :
    Calls Try.prog 10 #[.slice A a.length ca, .slice B b.length cb, .slice C c.length cc] w (BPost w.heap.size w true) := by
  by_cases h : 100 < a.length ∨ 100 < b.length ∨ 100 < c.length
  · exact lex_long A B C _ _ _ ca cb cc w h
  have hn : a.length ≤ 100 := by omega
  have hm : b.length ≤ 100 := by omega
  have hl : c.length ≤ 100 := by omega
  refine lex_core A B C _ _ _ ca cb cc w hn hm hl (cmpL a b) (cmpL b c) (cmpL a c) (leqV a b) (leqV b a) ?_ ?_ ?_ ?_ ?_ ?_ ?_ ?_ ?_ ?_ ?_ ?_ ?_
  · exact fun W hW => cmp_law A B a b ca cb W (ra.below hW (Nat.le_refl _)) (rb.below hW (Nat.le_refl _)) hn hm
  · exact fun W hW => cmp_law B C b c cb cc W (rb.below hW (Nat.le_refl _)) (rc.below hW (Nat.le_refl _)) hm hl
  · exact fun W hW => cmp_law A C a c ca cc W (ra.below hW (Nat.le_refl _)) (rc.below hW (Nat.le_refl _)) hn hl
  · rw [← cmpL_neg]
    exact fun W hW => cmp_law B A b a cb ca W (rb.below hW (Nat.le_refl _)) (ra.below hW (Nat.le_refl _)) hm hn
  · rw [← cmpL_self a]
    exact fun W hW => cmp_law A A a a ca ca W (ra.below hW (Nat.le_refl _)) (ra.below hW (Nat.le_refl _)) hn hn
  · have e := leqV_self a
    exact fun W hW => by
      rw [← e]
      exact leq_law A A a a ca ca W (ra.below hW (Nat.le_refl _)) (ra.below hW (Nat.le_refl _)) hn
  · exact fun W hW => leq_law A B a b ca cb W (ra.below hW (Nat.le_refl _)) (rb.below hW (Nat.le_refl _)) hn
  · exact fun W hW => leq_law B A b a cb ca W (rb.below hW (Nat.le_refl _)) (ra.below hW (Nat.le_refl _)) hm
  · have := cmpL_cases a b; omega
  · have := cmpL_cases a b; omega
  · intro h1 h2
    rcases cmpL_cases a b with h3 | h3 | h3
    · rcases cmpL_cases b c with h4 | h4 | h4
      · have := cmpL_lt h3 h4; omega
      · obtain rfl := cmpL_zero h4; omega
      · omega
    · obtain rfl := cmpL_zero h3
      rw [cmpL_self]
      exact ⟨h2, fun h => ⟨rfl, h⟩⟩
    · omega
  · intro h
    have h1 := leq_cmp h
    exact ⟨by omega, (leqV_of h).1⟩
  · exact fun h1 h2 => leq_both h1 h2
end Go.Proofs.Ytcihdecfganohaa
