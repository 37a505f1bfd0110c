/- The law on sums and differences. -/
import Derived.Test.YtcihdecfganohaaV12
import Derived.Test.YtcihdecfganohaaV14M
import Derived.IntWalk
namespace Go.Proofs.Ytcihdecfganohaa
open Go.RowKit

def VecN (g : Nat) (w : World) (n : Nat) (L : List Int) (e : Ending) (w' : World) : Prop :=
  ∃ A c, e = .returned (.tuple #[.slice A n c, .int .i64 0]) ∧ ReadsV w' A L ∧ Below g w w'
theorem vecN {p : Program} {f : FuncId} {args : Array Value} {W w : World} {g n : Nat} {L : List Int} (hl : L.length = n) (h : Calls p f args W (VecPost g w (L, 0))) : Calls p f args W (VecN g w n L) :=
  h.mono fun e w' ⟨A, c, he, hr, hb⟩ => ⟨A, c, by rw [he]; show Ending.returned (.tuple #[.slice A L.length c, .int .i64 0]) = _; rw [hl], hr, hb⟩
theorem at_of_n {w : World} {A : Option Addr} {zs : List Int} {n : Nat} (h : ReadsV w A zs) (hl : zs.length = n) (k : Nat) (hk : k < n) : ∃ b off, A = some ⟨b, off, none⟩ ∧ w.cell? ⟨b, off + k, none⟩ = some (.int .i64 (at0 zs k)) :=
  at_of_reads h k (by omega)

set_option maxHeartbeats 8000000 in
set_option maxRecDepth 100000 in
theorem group_walk (A B : Option Addr) (a b : List Int) (ca cb : Nat) (w : World) (ia : In64 a) (ib : In64 b) (ra : ReadsV w A a) (rb : ReadsV w B b) :
    Calls Try.prog 7 #[.slice A a.length ca, .slice B b.length cb] w (BPost w.heap.size w true) := by
  have Sa : Hid (∀ W, Below w.heap.size w W → Calls Try.prog 32 #[.slice A a.length ca] W (BPost W.heap.size W (smallV a))) := fun W hW => small_law A a ca W (ra.below hW (Nat.le_refl _))
  have Sb : Hid (∀ W, Below w.heap.size w W → Calls Try.prog 32 #[.slice B b.length cb] W (BPost W.heap.size W (smallV b))) := fun W hW => small_law B b cb W (rb.below hW (Nat.le_refl _))
  have D0 : Hid (Below w.heap.size w w) := Below.refl _ _
  cases ha : smallV a
  · rw [ha] at Sa
    clear ra rb ha
    generalize a.length = n at *
    generalize b.length = m at *
    go_enter Try.func7, Try.ntmps7
    go_wp2_with fail
    (with_reducible refine (lives_any _).mono ?_)
    rintro e w1 ⟨rfl, K1⟩
    have K1 := Lib.hid K1
    have D1 : Hid (Below w.heap.size w w1) := D0.out.trans (K1.out.mono D0.out.size)
    go_wp2_with fail
    (with_reducible refine (Sa.out _ D1.out).mono ?_)
    rintro e w2 ⟨rfl, K2⟩
    have K2 := Lib.hid K2
    have D2 : Hid (Below w.heap.size w w2) := D1.out.trans (K2.out.mono D1.out.size)
    go_wp2
    go_ret
    exact ⟨rfl, D2.out⟩
  cases hb : smallV b
  · rw [ha] at Sa
    rw [hb] at Sb
    clear ra rb ha hb
    generalize a.length = n at *
    generalize b.length = m at *
    go_enter Try.func7, Try.ntmps7
    go_wp2_with fail
    (with_reducible refine (lives_any _).mono ?_)
    rintro e w1 ⟨rfl, K1⟩
    have K1 := Lib.hid K1
    have D1 : Hid (Below w.heap.size w w1) := D0.out.trans (K1.out.mono D0.out.size)
    go_wp2_with fail
    (with_reducible refine (Sa.out _ D1.out).mono ?_)
    rintro e w2 ⟨rfl, K2⟩
    have K2 := Lib.hid K2
    have D2 : Hid (Below w.heap.size w w2) := D1.out.trans (K2.out.mono D1.out.size)
    go_wp2_with fail
    (with_reducible refine (Sb.out _ D2.out).mono ?_)
    rintro e w3 ⟨rfl, K3⟩
    have K3 := Lib.hid K3
    have D3 : Hid (Below w.heap.size w w3) := D2.out.trans (K3.out.mono D2.out.size)
    go_wp2
    go_ret
    exact ⟨rfl, D3.out⟩
  by_cases hlb : a.length = b.length
  rotate_left
  · rw [ha] at Sa
    rw [hb] at Sb
    clear ra rb ha hb
    generalize a.length = n at *
    generalize b.length = m at *
    have h1 : (n != m) = true := by simpa using hlb
    have h2 : ((n : Int) != (m : Int)) = true := by simp; omega
    go_enter Try.func7, Try.ntmps7
    go_wp2_with fail
    (with_reducible refine (lives_any _).mono ?_)
    rintro e w1 ⟨rfl, K1⟩
    have K1 := Lib.hid K1
    have D1 : Hid (Below w.heap.size w w1) := D0.out.trans (K1.out.mono D0.out.size)
    go_wp2_with fail
    (with_reducible refine (Sa.out _ D1.out).mono ?_)
    rintro e w2 ⟨rfl, K2⟩
    have K2 := Lib.hid K2
    have D2 : Hid (Below w.heap.size w w2) := D1.out.trans (K2.out.mono D1.out.size)
    go_wp2_with fail
    (with_reducible refine (Sb.out _ D2.out).mono ?_)
    rintro e w3 ⟨rfl, K3⟩
    have K3 := Lib.hid K3
    have D3 : Hid (Below w.heap.size w w3) := D2.out.trans (K3.out.mono D2.out.size)
    go_wp2
    go_ret
    exact ⟨rfl, D3.out⟩
  · obtain ⟨S, D, N, f1, f2, f3, f4, f5, f6, f7, lS, lD, lN, iS, iN, hat⟩ := group_facts ha hb hlb
    have h20 := smallV_len ha
    have HB : Hid (∀ k, -1048576 ≤ at0 a k ∧ at0 a k ≤ 1048576 ∧ -1048576 ≤ at0 b k ∧ at0 b k ≤ 1048576) := fun k => ⟨(smallV_at ha k).1, (smallV_at ha k).2, (smallV_at hb k).1, (smallV_at hb k).2⟩
    have C1 : Hid (∀ W, Below w.heap.size w W → Calls Try.prog 12 #[.slice A a.length ca, .slice B b.length cb] W (VecN W.heap.size W a.length S)) := fun W hW => vecN lS (by
      rw [← f1]
      exact add_law A B a b ca cb W ia ib (ra.below hW (Nat.le_refl _)) (rb.below hW (Nat.le_refl _)) (by omega))
    have C2 : Hid (∀ W, Below w.heap.size w W → Calls Try.prog 12 #[.slice B b.length cb, .slice A a.length ca] W (VecN W.heap.size W a.length S)) := fun W hW => vecN lS (by
      rw [← f2]
      exact add_law B A b a cb ca W ib ia (rb.below hW (Nat.le_refl _)) (ra.below hW (Nat.le_refl _)) (by omega))
    have C3 : Hid (∀ W A1 c1, Below w.heap.size w W → ReadsV W A1 S → Calls Try.prog 14 #[.slice A1 a.length c1, .slice B b.length cb] W (VecN W.heap.size W a.length a)) := fun W A1 c1 hW hr => vecN rfl (by
      rw [← f3, ← lS]
      exact sub_law A1 B S b c1 cb W iS ib hr (rb.below hW (Nat.le_refl _)) (by omega))
    have C4 : Hid (∀ W, Below w.heap.size w W → Calls Try.prog 14 #[.slice A a.length ca, .slice B b.length cb] W (VecN W.heap.size W a.length D)) := fun W hW => vecN lD (by
      rw [← f4]
      exact sub_law A B a b ca cb W ia ib (ra.below hW (Nat.le_refl _)) (rb.below hW (Nat.le_refl _)) (by omega))
    have C5 : Hid (∀ W, Below w.heap.size w W → Calls Try.prog 21 #[.slice A a.length ca, .int .i64 1, .slice B b.length cb, .int .i64 (-1)] W (VecN W.heap.size W a.length D)) := fun W hW => vecN lD (by
      rw [← f5]
      exact cmb_law A B a b ca cb 1 (-1) W ia ib (ra.below hW (Nat.le_refl _)) (rb.below hW (Nat.le_refl _)) (by omega) (by omega) (by omega) (by omega) (by omega))
    have C6 : Hid (∀ W, Below w.heap.size w W → Calls Try.prog 19 #[.slice B b.length cb, .int .i64 (-1)] W (VecN W.heap.size W a.length N)) := fun W hW => vecN lN (by
      rw [← f6]
      exact scl_law B b cb (-1) W ib (rb.below hW (Nat.le_refl _)) (by omega) (by omega) (by omega))
    have C7 : Hid (∀ W A1 c1, Below w.heap.size w W → ReadsV W A1 N → Calls Try.prog 12 #[.slice A a.length ca, .slice A1 a.length c1] W (VecN W.heap.size W a.length D)) := fun W A1 c1 hW hr => vecN lD (by
      have e := add_law A A1 a N ca c1 W ia iN (ra.below hW (Nat.le_refl _)) hr (by omega)
      rw [f7, lN] at e
      exact e)
    rw [ha] at Sa
    rw [hb] at Sb
    have RA := Lib.hid ra
    have RB := Lib.hid rb
    have HAT := Lib.hid hat
    clear ra rb ha hb f1 f2 f3 f4 f5 f6 f7 iS iN ia ib hat
    generalize hn : a.length = n at *
    have HN := Lib.hid hn
    clear hn
    generalize hm : b.length = m at *
    have HM := Lib.hid hm
    clear hm
    subst hlb
    have LS := Lib.hid lS
    have LD := Lib.hid lD
    clear lS lD lN
    go_enter Try.func7, Try.ntmps7
    go_wp2_with fail
    (with_reducible refine (lives_any _).mono ?_)
    rintro e w1 ⟨rfl, K1⟩
    have K1 := Lib.hid K1
    have D1 : Hid (Below w.heap.size w w1) := D0.out.trans (K1.out.mono D0.out.size)
    go_wp2_with fail
    (with_reducible refine (Sa.out _ D1.out).mono ?_)
    rintro e w2 ⟨rfl, K2⟩
    have K2 := Lib.hid K2
    have D2 : Hid (Below w.heap.size w w2) := D1.out.trans (K2.out.mono D1.out.size)
    go_wp2_with fail
    (with_reducible refine (Sb.out _ D2.out).mono ?_)
    rintro e w3 ⟨rfl, K3⟩
    have K3 := Lib.hid K3
    have D3 : Hid (Below w.heap.size w w3) := D2.out.trans (K3.out.mono D2.out.size)
    go_wp2_with fail
    (with_reducible refine (C1.out _ D3.out).mono ?_)
    rintro e w4 ⟨A4, c4, rfl, R4, K4⟩
    have R4 := Lib.hid R4
    have K4 := Lib.hid K4
    have D4 : Hid (Below w.heap.size w w4) := D3.out.trans (K4.out.mono D3.out.size)
    go_wp2_with fail
    (with_reducible refine (C2.out _ D4.out).mono ?_)
    rintro e w5 ⟨A5, c5, rfl, R5, K5⟩
    have R5 := Lib.hid R5
    have K5 := Lib.hid K5
    have D5 : Hid (Below w.heap.size w w5) := D4.out.trans (K5.out.mono D4.out.size)
    have R4 := Lib.hid (R4.out.below K5.out (Nat.le_refl _))
    go_wp2_with fail
    (with_reducible refine (C3.out _ _ _ D5.out R4.out).mono ?_)
    rintro e w6 ⟨A6, c6, rfl, R6, K6⟩
    have R6 := Lib.hid R6
    have K6 := Lib.hid K6
    have D6 : Hid (Below w.heap.size w w6) := D5.out.trans (K6.out.mono D5.out.size)
    have R4 := Lib.hid (R4.out.below K6.out (Nat.le_refl _))
    have R5 := Lib.hid (R5.out.below K6.out (Nat.le_refl _))
    go_wp2_with fail
    (with_reducible refine (C4.out _ D6.out).mono ?_)
    rintro e w7 ⟨A7, c7, rfl, R7, K7⟩
    have R7 := Lib.hid R7
    have K7 := Lib.hid K7
    have D7 : Hid (Below w.heap.size w w7) := D6.out.trans (K7.out.mono D6.out.size)
    have R4 := Lib.hid (R4.out.below K7.out (Nat.le_refl _))
    have R5 := Lib.hid (R5.out.below K7.out (Nat.le_refl _))
    have R6 := Lib.hid (R6.out.below K7.out (Nat.le_refl _))
    go_wp2_with fail
    (with_reducible refine (C5.out _ D7.out).mono ?_)
    rintro e w8 ⟨A8, c8, rfl, R8, K8⟩
    have R8 := Lib.hid R8
    have K8 := Lib.hid K8
    have D8 : Hid (Below w.heap.size w w8) := D7.out.trans (K8.out.mono D7.out.size)
    have R4 := Lib.hid (R4.out.below K8.out (Nat.le_refl _))
    have R5 := Lib.hid (R5.out.below K8.out (Nat.le_refl _))
    have R6 := Lib.hid (R6.out.below K8.out (Nat.le_refl _))
    have R7 := Lib.hid (R7.out.below K8.out (Nat.le_refl _))
    go_wp2_with fail
    (with_reducible refine (C6.out _ D8.out).mono ?_)
    rintro e w9 ⟨A9, c9, rfl, R9, K9⟩
    have R9 := Lib.hid R9
    have K9 := Lib.hid K9
    have D9 : Hid (Below w.heap.size w w9) := D8.out.trans (K9.out.mono D8.out.size)
    have R4 := Lib.hid (R4.out.below K9.out (Nat.le_refl _))
    have R5 := Lib.hid (R5.out.below K9.out (Nat.le_refl _))
    have R6 := Lib.hid (R6.out.below K9.out (Nat.le_refl _))
    have R7 := Lib.hid (R7.out.below K9.out (Nat.le_refl _))
    have R8 := Lib.hid (R8.out.below K9.out (Nat.le_refl _))
    go_wp2_with fail
    (with_reducible refine (C7.out _ _ _ D9.out R9.out).mono ?_)
    rintro e w10 ⟨A10, c10, rfl, R10, K10⟩
    have R10 := Lib.hid R10
    have K10 := Lib.hid K10
    have D10 : Hid (Below w.heap.size w w10) := D9.out.trans (K10.out.mono D9.out.size)
    have R4 := Lib.hid (R4.out.below K10.out (Nat.le_refl _))
    have R5 := Lib.hid (R5.out.below K10.out (Nat.le_refl _))
    have R6 := Lib.hid (R6.out.below K10.out (Nat.le_refl _))
    have R7 := Lib.hid (R7.out.below K10.out (Nat.le_refl _))
    have R8 := Lib.hid (R8.out.below K10.out (Nat.le_refl _))
    clear R9
    have hs10 := D10.out.size
    go_wp2_with fail
    go_loopw [19] (fun q wr => ∃ k : Nat, k ≤ n ∧ q = .int .i64 k ∧ Hid (Below w10.heap.size w10 wr)) (fun q _ => n - (intOf q).toNat)
    case atStart => exact ⟨0, by omega, rfl, Below.refl _ _⟩
    case round =>
      obtain ⟨k, hk, rfl, B1⟩ := hrel
      by_cases hlt : k < n
      · obtain ⟨ba, oa, e1, hx⟩ := at_of_n ((RA.out.below D10.out (Nat.le_refl _)).below B1.out (Nat.le_refl _)) HN.out k hlt
        obtain ⟨bb, ob, e2, hy⟩ := at_of_n ((RB.out.below D10.out (Nat.le_refl _)).below B1.out (Nat.le_refl _)) HM.out k hlt
        obtain ⟨b4, o4, e4, h4⟩ := at_of_n (R4.out.below B1.out (Nat.le_refl _)) LS.out k hlt
        obtain ⟨b5, o5, e5, h5⟩ := at_of_n (R5.out.below B1.out (Nat.le_refl _)) LS.out k hlt
        obtain ⟨b6, o6, e6, h6⟩ := at_of_n (R6.out.below B1.out (Nat.le_refl _)) HN.out k hlt
        obtain ⟨b7, o7, e7, h7⟩ := at_of_n (R7.out.below B1.out (Nat.le_refl _)) LD.out k hlt
        obtain ⟨b8, o8, e8, h8⟩ := at_of_n (R8.out.below B1.out (Nat.le_refl _)) LD.out k hlt
        obtain ⟨b10, o10, e10, h10⟩ := at_of_n (R10.out.below B1.out (Nat.le_refl _)) LD.out k hlt
        rw [(HAT.out k hlt).1] at h4 h5
        rw [(HAT.out k hlt).2] at h7 h8 h10
        obtain ⟨x1, x2, y1, y2⟩ := HB.out k
        subst e1 e2 e4 e5 e6 e7 e8 e10
        generalize at0 a k = x at *
        generalize at0 b k = y at *
        have hw1 : IntKind.i64.wrap (x + y) = x + y := IntWalk.i64_in _ (by omega)
        have hw2 : IntKind.i64.wrap (x - y) = x - y := IntWalk.i64_in _ (by omega)
        go_wp2_with fail
        go_quiet (fail)
        clear hw1 hw2
        go_wp2
        go_roundw
        case rel => exact ⟨k + 1, by omega, by go_num, below_drewN B1.out _⟩
        case measure => simp [intOf]; omega
      · go_wp2
        go_ret
        exact ⟨rfl, D10.out.trans (B1.out.mono hs10)⟩
end Go.Proofs.Ytcihdecfganohaa
