/- Event logs: the law Parses. -/
import Derived.Test.YtgjgohnomophnaaDoorEX
namespace Go.Proofs.YtgjgohnomophnaaDoor
open Go.RowKit

theorem parseF_len : ∀ (L : List Txt) (acc : List (List Txt)) (k : Nat), acc.length ≤ 64 → (parseF acc k L).1.length ≤ 64
  | [], _, _, h => h
  | x :: r, acc, k, h => by
    rw [parseF]
    by_cases he : lineE acc x ≠ 0
    · rw [if_pos he]; simp
    · rw [if_neg he]
      refine parseF_len r _ _ ?_
      by_cases hw : wordsL x = []
      · rw [lineN_none hw]; exact h
      · rw [lineN_some hw, List.length_append, List.length_singleton]
        by_cases ht : trE (wordsL x) = 0
        · by_cases hl : acc.length = 64
          · exact absurd (by rw [lineE_full hw ht hl]; decide) he
          · omega
        · exact absurd (by rw [lineE_bad hw ht]; exact ht) he
theorem parseL_len (s : Txt) : (parseL s).1.length ≤ 64 := by
  unfold parseL
  split
  · simp
  · exact parseF_len _ _ _ (Nat.zero_le _)
set_option maxHeartbeats 2000000 in
theorem parses_txt (s : Txt) (w : World) :
    Calls Tryd.prog 4 #[.string ⟨s.toArray⟩] w fun e w' => e = .returned (.bool true) ∧ Below w.heap.size w w' := by
  by_cases h4 : 4000 < s.length
  · have e4 : ((4000 : Int) < (s.length : Int)) = True := by simp; omega
    have CA := Lib.hid (alive_any w)
    go_enter Tryd.func4, Tryd.ntmps4
    go_wp2_with fail
    refine CA.out.mono ?_
    rintro e w1 ⟨rfl, K⟩
    have K := Lib.hid K
    go_wp2
    go_ret
    exact ⟨rfl, K.out⟩
  · have e4 : ((4000 : Int) < (s.length : Int)) = False := by simp; omega
    have CP := Lib.hid (parse_any s w (by omega))
    have CR := Lib.hid (fun W => rparse_any s W (by omega))
    have PL := parseL_len s
    have CA := Lib.hid alive_any
    generalize parseL s = r at *
    obtain ⟨rows, E, k⟩ := r
    dsimp only at PL
    go_enter Tryd.func4, Tryd.ntmps4
    go_wp2_with fail
    refine CP.out.mono ?_
    rintro e w1 ⟨A, c, L, rfl, hL, R, K⟩
    have hl : L.length ≤ 64 := by rw [← rowsL_len, hL]; exact PL
    replace hL := Lib.hid hL
    have R := Lib.hid R
    have K := Lib.hid K
    clear CP
    unfold flt
    have b1 := FBx.new w1 E k
    have k1 : Below w1.heap.size w1 (w1.alloc (.cells #[.int .i64 E, .int .i64 k] 27)) := (Below.refl _ _).alloc (Nat.le_refl _) _
    obtain ⟨w2, hw2⟩ : ∃ w2, w2 = w1.alloc (.cells #[.int .i64 E, .int .i64 k] 27) := ⟨_, rfl⟩
    rw [← hw2] at b1 k1
    have CR := CR.out w2
    rw [hw2] at CR
    replace CR := Lib.hid CR
    go_wp2_with fail
    refine CR.out.mono ?_
    rw [← hw2]
    clear CR hw2
    rintro e w3 ⟨A2, c2, L2, rfl, hL2, R2, K2⟩
    have hl2 : L2.length ≤ 64 := by rw [← rowsL_len, hL2]; exact PL
    unfold flt
    have b3 : FBx w3 w1.heap.size E k := b1.keep (KeepOn.of_below (fun _ => True) K2) trivial
    have R3 := (R.out.below k1 (Nat.le_refl _)).below K2 (Nat.le_refl _)
    have k3 : Below w1.heap.size w1 w3 := k1.trans (K2.mono k1.size)
    have b4 := b3.keep (KeepOn.alloc (S := fun _ => True) w3 (.cells #[.int .i64 E, .int .i64 k] 27)) trivial
    have k4 : Below w3.heap.size w3 (w3.alloc (.cells #[.int .i64 E, .int .i64 k] 27)) := (Below.refl _ _).alloc (Nat.le_refl _) _
    have CE := requal_any A A2 L L2 c c2 _ (R3.below k4 (Nat.le_refl _)) (by omega) (R2.below k4 (Nat.le_refl _)) (by omega)
    have hT : sameR L L2 = true := by unfold sameR; rw [decide_eq_true_eq, hL.out, hL2]
    rw [hT] at CE
    replace CE := Lib.hid CE
    have b5 := FBx.new w3 E k
    clear hL2 hT R2 R3 b1 b3 K2 k1
    go_wp2_with fail
    refine CE.out.mono ?_
    rintro e w5 ⟨rfl, K5⟩
    have c5 := (b5.keep (KeepOn.of_below (fun _ => True) K5) trivial)
    have c4 := (b4.keep (KeepOn.of_below (fun _ => True) K5) trivial)
    have q1 := c4.c0
    have q2 := c4.c1
    have q3 := c5.c0
    have q4 := c5.c1
    have k5 := Lib.hid (K.out.trans ((k3.trans ((k4.trans (K5.mono k4.size)).mono k3.size)).mono K.out.size))
    clear CE b4 b5 k4 k3 K5
    go_wp2_with fail
    refine (CA.out _).mono ?_
    rintro e w6 ⟨rfl, K6⟩
    have k6 := Lib.hid (k5.out.trans (K6.mono k5.out.size))
    clear K6
    go_wp2
    go_ret
    exact ⟨rfl, k6.out⟩
theorem bytes_txt (s : ByteArray) : ∃ x : Txt, s = ⟨x.toArray⟩ ∧ x.length = s.size := ⟨s.data.toList, by apply ByteArray.ext; simp, by rw [Array.length_toList]; rfl⟩
theorem parses_all (s : ByteArray) (w : World) :
    Calls Tryd.prog 4 #[.string s] w fun e w' => e = .returned (.bool true) ∧ Below w.heap.size w w' := by
  obtain ⟨x, rfl, _⟩ := bytes_txt s
  exact parses_txt x w
end Go.Proofs.YtgjgohnomophnaaDoor
