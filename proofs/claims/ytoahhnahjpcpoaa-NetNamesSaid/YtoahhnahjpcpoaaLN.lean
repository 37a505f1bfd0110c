/- The law on names. -/
import Derived.Test.YtoahhnahjpcpoaaMF
namespace Go.Proofs.Ytoahhnahjpcpoaa
open Go.RowKit

set_option maxHeartbeats 1000000 in
theorem names_law (s : ByteArray) (w : World) (hs : s.size ≤ maxLen) :
    Calls Try.prog 6 #[.string s] w fun e w' => e = .returned (.bool true) ∧ Below w.heap.size w w' := by
  have C1 := Lib.hid (fun W => name_any2 s W hs)
  have C2 := Lib.hid (fun W => rname_any s W hs)
  generalize nameB (bytesI s) = b at *
  unfold maxLen at hs
  by_cases h : 100 < s.size
  · go_enter Try.func6, Try.ntmps6
    go_wp2_with fail
    refine (lives_any _).mono ?_
    rintro e w1 ⟨rfl, K⟩
    have K := Lib.hid K
    go_wp2
    go_ret
    exact ⟨rfl, K.out⟩
  · cases b
    all_goals
      go_enter Try.func6, Try.ntmps6
      go_wp2_with fail
      refine (C1.out _).mono ?_
      rintro e w1 ⟨rfl, K⟩
      have K1 := Lib.hid K
      clear K
      go_wp2_with fail
      refine (C2.out _).mono ?_
      rintro e w2 ⟨rfl, rfl⟩
      go_wp2_with fail
      refine (lives_any _).mono ?_
      rintro e w3 ⟨rfl, K⟩
      have K2 := Lib.hid (K1.out.trans (K.mono K1.out.size))
      clear K
      go_wp2
      go_ret
      exact ⟨rfl, K2.out⟩
end Go.Proofs.Ytoahhnahjpcpoaa
