/- The law on names. -/
import Derived.Test.YthpbgdeeajhbjaaDoorF
namespace Go.Proofs.YthpbgdeeajhbjaaDoor
open Go.RowKit

theorem names_law (s : ByteArray) (w : World) (hs : s.size ≤ maxLen) :
    Calls Tryd.prog 3 #[.string s] w fun e w' => e = .returned (.bool true) ∧ Below w.heap.size w w' := by
  have C1 := Lib.hid (fun W => name_any s W hs)
  have C2 := Lib.hid (fun W => rname_any s W hs)
  have C3 := Lib.hid (fun W => example_any W)
  generalize nameB (bytesI s) = b at *
  cases b
  all_goals
    go_enter Tryd.func3, Tryd.ntmps3
    go_wp2_with fail
    refine (C1.out _).mono ?_
    rintro e w1 ⟨rfl, K1⟩
    have K1 := Lib.hid K1
    go_wp2_with fail
    refine (C2.out _).mono ?_
    rintro e w2 ⟨rfl, rfl⟩
    go_wp2_with fail
    refine (C3.out _).mono ?_
    rintro e w3 ⟨rfl, K⟩
    go_wp2
    go_ret
    exact ⟨rfl, K1.out.trans (K.mono K1.out.size)⟩
end Go.Proofs.YthpbgdeeajhbjaaDoor
