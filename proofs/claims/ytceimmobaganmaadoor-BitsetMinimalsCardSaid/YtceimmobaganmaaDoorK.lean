/- What the row's condition gives the walks: the table lies. Integers that come in as elements of a slice. -/
import Derived.Test.YtceimmobaganmaaDoorI
import Derived.Test.YtceimmobaganmaaDoorRows
import Derived.Lib.LaidTab
import Derived.MakeChecks
namespace Go.Proofs.YtceimmobaganmaaDoor
open Go.RowKit Go.Shelf

theorem gTab : Tryd.prog.globalNamed "math/bits.deBruijn64tab" = some 0 := by kernel_rfl
theorem gTabType : (Tryd.prog.globals[0]?).map (·.type) = some 63 := by kernel_rfl
theorem tab_of_laid {W : World} (h : laidMetH Tryd.prog [("math/bits.deBruijn64tab", Rows.laid_math_bits_deBruijn64tab)] W) : Tab W := by
  rw [MakeChecks.laidMetH_plain _ _ _ (by kernel_rfl)] at h
  have hT : Lib.TabIs Tryd.prog W "math/bits.deBruijn64tab" .u8 (Lib.deBruijn64tab.map fun n : Nat => (n : Int)) :=
    Lib.tabIs_of_head gTab gTabType Tryd.underlying63 Tryd.underlying5 (by kernel_rfl) (by kernel_rfl) h
  have hc : ∀ j, j < Lib.deBruijn64tab.length → W.cell? ⟨0, j, none⟩ = some (.int .u8 ((Lib.deBruijn64tab.getD j 0 : Nat) : Int)) := fun j hj => by
    rw [hT.cell gTab j (by simpa using hj)]
    simp [List.getD, hj]
  exact ⟨hc, World.block_lt_of_cell? W ⟨0, 0, none⟩ (hc 0 (by decide))⟩
def toU (z : Int) : U64 := ⟨z.toNat % 18446744073709551616, Nat.mod_lt _ (by decide)⟩
theorem toU_val {z : Int} (h0 : 0 ≤ z) (h1 : z ≤ 18446744073709551615) : (((toU z).1 : Nat) : Int) = z := by
  unfold toU
  dsimp only
  omega
theorem boundsU {x : Int} (h : (Lit.int .u64 x).wf = true) : 0 ≤ x ∧ x ≤ 18446744073709551615 := by
  simpa [Lit.wf, IntKind.min, IntKind.max, IntKind.signed, IntKind.bits] using h
end Go.Proofs.YtceimmobaganmaaDoor
