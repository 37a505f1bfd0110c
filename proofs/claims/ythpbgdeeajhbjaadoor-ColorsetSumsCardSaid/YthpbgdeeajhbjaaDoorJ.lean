/- The law on the check. -/
import Derived.Test.YthpbgdeeajhbjaaDoorI
namespace Go.Proofs.YthpbgdeeajhbjaaDoor
open Go.RowKit

theorem large_any (nm : ByteArray) (A : Option Addr) (n cap : Nat) (w : World) (b : Bool) (h : b = decide (40 < n)) :
    Calls Tryd.prog 13 #[.agg #[.string nm, .slice A n cap]] w fun e w' => e = .returned (.bool b) ∧ Below w.heap.size w w' := by
  have H := Lib.hid h
  clear h
  go_enter Tryd.func13, Tryd.ntmps13
  go_wp2
  go_ret
  refine ⟨ret_b ?_, (Below.refl _ _).alloc (Nat.le_refl _) _⟩
  rw [H.out]
  rw [Bool.eq_iff_iff]
  simp
  omega

theorem checks_law (nm : ByteArray) (A : Option Addr) (L : List ByteArray) (cap : Nat) (w : World) (hnm : nm.size ≤ maxLen) (hL : ∀ s ∈ L, s.size ≤ maxLen) (hr : ReadsSO w A L) (hl0 : L.length ≤ maxLen) :
    Calls Tryd.prog 4 #[.agg #[.string nm, .slice A L.length cap]] w fun e w' => e = .returned (.bool true) ∧ Below w.heap.size w w' := by
  have C0 := Lib.hid (fun W => large_any nm A L.length cap W _ rfl)
  have C1 := Lib.hid (fun W hW => check_opt nm A L cap W hnm hL hW hl0)
  have C2 := Lib.hid (fun W hW => rcheck_any nm A L cap W hnm hL hW hl0)
  have C3 := Lib.hid (fun W => example_any W)
  generalize checkV nm L = x at *
  generalize hg : w.heap.size = g
  have HG := Lib.hid hg
  clear hg
  generalize hb : decide (40 < L.length) = b at C0
  clear hb
  have HR := Lib.hid hr
  clear hr
  have D0 : Hid (Below g w (w.alloc (.cells #[.string nm, .slice A L.length cap] 26))) := (Below.refl _ _).alloc (by rw [HG.out]; exact Nat.le_refl _) _
  cases b
  · go_enter Tryd.func4, Tryd.ntmps4
    go_wp2_with fail
    refine (C0.out _).mono ?_
    rintro e w1 ⟨rfl, K1⟩
    have D1 : Hid (Below g w w1) := D0.out.trans (K1.mono D0.out.size |> fun h => by rw [HG.out] at h; exact h)
    have hc0 : w1.cell? ⟨w.heap.size, 0, none⟩ = some (.string nm) := by
      rw [K1.cell (by simp)]
      simp
    have hc1 : w1.cell? ⟨w.heap.size, 1, none⟩ = some (.slice A L.length cap) := by
      rw [K1.cell (by simp)]
      simp
    clear K1
    go_wp2_with fail
    go_region_held3 (fun w' => w'.cell? ⟨w.heap.size, 0, none⟩ = some (.string nm) ∧ w'.cell? ⟨w.heap.size, 1, none⟩ = some (.slice A L.length cap) ∧ Hid (Below g w w'))
      (first
        | exact ⟨hc0, hc1, D1.out.drew⟩
        | (go_split_ands
           refine ⟨(K2.cell ?_).trans ?_, (K2.cell ?_).trans ?_, ?_⟩
           · exact World.block_lt_of_cell? _ ⟨w.heap.size, 0, none⟩ (by assumption)
           · assumption
           · exact World.block_lt_of_cell? _ ⟨w.heap.size, 0, none⟩ (by assumption)
           · assumption
           · exact Below.trans (Hid.out (by assumption)) (K2.mono (by rw [← HG.out]; exact Nat.le_of_lt (World.block_lt_of_cell? _ ⟨w.heap.size, 0, none⟩ (by assumption)))))
        | go_keep)
      (first
        | (go_at_call 14; go_split_ands; refine (C1.out _ (HR.out.below (B := g) (Hid.out (by assumption)) (by rw [HG.out]; exact Nat.le_refl _))).mono ?_; rintro e w2 ⟨rfl, K2⟩)
        | (go_at_call 15; go_split_ands; refine (C2.out _ (HR.out.below (B := g) (Hid.out (by assumption)) (by rw [HG.out]; exact Nat.le_refl _))).mono ?_; rintro e w2 ⟨rfl, K2⟩)
        | (go_at_call 12; refine (C3.out _).mono ?_; rintro e w2 ⟨rfl, K2⟩))
    rename_i hHeld
    have DF := hHeld.2.2
    clear hHeld K2
    go_wp2
    go_ret
    exact ⟨rfl, DF.out⟩
  · go_enter Tryd.func4, Tryd.ntmps4
    go_wp2_with fail
    refine (C0.out _).mono ?_
    rintro e w1 ⟨rfl, K1⟩
    have D1 : Hid (Below g w w1) := D0.out.trans (K1.mono D0.out.size |> fun h => by rw [HG.out] at h; exact h)
    go_wp2_with fail
    refine (C3.out _).mono ?_
    rintro e w3 ⟨rfl, K⟩
    go_wp2
    go_ret
    exact ⟨rfl, D1.out.trans (K.mono (by have := D1.out.size; rw [HG.out] at this; exact this))⟩
end Go.Proofs.YthpbgdeeajhbjaaDoor
