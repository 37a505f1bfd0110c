/- The law on searches and shifts. -/
import Derived.Test.YthpbgdeeajhbjaaDoorN
namespace Go.Proofs.YthpbgdeeajhbjaaDoor
open Go.RowKit

theorem two_a (w : World) (v0 v1 : Value) (t : TypeId) (o : Obj) : ((w.alloc (.cells #[v0, v1] t)).alloc o).cell? ⟨w.heap.size, 0, none⟩ = some v0 ∧ ((w.alloc (.cells #[v0, v1] t)).alloc o).cell? ⟨w.heap.size, 1, none⟩ = some v1 := by
  constructor
  · rw [World.cell?_alloc_lt (h := by simp)]
    exact (World.cell?_alloc_new _ _ _ _).trans rfl
  · rw [World.cell?_alloc_lt (h := by simp)]
    exact (World.cell?_alloc_new _ _ _ _).trans rfl
theorem two_b (w : World) (v0 v1 : Value) (t : TypeId) (o : Obj) : ((w.alloc o).alloc (.cells #[v0, v1] t)).cell? ⟨w.heap.size + 1, 0, none⟩ = some v0 ∧ ((w.alloc o).alloc (.cells #[v0, v1] t)).cell? ⟨w.heap.size + 1, 1, none⟩ = some v1 := by
  constructor
  · rw [World.cell?_alloc_at _ _ _ 0 (by simp)]
    rfl
  · rw [World.cell?_alloc_at _ _ _ 1 (by simp)]
    rfl

set_option maxHeartbeats 4000000 in
set_option maxRecDepth 100000 in
theorem finds_law (nm v : ByteArray) (A : Option Addr) (L : List ByteArray) (cap : Nat) (i j : Int) (w : World) (hv : v.size ≤ maxLen) (hL : ∀ s ∈ L, s.size ≤ maxLen) (hr : ReadsSO w A L)
    (i1 : -9223372036854775808 ≤ i) (i2 : i ≤ 9223372036854775807) (j1 : -9223372036854775808 ≤ j) (j2 : j ≤ 9223372036854775807) :
    Calls Tryd.prog 5 #[.agg #[.string nm, .slice A L.length cap], .string v, .agg #[.int .i64 i, .int .i64 j]] w fun e w' => e = .returned (.bool true) ∧ Below w.heap.size w w' := by
  have C0 := Lib.hid (fun W => large_any nm A L.length cap W _ rfl)
  have C3 := Lib.hid (fun W => example_any W)
  have D0 : Hid (Below w.heap.size w ((w.alloc (.cells #[.string nm, .slice A L.length cap] 26)).alloc (.cells #[.int .i64 i, .int .i64 j] 30))) := ((Below.refl _ _).alloc (Nat.le_refl _) _).alloc (by simp) _
  have P0 := Lib.hid (two_a w (.string nm) (.slice A L.length cap) 26 (.cells #[.int .i64 i, .int .i64 j] 30))
  have P1 := Lib.hid (two_b w (.int .i64 i) (.int .i64 j) 30 (.cells #[.string nm, .slice A L.length cap] 26))
  by_cases hl : L.length ≤ 40
  · have hb : decide (40 < L.length) = false := by simp; omega
    rw [hb] at C0
    clear hb
    have C1 := Lib.hid (fun W hW => find_any nm v A L cap W hv hL hW hl)
    have C2 := Lib.hid (fun W hW => rfind_any nm v A L cap W hW (by unfold maxLen; omega))
    have C4 := Lib.hid (fun W => shift_any nm A L.length cap i j W hl i1 i2 j1 j2)
    have C5 := Lib.hid (fun W => rshift_any nm A L.length cap i j W hl i1 i2 j1 j2)
    have HR := Lib.hid hr
    clear hr
    generalize findI v L 0 = x at *
    generalize shiftV L.length i j = y at *
    generalize hg : w.heap.size = g at *
    have HG := Lib.hid hg
    clear hg
    go_enter Tryd.func5, Tryd.ntmps5
    go_wp2_with fail
    refine (C0.out _).mono ?_
    rintro e w1 ⟨rfl, K1⟩
    have hc0 : w1.cell? ⟨w.heap.size, 0, none⟩ = some (.string nm) := by
      rw [K1.cell (by simp; omega), HG.out]
      exact P0.out.1
    have hc1 : w1.cell? ⟨w.heap.size, 1, none⟩ = some (.slice A L.length cap) := by
      rw [K1.cell (by simp; omega), HG.out]
      exact P0.out.2
    have ha0 : w1.cell? ⟨w.heap.size + 1, 0, none⟩ = some (.int .i64 i) := by
      rw [K1.cell (by simp), HG.out]
      exact P1.out.1
    have ha1 : w1.cell? ⟨w.heap.size + 1, 1, none⟩ = some (.int .i64 j) := by
      rw [K1.cell (by simp), HG.out]
      exact P1.out.2
    have D1 : Hid (Below g w w1) := D0.out.trans (K1.mono (by simp; have := HG.out; omega))
    clear K1
    go_wp2_with fail
    go_region_held3 (fun w' => w'.cell? ⟨w.heap.size, 0, none⟩ = some (.string nm) ∧ w'.cell? ⟨w.heap.size, 1, none⟩ = some (.slice A L.length cap) ∧ w'.cell? ⟨w.heap.size + 1, 0, none⟩ = some (.int .i64 i) ∧ w'.cell? ⟨w.heap.size + 1, 1, none⟩ = some (.int .i64 j) ∧ Hid (Below g w w'))
      (first
        | exact ⟨hc0, hc1, ha0, ha1, D1.out.drew⟩
        | (go_split_ands
           refine ⟨(K2.cell ?_).trans ?_, (K2.cell ?_).trans ?_, (K2.cell ?_).trans ?_, (K2.cell ?_).trans ?_, ?_⟩
           · exact World.block_lt_of_cell? _ ⟨w.heap.size, 0, none⟩ (by assumption)
           · assumption
           · exact World.block_lt_of_cell? _ ⟨w.heap.size, 1, none⟩ (by assumption)
           · assumption
           · exact World.block_lt_of_cell? _ ⟨w.heap.size + 1, 0, none⟩ (by assumption)
           · assumption
           · exact World.block_lt_of_cell? _ ⟨w.heap.size + 1, 1, none⟩ (by assumption)
           · assumption
           · exact Below.trans (Hid.out (by assumption)) (K2.mono (by rw [← HG.out]; exact Nat.le_of_lt (World.block_lt_of_cell? _ ⟨w.heap.size, 0, none⟩ (by assumption)))))
        | go_keep)
      (first
        | (go_at_call 16; go_split_ands; refine (C1.out _ (HR.out.below (B := g) (Hid.out (by assumption)) (by rw [HG.out]; exact Nat.le_refl _))).mono ?_; rintro e w2 ⟨rfl, K2⟩)
        | (go_at_call 17; go_split_ands; refine (C2.out _ (HR.out.below (B := g) (Hid.out (by assumption)) (by rw [HG.out]; exact Nat.le_refl _))).mono ?_; rintro e w2 ⟨rfl, K2⟩)
        | (go_at_call 18; refine (C4.out _).mono ?_; rintro e w2 ⟨rfl, K2⟩)
        | (go_at_call 19; refine (C5.out _).mono ?_; rintro e w2 ⟨rfl, K2⟩)
        | (go_at_call 12; refine (C3.out _).mono ?_; rintro e w2 ⟨rfl, K2⟩))
    rename_i hHeld
    have DF := hHeld.2.2.2.2
    clear hHeld K2
    go_wp2
    go_ret
    exact ⟨rfl, DF.out⟩
  · have hb : decide (40 < L.length) = true := by simp; omega
    rw [hb] at C0
    clear hb hr
    go_enter Tryd.func5, Tryd.ntmps5
    go_wp2_with fail
    refine (C0.out _).mono ?_
    rintro e w1 ⟨rfl, K1⟩
    have D1 : Hid (Below w.heap.size w w1) := D0.out.trans (K1.mono (by simp; omega))
    go_wp2_with fail
    refine (C3.out _).mono ?_
    rintro e w3 ⟨rfl, K⟩
    go_wp2
    go_ret
    exact ⟨rfl, D1.out.trans (K.mono D1.out.size)⟩
end Go.Proofs.YthpbgdeeajhbjaaDoor
