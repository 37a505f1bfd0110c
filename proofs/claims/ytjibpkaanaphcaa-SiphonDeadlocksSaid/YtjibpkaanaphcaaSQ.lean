/- Siphons: Siphons and Traps, by the program; the ring of the example. -/
import Derived.Test.YtjibpkaanaphcaaSP
namespace Go.Proofs.Ytjibpkaanaphcaa
open Go.RowKit

def MinPost (g : Nat) (w : World) (L : List Bt.U64) (e : Ending) (w' : World) : Prop := ∃ A c, e = .returned (.tuple #[.slice A L.length c, .int .i64 0]) ∧ Bt.Reads w' A (Bt.vV L) ∧ Below g w w'

set_option maxHeartbeats 2000000 in
set_option maxRecDepth 100000 in
theorem siphons_any (n : NetV) (w : World) (hr : NetR w n) (hok : okN n = true) (hp : n.ps.length ≤ 12) :
    Calls Try.prog 20 #[.agg #[.string n.nm, .slice n.PA n.ps.length n.pc, .slice n.TA n.ts.length n.tc]] w (MinPost w.heap.size w (Bt.minU (clU n true (upU (2 ^ n.ps.length - 1))))) := by
  have CM : Hid (∀ W, Below w.heap.size w W → Calls Try.prog 40 #[.agg #[.string n.nm, .slice n.PA n.ps.length n.pc, .slice n.TA n.ts.length n.tc], .func (.func 24) #[] #[]] W (MinPost W.heap.size W (Bt.minU (clU n true (upU (2 ^ n.ps.length - 1)))))) := fun W hW => minS_any n W (hr.below hW (Nat.le_refl _)) hok hp
  clear hr hok
  generalize Bt.minU (clU n true (upU (2 ^ n.ps.length - 1))) = L at *
  have B0 : Hid (Below w.heap.size w (w.alloc (.cells #[.string n.nm, .slice n.PA n.ps.length n.pc, .slice n.TA n.ts.length n.tc] 25))) := ((Below.refl _ _).alloc (Nat.le_refl _) _)
  go_enter Try.func20, Try.ntmps20
  go_wp2_with fail
  refine (CM.out _ B0.out).mono ?_
  rintro e w1 ⟨A2, c2, rfl, R2, K⟩
  have R2 := Lib.hid R2
  have b0_0 : w1.cell? ⟨w.heap.size, 0, none⟩ = some (.string n.nm) := by rw [K.cell (by simp [go_sem] <;> omega)]; simp [go_sem]
  have b0_1 : w1.cell? ⟨w.heap.size, 1, none⟩ = some (.slice n.PA n.ps.length n.pc) := by rw [K.cell (by simp [go_sem] <;> omega)]; simp [go_sem]
  have b0_2 : w1.cell? ⟨w.heap.size, 2, none⟩ = some (.slice n.TA n.ts.length n.tc) := by rw [K.cell (by simp [go_sem] <;> omega)]; simp [go_sem]
  have Bw1 := Lib.hid (B0.out.trans (K.mono (by simp [go_sem] <;> omega)))
  have hs1 : w.heap.size + 1 ≤ w1.heap.size := by have := K.size; (try simp [go_sem] at this); omega
  clear K
  go_wp2
  go_ret2
  exact ⟨A2, c2, rfl, R2.out, Bw1.out⟩

set_option maxHeartbeats 2000000 in
set_option maxRecDepth 100000 in
theorem traps_any (n : NetV) (w : World) (hr : NetR w n) (hok : okN n = true) (hp : n.ps.length ≤ 12) :
    Calls Try.prog 21 #[.agg #[.string n.nm, .slice n.PA n.ps.length n.pc, .slice n.TA n.ts.length n.tc]] w (MinPost w.heap.size w (Bt.minU (clU n false (upU (2 ^ n.ps.length - 1))))) := by
  have CM : Hid (∀ W, Below w.heap.size w W → Calls Try.prog 40 #[.agg #[.string n.nm, .slice n.PA n.ps.length n.pc, .slice n.TA n.ts.length n.tc], .func (.func 28) #[] #[]] W (MinPost W.heap.size W (Bt.minU (clU n false (upU (2 ^ n.ps.length - 1)))))) := fun W hW => minT_any n W (hr.below hW (Nat.le_refl _)) hok hp
  clear hr hok
  generalize Bt.minU (clU n false (upU (2 ^ n.ps.length - 1))) = L at *
  have B0 : Hid (Below w.heap.size w (w.alloc (.cells #[.string n.nm, .slice n.PA n.ps.length n.pc, .slice n.TA n.ts.length n.tc] 25))) := ((Below.refl _ _).alloc (Nat.le_refl _) _)
  go_enter Try.func21, Try.ntmps21
  go_wp2_with fail
  refine (CM.out _ B0.out).mono ?_
  rintro e w1 ⟨A2, c2, rfl, R2, K⟩
  have R2 := Lib.hid R2
  have b0_0 : w1.cell? ⟨w.heap.size, 0, none⟩ = some (.string n.nm) := by rw [K.cell (by simp [go_sem] <;> omega)]; simp [go_sem]
  have b0_1 : w1.cell? ⟨w.heap.size, 1, none⟩ = some (.slice n.PA n.ps.length n.pc) := by rw [K.cell (by simp [go_sem] <;> omega)]; simp [go_sem]
  have b0_2 : w1.cell? ⟨w.heap.size, 2, none⟩ = some (.slice n.TA n.ts.length n.tc) := by rw [K.cell (by simp [go_sem] <;> omega)]; simp [go_sem]
  have Bw1 := Lib.hid (B0.out.trans (K.mono (by simp [go_sem] <;> omega)))
  have hs1 : w.heap.size + 1 ≤ w1.heap.size := by have := K.size; (try simp [go_sem] at this); omega
  clear K
  go_wp2
  go_ret2
  exact ⟨A2, c2, rfl, R2.out, Bw1.out⟩

def sU : ByteArray := ⟨#[117]⟩
def ringV (a b c d : Nat) : NetV := ⟨sN, some ⟨c, 0, none⟩, [⟨sP, 1, 0⟩, ⟨sQ, 0, 0⟩], 2, some ⟨d, 0, none⟩, [⟨sT, ⟨some ⟨a, 0, none⟩, 1, [(0, 1)]⟩, ⟨some ⟨b, 0, none⟩, 1, [(1, 1)]⟩, ⟨none, 0, []⟩, 0⟩, ⟨sU, ⟨some ⟨b, 0, none⟩, 1, [(1, 1)]⟩, ⟨some ⟨a, 0, none⟩, 1, [(0, 1)]⟩, ⟨none, 0, []⟩, 0⟩], 2⟩
theorem ring_ok (a b c d : Nat) : okN (ringV a b c d) = true := by kernel_rfl
theorem ring_sets (b' : Bool) (a b c d : Nat) : clU (ringV a b c d) b' (upU (2 ^ 2 - 1)) = [toU 3] := by cases b' <;> kernel_rfl
theorem ring_one : Bt.minU [toU 3] = [toU 3] := by kernel_rfl
end Go.Proofs.Ytjibpkaanaphcaa
