/- Enabled, May, List, Dead: the reference. -/
import Derived.Test.YtpfkkjgklhcejaaFS
namespace Go.Proofs.Ytpfkkjgklhcejaa
open Go.RowKit

theorem mayT_mem (n : NetV) (m : List Int) (t : Int) : mayT n m t = (goodN n m && decide (t ∈ firesV n m)) := by
  unfold mayT
  congr 1
  rw [Bool.eq_iff_iff, decide_eq_true_eq, mem_fires, Bool.and_eq_true, inT_iff]
  exact and_assoc

set_option maxHeartbeats 2000000 in
set_option maxRecDepth 100000 in
theorem rlist_any (n : NetV) (A : Option Addr) (m : List Int) (c : Nat) (w : World) (hr : NetR w n) (hm : ReadsV w A m) (hl : m.length ≤ 9223372036854775807) :
    Calls Try.prog 20 #[.agg #[.string n.nm, .slice n.PA n.ps.length n.pc, .slice n.TA n.ts.length n.tc], .slice A m.length c] w (IsPost w.heap.size w (listL n m)) := by
  have CG : Hid (∀ W, Below w.heap.size w W → Calls Try.prog 38 #[.agg #[.string n.nm, .slice n.PA n.ps.length n.pc, .slice n.TA n.ts.length n.tc], .slice A m.length c] W (VPost W.heap.size W (.bool (goodN n m)))) := fun W hW => good_any n A m c W (hr.below hW (Nat.le_refl _)) (hm.below hW (Nat.le_refl _)) hl
  have B0 : Hid (Below w.heap.size w (w.alloc (.cells #[.string n.nm, .slice n.PA n.ps.length n.pc, .slice n.TA n.ts.length n.tc] 25))) := ((Below.refl _ _).alloc (Nat.le_refl _) _)
  unfold listL
  cases hg : goodN n m
  · rw [if_neg (by simp)]
    rw [hg] at CG
    clear hr hm hg
    go_enter Try.func20, Try.ntmps20
    go_wp2_with fail
    refine (CG.out _ B0.out).mono ?_
    rintro e w1 ⟨rfl, K⟩
    have b0_0 : w1.cell? ⟨w.heap.size, 0, none⟩ = some (.string n.nm) := by rw [K.cell (by simp [go_sem] <;> omega)]; simp [go_sem]
    have b0_1 : w1.cell? ⟨w.heap.size, 1, none⟩ = some (.slice n.PA n.ps.length n.pc) := by rw [K.cell (by simp [go_sem] <;> omega)]; simp [go_sem]
    have b0_2 : w1.cell? ⟨w.heap.size, 2, none⟩ = some (.slice n.TA n.ts.length n.tc) := by rw [K.cell (by simp [go_sem] <;> omega)]; simp [go_sem]
    have Bw1 := Lib.hid (B0.out.trans (K.mono (by simp [go_sem] <;> omega)))
    have hs1 : w.heap.size + 1 ≤ w1.heap.size := by have := K.size; (try simp [go_sem] at this); omega
    clear K
    go_wp2
    go_ret
    exact ⟨none, 0, rfl, ReadsV.nil _ _, Bw1.out⟩
  · rw [if_pos rfl]
    rw [hg] at CG
    have CF : Hid (∀ W, Below w.heap.size w W → Calls Try.prog 29 #[.agg #[.string n.nm, .slice n.PA n.ps.length n.pc, .slice n.TA n.ts.length n.tc], .slice A m.length c] W (IsPost W.heap.size W (firesV n m))) := fun W hW => fires_any n A m c W (hr.below hW (Nat.le_refl _)) (hm.below hW (Nat.le_refl _)) hg
    clear hr hm hg
    go_enter Try.func20, Try.ntmps20
    go_wp2_with fail
    refine (CG.out _ B0.out).mono ?_
    rintro e w1 ⟨rfl, K⟩
    have b0_0 : w1.cell? ⟨w.heap.size, 0, none⟩ = some (.string n.nm) := by rw [K.cell (by simp [go_sem] <;> omega)]; simp [go_sem]
    have b0_1 : w1.cell? ⟨w.heap.size, 1, none⟩ = some (.slice n.PA n.ps.length n.pc) := by rw [K.cell (by simp [go_sem] <;> omega)]; simp [go_sem]
    have b0_2 : w1.cell? ⟨w.heap.size, 2, none⟩ = some (.slice n.TA n.ts.length n.tc) := by rw [K.cell (by simp [go_sem] <;> omega)]; simp [go_sem]
    have Bw1 := Lib.hid (B0.out.trans (K.mono (by simp [go_sem] <;> omega)))
    have hs1 : w.heap.size + 1 ≤ w1.heap.size := by have := K.size; (try simp [go_sem] at this); omega
    clear K
    go_wp2_with fail
    refine (CF.out _ Bw1.out).mono ?_
    rintro e w2 ⟨A2, c2, rfl, R2, K⟩
    have R2 := Lib.hid R2
    have b0_0 : w2.cell? ⟨w.heap.size, 0, none⟩ = some (.string n.nm) := by rw [K.cell (by show w.heap.size < _; omega)]; exact b0_0
    have b0_1 : w2.cell? ⟨w.heap.size, 1, none⟩ = some (.slice n.PA n.ps.length n.pc) := by rw [K.cell (by show w.heap.size < _; omega)]; exact b0_1
    have b0_2 : w2.cell? ⟨w.heap.size, 2, none⟩ = some (.slice n.TA n.ts.length n.tc) := by rw [K.cell (by show w.heap.size < _; omega)]; exact b0_2
    have Bw2 := Lib.hid (Bw1.out.trans (K.mono Bw1.out.size))
    have hs2 : w.heap.size + 1 ≤ w2.heap.size := by have := K.size; (try simp [go_sem] at this); omega
    clear K
    go_wp2
    go_ret
    exact ⟨A2, c2, rfl, R2.out, Bw2.out⟩

end Go.Proofs.Ytpfkkjgklhcejaa
