/- The primitive vector. -/
import Derived.Test.YtcihdecfganohaaV7
import Derived.OneCell
import Derived.Outline
namespace Go.Proofs.Ytcihdecfganohaa
open Go.RowKit

theorem leastV_not {a : List Int} (h : leastV a = false) (k : Nat) (hk : k < a.length) : at0 a k ≠ -9223372036854775808 := by
  intro c
  rw [leastV_yes k hk c] at h
  cases h

set_option maxHeartbeats 4000000 in
theorem prim_law (A : Option Addr) (a : List Int) (ca : Nat) (w : World) (ia : In64 a) (ra : ReadsV w A a) (hl : a.length ≤ 100) :
    Calls Try.prog 27 #[.slice A a.length ca] w (VecPost w.heap.size w (primV a)) := by
  have C : Hid (∀ W, Below w.heap.size w W → Calls Try.prog 45 #[.slice A a.length ca] W (BPost W.heap.size W (leastV a))) := fun W hW => hl_law A a ca W (ra.below hW (Nat.le_refl _)) hl
  cases hle : leastV a
  · rw [hle] at C
    have hn0 := leastV_not hle
    have HE0 : Hid (gcdS a a.length = 0 → primV a = (a, 0)) := fun h => prim_zero h hle
    have HE1 : Hid (primV a = trF a.length (primE a (gcdS a a.length))) := by show _ = _; unfold primV; rw [hle]; rfl
    have HD : Hid (∀ k, k ≤ a.length → gcdS a k ≤ 9223372036854775807) := gcdS_le ia hn0
    have CL : Hid (∀ W, Below w.heap.size w W → Calls Try.prog 47 #[.slice A a.length ca] W (IsPost W.heap.size W a)) := fun W hW => clone_law A a ca W (ra.below hW (Nat.le_refl _)) hl
    have T : Hid (∀ (W : World) (d : Nat) (pS : Addr), Below w.heap.size w W → 1 ≤ d → d ≤ 9223372036854775807 → W.cell? ⟨w.heap.size, 0, none⟩ = some (.slice A a.length ca) → W.cell? pS = some (.int .i64 d) →
        Calls Try.prog 41 #[.slice A a.length ca, .func (.func 48) #[] #[.pointer (some ⟨w.heap.size, 0, none⟩), .pointer (some pS)]] W (VecPost W.heap.size W (trF a.length (primE a d)))) := by
      intro W d pS hW d1 d2 g1 g2
      have l1 := World.block_lt_of_cell? W ⟨w.heap.size, 0, none⟩ g1
      have l2 := World.block_lt_of_cell? W pS g2
      refine transform_pr A a.length ca _ _ W hl _ fun k W2 hk hb => ?_
      have r1 := (ra.below hW (Nat.le_refl _)).below hb (Nat.le_refl _)
      obtain ⟨ba, oa, e1, hx⟩ := at_of_reads r1 k hk
      subst e1
      exact prm_el k a.length ca d _ _ ba oa _ W2 hk hl (ia.at k).1 (ia.at k).2 d1 d2 ((hb.cell l2).trans g2) ((hb.cell l1).trans g1) hx
    have RA := Lib.hid ra
    clear ra hle
    have IA := Lib.hid ia
    clear ia
    have HN0 := Lib.hid hn0
    clear hn0
    generalize primV a = P at *
    generalize hn : a.length = n at *
    have HN := Lib.hid hn
    clear hn
    generalize hg : w.heap.size = g at *
    have HG := Lib.hid hg
    clear hg
    have B0 : Hid (Below g w (w.alloc (.cells #[.slice A n ca] 22))) := (Below.refl _ _).alloc (by rw [HG.out]; exact Nat.le_refl _) _
    go_enter Try.func27, Try.ntmps27
    go_wp2_with fail
    refine (C.out _ B0.out).mono ?_
    rintro e w1 ⟨rfl, K1⟩
    have hA1 : w1.cell? ⟨w.heap.size, 0, none⟩ = some (.slice A n ca) := by
      rw [K1.cell (by simp)]
      exact (World.cell?_alloc_new _ _ _ _).trans rfl
    have hs1 : w.heap.size < w1.heap.size := by
      have := K1.size
      rw [World.size_alloc] at this
      omega
    have B1 : Hid (Below g w w1) := B0.out.trans (K1.mono (by rw [World.size_alloc, HG.out]; omega))
    clear K1
    go_wp2_with fail
    generalize hD : w1.heap.size = D at *
    have HDD := Lib.hid hD
    clear hD
    go_loopw [11] (fun q wr => ∃ k d : Nat, k ≤ n ∧ d ≤ 9223372036854775807 ∧ q = .int .i64 k ∧ Hid (d = gcdS a k) ∧ Hid (wr.heap[D]? = some (.cells #[.int .i64 d] 2 (0, 0))) ∧ Hid (Below D w1 wr)) (fun q _ => n - (intOf q).toNat)
    case atStart => 
      refine ⟨0, 0, by omega, by omega, rfl, rfl, ?_, ?_⟩
      · rw [← HDD.out]
        exact heap_alloc_new w1 _
      · exact (Below.refl _ _).alloc (by rw [HDD.out]; exact Nat.le_refl _) _
    case round =>
      obtain ⟨k, d, hk, hd, rfl, HK, HC, BD⟩ := hrel
      have cA : wr.cell? ⟨w.heap.size, 0, none⟩ = some (.slice A n ca) := (BD.out.cell (p := ⟨w.heap.size, 0, none⟩) hs1).trans hA1
      have cD := cell_of_one HC.out
      have fD := free_of_one HC.out
      have BB : Hid (Below g w wr) := B1.out.trans (BD.out.mono (by rw [← HG.out]; omega))
      by_cases hlt : k < n
      · obtain ⟨ba, oa, e1, hx⟩ := at_of_reads (RA.out.below BB.out (by rw [HG.out]; exact Nat.le_refl _)) k (by rw [HN.out]; exact hlt)
        subst e1
        have hx1 := (IA.out.at k).1
        have hx2 := (IA.out.at k).2
        have hg2 : Nat.gcd d (at0 a k).natAbs ≤ 9223372036854775807 := by
          have h := HD.out (k + 1) (by omega)
          unfold gcdS at h
          rw [← HK.out] at h
          exact h
        have CG := gcd_any d (at0 a k) (by omega) (by omega) hx1 hx2
        rw [Int.natAbs_natCast, fitV_yes (by omega) (by omega), fits_yes (by omega) (by omega)] at CG
        have HK2 : Hid (Nat.gcd d (at0 a k).natAbs = gcdS a (k + 1)) := by
          show _ = Nat.gcd _ _
          rw [← HK.out]
        generalize at0 a k = x at *
        generalize Nat.gcd d x.natAbs = z at *
        have CG := Lib.hid CG
        go_wp2_with fail
        refine (CG.out _).mono ?_
        rintro e w2 ⟨rfl, n2, rfl⟩
        have cD2 : (wr.drewN n2).cell? ⟨D, 0, none⟩ = some (.int .i64 d) := cD
        have fD2 : (wr.drewN n2).frozen? ⟨D, 0, none⟩ = false := fD
        go_wp2
        go_roundw
        case rel =>
          refine ⟨k + 1, z, by omega, hg2, by go_num, HK2, ?_, ?_⟩
          · exact one_setCell (w := wr.drewN n2) HC.out
          · exact (below_drewN BD.out n2).setCell (Nat.le_refl _) _
        case measure => simp [intOf]; omega
      · obtain rfl : k = n := by omega
        by_cases h0 : d = 0
        · subst h0
          have E := Lib.hid (HE0.out HK.out.symm)
          go_wp2_with fail
          refine (CL.out _ BB.out).mono ?_
          rintro e w3 ⟨A2, c2, rfl, h1, h2⟩
          have h1 := Lib.hid h1
          have h2 := Lib.hid h2
          go_wp2
          go_ret2
          exact ⟨A2, c2, by rw [E.out]; rfl, by rw [E.out]; exact h1.out, BB.out.trans (h2.out.mono (by have := BB.out.size; rw [HG.out] at this; exact this))⟩
        · have h0' : ((d : Int) == 0) = false := by simp; omega
          have E : Hid (P = trF k (primE a d)) := by
            show _ = _
            rw [HE1.out, HK.out]
          have TT := Lib.hid (T.out wr d ⟨D, 0, none⟩ BB.out (by omega) hd (by rw [← HG.out]; exact cA) cD)
          clear T
          rw [HG.out] at cA
          rw [← E.out] at TT
          rw [← HG.out] at TT
          rw [← HG.out] at cA
          go_wp2_with fail
          refine TT.out.mono ?_
          rintro e w3 ⟨A2, c2, rfl, h1, h2⟩
          have h1 := Lib.hid h1
          have h2 := Lib.hid h2
          go_wp2
          go_ret2
          exact ⟨A2, c2, rfl, h1.out, BB.out.trans (h2.out.mono (by have := BB.out.size; rw [HG.out] at this; exact this))⟩
  · rw [hle] at C
    have E : Hid (primV a = ([], 3)) := by show _ = _; unfold primV; rw [hle]; rfl
    clear hle ra ia
    generalize primV a = P at *
    generalize a.length = n at *
    have B0 : Below w.heap.size w (w.alloc (.cells #[.slice A n ca] 22)) := (Below.refl _ _).alloc (Nat.le_refl _) _
    have B0 := Lib.hid B0
    go_enter Try.func27, Try.ntmps27
    go_wp2_with fail
    refine (C.out _ B0.out).mono ?_
    rintro e w1 ⟨rfl, K1⟩
    have K1 := Lib.hid K1
    go_wp2
    go_ret2
    exact ⟨none, 0, by rw [E.out]; rfl, by rw [E.out]; exact ReadsV.nil _ _, B0.out.trans (K1.out.mono (by rw [World.size_alloc]; omega))⟩
end Go.Proofs.Ytcihdecfganohaa
