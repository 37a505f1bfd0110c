/- The law on equality. -/
import Derived.Test.YtoahhnahjpcpoaaSB
namespace Go.Proofs.Ytoahhnahjpcpoaa
open Go.RowKit

set_option maxHeartbeats 16000000 in
set_option maxRecDepth 1000000 in
theorem sames_law (a b : NetV) (w : World) (ha : NetW w a) (hb : NetW w b) :
    Calls Try.prog 7 #[.agg #[.string a.nm, .slice a.PA a.ps.length a.pc, .slice a.TA a.ts.length a.tc], .agg #[.string b.nm, .slice b.PA b.ps.length b.pc, .slice b.TA b.ts.length b.tc]] w fun e w' => e = .returned (.bool true) ∧ Below w.heap.size w w' := by
  have B0 : Hid (Below w.heap.size w ((w.alloc (.cells #[.string a.nm, .slice a.PA a.ps.length a.pc, .slice a.TA a.ts.length a.tc] 25)).alloc (.cells #[.string b.nm, .slice b.PA b.ps.length b.pc, .slice b.TA b.ts.length b.tc] 25))) := ((Below.refl _ _).alloc (Nat.le_refl _) _).alloc (by simp) _
  cases hsa : smallN a
  · have SA := Lib.hid (fun W (hW : Below w.heap.size w W) => small_no a W (ha.below hW (Nat.le_refl _)) hsa)
    clear hsa
    cases hsb : smallN b
    · have SB := Lib.hid (fun W (hW : Below w.heap.size w W) => small_no b W (hb.below hW (Nat.le_refl _)) hsb)
      clear hsb
      go_enter Try.func7, Try.ntmps7
      go_wp2_with fail
      refine (SA.out _ B0.out).mono ?_
      rintro e w1 ⟨rfl, K⟩
      have B1 : Below w.heap.size w w1 := B0.out.trans (K.mono (by simp; omega))
      have b0w1 : w1.cell? ⟨w.heap.size + 1, 0, none⟩ = some (.string b.nm) := by rw [K.cell (by simp)]; simp
      have b1w1 : w1.cell? ⟨w.heap.size + 1, 1, none⟩ = some (.slice b.PA b.ps.length b.pc) := by rw [K.cell (by simp)]; simp
      have b2w1 : w1.cell? ⟨w.heap.size + 1, 2, none⟩ = some (.slice b.TA b.ts.length b.tc) := by rw [K.cell (by simp)]; simp
      clear B0 K
      go_upto_region 2 with fail
      obtain ⟨v1, hv1⟩ : ∃ v1, v1 = w1.alloc (.cells #[.string ⟨#[]⟩, .slice none 0 0, .slice none 0 0] 25) := ⟨_, rfl⟩
      have BV : Hid (Below w.heap.size w v1) := by rw [hv1]; exact B1.alloc B1.size _
      have K : Below w1.heap.size w1 v1 := by rw [hv1]; exact (Below.refl _ _).alloc (Nat.le_refl _) _
      have b0v1 : v1.cell? ⟨w.heap.size + 1, 0, none⟩ = some (.string b.nm) := keepc b0w1 K
      have b1v1 : v1.cell? ⟨w.heap.size + 1, 1, none⟩ = some (.slice b.PA b.ps.length b.pc) := keepc b1w1 K
      have b2v1 : v1.cell? ⟨w.heap.size + 1, 2, none⟩ = some (.slice b.TA b.ts.length b.tc) := keepc b2w1 K
      rw [← hv1]
      clear hv1 B1 K b0w1 b1w1 b2w1
      generalize w1.heap.size = x at *
      go_wp2_with fail
      refine (SB.out _ BV.out).mono ?_
      rintro e w2 ⟨rfl, K⟩
      have B2 : Below w.heap.size w w2 := BV.out.trans (K.mono BV.out.size)
      clear K BV b0v1 b1v1 b2v1
      have BX := Lib.hid (B2.alloc B2.size (.cells #[.string ⟨#[]⟩, .slice none 0 0, .slice none 0 0] 25))
      clear B2
      go_wp2_with fail
      refine (lives_any _).mono ?_
      rintro e w3 ⟨rfl, K⟩
      have B3 := Lib.hid (BX.out.trans (K.mono BX.out.size))
      clear K
      go_wp2
      go_ret
      exact ⟨rfl, B3.out⟩
    · have SB := Lib.hid (fun W (hW : Below w.heap.size w W) => small_yes b W (hb.below hW (Nat.le_refl _)) hsb)
      have hB := Lib.hid (small_ok hb hsb)
      clear hsb
      go_enter Try.func7, Try.ntmps7
      go_wp2_with fail
      refine (SA.out _ B0.out).mono ?_
      rintro e w1 ⟨rfl, K⟩
      have B1 : Below w.heap.size w w1 := B0.out.trans (K.mono (by simp; omega))
      have b0w1 : w1.cell? ⟨w.heap.size + 1, 0, none⟩ = some (.string b.nm) := by rw [K.cell (by simp)]; simp
      have b1w1 : w1.cell? ⟨w.heap.size + 1, 1, none⟩ = some (.slice b.PA b.ps.length b.pc) := by rw [K.cell (by simp)]; simp
      have b2w1 : w1.cell? ⟨w.heap.size + 1, 2, none⟩ = some (.slice b.TA b.ts.length b.tc) := by rw [K.cell (by simp)]; simp
      clear B0 K
      go_upto_region 2 with fail
      obtain ⟨v1, hv1⟩ : ∃ v1, v1 = w1.alloc (.cells #[.string ⟨#[]⟩, .slice none 0 0, .slice none 0 0] 25) := ⟨_, rfl⟩
      have BV : Hid (Below w.heap.size w v1) := by rw [hv1]; exact B1.alloc B1.size _
      have K : Below w1.heap.size w1 v1 := by rw [hv1]; exact (Below.refl _ _).alloc (Nat.le_refl _) _
      have b0v1 : v1.cell? ⟨w.heap.size + 1, 0, none⟩ = some (.string b.nm) := keepc b0w1 K
      have b1v1 : v1.cell? ⟨w.heap.size + 1, 1, none⟩ = some (.slice b.PA b.ps.length b.pc) := keepc b1w1 K
      have b2v1 : v1.cell? ⟨w.heap.size + 1, 2, none⟩ = some (.slice b.TA b.ts.length b.tc) := keepc b2w1 K
      rw [← hv1]
      clear hv1 B1 K b0w1 b1w1 b2w1
      generalize w1.heap.size = x at *
      go_wp2_with fail
      refine (SB.out _ BV.out).mono ?_
      rintro e w2 ⟨rfl, K⟩
      have B2 : Below w.heap.size w w2 := BV.out.trans (K.mono BV.out.size)
      clear K BV b0v1 b1v1 b2v1
      have BX := Lib.hid (B2.alloc B2.size (.cells #[.string b.nm, .slice b.PA b.ps.length b.pc, .slice b.TA b.ts.length b.tc] 25))
      clear B2
      go_wp2_with fail
      refine (lives_any _).mono ?_
      rintro e w3 ⟨rfl, K⟩
      have B3 := Lib.hid (BX.out.trans (K.mono BX.out.size))
      clear K
      go_wp2
      go_ret
      exact ⟨rfl, B3.out⟩
  · have SA := Lib.hid (fun W (hW : Below w.heap.size w W) => small_yes a W (ha.below hW (Nat.le_refl _)) hsa)
    have hA := Lib.hid (small_ok ha hsa)
    clear hsa
    cases hsb : smallN b
    · have SB := Lib.hid (fun W (hW : Below w.heap.size w W) => small_no b W (hb.below hW (Nat.le_refl _)) hsb)
      clear hsb
      go_enter Try.func7, Try.ntmps7
      go_wp2_with fail
      refine (SA.out _ B0.out).mono ?_
      rintro e w1 ⟨rfl, K⟩
      have B1 : Below w.heap.size w w1 := B0.out.trans (K.mono (by simp; omega))
      have b0w1 : w1.cell? ⟨w.heap.size + 1, 0, none⟩ = some (.string b.nm) := by rw [K.cell (by simp)]; simp
      have b1w1 : w1.cell? ⟨w.heap.size + 1, 1, none⟩ = some (.slice b.PA b.ps.length b.pc) := by rw [K.cell (by simp)]; simp
      have b2w1 : w1.cell? ⟨w.heap.size + 1, 2, none⟩ = some (.slice b.TA b.ts.length b.tc) := by rw [K.cell (by simp)]; simp
      clear B0 K
      go_upto_region 2 with fail
      obtain ⟨v1, hv1⟩ : ∃ v1, v1 = w1.alloc (.cells #[.string a.nm, .slice a.PA a.ps.length a.pc, .slice a.TA a.ts.length a.tc] 25) := ⟨_, rfl⟩
      have BV : Hid (Below w.heap.size w v1) := by rw [hv1]; exact B1.alloc B1.size _
      have K : Below w1.heap.size w1 v1 := by rw [hv1]; exact (Below.refl _ _).alloc (Nat.le_refl _) _
      have b0v1 : v1.cell? ⟨w.heap.size + 1, 0, none⟩ = some (.string b.nm) := keepc b0w1 K
      have b1v1 : v1.cell? ⟨w.heap.size + 1, 1, none⟩ = some (.slice b.PA b.ps.length b.pc) := keepc b1w1 K
      have b2v1 : v1.cell? ⟨w.heap.size + 1, 2, none⟩ = some (.slice b.TA b.ts.length b.tc) := keepc b2w1 K
      have x0v1 : v1.cell? ⟨w1.heap.size, 0, none⟩ = some (.string a.nm) := by rw [hv1]; simp
      have x1v1 : v1.cell? ⟨w1.heap.size, 1, none⟩ = some (.slice a.PA a.ps.length a.pc) := by rw [hv1]; simp
      have x2v1 : v1.cell? ⟨w1.heap.size, 2, none⟩ = some (.slice a.TA a.ts.length a.tc) := by rw [hv1]; simp
      rw [← hv1]
      clear hv1 B1 K b0w1 b1w1 b2w1
      generalize w1.heap.size = x at *
      go_wp2_with fail
      refine (SB.out _ BV.out).mono ?_
      rintro e w2 ⟨rfl, K⟩
      have B2 : Below w.heap.size w w2 := BV.out.trans (K.mono BV.out.size)
      clear K BV b0v1 b1v1 b2v1 x0v1 x1v1 x2v1
      have BX := Lib.hid (B2.alloc B2.size (.cells #[.string ⟨#[]⟩, .slice none 0 0, .slice none 0 0] 25))
      clear B2
      go_wp2_with fail
      refine (lives_any _).mono ?_
      rintro e w3 ⟨rfl, K⟩
      have B3 := Lib.hid (BX.out.trans (K.mono BX.out.size))
      clear K
      go_wp2
      go_ret
      exact ⟨rfl, B3.out⟩
    · have SB := Lib.hid (fun W (hW : Below w.heap.size w W) => small_yes b W (hb.below hW (Nat.le_refl _)) hsb)
      have hB := Lib.hid (small_ok hb hsb)
      clear hsb
      go_enter Try.func7, Try.ntmps7
      go_wp2_with fail
      refine (SA.out _ B0.out).mono ?_
      rintro e w1 ⟨rfl, K⟩
      have B1 : Below w.heap.size w w1 := B0.out.trans (K.mono (by simp; omega))
      have b0w1 : w1.cell? ⟨w.heap.size + 1, 0, none⟩ = some (.string b.nm) := by rw [K.cell (by simp)]; simp
      have b1w1 : w1.cell? ⟨w.heap.size + 1, 1, none⟩ = some (.slice b.PA b.ps.length b.pc) := by rw [K.cell (by simp)]; simp
      have b2w1 : w1.cell? ⟨w.heap.size + 1, 2, none⟩ = some (.slice b.TA b.ts.length b.tc) := by rw [K.cell (by simp)]; simp
      clear B0 K
      go_upto_region 2 with fail
      obtain ⟨v1, hv1⟩ : ∃ v1, v1 = w1.alloc (.cells #[.string a.nm, .slice a.PA a.ps.length a.pc, .slice a.TA a.ts.length a.tc] 25) := ⟨_, rfl⟩
      have BV : Hid (Below w.heap.size w v1) := by rw [hv1]; exact B1.alloc B1.size _
      have K : Below w1.heap.size w1 v1 := by rw [hv1]; exact (Below.refl _ _).alloc (Nat.le_refl _) _
      have b0v1 : v1.cell? ⟨w.heap.size + 1, 0, none⟩ = some (.string b.nm) := keepc b0w1 K
      have b1v1 : v1.cell? ⟨w.heap.size + 1, 1, none⟩ = some (.slice b.PA b.ps.length b.pc) := keepc b1w1 K
      have b2v1 : v1.cell? ⟨w.heap.size + 1, 2, none⟩ = some (.slice b.TA b.ts.length b.tc) := keepc b2w1 K
      have x0v1 : v1.cell? ⟨w1.heap.size, 0, none⟩ = some (.string a.nm) := by rw [hv1]; simp
      have x1v1 : v1.cell? ⟨w1.heap.size, 1, none⟩ = some (.slice a.PA a.ps.length a.pc) := by rw [hv1]; simp
      have x2v1 : v1.cell? ⟨w1.heap.size, 2, none⟩ = some (.slice a.TA a.ts.length a.tc) := by rw [hv1]; simp
      rw [← hv1]
      clear hv1 B1 K b0w1 b1w1 b2w1
      generalize w1.heap.size = x at *
      go_wp2_with fail
      refine (SB.out _ BV.out).mono ?_
      rintro e w2 ⟨rfl, K⟩
      have B2 : Below w.heap.size w w2 := BV.out.trans (K.mono BV.out.size)
      have x0w2 : w2.cell? ⟨x, 0, none⟩ = some (.string a.nm) := keepc x0v1 K
      have x1w2 : w2.cell? ⟨x, 1, none⟩ = some (.slice a.PA a.ps.length a.pc) := keepc x1v1 K
      have x2w2 : w2.cell? ⟨x, 2, none⟩ = some (.slice a.TA a.ts.length a.tc) := keepc x2v1 K
      clear K BV b0v1 b1v1 b2v1 x0v1 x1v1 x2v1
      go_upto_region 3 with fail
      obtain ⟨v2, hv2⟩ : ∃ v2, v2 = w2.alloc (.cells #[.string b.nm, .slice b.PA b.ps.length b.pc, .slice b.TA b.ts.length b.tc] 25) := ⟨_, rfl⟩
      have BV : Hid (Below w.heap.size w v2) := by rw [hv2]; exact B2.alloc B2.size _
      have K : Below w2.heap.size w2 v2 := by rw [hv2]; exact (Below.refl _ _).alloc (Nat.le_refl _) _
      have x0v2 : v2.cell? ⟨x, 0, none⟩ = some (.string a.nm) := keepc x0w2 K
      have x1v2 : v2.cell? ⟨x, 1, none⟩ = some (.slice a.PA a.ps.length a.pc) := keepc x1w2 K
      have x2v2 : v2.cell? ⟨x, 2, none⟩ = some (.slice a.TA a.ts.length a.tc) := keepc x2w2 K
      have y0v2 : v2.cell? ⟨w2.heap.size, 0, none⟩ = some (.string b.nm) := by rw [hv2]; simp
      have y1v2 : v2.cell? ⟨w2.heap.size, 1, none⟩ = some (.slice b.PA b.ps.length b.pc) := by rw [hv2]; simp
      have y2v2 : v2.cell? ⟨w2.heap.size, 2, none⟩ = some (.slice b.TA b.ts.length b.tc) := by rw [hv2]; simp
      rw [← hv2]
      clear hv2 B2 K x0w2 x1w2 x2w2
      generalize w2.heap.size = y at *
      have RA := fun W (hW : Below v2.heap.size v2 W) => (hA.out.below BV.out (Nat.le_refl _)).below hW (Nat.le_refl _)
      have RB := fun W (hW : Below v2.heap.size v2 W) => (hB.out.below BV.out (Nat.le_refl _)).below hW (Nat.le_refl _)
      have C1 := fun W (hW : Below v2.heap.size v2 W) => rsameN_any a b W (RA W hW) (RB W hW)
      have C2 := fun W (hW : Below v2.heap.size v2 W) => sameN_any a b W (RA W hW) (RB W hW)
      have C3 := fun W (hW : Below v2.heap.size v2 W) => sameN_any b a W (RB W hW) (RA W hW)
      have C4 := fun W (hW : Below v2.heap.size v2 W) => sameN_any a a W (RA W hW) (RA W hW)
      have C5 := fun W (hW : Below v2.heap.size v2 W) => rvalidN_any a W (RA W hW)
      rw [sames1] at C2
      rw [sames2] at C3
      rw [sames3] at C4
      clear RA RB SA SB hA hB
      generalize rsameD a b = v at *
      generalize okN a = u at *
      have hv : (v == v) = true := by simp
      have hu : (u == u) = true := by simp
      replace C1 := Lib.hid C1
      replace C2 := Lib.hid C2
      replace C3 := Lib.hid C3
      replace C4 := Lib.hid C4
      replace C5 := Lib.hid C5
      go_wp2_with fail
      refine (C1.out _ (Below.refl _ _)).mono ?_
      rintro e w4 ⟨rfl, K⟩
      have Bw4 : Hid (Below v2.heap.size v2 w4) := K
      have x0w4 : w4.cell? ⟨x, 0, none⟩ = some (.string a.nm) := keepc x0v2 K
      have x1w4 : w4.cell? ⟨x, 1, none⟩ = some (.slice a.PA a.ps.length a.pc) := keepc x1v2 K
      have x2w4 : w4.cell? ⟨x, 2, none⟩ = some (.slice a.TA a.ts.length a.tc) := keepc x2v2 K
      have y0w4 : w4.cell? ⟨y, 0, none⟩ = some (.string b.nm) := keepc y0v2 K
      have y1w4 : w4.cell? ⟨y, 1, none⟩ = some (.slice b.PA b.ps.length b.pc) := keepc y1v2 K
      have y2w4 : w4.cell? ⟨y, 2, none⟩ = some (.slice b.TA b.ts.length b.tc) := keepc y2v2 K
      clear K x0v2 x1v2 x2v2 y0v2 y1v2 y2v2
      go_wp2_with fail
      refine wp_region_held_drew (S := fun w' => w'.cell? ⟨x, 0, none⟩ = some (.string a.nm) ∧ w'.cell? ⟨x, 1, none⟩ = some (.slice a.PA a.ps.length a.pc) ∧ w'.cell? ⟨x, 2, none⟩ = some (.slice a.TA a.ts.length a.tc) ∧ w'.cell? ⟨y, 0, none⟩ = some (.string b.nm) ∧ w'.cell? ⟨y, 1, none⟩ = some (.slice b.PA b.ps.length b.pc) ∧ w'.cell? ⟨y, 2, none⟩ = some (.slice b.TA b.ts.length b.tc) ∧ Hid (Below v2.heap.size v2 w')) (by kernel_rfl) ?_ (fun hHeld => ?_)
      · exact ⟨x0w4, x1w4, x2w4, y0w4, y1w4, y2w4, Bw4.out.drew⟩
      refine wpAnyH_take (oi := ⟨_, _, _, _, _, _⟩) (i := 0) (v := ?_) rfl (by kernel_rfl) (by kernel_rfl) (by kernel_rfl) (fun _ _ _ h => h) (Or.inl ⟨by rfl, ?ya0⟩) (by assumption) ?ra0
      case ya0 => (intro w hSw; (try dsimp only at hSw); go_simp; (try with_reducible rfl))
      try simp only [Act.put, List.setIfInBounds_toArray, List.set_cons_zero, List.set_cons_succ]
      refine wpAnyH_take (oi := ⟨_, _, _, _, _, _⟩) (i := 1) (v := ?_) rfl (by kernel_rfl) (by kernel_rfl) (by kernel_rfl) (fun _ _ _ h => h) (Or.inl ⟨by rfl, ?ya1⟩) (by assumption) ?ra1
      case ya1 => (intro w hSw; (try dsimp only at hSw); go_simp; (try with_reducible rfl))
      try simp only [Act.put, List.setIfInBounds_toArray, List.set_cons_zero, List.set_cons_succ]
      refine wpAnyH_take (oi := ⟨_, _, _, _, _, _⟩) (i := 3) (v := ?_) rfl (by kernel_rfl) (by kernel_rfl) (by kernel_rfl) (fun _ _ _ h => h) (Or.inl ⟨by rfl, ?ya3⟩) (by assumption) ?ra3
      case ya3 => (intro w hSw; (try dsimp only at hSw); go_simp; (try with_reducible rfl))
      try simp only [Act.put, List.setIfInBounds_toArray, List.set_cons_zero, List.set_cons_succ]
      refine wpAnyH_ready (rs := [2]) (by kernel_rfl) (by simp) ?_
      refine AllReadyH.cons (o := ⟨_, _, _, _, _, _⟩) rfl (fun K hK => ?_) AllReadyH.nil
      go_simp
      go_at_call 44; refine (C2.out _ hHeld.2.2.2.2.2.2.out).mono ?_; rintro e w5 ⟨rfl, L5⟩; (try go_wp2_with fail)
      refine hK.out _ _ ?_ (fun hHeld2 => ?_)
      · obtain ⟨h1, h2, h3, h4, h5, h6, h7⟩ := hHeld; exact ⟨keepc h1 L5, keepc h2 L5, keepc h3 L5, keepc h4 L5, keepc h5 L5, keepc h6 L5, h7.out.trans (L5.mono h7.out.size)⟩
      clear hK K hHeld
      have hHeld := hHeld2
      clear hHeld2
      try simp only [Act.put, List.setIfInBounds_toArray, List.set_cons_zero, List.set_cons_succ]
      refine wpAnyH_take (oi := ⟨_, _, _, _, _, _⟩) (i := 4) (v := ?_) rfl (by kernel_rfl) (by kernel_rfl) (by kernel_rfl) (fun _ _ _ h => h) (Or.inl ⟨by rfl, ?ya4⟩) (by assumption) ?ra4
      case ya4 => (intro w hSw; (try dsimp only at hSw); go_simp; (try with_reducible rfl))
      try simp only [Act.put, List.setIfInBounds_toArray, List.set_cons_zero, List.set_cons_succ]
      refine wpAnyH_take (oi := ⟨_, _, _, _, _, _⟩) (i := 5) (v := ?_) rfl (by kernel_rfl) (by kernel_rfl) (by kernel_rfl) (fun _ _ _ h => h) (Or.inl ⟨by rfl, ?ya5⟩) (by assumption) ?ra5
      case ya5 => (intro w hSw; (try dsimp only at hSw); go_simp; (try with_reducible rfl))
      try simp only [Act.put, List.setIfInBounds_toArray, List.set_cons_zero, List.set_cons_succ]
      refine wpAnyH_take (oi := ⟨_, _, _, _, _, _⟩) (i := 6) (v := ?_) rfl (by kernel_rfl) (by kernel_rfl) (by kernel_rfl) (fun _ _ _ h => h) (Or.inl ⟨by rfl, ?ya6⟩) (by assumption) ?ra6
      case ya6 => (intro w hSw; (try dsimp only at hSw); go_simp; (try with_reducible rfl))
      try simp only [Act.put, List.setIfInBounds_toArray, List.set_cons_zero, List.set_cons_succ]
      refine wpAnyH_take (oi := ⟨_, _, _, _, _, _⟩) (i := 7) (v := ?_) rfl (by kernel_rfl) (by kernel_rfl) (by kernel_rfl) (fun _ _ _ h => h) (Or.inl ⟨by rfl, ?ya7⟩) (by assumption) ?ra7
      case ya7 => (intro w hSw; (try dsimp only at hSw); go_simp; (try with_reducible rfl))
      try simp only [Act.put, List.setIfInBounds_toArray, List.set_cons_zero, List.set_cons_succ]
      refine wpAnyH_take (oi := ⟨_, _, _, _, _, _⟩) (i := 9) (v := ?_) rfl (by kernel_rfl) (by kernel_rfl) (by kernel_rfl) (fun _ _ _ h => h) (Or.inl ⟨by rfl, ?ya9⟩) (by assumption) ?ra9
      case ya9 => (intro w hSw; (try dsimp only at hSw); go_simp; (try with_reducible rfl))
      try simp only [Act.put, List.setIfInBounds_toArray, List.set_cons_zero, List.set_cons_succ]
      refine wpAnyH_ready (rs := [8]) (by kernel_rfl) (by simp) ?_
      refine AllReadyH.cons (o := ⟨_, _, _, _, _, _⟩) rfl (fun K hK => ?_) AllReadyH.nil
      go_simp
      go_at_call 44; refine (C3.out _ hHeld.2.2.2.2.2.2.out).mono ?_; rintro e w6 ⟨rfl, L6⟩; (try go_wp2_with fail)
      refine hK.out _ _ ?_ (fun hHeld2 => ?_)
      · obtain ⟨h1, h2, h3, h4, h5, h6, h7⟩ := hHeld; exact ⟨keepc h1 L6, keepc h2 L6, keepc h3 L6, keepc h4 L6, keepc h5 L6, keepc h6 L6, h7.out.trans (L6.mono h7.out.size)⟩
      clear hK K hHeld
      have hHeld := hHeld2
      clear hHeld2
      try simp only [Act.put, List.setIfInBounds_toArray, List.set_cons_zero, List.set_cons_succ]
      refine wpAnyH_take (oi := ⟨_, _, _, _, _, _⟩) (i := 10) (v := ?_) rfl (by kernel_rfl) (by kernel_rfl) (by kernel_rfl) (fun _ _ _ h => h) (Or.inl ⟨by rfl, ?ya10⟩) (by assumption) ?ra10
      case ya10 => (intro w hSw; (try dsimp only at hSw); go_simp; (try with_reducible rfl))
      try simp only [Act.put, List.setIfInBounds_toArray, List.set_cons_zero, List.set_cons_succ]
      refine wpAnyH_take (oi := ⟨_, _, _, _, _, _⟩) (i := 11) (v := ?_) rfl (by kernel_rfl) (by kernel_rfl) (by kernel_rfl) (fun _ _ _ h => h) (Or.inl ⟨by rfl, ?ya11⟩) (by assumption) ?ra11
      case ya11 => (intro w hSw; (try dsimp only at hSw); go_simp; (try with_reducible rfl))
      try simp only [Act.put, List.setIfInBounds_toArray, List.set_cons_zero, List.set_cons_succ]
      refine wpAnyH_take (oi := ⟨_, _, _, _, _, _⟩) (i := 12) (v := ?_) rfl (by kernel_rfl) (by kernel_rfl) (by kernel_rfl) (fun _ _ _ h => h) (Or.inl ⟨by rfl, ?ya12⟩) (by assumption) ?ra12
      case ya12 => (intro w hSw; (try dsimp only at hSw); go_simp; (try with_reducible rfl))
      try simp only [Act.put, List.setIfInBounds_toArray, List.set_cons_zero, List.set_cons_succ]
      refine wpAnyH_take (oi := ⟨_, _, _, _, _, _⟩) (i := 13) (v := ?_) rfl (by kernel_rfl) (by kernel_rfl) (by kernel_rfl) (fun _ _ _ h => h) (Or.inl ⟨by rfl, ?ya13⟩) (by assumption) ?ra13
      case ya13 => (intro w hSw; (try dsimp only at hSw); go_simp; (try with_reducible rfl))
      try simp only [Act.put, List.setIfInBounds_toArray, List.set_cons_zero, List.set_cons_succ]
      refine wpAnyH_take (oi := ⟨_, _, _, _, _, _⟩) (i := 14) (v := ?_) rfl (by kernel_rfl) (by kernel_rfl) (by kernel_rfl) (fun _ _ _ h => h) (Or.inl ⟨by rfl, ?ya14⟩) (by assumption) ?ra14
      case ya14 => (intro w hSw; (try dsimp only at hSw); go_simp; (try with_reducible rfl))
      try simp only [Act.put, List.setIfInBounds_toArray, List.set_cons_zero, List.set_cons_succ]
      refine wpAnyH_take (oi := ⟨_, _, _, _, _, _⟩) (i := 16) (v := ?_) rfl (by kernel_rfl) (by kernel_rfl) (by kernel_rfl) (fun _ _ _ h => h) (Or.inl ⟨by rfl, ?ya16⟩) (by assumption) ?ra16
      case ya16 => (intro w hSw; (try dsimp only at hSw); go_simp; (try with_reducible rfl))
      try simp only [Act.put, List.setIfInBounds_toArray, List.set_cons_zero, List.set_cons_succ]
      refine wpAnyH_ready (rs := [15]) (by kernel_rfl) (by simp) ?_
      refine AllReadyH.cons (o := ⟨_, _, _, _, _, _⟩) rfl (fun K hK => ?_) AllReadyH.nil
      go_simp
      go_at_call 44; refine (C4.out _ hHeld.2.2.2.2.2.2.out).mono ?_; rintro e w7 ⟨rfl, L7⟩; (try go_wp2_with fail)
      refine hK.out _ _ ?_ (fun hHeld2 => ?_)
      · obtain ⟨h1, h2, h3, h4, h5, h6, h7⟩ := hHeld; exact ⟨keepc h1 L7, keepc h2 L7, keepc h3 L7, keepc h4 L7, keepc h5 L7, keepc h6 L7, h7.out.trans (L7.mono h7.out.size)⟩
      clear hK K hHeld
      have hHeld := hHeld2
      clear hHeld2
      try simp only [Act.put, List.setIfInBounds_toArray, List.set_cons_zero, List.set_cons_succ]
      refine wpAnyH_ready (rs := [17]) (by kernel_rfl) (by simp) ?_
      refine AllReadyH.cons (o := ⟨_, _, _, _, _, _⟩) rfl (fun K hK => ?_) AllReadyH.nil
      go_simp
      go_at_call 45; refine (C5.out _ hHeld.2.2.2.2.2.2.out).mono ?_; rintro e w8 ⟨rfl, L8⟩; (try go_wp2_with fail)
      refine hK.out _ _ ?_ (fun hHeld2 => ?_)
      · obtain ⟨h1, h2, h3, h4, h5, h6, h7⟩ := hHeld; exact ⟨keepc h1 L8, keepc h2 L8, keepc h3 L8, keepc h4 L8, keepc h5 L8, keepc h6 L8, h7.out.trans (L8.mono h7.out.size)⟩
      clear hK K hHeld
      have hHeld := hHeld2
      clear hHeld2
      try simp only [Act.put, List.setIfInBounds_toArray, List.set_cons_zero, List.set_cons_succ]
      refine wpAnyH_take (oi := ⟨_, _, _, _, _, _⟩) (i := 18) (v := ?_) rfl (by kernel_rfl) (by kernel_rfl) (by kernel_rfl) (fun _ _ _ h => h) (Or.inl ⟨by rfl, ?ya18⟩) (by assumption) ?ra18
      case ya18 => (intro w hSw; (try dsimp only at hSw); go_simp; (try with_reducible rfl))
      try simp only [Act.put, List.setIfInBounds_toArray, List.set_cons_zero, List.set_cons_succ]
      refine wpAnyH_take (oi := ⟨_, _, _, _, _, _⟩) (i := 19) (v := ?_) rfl (by kernel_rfl) (by kernel_rfl) (by kernel_rfl) (fun _ _ _ h => h) (Or.inl ⟨by rfl, ?ya19⟩) (by assumption) ?ra19
      case ya19 => (intro w hSw; (try dsimp only at hSw); go_simp; (try with_reducible rfl))
      try simp only [Act.put, List.setIfInBounds_toArray, List.set_cons_zero, List.set_cons_succ]
      refine wpAnyH_take (oi := ⟨_, _, _, _, _, _⟩) (i := 20) (v := ?_) rfl (by kernel_rfl) (by kernel_rfl) (by kernel_rfl) (fun _ _ _ h => h) (Or.inl ⟨by rfl, ?ya20⟩) (by assumption) ?ra20
      case ya20 => (intro w hSw; (try dsimp only at hSw); go_simp; (try with_reducible rfl))
      try simp only [Act.put, List.setIfInBounds_toArray, List.set_cons_zero, List.set_cons_succ]
      refine wpAnyH_ready (rs := [21]) (by kernel_rfl) (by simp) ?_
      refine AllReadyH.cons (o := ⟨_, _, _, _, _, _⟩) rfl (fun K hK => ?_) AllReadyH.nil
      go_simp
      go_at_call 12; refine (lives_any _).mono ?_; rintro e w9 ⟨rfl, L9⟩; (try go_wp2_with fail)
      refine hK.out _ _ ?_ (fun hHeld2 => ?_)
      · obtain ⟨h1, h2, h3, h4, h5, h6, h7⟩ := hHeld; exact ⟨keepc h1 L9, keepc h2 L9, keepc h3 L9, keepc h4 L9, keepc h5 L9, keepc h6 L9, h7.out.trans (L9.mono h7.out.size)⟩
      clear hK K hHeld
      have hHeld := hHeld2
      clear hHeld2
      try simp only [Act.put, List.setIfInBounds_toArray, List.set_cons_zero, List.set_cons_succ]
      refine wpAnyH_take (oi := ⟨_, _, _, _, _, _⟩) (i := 22) (v := ?_) rfl (by kernel_rfl) (by kernel_rfl) (by kernel_rfl) (fun _ _ _ h => h) (Or.inl ⟨by rfl, ?ya22⟩) (by assumption) ?ra22
      case ya22 => (intro w hSw; (try dsimp only at hSw); go_simp; (try with_reducible rfl))
      try simp only [Act.put, List.setIfInBounds_toArray, List.set_cons_zero, List.set_cons_succ]
      refine wpAnyH_take (oi := ⟨_, _, _, _, _, _⟩) (i := 23) (v := ?_) rfl (by kernel_rfl) (by kernel_rfl) (by kernel_rfl) (fun _ _ _ h => h) (Or.inl ⟨by rfl, ?ya23⟩) (by assumption) ?ra23
      case ya23 => (intro w hSw; (try dsimp only at hSw); go_simp; (try with_reducible rfl))
      try simp only [Act.put, List.setIfInBounds_toArray, List.set_cons_zero, List.set_cons_succ]
      refine wpAnyH_done (by kernel_rfl) ?_ _
      have Bn := Lib.hid hHeld.2.2.2.2.2.2.out
      clear hHeld L5 L6 L7 L8 L9 x0w4 x1w4 x2w4 y0w4 y1w4 y2w4
      go_wp2
      go_ret
      exact ⟨rfl, BV.out.trans (Bn.out.mono BV.out.size)⟩
end Go.Proofs.Ytoahhnahjpcpoaa
