/- Classes of nets: the law on what clusters hold. -/
import Derived.Test.YtlbcdnobpnllkaaKX
import Derived.Test.YtlbcdnobpnllkaaDgM3
import Derived.Deep.RegionHeld3
import Derived.Deep.RegionWith
namespace Go.Proofs.Ytlbcdnobpnllkaa
open Go.RowKit Go.Deep

theorem keepcY {w w' : World} {p : Addr} {v : Value} (h : w.cell? p = some v) (hb : Below w.heap.size w w') : w'.cell? p = some v := (hb.cell (World.block_lt_of_cell? w p h)).trans h
set_option maxHeartbeats 16000000 in
set_option maxRecDepth 1000000 in
theorem spreads_law (n : NetV) (w : World) (hn : NetW w n) :
    Calls Try.prog 4 #[(.agg #[.string n.nm, .slice n.PA n.ps.length n.pc, .slice n.TA n.ts.length n.tc])] w fun e w' => e = .returned (.bool true) ∧ Below w.heap.size w w' := by
  have B0 : Hid (Below w.heap.size w (w.alloc (.cells #[.string n.nm, .slice n.PA n.ps.length n.pc, .slice n.TA n.ts.length n.tc] 25))) := (Below.refl _ _).alloc (Nat.le_refl _) _
  cases hs : smallN n
  · have SM := Lib.hid (fun W (hW : Below w.heap.size w W) => small_no n W (hn.below hW (Nat.le_refl _)) hs)
    have CC := Lib.hid (fun W => clust_any ⟨⟨#[]⟩, none, [], 0, none, [], 0⟩ W ⟨by decide, ⟨by simp, fun j => by simp [pA]⟩, ⟨by simp, fun j => by simp [tA]⟩, by simp, by simp, fun j hj => absurd hj (by simp), fun j hj => absurd hj (by simp)⟩)
    unfold Dg.IsPost at CC
    go_enter Try.func4, Try.ntmps4
    go_wp2_with fail
    refine (SM.out _ B0.out).mono ?_
    rintro e w1 ⟨rfl, K⟩
    have B1 : Below w.heap.size w w1 := B0.out.trans (K.mono B0.out.size)
    have BX := Lib.hid (B1.alloc B1.size (.cells #[.string ⟨#[]⟩, .slice none 0 0, .slice none 0 0] 25))
    clear B1 K
    go_wp2_with fail
    refine (CC.out _).mono ?_
    rintro e w2 ⟨A, c, rfl, R, K⟩
    have B2 := Lib.hid (BX.out.trans (K.mono BX.out.size))
    clear K R CC
    go_wp2_with fail
    refine (alive_any _).mono ?_
    rintro e w3 ⟨rfl, K⟩
    have B3 := Lib.hid (B2.out.trans (K.mono B2.out.size))
    clear K
    go_wp2
    go_ret
    exact ⟨rfl, B3.out⟩
  have hR := Lib.hid (small_ok hn hs)
  have SM := Lib.hid (fun W (hW : Below w.heap.size w W) => small_yes n W (hn.below hW (Nat.le_refl _)) hs)
  clear hs
  go_enter Try.func4, Try.ntmps4
  go_wp2_with fail
  refine (SM.out _ B0.out).mono ?_
  rintro e w1 ⟨rfl, K⟩
  have B1 : Below w.heap.size w w1 := B0.out.trans (K.mono B0.out.size)
  go_upto_region 10 with fail
  obtain ⟨w2, hw2⟩ : ∃ w2, w2 = w1.alloc (.cells #[.string n.nm, .slice n.PA n.ps.length n.pc, .slice n.TA n.ts.length n.tc] 25) := ⟨_, rfl⟩
  have BW : Hid (Below w.heap.size w w2) := by rw [hw2]; exact B1.alloc B1.size _
  have N0 : Hid (NBox w2 w1.heap.size n) := by show NBox _ _ _; rw [hw2]; exact NBox.new w1 n
  have S0 : Hid (w1.heap.size < w2.heap.size) := by show _ < _; rw [hw2, World.size_alloc]; omega
  have CN : Hid (∀ W, Below w2.heap.size w2 W → NetR W n) := fun W hW => (hR.out.below BW.out (Nat.le_refl _)).below hW (Nat.le_refl _)
  have CC : Hid (∀ W, Below w2.heap.size w2 W → Calls Try.prog 13 #[(.agg #[.string n.nm, .slice n.PA n.ps.length n.pc, .slice n.TA n.ts.length n.tc])] W (Dg.IsPost W.heap.size W (clL n))) := fun W hW => clust_any n W (CN.out W hW)
  have CV : Hid (∀ W, Below w2.heap.size w2 W → Calls Try.prog 14 #[(.agg #[.string n.nm, .slice n.PA n.ps.length n.pc, .slice n.TA n.ts.length n.tc])] W (VPost W.heap.size W (.bool (okN n)))) := fun W hW => rvalidN_any n W (CN.out W hW)
  have CF : Hid (∀ W, Below w2.heap.size w2 W → Calls Try.prog 7 #[(.agg #[.string n.nm, .slice n.PA n.ps.length n.pc, .slice n.TA n.ts.length n.tc])] W (VPost W.heap.size W (.bool (fcN n)))) := fun W hW => fcN_any n W (CN.out W hW)
  unfold Dg.IsPost at CC
  have hts := hR.out.okt
  rw [← hw2]
  clear hw2 B1 K hR SM B0
  generalize w1.heap.size = x at *
  have B0 : Hid (Below w2.heap.size w2 w2) := Below.refl _ _
  obtain ⟨c0, c1, c2⟩ := N0.out
  go_wp2_with fail
  refine (CC.out _ B0.out).mono ?_
  rintro e x1 ⟨A, cc, rfl, R, K⟩
  have N1 := Lib.hid (N0.out.below K S0.out)
  have B1 := Lib.hid (B0.out.trans (K.mono B0.out.size))
  have S1 : Hid (x < x1.heap.size) := Nat.lt_of_lt_of_le S0.out K.size
  have RW : Hid (∀ W, Below x1.heap.size x1 W → Dg.ReadsV W A (clL n)) := fun W hW => R.below hW (Nat.le_refl _)
  have X1 : Hid (∀ W, Below x1.heap.size x1 W → Below w2.heap.size w2 W) := fun W hW => B1.out.trans (hW.mono B1.out.size)
  clear K R N0 S0 B0 CC c0 c1 c2
  obtain ⟨c0, c1, c2⟩ := N1.out
  by_cases hok : okN n = true
  case neg =>
    have hok : okN n = false := by simpa using hok
    have E := clL_no hok
    rw [hok] at CV
    have hl : (clL n).length = 0 := by rw [E]; rfl
    rw [hl]
    clear E hok RW hl
    go_wp2_with fail
    refine (CV.out _ B1.out).mono ?_
    rintro e x2 ⟨rfl, K⟩
    have N2 := Lib.hid (N1.out.below K S1.out)
    have B2 := Lib.hid (B1.out.trans (K.mono B1.out.size))
    have S2 : Hid (x < x2.heap.size) := Nat.lt_of_lt_of_le S1.out K.size
    clear K c0 c1 c2
    obtain ⟨c0, c1, c2⟩ := N2.out
    go_wp2_with fail
    refine (alive_any _).mono ?_
    rintro e w9 ⟨rfl, K⟩
    have B9 := Lib.hid (B2.out.trans (K.mono B2.out.size))
    clear K
    go_wp2
    go_ret
    exact ⟨rfl, BW.out.trans (B9.out.mono BW.out.size)⟩
  rw [hok] at CV
  have hl : (clL n).length = n.ps.length + n.ts.length := clL_ok hok
  have h48 := nod_48 hok
  unfold nodN at h48
  have SL : Hid (∀ v, v < n.ps.length + n.ts.length → ∃ m : Nat, Dg.at0 (clL n) v = (m : Int) ∧ m ≤ v ∧ Dg.at0 (clL n) m = (m : Int)) := fun v hv => sp_least hok hv
  have SJ : Hid (∀ t i, t < n.ts.length → i < (tA n.ts t).pre.l.length → ∃ p : Nat, aP (tA n.ts t).pre.l i = (p : Int) ∧ p < n.ps.length + n.ts.length ∧ Dg.at0 (clL n) p = Dg.at0 (clL n) (n.ps.length + t)) := fun t i ht hi => sp_join hok ht hi
  have SS : Hid (∀ t u, t < n.ts.length → u < t → fcN n = true → Dg.at0 (clL n) (n.ps.length + u) = Dg.at0 (clL n) (n.ps.length + t) → targetsV (tA n.ts u).pre.l = targetsV (tA n.ts t).pre.l) := fun t u ht hu hf e => sp_same hok hf ht hu e
  have RT : Hid (∀ W, Below w2.heap.size w2 W → ReadsT W n.TA n.ts) := fun W hW => (CN.out W hW).rt
  have OT := Lib.hid hts
  rw [hl]
  obtain ⟨N, hN⟩ : ∃ N, N = n.ps.length + n.ts.length := ⟨_, rfl⟩
  have hNi : (n.ps.length : Int) + (n.ts.length : Int) = (N : Int) := by omega
  rw [← hN] at SL SJ ⊢
  have RL : Hid (∀ W, Below x1.heap.size x1 W → ∀ v, v < N → ∃ b off, A = some ⟨b, off, none⟩ ∧ W.cell? ⟨b, off + v, none⟩ = some (.int .i64 (Dg.at0 (clL n) v))) := fun W hW v hv => by
    obtain ⟨b, off, e, _, h⟩ := RW.out W hW v (by rw [hl]; omega)
    exact ⟨b, off, e, h⟩
  have HN := Lib.hid hN
  have hw64 : IntKind.i64.wrap ((n.ps.length : Int) + (n.ts.length : Int)) = (N : Int) := by rw [IntKind.wrap_i64]; omega
  generalize clL n = cl at *
  generalize fcN n = fc at *
  clear hok hl RW hN hts CN
  go_wp2_with fail
  refine (CV.out _ B1.out).mono ?_
  rintro e x2 ⟨rfl, K⟩
  have N2 := Lib.hid (N1.out.below K S1.out)
  have B2 := Lib.hid (B1.out.trans (K.mono B1.out.size))
  have S2 : Hid (x < x2.heap.size) := Nat.lt_of_lt_of_le S1.out K.size
  have K2 : Hid (Below x1.heap.size x1 x2) := K
  clear K c0 c1 c2 CV
  obtain ⟨c0, c1, c2⟩ := N2.out
  have hne : ((N : Int) != (N : Int)) = false := by simp
  go_wp2_with fail
  go_loopw [7] (fun q wr => ∃ v : Nat, v ≤ N ∧ q = .int .i64 (v : Nat) ∧ Hid (NBox wr x n) ∧ Hid (Below x1.heap.size x1 wr) ∧ Hid (x < wr.heap.size)) (fun q _ => N - (intOf q).toNat)
  case atStart => exact ⟨0, by omega, rfl, N2, K2, S2⟩
  case round =>
    clear N2 K2 S2 c0 c1 c2
    obtain ⟨wo, rfl⟩ : ∃ wo, wo = wr := ⟨_, rfl⟩
    obtain ⟨v, hv, rfl, NB, BB, SZ⟩ := hrel
    by_cases hlt : v < N
    · obtain ⟨m, m1, m2, m3⟩ := SL.out v hlt
      obtain ⟨b, off, rfl, d1⟩ := RL.out wo BB.out v hlt
      obtain ⟨b', off', e', d2⟩ := RL.out wo BB.out m (by omega)
      simp only [Option.some.injEq, Addr.mk.injEq, and_true] at e'
      obtain ⟨rfl, rfl⟩ := e'
      rw [m1] at d1
      rw [m3] at d2
      have q1 : ¬ (m : Int) < 0 := by omega
      have q2 : ¬ (v : Int) < (m : Int) := by omega
      have q3 : (m : Int) < (N : Int) := by omega
      have q5 : ¬ v < m := by omega
      have q6 : (m : Int) ≤ (v : Int) := by omega
      have q7 : decide ((v : Int) < (m : Int)) = false := decide_eq_false q2
      have q8 : decide (v < m) = false := decide_eq_false q5
      have q4 : ((m : Int) != (m : Int)) = false := by simp
      have K3 := Lib.hid BB.out.drew
      clear SL SJ SS RL m1 m3 CF RT OT
      go_upto_region 10 with fail
      refine wp_region_held_drew (S := fun w' => w'.cell? ⟨b, off + v, none⟩ = some (.int .i64 (m : Int)) ∧ w'.cell? ⟨b, off + m, none⟩ = some (.int .i64 (m : Int))) (by kernel_rfl) ?_ (fun hHeld => ?_)
      · exact ⟨d1, d2⟩
      refine wpAnyH_take (oi := ⟨_, _, _, _, _, _⟩) (i := 0) (v := ?_) rfl (by kernel_rfl) (by kernel_rfl) (by kernel_rfl) (fun _ _ _ h => h) (Or.inl ⟨by rfl, ?ya0⟩) (by assumption) ?ra0
      case ya0 => (intro w hSw; (try dsimp only at hSw); go_simp; (try with_reducible rfl))
      try simp only [Act.put, List.setIfInBounds_toArray, List.set_cons_zero, List.set_cons_succ]
      refine wpAnyH_take (oi := ⟨_, _, _, _, _, _⟩) (i := 1) (v := ?_) rfl (by kernel_rfl) (by kernel_rfl) (by kernel_rfl) (fun _ _ _ h => h) (Or.inl ⟨by rfl, ?ya1⟩) (by assumption) ?ra1
      case ya1 => (intro w hSw; (try dsimp only at hSw); go_simp; (try with_reducible rfl))
      try simp only [Act.put, List.setIfInBounds_toArray, List.set_cons_zero, List.set_cons_succ]
      refine wpAnyH_take (oi := ⟨_, _, _, _, _, _⟩) (i := 2) (v := ?_) rfl (by kernel_rfl) (by kernel_rfl) (by kernel_rfl) (fun _ _ _ h => h) (Or.inl ⟨by rfl, ?ya2⟩) (by assumption) ?ra2
      case ya2 => (intro w hSw; (try dsimp only at hSw); go_simp; (try with_reducible rfl))
      try simp only [Act.put, List.setIfInBounds_toArray, List.set_cons_zero, List.set_cons_succ]
      refine wpAnyH_take (oi := ⟨_, _, _, _, _, _⟩) (i := 3) (v := ?_) rfl (by kernel_rfl) (by kernel_rfl) (by kernel_rfl) (fun _ _ _ h => h) (Or.inl ⟨by rfl, ?ya3⟩) (by assumption) ?ra3
      case ya3 => (intro w hSw; (try dsimp only at hSw); go_simp; (try with_reducible rfl))
      try simp only [Act.put, List.setIfInBounds_toArray, List.set_cons_zero, List.set_cons_succ]
      refine wpAnyH_take (oi := ⟨_, _, _, _, _, _⟩) (i := 4) (v := ?_) rfl (by kernel_rfl) (by kernel_rfl) (by kernel_rfl) (fun _ _ _ h => h) (Or.inl ⟨by rfl, ?ya4⟩) (by assumption) ?ra4
      case ya4 => (intro w hSw; (try dsimp only at hSw); go_simp; (try with_reducible rfl))
      try simp only [Act.put, List.setIfInBounds_toArray, List.set_cons_zero, List.set_cons_succ]
      refine wpAnyH_take (oi := ⟨_, _, _, _, _, _⟩) (i := 5) (v := ?_) rfl (by kernel_rfl) (by kernel_rfl) (by kernel_rfl) (fun _ _ _ h => h) (Or.inl ⟨by rfl, ?ya5⟩) (by assumption) ?ra5
      case ya5 => (intro w hSw; (try dsimp only at hSw); go_simp; (try with_reducible rfl))
      try simp only [Act.put, List.setIfInBounds_toArray, List.set_cons_zero, List.set_cons_succ]
      refine wpAnyH_take (oi := ⟨_, _, _, _, _, _⟩) (i := 6) (v := ?_) rfl (by kernel_rfl) (by kernel_rfl) (by kernel_rfl) (fun _ _ _ h => h) (Or.inl ⟨by rfl, ?ya6⟩) (by assumption) ?ra6
      case ya6 => (intro w hSw; (try dsimp only at hSw); go_simp; (try with_reducible rfl))
      try simp only [Act.put, List.setIfInBounds_toArray, List.set_cons_zero, List.set_cons_succ]
      refine wpAnyH_take (oi := ⟨_, _, _, _, _, _⟩) (i := 7) (v := ?_) rfl (by kernel_rfl) (by kernel_rfl) (by kernel_rfl) (fun _ _ _ h => h) (Or.inl ⟨by rfl, ?ya7⟩) (by assumption) ?ra7
      case ya7 => (intro w hSw; (try dsimp only at hSw); go_simp; (try with_reducible rfl))
      try simp only [Act.put, List.setIfInBounds_toArray, List.set_cons_zero, List.set_cons_succ]
      refine wpAnyH_take (oi := ⟨_, _, _, _, _, _⟩) (i := 8) (v := ?_) rfl (by kernel_rfl) (by kernel_rfl) (by kernel_rfl) (fun _ _ _ h => h) (Or.inl ⟨by rfl, ?ya8⟩) (by assumption) ?ra8
      case ya8 => (intro w hSw; (try dsimp only at hSw); go_simp; (try with_reducible rfl))
      try simp only [Act.put, List.setIfInBounds_toArray, List.set_cons_zero, List.set_cons_succ]
      refine wpAnyH_take (oi := ⟨_, _, _, _, _, _⟩) (i := 9) (v := ?_) rfl (by kernel_rfl) (by kernel_rfl) (by kernel_rfl) (fun _ _ _ h => h) (Or.inl ⟨by rfl, ?ya9⟩) (by assumption) ?ra9
      case ya9 => (intro w hSw; (try dsimp only at hSw); go_simp; (try with_reducible rfl))
      try simp only [Act.put, List.setIfInBounds_toArray, List.set_cons_zero, List.set_cons_succ]
      refine wpAnyH_take (oi := ⟨_, _, _, _, _, _⟩) (i := 10) (v := ?_) rfl (by kernel_rfl) (by kernel_rfl) (by kernel_rfl) (fun _ _ _ h => h) (Or.inl ⟨by rfl, ?ya10⟩) (by assumption) ?ra10
      case ya10 => (intro w hSw; (try dsimp only at hSw); go_simp; (try with_reducible rfl))
      try simp only [Act.put, List.setIfInBounds_toArray, List.set_cons_zero, List.set_cons_succ]
      refine wpAnyH_take (oi := ⟨_, _, _, _, _, _⟩) (i := 11) (v := ?_) rfl (by kernel_rfl) (by kernel_rfl) (by kernel_rfl) (fun _ _ _ h => h) (Or.inl ⟨by rfl, ?ya11⟩) (by assumption) ?ra11
      case ya11 => (intro w hSw; (try dsimp only at hSw); go_simp; (try with_reducible rfl))
      try simp only [Act.put, List.setIfInBounds_toArray, List.set_cons_zero, List.set_cons_succ]
      refine wpAnyH_take (oi := ⟨_, _, _, _, _, _⟩) (i := 12) (v := ?_) rfl (by kernel_rfl) (by kernel_rfl) (by kernel_rfl) (fun _ _ _ h => h) (Or.inl ⟨by rfl, ?ya12⟩) (by assumption) ?ra12
      case ya12 => (intro w hSw; (try dsimp only at hSw); go_simp; (try with_reducible rfl))
      try simp only [Act.put, List.setIfInBounds_toArray, List.set_cons_zero, List.set_cons_succ]
      refine wpAnyH_take (oi := ⟨_, _, _, _, _, _⟩) (i := 13) (v := ?_) rfl (by kernel_rfl) (by kernel_rfl) (by kernel_rfl) (fun _ _ _ h => h) (Or.inl ⟨by rfl, ?ya13⟩) (by assumption) ?ra13
      case ya13 => (intro w hSw; (try dsimp only at hSw); go_simp; (try with_reducible rfl))
      try simp only [Act.put, List.setIfInBounds_toArray, List.set_cons_zero, List.set_cons_succ]
      refine wpAnyH_take (oi := ⟨_, _, _, _, _, _⟩) (i := 14) (v := ?_) rfl (by kernel_rfl) (by kernel_rfl) (by kernel_rfl) (fun _ _ _ h => h) (Or.inl ⟨by rfl, ?ya14⟩) (by assumption) ?ra14
      case ya14 => (intro w hSw; (try dsimp only at hSw); go_simp; (try with_reducible rfl))
      try simp only [Act.put, List.setIfInBounds_toArray, List.set_cons_zero, List.set_cons_succ]
      refine wpAnyH_take (oi := ⟨_, _, _, _, _, _⟩) (i := 15) (v := ?_) rfl (by kernel_rfl) (by kernel_rfl) (by kernel_rfl) (fun _ _ _ h => h) (Or.inl ⟨by rfl, ?ya15⟩) (by assumption) ?ra15
      case ya15 => (intro w hSw; (try dsimp only at hSw); go_simp; (try with_reducible rfl))
      try simp only [Act.put, List.setIfInBounds_toArray, List.set_cons_zero, List.set_cons_succ]
      refine wpAnyH_take (oi := ⟨_, _, _, _, _, _⟩) (i := 16) (v := ?_) rfl (by kernel_rfl) (by kernel_rfl) (by kernel_rfl) (fun _ _ _ h => h) (Or.inl ⟨by rfl, ?ya16⟩) (by assumption) ?ra16
      case ya16 => (intro w hSw; (try dsimp only at hSw); go_simp; (try with_reducible rfl))
      try simp only [Act.put, List.setIfInBounds_toArray, List.set_cons_zero, List.set_cons_succ]
      refine wpAnyH_take (oi := ⟨_, _, _, _, _, _⟩) (i := 17) (v := ?_) rfl (by kernel_rfl) (by kernel_rfl) (by kernel_rfl) (fun _ _ _ h => h) (Or.inl ⟨by rfl, ?ya17⟩) (by assumption) ?ra17
      case ya17 => (intro w hSw; (try dsimp only at hSw); go_simp; (try with_reducible rfl))
      try simp only [Act.put, List.setIfInBounds_toArray, List.set_cons_zero, List.set_cons_succ]
      refine wpAnyH_take (oi := ⟨_, _, _, _, _, _⟩) (i := 18) (v := ?_) rfl (by kernel_rfl) (by kernel_rfl) (by kernel_rfl) (fun _ _ _ h => h) (Or.inl ⟨by rfl, ?ya18⟩) (by assumption) ?ra18
      case ya18 => (intro w hSw; (try dsimp only at hSw); go_simp; (try with_reducible rfl))
      try simp only [Act.put, List.setIfInBounds_toArray, List.set_cons_zero, List.set_cons_succ]
      refine wpAnyH_take (oi := ⟨_, _, _, _, _, _⟩) (i := 19) (v := ?_) rfl (by kernel_rfl) (by kernel_rfl) (by kernel_rfl) (fun _ _ _ h => h) (Or.inl ⟨by rfl, ?ya19⟩) (by assumption) ?ra19
      case ya19 => (intro w hSw; (try dsimp only at hSw); go_simp; (try with_reducible rfl))
      try simp only [Act.put, List.setIfInBounds_toArray, List.set_cons_zero, List.set_cons_succ]
      refine wpAnyH_take (oi := ⟨_, _, _, _, _, _⟩) (i := 20) (v := ?_) rfl (by kernel_rfl) (by kernel_rfl) (by kernel_rfl) (fun _ _ _ h => h) (Or.inl ⟨by rfl, ?ya20⟩) (by assumption) ?ra20
      case ya20 => (intro w hSw; (try dsimp only at hSw); go_simp; (try with_reducible rfl))
      try simp only [Act.put, List.setIfInBounds_toArray, List.set_cons_zero, List.set_cons_succ]
      refine wpAnyH_take (oi := ⟨_, _, _, _, _, _⟩) (i := 21) (v := ?_) rfl (by kernel_rfl) (by kernel_rfl) (by kernel_rfl) (fun _ _ _ h => h) (Or.inl ⟨by rfl, ?ya21⟩) (by assumption) ?ra21
      case ya21 => (intro w hSw; (try dsimp only at hSw); go_simp; (try with_reducible rfl))
      try simp only [Act.put, List.setIfInBounds_toArray, List.set_cons_zero, List.set_cons_succ]
      refine wpAnyH_take (oi := ⟨_, _, _, _, _, _⟩) (i := 22) (v := ?_) rfl (by kernel_rfl) (by kernel_rfl) (by kernel_rfl) (fun _ _ _ h => h) (Or.inl ⟨by rfl, ?ya22⟩) (by assumption) ?ra22
      case ya22 => (intro w hSw; (try dsimp only at hSw); go_simp; (try with_reducible rfl))
      try simp only [Act.put, List.setIfInBounds_toArray, List.set_cons_zero, List.set_cons_succ]
      refine wpAnyH_take (oi := ⟨_, _, _, _, _, _⟩) (i := 23) (v := ?_) rfl (by kernel_rfl) (by kernel_rfl) (by kernel_rfl) (fun _ _ _ h => h) (Or.inl ⟨by rfl, ?ya23⟩) (by assumption) ?ra23
      case ya23 => (intro w hSw; (try dsimp only at hSw); go_simp; (try with_reducible rfl))
      try simp only [Act.put, List.setIfInBounds_toArray, List.set_cons_zero, List.set_cons_succ]
      refine wpAnyH_take (oi := ⟨_, _, _, _, _, _⟩) (i := 24) (v := ?_) rfl (by kernel_rfl) (by kernel_rfl) (by kernel_rfl) (fun _ _ _ h => h) (Or.inl ⟨by rfl, ?ya24⟩) (by assumption) ?ra24
      case ya24 => (intro w hSw; (try dsimp only at hSw); go_simp; (try with_reducible rfl))
      try simp only [Act.put, List.setIfInBounds_toArray, List.set_cons_zero, List.set_cons_succ]
      refine wpAnyH_take (oi := ⟨_, _, _, _, _, _⟩) (i := 25) (v := ?_) rfl (by kernel_rfl) (by kernel_rfl) (by kernel_rfl) (fun _ _ _ h => h) (Or.inl ⟨by rfl, ?ya25⟩) (by assumption) ?ra25
      case ya25 => (intro w hSw; (try dsimp only at hSw); go_simp; (try with_reducible rfl))
      try simp only [Act.put, List.setIfInBounds_toArray, List.set_cons_zero, List.set_cons_succ]
      refine wpAnyH_take (oi := ⟨_, _, _, _, _, _⟩) (i := 26) (v := ?_) rfl (by kernel_rfl) (by kernel_rfl) (by kernel_rfl) (fun _ _ _ h => h) (Or.inl ⟨by rfl, ?ya26⟩) (by assumption) ?ra26
      case ya26 => (intro w hSw; (try dsimp only at hSw); go_simp; (try with_reducible rfl))
      try simp only [Act.put, List.setIfInBounds_toArray, List.set_cons_zero, List.set_cons_succ]
      refine wpAnyH_done (by kernel_rfl) ?_ _
      clear hHeld d1 d2
      have N3 : Hid (NBox wo.drew x n) := NB.out
      have S3 : Hid (x < wo.drew.heap.size) := SZ.out
      clear NB SZ BB
      generalize wo.drew = wd at *
      go_wp2
      go_roundw
      case rel => exact ⟨v + 1, by omega, by go_num, N3, K3, S3⟩
      case measure => simp [intOf]; omega
    · have hvN : v = N := by omega
      have CF1 := Lib.hid (CF.out wo (X1.out _ BB.out))
      obtain ⟨c0, c1, c2⟩ := NB.out
      clear SL CF
      go_wp2_with fail
      refine CF1.out.mono ?_
      rintro e w4 ⟨rfl, K⟩
      have N4 := Lib.hid (NB.out.below K SZ.out)
      have B4 := Lib.hid (BB.out.trans (K.mono BB.out.size))
      have S4 : Hid (x < w4.heap.size) := Nat.lt_of_lt_of_le SZ.out K.size
      clear K NB BB SZ c0 c1 c2 CF1 hvN hlt
      obtain ⟨c0, c1, c2⟩ := N4.out
      go_wp2_with fail
      go_loopw [9] (fun q wr => ∃ t : Nat, t ≤ n.ts.length ∧ q = .int .i64 (t : Nat) ∧ Hid (NBox wr x n) ∧ Hid (Below x1.heap.size x1 wr) ∧ Hid (x < wr.heap.size)) (fun q _ => n.ts.length - (intOf q).toNat)
      case atStart => exact ⟨0, by omega, rfl, N4, B4, S4⟩
      case round =>
        clear N4 B4 S4 c0 c1 c2
        obtain ⟨wt, rfl⟩ : ∃ wt, wt = wr := ⟨_, rfl⟩
        obtain ⟨t, ht, rfl, NB, BB, SZ⟩ := hrel
        by_cases hlt : t < n.ts.length
        · obtain ⟨c0, c1, c2⟩ := NB.out
          obtain ⟨nd, hnd⟩ : ∃ nd, nd = n.ps.length + t := ⟨_, rfl⟩
          have hndi : (n.ps.length : Int) + (t : Int) = (nd : Int) := by omega
          have hndN : nd < N := by have := HN.out; omega
          have hndNi : (nd : Int) < (N : Int) := by omega
          have hwn : IntKind.i64.wrap (nd : Int) = (nd : Int) := by rw [IntKind.wrap_i64]; have := HN.out; omega
          have SJt := Lib.hid fun i => SJ.out t i hlt
          have SSt := Lib.hid fun u => SS.out t u hlt
          rw [← hnd] at SJt SSt
          clear hnd
          obtain ⟨b0, off0, eT, hb0, -, d1, -, -, -, r1, -, -⟩ := RT.out wt (X1.out _ BB.out) t hlt
          obtain ⟨b, off, rfl, f2⟩ := RL.out wt BB.out nd hndN
          have RTW : Hid (∀ W, Below wt.heap.size wt W → ReadsT W n.TA n.ts) := fun W hW => RT.out W (X1.out _ (BB.out.trans (hW.mono BB.out.size)))
          have RLW : Hid (∀ W, Below wt.heap.size wt W → ∀ v, v < N → W.cell? ⟨b, off + v, none⟩ = some (.int .i64 (Dg.at0 cl v))) := fun W hW v hv => by
            obtain ⟨b', off', e', h⟩ := RL.out W (BB.out.trans (hW.mono BB.out.size)) v hv
            simp only [Option.some.injEq, Addr.mk.injEq, and_true] at e'
            obtain ⟨rfl, rfl⟩ := e'
            exact h
          have NBW : Hid (∀ W, Below wt.heap.size wt W → NBox W x n) := fun W hW => NB.out.below hW SZ.out
          have BBW : Hid (∀ W, Below wt.heap.size wt W → Below x1.heap.size x1 W ∧ x < W.heap.size) := fun W hW => ⟨BB.out.trans (hW.mono BB.out.size), Nat.lt_of_lt_of_le SZ.out hW.size⟩
          have Z0 : Hid (Below wt.heap.size wt wt) := Below.refl _ _
          have hpl : (tA n.ts t).pre.l.length ≤ 1000 := (OT.out.2 t).2.1
          rw [eT] at c2
          clear RT RL SJ SS NB BB SZ X1 f2 r1
          go_wp2_with fail
          go_loopw [10] (fun q wr => ∃ i : Nat, i ≤ (tA n.ts t).pre.l.length ∧ q = .int .i64 (i : Nat) ∧ Hid (Below wt.heap.size wt wr)) (fun q _ => (tA n.ts t).pre.l.length - (intOf q).toNat)
          case atStart => exact ⟨0, by omega, rfl, Z0⟩
          case round =>
            clear Z0 c0 c1 c2 d1
            obtain ⟨wo, rfl⟩ : ∃ wo, wo = wr := ⟨_, rfl⟩
            obtain ⟨i, hi, rfl, BB⟩ := hrel
            obtain ⟨c0, c1, c2⟩ := NBW.out _ BB.out
            rw [eT] at c2
            obtain ⟨b0', off0', eT', -, -, d1, -, -, -, r1, -, -⟩ := RTW.out wo BB.out t hlt
            rw [eT] at eT'
            simp only [Option.some.injEq, Addr.mk.injEq, and_true] at eT'
            obtain ⟨rfl, rfl⟩ := eT'
            by_cases hil : i < (tA n.ts t).pre.l.length
            · obtain ⟨p, p1, p2, p3⟩ := SJt.out i hil
              obtain ⟨b1, off1, eA, -, e1, -⟩ := r1 i hil
              have f1 := RLW.out wo BB.out p p2
              have f2 := RLW.out wo BB.out nd hndN
              rw [p3] at f1
              rw [p1] at e1
              rw [eA] at d1
              have p4 : (p : Int) < (N : Int) := by omega
              have ZD := Lib.hid BB.out.drew
              clear SJt SSt RTW RLW NBW BBW r1 p1 p3 BB eA eT
              generalize Dg.at0 cl nd = y at *
              generalize (tA n.ts t).pre.l.length = pl at *
              generalize (tA n.ts t).pre.c = pc at *
              have q4 : (y != y) = false := by simp
              go_wp2_with fail
              go_upto_region 10 with fail
              refine wp_region_held_drew (S := fun w' => w'.cell? ⟨x, 2, none⟩ = some (.slice (some ⟨b0, off0, none⟩) n.ts.length n.tc) ∧ w'.cell? ⟨b0, off0 + t * 5 + 1, none⟩ = some (.slice (some ⟨b1, off1, none⟩) pl pc) ∧ w'.cell? ⟨b1, off1 + i * 2, none⟩ = some (.int .i64 (p : Int)) ∧ w'.cell? ⟨b, off + p, none⟩ = some (.int .i64 y) ∧ w'.cell? ⟨b, off + nd, none⟩ = some (.int .i64 y)) (by kernel_rfl) ?_ (fun hHeld => ?_)
              · exact ⟨c2, d1, e1, f1, f2⟩
              refine wpAnyH_take (oi := ⟨_, _, _, _, _, _⟩) (i := 0) (v := ?_) rfl (by kernel_rfl) (by kernel_rfl) (by kernel_rfl) (fun _ _ _ h => h) (Or.inl ⟨by rfl, ?yb0⟩) (by assumption) ?rb0
              case yb0 => (intro w hSw; (try dsimp only at hSw); go_simp; (try with_reducible rfl))
              try simp only [Act.put, List.setIfInBounds_toArray, List.set_cons_zero, List.set_cons_succ]
              refine wpAnyH_take (oi := ⟨_, _, _, _, _, _⟩) (i := 1) (v := ?_) rfl (by kernel_rfl) (by kernel_rfl) (by kernel_rfl) (fun _ _ _ h => h) (Or.inl ⟨by rfl, ?yb1⟩) (by assumption) ?rb1
              case yb1 => (intro w hSw; (try dsimp only at hSw); go_simp; (try with_reducible rfl))
              try simp only [Act.put, List.setIfInBounds_toArray, List.set_cons_zero, List.set_cons_succ]
              refine wpAnyH_take (oi := ⟨_, _, _, _, _, _⟩) (i := 2) (v := ?_) rfl (by kernel_rfl) (by kernel_rfl) (by kernel_rfl) (fun _ _ _ h => h) (Or.inl ⟨by rfl, ?yb2⟩) (by assumption) ?rb2
              case yb2 => (intro w hSw; (try dsimp only at hSw); go_simp; (try with_reducible rfl))
              try simp only [Act.put, List.setIfInBounds_toArray, List.set_cons_zero, List.set_cons_succ]
              refine wpAnyH_take (oi := ⟨_, _, _, _, _, _⟩) (i := 3) (v := ?_) rfl (by kernel_rfl) (by kernel_rfl) (by kernel_rfl) (fun _ _ _ h => h) (Or.inl ⟨by rfl, ?yb3⟩) (by assumption) ?rb3
              case yb3 => (intro w hSw; (try dsimp only at hSw); go_simp; (try with_reducible rfl))
              try simp only [Act.put, List.setIfInBounds_toArray, List.set_cons_zero, List.set_cons_succ]
              refine wpAnyH_take (oi := ⟨_, _, _, _, _, _⟩) (i := 4) (v := ?_) rfl (by kernel_rfl) (by kernel_rfl) (by kernel_rfl) (fun _ _ _ h => h) (Or.inl ⟨by rfl, ?yb4⟩) (by assumption) ?rb4
              case yb4 => (intro w hSw; (try dsimp only at hSw); go_simp; (try with_reducible rfl))
              try simp only [Act.put, List.setIfInBounds_toArray, List.set_cons_zero, List.set_cons_succ]
              refine wpAnyH_take (oi := ⟨_, _, _, _, _, _⟩) (i := 5) (v := ?_) rfl (by kernel_rfl) (by kernel_rfl) (by kernel_rfl) (fun _ _ _ h => h) (Or.inl ⟨by rfl, ?yb5⟩) (by assumption) ?rb5
              case yb5 => (intro w hSw; (try dsimp only at hSw); go_simp; (try with_reducible rfl))
              try simp only [Act.put, List.setIfInBounds_toArray, List.set_cons_zero, List.set_cons_succ]
              refine wpAnyH_take (oi := ⟨_, _, _, _, _, _⟩) (i := 6) (v := ?_) rfl (by kernel_rfl) (by kernel_rfl) (by kernel_rfl) (fun _ _ _ h => h) (Or.inl ⟨by rfl, ?yb6⟩) (by assumption) ?rb6
              case yb6 => (intro w hSw; (try dsimp only at hSw); go_simp; (try with_reducible rfl))
              try simp only [Act.put, List.setIfInBounds_toArray, List.set_cons_zero, List.set_cons_succ]
              refine wpAnyH_take (oi := ⟨_, _, _, _, _, _⟩) (i := 7) (v := ?_) rfl (by kernel_rfl) (by kernel_rfl) (by kernel_rfl) (fun _ _ _ h => h) (Or.inl ⟨by rfl, ?yb7⟩) (by assumption) ?rb7
              case yb7 => (intro w hSw; (try dsimp only at hSw); go_simp; (try with_reducible rfl))
              try simp only [Act.put, List.setIfInBounds_toArray, List.set_cons_zero, List.set_cons_succ]
              refine wpAnyH_take (oi := ⟨_, _, _, _, _, _⟩) (i := 8) (v := ?_) rfl (by kernel_rfl) (by kernel_rfl) (by kernel_rfl) (fun _ _ _ h => h) (Or.inl ⟨by rfl, ?yb8⟩) (by assumption) ?rb8
              case yb8 => (intro w hSw; (try dsimp only at hSw); go_simp; (try with_reducible rfl))
              try simp only [Act.put, List.setIfInBounds_toArray, List.set_cons_zero, List.set_cons_succ]
              refine wpAnyH_take (oi := ⟨_, _, _, _, _, _⟩) (i := 9) (v := ?_) rfl (by kernel_rfl) (by kernel_rfl) (by kernel_rfl) (fun _ _ _ h => h) (Or.inl ⟨by rfl, ?yb9⟩) (by assumption) ?rb9
              case yb9 => (intro w hSw; (try dsimp only at hSw); go_simp; (try with_reducible rfl))
              try simp only [Act.put, List.setIfInBounds_toArray, List.set_cons_zero, List.set_cons_succ]
              refine wpAnyH_take (oi := ⟨_, _, _, _, _, _⟩) (i := 10) (v := ?_) rfl (by kernel_rfl) (by kernel_rfl) (by kernel_rfl) (fun _ _ _ h => h) (Or.inl ⟨by rfl, ?yb10⟩) (by assumption) ?rb10
              case yb10 => (intro w hSw; (try dsimp only at hSw); go_simp; (try with_reducible rfl))
              try simp only [Act.put, List.setIfInBounds_toArray, List.set_cons_zero, List.set_cons_succ]
              refine wpAnyH_take (oi := ⟨_, _, _, _, _, _⟩) (i := 11) (v := ?_) rfl (by kernel_rfl) (by kernel_rfl) (by kernel_rfl) (fun _ _ _ h => h) (Or.inl ⟨by rfl, ?yb11⟩) (by assumption) ?rb11
              case yb11 => (intro w hSw; (try dsimp only at hSw); go_simp; (try with_reducible rfl))
              try simp only [Act.put, List.setIfInBounds_toArray, List.set_cons_zero, List.set_cons_succ]
              refine wpAnyH_take (oi := ⟨_, _, _, _, _, _⟩) (i := 12) (v := ?_) rfl (by kernel_rfl) (by kernel_rfl) (by kernel_rfl) (fun _ _ _ h => h) (Or.inl ⟨by rfl, ?yb12⟩) (by assumption) ?rb12
              case yb12 => (intro w hSw; (try dsimp only at hSw); go_simp; (try with_reducible rfl))
              try simp only [Act.put, List.setIfInBounds_toArray, List.set_cons_zero, List.set_cons_succ]
              refine wpAnyH_take (oi := ⟨_, _, _, _, _, _⟩) (i := 13) (v := ?_) rfl (by kernel_rfl) (by kernel_rfl) (by kernel_rfl) (fun _ _ _ h => h) (Or.inl ⟨by rfl, ?yb13⟩) (by assumption) ?rb13
              case yb13 => (intro w hSw; (try dsimp only at hSw); go_simp; (try with_reducible rfl))
              try simp only [Act.put, List.setIfInBounds_toArray, List.set_cons_zero, List.set_cons_succ]
              refine wpAnyH_take (oi := ⟨_, _, _, _, _, _⟩) (i := 14) (v := ?_) rfl (by kernel_rfl) (by kernel_rfl) (by kernel_rfl) (fun _ _ _ h => h) (Or.inl ⟨by rfl, ?yb14⟩) (by assumption) ?rb14
              case yb14 => (intro w hSw; (try dsimp only at hSw); go_simp; (try with_reducible rfl))
              try simp only [Act.put, List.setIfInBounds_toArray, List.set_cons_zero, List.set_cons_succ]
              refine wpAnyH_take (oi := ⟨_, _, _, _, _, _⟩) (i := 15) (v := ?_) rfl (by kernel_rfl) (by kernel_rfl) (by kernel_rfl) (fun _ _ _ h => h) (Or.inl ⟨by rfl, ?yb15⟩) (by assumption) ?rb15
              case yb15 => (intro w hSw; (try dsimp only at hSw); go_simp; (try with_reducible rfl))
              try simp only [Act.put, List.setIfInBounds_toArray, List.set_cons_zero, List.set_cons_succ]
              refine wpAnyH_take (oi := ⟨_, _, _, _, _, _⟩) (i := 16) (v := ?_) rfl (by kernel_rfl) (by kernel_rfl) (by kernel_rfl) (fun _ _ _ h => h) (Or.inl ⟨by rfl, ?yb16⟩) (by assumption) ?rb16
              case yb16 => (intro w hSw; (try dsimp only at hSw); go_simp; (try with_reducible rfl))
              try simp only [Act.put, List.setIfInBounds_toArray, List.set_cons_zero, List.set_cons_succ]
              refine wpAnyH_take (oi := ⟨_, _, _, _, _, _⟩) (i := 17) (v := ?_) rfl (by kernel_rfl) (by kernel_rfl) (by kernel_rfl) (fun _ _ _ h => h) (Or.inl ⟨by rfl, ?yb17⟩) (by assumption) ?rb17
              case yb17 => (intro w hSw; (try dsimp only at hSw); go_simp; (try with_reducible rfl))
              try simp only [Act.put, List.setIfInBounds_toArray, List.set_cons_zero, List.set_cons_succ]
              refine wpAnyH_take (oi := ⟨_, _, _, _, _, _⟩) (i := 18) (v := ?_) rfl (by kernel_rfl) (by kernel_rfl) (by kernel_rfl) (fun _ _ _ h => h) (Or.inl ⟨by rfl, ?yb18⟩) (by assumption) ?rb18
              case yb18 => (intro w hSw; (try dsimp only at hSw); go_simp; (try with_reducible rfl))
              try simp only [Act.put, List.setIfInBounds_toArray, List.set_cons_zero, List.set_cons_succ]
              refine wpAnyH_take (oi := ⟨_, _, _, _, _, _⟩) (i := 19) (v := ?_) rfl (by kernel_rfl) (by kernel_rfl) (by kernel_rfl) (fun _ _ _ h => h) (Or.inl ⟨by rfl, ?yb19⟩) (by assumption) ?rb19
              case yb19 => (intro w hSw; (try dsimp only at hSw); go_simp; (try with_reducible rfl))
              try simp only [Act.put, List.setIfInBounds_toArray, List.set_cons_zero, List.set_cons_succ]
              refine wpAnyH_done (by kernel_rfl) ?_ _
              clear hHeld d1 e1 f1 f2 c0 c1 c2
              generalize wo.drew = wd at *
              go_wp2
              go_roundw
              case rel => exact ⟨i + 1, by omega, by go_num, ZD⟩
              case measure => simp [intOf]; omega
            · have ZB := BB
              clear BB
              go_wp2_with fail
              go_loopw [11] (fun q wr => ∃ u : Nat, u ≤ t ∧ q = .int .i64 (u : Nat) ∧ Hid (Below wt.heap.size wt wr)) (fun q _ => t - (intOf q).toNat)
              case atStart => exact ⟨0, by omega, rfl, ZB⟩
              case round =>
                clear ZB c0 c1 c2 d1 r1
                obtain ⟨wo, rfl⟩ : ∃ wo, wo = wr := ⟨_, rfl⟩
                obtain ⟨u, hu, rfl, BB⟩ := hrel
                by_cases hul : u < t
                · have hul2 : (u : Int) < (t : Int) := by omega
                  cases fc
                  · obtain ⟨NE, SE⟩ := BBW.out _ BB.out
                    have NE := Lib.hid NE
                    have SE := Lib.hid SE
                    have N5 := Lib.hid (NBW.out _ BB.out)
                    clear SJt SSt RTW RLW NBW BBW BB
                    go_wp2
                    go_roundw
                    case rel => exact ⟨t + 1, by omega, by go_num, N5, NE, SE⟩
                    case measure => simp [intOf]; omega
                  · obtain ⟨c0, c1, c2⟩ := NBW.out _ BB.out
                    rw [eT] at c2
                    have hun : u < n.ts.length := by omega
                    obtain ⟨b2, off2, e2, -, -, dt, -, -, -, rt, -, -⟩ := RTW.out wo BB.out t hlt
                    rw [eT] at e2
                    simp only [Option.some.injEq, Addr.mk.injEq, and_true] at e2
                    obtain ⟨rfl, rfl⟩ := e2
                    obtain ⟨b2, off2, e2, -, -, du, -, -, -, ru, -, -⟩ := RTW.out wo BB.out u hun
                    rw [eT] at e2
                    simp only [Option.some.injEq, Addr.mk.injEq, and_true] at e2
                    obtain ⟨rfl, rfl⟩ := e2
                    obtain ⟨nu, hnu⟩ : ∃ nu, nu = n.ps.length + u := ⟨_, rfl⟩
                    have hnui : (n.ps.length : Int) + (u : Int) = (nu : Int) := by omega
                    have hnuN : nu < N := by have := HN.out; omega
                    have hnuNi : (nu : Int) < (N : Int) := by omega
                    have hwu : IntKind.i64.wrap (nu : Int) = (nu : Int) := by rw [IntKind.wrap_i64]; have := HN.out; omega
                    have fu := RLW.out wo BB.out nu hnuN
                    have ft := RLW.out wo BB.out nd hndN
                    have SSu := Lib.hid (SSt.out u hul (by trivial))
                    rw [← hnu] at SSu
                    have hut : (u : Int) < (n.ts.length : Int) := by omega
                    have htt : (t : Int) < (n.ts.length : Int) := by omega
                    have hul3 : (tA n.ts u).pre.l.length ≤ 1000 := (OT.out.2 u).2.1
                    have CTu : Hid (∀ W, Below wo.heap.size wo W → Calls Try.prog 16 #[.slice (tA n.ts u).pre.A (tA n.ts u).pre.l.length (tA n.ts u).pre.c] W (IsPost W.heap.size W (targetsV (tA n.ts u).pre.l))) := fun W hW => rtargets_any _ _ _ W (ru.below hW (Nat.le_refl _)) hul3
                    have CTt : Hid (∀ W, Below wo.heap.size wo W → Calls Try.prog 16 #[.slice (tA n.ts t).pre.A (tA n.ts t).pre.l.length (tA n.ts t).pre.c] W (IsPost W.heap.size W (targetsV (tA n.ts t).pre.l))) := fun W hW => rtargets_any _ _ _ W (rt.below hW (Nat.le_refl _)) hpl
                    have ltu : (targetsV (tA n.ts u).pre.l).length ≤ 1000 := by unfold targetsV; rw [List.length_map]; exact hul3
                    have KD := Lib.hid BB.out
                    unfold IsPost at CTu CTt
                    clear SJt SSt RTW RLW NBW BBW ru rt BB hnu eT
                    generalize targetsV (tA n.ts u).pre.l = LU at *
                    generalize targetsV (tA n.ts t).pre.l = LT at *
                    generalize Dg.at0 cl nu = yu at *
                    generalize Dg.at0 cl nd = yt at *
                    generalize (tA n.ts u).pre.l.length = ul at *
                    generalize (tA n.ts u).pre.A = uA at *
                    generalize (tA n.ts u).pre.c = uc at *
                    generalize (tA n.ts t).pre.l.length = tl at *
                    generalize (tA n.ts t).pre.A = tA2 at *
                    generalize (tA n.ts t).pre.c = tc2 at *
                    by_cases hy : yu = yt
                    · have EL := SSu.out hy
                      subst hy
                      subst EL
                      have CS : Hid (∀ A B ca cb W, ReadsV W A LU → ReadsV W B LU → Calls Try.prog 15 #[.slice A LU.length ca, .slice B LU.length cb] W (VPost W.heap.size W (.bool true))) := fun A B ca cb W h1 h2 => by
                        have h := Dg.same_any A B LU LU ca cb W (fun j hj => h1 j hj) (fun j hj => h2 j hj) (by omega)
                        rw [decide_eq_true rfl] at h
                        exact h
                      have q4 : (yu == yu) = true := by simp
                      clear SSu
                      go_wp2_with fail
                      go_upto_region 10 with fail
                      refine wp_region_held_drew (S := fun w' => w'.cell? ⟨x, 2, none⟩ = some (.slice (some ⟨b0, off0, none⟩) n.ts.length n.tc) ∧ w'.cell? ⟨b0, off0 + t * 5 + 1, none⟩ = some (.slice tA2 tl tc2) ∧ w'.cell? ⟨b0, off0 + u * 5 + 1, none⟩ = some (.slice uA ul uc) ∧ w'.cell? ⟨b, off + nu, none⟩ = some (.int .i64 yu) ∧ w'.cell? ⟨b, off + nd, none⟩ = some (.int .i64 yu) ∧ Hid (Below wo.heap.size wo w')) (by kernel_rfl) ?_ (fun hHeld => ?_)
                      · exact ⟨c2, dt, du, fu, ft, (Below.refl _ _).drew⟩
                      refine wpAnyH_take (oi := ⟨_, _, _, _, _, _⟩) (i := 0) (v := ?_) rfl (by kernel_rfl) (by kernel_rfl) (by kernel_rfl) (fun _ _ _ h => h) (Or.inl ⟨by rfl, ?yc0⟩) (by assumption) ?rc0
                      case yc0 => (intro w hSw; (try dsimp only at hSw); go_simp; (try with_reducible rfl))
                      try simp only [Act.put, List.setIfInBounds_toArray, List.set_cons_zero, List.set_cons_succ]
                      refine wpAnyH_take (oi := ⟨_, _, _, _, _, _⟩) (i := 1) (v := ?_) rfl (by kernel_rfl) (by kernel_rfl) (by kernel_rfl) (fun _ _ _ h => h) (Or.inl ⟨by rfl, ?yc1⟩) (by assumption) ?rc1
                      case yc1 => (intro w hSw; (try dsimp only at hSw); go_simp; (try with_reducible rfl))
                      try simp only [Act.put, List.setIfInBounds_toArray, List.set_cons_zero, List.set_cons_succ]
                      refine wpAnyH_take (oi := ⟨_, _, _, _, _, _⟩) (i := 2) (v := ?_) rfl (by kernel_rfl) (by kernel_rfl) (by kernel_rfl) (fun _ _ _ h => h) (Or.inl ⟨by rfl, ?yc2⟩) (by assumption) ?rc2
                      case yc2 => (intro w hSw; (try dsimp only at hSw); go_simp; (try with_reducible rfl))
                      try simp only [Act.put, List.setIfInBounds_toArray, List.set_cons_zero, List.set_cons_succ]
                      refine wpAnyH_take (oi := ⟨_, _, _, _, _, _⟩) (i := 3) (v := ?_) rfl (by kernel_rfl) (by kernel_rfl) (by kernel_rfl) (fun _ _ _ h => h) (Or.inl ⟨by rfl, ?yc3⟩) (by assumption) ?rc3
                      case yc3 => (intro w hSw; (try dsimp only at hSw); go_simp; (try with_reducible rfl))
                      try simp only [Act.put, List.setIfInBounds_toArray, List.set_cons_zero, List.set_cons_succ]
                      refine wpAnyH_take (oi := ⟨_, _, _, _, _, _⟩) (i := 4) (v := ?_) rfl (by kernel_rfl) (by kernel_rfl) (by kernel_rfl) (fun _ _ _ h => h) (Or.inl ⟨by rfl, ?yc4⟩) (by assumption) ?rc4
                      case yc4 => (intro w hSw; (try dsimp only at hSw); go_simp; (try with_reducible rfl))
                      try simp only [Act.put, List.setIfInBounds_toArray, List.set_cons_zero, List.set_cons_succ]
                      refine wpAnyH_take (oi := ⟨_, _, _, _, _, _⟩) (i := 5) (v := ?_) rfl (by kernel_rfl) (by kernel_rfl) (by kernel_rfl) (fun _ _ _ h => h) (Or.inl ⟨by rfl, ?yc5⟩) (by assumption) ?rc5
                      case yc5 => (intro w hSw; (try dsimp only at hSw); go_simp; (try with_reducible rfl))
                      try simp only [Act.put, List.setIfInBounds_toArray, List.set_cons_zero, List.set_cons_succ]
                      refine wpAnyH_take (oi := ⟨_, _, _, _, _, _⟩) (i := 6) (v := ?_) rfl (by kernel_rfl) (by kernel_rfl) (by kernel_rfl) (fun _ _ _ h => h) (Or.inl ⟨by rfl, ?yc6⟩) (by assumption) ?rc6
                      case yc6 => (intro w hSw; (try dsimp only at hSw); go_simp; (try with_reducible rfl))
                      try simp only [Act.put, List.setIfInBounds_toArray, List.set_cons_zero, List.set_cons_succ]
                      refine wpAnyH_take (oi := ⟨_, _, _, _, _, _⟩) (i := 7) (v := ?_) rfl (by kernel_rfl) (by kernel_rfl) (by kernel_rfl) (fun _ _ _ h => h) (Or.inl ⟨by rfl, ?yc7⟩) (by assumption) ?rc7
                      case yc7 => (intro w hSw; (try dsimp only at hSw); go_simp; (try with_reducible rfl))
                      try simp only [Act.put, List.setIfInBounds_toArray, List.set_cons_zero, List.set_cons_succ]
                      refine wpAnyH_take (oi := ⟨_, _, _, _, _, _⟩) (i := 8) (v := ?_) rfl (by kernel_rfl) (by kernel_rfl) (by kernel_rfl) (fun _ _ _ h => h) (Or.inl ⟨by rfl, ?yc8⟩) (by assumption) ?rc8
                      case yc8 => (intro w hSw; (try dsimp only at hSw); go_simp; (try with_reducible rfl))
                      try simp only [Act.put, List.setIfInBounds_toArray, List.set_cons_zero, List.set_cons_succ]
                      refine wpAnyH_take (oi := ⟨_, _, _, _, _, _⟩) (i := 9) (v := ?_) rfl (by kernel_rfl) (by kernel_rfl) (by kernel_rfl) (fun _ _ _ h => h) (Or.inl ⟨by rfl, ?yc9⟩) (by assumption) ?rc9
                      case yc9 => (intro w hSw; (try dsimp only at hSw); go_simp; (try with_reducible rfl))
                      try simp only [Act.put, List.setIfInBounds_toArray, List.set_cons_zero, List.set_cons_succ]
                      refine wpAnyH_take (oi := ⟨_, _, _, _, _, _⟩) (i := 10) (v := ?_) rfl (by kernel_rfl) (by kernel_rfl) (by kernel_rfl) (fun _ _ _ h => h) (Or.inl ⟨by rfl, ?yc10⟩) (by assumption) ?rc10
                      case yc10 => (intro w hSw; (try dsimp only at hSw); go_simp; (try with_reducible rfl))
                      try simp only [Act.put, List.setIfInBounds_toArray, List.set_cons_zero, List.set_cons_succ]
                      refine wpAnyH_take (oi := ⟨_, _, _, _, _, _⟩) (i := 11) (v := ?_) rfl (by kernel_rfl) (by kernel_rfl) (by kernel_rfl) (fun _ _ _ h => h) (Or.inl ⟨by rfl, ?yc11⟩) (by assumption) ?rc11
                      case yc11 => (intro w hSw; (try dsimp only at hSw); go_simp; (try with_reducible rfl))
                      try simp only [Act.put, List.setIfInBounds_toArray, List.set_cons_zero, List.set_cons_succ]
                      refine wpAnyH_take (oi := ⟨_, _, _, _, _, _⟩) (i := 12) (v := ?_) rfl (by kernel_rfl) (by kernel_rfl) (by kernel_rfl) (fun _ _ _ h => h) (Or.inl ⟨by rfl, ?yc12⟩) (by assumption) ?rc12
                      case yc12 => (intro w hSw; (try dsimp only at hSw); go_simp; (try with_reducible rfl))
                      try simp only [Act.put, List.setIfInBounds_toArray, List.set_cons_zero, List.set_cons_succ]
                      refine wpAnyH_take (oi := ⟨_, _, _, _, _, _⟩) (i := 13) (v := ?_) rfl (by kernel_rfl) (by kernel_rfl) (by kernel_rfl) (fun _ _ _ h => h) (Or.inl ⟨by rfl, ?yc13⟩) (by assumption) ?rc13
                      case yc13 => (intro w hSw; (try dsimp only at hSw); go_simp; (try with_reducible rfl))
                      try simp only [Act.put, List.setIfInBounds_toArray, List.set_cons_zero, List.set_cons_succ]
                      refine wpAnyH_take (oi := ⟨_, _, _, _, _, _⟩) (i := 14) (v := ?_) rfl (by kernel_rfl) (by kernel_rfl) (by kernel_rfl) (fun _ _ _ h => h) (Or.inl ⟨by rfl, ?yc14⟩) (by assumption) ?rc14
                      case yc14 => (intro w hSw; (try dsimp only at hSw); go_simp; (try with_reducible rfl))
                      try simp only [Act.put, List.setIfInBounds_toArray, List.set_cons_zero, List.set_cons_succ]
                      refine wpAnyH_take (oi := ⟨_, _, _, _, _, _⟩) (i := 15) (v := ?_) rfl (by kernel_rfl) (by kernel_rfl) (by kernel_rfl) (fun _ _ _ h => h) (Or.inl ⟨by rfl, ?yc15⟩) (by assumption) ?rc15
                      case yc15 => (intro w hSw; (try dsimp only at hSw); go_simp; (try with_reducible rfl))
                      try simp only [Act.put, List.setIfInBounds_toArray, List.set_cons_zero, List.set_cons_succ]
                      refine wpAnyH_take (oi := ⟨_, _, _, _, _, _⟩) (i := 16) (v := ?_) rfl (by kernel_rfl) (by kernel_rfl) (by kernel_rfl) (fun _ _ _ h => h) (Or.inl ⟨by rfl, ?yc16⟩) (by assumption) ?rc16
                      case yc16 => (intro w hSw; (try dsimp only at hSw); go_simp; (try with_reducible rfl))
                      try simp only [Act.put, List.setIfInBounds_toArray, List.set_cons_zero, List.set_cons_succ]
                      refine wpAnyH_take (oi := ⟨_, _, _, _, _, _⟩) (i := 17) (v := ?_) rfl (by kernel_rfl) (by kernel_rfl) (by kernel_rfl) (fun _ _ _ h => h) (Or.inl ⟨by rfl, ?yc17⟩) (by assumption) ?rc17
                      case yc17 => (intro w hSw; (try dsimp only at hSw); go_simp; (try with_reducible rfl))
                      try simp only [Act.put, List.setIfInBounds_toArray, List.set_cons_zero, List.set_cons_succ]
                      refine wpAnyH_take (oi := ⟨_, _, _, _, _, _⟩) (i := 18) (v := ?_) rfl (by kernel_rfl) (by kernel_rfl) (by kernel_rfl) (fun _ _ _ h => h) (Or.inl ⟨by rfl, ?yc18⟩) (by assumption) ?rc18
                      case yc18 => (intro w hSw; (try dsimp only at hSw); go_simp; (try with_reducible rfl))
                      try simp only [Act.put, List.setIfInBounds_toArray, List.set_cons_zero, List.set_cons_succ]
                      refine wpAnyH_take (oi := ⟨_, _, _, _, _, _⟩) (i := 19) (v := ?_) rfl (by kernel_rfl) (by kernel_rfl) (by kernel_rfl) (fun _ _ _ h => h) (Or.inl ⟨by rfl, ?yc19⟩) (by assumption) ?rc19
                      case yc19 => (intro w hSw; (try dsimp only at hSw); go_simp; (try with_reducible rfl))
                      try simp only [Act.put, List.setIfInBounds_toArray, List.set_cons_zero, List.set_cons_succ]
                      refine wpAnyH_take (oi := ⟨_, _, _, _, _, _⟩) (i := 21) (v := ?_) rfl (by kernel_rfl) (by kernel_rfl) (by kernel_rfl) (fun _ _ _ h => h) (Or.inl ⟨by rfl, ?yc21⟩) (by assumption) ?rc21
                      case yc21 => (intro w hSw; (try dsimp only at hSw); go_simp; (try with_reducible rfl))
                      try simp only [Act.put, List.setIfInBounds_toArray, List.set_cons_zero, List.set_cons_succ]
                      refine wpAnyH_take (oi := ⟨_, _, _, _, _, _⟩) (i := 22) (v := ?_) rfl (by kernel_rfl) (by kernel_rfl) (by kernel_rfl) (fun _ _ _ h => h) (Or.inl ⟨by rfl, ?yc22⟩) (by assumption) ?rc22
                      case yc22 => (intro w hSw; (try dsimp only at hSw); go_simp; (try with_reducible rfl))
                      try simp only [Act.put, List.setIfInBounds_toArray, List.set_cons_zero, List.set_cons_succ]
                      refine wpAnyH_take (oi := ⟨_, _, _, _, _, _⟩) (i := 23) (v := ?_) rfl (by kernel_rfl) (by kernel_rfl) (by kernel_rfl) (fun _ _ _ h => h) (Or.inl ⟨by rfl, ?yc23⟩) (by assumption) ?rc23
                      case yc23 => (intro w hSw; (try dsimp only at hSw); go_simp; (try with_reducible rfl))
                      try simp only [Act.put, List.setIfInBounds_toArray, List.set_cons_zero, List.set_cons_succ]
                      refine wpAnyH_take (oi := ⟨_, _, _, _, _, _⟩) (i := 24) (v := ?_) rfl (by kernel_rfl) (by kernel_rfl) (by kernel_rfl) (fun _ _ _ h => h) (Or.inl ⟨by rfl, ?yc24⟩) (by assumption) ?rc24
                      case yc24 => (intro w hSw; (try dsimp only at hSw); go_simp; (try with_reducible rfl))
                      try simp only [Act.put, List.setIfInBounds_toArray, List.set_cons_zero, List.set_cons_succ]
                      refine wpAnyH_take (oi := ⟨_, _, _, _, _, _⟩) (i := 25) (v := ?_) rfl (by kernel_rfl) (by kernel_rfl) (by kernel_rfl) (fun _ _ _ h => h) (Or.inl ⟨by rfl, ?yc25⟩) (by assumption) ?rc25
                      case yc25 => (intro w hSw; (try dsimp only at hSw); go_simp; (try with_reducible rfl))
                      try simp only [Act.put, List.setIfInBounds_toArray, List.set_cons_zero, List.set_cons_succ]
                      refine wpAnyH_take (oi := ⟨_, _, _, _, _, _⟩) (i := 26) (v := ?_) rfl (by kernel_rfl) (by kernel_rfl) (by kernel_rfl) (fun _ _ _ h => h) (Or.inl ⟨by rfl, ?yc26⟩) (by assumption) ?rc26
                      case yc26 => (intro w hSw; (try dsimp only at hSw); go_simp; (try with_reducible rfl))
                      try simp only [Act.put, List.setIfInBounds_toArray, List.set_cons_zero, List.set_cons_succ]
                      refine wpAnyH_ready (rs := [20]) (by kernel_rfl) (by simp) ?_
                      refine AllReadyH.cons (o := ⟨_, _, _, _, _, _⟩) rfl (fun K hK => ?_) AllReadyH.nil
                      go_simp
                      go_at_call 16; refine (CTu.out _ hHeld.2.2.2.2.2.out).mono ?_; rintro e w2 ⟨A2, k2, rfl, R2, L2⟩; (try go_wp2_with fail)
                      refine hK.out _ _ ?_ (fun hHeld2 => ?_)
                      · obtain ⟨h1, h2, h3, h4, h5, h6⟩ := hHeld; exact ⟨keepcY h1 L2, keepcY h2 L2, keepcY h3 L2, keepcY h4 L2, keepcY h5 L2, h6.out.trans (L2.mono h6.out.size)⟩
                      clear hK K hHeld
                      have hHeld := hHeld2
                      clear hHeld2
                      try simp only [Act.put, List.setIfInBounds_toArray, List.set_cons_zero, List.set_cons_succ]
                      refine wpAnyH_ready (rs := [27]) (by kernel_rfl) (by simp) ?_
                      refine AllReadyH.cons (o := ⟨_, _, _, _, _, _⟩) rfl (fun K hK => ?_) AllReadyH.nil
                      go_simp
                      go_at_call 16; refine (CTt.out _ hHeld.2.2.2.2.2.out).mono ?_; rintro e w3 ⟨A3, k3, rfl, R3, L3⟩; (try go_wp2_with fail)
                      refine hK.out _ _ ?_ (fun hHeld2 => ?_)
                      · obtain ⟨h1, h2, h3, h4, h5, h6⟩ := hHeld; exact ⟨keepcY h1 L3, keepcY h2 L3, keepcY h3 L3, keepcY h4 L3, keepcY h5 L3, h6.out.trans (L3.mono h6.out.size)⟩
                      clear hK K hHeld
                      have hHeld := hHeld2
                      clear hHeld2
                      try simp only [Act.put, List.setIfInBounds_toArray, List.set_cons_zero, List.set_cons_succ]
                      refine wpAnyH_ready (rs := [28]) (by kernel_rfl) (by simp) ?_
                      refine AllReadyH.cons (o := ⟨_, _, _, _, _, _⟩) rfl (fun K hK => ?_) AllReadyH.nil
                      go_simp
                      go_at_call 15; refine (CS.out A2 A3 k2 k3 _ (R2.below L3 (Nat.le_refl _)) R3).mono ?_; rintro e w4 ⟨rfl, L4⟩; (try go_wp2_with fail)
                      refine hK.out _ _ ?_ (fun hHeld2 => ?_)
                      · obtain ⟨h1, h2, h3, h4, h5, h6⟩ := hHeld; exact ⟨keepcY h1 L4, keepcY h2 L4, keepcY h3 L4, keepcY h4 L4, keepcY h5 L4, h6.out.trans (L4.mono h6.out.size)⟩
                      clear hK K hHeld
                      have hHeld := hHeld2
                      clear hHeld2
                      try simp only [Act.put, List.setIfInBounds_toArray, List.set_cons_zero, List.set_cons_succ]
                      refine wpAnyH_take (oi := ⟨_, _, _, _, _, _⟩) (i := 29) (v := ?_) rfl (by kernel_rfl) (by kernel_rfl) (by kernel_rfl) (fun _ _ _ h => h) (Or.inl ⟨by rfl, ?yc29⟩) (by assumption) ?rc29
                      case yc29 => (intro w hSw; (try dsimp only at hSw); go_simp; (try with_reducible rfl))
                      try simp only [Act.put, List.setIfInBounds_toArray, List.set_cons_zero, List.set_cons_succ]
                      refine wpAnyH_take (oi := ⟨_, _, _, _, _, _⟩) (i := 30) (v := ?_) rfl (by kernel_rfl) (by kernel_rfl) (by kernel_rfl) (fun _ _ _ h => h) (Or.inl ⟨by rfl, ?yc30⟩) (by assumption) ?rc30
                      case yc30 => (intro w hSw; (try dsimp only at hSw); go_simp; (try with_reducible rfl))
                      try simp only [Act.put, List.setIfInBounds_toArray, List.set_cons_zero, List.set_cons_succ]
                      refine wpAnyH_done (by kernel_rfl) ?_ _
                      have BE := Lib.hid (KD.out.trans (hHeld.2.2.2.2.2.out.mono KD.out.size))
                      clear hHeld R2 R3 L2 L3 L4 CTu CTt CS dt du fu ft c0 c1 c2
                      go_wp2
                      go_roundw
                      case rel => exact ⟨u + 1, by omega, by go_num, BE⟩
                      case measure => simp [intOf]; omega
                    · have q4 : (yu == yt) = false := by simpa using hy
                      clear SSu
                      go_wp2_with fail
                      go_upto_region 10 with fail
                      refine wp_region_held_drew (S := fun w' => w'.cell? ⟨x, 2, none⟩ = some (.slice (some ⟨b0, off0, none⟩) n.ts.length n.tc) ∧ w'.cell? ⟨b0, off0 + t * 5 + 1, none⟩ = some (.slice tA2 tl tc2) ∧ w'.cell? ⟨b0, off0 + u * 5 + 1, none⟩ = some (.slice uA ul uc) ∧ w'.cell? ⟨b, off + nu, none⟩ = some (.int .i64 yu) ∧ w'.cell? ⟨b, off + nd, none⟩ = some (.int .i64 yt) ∧ Hid (Below wo.heap.size wo w')) (by kernel_rfl) ?_ (fun hHeld => ?_)
                      · exact ⟨c2, dt, du, fu, ft, (Below.refl _ _).drew⟩
                      refine wpAnyH_take (oi := ⟨_, _, _, _, _, _⟩) (i := 0) (v := ?_) rfl (by kernel_rfl) (by kernel_rfl) (by kernel_rfl) (fun _ _ _ h => h) (Or.inl ⟨by rfl, ?yd0⟩) (by assumption) ?rd0
                      case yd0 => (intro w hSw; (try dsimp only at hSw); go_simp; (try with_reducible rfl))
                      try simp only [Act.put, List.setIfInBounds_toArray, List.set_cons_zero, List.set_cons_succ]
                      refine wpAnyH_take (oi := ⟨_, _, _, _, _, _⟩) (i := 1) (v := ?_) rfl (by kernel_rfl) (by kernel_rfl) (by kernel_rfl) (fun _ _ _ h => h) (Or.inl ⟨by rfl, ?yd1⟩) (by assumption) ?rd1
                      case yd1 => (intro w hSw; (try dsimp only at hSw); go_simp; (try with_reducible rfl))
                      try simp only [Act.put, List.setIfInBounds_toArray, List.set_cons_zero, List.set_cons_succ]
                      refine wpAnyH_take (oi := ⟨_, _, _, _, _, _⟩) (i := 2) (v := ?_) rfl (by kernel_rfl) (by kernel_rfl) (by kernel_rfl) (fun _ _ _ h => h) (Or.inl ⟨by rfl, ?yd2⟩) (by assumption) ?rd2
                      case yd2 => (intro w hSw; (try dsimp only at hSw); go_simp; (try with_reducible rfl))
                      try simp only [Act.put, List.setIfInBounds_toArray, List.set_cons_zero, List.set_cons_succ]
                      refine wpAnyH_take (oi := ⟨_, _, _, _, _, _⟩) (i := 3) (v := ?_) rfl (by kernel_rfl) (by kernel_rfl) (by kernel_rfl) (fun _ _ _ h => h) (Or.inl ⟨by rfl, ?yd3⟩) (by assumption) ?rd3
                      case yd3 => (intro w hSw; (try dsimp only at hSw); go_simp; (try with_reducible rfl))
                      try simp only [Act.put, List.setIfInBounds_toArray, List.set_cons_zero, List.set_cons_succ]
                      refine wpAnyH_take (oi := ⟨_, _, _, _, _, _⟩) (i := 4) (v := ?_) rfl (by kernel_rfl) (by kernel_rfl) (by kernel_rfl) (fun _ _ _ h => h) (Or.inl ⟨by rfl, ?yd4⟩) (by assumption) ?rd4
                      case yd4 => (intro w hSw; (try dsimp only at hSw); go_simp; (try with_reducible rfl))
                      try simp only [Act.put, List.setIfInBounds_toArray, List.set_cons_zero, List.set_cons_succ]
                      refine wpAnyH_take (oi := ⟨_, _, _, _, _, _⟩) (i := 5) (v := ?_) rfl (by kernel_rfl) (by kernel_rfl) (by kernel_rfl) (fun _ _ _ h => h) (Or.inl ⟨by rfl, ?yd5⟩) (by assumption) ?rd5
                      case yd5 => (intro w hSw; (try dsimp only at hSw); go_simp; (try with_reducible rfl))
                      try simp only [Act.put, List.setIfInBounds_toArray, List.set_cons_zero, List.set_cons_succ]
                      refine wpAnyH_take (oi := ⟨_, _, _, _, _, _⟩) (i := 6) (v := ?_) rfl (by kernel_rfl) (by kernel_rfl) (by kernel_rfl) (fun _ _ _ h => h) (Or.inl ⟨by rfl, ?yd6⟩) (by assumption) ?rd6
                      case yd6 => (intro w hSw; (try dsimp only at hSw); go_simp; (try with_reducible rfl))
                      try simp only [Act.put, List.setIfInBounds_toArray, List.set_cons_zero, List.set_cons_succ]
                      refine wpAnyH_take (oi := ⟨_, _, _, _, _, _⟩) (i := 7) (v := ?_) rfl (by kernel_rfl) (by kernel_rfl) (by kernel_rfl) (fun _ _ _ h => h) (Or.inl ⟨by rfl, ?yd7⟩) (by assumption) ?rd7
                      case yd7 => (intro w hSw; (try dsimp only at hSw); go_simp; (try with_reducible rfl))
                      try simp only [Act.put, List.setIfInBounds_toArray, List.set_cons_zero, List.set_cons_succ]
                      refine wpAnyH_take (oi := ⟨_, _, _, _, _, _⟩) (i := 8) (v := ?_) rfl (by kernel_rfl) (by kernel_rfl) (by kernel_rfl) (fun _ _ _ h => h) (Or.inl ⟨by rfl, ?yd8⟩) (by assumption) ?rd8
                      case yd8 => (intro w hSw; (try dsimp only at hSw); go_simp; (try with_reducible rfl))
                      try simp only [Act.put, List.setIfInBounds_toArray, List.set_cons_zero, List.set_cons_succ]
                      refine wpAnyH_take (oi := ⟨_, _, _, _, _, _⟩) (i := 9) (v := ?_) rfl (by kernel_rfl) (by kernel_rfl) (by kernel_rfl) (fun _ _ _ h => h) (Or.inl ⟨by rfl, ?yd9⟩) (by assumption) ?rd9
                      case yd9 => (intro w hSw; (try dsimp only at hSw); go_simp; (try with_reducible rfl))
                      try simp only [Act.put, List.setIfInBounds_toArray, List.set_cons_zero, List.set_cons_succ]
                      refine wpAnyH_take (oi := ⟨_, _, _, _, _, _⟩) (i := 10) (v := ?_) rfl (by kernel_rfl) (by kernel_rfl) (by kernel_rfl) (fun _ _ _ h => h) (Or.inl ⟨by rfl, ?yd10⟩) (by assumption) ?rd10
                      case yd10 => (intro w hSw; (try dsimp only at hSw); go_simp; (try with_reducible rfl))
                      try simp only [Act.put, List.setIfInBounds_toArray, List.set_cons_zero, List.set_cons_succ]
                      refine wpAnyH_take (oi := ⟨_, _, _, _, _, _⟩) (i := 11) (v := ?_) rfl (by kernel_rfl) (by kernel_rfl) (by kernel_rfl) (fun _ _ _ h => h) (Or.inl ⟨by rfl, ?yd11⟩) (by assumption) ?rd11
                      case yd11 => (intro w hSw; (try dsimp only at hSw); go_simp; (try with_reducible rfl))
                      try simp only [Act.put, List.setIfInBounds_toArray, List.set_cons_zero, List.set_cons_succ]
                      refine wpAnyH_take (oi := ⟨_, _, _, _, _, _⟩) (i := 12) (v := ?_) rfl (by kernel_rfl) (by kernel_rfl) (by kernel_rfl) (fun _ _ _ h => h) (Or.inl ⟨by rfl, ?yd12⟩) (by assumption) ?rd12
                      case yd12 => (intro w hSw; (try dsimp only at hSw); go_simp; (try with_reducible rfl))
                      try simp only [Act.put, List.setIfInBounds_toArray, List.set_cons_zero, List.set_cons_succ]
                      refine wpAnyH_take (oi := ⟨_, _, _, _, _, _⟩) (i := 13) (v := ?_) rfl (by kernel_rfl) (by kernel_rfl) (by kernel_rfl) (fun _ _ _ h => h) (Or.inl ⟨by rfl, ?yd13⟩) (by assumption) ?rd13
                      case yd13 => (intro w hSw; (try dsimp only at hSw); go_simp; (try with_reducible rfl))
                      try simp only [Act.put, List.setIfInBounds_toArray, List.set_cons_zero, List.set_cons_succ]
                      refine wpAnyH_take (oi := ⟨_, _, _, _, _, _⟩) (i := 14) rfl (by kernel_rfl) (by kernel_rfl) (by kernel_rfl) (fun _ _ _ h => h) (Or.inr ⟨by rfl, rfl⟩) (by assumption) ?rd14
                      try simp only [Act.put, List.setIfInBounds_toArray, List.set_cons_zero, List.set_cons_succ]
                      refine wpAnyH_take (oi := ⟨_, _, _, _, _, _⟩) (i := 15) rfl (by kernel_rfl) (by kernel_rfl) (by kernel_rfl) (fun _ _ _ h => h) (Or.inr ⟨by rfl, rfl⟩) (by assumption) ?rd15
                      try simp only [Act.put, List.setIfInBounds_toArray, List.set_cons_zero, List.set_cons_succ]
                      refine wpAnyH_take (oi := ⟨_, _, _, _, _, _⟩) (i := 16) rfl (by kernel_rfl) (by kernel_rfl) (by kernel_rfl) (fun _ _ _ h => h) (Or.inr ⟨by rfl, rfl⟩) (by assumption) ?rd16
                      try simp only [Act.put, List.setIfInBounds_toArray, List.set_cons_zero, List.set_cons_succ]
                      refine wpAnyH_take (oi := ⟨_, _, _, _, _, _⟩) (i := 17) rfl (by kernel_rfl) (by kernel_rfl) (by kernel_rfl) (fun _ _ _ h => h) (Or.inr ⟨by rfl, rfl⟩) (by assumption) ?rd17
                      try simp only [Act.put, List.setIfInBounds_toArray, List.set_cons_zero, List.set_cons_succ]
                      refine wpAnyH_take (oi := ⟨_, _, _, _, _, _⟩) (i := 18) rfl (by kernel_rfl) (by kernel_rfl) (by kernel_rfl) (fun _ _ _ h => h) (Or.inr ⟨by rfl, rfl⟩) (by assumption) ?rd18
                      try simp only [Act.put, List.setIfInBounds_toArray, List.set_cons_zero, List.set_cons_succ]
                      refine wpAnyH_take (oi := ⟨_, _, _, _, _, _⟩) (i := 19) rfl (by kernel_rfl) (by kernel_rfl) (by kernel_rfl) (fun _ _ _ h => h) (Or.inr ⟨by rfl, rfl⟩) (by assumption) ?rd19
                      try simp only [Act.put, List.setIfInBounds_toArray, List.set_cons_zero, List.set_cons_succ]
                      refine wpAnyH_take (oi := ⟨_, _, _, _, _, _⟩) (i := 20) rfl (by kernel_rfl) (by kernel_rfl) (by kernel_rfl) (fun _ _ _ h => h) (Or.inr ⟨by rfl, rfl⟩) (by assumption) ?rd20
                      try simp only [Act.put, List.setIfInBounds_toArray, List.set_cons_zero, List.set_cons_succ]
                      refine wpAnyH_take (oi := ⟨_, _, _, _, _, _⟩) (i := 21) rfl (by kernel_rfl) (by kernel_rfl) (by kernel_rfl) (fun _ _ _ h => h) (Or.inr ⟨by rfl, rfl⟩) (by assumption) ?rd21
                      try simp only [Act.put, List.setIfInBounds_toArray, List.set_cons_zero, List.set_cons_succ]
                      refine wpAnyH_take (oi := ⟨_, _, _, _, _, _⟩) (i := 22) rfl (by kernel_rfl) (by kernel_rfl) (by kernel_rfl) (fun _ _ _ h => h) (Or.inr ⟨by rfl, rfl⟩) (by assumption) ?rd22
                      try simp only [Act.put, List.setIfInBounds_toArray, List.set_cons_zero, List.set_cons_succ]
                      refine wpAnyH_take (oi := ⟨_, _, _, _, _, _⟩) (i := 23) rfl (by kernel_rfl) (by kernel_rfl) (by kernel_rfl) (fun _ _ _ h => h) (Or.inr ⟨by rfl, rfl⟩) (by assumption) ?rd23
                      try simp only [Act.put, List.setIfInBounds_toArray, List.set_cons_zero, List.set_cons_succ]
                      refine wpAnyH_take (oi := ⟨_, _, _, _, _, _⟩) (i := 24) rfl (by kernel_rfl) (by kernel_rfl) (by kernel_rfl) (fun _ _ _ h => h) (Or.inr ⟨by rfl, rfl⟩) (by assumption) ?rd24
                      try simp only [Act.put, List.setIfInBounds_toArray, List.set_cons_zero, List.set_cons_succ]
                      refine wpAnyH_take (oi := ⟨_, _, _, _, _, _⟩) (i := 25) rfl (by kernel_rfl) (by kernel_rfl) (by kernel_rfl) (fun _ _ _ h => h) (Or.inr ⟨by rfl, rfl⟩) (by assumption) ?rd25
                      try simp only [Act.put, List.setIfInBounds_toArray, List.set_cons_zero, List.set_cons_succ]
                      refine wpAnyH_take (oi := ⟨_, _, _, _, _, _⟩) (i := 26) rfl (by kernel_rfl) (by kernel_rfl) (by kernel_rfl) (fun _ _ _ h => h) (Or.inr ⟨by rfl, rfl⟩) (by assumption) ?rd26
                      try simp only [Act.put, List.setIfInBounds_toArray, List.set_cons_zero, List.set_cons_succ]
                      refine wpAnyH_take (oi := ⟨_, _, _, _, _, _⟩) (i := 27) rfl (by kernel_rfl) (by kernel_rfl) (by kernel_rfl) (fun _ _ _ h => h) (Or.inr ⟨by rfl, rfl⟩) (by assumption) ?rd27
                      try simp only [Act.put, List.setIfInBounds_toArray, List.set_cons_zero, List.set_cons_succ]
                      refine wpAnyH_take (oi := ⟨_, _, _, _, _, _⟩) (i := 28) rfl (by kernel_rfl) (by kernel_rfl) (by kernel_rfl) (fun _ _ _ h => h) (Or.inr ⟨by rfl, rfl⟩) (by assumption) ?rd28
                      try simp only [Act.put, List.setIfInBounds_toArray, List.set_cons_zero, List.set_cons_succ]
                      refine wpAnyH_take (oi := ⟨_, _, _, _, _, _⟩) (i := 29) rfl (by kernel_rfl) (by kernel_rfl) (by kernel_rfl) (fun _ _ _ h => h) (Or.inr ⟨by rfl, rfl⟩) (by assumption) ?rd29
                      try simp only [Act.put, List.setIfInBounds_toArray, List.set_cons_zero, List.set_cons_succ]
                      refine wpAnyH_take (oi := ⟨_, _, _, _, _, _⟩) (i := 30) (v := ?_) rfl (by kernel_rfl) (by kernel_rfl) (by kernel_rfl) (fun _ _ _ h => h) (Or.inl ⟨by rfl, ?yd30⟩) (by assumption) ?rd30
                      case yd30 => (intro w hSw; (try dsimp only at hSw); go_simp; (try with_reducible rfl))
                      try simp only [Act.put, List.setIfInBounds_toArray, List.set_cons_zero, List.set_cons_succ]
                      refine wpAnyH_done (by kernel_rfl) ?_ _
                      have BE := Lib.hid (KD.out.trans (hHeld.2.2.2.2.2.out.mono KD.out.size))
                      clear hHeld CTu CTt dt du fu ft c0 c1 c2
                      go_wp2
                      go_roundw
                      case rel => exact ⟨u + 1, by omega, by go_num, BE⟩
                      case measure => simp [intOf]; omega
                · have hut : u = t := by omega
                  obtain ⟨NE, SE⟩ := BBW.out _ BB.out
                  have NE := Lib.hid NE
                  have SE := Lib.hid SE
                  have N5 := Lib.hid (NBW.out _ BB.out)
                  subst hut
                  clear SJt SSt RTW RLW NBW BBW BB
                  go_wp2
                  go_roundw
                  case rel => exact ⟨u + 1, by omega, by go_num, N5, NE, SE⟩
                  case measure => simp [intOf]; omega
        · obtain ⟨c0, c1, c2⟩ := NB.out
          have BF := Lib.hid (X1.out _ BB.out)
          clear SJ SS RL RT BB
          go_wp2_with fail
          refine (alive_any _).mono ?_
          rintro e w9 ⟨rfl, K⟩
          have B9 := Lib.hid (BF.out.trans (K.mono BF.out.size))
          clear K c0 c1 c2
          go_wp2
          go_ret
          exact ⟨rfl, BW.out.trans (B9.out.mono BW.out.size)⟩
end Go.Proofs.Ytlbcdnobpnllkaa
