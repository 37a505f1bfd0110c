/- Classes of nets: the laws on flows, kinds and words. -/
import Derived.Test.YtlbcdnobpnllkaaGreatKM
import Derived.Test.YtlbcdnobpnllkaaGreatDgM3
import Derived.Test.YtlbcdnobpnllkaaGreatMF
import Derived.Deep.RegionHeld3
import Derived.Deep.RegionWith
namespace Go.Proofs.YtlbcdnobpnllkaaGreat
open Go.RowKit Go.Deep

theorem small_yes (n : NetV) (w : World) (hr : NetW w n) (hs : smallN n = true) :
    Calls Tryz.prog 7 #[(.agg #[.string n.nm, .slice n.PA n.ps.length n.pc, .slice n.TA n.ts.length n.tc])] w fun e w' => e = .returned (.tuple #[(.agg #[.string n.nm, .slice n.PA n.ps.length n.pc, .slice n.TA n.ts.length n.tc]), .bool true]) ∧ Below w.heap.size w w' :=
  (small_any n w hr).mono fun e w' ⟨h, hb⟩ => ⟨by rw [h, if_pos hs], hb⟩
theorem small_no (n : NetV) (w : World) (hr : NetW w n) (hs : smallN n = false) :
    Calls Tryz.prog 7 #[(.agg #[.string n.nm, .slice n.PA n.ps.length n.pc, .slice n.TA n.ts.length n.tc])] w fun e w' => e = .returned (.tuple #[.agg #[.string ⟨#[]⟩, .slice none 0 0, .slice none 0 0], .bool false]) ∧ Below w.heap.size w w' :=
  (small_any n w hr).mono fun e w' ⟨h, hb⟩ => ⟨by rw [h, if_neg (by rw [hs]; decide)], hb⟩
def flN (n : NetV) : Nat := if okN n = true then nodN n else 0
theorem flow_graph (n : NetV) (w : World) (hr : NetR w n) :
    Calls Tryz.prog 10 #[(.agg #[.string n.nm, .slice n.PA n.ps.length n.pc, .slice n.TA n.ts.length n.tc])] w fun e w' => ∃ A c RA RK, e = .returned (.slice A (flN n) c) ∧ Dg.GraphR w' A (flN n) RA (flowV n) RK ∧ Below w.heap.size w w' :=
  (flow_any n w hr).mono fun e w' h => by
    unfold FlowPost at h
    unfold flN
    rcases h with ⟨h1, h2, h3⟩ | ⟨h1, T, vs, h2, h3, h4⟩
    · rw [if_neg (by rw [h1]; decide)]
      exact ⟨none, 0, fun _ => none, fun _ => 0, h2, ⟨by omega, fun i hi => absurd hi (by omega), fun i hi => absurd hi (by omega), fun i hi => absurd hi (by omega)⟩, h3⟩
    · rw [if_pos h1]
      have h48 := nod_48 h1
      have h24 := fun v (hv : v < nodN n) => flow_24 h1 hv
      unfold nodN at h48 h24 ⊢
      obtain ⟨RA, RK, GR⟩ := grow_graph h3 (by omega) fun v hv => by have := h24 v hv; omega
      exact ⟨_, _, RA, RK, h2, GR, h4⟩
theorem rflow_graph (n : NetV) (w : World) (hr : NetR w n) :
    Calls Tryz.prog 11 #[(.agg #[.string n.nm, .slice n.PA n.ps.length n.pc, .slice n.TA n.ts.length n.tc])] w fun e w' => ∃ A c RA RK, e = .returned (.slice A (flN n) c) ∧ Dg.GraphR w' A (flN n) RA (flowV n) RK ∧ Below w.heap.size w w' :=
  (rflow_any n w hr).mono fun e w' h => by
    unfold RFlowPost at h
    unfold flN
    rcases h with ⟨h1, h2, h3⟩ | ⟨h1, A, c, RA, RK, h2, h3, h4⟩
    · rw [if_neg (by rw [h1]; decide)]
      exact ⟨none, 0, fun _ => none, fun _ => 0, h2, ⟨by omega, fun i hi => absurd hi (by omega), fun i hi => absurd hi (by omega), fun i hi => absurd hi (by omega)⟩, h3⟩
    · rw [if_pos h1]
      exact ⟨A, c, RA, RK, h2, h3, h4⟩
set_option maxHeartbeats 16000000 in
set_option maxRecDepth 1000000 in
theorem words_law (n : NetV) (w : World) (hn : NetW w n) :
    Calls Tryz.prog 6 #[(.agg #[.string n.nm, .slice n.PA n.ps.length n.pc, .slice n.TA n.ts.length n.tc])] w fun e w' => e = .returned (.bool true) ∧ Below w.heap.size w w' := by
  have B0 : Hid (Below w.heap.size w (w.alloc (.cells #[.string n.nm, .slice n.PA n.ps.length n.pc, .slice n.TA n.ts.length n.tc] 25))) := (Below.refl _ _).alloc (Nat.le_refl _) _
  cases hs : smallN n
  · have SM := Lib.hid (fun W (hW : Below w.heap.size w W) => small_no n W (hn.below hW (Nat.le_refl _)) hs)
    go_enter Tryz.func6, Tryz.ntmps6
    go_wp2_with fail
    refine (SM.out _ B0.out).mono ?_
    rintro e w1 ⟨rfl, K⟩
    have B1 : Below w.heap.size w w1 := B0.out.trans (K.mono B0.out.size)
    have BX := Lib.hid (B1.alloc B1.size (.cells #[.string ⟨#[]⟩, .slice none 0 0, .slice none 0 0] 25))
    clear B1 K
    go_wp2_with fail
    refine (alive_any _).mono ?_
    rintro e w2 ⟨rfl, K⟩
    have B2 := Lib.hid (BX.out.trans (K.mono BX.out.size))
    clear K
    go_wp2
    go_ret
    exact ⟨rfl, B2.out⟩
  have hR := Lib.hid (small_ok hn hs)
  have SM := Lib.hid (fun W (hW : Below w.heap.size w W) => small_yes n W (hn.below hW (Nat.le_refl _)) hs)
  clear hs
  go_enter Tryz.func6, Tryz.ntmps6
  go_wp2_with fail
  refine (SM.out _ B0.out).mono ?_
  rintro e w1 ⟨rfl, K⟩
  have B1 : Below w.heap.size w w1 := B0.out.trans (K.mono B0.out.size)
  go_upto_region 10 with fail
  obtain ⟨w2, hw2⟩ : ∃ w2, w2 = w1.alloc (.cells #[.string n.nm, .slice n.PA n.ps.length n.pc, .slice n.TA n.ts.length n.tc] 25) := ⟨_, rfl⟩
  have BW : Hid (Below w.heap.size w w2) := by rw [hw2]; exact B1.alloc B1.size _
  have Q0 : Hid (w2.cell? ⟨w1.heap.size, 0, none⟩ = some (.string n.nm)) := by show _ = _; rw [hw2]; simp
  have Q1 : Hid (w2.cell? ⟨w1.heap.size, 1, none⟩ = some (.slice n.PA n.ps.length n.pc)) := by show _ = _; rw [hw2]; simp
  have Q2 : Hid (w2.cell? ⟨w1.heap.size, 2, none⟩ = some (.slice n.TA n.ts.length n.tc)) := by show _ = _; rw [hw2]; simp
  have SX : Hid (w1.heap.size < w2.heap.size) := by show _ < _; rw [hw2, World.size_alloc]; omega
  have CN : Hid (∀ W, Below w2.heap.size w2 W → NetR W n) := fun W hW => (hR.out.below BW.out (Nat.le_refl _)).below hW (Nat.le_refl _)
  have CP0 : Hid (∀ W, Below w2.heap.size w2 W → Calls Tryz.prog 30 #[(.agg #[.string n.nm, .slice n.PA n.ps.length n.pc, .slice n.TA n.ts.length n.tc])] W (WordsPost W.heap.size W (wordsTo n 9))) := fun W hW => words_any n W (CN.out W hW)
  have CR0 : Hid (∀ W, Below w2.heap.size w2 W → Calls Tryz.prog 31 #[(.agg #[.string n.nm, .slice n.PA n.ps.length n.pc, .slice n.TA n.ts.length n.tc])] W (WordsPost W.heap.size W (wordsTo n 9))) := fun W hW => rwords_any n W (CN.out W hW)
  have hwl := words_len n 9
  unfold WordsPost at CP0 CR0
  generalize wordsTo n 9 = ws at *
  rw [← hw2]
  clear hw2 B1 K hR SM B0
  generalize w1.heap.size = x at *
  refine wp_region_held_drew (S := fun w' => w'.cell? ⟨x, 0, none⟩ = some (.string n.nm) ∧ w'.cell? ⟨x, 1, none⟩ = some (.slice n.PA n.ps.length n.pc) ∧ w'.cell? ⟨x, 2, none⟩ = some (.slice n.TA n.ts.length n.tc) ∧ Hid (Below w2.heap.size w2 w')) (by kernel_rfl) ?_ (fun hHeld => ?_)
  · exact ⟨Q0.out, Q1.out, Q2.out, (Below.refl _ _).drew⟩
  refine wpAnyH_take (oi := ⟨_, _, _, _, _, _⟩) (i := 0) (v := ?_) rfl (by kernel_rfl) (by kernel_rfl) (by kernel_rfl) (fun _ _ _ h => h) (Or.inl ⟨by rfl, ?yw0⟩) (by assumption) ?rw0
  case yw0 => (intro w hSw; (try dsimp only at hSw); go_simp; (try with_reducible rfl))
  try simp only [Act.put, List.setIfInBounds_toArray, List.set_cons_zero, List.set_cons_succ]
  refine wpAnyH_take (oi := ⟨_, _, _, _, _, _⟩) (i := 2) (v := ?_) rfl (by kernel_rfl) (by kernel_rfl) (by kernel_rfl) (fun _ _ _ h => h) (Or.inl ⟨by rfl, ?yw2⟩) (by assumption) ?rw2
  case yw2 => (intro w hSw; (try dsimp only at hSw); go_simp; (try with_reducible rfl))
  try simp only [Act.put, List.setIfInBounds_toArray, List.set_cons_zero, List.set_cons_succ]
  refine wpAnyH_ready (rs := [1]) (by kernel_rfl) (by simp) ?_
  refine AllReadyH.cons (o := ⟨_, _, _, _, _, _⟩) rfl (fun K hK => ?_) AllReadyH.nil
  go_simp
  go_at_call 30; refine (CP0.out _ hHeld.2.2.2.out).mono ?_; rintro e x1 ⟨A1, c1, rfl, R1, L1⟩; (try go_wp2_with fail)
  refine hK.out _ _ ?_ (fun hHeld2 => ?_)
  · obtain ⟨h1, h2, h3, h4⟩ := hHeld; have hz := h4.out.size; exact ⟨(L1.cell (Nat.lt_of_lt_of_le SX.out hz)).trans h1, (L1.cell (Nat.lt_of_lt_of_le SX.out hz)).trans h2, (L1.cell (Nat.lt_of_lt_of_le SX.out hz)).trans h3, h4.out.trans (L1.mono hz)⟩
  clear hK K hHeld
  have hHeld := hHeld2
  clear hHeld2
  try simp only [Act.put, List.setIfInBounds_toArray, List.set_cons_zero, List.set_cons_succ]
  refine wpAnyH_ready (rs := [3]) (by kernel_rfl) (by simp) ?_
  refine AllReadyH.cons (o := ⟨_, _, _, _, _, _⟩) rfl (fun K hK => ?_) AllReadyH.nil
  go_simp
  go_at_call 31; refine (CR0.out _ hHeld.2.2.2.out).mono ?_; rintro e x3 ⟨A3, c3, rfl, R3, L3⟩; (try go_wp2_with fail)
  refine hK.out _ _ ?_ (fun hHeld2 => ?_)
  · obtain ⟨h1, h2, h3, h4⟩ := hHeld; have hz := h4.out.size; exact ⟨(L3.cell (Nat.lt_of_lt_of_le SX.out hz)).trans h1, (L3.cell (Nat.lt_of_lt_of_le SX.out hz)).trans h2, (L3.cell (Nat.lt_of_lt_of_le SX.out hz)).trans h3, h4.out.trans (L3.mono hz)⟩
  clear hK K hHeld
  have hHeld := hHeld2
  clear hHeld2
  try simp only [Act.put, List.setIfInBounds_toArray, List.set_cons_zero, List.set_cons_succ]
  refine wpAnyH_ready (rs := [4]) (by kernel_rfl) (by simp) ?_
  refine AllReadyH.cons (o := ⟨_, _, _, _, _, _⟩) rfl (fun K hK => ?_) AllReadyH.nil
  go_simp
  go_at_call 29; refine (same48_any A1 A3 ws c1 c3 _ (R1.below L3) R3 (by omega)).mono ?_; rintro e x4 ⟨rfl, L4⟩; (try go_wp2_with fail)
  refine hK.out _ _ ?_ (fun hHeld2 => ?_)
  · obtain ⟨h1, h2, h3, h4⟩ := hHeld; have hz := h4.out.size; exact ⟨(L4.cell (Nat.lt_of_lt_of_le SX.out hz)).trans h1, (L4.cell (Nat.lt_of_lt_of_le SX.out hz)).trans h2, (L4.cell (Nat.lt_of_lt_of_le SX.out hz)).trans h3, h4.out.trans (L4.mono hz)⟩
  clear hK K hHeld
  have hHeld := hHeld2
  clear hHeld2
  try simp only [Act.put, List.setIfInBounds_toArray, List.set_cons_zero, List.set_cons_succ]
  refine wpAnyH_take (oi := ⟨_, _, _, _, _, _⟩) (i := 5) (v := ?_) rfl (by kernel_rfl) (by kernel_rfl) (by kernel_rfl) (fun _ _ _ h => h) (Or.inl ⟨by rfl, ?yw5⟩) (by assumption) ?rw5
  case yw5 => (intro w hSw; (try dsimp only at hSw); go_simp; (try with_reducible rfl))
  try simp only [Act.put, List.setIfInBounds_toArray, List.set_cons_zero, List.set_cons_succ]
  refine wpAnyH_ready (rs := [6]) (by kernel_rfl) (by simp) ?_
  refine AllReadyH.cons (o := ⟨_, _, _, _, _, _⟩) rfl (fun K hK => ?_) AllReadyH.nil
  go_simp
  go_at_call 8; refine (alive_any _).mono ?_; rintro e x6 ⟨rfl, L6⟩; (try go_wp2_with fail)
  refine hK.out _ _ ?_ (fun hHeld2 => ?_)
  · obtain ⟨h1, h2, h3, h4⟩ := hHeld; have hz := h4.out.size; exact ⟨(L6.cell (Nat.lt_of_lt_of_le SX.out hz)).trans h1, (L6.cell (Nat.lt_of_lt_of_le SX.out hz)).trans h2, (L6.cell (Nat.lt_of_lt_of_le SX.out hz)).trans h3, h4.out.trans (L6.mono hz)⟩
  clear hK K hHeld
  have hHeld := hHeld2
  clear hHeld2
  try simp only [Act.put, List.setIfInBounds_toArray, List.set_cons_zero, List.set_cons_succ]
  refine wpAnyH_take (oi := ⟨_, _, _, _, _, _⟩) (i := 7) (v := ?_) rfl (by kernel_rfl) (by kernel_rfl) (by kernel_rfl) (fun _ _ _ h => h) (Or.inl ⟨by rfl, ?yw7⟩) (by assumption) ?rw7
  case yw7 => (intro w hSw; (try dsimp only at hSw); go_simp; (try with_reducible rfl))
  try simp only [Act.put, List.setIfInBounds_toArray, List.set_cons_zero, List.set_cons_succ]
  refine wpAnyH_take (oi := ⟨_, _, _, _, _, _⟩) (i := 8) (v := ?_) rfl (by kernel_rfl) (by kernel_rfl) (by kernel_rfl) (fun _ _ _ h => h) (Or.inl ⟨by rfl, ?yw8⟩) (by assumption) ?rw8
  case yw8 => (intro w hSw; (try dsimp only at hSw); go_simp; (try with_reducible rfl))
  try simp only [Act.put, List.setIfInBounds_toArray, List.set_cons_zero, List.set_cons_succ]
  refine wpAnyH_done (by kernel_rfl) ?_ _
  have BF := Lib.hid (BW.out.trans (hHeld.2.2.2.out.mono BW.out.size))
  clear hHeld
  go_wp2
  go_ret
  exact ⟨rfl, BF.out⟩
set_option maxHeartbeats 16000000 in
set_option maxRecDepth 1000000 in
theorem flows_law (n : NetV) (w : World) (hn : NetW w n) :
    Calls Tryz.prog 3 #[(.agg #[.string n.nm, .slice n.PA n.ps.length n.pc, .slice n.TA n.ts.length n.tc])] w fun e w' => e = .returned (.bool true) ∧ Below w.heap.size w w' := by
  have B0 : Hid (Below w.heap.size w (w.alloc (.cells #[.string n.nm, .slice n.PA n.ps.length n.pc, .slice n.TA n.ts.length n.tc] 25))) := (Below.refl _ _).alloc (Nat.le_refl _) _
  cases hs : smallN n
  · have SM := Lib.hid (fun W (hW : Below w.heap.size w W) => small_no n W (hn.below hW (Nat.le_refl _)) hs)
    go_enter Tryz.func3, Tryz.ntmps3
    go_wp2_with fail
    refine (SM.out _ B0.out).mono ?_
    rintro e w1 ⟨rfl, K⟩
    have B1 : Below w.heap.size w w1 := B0.out.trans (K.mono B0.out.size)
    have BX := Lib.hid (B1.alloc B1.size (.cells #[.string ⟨#[]⟩, .slice none 0 0, .slice none 0 0] 25))
    clear B1 K
    go_wp2_with fail
    refine (alive_any _).mono ?_
    rintro e w2 ⟨rfl, K⟩
    have B2 := Lib.hid (BX.out.trans (K.mono BX.out.size))
    clear K
    go_wp2
    go_ret
    exact ⟨rfl, B2.out⟩
  have hR := Lib.hid (small_ok hn hs)
  have SM := Lib.hid (fun W (hW : Below w.heap.size w W) => small_yes n W (hn.below hW (Nat.le_refl _)) hs)
  clear hs
  go_enter Tryz.func3, Tryz.ntmps3
  go_wp2_with fail
  refine (SM.out _ B0.out).mono ?_
  rintro e w1 ⟨rfl, K⟩
  have B1 : Below w.heap.size w w1 := B0.out.trans (K.mono B0.out.size)
  go_upto_region 10 with fail
  obtain ⟨w2, hw2⟩ : ∃ w2, w2 = w1.alloc (.cells #[.string n.nm, .slice n.PA n.ps.length n.pc, .slice n.TA n.ts.length n.tc] 25) := ⟨_, rfl⟩
  have BW : Hid (Below w.heap.size w w2) := by rw [hw2]; exact B1.alloc B1.size _
  have Q0 : Hid (w2.cell? ⟨w1.heap.size, 0, none⟩ = some (.string n.nm)) := by show _ = _; rw [hw2]; simp
  have Q1 : Hid (w2.cell? ⟨w1.heap.size, 1, none⟩ = some (.slice n.PA n.ps.length n.pc)) := by show _ = _; rw [hw2]; simp
  have Q2 : Hid (w2.cell? ⟨w1.heap.size, 2, none⟩ = some (.slice n.TA n.ts.length n.tc)) := by show _ = _; rw [hw2]; simp
  have SX : Hid (w1.heap.size < w2.heap.size) := by show _ < _; rw [hw2, World.size_alloc]; omega
  have CN : Hid (∀ W, Below w2.heap.size w2 W → NetR W n) := fun W hW => (hR.out.below BW.out (Nat.le_refl _)).below hW (Nat.le_refl _)
  have CP0 : Hid (∀ W, Below w2.heap.size w2 W → Calls Tryz.prog 10 #[(.agg #[.string n.nm, .slice n.PA n.ps.length n.pc, .slice n.TA n.ts.length n.tc])] W fun e w' => ∃ A c RA RK, e = .returned (.slice A (flN n) c) ∧ Dg.GraphR w' A (flN n) RA (flowV n) RK ∧ Below W.heap.size W w') := fun W hW => flow_graph n W (CN.out W hW)
  have CR0 : Hid (∀ W, Below w2.heap.size w2 W → Calls Tryz.prog 11 #[(.agg #[.string n.nm, .slice n.PA n.ps.length n.pc, .slice n.TA n.ts.length n.tc])] W fun e w' => ∃ A c RA RK, e = .returned (.slice A (flN n) c) ∧ Dg.GraphR w' A (flN n) RA (flowV n) RK ∧ Below W.heap.size W w') := fun W hW => rflow_graph n W (CN.out W hW)
  have CP1 : Hid (∀ W, Below w2.heap.size w2 W → Calls Tryz.prog 12 #[(.agg #[.string n.nm, .slice n.PA n.ps.length n.pc, .slice n.TA n.ts.length n.tc])] W (VPost W.heap.size W (.bool (coN n)))) := fun W hW => coN_any n W (CN.out W hW)
  have CR1 : Hid (∀ W, Below w2.heap.size w2 W → Calls Tryz.prog 13 #[(.agg #[.string n.nm, .slice n.PA n.ps.length n.pc, .slice n.TA n.ts.length n.tc])] W (VPost W.heap.size W (.bool (coN n)))) := fun W hW => rcon_any n W (CN.out W hW)
  have CP2 : Hid (∀ W, Below w2.heap.size w2 W → Calls Tryz.prog 14 #[(.agg #[.string n.nm, .slice n.PA n.ps.length n.pc, .slice n.TA n.ts.length n.tc])] W (VPost W.heap.size W (.bool (stN n)))) := fun W hW => stN_any n W (CN.out W hW)
  have CR2 : Hid (∀ W, Below w2.heap.size w2 W → Calls Tryz.prog 15 #[(.agg #[.string n.nm, .slice n.PA n.ps.length n.pc, .slice n.TA n.ts.length n.tc])] W (VPost W.heap.size W (.bool (stN n)))) := fun W hW => rstr_any n W (CN.out W hW)
  generalize flN n = N at *
  generalize flowV n = fv at *
  generalize coN n = z0 at *
  generalize stN n = z1 at *
  rw [← hw2]
  clear hw2 B1 K hR SM B0
  generalize w1.heap.size = x at *
  refine wp_region_held_drew (S := fun w' => w'.cell? ⟨x, 0, none⟩ = some (.string n.nm) ∧ w'.cell? ⟨x, 1, none⟩ = some (.slice n.PA n.ps.length n.pc) ∧ w'.cell? ⟨x, 2, none⟩ = some (.slice n.TA n.ts.length n.tc) ∧ Hid (Below w2.heap.size w2 w')) (by kernel_rfl) ?_ (fun hHeld => ?_)
  · exact ⟨Q0.out, Q1.out, Q2.out, (Below.refl _ _).drew⟩
  refine wpAnyH_take (oi := ⟨_, _, _, _, _, _⟩) (i := 0) (v := ?_) rfl (by kernel_rfl) (by kernel_rfl) (by kernel_rfl) (fun _ _ _ h => h) (Or.inl ⟨by rfl, ?yw0⟩) (by assumption) ?rw0
  case yw0 => (intro w hSw; (try dsimp only at hSw); go_simp; (try with_reducible rfl))
  try simp only [Act.put, List.setIfInBounds_toArray, List.set_cons_zero, List.set_cons_succ]
  refine wpAnyH_take (oi := ⟨_, _, _, _, _, _⟩) (i := 2) (v := ?_) rfl (by kernel_rfl) (by kernel_rfl) (by kernel_rfl) (fun _ _ _ h => h) (Or.inl ⟨by rfl, ?yw2⟩) (by assumption) ?rw2
  case yw2 => (intro w hSw; (try dsimp only at hSw); go_simp; (try with_reducible rfl))
  try simp only [Act.put, List.setIfInBounds_toArray, List.set_cons_zero, List.set_cons_succ]
  refine wpAnyH_ready (rs := [1]) (by kernel_rfl) (by simp) ?_
  refine AllReadyH.cons (o := ⟨_, _, _, _, _, _⟩) rfl (fun K hK => ?_) AllReadyH.nil
  go_simp
  go_at_call 10; refine (CP0.out _ hHeld.2.2.2.out).mono ?_; rintro e x1 ⟨A1, c1, RA1, RK1, rfl, G1, L1⟩; (try go_wp2_with fail)
  refine hK.out _ _ ?_ (fun hHeld2 => ?_)
  · obtain ⟨h1, h2, h3, h4⟩ := hHeld; have hz := h4.out.size; exact ⟨(L1.cell (Nat.lt_of_lt_of_le SX.out hz)).trans h1, (L1.cell (Nat.lt_of_lt_of_le SX.out hz)).trans h2, (L1.cell (Nat.lt_of_lt_of_le SX.out hz)).trans h3, h4.out.trans (L1.mono hz)⟩
  clear hK K hHeld
  have hHeld := hHeld2
  clear hHeld2
  try simp only [Act.put, List.setIfInBounds_toArray, List.set_cons_zero, List.set_cons_succ]
  refine wpAnyH_ready (rs := [3]) (by kernel_rfl) (by simp) ?_
  refine AllReadyH.cons (o := ⟨_, _, _, _, _, _⟩) rfl (fun K hK => ?_) AllReadyH.nil
  go_simp
  go_at_call 11; refine (CR0.out _ hHeld.2.2.2.out).mono ?_; rintro e x3 ⟨A3, c3, RA3, RK3, rfl, G3, L3⟩; (try go_wp2_with fail)
  refine hK.out _ _ ?_ (fun hHeld2 => ?_)
  · obtain ⟨h1, h2, h3, h4⟩ := hHeld; have hz := h4.out.size; exact ⟨(L3.cell (Nat.lt_of_lt_of_le SX.out hz)).trans h1, (L3.cell (Nat.lt_of_lt_of_le SX.out hz)).trans h2, (L3.cell (Nat.lt_of_lt_of_le SX.out hz)).trans h3, h4.out.trans (L3.mono hz)⟩
  clear hK K hHeld
  have hHeld := hHeld2
  clear hHeld2
  try simp only [Act.put, List.setIfInBounds_toArray, List.set_cons_zero, List.set_cons_succ]
  refine wpAnyH_ready (rs := [4]) (by kernel_rfl) (by simp) ?_
  refine AllReadyH.cons (o := ⟨_, _, _, _, _, _⟩) rfl (fun K hK => ?_) AllReadyH.nil
  go_simp
  go_at_call 9; refine (Dg.lists_yes A1 A3 N c1 c3 RA1 RA3 fv RK1 RK3 _ (G1.below L3) G3).mono ?_; rintro e x4 ⟨rfl, L4⟩; (try go_wp2_with fail)
  refine hK.out _ _ ?_ (fun hHeld2 => ?_)
  · obtain ⟨h1, h2, h3, h4⟩ := hHeld; have hz := h4.out.size; exact ⟨(L4.cell (Nat.lt_of_lt_of_le SX.out hz)).trans h1, (L4.cell (Nat.lt_of_lt_of_le SX.out hz)).trans h2, (L4.cell (Nat.lt_of_lt_of_le SX.out hz)).trans h3, h4.out.trans (L4.mono hz)⟩
  clear hK K hHeld
  have hHeld := hHeld2
  clear hHeld2
  try simp only [Act.put, List.setIfInBounds_toArray, List.set_cons_zero, List.set_cons_succ]
  refine wpAnyH_take (oi := ⟨_, _, _, _, _, _⟩) (i := 5) (v := ?_) rfl (by kernel_rfl) (by kernel_rfl) (by kernel_rfl) (fun _ _ _ h => h) (Or.inl ⟨by rfl, ?yw5⟩) (by assumption) ?rw5
  case yw5 => (intro w hSw; (try dsimp only at hSw); go_simp; (try with_reducible rfl))
  try simp only [Act.put, List.setIfInBounds_toArray, List.set_cons_zero, List.set_cons_succ]
  refine wpAnyH_take (oi := ⟨_, _, _, _, _, _⟩) (i := 6) (v := ?_) rfl (by kernel_rfl) (by kernel_rfl) (by kernel_rfl) (fun _ _ _ h => h) (Or.inl ⟨by rfl, ?yw6⟩) (by assumption) ?rw6
  case yw6 => (intro w hSw; (try dsimp only at hSw); go_simp; (try with_reducible rfl))
  try simp only [Act.put, List.setIfInBounds_toArray, List.set_cons_zero, List.set_cons_succ]
  refine wpAnyH_take (oi := ⟨_, _, _, _, _, _⟩) (i := 8) (v := ?_) rfl (by kernel_rfl) (by kernel_rfl) (by kernel_rfl) (fun _ _ _ h => h) (Or.inl ⟨by rfl, ?yw8⟩) (by assumption) ?rw8
  case yw8 => (intro w hSw; (try dsimp only at hSw); go_simp; (try with_reducible rfl))
  try simp only [Act.put, List.setIfInBounds_toArray, List.set_cons_zero, List.set_cons_succ]
  refine wpAnyH_ready (rs := [7]) (by kernel_rfl) (by simp) ?_
  refine AllReadyH.cons (o := ⟨_, _, _, _, _, _⟩) rfl (fun K hK => ?_) AllReadyH.nil
  go_simp
  go_at_call 12; refine (CP1.out _ hHeld.2.2.2.out).mono ?_; rintro e x7 ⟨rfl, L7⟩; (try go_wp2_with fail)
  refine hK.out _ _ ?_ (fun hHeld2 => ?_)
  · obtain ⟨h1, h2, h3, h4⟩ := hHeld; have hz := h4.out.size; exact ⟨(L7.cell (Nat.lt_of_lt_of_le SX.out hz)).trans h1, (L7.cell (Nat.lt_of_lt_of_le SX.out hz)).trans h2, (L7.cell (Nat.lt_of_lt_of_le SX.out hz)).trans h3, h4.out.trans (L7.mono hz)⟩
  clear hK K hHeld
  have hHeld := hHeld2
  clear hHeld2
  try simp only [Act.put, List.setIfInBounds_toArray, List.set_cons_zero, List.set_cons_succ]
  refine wpAnyH_ready (rs := [9]) (by kernel_rfl) (by simp) ?_
  refine AllReadyH.cons (o := ⟨_, _, _, _, _, _⟩) rfl (fun K hK => ?_) AllReadyH.nil
  go_simp
  go_at_call 13; refine (CR1.out _ hHeld.2.2.2.out).mono ?_; rintro e x9 ⟨rfl, L9⟩; (try go_wp2_with fail)
  refine hK.out _ _ ?_ (fun hHeld2 => ?_)
  · obtain ⟨h1, h2, h3, h4⟩ := hHeld; have hz := h4.out.size; exact ⟨(L9.cell (Nat.lt_of_lt_of_le SX.out hz)).trans h1, (L9.cell (Nat.lt_of_lt_of_le SX.out hz)).trans h2, (L9.cell (Nat.lt_of_lt_of_le SX.out hz)).trans h3, h4.out.trans (L9.mono hz)⟩
  clear hK K hHeld
  have hHeld := hHeld2
  clear hHeld2
  try simp only [Act.put, List.setIfInBounds_toArray, List.set_cons_zero, List.set_cons_succ]
  refine wpAnyH_take (oi := ⟨_, _, _, _, _, _⟩) (i := 10) (v := ?_) rfl (by kernel_rfl) (by kernel_rfl) (by kernel_rfl) (fun _ _ _ h => h) (Or.inl ⟨by rfl, ?yw10⟩) (by assumption) ?rw10
  case yw10 => (intro w hSw; (try dsimp only at hSw); go_simp; (try with_reducible rfl))
  try simp only [Act.put, List.setIfInBounds_toArray, List.set_cons_zero, List.set_cons_succ]
  refine wpAnyH_take (oi := ⟨_, _, _, _, _, _⟩) (i := 11) (v := ?_) rfl (by kernel_rfl) (by kernel_rfl) (by kernel_rfl) (fun _ _ _ h => h) (Or.inl ⟨by rfl, ?yw11⟩) (by assumption) ?rw11
  case yw11 => (intro w hSw; (try dsimp only at hSw); go_simp; (try with_reducible rfl))
  try simp only [Act.put, List.setIfInBounds_toArray, List.set_cons_zero, List.set_cons_succ]
  refine wpAnyH_take (oi := ⟨_, _, _, _, _, _⟩) (i := 12) (v := ?_) rfl (by kernel_rfl) (by kernel_rfl) (by kernel_rfl) (fun _ _ _ h => h) (Or.inl ⟨by rfl, ?yw12⟩) (by assumption) ?rw12
  case yw12 => (intro w hSw; (try dsimp only at hSw); go_simp; (try with_reducible rfl))
  try simp only [Act.put, List.setIfInBounds_toArray, List.set_cons_zero, List.set_cons_succ]
  refine wpAnyH_take (oi := ⟨_, _, _, _, _, _⟩) (i := 13) (v := ?_) rfl (by kernel_rfl) (by kernel_rfl) (by kernel_rfl) (fun _ _ _ h => h) (Or.inl ⟨by rfl, ?yw13⟩) (by assumption) ?rw13
  case yw13 => (intro w hSw; (try dsimp only at hSw); go_simp; (try with_reducible rfl))
  try simp only [Act.put, List.setIfInBounds_toArray, List.set_cons_zero, List.set_cons_succ]
  refine wpAnyH_take (oi := ⟨_, _, _, _, _, _⟩) (i := 15) (v := ?_) rfl (by kernel_rfl) (by kernel_rfl) (by kernel_rfl) (fun _ _ _ h => h) (Or.inl ⟨by rfl, ?yw15⟩) (by assumption) ?rw15
  case yw15 => (intro w hSw; (try dsimp only at hSw); go_simp; (try with_reducible rfl))
  try simp only [Act.put, List.setIfInBounds_toArray, List.set_cons_zero, List.set_cons_succ]
  refine wpAnyH_ready (rs := [14]) (by kernel_rfl) (by simp) ?_
  refine AllReadyH.cons (o := ⟨_, _, _, _, _, _⟩) rfl (fun K hK => ?_) AllReadyH.nil
  go_simp
  go_at_call 14; refine (CP2.out _ hHeld.2.2.2.out).mono ?_; rintro e x14 ⟨rfl, L14⟩; (try go_wp2_with fail)
  refine hK.out _ _ ?_ (fun hHeld2 => ?_)
  · obtain ⟨h1, h2, h3, h4⟩ := hHeld; have hz := h4.out.size; exact ⟨(L14.cell (Nat.lt_of_lt_of_le SX.out hz)).trans h1, (L14.cell (Nat.lt_of_lt_of_le SX.out hz)).trans h2, (L14.cell (Nat.lt_of_lt_of_le SX.out hz)).trans h3, h4.out.trans (L14.mono hz)⟩
  clear hK K hHeld
  have hHeld := hHeld2
  clear hHeld2
  try simp only [Act.put, List.setIfInBounds_toArray, List.set_cons_zero, List.set_cons_succ]
  refine wpAnyH_ready (rs := [16]) (by kernel_rfl) (by simp) ?_
  refine AllReadyH.cons (o := ⟨_, _, _, _, _, _⟩) rfl (fun K hK => ?_) AllReadyH.nil
  go_simp
  go_at_call 15; refine (CR2.out _ hHeld.2.2.2.out).mono ?_; rintro e x16 ⟨rfl, L16⟩; (try go_wp2_with fail)
  refine hK.out _ _ ?_ (fun hHeld2 => ?_)
  · obtain ⟨h1, h2, h3, h4⟩ := hHeld; have hz := h4.out.size; exact ⟨(L16.cell (Nat.lt_of_lt_of_le SX.out hz)).trans h1, (L16.cell (Nat.lt_of_lt_of_le SX.out hz)).trans h2, (L16.cell (Nat.lt_of_lt_of_le SX.out hz)).trans h3, h4.out.trans (L16.mono hz)⟩
  clear hK K hHeld
  have hHeld := hHeld2
  clear hHeld2
  try simp only [Act.put, List.setIfInBounds_toArray, List.set_cons_zero, List.set_cons_succ]
  refine wpAnyH_take (oi := ⟨_, _, _, _, _, _⟩) (i := 17) (v := ?_) rfl (by kernel_rfl) (by kernel_rfl) (by kernel_rfl) (fun _ _ _ h => h) (Or.inl ⟨by rfl, ?yw17⟩) (by assumption) ?rw17
  case yw17 => (intro w hSw; (try dsimp only at hSw); go_simp; (try with_reducible rfl))
  try simp only [Act.put, List.setIfInBounds_toArray, List.set_cons_zero, List.set_cons_succ]
  refine wpAnyH_take (oi := ⟨_, _, _, _, _, _⟩) (i := 18) (v := ?_) rfl (by kernel_rfl) (by kernel_rfl) (by kernel_rfl) (fun _ _ _ h => h) (Or.inl ⟨by rfl, ?yw18⟩) (by assumption) ?rw18
  case yw18 => (intro w hSw; (try dsimp only at hSw); go_simp; (try with_reducible rfl))
  try simp only [Act.put, List.setIfInBounds_toArray, List.set_cons_zero, List.set_cons_succ]
  refine wpAnyH_take (oi := ⟨_, _, _, _, _, _⟩) (i := 19) (v := ?_) rfl (by kernel_rfl) (by kernel_rfl) (by kernel_rfl) (fun _ _ _ h => h) (Or.inl ⟨by rfl, ?yw19⟩) (by assumption) ?rw19
  case yw19 => (intro w hSw; (try dsimp only at hSw); go_simp; (try with_reducible rfl))
  try simp only [Act.put, List.setIfInBounds_toArray, List.set_cons_zero, List.set_cons_succ]
  refine wpAnyH_ready (rs := [20]) (by kernel_rfl) (by simp) ?_
  refine AllReadyH.cons (o := ⟨_, _, _, _, _, _⟩) rfl (fun K hK => ?_) AllReadyH.nil
  go_simp
  go_at_call 8; refine (alive_any _).mono ?_; rintro e x20 ⟨rfl, L20⟩; (try go_wp2_with fail)
  refine hK.out _ _ ?_ (fun hHeld2 => ?_)
  · obtain ⟨h1, h2, h3, h4⟩ := hHeld; have hz := h4.out.size; exact ⟨(L20.cell (Nat.lt_of_lt_of_le SX.out hz)).trans h1, (L20.cell (Nat.lt_of_lt_of_le SX.out hz)).trans h2, (L20.cell (Nat.lt_of_lt_of_le SX.out hz)).trans h3, h4.out.trans (L20.mono hz)⟩
  clear hK K hHeld
  have hHeld := hHeld2
  clear hHeld2
  try simp only [Act.put, List.setIfInBounds_toArray, List.set_cons_zero, List.set_cons_succ]
  refine wpAnyH_take (oi := ⟨_, _, _, _, _, _⟩) (i := 21) (v := ?_) rfl (by kernel_rfl) (by kernel_rfl) (by kernel_rfl) (fun _ _ _ h => h) (Or.inl ⟨by rfl, ?yw21⟩) (by assumption) ?rw21
  case yw21 => (intro w hSw; (try dsimp only at hSw); go_simp; (try with_reducible rfl))
  try simp only [Act.put, List.setIfInBounds_toArray, List.set_cons_zero, List.set_cons_succ]
  refine wpAnyH_take (oi := ⟨_, _, _, _, _, _⟩) (i := 22) (v := ?_) rfl (by kernel_rfl) (by kernel_rfl) (by kernel_rfl) (fun _ _ _ h => h) (Or.inl ⟨by rfl, ?yw22⟩) (by assumption) ?rw22
  case yw22 => (intro w hSw; (try dsimp only at hSw); go_simp; (try with_reducible rfl))
  try simp only [Act.put, List.setIfInBounds_toArray, List.set_cons_zero, List.set_cons_succ]
  refine wpAnyH_done (by kernel_rfl) ?_ _
  have BF := Lib.hid (BW.out.trans (hHeld.2.2.2.out.mono BW.out.size))
  clear hHeld
  go_wp2
  go_ret
  exact ⟨rfl, BF.out⟩
set_option maxHeartbeats 16000000 in
set_option maxRecDepth 1000000 in
theorem kinds_law (n : NetV) (w : World) (hn : NetW w n) :
    Calls Tryz.prog 4 #[(.agg #[.string n.nm, .slice n.PA n.ps.length n.pc, .slice n.TA n.ts.length n.tc])] w fun e w' => e = .returned (.bool true) ∧ Below w.heap.size w w' := by
  have B0 : Hid (Below w.heap.size w (w.alloc (.cells #[.string n.nm, .slice n.PA n.ps.length n.pc, .slice n.TA n.ts.length n.tc] 25))) := (Below.refl _ _).alloc (Nat.le_refl _) _
  cases hs : smallN n
  · have SM := Lib.hid (fun W (hW : Below w.heap.size w W) => small_no n W (hn.below hW (Nat.le_refl _)) hs)
    go_enter Tryz.func4, Tryz.ntmps4
    go_wp2_with fail
    refine (SM.out _ B0.out).mono ?_
    rintro e w1 ⟨rfl, K⟩
    have B1 : Below w.heap.size w w1 := B0.out.trans (K.mono B0.out.size)
    have BX := Lib.hid (B1.alloc B1.size (.cells #[.string ⟨#[]⟩, .slice none 0 0, .slice none 0 0] 25))
    clear B1 K
    go_wp2_with fail
    refine (alive_any _).mono ?_
    rintro e w2 ⟨rfl, K⟩
    have B2 := Lib.hid (BX.out.trans (K.mono BX.out.size))
    clear K
    go_wp2
    go_ret
    exact ⟨rfl, B2.out⟩
  have hR := Lib.hid (small_ok hn hs)
  have SM := Lib.hid (fun W (hW : Below w.heap.size w W) => small_yes n W (hn.below hW (Nat.le_refl _)) hs)
  clear hs
  go_enter Tryz.func4, Tryz.ntmps4
  go_wp2_with fail
  refine (SM.out _ B0.out).mono ?_
  rintro e w1 ⟨rfl, K⟩
  have B1 : Below w.heap.size w w1 := B0.out.trans (K.mono B0.out.size)
  go_upto_region 10 with fail
  obtain ⟨w2, hw2⟩ : ∃ w2, w2 = w1.alloc (.cells #[.string n.nm, .slice n.PA n.ps.length n.pc, .slice n.TA n.ts.length n.tc] 25) := ⟨_, rfl⟩
  have BW : Hid (Below w.heap.size w w2) := by rw [hw2]; exact B1.alloc B1.size _
  have Q0 : Hid (w2.cell? ⟨w1.heap.size, 0, none⟩ = some (.string n.nm)) := by show _ = _; rw [hw2]; simp
  have Q1 : Hid (w2.cell? ⟨w1.heap.size, 1, none⟩ = some (.slice n.PA n.ps.length n.pc)) := by show _ = _; rw [hw2]; simp
  have Q2 : Hid (w2.cell? ⟨w1.heap.size, 2, none⟩ = some (.slice n.TA n.ts.length n.tc)) := by show _ = _; rw [hw2]; simp
  have SX : Hid (w1.heap.size < w2.heap.size) := by show _ < _; rw [hw2, World.size_alloc]; omega
  have CN : Hid (∀ W, Below w2.heap.size w2 W → NetR W n) := fun W hW => (hR.out.below BW.out (Nat.le_refl _)).below hW (Nat.le_refl _)
  have CP0 : Hid (∀ W, Below w2.heap.size w2 W → Calls Tryz.prog 16 #[(.agg #[.string n.nm, .slice n.PA n.ps.length n.pc, .slice n.TA n.ts.length n.tc])] W (VPost W.heap.size W (.bool (smN n)))) := fun W hW => smN_any n W (CN.out W hW)
  have CR0 : Hid (∀ W, Below w2.heap.size w2 W → Calls Tryz.prog 17 #[(.agg #[.string n.nm, .slice n.PA n.ps.length n.pc, .slice n.TA n.ts.length n.tc])] W (VPost W.heap.size W (.bool (smN n)))) := fun W hW => by rw [smN_eq]; exact rsm_any n W (CN.out W hW)
  have CP1 : Hid (∀ W, Below w2.heap.size w2 W → Calls Tryz.prog 18 #[(.agg #[.string n.nm, .slice n.PA n.ps.length n.pc, .slice n.TA n.ts.length n.tc])] W (VPost W.heap.size W (.bool (mgN n)))) := fun W hW => mgN_any n W (CN.out W hW)
  have CR1 : Hid (∀ W, Below w2.heap.size w2 W → Calls Tryz.prog 19 #[(.agg #[.string n.nm, .slice n.PA n.ps.length n.pc, .slice n.TA n.ts.length n.tc])] W (VPost W.heap.size W (.bool (mgN n)))) := fun W hW => by rw [mgN_eq]; exact rmg_any n W (CN.out W hW)
  have CP2 : Hid (∀ W, Below w2.heap.size w2 W → Calls Tryz.prog 20 #[(.agg #[.string n.nm, .slice n.PA n.ps.length n.pc, .slice n.TA n.ts.length n.tc])] W (VPost W.heap.size W (.bool (fcN n)))) := fun W hW => fcN_any n W (CN.out W hW)
  have CR2 : Hid (∀ W, Below w2.heap.size w2 W → Calls Tryz.prog 21 #[(.agg #[.string n.nm, .slice n.PA n.ps.length n.pc, .slice n.TA n.ts.length n.tc])] W (VPost W.heap.size W (.bool (fcN n)))) := fun W hW => by rw [fcN_eq]; exact rfc_any n W (CN.out W hW)
  have CP3 : Hid (∀ W, Below w2.heap.size w2 W → Calls Tryz.prog 22 #[(.agg #[.string n.nm, .slice n.PA n.ps.length n.pc, .slice n.TA n.ts.length n.tc])] W (VPost W.heap.size W (.bool (asN n)))) := fun W hW => asN_any n W (CN.out W hW)
  have CR3 : Hid (∀ W, Below w2.heap.size w2 W → Calls Tryz.prog 23 #[(.agg #[.string n.nm, .slice n.PA n.ps.length n.pc, .slice n.TA n.ts.length n.tc])] W (VPost W.heap.size W (.bool (asN n)))) := fun W hW => by rw [asN_eq]; exact ras_any n W (CN.out W hW)
  have CP4 : Hid (∀ W, Below w2.heap.size w2 W → Calls Tryz.prog 24 #[(.agg #[.string n.nm, .slice n.PA n.ps.length n.pc, .slice n.TA n.ts.length n.tc])] W (VPost W.heap.size W (.bool (puN n)))) := fun W hW => puN_any n W (CN.out W hW)
  have CR4 : Hid (∀ W, Below w2.heap.size w2 W → Calls Tryz.prog 25 #[(.agg #[.string n.nm, .slice n.PA n.ps.length n.pc, .slice n.TA n.ts.length n.tc])] W (VPost W.heap.size W (.bool (puN n)))) := fun W hW => by rw [puN_eq]; exact rpu_any n W (CN.out W hW)
  generalize smN n = z0 at *
  generalize mgN n = z1 at *
  generalize fcN n = z2 at *
  generalize asN n = z3 at *
  generalize puN n = z4 at *
  rw [← hw2]
  clear hw2 B1 K hR SM B0
  generalize w1.heap.size = x at *
  refine wp_region_held_drew (S := fun w' => w'.cell? ⟨x, 0, none⟩ = some (.string n.nm) ∧ w'.cell? ⟨x, 1, none⟩ = some (.slice n.PA n.ps.length n.pc) ∧ w'.cell? ⟨x, 2, none⟩ = some (.slice n.TA n.ts.length n.tc) ∧ Hid (Below w2.heap.size w2 w')) (by kernel_rfl) ?_ (fun hHeld => ?_)
  · exact ⟨Q0.out, Q1.out, Q2.out, (Below.refl _ _).drew⟩
  refine wpAnyH_take (oi := ⟨_, _, _, _, _, _⟩) (i := 0) (v := ?_) rfl (by kernel_rfl) (by kernel_rfl) (by kernel_rfl) (fun _ _ _ h => h) (Or.inl ⟨by rfl, ?yw0⟩) (by assumption) ?rw0
  case yw0 => (intro w hSw; (try dsimp only at hSw); go_simp; (try with_reducible rfl))
  try simp only [Act.put, List.setIfInBounds_toArray, List.set_cons_zero, List.set_cons_succ]
  refine wpAnyH_take (oi := ⟨_, _, _, _, _, _⟩) (i := 2) (v := ?_) rfl (by kernel_rfl) (by kernel_rfl) (by kernel_rfl) (fun _ _ _ h => h) (Or.inl ⟨by rfl, ?yw2⟩) (by assumption) ?rw2
  case yw2 => (intro w hSw; (try dsimp only at hSw); go_simp; (try with_reducible rfl))
  try simp only [Act.put, List.setIfInBounds_toArray, List.set_cons_zero, List.set_cons_succ]
  refine wpAnyH_ready (rs := [1]) (by kernel_rfl) (by simp) ?_
  refine AllReadyH.cons (o := ⟨_, _, _, _, _, _⟩) rfl (fun K hK => ?_) AllReadyH.nil
  go_simp
  go_at_call 16; refine (CP0.out _ hHeld.2.2.2.out).mono ?_; rintro e x1 ⟨rfl, L1⟩; (try go_wp2_with fail)
  refine hK.out _ _ ?_ (fun hHeld2 => ?_)
  · obtain ⟨h1, h2, h3, h4⟩ := hHeld; have hz := h4.out.size; exact ⟨(L1.cell (Nat.lt_of_lt_of_le SX.out hz)).trans h1, (L1.cell (Nat.lt_of_lt_of_le SX.out hz)).trans h2, (L1.cell (Nat.lt_of_lt_of_le SX.out hz)).trans h3, h4.out.trans (L1.mono hz)⟩
  clear hK K hHeld
  have hHeld := hHeld2
  clear hHeld2
  try simp only [Act.put, List.setIfInBounds_toArray, List.set_cons_zero, List.set_cons_succ]
  refine wpAnyH_ready (rs := [3]) (by kernel_rfl) (by simp) ?_
  refine AllReadyH.cons (o := ⟨_, _, _, _, _, _⟩) rfl (fun K hK => ?_) AllReadyH.nil
  go_simp
  go_at_call 17; refine (CR0.out _ hHeld.2.2.2.out).mono ?_; rintro e x3 ⟨rfl, L3⟩; (try go_wp2_with fail)
  refine hK.out _ _ ?_ (fun hHeld2 => ?_)
  · obtain ⟨h1, h2, h3, h4⟩ := hHeld; have hz := h4.out.size; exact ⟨(L3.cell (Nat.lt_of_lt_of_le SX.out hz)).trans h1, (L3.cell (Nat.lt_of_lt_of_le SX.out hz)).trans h2, (L3.cell (Nat.lt_of_lt_of_le SX.out hz)).trans h3, h4.out.trans (L3.mono hz)⟩
  clear hK K hHeld
  have hHeld := hHeld2
  clear hHeld2
  try simp only [Act.put, List.setIfInBounds_toArray, List.set_cons_zero, List.set_cons_succ]
  refine wpAnyH_take (oi := ⟨_, _, _, _, _, _⟩) (i := 4) (v := ?_) rfl (by kernel_rfl) (by kernel_rfl) (by kernel_rfl) (fun _ _ _ h => h) (Or.inl ⟨by rfl, ?yw4⟩) (by assumption) ?rw4
  case yw4 => (intro w hSw; (try dsimp only at hSw); go_simp; (try with_reducible rfl))
  try simp only [Act.put, List.setIfInBounds_toArray, List.set_cons_zero, List.set_cons_succ]
  refine wpAnyH_take (oi := ⟨_, _, _, _, _, _⟩) (i := 5) (v := ?_) rfl (by kernel_rfl) (by kernel_rfl) (by kernel_rfl) (fun _ _ _ h => h) (Or.inl ⟨by rfl, ?yw5⟩) (by assumption) ?rw5
  case yw5 => (intro w hSw; (try dsimp only at hSw); go_simp; (try with_reducible rfl))
  try simp only [Act.put, List.setIfInBounds_toArray, List.set_cons_zero, List.set_cons_succ]
  refine wpAnyH_take (oi := ⟨_, _, _, _, _, _⟩) (i := 6) (v := ?_) rfl (by kernel_rfl) (by kernel_rfl) (by kernel_rfl) (fun _ _ _ h => h) (Or.inl ⟨by rfl, ?yw6⟩) (by assumption) ?rw6
  case yw6 => (intro w hSw; (try dsimp only at hSw); go_simp; (try with_reducible rfl))
  try simp only [Act.put, List.setIfInBounds_toArray, List.set_cons_zero, List.set_cons_succ]
  refine wpAnyH_take (oi := ⟨_, _, _, _, _, _⟩) (i := 8) (v := ?_) rfl (by kernel_rfl) (by kernel_rfl) (by kernel_rfl) (fun _ _ _ h => h) (Or.inl ⟨by rfl, ?yw8⟩) (by assumption) ?rw8
  case yw8 => (intro w hSw; (try dsimp only at hSw); go_simp; (try with_reducible rfl))
  try simp only [Act.put, List.setIfInBounds_toArray, List.set_cons_zero, List.set_cons_succ]
  refine wpAnyH_ready (rs := [7]) (by kernel_rfl) (by simp) ?_
  refine AllReadyH.cons (o := ⟨_, _, _, _, _, _⟩) rfl (fun K hK => ?_) AllReadyH.nil
  go_simp
  go_at_call 18; refine (CP1.out _ hHeld.2.2.2.out).mono ?_; rintro e x7 ⟨rfl, L7⟩; (try go_wp2_with fail)
  refine hK.out _ _ ?_ (fun hHeld2 => ?_)
  · obtain ⟨h1, h2, h3, h4⟩ := hHeld; have hz := h4.out.size; exact ⟨(L7.cell (Nat.lt_of_lt_of_le SX.out hz)).trans h1, (L7.cell (Nat.lt_of_lt_of_le SX.out hz)).trans h2, (L7.cell (Nat.lt_of_lt_of_le SX.out hz)).trans h3, h4.out.trans (L7.mono hz)⟩
  clear hK K hHeld
  have hHeld := hHeld2
  clear hHeld2
  try simp only [Act.put, List.setIfInBounds_toArray, List.set_cons_zero, List.set_cons_succ]
  refine wpAnyH_ready (rs := [9]) (by kernel_rfl) (by simp) ?_
  refine AllReadyH.cons (o := ⟨_, _, _, _, _, _⟩) rfl (fun K hK => ?_) AllReadyH.nil
  go_simp
  go_at_call 19; refine (CR1.out _ hHeld.2.2.2.out).mono ?_; rintro e x9 ⟨rfl, L9⟩; (try go_wp2_with fail)
  refine hK.out _ _ ?_ (fun hHeld2 => ?_)
  · obtain ⟨h1, h2, h3, h4⟩ := hHeld; have hz := h4.out.size; exact ⟨(L9.cell (Nat.lt_of_lt_of_le SX.out hz)).trans h1, (L9.cell (Nat.lt_of_lt_of_le SX.out hz)).trans h2, (L9.cell (Nat.lt_of_lt_of_le SX.out hz)).trans h3, h4.out.trans (L9.mono hz)⟩
  clear hK K hHeld
  have hHeld := hHeld2
  clear hHeld2
  try simp only [Act.put, List.setIfInBounds_toArray, List.set_cons_zero, List.set_cons_succ]
  refine wpAnyH_take (oi := ⟨_, _, _, _, _, _⟩) (i := 10) (v := ?_) rfl (by kernel_rfl) (by kernel_rfl) (by kernel_rfl) (fun _ _ _ h => h) (Or.inl ⟨by rfl, ?yw10⟩) (by assumption) ?rw10
  case yw10 => (intro w hSw; (try dsimp only at hSw); go_simp; (try with_reducible rfl))
  try simp only [Act.put, List.setIfInBounds_toArray, List.set_cons_zero, List.set_cons_succ]
  refine wpAnyH_take (oi := ⟨_, _, _, _, _, _⟩) (i := 11) (v := ?_) rfl (by kernel_rfl) (by kernel_rfl) (by kernel_rfl) (fun _ _ _ h => h) (Or.inl ⟨by rfl, ?yw11⟩) (by assumption) ?rw11
  case yw11 => (intro w hSw; (try dsimp only at hSw); go_simp; (try with_reducible rfl))
  try simp only [Act.put, List.setIfInBounds_toArray, List.set_cons_zero, List.set_cons_succ]
  refine wpAnyH_take (oi := ⟨_, _, _, _, _, _⟩) (i := 12) (v := ?_) rfl (by kernel_rfl) (by kernel_rfl) (by kernel_rfl) (fun _ _ _ h => h) (Or.inl ⟨by rfl, ?yw12⟩) (by assumption) ?rw12
  case yw12 => (intro w hSw; (try dsimp only at hSw); go_simp; (try with_reducible rfl))
  try simp only [Act.put, List.setIfInBounds_toArray, List.set_cons_zero, List.set_cons_succ]
  refine wpAnyH_take (oi := ⟨_, _, _, _, _, _⟩) (i := 13) (v := ?_) rfl (by kernel_rfl) (by kernel_rfl) (by kernel_rfl) (fun _ _ _ h => h) (Or.inl ⟨by rfl, ?yw13⟩) (by assumption) ?rw13
  case yw13 => (intro w hSw; (try dsimp only at hSw); go_simp; (try with_reducible rfl))
  try simp only [Act.put, List.setIfInBounds_toArray, List.set_cons_zero, List.set_cons_succ]
  refine wpAnyH_take (oi := ⟨_, _, _, _, _, _⟩) (i := 15) (v := ?_) rfl (by kernel_rfl) (by kernel_rfl) (by kernel_rfl) (fun _ _ _ h => h) (Or.inl ⟨by rfl, ?yw15⟩) (by assumption) ?rw15
  case yw15 => (intro w hSw; (try dsimp only at hSw); go_simp; (try with_reducible rfl))
  try simp only [Act.put, List.setIfInBounds_toArray, List.set_cons_zero, List.set_cons_succ]
  refine wpAnyH_ready (rs := [14]) (by kernel_rfl) (by simp) ?_
  refine AllReadyH.cons (o := ⟨_, _, _, _, _, _⟩) rfl (fun K hK => ?_) AllReadyH.nil
  go_simp
  go_at_call 20; refine (CP2.out _ hHeld.2.2.2.out).mono ?_; rintro e x14 ⟨rfl, L14⟩; (try go_wp2_with fail)
  refine hK.out _ _ ?_ (fun hHeld2 => ?_)
  · obtain ⟨h1, h2, h3, h4⟩ := hHeld; have hz := h4.out.size; exact ⟨(L14.cell (Nat.lt_of_lt_of_le SX.out hz)).trans h1, (L14.cell (Nat.lt_of_lt_of_le SX.out hz)).trans h2, (L14.cell (Nat.lt_of_lt_of_le SX.out hz)).trans h3, h4.out.trans (L14.mono hz)⟩
  clear hK K hHeld
  have hHeld := hHeld2
  clear hHeld2
  try simp only [Act.put, List.setIfInBounds_toArray, List.set_cons_zero, List.set_cons_succ]
  refine wpAnyH_ready (rs := [16]) (by kernel_rfl) (by simp) ?_
  refine AllReadyH.cons (o := ⟨_, _, _, _, _, _⟩) rfl (fun K hK => ?_) AllReadyH.nil
  go_simp
  go_at_call 21; refine (CR2.out _ hHeld.2.2.2.out).mono ?_; rintro e x16 ⟨rfl, L16⟩; (try go_wp2_with fail)
  refine hK.out _ _ ?_ (fun hHeld2 => ?_)
  · obtain ⟨h1, h2, h3, h4⟩ := hHeld; have hz := h4.out.size; exact ⟨(L16.cell (Nat.lt_of_lt_of_le SX.out hz)).trans h1, (L16.cell (Nat.lt_of_lt_of_le SX.out hz)).trans h2, (L16.cell (Nat.lt_of_lt_of_le SX.out hz)).trans h3, h4.out.trans (L16.mono hz)⟩
  clear hK K hHeld
  have hHeld := hHeld2
  clear hHeld2
  try simp only [Act.put, List.setIfInBounds_toArray, List.set_cons_zero, List.set_cons_succ]
  refine wpAnyH_take (oi := ⟨_, _, _, _, _, _⟩) (i := 17) (v := ?_) rfl (by kernel_rfl) (by kernel_rfl) (by kernel_rfl) (fun _ _ _ h => h) (Or.inl ⟨by rfl, ?yw17⟩) (by assumption) ?rw17
  case yw17 => (intro w hSw; (try dsimp only at hSw); go_simp; (try with_reducible rfl))
  try simp only [Act.put, List.setIfInBounds_toArray, List.set_cons_zero, List.set_cons_succ]
  refine wpAnyH_take (oi := ⟨_, _, _, _, _, _⟩) (i := 18) (v := ?_) rfl (by kernel_rfl) (by kernel_rfl) (by kernel_rfl) (fun _ _ _ h => h) (Or.inl ⟨by rfl, ?yw18⟩) (by assumption) ?rw18
  case yw18 => (intro w hSw; (try dsimp only at hSw); go_simp; (try with_reducible rfl))
  try simp only [Act.put, List.setIfInBounds_toArray, List.set_cons_zero, List.set_cons_succ]
  refine wpAnyH_take (oi := ⟨_, _, _, _, _, _⟩) (i := 19) (v := ?_) rfl (by kernel_rfl) (by kernel_rfl) (by kernel_rfl) (fun _ _ _ h => h) (Or.inl ⟨by rfl, ?yw19⟩) (by assumption) ?rw19
  case yw19 => (intro w hSw; (try dsimp only at hSw); go_simp; (try with_reducible rfl))
  try simp only [Act.put, List.setIfInBounds_toArray, List.set_cons_zero, List.set_cons_succ]
  refine wpAnyH_take (oi := ⟨_, _, _, _, _, _⟩) (i := 20) (v := ?_) rfl (by kernel_rfl) (by kernel_rfl) (by kernel_rfl) (fun _ _ _ h => h) (Or.inl ⟨by rfl, ?yw20⟩) (by assumption) ?rw20
  case yw20 => (intro w hSw; (try dsimp only at hSw); go_simp; (try with_reducible rfl))
  try simp only [Act.put, List.setIfInBounds_toArray, List.set_cons_zero, List.set_cons_succ]
  refine wpAnyH_take (oi := ⟨_, _, _, _, _, _⟩) (i := 22) (v := ?_) rfl (by kernel_rfl) (by kernel_rfl) (by kernel_rfl) (fun _ _ _ h => h) (Or.inl ⟨by rfl, ?yw22⟩) (by assumption) ?rw22
  case yw22 => (intro w hSw; (try dsimp only at hSw); go_simp; (try with_reducible rfl))
  try simp only [Act.put, List.setIfInBounds_toArray, List.set_cons_zero, List.set_cons_succ]
  refine wpAnyH_ready (rs := [21]) (by kernel_rfl) (by simp) ?_
  refine AllReadyH.cons (o := ⟨_, _, _, _, _, _⟩) rfl (fun K hK => ?_) AllReadyH.nil
  go_simp
  go_at_call 22; refine (CP3.out _ hHeld.2.2.2.out).mono ?_; rintro e x21 ⟨rfl, L21⟩; (try go_wp2_with fail)
  refine hK.out _ _ ?_ (fun hHeld2 => ?_)
  · obtain ⟨h1, h2, h3, h4⟩ := hHeld; have hz := h4.out.size; exact ⟨(L21.cell (Nat.lt_of_lt_of_le SX.out hz)).trans h1, (L21.cell (Nat.lt_of_lt_of_le SX.out hz)).trans h2, (L21.cell (Nat.lt_of_lt_of_le SX.out hz)).trans h3, h4.out.trans (L21.mono hz)⟩
  clear hK K hHeld
  have hHeld := hHeld2
  clear hHeld2
  try simp only [Act.put, List.setIfInBounds_toArray, List.set_cons_zero, List.set_cons_succ]
  refine wpAnyH_ready (rs := [23]) (by kernel_rfl) (by simp) ?_
  refine AllReadyH.cons (o := ⟨_, _, _, _, _, _⟩) rfl (fun K hK => ?_) AllReadyH.nil
  go_simp
  go_at_call 23; refine (CR3.out _ hHeld.2.2.2.out).mono ?_; rintro e x23 ⟨rfl, L23⟩; (try go_wp2_with fail)
  refine hK.out _ _ ?_ (fun hHeld2 => ?_)
  · obtain ⟨h1, h2, h3, h4⟩ := hHeld; have hz := h4.out.size; exact ⟨(L23.cell (Nat.lt_of_lt_of_le SX.out hz)).trans h1, (L23.cell (Nat.lt_of_lt_of_le SX.out hz)).trans h2, (L23.cell (Nat.lt_of_lt_of_le SX.out hz)).trans h3, h4.out.trans (L23.mono hz)⟩
  clear hK K hHeld
  have hHeld := hHeld2
  clear hHeld2
  try simp only [Act.put, List.setIfInBounds_toArray, List.set_cons_zero, List.set_cons_succ]
  refine wpAnyH_take (oi := ⟨_, _, _, _, _, _⟩) (i := 24) (v := ?_) rfl (by kernel_rfl) (by kernel_rfl) (by kernel_rfl) (fun _ _ _ h => h) (Or.inl ⟨by rfl, ?yw24⟩) (by assumption) ?rw24
  case yw24 => (intro w hSw; (try dsimp only at hSw); go_simp; (try with_reducible rfl))
  try simp only [Act.put, List.setIfInBounds_toArray, List.set_cons_zero, List.set_cons_succ]
  refine wpAnyH_take (oi := ⟨_, _, _, _, _, _⟩) (i := 25) (v := ?_) rfl (by kernel_rfl) (by kernel_rfl) (by kernel_rfl) (fun _ _ _ h => h) (Or.inl ⟨by rfl, ?yw25⟩) (by assumption) ?rw25
  case yw25 => (intro w hSw; (try dsimp only at hSw); go_simp; (try with_reducible rfl))
  try simp only [Act.put, List.setIfInBounds_toArray, List.set_cons_zero, List.set_cons_succ]
  refine wpAnyH_take (oi := ⟨_, _, _, _, _, _⟩) (i := 26) (v := ?_) rfl (by kernel_rfl) (by kernel_rfl) (by kernel_rfl) (fun _ _ _ h => h) (Or.inl ⟨by rfl, ?yw26⟩) (by assumption) ?rw26
  case yw26 => (intro w hSw; (try dsimp only at hSw); go_simp; (try with_reducible rfl))
  try simp only [Act.put, List.setIfInBounds_toArray, List.set_cons_zero, List.set_cons_succ]
  refine wpAnyH_take (oi := ⟨_, _, _, _, _, _⟩) (i := 27) (v := ?_) rfl (by kernel_rfl) (by kernel_rfl) (by kernel_rfl) (fun _ _ _ h => h) (Or.inl ⟨by rfl, ?yw27⟩) (by assumption) ?rw27
  case yw27 => (intro w hSw; (try dsimp only at hSw); go_simp; (try with_reducible rfl))
  try simp only [Act.put, List.setIfInBounds_toArray, List.set_cons_zero, List.set_cons_succ]
  refine wpAnyH_take (oi := ⟨_, _, _, _, _, _⟩) (i := 29) (v := ?_) rfl (by kernel_rfl) (by kernel_rfl) (by kernel_rfl) (fun _ _ _ h => h) (Or.inl ⟨by rfl, ?yw29⟩) (by assumption) ?rw29
  case yw29 => (intro w hSw; (try dsimp only at hSw); go_simp; (try with_reducible rfl))
  try simp only [Act.put, List.setIfInBounds_toArray, List.set_cons_zero, List.set_cons_succ]
  refine wpAnyH_ready (rs := [28]) (by kernel_rfl) (by simp) ?_
  refine AllReadyH.cons (o := ⟨_, _, _, _, _, _⟩) rfl (fun K hK => ?_) AllReadyH.nil
  go_simp
  go_at_call 24; refine (CP4.out _ hHeld.2.2.2.out).mono ?_; rintro e x28 ⟨rfl, L28⟩; (try go_wp2_with fail)
  refine hK.out _ _ ?_ (fun hHeld2 => ?_)
  · obtain ⟨h1, h2, h3, h4⟩ := hHeld; have hz := h4.out.size; exact ⟨(L28.cell (Nat.lt_of_lt_of_le SX.out hz)).trans h1, (L28.cell (Nat.lt_of_lt_of_le SX.out hz)).trans h2, (L28.cell (Nat.lt_of_lt_of_le SX.out hz)).trans h3, h4.out.trans (L28.mono hz)⟩
  clear hK K hHeld
  have hHeld := hHeld2
  clear hHeld2
  try simp only [Act.put, List.setIfInBounds_toArray, List.set_cons_zero, List.set_cons_succ]
  refine wpAnyH_ready (rs := [30]) (by kernel_rfl) (by simp) ?_
  refine AllReadyH.cons (o := ⟨_, _, _, _, _, _⟩) rfl (fun K hK => ?_) AllReadyH.nil
  go_simp
  go_at_call 25; refine (CR4.out _ hHeld.2.2.2.out).mono ?_; rintro e x30 ⟨rfl, L30⟩; (try go_wp2_with fail)
  refine hK.out _ _ ?_ (fun hHeld2 => ?_)
  · obtain ⟨h1, h2, h3, h4⟩ := hHeld; have hz := h4.out.size; exact ⟨(L30.cell (Nat.lt_of_lt_of_le SX.out hz)).trans h1, (L30.cell (Nat.lt_of_lt_of_le SX.out hz)).trans h2, (L30.cell (Nat.lt_of_lt_of_le SX.out hz)).trans h3, h4.out.trans (L30.mono hz)⟩
  clear hK K hHeld
  have hHeld := hHeld2
  clear hHeld2
  try simp only [Act.put, List.setIfInBounds_toArray, List.set_cons_zero, List.set_cons_succ]
  refine wpAnyH_take (oi := ⟨_, _, _, _, _, _⟩) (i := 31) (v := ?_) rfl (by kernel_rfl) (by kernel_rfl) (by kernel_rfl) (fun _ _ _ h => h) (Or.inl ⟨by rfl, ?yw31⟩) (by assumption) ?rw31
  case yw31 => (intro w hSw; (try dsimp only at hSw); go_simp; (try with_reducible rfl))
  try simp only [Act.put, List.setIfInBounds_toArray, List.set_cons_zero, List.set_cons_succ]
  refine wpAnyH_take (oi := ⟨_, _, _, _, _, _⟩) (i := 32) (v := ?_) rfl (by kernel_rfl) (by kernel_rfl) (by kernel_rfl) (fun _ _ _ h => h) (Or.inl ⟨by rfl, ?yw32⟩) (by assumption) ?rw32
  case yw32 => (intro w hSw; (try dsimp only at hSw); go_simp; (try with_reducible rfl))
  try simp only [Act.put, List.setIfInBounds_toArray, List.set_cons_zero, List.set_cons_succ]
  refine wpAnyH_take (oi := ⟨_, _, _, _, _, _⟩) (i := 33) (v := ?_) rfl (by kernel_rfl) (by kernel_rfl) (by kernel_rfl) (fun _ _ _ h => h) (Or.inl ⟨by rfl, ?yw33⟩) (by assumption) ?rw33
  case yw33 => (intro w hSw; (try dsimp only at hSw); go_simp; (try with_reducible rfl))
  try simp only [Act.put, List.setIfInBounds_toArray, List.set_cons_zero, List.set_cons_succ]
  refine wpAnyH_ready (rs := [34]) (by kernel_rfl) (by simp) ?_
  refine AllReadyH.cons (o := ⟨_, _, _, _, _, _⟩) rfl (fun K hK => ?_) AllReadyH.nil
  go_simp
  go_at_call 8; refine (alive_any _).mono ?_; rintro e x34 ⟨rfl, L34⟩; (try go_wp2_with fail)
  refine hK.out _ _ ?_ (fun hHeld2 => ?_)
  · obtain ⟨h1, h2, h3, h4⟩ := hHeld; have hz := h4.out.size; exact ⟨(L34.cell (Nat.lt_of_lt_of_le SX.out hz)).trans h1, (L34.cell (Nat.lt_of_lt_of_le SX.out hz)).trans h2, (L34.cell (Nat.lt_of_lt_of_le SX.out hz)).trans h3, h4.out.trans (L34.mono hz)⟩
  clear hK K hHeld
  have hHeld := hHeld2
  clear hHeld2
  try simp only [Act.put, List.setIfInBounds_toArray, List.set_cons_zero, List.set_cons_succ]
  refine wpAnyH_take (oi := ⟨_, _, _, _, _, _⟩) (i := 35) (v := ?_) rfl (by kernel_rfl) (by kernel_rfl) (by kernel_rfl) (fun _ _ _ h => h) (Or.inl ⟨by rfl, ?yw35⟩) (by assumption) ?rw35
  case yw35 => (intro w hSw; (try dsimp only at hSw); go_simp; (try with_reducible rfl))
  try simp only [Act.put, List.setIfInBounds_toArray, List.set_cons_zero, List.set_cons_succ]
  refine wpAnyH_take (oi := ⟨_, _, _, _, _, _⟩) (i := 36) (v := ?_) rfl (by kernel_rfl) (by kernel_rfl) (by kernel_rfl) (fun _ _ _ h => h) (Or.inl ⟨by rfl, ?yw36⟩) (by assumption) ?rw36
  case yw36 => (intro w hSw; (try dsimp only at hSw); go_simp; (try with_reducible rfl))
  try simp only [Act.put, List.setIfInBounds_toArray, List.set_cons_zero, List.set_cons_succ]
  refine wpAnyH_done (by kernel_rfl) ?_ _
  have BF := Lib.hid (BW.out.trans (hHeld.2.2.2.out.mono BW.out.size))
  clear hHeld
  go_wp2
  go_ret
  exact ⟨rfl, BF.out⟩
end Go.Proofs.YtlbcdnobpnllkaaGreat
