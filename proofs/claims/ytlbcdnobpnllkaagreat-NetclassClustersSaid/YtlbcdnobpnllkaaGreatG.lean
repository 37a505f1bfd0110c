/- A transition is checked. -/
import Derived.Test.YtlbcdnobpnllkaaGreatF
import Derived.LoopN
namespace Go.Proofs.YtlbcdnobpnllkaaGreat
open Go.RowKit

set_option maxHeartbeats 2000000 in
set_option maxRecDepth 100000 in
theorem checkTrans_any (nm : ByteArray) (PA TA : Option Addr) (ps : List PlaceV) (ts : List TransV) (pc tc i : Nat) (w : World) (hrp : ReadsP w PA ps) (hr : ReadsT w TA ts) (hokp : OkP ps) (hok : OkT ts) (htc : ts.length ≤ tc) (hi : i < ts.length) :
    Calls Tryz.prog 79 #[.agg #[.string nm, .slice PA ps.length pc, .slice TA ts.length tc], .int .i64 i] w fun e w' => e = .returned (.int .i64 (transE ps.length ps ts i)) ∧ Below w.heap.size w w' := by
  obtain ⟨hl, hz⟩ := hok
  obtain ⟨hlp, hzp⟩ := hokp
  have hE : transE ps.length ps ts i = if nameB (bytesI (tA ts i).nm) = false then 5 else if 0 ≤ placeI ps ps.length (tA ts i).nm ∨ 0 ≤ transI ts i (tA ts i).nm then 6
    else if (tA ts i).prio < 0 ∨ 9 < (tA ts i).prio then 1 else orE (arcsE ps.length (tA ts i).pre.l) (orE (arcsE ps.length (tA ts i).post.l) (arcsE ps.length (tA ts i).inh.l)) := rfl
  obtain ⟨b0, off, rfl, hb0, hc0, hc1, hc2, hc3, hc4, r1, r2, r3⟩ := hr i hi
  obtain ⟨hz0, hz1, hz2, hz3⟩ := hz i
  have CN := fun W => name_any2 (tA ts i).nm W hz0
  have CP := fun W (hW : Below w.heap.size w W) => placeNamed_any PA ps pc (tA ts i).nm W (hrp.below hW (Nat.le_refl _)) (by unfold maxLen; omega)
  have CT := fun W (hW : Below w.heap.size w W) => transNamed_any (some ⟨b0, off, none⟩) (ts.take i) tc (tA ts i).nm W ((hr.below hW (Nat.le_refl _)).take i) (by rw [List.length_take]; unfold maxLen; omega)
  rw [List.length_take, Nat.min_eq_left (by omega : i ≤ ts.length), transI_take] at CT
  have CA1 := fun W (hW : Below w.heap.size w W) => checkArcs_any (tA ts i).pre.A (tA ts i).pre.l (tA ts i).pre.c ps.length W (r1.below hW (Nat.le_refl _)) (by unfold maxLen; omega)
  have CA2 := fun W (hW : Below w.heap.size w W) => checkArcs_any (tA ts i).post.A (tA ts i).post.l (tA ts i).post.c ps.length W (r2.below hW (Nat.le_refl _)) (by unfold maxLen; omega)
  have CA3 := fun W (hW : Below w.heap.size w W) => checkArcs_any (tA ts i).inh.A (tA ts i).inh.l (tA ts i).inh.c ps.length W (r3.below hW (Nat.le_refl _)) (by unfold maxLen; omega)
  clear r1 r2 r3
  generalize transE ps.length ps ts i = S at *
  generalize placeI ps ps.length (tA ts i).nm = F at *
  generalize transI ts i (tA ts i).nm = G at *
  generalize nameB (bytesI (tA ts i).nm) = nb at *
  generalize arcsE ps.length (tA ts i).pre.l = e1 at *
  generalize arcsE ps.length (tA ts i).post.l = e2 at *
  generalize arcsE ps.length (tA ts i).inh.l = e3 at *
  generalize (tA ts i).nm = tn at *
  generalize (tA ts i).prio = prio at *
  generalize (tA ts i).pre.l.length = n1 at *
  generalize (tA ts i).post.l.length = n2 at *
  generalize (tA ts i).inh.l.length = n3 at *
  generalize (tA ts i).pre.A = A1 at *
  generalize (tA ts i).post.A = A2 at *
  generalize (tA ts i).inh.A = A3 at *
  generalize (tA ts i).pre.c = q1 at *
  generalize (tA ts i).post.c = q2 at *
  generalize (tA ts i).inh.c = q3 at *
  clear hz hzp hrp hr
  have hitc : i ≤ tc := by omega
  generalize hn : ts.length = n at *
  have HN := Lib.hid hn
  clear hn
  generalize hm : ps.length = m at *
  have HM := Lib.hid hm
  clear hm
  have B0 : Hid (Below w.heap.size w (w.alloc (.cells #[.string nm, .slice PA m pc, .slice (some ⟨b0, off, none⟩) n tc] 25))) := (Below.refl _ _).alloc (Nat.le_refl _) _
  replace CN := Lib.hid CN
  replace CP := Lib.hid CP
  replace CT := Lib.hid CT
  replace CA1 := Lib.hid CA1
  replace CA2 := Lib.hid CA2
  replace CA3 := Lib.hid CA3
  cases nb
  · have E : Hid (5 = S) := by show _ = _; rw [hE]; rfl
    clear hE
    go_enter Tryz.func79, Tryz.ntmps79
    go_wp2_with fail
    refine (CN.out _).mono ?_
    rintro e w1 ⟨rfl, K⟩
    have K2 := Lib.hid (((B0.out).alloc (by simp) _).trans (K.mono (by simp; omega)))
    clear K
    go_wp2
    go_ret
    exact ⟨ret_i E.out, K2.out⟩
  · have hE2 : S = if 0 ≤ F ∨ 0 ≤ G then 6 else if prio < 0 ∨ 9 < prio then 1 else orE e1 (orE e2 e3) := hE
    clear hE
    have E6 : Hid (0 ≤ F ∨ 0 ≤ G → 6 = S) := fun h => by rw [hE2, if_pos h]
    have E1 : Hid (¬ (0 ≤ F ∨ 0 ≤ G) → (prio < 0 ∨ 9 < prio) → 1 = S) := fun h h2 => by rw [hE2, if_neg h, if_pos h2]
    have E0 : Hid (¬ (0 ≤ F ∨ 0 ≤ G) → ¬ (prio < 0 ∨ 9 < prio) → orE e1 (orE e2 e3) = S) := fun h h2 => by rw [hE2, if_neg h, if_neg h2]
    clear hE2
    go_enter Tryz.func79, Tryz.ntmps79
    go_wp2_with fail
    refine (CN.out _).mono ?_
    rintro e w1 ⟨rfl, K⟩
    have c1 : w1.cell? ⟨w.heap.size, 1, none⟩ = some (.slice PA m pc) := by rw [K.cell (by simp; omega)]; simp
    have c2 : w1.cell? ⟨w.heap.size, 2, none⟩ = some (.slice (some ⟨b0, off, none⟩) n tc) := by rw [K.cell (by simp; omega)]; simp
    have p0 : w1.cell? ⟨w.heap.size + 1, 0, none⟩ = some (.string tn) := by rw [K.cell (by simp)]; simp
    have p1 : w1.cell? ⟨w.heap.size + 1, 1, none⟩ = some (.slice A1 n1 q1) := by rw [K.cell (by simp)]; simp
    have p2 : w1.cell? ⟨w.heap.size + 1, 2, none⟩ = some (.slice A2 n2 q2) := by rw [K.cell (by simp)]; simp
    have p3 : w1.cell? ⟨w.heap.size + 1, 3, none⟩ = some (.slice A3 n3 q3) := by rw [K.cell (by simp)]; simp
    have p4 : w1.cell? ⟨w.heap.size + 1, 4, none⟩ = some (.int .i64 prio) := by rw [K.cell (by simp)]; simp
    have sz : w.heap.size + 2 ≤ w1.heap.size := by have := K.size; simp at this; omega
    have K2 := Lib.hid (((B0.out).alloc (by simp) _).trans (K.mono (by simp; omega)))
    clear K
    have lw1 : w.heap.size < w1.heap.size := by omega
    have lw2 : w.heap.size + 1 < w1.heap.size := by omega
    by_cases hF : 0 ≤ F
    · have hFb : decide (0 ≤ F) = true := by simpa using hF
      have E := Lib.hid (E6.out (.inl hF))
      go_wp2_with fail
      refine wp_region_held_drew (S := fun w' => w'.cell? ⟨w.heap.size, 1, none⟩ = some (.slice PA m pc) ∧ w'.cell? ⟨w.heap.size, 2, none⟩ = some (.slice (some ⟨b0, off, none⟩) n tc) ∧ w'.cell? ⟨w.heap.size + 1, 0, none⟩ = some (.string tn) ∧ w'.cell? ⟨w.heap.size + 1, 1, none⟩ = some (.slice A1 n1 q1) ∧ w'.cell? ⟨w.heap.size + 1, 2, none⟩ = some (.slice A2 n2 q2) ∧ w'.cell? ⟨w.heap.size + 1, 3, none⟩ = some (.slice A3 n3 q3) ∧ w'.cell? ⟨w.heap.size + 1, 4, none⟩ = some (.int .i64 prio) ∧ Hid (Below w.heap.size w w') ∧ w.heap.size + 1 < w'.heap.size) (by kernel_rfl) ?_ (fun hHeld => ?_)
      · exact ⟨c1, c2, p0, p1, p2, p3, p4, K2.out.drew, lw2⟩
      refine wpAnyH_take (oi := ⟨_, _, _, _, _, _⟩) (i := 0) (v := ?_) rfl (by kernel_rfl) (by kernel_rfl) (by kernel_rfl) (fun _ _ _ h => h) (Or.inl ⟨by rfl, ?ya0⟩) (by assumption) ?ra0
      case ya0 => (intro w hSw; (try dsimp only at hSw); go_simp; (try with_reducible rfl))
      try simp only [Act.put, List.setIfInBounds_toArray, List.set_cons_zero, List.set_cons_succ]
      refine wpAnyH_take (oi := ⟨_, _, _, _, _, _⟩) (i := 1) (v := ?_) rfl (by kernel_rfl) (by kernel_rfl) (by kernel_rfl) (fun _ _ _ h => h) (Or.inl ⟨by rfl, ?ya1⟩) (by assumption) ?ra1
      case ya1 => (intro w hSw; (try dsimp only at hSw); go_simp; (try with_reducible rfl))
      try simp only [Act.put, List.setIfInBounds_toArray, List.set_cons_zero, List.set_cons_succ]
      refine wpAnyH_take (oi := ⟨_, _, _, _, _, _⟩) (i := 2) (v := ?_) rfl (by kernel_rfl) (by kernel_rfl) (by kernel_rfl) (fun _ _ _ h => h) (Or.inl ⟨by rfl, ?ya2⟩) (by assumption) ?ra2
      case ya2 => (intro w hSw; (try dsimp only at hSw); go_simp; (try with_reducible rfl))
      try simp only [Act.put, List.setIfInBounds_toArray, List.set_cons_zero, List.set_cons_succ]
      refine wpAnyH_take (oi := ⟨_, _, _, _, _, _⟩) (i := 3) (v := ?_) rfl (by kernel_rfl) (by kernel_rfl) (by kernel_rfl) (fun _ _ _ h => h) (Or.inl ⟨by rfl, ?ya3⟩) (by assumption) ?ra3
      case ya3 => (intro w hSw; (try dsimp only at hSw); go_simp; (try with_reducible rfl))
      try simp only [Act.put, List.setIfInBounds_toArray, List.set_cons_zero, List.set_cons_succ]
      refine wpAnyH_ready (rs := [4]) (by kernel_rfl) (by simp) ?_
      refine AllReadyH.cons (o := ⟨_, _, _, _, _, _⟩) rfl (fun K hK => ?_) AllReadyH.nil
      go_simp
      go_at_call 111; refine (CP.out _ K2.out.drew).mono ?_; rintro e w2 ⟨rfl, L2⟩; (try go_wp2_with fail)
      refine hK.out _ _ ?_ (fun hHeld2 => ?_)
      · obtain ⟨h1, h2, h3, h4, h5, h6, h7, h8, h9⟩ := hHeld; have lx := Nat.lt_of_succ_lt h9; exact ⟨(L2.cell (by exact lx)).trans h1, (L2.cell (by exact lx)).trans h2, (L2.cell (by exact h9)).trans h3, (L2.cell (by exact h9)).trans h4, (L2.cell (by exact h9)).trans h5, (L2.cell (by exact h9)).trans h6, (L2.cell (by exact h9)).trans h7, h8.out.trans (L2.mono (Nat.le_of_lt lx)), Nat.lt_of_lt_of_le h9 L2.size⟩
      clear hK K hHeld
      have hHeld := hHeld2
      clear hHeld2
      try simp only [Act.put, List.setIfInBounds_toArray, List.set_cons_zero, List.set_cons_succ]
      refine wpAnyH_take (oi := ⟨_, _, _, _, _, _⟩) (i := 5) (v := ?_) rfl (by kernel_rfl) (by kernel_rfl) (by kernel_rfl) (fun _ _ _ h => h) (Or.inl ⟨by rfl, ?ya5⟩) (by assumption) ?ra5
      case ya5 => (intro w hSw; (try dsimp only at hSw); go_simp; (try with_reducible rfl))
      try simp only [Act.put, List.setIfInBounds_toArray, List.set_cons_zero, List.set_cons_succ]
      refine wpAnyH_take (oi := ⟨_, _, _, _, _, _⟩) (i := 6) (v := ?_) rfl (by kernel_rfl) (by kernel_rfl) (by kernel_rfl) (fun _ _ _ h => h) (Or.inl ⟨by rfl, ?ya6⟩) (by assumption) ?ra6
      case ya6 => (intro w hSw; (try dsimp only at hSw); go_simp; (try with_reducible rfl))
      try simp only [Act.put, List.setIfInBounds_toArray, List.set_cons_zero, List.set_cons_succ]
      refine wpAnyH_take (oi := ⟨_, _, _, _, _, _⟩) (i := 7) rfl (by kernel_rfl) (by kernel_rfl) (by kernel_rfl) (fun _ _ _ h => h) (Or.inr ⟨by rfl, rfl⟩) (by assumption) ?ra7
      try simp only [Act.put, List.setIfInBounds_toArray, List.set_cons_zero, List.set_cons_succ]
      refine wpAnyH_take (oi := ⟨_, _, _, _, _, _⟩) (i := 8) rfl (by kernel_rfl) (by kernel_rfl) (by kernel_rfl) (fun _ _ _ h => h) (Or.inr ⟨by rfl, rfl⟩) (by assumption) ?ra8
      try simp only [Act.put, List.setIfInBounds_toArray, List.set_cons_zero, List.set_cons_succ]
      refine wpAnyH_take (oi := ⟨_, _, _, _, _, _⟩) (i := 9) rfl (by kernel_rfl) (by kernel_rfl) (by kernel_rfl) (fun _ _ _ h => h) (Or.inr ⟨by rfl, rfl⟩) (by assumption) ?ra9
      try simp only [Act.put, List.setIfInBounds_toArray, List.set_cons_zero, List.set_cons_succ]
      refine wpAnyH_take (oi := ⟨_, _, _, _, _, _⟩) (i := 10) rfl (by kernel_rfl) (by kernel_rfl) (by kernel_rfl) (fun _ _ _ h => h) (Or.inr ⟨by rfl, rfl⟩) (by assumption) ?ra10
      try simp only [Act.put, List.setIfInBounds_toArray, List.set_cons_zero, List.set_cons_succ]
      refine wpAnyH_take (oi := ⟨_, _, _, _, _, _⟩) (i := 11) rfl (by kernel_rfl) (by kernel_rfl) (by kernel_rfl) (fun _ _ _ h => h) (Or.inr ⟨by rfl, rfl⟩) (by assumption) ?ra11
      try simp only [Act.put, List.setIfInBounds_toArray, List.set_cons_zero, List.set_cons_succ]
      refine wpAnyH_take (oi := ⟨_, _, _, _, _, _⟩) (i := 12) rfl (by kernel_rfl) (by kernel_rfl) (by kernel_rfl) (fun _ _ _ h => h) (Or.inr ⟨by rfl, rfl⟩) (by assumption) ?ra12
      try simp only [Act.put, List.setIfInBounds_toArray, List.set_cons_zero, List.set_cons_succ]
      refine wpAnyH_take (oi := ⟨_, _, _, _, _, _⟩) (i := 13) rfl (by kernel_rfl) (by kernel_rfl) (by kernel_rfl) (fun _ _ _ h => h) (Or.inr ⟨by rfl, rfl⟩) (by assumption) ?ra13
      try simp only [Act.put, List.setIfInBounds_toArray, List.set_cons_zero, List.set_cons_succ]
      refine wpAnyH_take (oi := ⟨_, _, _, _, _, _⟩) (i := 14) rfl (by kernel_rfl) (by kernel_rfl) (by kernel_rfl) (fun _ _ _ h => h) (Or.inr ⟨by rfl, rfl⟩) (by assumption) ?ra14
      try simp only [Act.put, List.setIfInBounds_toArray, List.set_cons_zero, List.set_cons_succ]
      refine wpAnyH_take (oi := ⟨_, _, _, _, _, _⟩) (i := 15) (v := ?_) rfl (by kernel_rfl) (by kernel_rfl) (by kernel_rfl) (fun _ _ _ h => h) (Or.inl ⟨by rfl, ?ya15⟩) (by assumption) ?ra15
      case ya15 => (intro w hSw; (try dsimp only at hSw); go_simp; (try with_reducible rfl))
      try simp only [Act.put, List.setIfInBounds_toArray, List.set_cons_zero, List.set_cons_succ]
      refine wpAnyH_take (oi := ⟨_, _, _, _, _, _⟩) (i := 16) (v := ?_) rfl (by kernel_rfl) (by kernel_rfl) (by kernel_rfl) (fun _ _ _ h => h) (Or.inl ⟨by rfl, ?ya16⟩) (by assumption) ?ra16
      case ya16 => (intro w hSw; (try dsimp only at hSw); go_simp; (try with_reducible rfl))
      try simp only [Act.put, List.setIfInBounds_toArray, List.set_cons_zero, List.set_cons_succ]
      refine wpAnyH_done (by kernel_rfl) ?_ _
      obtain ⟨h1, h2, h3, h4, h5, h6, h7, h8, h9⟩ := hHeld
      clear L2 c1 c2 p0 p1 p2 p3 p4
      go_wp2
      go_ret
      exact ⟨ret_i E.out, h8.out⟩
    · have hFb : decide (0 ≤ F) = false := by simpa using hF
      go_wp2_with fail
      refine wp_region_held_drew (S := fun w' => w'.cell? ⟨w.heap.size, 1, none⟩ = some (.slice PA m pc) ∧ w'.cell? ⟨w.heap.size, 2, none⟩ = some (.slice (some ⟨b0, off, none⟩) n tc) ∧ w'.cell? ⟨w.heap.size + 1, 0, none⟩ = some (.string tn) ∧ w'.cell? ⟨w.heap.size + 1, 1, none⟩ = some (.slice A1 n1 q1) ∧ w'.cell? ⟨w.heap.size + 1, 2, none⟩ = some (.slice A2 n2 q2) ∧ w'.cell? ⟨w.heap.size + 1, 3, none⟩ = some (.slice A3 n3 q3) ∧ w'.cell? ⟨w.heap.size + 1, 4, none⟩ = some (.int .i64 prio) ∧ Hid (Below w.heap.size w w') ∧ w.heap.size + 1 < w'.heap.size) (by kernel_rfl) ?_ (fun hHeld => ?_)
      · exact ⟨c1, c2, p0, p1, p2, p3, p4, K2.out.drew, lw2⟩
      refine wpAnyH_take (oi := ⟨_, _, _, _, _, _⟩) (i := 0) (v := ?_) rfl (by kernel_rfl) (by kernel_rfl) (by kernel_rfl) (fun _ _ _ h => h) (Or.inl ⟨by rfl, ?yb0⟩) (by assumption) ?rb0
      case yb0 => (intro w hSw; (try dsimp only at hSw); go_simp; (try with_reducible rfl))
      try simp only [Act.put, List.setIfInBounds_toArray, List.set_cons_zero, List.set_cons_succ]
      refine wpAnyH_take (oi := ⟨_, _, _, _, _, _⟩) (i := 1) (v := ?_) rfl (by kernel_rfl) (by kernel_rfl) (by kernel_rfl) (fun _ _ _ h => h) (Or.inl ⟨by rfl, ?yb1⟩) (by assumption) ?rb1
      case yb1 => (intro w hSw; (try dsimp only at hSw); go_simp; (try with_reducible rfl))
      try simp only [Act.put, List.setIfInBounds_toArray, List.set_cons_zero, List.set_cons_succ]
      refine wpAnyH_take (oi := ⟨_, _, _, _, _, _⟩) (i := 2) (v := ?_) rfl (by kernel_rfl) (by kernel_rfl) (by kernel_rfl) (fun _ _ _ h => h) (Or.inl ⟨by rfl, ?yb2⟩) (by assumption) ?rb2
      case yb2 => (intro w hSw; (try dsimp only at hSw); go_simp; (try with_reducible rfl))
      try simp only [Act.put, List.setIfInBounds_toArray, List.set_cons_zero, List.set_cons_succ]
      refine wpAnyH_take (oi := ⟨_, _, _, _, _, _⟩) (i := 3) (v := ?_) rfl (by kernel_rfl) (by kernel_rfl) (by kernel_rfl) (fun _ _ _ h => h) (Or.inl ⟨by rfl, ?yb3⟩) (by assumption) ?rb3
      case yb3 => (intro w hSw; (try dsimp only at hSw); go_simp; (try with_reducible rfl))
      try simp only [Act.put, List.setIfInBounds_toArray, List.set_cons_zero, List.set_cons_succ]
      refine wpAnyH_ready (rs := [4]) (by kernel_rfl) (by simp) ?_
      refine AllReadyH.cons (o := ⟨_, _, _, _, _, _⟩) rfl (fun K hK => ?_) AllReadyH.nil
      go_simp
      go_at_call 111; refine (CP.out _ K2.out.drew).mono ?_; rintro e w2 ⟨rfl, L2⟩; (try go_wp2_with fail)
      refine hK.out _ _ ?_ (fun hHeld2 => ?_)
      · obtain ⟨h1, h2, h3, h4, h5, h6, h7, h8, h9⟩ := hHeld; have lx := Nat.lt_of_succ_lt h9; exact ⟨(L2.cell (by exact lx)).trans h1, (L2.cell (by exact lx)).trans h2, (L2.cell (by exact h9)).trans h3, (L2.cell (by exact h9)).trans h4, (L2.cell (by exact h9)).trans h5, (L2.cell (by exact h9)).trans h6, (L2.cell (by exact h9)).trans h7, h8.out.trans (L2.mono (Nat.le_of_lt lx)), Nat.lt_of_lt_of_le h9 L2.size⟩
      clear hK K hHeld
      have hHeld := hHeld2
      clear hHeld2
      try simp only [Act.put, List.setIfInBounds_toArray, List.set_cons_zero, List.set_cons_succ]
      refine wpAnyH_take (oi := ⟨_, _, _, _, _, _⟩) (i := 5) (v := ?_) rfl (by kernel_rfl) (by kernel_rfl) (by kernel_rfl) (fun _ _ _ h => h) (Or.inl ⟨by rfl, ?yb5⟩) (by assumption) ?rb5
      case yb5 => (intro w hSw; (try dsimp only at hSw); go_simp; (try with_reducible rfl))
      try simp only [Act.put, List.setIfInBounds_toArray, List.set_cons_zero, List.set_cons_succ]
      refine wpAnyH_take (oi := ⟨_, _, _, _, _, _⟩) (i := 6) (v := ?_) rfl (by kernel_rfl) (by kernel_rfl) (by kernel_rfl) (fun _ _ _ h => h) (Or.inl ⟨by rfl, ?yb6⟩) (by assumption) ?rb6
      case yb6 => (intro w hSw; (try dsimp only at hSw); go_simp; (try with_reducible rfl))
      try simp only [Act.put, List.setIfInBounds_toArray, List.set_cons_zero, List.set_cons_succ]
      refine wpAnyH_take (oi := ⟨_, _, _, _, _, _⟩) (i := 7) (v := ?_) rfl (by kernel_rfl) (by kernel_rfl) (by kernel_rfl) (fun _ _ _ h => h) (Or.inl ⟨by rfl, ?yb7⟩) (by assumption) ?rb7
      case yb7 => (intro w hSw; (try dsimp only at hSw); go_simp; (try with_reducible rfl))
      try simp only [Act.put, List.setIfInBounds_toArray, List.set_cons_zero, List.set_cons_succ]
      refine wpAnyH_take (oi := ⟨_, _, _, _, _, _⟩) (i := 8) (v := ?_) rfl (by kernel_rfl) (by kernel_rfl) (by kernel_rfl) (fun _ _ _ h => h) (Or.inl ⟨by rfl, ?yb8⟩) (by assumption) ?rb8
      case yb8 => (intro w hSw; (try dsimp only at hSw); go_simp; (try with_reducible rfl))
      try simp only [Act.put, List.setIfInBounds_toArray, List.set_cons_zero, List.set_cons_succ]
      refine wpAnyH_take (oi := ⟨_, _, _, _, _, _⟩) (i := 9) (v := ?_) rfl (by kernel_rfl) (by kernel_rfl) (by kernel_rfl) (fun _ _ _ h => h) (Or.inl ⟨by rfl, ?yb9⟩) (by assumption) ?rb9
      case yb9 => (intro w hSw; (try dsimp only at hSw); go_simp; (try with_reducible rfl))
      try simp only [Act.put, List.setIfInBounds_toArray, List.set_cons_zero, List.set_cons_succ]
      refine wpAnyH_take (oi := ⟨_, _, _, _, _, _⟩) (i := 10) (v := ?_) rfl (by kernel_rfl) (by kernel_rfl) (by kernel_rfl) (fun _ _ _ h => h) (Or.inl ⟨by rfl, ?yb10⟩) (by assumption) ?rb10
      case yb10 => (intro w hSw; (try dsimp only at hSw); go_simp; (try with_reducible rfl))
      try simp only [Act.put, List.setIfInBounds_toArray, List.set_cons_zero, List.set_cons_succ]
      refine wpAnyH_take (oi := ⟨_, _, _, _, _, _⟩) (i := 11) (v := ?_) rfl (by kernel_rfl) (by kernel_rfl) (by kernel_rfl) (fun _ _ _ h => h) (Or.inl ⟨by rfl, ?yb11⟩) (by assumption) ?rb11
      case yb11 => (intro w hSw; (try dsimp only at hSw); go_simp; (try with_reducible rfl))
      try simp only [Act.put, List.setIfInBounds_toArray, List.set_cons_zero, List.set_cons_succ]
      refine wpAnyH_take (oi := ⟨_, _, _, _, _, _⟩) (i := 12) (v := ?_) rfl (by kernel_rfl) (by kernel_rfl) (by kernel_rfl) (fun _ _ _ h => h) (Or.inl ⟨by rfl, ?yb12⟩) (by assumption) ?rb12
      case yb12 => (intro w hSw; (try dsimp only at hSw); go_simp; (try with_reducible rfl))
      try simp only [Act.put, List.setIfInBounds_toArray, List.set_cons_zero, List.set_cons_succ]
      refine wpAnyH_ready (rs := [13]) (by kernel_rfl) (by simp) ?_
      refine AllReadyH.cons (o := ⟨_, _, _, _, _, _⟩) rfl (fun K hK => ?_) AllReadyH.nil
      go_simp
      go_at_call 112; refine (CT.out _ hHeld.2.2.2.2.2.2.2.1.out).mono ?_; rintro e w3 ⟨rfl, L3⟩; (try go_wp2_with fail)
      refine hK.out _ _ ?_ (fun hHeld2 => ?_)
      · obtain ⟨h1, h2, h3, h4, h5, h6, h7, h8, h9⟩ := hHeld; have lx := Nat.lt_of_succ_lt h9; exact ⟨(L3.cell (by exact lx)).trans h1, (L3.cell (by exact lx)).trans h2, (L3.cell (by exact h9)).trans h3, (L3.cell (by exact h9)).trans h4, (L3.cell (by exact h9)).trans h5, (L3.cell (by exact h9)).trans h6, (L3.cell (by exact h9)).trans h7, h8.out.trans (L3.mono (Nat.le_of_lt lx)), Nat.lt_of_lt_of_le h9 L3.size⟩
      clear hK K hHeld
      have hHeld := hHeld2
      clear hHeld2
      try simp only [Act.put, List.setIfInBounds_toArray, List.set_cons_zero, List.set_cons_succ]
      refine wpAnyH_take (oi := ⟨_, _, _, _, _, _⟩) (i := 14) (v := ?_) rfl (by kernel_rfl) (by kernel_rfl) (by kernel_rfl) (fun _ _ _ h => h) (Or.inl ⟨by rfl, ?yb14⟩) (by assumption) ?rb14
      case yb14 => (intro w hSw; (try dsimp only at hSw); go_simp; (try with_reducible rfl))
      try simp only [Act.put, List.setIfInBounds_toArray, List.set_cons_zero, List.set_cons_succ]
      refine wpAnyH_take (oi := ⟨_, _, _, _, _, _⟩) (i := 15) (v := ?_) rfl (by kernel_rfl) (by kernel_rfl) (by kernel_rfl) (fun _ _ _ h => h) (Or.inl ⟨by rfl, ?yb15⟩) (by assumption) ?rb15
      case yb15 => (intro w hSw; (try dsimp only at hSw); go_simp; (try with_reducible rfl))
      try simp only [Act.put, List.setIfInBounds_toArray, List.set_cons_zero, List.set_cons_succ]
      refine wpAnyH_take (oi := ⟨_, _, _, _, _, _⟩) (i := 16) (v := ?_) rfl (by kernel_rfl) (by kernel_rfl) (by kernel_rfl) (fun _ _ _ h => h) (Or.inl ⟨by rfl, ?yb16⟩) (by assumption) ?rb16
      case yb16 => (intro w hSw; (try dsimp only at hSw); go_simp; (try with_reducible rfl))
      try simp only [Act.put, List.setIfInBounds_toArray, List.set_cons_zero, List.set_cons_succ]
      refine wpAnyH_done (by kernel_rfl) ?_ _
      obtain ⟨h1, h2, h3, h4, h5, h6, h7, h8, h9⟩ := hHeld
      clear L2 L3 c1 c2 p0 p1 p2 p3 p4 K2
      have lx := Nat.lt_of_succ_lt h9
      by_cases hG : 0 ≤ G
      · have hGb : decide (0 ≤ G) = true := by simpa using hG
        have E := Lib.hid (E6.out (.inr hG))
        go_wp2
        go_ret
        exact ⟨ret_i E.out, h8.out⟩
      · have hGb : decide (0 ≤ G) = false := by simpa using hG
        have hFG : ¬ (0 ≤ F ∨ 0 ≤ G) := by omega
        by_cases hp : prio < 0 ∨ 9 < prio
        · have E := Lib.hid (E1.out hFG hp)
          go_wp2
          all_goals first
            | (go_ret; exact ⟨ret_i E.out, h8.out⟩)
            | (exfalso; omega)
        · have E := Lib.hid (E0.out hFG hp)
          have hp1 : ¬ prio < 0 := by omega
          have hp2 : ¬ 9 < prio := by omega
          clear hp hFG E6 E1 E0
          go_wp2_with fail
          have i0 : ∀ w : World, (Instr.index 95 (.agg #[.slice A1 n1 q1, .slice A2 n2 q2, .slice A3 n3 q3]) (.int .i64 0)).run Tryz.prog w = .ok (.slice A1 n1 q1) w := fun _ => by kernel_rfl
          have i1 : ∀ w : World, (Instr.index 95 (.agg #[.slice A1 n1 q1, .slice A2 n2 q2, .slice A3 n3 q3]) (.int .i64 1)).run Tryz.prog w = .ok (.slice A2 n2 q2) w := fun _ => by kernel_rfl
          have i2 : ∀ w : World, (Instr.index 95 (.agg #[.slice A1 n1 q1, .slice A2 n2 q2, .slice A3 n3 q3]) (.int .i64 2)).run Tryz.prog w = .ok (.slice A3 n3 q3) w := fun _ => by kernel_rfl
          refine wp_loop_rounds 4 ?_
          rw [rounds_succ]
          go_wp2_with fail
          refine (CA1.out _ h8.out).mono ?_
          rintro e w4 ⟨rfl, L4⟩
          have M4 : Hid (Below w.heap.size w w4) := h8.out.trans (L4.mono (Nat.le_of_lt lx))
          have k4 : w4.cell? ⟨w.heap.size, 1, none⟩ = some (.slice PA m pc) := (L4.cell (by exact lx)).trans h1
          have lx4 := Nat.lt_of_lt_of_le lx L4.size
          clear L4
          by_cases z1 : e1 = 0
          · subst z1
            go_wp2_with fail
            rw [rounds_succ]
            go_wp2_with fail
            refine (CA2.out _ M4.out).mono ?_
            rintro e w5 ⟨rfl, L5⟩
            have M5 : Hid (Below w.heap.size w w5) := M4.out.trans (L5.mono M4.out.size)
            have k5 : w5.cell? ⟨w.heap.size, 1, none⟩ = some (.slice PA m pc) := (L5.cell (by exact lx4)).trans k4
            clear L5
            by_cases z2 : e2 = 0
            · subst z2
              go_wp2_with fail
              rw [rounds_succ]
              go_wp2_with fail
              refine (CA3.out _ M5.out).mono ?_
              rintro e w6 ⟨rfl, L6⟩
              have M6 : Hid (Below w.heap.size w w6) := M5.out.trans (L6.mono M5.out.size)
              clear L6
              by_cases z3 : e3 = 0
              · subst z3
                go_wp2_with fail
                rw [rounds_succ]
                go_wp2
                go_ret
                exact ⟨ret_i (by rw [← E.out]; rfl), M6.out⟩
              · have z3b : (e3 != 0) = true := by simpa using z3
                have z3c : (e3 == 0) = false := by simpa using z3
                have E2 : Hid (e3 = S) := by show _ = _; rw [← E.out]; simp [orE]
                clear z3
                go_wp2
                go_ret
                exact ⟨ret_i E2.out, M6.out⟩
            · have z2b : (e2 != 0) = true := by simpa using z2
              have z2c : (e2 == 0) = false := by simpa using z2
              have E2 : Hid (e2 = S) := by show _ = _; rw [← E.out]; simp [orE, z2]
              clear z2
              go_wp2
              go_ret
              exact ⟨ret_i E2.out, M5.out⟩
          · have z1b : (e1 != 0) = true := by simpa using z1
            have z1c : (e1 == 0) = false := by simpa using z1
            have E2 : Hid (e1 = S) := by show _ = _; rw [← E.out]; simp [orE, z1]
            clear z1
            go_wp2
            go_ret
            exact ⟨ret_i E2.out, M4.out⟩
end Go.Proofs.YtlbcdnobpnllkaaGreat
