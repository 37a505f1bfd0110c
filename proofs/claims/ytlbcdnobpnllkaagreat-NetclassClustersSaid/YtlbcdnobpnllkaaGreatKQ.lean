/- Classes of nets: clusters, by the program. -/
import Derived.Test.YtlbcdnobpnllkaaGreatKP
import Derived.Deep.RegionHeld3
import Derived.Deep.RegionWith
namespace Go.Proofs.YtlbcdnobpnllkaaGreat
open Go.RowKit Go.Deep

def clS (n : NetV) (t v : Nat) : List Int := if n.ps.length ≤ v ∧ v < n.ps.length + t then inputsN n ((v - n.ps.length : Nat) : Int) else []
def clV (n : NetV) (v : Nat) : List Int := if v < n.ps.length then [] else inputsN n ((v - n.ps.length : Nat) : Int)
def clL (n : NetV) : List Int := if okN n = true then Dg.tab (nodN n) (fun v => (Dg.cmpV (undV (clV n) (nodN n)) (nodN n) v : Int)) else []
theorem clS_start (n : NetV) (v : Nat) : clS n 0 v = [] := by unfold clS; rw [if_neg (by omega)]
theorem clS_step (n : NetV) (t v : Nat) : clS n (t + 1) v = if v = n.ps.length + t then inputsN n (t : Nat) else clS n t v := by
  unfold clS
  by_cases e : v = n.ps.length + t
  · rw [if_pos e, if_pos (by omega), e, Nat.add_sub_cancel_left]
  · rw [if_neg e]
    by_cases q : n.ps.length ≤ v ∧ v < n.ps.length + t
    · rw [if_pos q, if_pos (by omega)]
    · rw [if_neg q, if_neg (by omega)]
theorem clS_end (n : NetV) {v : Nat} (hv : v < n.ps.length + n.ts.length) : clS n n.ts.length v = clV n v := by
  unfold clS clV
  by_cases q : v < n.ps.length
  · rw [if_pos q, if_neg (by omega)]
  · rw [if_neg q, if_pos (by omega)]
set_option maxHeartbeats 8000000 in
set_option maxRecDepth 100000 in
theorem clust_any (n : NetV) (w : World) (hr : NetR w n) :
    Calls Tryz.prog 27 #[(.agg #[.string n.nm, .slice n.PA n.ps.length n.pc, .slice n.TA n.ts.length n.tc])] w (Dg.IsPost w.heap.size w (clL n)) := by
  have C := fun W (hW : Below w.heap.size w W) => check_any n W (hr.below hW (Nat.le_refl _))
  have hok : okN n = decide ((chkV n).1 = 0) := rfl
  have hpl := hr.okp.1
  have htl := hr.okt.1
  have CI := Lib.hid fun (t : Int) W (hW : Below w.heap.size w W) => inputsN_own n t W (hr.below hW (Nat.le_refl _))
  have LI := Lib.hid (inputs_few hr.okt)
  have hfd : ∀ (a b : Int) (w : World), (Instr.field 47 (.agg #[.int .i64 a, .int .i64 b]) 0).run Tryz.prog w = .ok (.int .i64 a) w := fun _ _ _ => by kernel_rfl
  have B0 : Hid (Below w.heap.size w (w.alloc (.cells #[.string n.nm, .slice n.PA n.ps.length n.pc, .slice n.TA n.ts.length n.tc] 25))) := (Below.refl _ _).alloc (Nat.le_refl _) _
  have N0 : Hid (NBox (w.alloc (.cells #[.string n.nm, .slice n.PA n.ps.length n.pc, .slice n.TA n.ts.length n.tc] 25)) w.heap.size n) := NBox.new w n
  have E0 : Hid (okN n = false → clL n = []) := fun h => by unfold clL; rw [h]; rfl
  have E1 : Hid (okN n = true → clL n = Dg.tab (nodN n) (fun v => (Dg.cmpV (undV (clV n) (nodN n)) (nodN n) v : Int)) ∧ 1 ≤ nodN n ∧ nodN n ≤ 48) := fun h => ⟨by unfold clL; rw [if_pos h], nod_pos h, nod_48 h⟩
  have CF : Hid (∀ v, (clV n v).length ≤ 1000) := fun v => by
    unfold clV
    split
    · exact Nat.zero_le _
    · exact LI.out _
  have CS0 : Hid (∀ v, clS n 0 v = []) := clS_start n
  have CSS : Hid (∀ t v, clS n (t + 1) v = if v = n.ps.length + t then inputsN n (t : Nat) else clS n t v) := clS_step n
  have CSE : Hid (∀ v, v < nodN n → clS n n.ts.length v = clV n v) := fun v hv => clS_end n hv
  have hmk := run_make_rowsI (n.ps.length + n.ts.length) (by omega)
  obtain ⟨N, hN⟩ : ∃ N, N = n.ps.length + n.ts.length := ⟨_, rfl⟩
  have hNi : (n.ps.length : Int) + (n.ts.length : Int) = (N : Int) := by omega
  have HN := Lib.hid hN
  have hnod : nodN n = N := by rw [hN]; rfl
  rw [hnod] at E1 CSE
  rw [← hN] at hmk
  generalize chkV n = cv at *
  obtain ⟨a, b⟩ := cv
  try dsimp only at hok
  replace C := Lib.hid C
  have hr2 := hr.okt
  clear hr hN hnod
  unfold Dg.IsPost
  unfold OwnPost at CI
  generalize clL n = cl at *
  generalize clV n = cV at *
  generalize clS n = cS at *
  by_cases z : a = 0
  case neg =>
    have E : Hid (cl = []) := E0.out (by rw [hok]; simp [z])
    have z2 : (a == 0) = false := by simpa using z
    have z3 : (a != 0) = true := by simpa using z
    clear z hok E0 E1
    go_enter Tryz.func27, Tryz.ntmps27
    go_wp2_with fail
    refine (C.out _ B0.out).mono ?_
    rintro e w1 ⟨rfl, K⟩
    have K2 := Lib.hid (B0.out.trans (K.mono (by rw [World.size_alloc]; omega)))
    clear K
    go_wp2
    go_ret
    exact ⟨none, 0, by rw [E.out]; rfl, fun j hj => absurd hj (by rw [E.out]; simp), K2.out⟩
  obtain ⟨E, hN1, hN48⟩ := E1.out (by rw [hok]; simp [z])
  have E := Lib.hid E
  have z2 : (a == 0) = true := by simpa using z
  have z3 : (a != 0) = false := by simpa using z
  clear z hok E0 E1
  go_enter Tryz.func27, Tryz.ntmps27
  go_wp2_with fail
  refine (C.out _ B0.out).mono ?_
  rintro e w1 ⟨rfl, K⟩
  have B1 := Lib.hid (B0.out.trans (K.mono (by rw [World.size_alloc]; omega)))
  have N1 := Lib.hid (N0.out.below K (by simp))
  have hg1 : w.heap.size < w1.heap.size := by have := K.size; rw [World.size_alloc] at this; omega
  have HG1 := Lib.hid hg1
  obtain ⟨c0, c1, c2⟩ := N1.out
  have M0 : Hid (Dg.GrowT (w1.alloc (.cells (madeCells #[.slice none 0 0] N) 34)) w1.heap.size (w1.heap.size + 1) N 34 3 1 (fun e => (cS 0 e).length) (fun e => Dg.vI (cS 0 e)) (fun _ => .slice none 0 0)) :=
    (Dg.GrowT.start (w := w1) N 34 3 1).congr (fun e _ => by rw [CS0.out e]; rfl) (fun e _ => by rw [CS0.out e]; rfl)
  have BG0 : Hid (Below w1.heap.size w1 (w1.alloc (.cells (madeCells #[.slice none 0 0] N) 34))) := (Below.refl _ _).alloc (Nat.le_refl _) _
  have NBW : Hid (∀ W, Below w1.heap.size w1 W → NBox W w.heap.size n) := fun W hW => N1.out.below hW hg1
  have BW : Hid (∀ W, Below w1.heap.size w1 W → Below w.heap.size w W) := fun W hW => B1.out.trans (hW.mono (by omega))
  clear K C B0 N0 B1 N1 CS0
  go_wp2_with fail
  go_loopw [20] (fun q wr => ∃ (k : Nat) (vs : Nat → Value), k ≤ n.ts.length ∧ q = .int .i64 (k : Nat) ∧ Hid (Dg.GrowT wr w1.heap.size (w1.heap.size + 1) N 34 3 1 (fun e => (cS k e).length) (fun e => Dg.vI (cS k e)) vs) ∧ Hid (Below w1.heap.size w1 wr)) (fun q _ => n.ts.length - (intOf q).toNat)
  case atStart => exact ⟨0, _, by omega, rfl, M0, BG0⟩
  case round =>
    clear M0 BG0 c0 c1 c2
    obtain ⟨wo, rfl⟩ : ∃ wo, wo = wr := ⟨_, rfl⟩
    obtain ⟨k, vs, hk, rfl, MR, BG⟩ := hrel
    by_cases hlt : k < n.ts.length
    · obtain ⟨c0, c1, c2⟩ := NBW.out _ BG.out
      have CIk := Lib.hid (CI.out (k : Int))
      have CSk := Lib.hid (CSS.out k)
      obtain ⟨nd, hnd⟩ : ∃ nd, nd = n.ps.length + k := ⟨_, rfl⟩
      have hndi : (n.ps.length : Int) + (k : Int) = (nd : Int) := by omega
      have hndN : nd < N := by have := HN.out; omega
      have hwn : IntKind.i64.wrap (nd : Int) = (nd : Int) := by rw [IntKind.wrap_i64]; have := HN.out; omega
      have hndi2 : (nd : Int) < (N : Int) := by omega
      rw [← hnd] at CSk
      have GN : Hid (∀ v3 w3, Below wo.drew.heap.size wo.drew w3 → w3.ownsRow wo.drew.heap.size 3 1 v3 (inputsN n (k : Int)).length (vI (inputsN n (k : Int))) → _) := fun v3 w3 h1 h2 => grow_node (show Dg.GrowT wo.drew w1.heap.size (w1.heap.size + 1) N 34 3 1 (fun e => (cS k e).length) (fun e => Dg.vI (cS k e)) vs from MR.out) BG.out.drew hndN h1 h2 fun j _ => CSk.out j
      clear hnd CI CSS CSE LI MR CSk CF
      generalize inputsN n (k : Int) = L2 at *
      go_upto_region 10 with fail
      refine wp_region_held_drew (S := fun w' => w'.cell? ⟨w.heap.size, 0, none⟩ = some (.string n.nm) ∧ w'.cell? ⟨w.heap.size, 1, none⟩ = some (.slice n.PA n.ps.length n.pc) ∧ w'.cell? ⟨w.heap.size, 2, none⟩ = some (.slice n.TA n.ts.length n.tc) ∧ Hid (Below w1.heap.size w1 w')) (by kernel_rfl) ?_ (fun hHeld => ?_)
      · exact ⟨c0, c1, c2, BG.out.drew⟩
      refine wpAnyH_take (oi := ⟨_, _, _, _, _, _⟩) (i := 0) (v := ?_) rfl (by kernel_rfl) (by kernel_rfl) (by kernel_rfl) (fun _ _ _ h => h) (Or.inl ⟨by rfl, ?yq0⟩) (by assumption) ?rq0
      case yq0 => (intro w hSw; (try dsimp only at hSw); go_simp; (try with_reducible rfl))
      try simp only [Act.put, List.setIfInBounds_toArray, List.set_cons_zero, List.set_cons_succ]
      refine wpAnyH_take (oi := ⟨_, _, _, _, _, _⟩) (i := 1) (v := ?_) rfl (by kernel_rfl) (by kernel_rfl) (by kernel_rfl) (fun _ _ _ h => h) (Or.inl ⟨by rfl, ?yq1⟩) (by assumption) ?rq1
      case yq1 => (intro w hSw; (try dsimp only at hSw); go_simp; (try with_reducible rfl))
      try simp only [Act.put, List.setIfInBounds_toArray, List.set_cons_zero, List.set_cons_succ]
      refine wpAnyH_take (oi := ⟨_, _, _, _, _, _⟩) (i := 2) (v := ?_) rfl (by kernel_rfl) (by kernel_rfl) (by kernel_rfl) (fun _ _ _ h => h) (Or.inl ⟨by rfl, ?yq2⟩) (by assumption) ?rq2
      case yq2 => (intro w hSw; (try dsimp only at hSw); go_simp; (try with_reducible rfl))
      try simp only [Act.put, List.setIfInBounds_toArray, List.set_cons_zero, List.set_cons_succ]
      refine wpAnyH_take (oi := ⟨_, _, _, _, _, _⟩) (i := 3) (v := ?_) rfl (by kernel_rfl) (by kernel_rfl) (by kernel_rfl) (fun _ _ _ h => h) (Or.inl ⟨by rfl, ?yq3⟩) (by assumption) ?rq3
      case yq3 => (intro w hSw; (try dsimp only at hSw); go_simp; (try with_reducible rfl))
      try simp only [Act.put, List.setIfInBounds_toArray, List.set_cons_zero, List.set_cons_succ]
      refine wpAnyH_take (oi := ⟨_, _, _, _, _, _⟩) (i := 4) (v := ?_) rfl (by kernel_rfl) (by kernel_rfl) (by kernel_rfl) (fun _ _ _ h => h) (Or.inl ⟨by rfl, ?yq4⟩) (by assumption) ?rq4
      case yq4 => (intro w hSw; (try dsimp only at hSw); go_simp; (try with_reducible rfl))
      try simp only [Act.put, List.setIfInBounds_toArray, List.set_cons_zero, List.set_cons_succ]
      refine wpAnyH_take (oi := ⟨_, _, _, _, _, _⟩) (i := 5) (v := ?_) rfl (by kernel_rfl) (by kernel_rfl) (by kernel_rfl) (fun _ _ _ h => h) (Or.inl ⟨by rfl, ?yq5⟩) (by assumption) ?rq5
      case yq5 => (intro w hSw; (try dsimp only at hSw); go_simp; (try with_reducible rfl))
      try simp only [Act.put, List.setIfInBounds_toArray, List.set_cons_zero, List.set_cons_succ]
      refine wpAnyH_take (oi := ⟨_, _, _, _, _, _⟩) (i := 6) (v := ?_) rfl (by kernel_rfl) (by kernel_rfl) (by kernel_rfl) (fun _ _ _ h => h) (Or.inl ⟨by rfl, ?yq6⟩) (by assumption) ?rq6
      case yq6 => (intro w hSw; (try dsimp only at hSw); go_simp; (try with_reducible rfl))
      try simp only [Act.put, List.setIfInBounds_toArray, List.set_cons_zero, List.set_cons_succ]
      refine wpAnyH_take (oi := ⟨_, _, _, _, _, _⟩) (i := 7) (v := ?_) rfl (by kernel_rfl) (by kernel_rfl) (by kernel_rfl) (fun _ _ _ h => h) (Or.inl ⟨by rfl, ?yq7⟩) (by assumption) ?rq7
      case yq7 => (intro w hSw; (try dsimp only at hSw); go_simp; (try with_reducible rfl))
      try simp only [Act.put, List.setIfInBounds_toArray, List.set_cons_zero, List.set_cons_succ]
      refine wpAnyH_ready (rs := [8]) (by kernel_rfl) (by simp) ?_
      refine AllReadyH.cons (o := ⟨_, _, _, _, _, _⟩) rfl (fun K hK => ?_) AllReadyH.nil
      go_simp
      go_at_call 34; refine (CIk.out _ (BW.out _ hHeld.2.2.2.out)).mono ?_; rintro e w2 ⟨v2, rfl, O2, K2⟩; (try go_wp2_with fail)
      refine hK.out _ _ ?_ (fun hHeld2 => ?_)
      · obtain ⟨h1, h2, h3, h4⟩ := hHeld; have hz := h4.out.size; exact ⟨(K2.cell (Nat.lt_of_lt_of_le HG1.out hz)).trans h1, (K2.cell (Nat.lt_of_lt_of_le HG1.out hz)).trans h2, (K2.cell (Nat.lt_of_lt_of_le HG1.out hz)).trans h3, h4.out.trans (K2.mono hz)⟩
      clear hK K hHeld
      have hHeld := hHeld2
      clear hHeld2
      try simp only [Act.put, List.setIfInBounds_toArray, List.set_cons_zero, List.set_cons_succ]
      refine wpAnyH_take (oi := ⟨_, _, _, _, _, _⟩) (i := 9) (v := ?_) rfl (by kernel_rfl) (by kernel_rfl) (by kernel_rfl) (fun _ _ _ h => h) (Or.inl ⟨by rfl, ?yq9⟩) (by assumption) ?rq9
      case yq9 => (intro w hSw; (try dsimp only at hSw); go_simp; (try with_reducible rfl))
      try simp only [Act.put, List.setIfInBounds_toArray, List.set_cons_zero, List.set_cons_succ]
      refine wpAnyH_ready (rs := [10]) (by kernel_rfl) (by simp) ?_
      refine AllReadyH.cons (o := ⟨_, _, _, _, _, _⟩) rfl (fun K hK => ?_) AllReadyH.nil
      obtain ⟨A2, m2, ev, _⟩ := ReadsV.own O2
      subst ev
      obtain ⟨⟨vs2, m6⟩, b6, ⟨u, cu⟩, cf⟩ := GN.out _ w2 K2 O2
      go_simp
      refine hK.out _ _ ?_ (fun hHeld2 => ?_)
      · obtain ⟨h1, h2, h3, h4⟩ := hHeld; exact ⟨(World.cell?_setCell_far _ _ _ _ (Nat.ne_of_gt HG1.out)).trans h1, (World.cell?_setCell_far _ _ _ _ (Nat.ne_of_gt HG1.out)).trans h2, (World.cell?_setCell_far _ _ _ _ (Nat.ne_of_gt HG1.out)).trans h3, b6⟩
      clear hK K hHeld hHeld2
      try simp only [Act.put, List.setIfInBounds_toArray, List.set_cons_zero, List.set_cons_succ]
      refine wpAnyH_done (by kernel_rfl) ?_ _
      have M6 := Lib.hid m6
      have B6 := Lib.hid b6
      clear GN m6 b6 O2 K2 c0 c1 c2 CIk
      go_wp2
      go_roundw
      case rel => exact ⟨k + 1, _, by omega, by go_num, M6, B6⟩
      case measure => simp [intOf]; omega
    · have hkT : k = n.ts.length := by omega
      have M6 := MR.out.congr (fun j hj => by rw [hkT, CSE.out j hj]) (fun j hj => by rw [hkT, CSE.out j hj])
      have CU := Lib.hid (und_any w1.heap.size (w1.heap.size + 1) N cV vs wo M6 (by omega) fun v _ => by have := CF.out v; omega)
      clear MR CI CSS CSE M6 LI
      go_wp2_with fail
      refine CU.out.mono ?_
      rintro e w2 ⟨T2, vs2, rfl, M2, K2⟩
      have B2 := Lib.hid ((BW.out _ BG.out).trans (K2.mono (BW.out _ BG.out).size))
      obtain ⟨RA, RK, GR⟩ := grow_graph' M2 (by omega) fun v _ => by
        unfold undV
        rw [List.length_append]
        have h1 : (Dg.revV cV N v).length ≤ N := Dg.pickI_len _ _
        have := CF.out v
        omega
      have CL := Lib.hid (least_any (some ⟨T2, 0, none⟩) N N RA (undV cV N) RK w2 GR hN1 (by omega) fun _ _ => und_sym)
      unfold Dg.IsPost at CL
      clear M2 K2 CU GR CF
      go_wp2_with fail
      refine CL.out.mono ?_
      rintro e w3 ⟨A3, c3, rfl, R3, K3⟩
      have B3 := Lib.hid (B2.out.trans (K3.mono B2.out.size))
      have R3 := Lib.hid R3
      clear K3 CL
      go_wp2
      go_ret
      exact ⟨A3, c3, by rw [E.out]; rfl, by rw [E.out]; exact R3.out, B3.out⟩
end Go.Proofs.YtlbcdnobpnllkaaGreat
