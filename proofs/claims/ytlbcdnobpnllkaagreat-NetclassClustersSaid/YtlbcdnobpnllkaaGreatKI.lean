/- Classes of nets: connected and strongly connected, both ways. -/
import Derived.Test.YtlbcdnobpnllkaaGreatKH
import Derived.Test.YtlbcdnobpnllkaaGreatOA2
namespace Go.Proofs.YtlbcdnobpnllkaaGreat
open Go.RowKit Go.Deep

theorem arcs_at {m : Nat} {l : List (Int × Int)} (h : arcsE m l = 0) : ∀ j, j < l.length → (j : Int) ≤ aP l j
  | 0, hj => by have := (arcsE_parts h 0 hj).1; omega
  | j + 1, hj => by
    have h1 := arcs_at h j (by omega)
    have h2 := (arcsE_parts h (j + 1) hj).2.2.1
    unfold prevP at h2
    rw [if_neg (by omega), Nat.add_sub_cancel] at h2
    omega
theorem arcs_len {m : Nat} {l : List (Int × Int)} (h : arcsE m l = 0) : l.length ≤ m := by
  by_cases c : l.length = 0
  · omega
  · have h1 := arcs_at h (l.length - 1) (by omega)
    have h2 := (arcsE_parts h (l.length - 1) (by omega)).2.1
    omega
theorem flow_24 {n : NetV} (h : okN n = true) {v : Nat} (hv : v < nodN n) : (flowV n v).length ≤ 24 := by
  obtain ⟨_, _, h3, h4, _, h6⟩ := okN_parts h
  unfold nodN at hv
  unfold flowV
  by_cases c : v < n.ps.length
  · rw [if_pos c]
    unfold shP consumersN
    rw [List.length_map, if_pos h]
    exact Nat.le_trans (pickI_len _ _) h4
  · rw [if_neg c]
    unfold outputsN
    rw [if_pos (isT_val.2 ⟨by omega, by omega, h⟩)]
    have e : ((v - n.ps.length : Nat) : Int).toNat = v - n.ps.length := by omega
    rw [e]
    obtain ⟨_, _, _, _, _, _, a2, _⟩ := transE_parts (h6 (v - n.ps.length) (by omega))
    unfold targetsV
    rw [List.length_map]
    exact Nat.le_trans (arcs_len a2) h3
/- symmetric graphs -/
theorem rev_mem {R : Nat → List Int} {n u v : Nat} (hu : u < n) : (u : Int) ∈ Dg.revV R n v ↔ (v : Int) ∈ R u := by
  unfold Dg.revV Dg.pickI
  rw [List.mem_map]
  constructor
  · rintro ⟨k, hk, e⟩
    have : k = u := by omega
    subst this
    have := (List.mem_filter.1 hk).2
    simpa using this
  · intro h
    exact ⟨u, List.mem_filter.2 ⟨List.mem_range.2 hu, by simpa using h⟩, rfl⟩
theorem und_edge {R : Nat → List Int} {n u v : Nat} : Dg.EdgeR (undV R n) n u v ↔ Dg.EdgeR R n u v ∨ Dg.EdgeR R n v u := by
  unfold Dg.EdgeR undV
  constructor
  · rintro ⟨h1, h2, h3⟩
    rcases List.mem_append.1 h3 with h | h
    · exact Or.inr ⟨h2, h1, (rev_mem h2).1 h⟩
    · exact Or.inl ⟨h1, h2, h⟩
  · rintro (⟨h1, h2, h3⟩ | ⟨h1, h2, h3⟩)
    · exact ⟨h1, h2, List.mem_append_right _ h3⟩
    · exact ⟨h2, h1, List.mem_append_left _ ((rev_mem h1).2 h3)⟩
theorem both_edge {R : Nat → List Int} {n u v : Nat} : Dg.EdgeR (bothV R n) n u v ↔ Dg.EdgeR R n u v ∨ Dg.EdgeR R n v u := by
  unfold Dg.EdgeR bothV
  constructor
  · rintro ⟨h1, h2, h3⟩
    rcases List.mem_append.1 h3 with h | h
    · exact Or.inl ⟨h1, h2, h⟩
    · exact Or.inr ⟨h2, h1, (rev_mem h2).1 h⟩
  · rintro (⟨h1, h2, h3⟩ | ⟨h1, h2, h3⟩)
    · exact ⟨h1, h2, List.mem_append_left _ h3⟩
    · exact ⟨h2, h1, List.mem_append_right _ ((rev_mem h1).2 h3)⟩
theorem path_mono {R S : Nat → List Int} {n u v : Nat} (h : ∀ a b, Dg.EdgeR R n a b → Dg.EdgeR S n a b) (p : Dg.PathR R n u v) : Dg.PathR S n u v := by
  induction p with
  | single e => exact .single (h _ _ e)
  | tail _ e ih => exact .tail ih (h _ _ e)
theorem path_sym {R : Nat → List Int} {n u v : Nat} (h : ∀ a b, Dg.EdgeR R n a b → Dg.EdgeR R n b a) (p : Dg.PathR R n u v) : Dg.PathR R n v u := by
  induction p with
  | single e => exact .single (h _ _ e)
  | tail _ e ih => exact Dg.path_head (h _ _ e) ih
theorem rch_sym {R : Nat → List Int} {n u v : Nat} (h : ∀ a b, Dg.EdgeR R n a b → Dg.EdgeR R n b a) (p : Dg.RchR R n u v) : Dg.RchR R n v u := p.elim (fun e => Or.inl e.symm) fun p => Or.inr (path_sym h p)
theorem rch_mono {R S : Nat → List Int} {n u v : Nat} (h : ∀ a b, Dg.EdgeR R n a b → Dg.EdgeR S n a b) (p : Dg.RchR R n u v) : Dg.RchR S n u v := p.imp id (path_mono h)
theorem und_sym {R : Nat → List Int} {n a b : Nat} (h : Dg.EdgeR (undV R n) n a b) : Dg.EdgeR (undV R n) n b a := und_edge.2 (und_edge.1 h).symm
theorem both_sym {R : Nat → List Int} {n a b : Nat} (h : Dg.EdgeR (bothV R n) n a b) : Dg.EdgeR (bothV R n) n b a := both_edge.2 (both_edge.1 h).symm
theorem und_both {R : Nat → List Int} {n u v : Nat} : Dg.RchR (undV R n) n u v ↔ Dg.RchR (bothV R n) n u v :=
  ⟨rch_mono fun _ _ h => both_edge.2 (und_edge.1 h), rch_mono fun _ _ h => und_edge.2 (both_edge.1 h)⟩
theorem both_mut {R : Nat → List Int} {n u v : Nat} : Dg.MutR (bothV R n) n u v ↔ Dg.RchR (bothV R n) n u v := ⟨fun h => h.1, fun h => ⟨h, rch_sym (fun _ _ => both_sym) h⟩⟩
def oneV (R : Nat → List Int) (n : Nat) : Bool := decide (0 < n) && !anyB (fun j => !decide (Dg.at0 (Dg.tab n fun v => (Dg.cmpV R n v : Int)) j = 0)) n
theorem one_iff {R : Nat → List Int} {n : Nat} (hn : 0 < n) : oneV R n = true ↔ ∀ j, j < n → Dg.cmpV R n j = 0 := by
  unfold oneV
  rw [decide_eq_true hn, Bool.true_and]
  constructor
  · intro h j hj
    by_cases c : Dg.cmpV R n j = 0
    · exact c
    · rw [anyB_yes hj (by rw [Dg.tab_at n _ j hj, decide_eq_false (by omega)]; rfl)] at h
      cases h
  · intro h
    rw [anyB_no fun j hj => by rw [Dg.tab_at n _ j hj, h j hj]; rfl]
    rfl
theorem con_iff (n : NetV) (hn : 0 < nodN n) : conV n = true ↔ ∀ j, j < nodN n → Dg.RchR (bothV (flowV n) (nodN n)) (nodN n) 0 j := by
  unfold conV
  generalize flowV n = R
  generalize nodN n = N at *
  have hl : (Dg.reachL (undV R N) N [0]).length = N := by unfold Dg.reachL; rw [Dg.dfsL_len]; simp
  have key : ∀ j, j < N → (Dg.atT (Dg.reachL (undV R N) N [0]) j = true ↔ Dg.RchR (bothV R N) N 0 j) := fun j hj => by
    rw [← und_both]
    refine (Dg.reach_iff hj).trans ⟨?_, fun h => ⟨0, by simp, by omega, by omega, ?_⟩⟩
    · rintro ⟨x, hx, h0, h1, h2⟩
      have : x = 0 := by simpa using hx
      subst this
      exact h2
    · exact h
  constructor
  · intro h j hj
    refine (key j hj).1 ?_
    cases e : Dg.atT (Dg.reachL (undV R N) N [0]) j
    · rw [Dg.allB_no j (by omega) e] at h; cases h
    · rfl
  · intro h
    exact Dg.allB_yes fun j hj => (key j (by omega)).2 (h j (by omega))
theorem cmp_zero {R : Nat → List Int} {n j : Nat} (hj : j < n) : Dg.cmpV R n j = 0 ↔ Dg.MutR R n j 0 := by
  have h0 : Dg.cmpV R n 0 = 0 := by have := (Dg.cmp_spec (R := R) (show 0 < n by omega)).1; omega
  rw [← Dg.cmp_eq hj (by omega), h0]
theorem con_one (n : NetV) (hn : 0 < nodN n) : conV n = oneV (bothV (flowV n) (nodN n)) (nodN n) := by
  have : conV n = true ↔ oneV (bothV (flowV n) (nodN n)) (nodN n) = true := by
    rw [con_iff n hn, one_iff hn]
    refine forall_congr' fun j => forall_congr' fun hj => ?_
    rw [cmp_zero hj, both_mut]
    exact ⟨rch_sym fun _ _ => both_sym, rch_sym fun _ _ => both_sym⟩
  cases a : conV n <;> cases b : oneV (bothV (flowV n) (nodN n)) (nodN n) <;> simp_all
theorem str_one (n : NetV) (hn : 0 < nodN n) : strV n = oneV (flowV n) (nodN n) := by
  unfold strV oneV
  rw [decide_eq_true hn, Bool.true_and]
  rfl
theorem one_nil (R : Nat → List Int) : oneV R 0 = false := rfl
theorem nod_pos {n : NetV} (h : okN n = true) : 0 < nodN n := by have := okN_parts h; unfold nodN; omega
theorem nod_48 {n : NetV} (h : okN n = true) : nodN n ≤ 48 := by have := okN_parts h; unfold nodN; omega
set_option maxHeartbeats 4000000 in
set_option maxRecDepth 100000 in
theorem one_any (gA : Option Addr) (N gc : Nat) (RA : Nat → Option Addr) (R : Nat → List Int) (RK : Nat → Nat) (w : World) (GR : Dg.GraphR w gA N RA R RK) :
    Calls Tryz.prog 44 #[.slice gA N gc] w (VPost w.heap.size w (.bool (oneV R N))) := by
  have hn := GR.hn
  have CC := Lib.hid (Dg.rcomponents_any gA N gc RA R RK w GR)
  unfold Dg.IsPost at CC
  have HL : Hid ((Dg.tab N fun v => (Dg.cmpV R N v : Int)).length = N) := Dg.tab_len _ _
  have HY : Hid (∀ j, j < N → Dg.at0 (Dg.tab N fun v => (Dg.cmpV R N v : Int)) j ≠ 0 → oneV R N = false) := fun j hj h => by unfold oneV; rw [anyB_yes hj (by rw [decide_eq_false h]; rfl)]; simp
  have HN : Hid (0 < N → (∀ j, j < N → Dg.at0 (Dg.tab N fun v => (Dg.cmpV R N v : Int)) j = 0) → oneV R N = true) := fun h0 h => by unfold oneV; rw [anyB_no fun j hj => by rw [h j hj]; rfl, decide_eq_true h0]; rfl
  have HZ : Hid (N = 0 → oneV R N = false) := fun h => by rw [h]; rfl
  generalize oneV R N = V at *
  generalize (Dg.tab N fun v => (Dg.cmpV R N v : Int)) = L at *
  clear GR
  go_enter Tryz.func44, Tryz.ntmps44
  go_wp2_with fail
  refine CC.out.mono ?_
  rintro e w1 ⟨A, c, rfl, R1, K1⟩
  have R1 := Lib.hid R1
  have K1 := Lib.hid K1
  have F0 : Hid (∀ j, j < 0 → Dg.at0 L j = 0) := fun j hj => absurd hj (by omega)
  rw [HL.out]
  clear CC
  go_wp2_with fail
  go_loopw [4] (fun q wr => ∃ k : Nat, k ≤ N ∧ q = .int .i64 (k : Nat) ∧ Hid (∀ j, j < k → Dg.at0 L j = 0) ∧ Hid (w1 = wr)) (fun q _ => N - (intOf q).toNat)
  case atStart => exact ⟨0, by omega, rfl, F0, rfl⟩
  case round =>
    clear F0
    obtain ⟨k, hk, rfl, HX, HW⟩ := hrel
    have hw := HW.out
    subst hw
    by_cases hlt : k < N
    · obtain ⟨b, off, rfl, _, c1⟩ := R1.out k (by rw [HL.out]; exact hlt)
      have HYk := Lib.hid (HY.out k hlt)
      have HS : Hid (Dg.at0 L k = 0 → ∀ j, j < k + 1 → Dg.at0 L j = 0) := fun h j hj => by
        by_cases e : j = k
        · rw [e]; exact h
        · exact HX.out j (by omega)
      clear HX HY HN HZ R1
      generalize Dg.at0 L k = x at *
      by_cases z : x = 0
      · have H2 := Lib.hid (HS.out z)
        have z2 : (x != 0) = false := by simp [z]
        clear HS HYk
        go_wp2
        go_roundw
        case rel => exact ⟨k + 1, by omega, by go_num, H2, True.intro⟩
        case measure => simp [intOf]; omega
      · have E := Lib.hid (HYk.out z)
        have z2 : (x != 0) = true := by simpa using z
        clear HS HYk
        go_wp2
        go_ret
        exact ⟨by rw [E.out]; rfl, K1.out⟩
    · by_cases h0 : N = 0
      · have E := Lib.hid (HZ.out h0)
        have h1 : ¬ (N : Int) > 0 := by omega
        clear HX HY HN HZ R1
        go_wp2
        go_ret
        exact ⟨by rw [E.out]; rfl, K1.out⟩
      · have E := Lib.hid (HN.out (by omega) fun j hj => HX.out j (by omega))
        have h1 : (0 : Int) < (N : Int) := by omega
        have h2 : 0 < N := by omega
        have h3 : (decide ((0 : Int) < (N : Int))) = true := decide_eq_true h1
        clear HX HY HN HZ R1
        go_wp2
        go_ret
        exact ⟨by rw [E.out]; rfl, K1.out⟩
set_option maxHeartbeats 4000000 in
set_option maxRecDepth 100000 in
theorem rstr_any (n : NetV) (w : World) (hr : NetR w n) :
    Calls Tryz.prog 15 #[(.agg #[.string n.nm, .slice n.PA n.ps.length n.pc, .slice n.TA n.ts.length n.tc])] w (VPost w.heap.size w (.bool (stN n))) := by
  have B0 : Hid (Below w.heap.size w (w.alloc (.cells #[.string n.nm, .slice n.PA n.ps.length n.pc, .slice n.TA n.ts.length n.tc] 25))) := (Below.refl _ _).alloc (Nat.le_refl _) _
  have CF := Lib.hid (rflow_any n (w.alloc (.cells #[.string n.nm, .slice n.PA n.ps.length n.pc, .slice n.TA n.ts.length n.tc] 25)) (hr.below (B := w.heap.size) ((Below.refl _ _).alloc (Nat.le_refl _) _) (Nat.le_refl _)))
  have SF : Hid (okN n = false → stN n = false) := fun h => by unfold stN; rw [h]; rfl
  have ST : Hid (okN n = true → stN n = oneV (flowV n) (nodN n)) := fun h => by unfold stN; rw [h, Bool.true_and, str_one n (nod_pos h)]
  have N4 : Hid (okN n = true → nodN n ≤ 48) := fun h => nod_48 h
  clear hr
  unfold RFlowPost at CF
  generalize okN n = ok at *
  generalize nodN n = N at *
  generalize stN n = V at *
  generalize flowV n = fv at *
  go_enter Tryz.func15, Tryz.ntmps15
  go_wp2_with fail
  refine CF.out.mono ?_
  rintro e w1 (⟨hok, rfl, K1⟩ | ⟨hok, A, c, RA, RK, rfl, GR, K1⟩)
  · have B1 := Lib.hid (B0.out.trans (K1.mono (by rw [World.size_alloc]; omega)))
    have CO : Hid (Calls Tryz.prog 44 #[.slice none 0 0] w1 (VPost w1.heap.size w1 (.bool false))) := one_any none 0 0 (fun _ => none) (fun _ => []) (fun _ => 0) w1 ⟨by omega, fun i hi => absurd hi (by omega), fun i hi => absurd hi (by omega), fun i hi => absurd hi (by omega)⟩
    have E := Lib.hid (SF.out hok)
    clear CF K1 SF ST N4 hok
    go_wp2_with fail
    refine CO.out.mono ?_
    rintro e w2 ⟨rfl, K2⟩
    have B2 := Lib.hid (B1.out.trans (K2.mono B1.out.size))
    clear K2
    go_wp2
    go_ret
    exact ⟨by rw [E.out]; rfl, B2.out⟩
  · have B1 := Lib.hid (B0.out.trans (K1.mono (by rw [World.size_alloc]; omega)))
    have CO := Lib.hid (one_any A N c RA fv RK w1 GR)
    have E := Lib.hid (ST.out hok)
    clear CF K1 SF ST N4 hok GR
    go_wp2_with fail
    refine CO.out.mono ?_
    rintro e w2 ⟨rfl, K2⟩
    have B2 := Lib.hid (B1.out.trans (K2.mono B1.out.size))
    clear K2
    go_wp2
    go_ret
    exact ⟨by rw [E.out]; rfl, B2.out⟩
set_option maxHeartbeats 4000000 in
set_option maxRecDepth 100000 in
theorem rcon_any (n : NetV) (w : World) (hr : NetR w n) :
    Calls Tryz.prog 13 #[(.agg #[.string n.nm, .slice n.PA n.ps.length n.pc, .slice n.TA n.ts.length n.tc])] w (VPost w.heap.size w (.bool (coN n))) := by
  have B0 : Hid (Below w.heap.size w (w.alloc (.cells #[.string n.nm, .slice n.PA n.ps.length n.pc, .slice n.TA n.ts.length n.tc] 25))) := (Below.refl _ _).alloc (Nat.le_refl _) _
  have CF := Lib.hid (rflow_any n (w.alloc (.cells #[.string n.nm, .slice n.PA n.ps.length n.pc, .slice n.TA n.ts.length n.tc] 25)) (hr.below (B := w.heap.size) ((Below.refl _ _).alloc (Nat.le_refl _) _) (Nat.le_refl _)))
  have SF : Hid (okN n = false → coN n = false) := fun h => by unfold coN; rw [h]; rfl
  have ST : Hid (okN n = true → coN n = oneV (bothV (flowV n) (nodN n)) (nodN n)) := fun h => by unfold coN; rw [h, Bool.true_and, con_one n (nod_pos h)]
  have N4 : Hid (okN n = true → nodN n ≤ 48 ∧ ∀ v, v < nodN n → (flowV n v).length ≤ 24) := fun h => ⟨nod_48 h, fun v hv => flow_24 h hv⟩
  clear hr
  unfold RFlowPost at CF
  generalize okN n = ok at *
  generalize coN n = V at *
  generalize nodN n = N at *
  generalize flowV n = fv at *
  go_enter Tryz.func13, Tryz.ntmps13
  go_wp2_with fail
  refine CF.out.mono ?_
  rintro e w1 (⟨hok, rfl, K1⟩ | ⟨hok, A, c, RA, RK, rfl, GR, K1⟩)
  · have B1 := Lib.hid (B0.out.trans (K1.mono (by rw [World.size_alloc]; omega)))
    have CB := Lib.hid (rboth_any none 0 0 (fun _ => none) (fun _ => []) (fun _ => 0) w1 ⟨by omega, fun i hi => absurd hi (by omega), fun i hi => absurd hi (by omega), fun i hi => absurd hi (by omega)⟩ (by omega) (fun v hv => absurd hv (by omega)))
    have E := Lib.hid (SF.out hok)
    clear CF K1 SF ST N4 hok
    go_wp2_with fail
    refine CB.out.mono ?_
    rintro e w2 ⟨A2, c2, RA2, RK2, rfl, G2, K2⟩
    have B2 := Lib.hid (B1.out.trans (K2.mono B1.out.size))
    have CO : Hid (Calls Tryz.prog 44 #[.slice A2 0 c2] w2 (VPost w2.heap.size w2 (.bool false))) := one_any A2 0 c2 RA2 _ RK2 w2 G2
    clear K2 G2 CB
    go_wp2_with fail
    refine CO.out.mono ?_
    rintro e w3 ⟨rfl, K3⟩
    have B3 := Lib.hid (B2.out.trans (K3.mono B2.out.size))
    clear K3
    go_wp2
    go_ret
    exact ⟨by rw [E.out]; rfl, B3.out⟩
  · have B1 := Lib.hid (B0.out.trans (K1.mono (by rw [World.size_alloc]; omega)))
    obtain ⟨hN, hF⟩ := N4.out hok
    have CB := Lib.hid (rboth_any A N c RA fv RK w1 GR (by omega) (fun v hv => by have := hF v hv; omega))
    have E := Lib.hid (ST.out hok)
    clear CF K1 SF ST N4 hok GR hF
    go_wp2_with fail
    refine CB.out.mono ?_
    rintro e w2 ⟨A2, c2, RA2, RK2, rfl, G2, K2⟩
    have B2 := Lib.hid (B1.out.trans (K2.mono B1.out.size))
    have CO := Lib.hid (one_any A2 N c2 RA2 (bothV fv N) RK2 w2 G2)
    clear K2 G2 CB
    go_wp2_with fail
    refine CO.out.mono ?_
    rintro e w3 ⟨rfl, K3⟩
    have B3 := Lib.hid (B2.out.trans (K3.mono B2.out.size))
    clear K3
    go_wp2
    go_ret
    exact ⟨by rw [E.out]; rfl, B3.out⟩
end Go.Proofs.YtlbcdnobpnllkaaGreat
