/- Classes of nets: clusters, by the reference, and the law. -/
import Derived.Test.YtlbcdnobpnllkaaGreatKQ
import Derived.Test.YtlbcdnobpnllkaaGreatKO
import Derived.Deep.RegionHeld3
import Derived.Deep.RegionWith
namespace Go.Proofs.YtlbcdnobpnllkaaGreat
open Go.RowKit Go.Deep

/- a graph whose last rows are cut -/
structure CutR (w : World) (g N P k : Nat) (rows : Nat → Dg.Row) : Prop where
  blk : ∃ c : Array Value, w.heap[g]? = some (.cells c 34 (0, 0)) ∧ N ≤ c.size ∧ ∀ j, j < N → c[j]? = some (if P ≤ j ∧ j < k then .slice none 0 0 else (rows j).v)
  rd : ∀ j, j < N → Dg.ReadsV w (rows j).A (rows j).zs
  ne : ∀ j, j < N → (rows j).zs ≠ [] → ∀ b off, (rows j).A = some ⟨b, off, none⟩ → b ≠ g
theorem CutR.start {w : World} {s : Nat} {v : Value} {L : List Dg.Row} (h : Dg.OwnL w s v L) (hn : 1 ≤ L.length) (P : Nat) : ∃ g cap, v = .slice (some ⟨g, 0, none⟩) L.length cap ∧ s ≤ g ∧ CutR w g L.length P P (Dg.rA L) := by
  rcases h.1.2 with ⟨_, h0⟩ | ⟨g, cap, cur, e, hs, hg, hc1, hc2, hc3, hc4⟩
  · omega
  refine ⟨g, cap, e, hs, ⟨cur, hg, by omega, fun j hj => ?_⟩, fun j hj => (h.2 _ (Dg.rA_mem hj)).1.1, fun j hj hz b off ea eb => ?_⟩
  · rw [if_neg (by omega)]
    have h1 : (cur.toList.take (L.length * 1))[j]? = (L.map Dg.Row.v)[j]? := by rw [hc4]
    rw [List.getElem?_take_of_lt (by omega), List.getElem?_map, List.getElem?_eq_getElem hj, Array.getElem?_toList] at h1
    rw [h1]
    unfold Dg.rA
    rw [List.getElem?_eq_getElem hj]
    rfl
  · rcases (h.2 _ (Dg.rA_mem hj)).2 hz b off ea with h1 | ⟨cs, h1⟩
    · omega
    · rw [eb, hg] at h1
      injection h1 with h1
      injection h1 with _ h1 _
      exact absurd h1 (by decide)
theorem CutR.cell {w : World} {g N P k : Nat} {rows : Nat → Dg.Row} (h : CutR w g N P k rows) {j : Nat} (hj : j < N) : w.cell? ⟨g, j, none⟩ = some (if P ≤ j ∧ j < k then .slice none 0 0 else (rows j).v) ∧ w.frozen? ⟨g, j, none⟩ = false := by
  obtain ⟨c, hb, _, hc⟩ := h.blk
  exact ⟨by simp [World.cell?, hb, hc j hj], by simp [World.frozen?, hb]⟩
theorem CutR.step {w : World} {g N P k : Nat} {rows : Nat → Dg.Row} (h : CutR w g N P k rows) (hk : k < N) (hp : P ≤ k) : CutR (w.setCell ⟨g, k, none⟩ (.slice none 0 0)) g N P (k + 1) rows := by
  obtain ⟨c, hb, hn, hc⟩ := h.blk
  refine ⟨⟨c.setIfInBounds k (.slice none 0 0), by simp [World.setCell, Array.getElem?_modify, hb], by simpa using hn, fun j hj => ?_⟩, fun j hj i hi => ?_, h.ne⟩
  · rw [Array.getElem?_setIfInBounds]
    by_cases e : k = j
    · subst e
      rw [if_pos rfl, if_pos (by omega), if_pos (by omega)]
    · rw [if_neg e, hc j hj]
      by_cases q : P ≤ j ∧ j < k
      · rw [if_pos q, if_pos (by omega)]
      · rw [if_neg q, if_neg (by omega)]
  · obtain ⟨b, off, ea, hlt, h2⟩ := h.rd j hj i hi
    have hz : (rows j).zs ≠ [] := fun c => by rw [c] at hi; exact absurd hi (by simp)
    have hbg := h.ne j hj hz b off ea
    exact ⟨b, off, ea, by rw [nblk_setCell]; exact hlt, (World.cell?_setCell_far _ _ _ _ (Ne.symm hbg)).trans h2⟩
theorem CutR.graph {w : World} {g N P : Nat} {rows : Nat → Dg.Row} (h : CutR w g N P N rows) (hN : N ≤ 4000) (hl : ∀ j, j < N → (rows j).zs.length ≤ 1000) :
    Dg.GraphR w (some ⟨g, 0, none⟩) N (fun j => if P ≤ j then none else (rows j).A) (fun j => if P ≤ j then [] else (rows j).zs) (fun j => if P ≤ j then 0 else (rows j).cap) where
  hn := hN
  row := fun j hj => by
    obtain ⟨c, hb, _, _⟩ := h.blk
    refine ⟨g, 0, rfl, ?_, ?_⟩
    · obtain ⟨hlt, _⟩ := Array.getElem?_eq_some_iff.1 hb
      exact hlt
    · rw [Nat.zero_add, (h.cell hj).1]
      by_cases q : P ≤ j
      · rw [if_pos ⟨q, hj⟩, if_pos q, if_pos q, if_pos q]; rfl
      · rw [if_neg (fun x => q x.1), if_neg q, if_neg q, if_neg q]; rfl
  rd := fun j hj => by
    by_cases q : P ≤ j
    · rw [if_pos q, if_pos q]; exact fun i hi => absurd hi (by simp)
    · rw [if_neg q, if_neg q]; exact h.rd j hj
  ll := fun j hj => by
    by_cases q : P ≤ j
    · rw [if_pos q]; exact Nat.zero_le _
    · rw [if_neg q]; have := hl j hj; omega
/- the two graphs -/
def rclV (n : NetV) (v : Nat) : List Int := if n.ps.length ≤ v then [] else flowV n v
theorem cl_edge {n : NetV} (h : okN n = true) {u v : Nat} : Dg.EdgeR (clV n) (nodN n) u v ↔ Dg.EdgeR (rclV n) (nodN n) v u := by
  unfold Dg.EdgeR
  constructor
  · rintro ⟨h1, h2, h3⟩
    refine ⟨h2, h1, ?_⟩
    unfold clV at h3
    by_cases q : u < n.ps.length
    · rw [if_pos q] at h3; exact absurd h3 (by simp)
    · rw [if_neg q] at h3
      have ht : u - n.ps.length < n.ts.length := by unfold nodN at h1; omega
      obtain ⟨j, hj, ex⟩ := at0_of h3
      obtain ⟨p, hp, hlt, _⟩ := inputs_at h ht hj
      have hv : v < n.ps.length := by rw [ex] at hp; omega
      have o := opp h ht v
      have hm : ((u - n.ps.length : Nat) : Int) ∈ consumersN n v := of_decide_eq_true (by rw [o.2.2.2.2.1, ← o.2.2.1]; exact decide_eq_true h3)
      unfold rclV flowV
      rw [if_neg (by omega), if_pos hv]
      unfold shP
      exact List.mem_map.2 ⟨_, hm, by omega⟩
  · rintro ⟨h1, h2, h3⟩
    refine ⟨h2, h1, ?_⟩
    unfold rclV at h3
    by_cases q : n.ps.length ≤ v
    · rw [if_pos q] at h3; exact absurd h3 (by simp)
    · rw [if_neg q] at h3
      unfold flowV at h3
      rw [if_pos (by omega)] at h3
      unfold shP at h3
      obtain ⟨x, hx, e⟩ := List.mem_map.1 h3
      rw [cons_ok h] at hx
      obtain ⟨t, ht, ex, _⟩ := pick_ex.1 hx
      have hu : u = n.ps.length + t := by omega
      rw [← cons_ok h, ex] at hx
      have o := opp h ht v
      have hm : (v : Int) ∈ inputsN n t := of_decide_eq_true (by rw [o.2.2.1, ← o.2.2.2.2.1]; exact decide_eq_true hx)
      unfold clV
      rw [if_neg (by omega), hu, Nat.add_sub_cancel_left]
      exact hm
theorem cmp_congr {R S : Nat → List Int} {N : Nat} (h : ∀ a b, Dg.EdgeR R N a b ↔ Dg.EdgeR S N a b) {v : Nat} (hv : v < N) : Dg.cmpV R N v = Dg.cmpV S N v := by
  obtain ⟨h1, h2, h3, _⟩ := Dg.cmp_spec (R := S) hv
  have m1 : ∀ a b, Dg.MutR S N a b → Dg.MutR R N a b := fun a b x => ⟨rch_mono (fun a b => (h a b).2) x.1, rch_mono (fun a b => (h a b).2) x.2⟩
  have m2 : ∀ a b, Dg.MutR R N a b → Dg.MutR S N a b := fun a b x => ⟨rch_mono (fun a b => (h a b).1) x.1, rch_mono (fun a b => (h a b).1) x.2⟩
  exact Dg.cmp_of hv (by omega) (m1 _ _ h2) fun u hu hm => h3 u hu (m2 _ _ hm)
theorem cl_cmp {n : NetV} (h : okN n = true) : Dg.tab (nodN n) (fun v => (Dg.cmpV (bothV (rclV n) (nodN n)) (nodN n) v : Int)) = clL n := by
  unfold clL
  rw [if_pos h]
  unfold Dg.tab
  refine List.map_congr_left fun v hv => ?_
  have hv := List.mem_range.1 hv
  have := cmp_congr (R := bothV (rclV n) (nodN n)) (S := undV (clV n) (nodN n)) (fun a b => by
    rw [both_edge, und_edge, cl_edge h, cl_edge h]
    exact Or.comm) hv
  rw [this]
theorem clL_len (n : NetV) : (clL n).length ≤ 48 := by
  unfold clL
  split
  · rename_i h
    rw [Dg.tab_len]; exact nod_48 h
  · exact Nat.zero_le _
theorem rcl_eq (n : NetV) (L : List Dg.Row) (h : ∀ j, j < L.length → (Dg.rA L j).zs = flowV n j) (v : Nat) (hv : v < L.length) : (if n.ps.length ≤ v then [] else (Dg.rA L v).zs) = rclV n v := by
  unfold rclV
  rw [h v hv]
set_option maxHeartbeats 4000000 in
set_option maxRecDepth 100000 in
theorem rclust_any (n : NetV) (w : World) (hr : NetR w n) :
    Calls Tryz.prog 28 #[(.agg #[.string n.nm, .slice n.PA n.ps.length n.pc, .slice n.TA n.ts.length n.tc])] w (Dg.IsPost w.heap.size w (clL n)) := by
  have B0 : Hid (Below w.heap.size w (w.alloc (.cells #[.string n.nm, .slice n.PA n.ps.length n.pc, .slice n.TA n.ts.length n.tc] 25))) := (Below.refl _ _).alloc (Nat.le_refl _) _
  have N0 : Hid (NBox (w.alloc (.cells #[.string n.nm, .slice n.PA n.ps.length n.pc, .slice n.TA n.ts.length n.tc] 25)) w.heap.size n) := NBox.new w n
  have CF := Lib.hid (rflow2_any n (w.alloc (.cells #[.string n.nm, .slice n.PA n.ps.length n.pc, .slice n.TA n.ts.length n.tc] 25)) (hr.below (B := w.heap.size) ((Below.refl _ _).alloc (Nat.le_refl _) _) (Nat.le_refl _)))
  have hpl := hr.okp.1
  have htl := hr.okt.1
  have FF := Lib.hid (flow_few hr.okt)
  clear hr
  unfold RFlowPost2 at CF
  unfold Dg.IsPost
  go_enter Tryz.func28, Tryz.ntmps28
  go_wp2_with fail
  refine CF.out.mono ?_
  rintro e w1 (⟨hok, rfl, K1⟩ | ⟨hok, s, v, L, rfl, hs, hL, OL, RL, K1⟩)
  · have B1 := Lib.hid (B0.out.trans (K1.mono (by rw [World.size_alloc]; omega)))
    have N1 := Lib.hid (N0.out.below K1 (by simp))
    obtain ⟨c0, c1, c2⟩ := N1.out
    have E : Hid (clL n = []) := by show _ = _; unfold clL; rw [hok]; rfl
    clear CF K1 hok
    go_wp2_with fail
    go_loopw [4] (fun q wr => q = .int .i64 (n.ps.length : Int) ∧ Hid (Below w.heap.size w wr)) (fun q _ => 0)
    case atStart => exact ⟨rfl, B1⟩
    case round =>
      obtain ⟨wo, rfl⟩ : ∃ wo, wo = wr := ⟨_, rfl⟩
      obtain ⟨rfl, B1⟩ := hrel
      have CB := Lib.hid (rboth_any none 0 0 (fun _ => none) (fun _ => []) (fun _ => 0) wo ⟨by omega, fun i hi => absurd hi (by omega), fun i hi => absurd hi (by omega), fun i hi => absurd hi (by omega)⟩ (by omega) (fun v hv => absurd hv (by omega)))
      have hnl : ¬ (n.ps.length : Int) < 0 := by omega
      go_wp2_with fail
      refine CB.out.mono ?_
      rintro e w2 ⟨A2, c2, RA2, RK2, rfl, G2, K2⟩
      have B2 := Lib.hid (B1.out.trans (K2.mono B1.out.size))
      have CO := Lib.hid (Dg.rcomponents_any A2 0 c2 RA2 _ RK2 w2 G2)
      unfold Dg.IsPost at CO
      clear K2 G2 CB
      go_wp2_with fail
      refine CO.out.mono ?_
      rintro e w3 ⟨A3, c3, rfl, R3, K3⟩
      have B3 := Lib.hid (B2.out.trans (K3.mono B2.out.size))
      clear K3
      go_wp2
      go_ret
      exact ⟨A3, c3, by rw [E.out]; rfl, fun j hj => absurd hj (by rw [E.out]; simp), B3.out⟩
  · have B1 := Lib.hid (B0.out.trans (K1.mono (by rw [World.size_alloc]; omega)))
    have N1 := Lib.hid (N0.out.below K1 (by simp))
    obtain ⟨c0, c1, c2⟩ := N1.out
    have hpos := nod_pos hok
    have h48 := nod_48 hok
    obtain ⟨g, cap, rfl, hg, CU⟩ := CutR.start OL (by omega) n.ps.length
    have hgw : w.heap.size < g := by rw [World.size_alloc] at hs; omega
    have hPN : n.ps.length ≤ L.length := by rw [hL]; unfold nodN; omega
    have FIN : Hid (∀ W, CutR W g L.length n.ps.length L.length (Dg.rA L) → Dg.GraphR W (some ⟨g, 0, none⟩) L.length (fun j => if n.ps.length ≤ j then none else (Dg.rA L j).A) (rclV n) (fun j => if n.ps.length ≤ j then 0 else (Dg.rA L j).cap)) := fun W hW => by
      have G := hW.graph (by omega) (fun j hj => by rw [RL j hj]; exact FF.out j)
      exact ⟨G.hn, fun i hi => by
        have h := G.row i hi
        rw [rcl_eq n L RL i hi] at h
        exact h, fun i hi => by
        have h := G.rd i hi
        rw [rcl_eq n L RL i hi] at h
        exact h, fun i hi => by
        have h := G.ll i hi
        rw [rcl_eq n L RL i hi] at h
        exact h⟩
    have hF : Hid (∀ v, v < L.length → (rclV n v).length ≤ 400) := fun v hv => by
      unfold rclV
      split
      · exact Nat.zero_le _
      · have := flow_24 hok (v := v) (by omega); omega
    have E : Hid (Dg.tab L.length (fun v => (Dg.cmpV (bothV (rclV n) L.length) L.length v : Int)) = clL n) := by show _ = _; rw [hL]; exact cl_cmp hok
    have CU := Lib.hid CU
    have BB1 : Hid (Below w1.heap.size w1 w1) := Below.refl _ _
    have hL48 : L.length ≤ 48 := by omega
    clear CF K1 hok OL RL hL hs FF hpos h48
    generalize Dg.rA L = rows at *
    generalize rclV n = rc at *
    generalize L.length = N at *
    go_wp2_with fail
    go_loopw [4] (fun q wr => ∃ k : Nat, n.ps.length ≤ k ∧ k ≤ N ∧ q = .int .i64 (k : Nat) ∧ Hid (CutR wr g N n.ps.length k rows) ∧ Hid (Below w.heap.size w wr)) (fun q _ => N - (intOf q).toNat)
    case atStart => exact ⟨n.ps.length, by omega, by omega, rfl, CU, B1⟩
    case round =>
      clear CU B1 c0 c1 c2 BB1 N1
      obtain ⟨wo, rfl⟩ : ∃ wo, wo = wr := ⟨_, rfl⟩
      obtain ⟨k, hpk, hk, rfl, CU, BB⟩ := hrel
      by_cases hlt : k < N
      · obtain ⟨d1, d2⟩ := CU.out.cell hlt
        have CU2 := Lib.hid (CU.out.step hlt hpk)
        have B2 := Lib.hid (BB.out.setCell (show w.heap.size ≤ (Addr.mk g k none).block from Nat.le_of_lt hgw) (.slice none 0 0))
        rw [if_neg (by omega)] at d1
        clear CU BB FIN hF E
        go_wp2
        go_roundw
        case rel => exact ⟨k + 1, by omega, by omega, by go_num, CU2, B2⟩
        case measure => simp [intOf]; omega
      · have hkN : k = N := by omega
        rw [hkN] at CU
        have CB := Lib.hid (rboth_any _ N cap _ rc _ wo (FIN.out wo CU.out) (by omega) hF.out)
        clear CU FIN hF
        go_wp2_with fail
        refine CB.out.mono ?_
        rintro e w2 ⟨A2, c2, RA2, RK2, rfl, G2, K2⟩
        have B2 := Lib.hid (BB.out.trans (K2.mono BB.out.size))
        have CO := Lib.hid (Dg.rcomponents_any A2 N c2 RA2 (bothV rc N) RK2 w2 G2)
        rw [E.out] at CO
        unfold Dg.IsPost at CO
        clear K2 G2 CB E
        go_wp2_with fail
        refine CO.out.mono ?_
        rintro e w3 ⟨A3, c3, rfl, R3, K3⟩
        have B3 := Lib.hid (B2.out.trans (K3.mono B2.out.size))
        have R3 := Lib.hid R3
        clear K3 CO
        go_wp2
        go_ret
        exact ⟨A3, c3, rfl, R3.out, B3.out⟩
set_option maxHeartbeats 16000000 in
set_option maxRecDepth 1000000 in
theorem clusters_law (n : NetV) (w : World) (hn : NetW w n) :
    Calls Tryz.prog 5 #[(.agg #[.string n.nm, .slice n.PA n.ps.length n.pc, .slice n.TA n.ts.length n.tc])] w fun e w' => e = .returned (.bool true) ∧ Below w.heap.size w w' := by
  have B0 : Hid (Below w.heap.size w (w.alloc (.cells #[.string n.nm, .slice n.PA n.ps.length n.pc, .slice n.TA n.ts.length n.tc] 25))) := (Below.refl _ _).alloc (Nat.le_refl _) _
  cases hs : smallN n
  · have SM := Lib.hid (fun W (hW : Below w.heap.size w W) => small_no n W (hn.below hW (Nat.le_refl _)) hs)
    go_enter Tryz.func5, Tryz.ntmps5
    go_wp2_with fail
    refine (SM.out _ B0.out).mono ?_
    rintro e w1 ⟨rfl, K⟩
    have B1 : Below w.heap.size w w1 := B0.out.trans (K.mono B0.out.size)
    have BX := Lib.hid (B1.alloc B1.size (.cells #[.string ⟨#[]⟩, .slice none 0 0, .slice none 0 0] 25))
    clear B1 K
    go_wp2_with fail
    refine (alive_any _).mono ?_
    rintro e w2 ⟨rfl, K⟩
    have B2 := Lib.hid (BX.out.trans (K.mono BX.out.size))
    clear K
    go_wp2
    go_ret
    exact ⟨rfl, B2.out⟩
  have hR := Lib.hid (small_ok hn hs)
  have SM := Lib.hid (fun W (hW : Below w.heap.size w W) => small_yes n W (hn.below hW (Nat.le_refl _)) hs)
  clear hs
  go_enter Tryz.func5, Tryz.ntmps5
  go_wp2_with fail
  refine (SM.out _ B0.out).mono ?_
  rintro e w1 ⟨rfl, K⟩
  have B1 : Below w.heap.size w w1 := B0.out.trans (K.mono B0.out.size)
  go_upto_region 10 with fail
  obtain ⟨w2, hw2⟩ : ∃ w2, w2 = w1.alloc (.cells #[.string n.nm, .slice n.PA n.ps.length n.pc, .slice n.TA n.ts.length n.tc] 25) := ⟨_, rfl⟩
  have BW : Hid (Below w.heap.size w w2) := by rw [hw2]; exact B1.alloc B1.size _
  have Q0 : Hid (w2.cell? ⟨w1.heap.size, 0, none⟩ = some (.string n.nm)) := by show _ = _; rw [hw2]; simp
  have Q1 : Hid (w2.cell? ⟨w1.heap.size, 1, none⟩ = some (.slice n.PA n.ps.length n.pc)) := by show _ = _; rw [hw2]; simp
  have Q2 : Hid (w2.cell? ⟨w1.heap.size, 2, none⟩ = some (.slice n.TA n.ts.length n.tc)) := by show _ = _; rw [hw2]; simp
  have SX : Hid (w1.heap.size < w2.heap.size) := by show _ < _; rw [hw2, World.size_alloc]; omega
  have CN : Hid (∀ W, Below w2.heap.size w2 W → NetR W n) := fun W hW => (hR.out.below BW.out (Nat.le_refl _)).below hW (Nat.le_refl _)
  have CP0 : Hid (∀ W, Below w2.heap.size w2 W → Calls Tryz.prog 27 #[(.agg #[.string n.nm, .slice n.PA n.ps.length n.pc, .slice n.TA n.ts.length n.tc])] W (Dg.IsPost W.heap.size W (clL n))) := fun W hW => clust_any n W (CN.out W hW)
  have CR0 : Hid (∀ W, Below w2.heap.size w2 W → Calls Tryz.prog 28 #[(.agg #[.string n.nm, .slice n.PA n.ps.length n.pc, .slice n.TA n.ts.length n.tc])] W (Dg.IsPost W.heap.size W (clL n))) := fun W hW => rclust_any n W (CN.out W hW)
  have hwl := clL_len n
  have SAME : Hid (∀ A B ca cb W, Dg.ReadsV W A (clL n) → Dg.ReadsV W B (clL n) → Calls Tryz.prog 26 #[.slice A (clL n).length ca, .slice B (clL n).length cb] W (VPost W.heap.size W (.bool true))) := fun A B ca cb W h1 h2 => by
    have h := Dg.same_any A B (clL n) (clL n) ca cb W h1 h2 (by omega)
    rw [decide_eq_true rfl] at h
    exact h
  unfold Dg.IsPost at CP0 CR0
  generalize clL n = ws at *
  rw [← hw2]
  clear hw2 B1 K hR SM B0
  generalize w1.heap.size = x at *
  refine wp_region_held_drew (S := fun w' => w'.cell? ⟨x, 0, none⟩ = some (.string n.nm) ∧ w'.cell? ⟨x, 1, none⟩ = some (.slice n.PA n.ps.length n.pc) ∧ w'.cell? ⟨x, 2, none⟩ = some (.slice n.TA n.ts.length n.tc) ∧ Hid (Below w2.heap.size w2 w')) (by kernel_rfl) ?_ (fun hHeld => ?_)
  · exact ⟨Q0.out, Q1.out, Q2.out, (Below.refl _ _).drew⟩
  refine wpAnyH_take (oi := ⟨_, _, _, _, _, _⟩) (i := 0) (v := ?_) rfl (by kernel_rfl) (by kernel_rfl) (by kernel_rfl) (fun _ _ _ h => h) (Or.inl ⟨by rfl, ?yw0⟩) (by assumption) ?rw0
  case yw0 => (intro w hSw; (try dsimp only at hSw); go_simp; (try with_reducible rfl))
  try simp only [Act.put, List.setIfInBounds_toArray, List.set_cons_zero, List.set_cons_succ]
  refine wpAnyH_take (oi := ⟨_, _, _, _, _, _⟩) (i := 2) (v := ?_) rfl (by kernel_rfl) (by kernel_rfl) (by kernel_rfl) (fun _ _ _ h => h) (Or.inl ⟨by rfl, ?yw2⟩) (by assumption) ?rw2
  case yw2 => (intro w hSw; (try dsimp only at hSw); go_simp; (try with_reducible rfl))
  try simp only [Act.put, List.setIfInBounds_toArray, List.set_cons_zero, List.set_cons_succ]
  refine wpAnyH_ready (rs := [1]) (by kernel_rfl) (by simp) ?_
  refine AllReadyH.cons (o := ⟨_, _, _, _, _, _⟩) rfl (fun K hK => ?_) AllReadyH.nil
  go_simp
  go_at_call 27; refine (CP0.out _ hHeld.2.2.2.out).mono ?_; rintro e x1 ⟨A1, c1, rfl, R1, L1⟩; (try go_wp2_with fail)
  refine hK.out _ _ ?_ (fun hHeld2 => ?_)
  · obtain ⟨h1, h2, h3, h4⟩ := hHeld; have hz := h4.out.size; exact ⟨(L1.cell (Nat.lt_of_lt_of_le SX.out hz)).trans h1, (L1.cell (Nat.lt_of_lt_of_le SX.out hz)).trans h2, (L1.cell (Nat.lt_of_lt_of_le SX.out hz)).trans h3, h4.out.trans (L1.mono hz)⟩
  clear hK K hHeld
  have hHeld := hHeld2
  clear hHeld2
  try simp only [Act.put, List.setIfInBounds_toArray, List.set_cons_zero, List.set_cons_succ]
  refine wpAnyH_ready (rs := [3]) (by kernel_rfl) (by simp) ?_
  refine AllReadyH.cons (o := ⟨_, _, _, _, _, _⟩) rfl (fun K hK => ?_) AllReadyH.nil
  go_simp
  go_at_call 28; refine (CR0.out _ hHeld.2.2.2.out).mono ?_; rintro e x3 ⟨A3, c3, rfl, R3, L3⟩; (try go_wp2_with fail)
  refine hK.out _ _ ?_ (fun hHeld2 => ?_)
  · obtain ⟨h1, h2, h3, h4⟩ := hHeld; have hz := h4.out.size; exact ⟨(L3.cell (Nat.lt_of_lt_of_le SX.out hz)).trans h1, (L3.cell (Nat.lt_of_lt_of_le SX.out hz)).trans h2, (L3.cell (Nat.lt_of_lt_of_le SX.out hz)).trans h3, h4.out.trans (L3.mono hz)⟩
  clear hK K hHeld
  have hHeld := hHeld2
  clear hHeld2
  try simp only [Act.put, List.setIfInBounds_toArray, List.set_cons_zero, List.set_cons_succ]
  refine wpAnyH_ready (rs := [4]) (by kernel_rfl) (by simp) ?_
  refine AllReadyH.cons (o := ⟨_, _, _, _, _, _⟩) rfl (fun K hK => ?_) AllReadyH.nil
  go_simp
  go_at_call 26; refine (SAME.out A1 A3 c1 c3 _ (R1.below L3 (Nat.le_refl _)) R3).mono ?_; rintro e x4 ⟨rfl, L4⟩; (try go_wp2_with fail)
  refine hK.out _ _ ?_ (fun hHeld2 => ?_)
  · obtain ⟨h1, h2, h3, h4⟩ := hHeld; have hz := h4.out.size; exact ⟨(L4.cell (Nat.lt_of_lt_of_le SX.out hz)).trans h1, (L4.cell (Nat.lt_of_lt_of_le SX.out hz)).trans h2, (L4.cell (Nat.lt_of_lt_of_le SX.out hz)).trans h3, h4.out.trans (L4.mono hz)⟩
  clear hK K hHeld
  have hHeld := hHeld2
  clear hHeld2
  try simp only [Act.put, List.setIfInBounds_toArray, List.set_cons_zero, List.set_cons_succ]
  refine wpAnyH_take (oi := ⟨_, _, _, _, _, _⟩) (i := 5) (v := ?_) rfl (by kernel_rfl) (by kernel_rfl) (by kernel_rfl) (fun _ _ _ h => h) (Or.inl ⟨by rfl, ?yw5⟩) (by assumption) ?rw5
  case yw5 => (intro w hSw; (try dsimp only at hSw); go_simp; (try with_reducible rfl))
  try simp only [Act.put, List.setIfInBounds_toArray, List.set_cons_zero, List.set_cons_succ]
  refine wpAnyH_ready (rs := [6]) (by kernel_rfl) (by simp) ?_
  refine AllReadyH.cons (o := ⟨_, _, _, _, _, _⟩) rfl (fun K hK => ?_) AllReadyH.nil
  go_simp
  go_at_call 8; refine (alive_any _).mono ?_; rintro e x6 ⟨rfl, L6⟩; (try go_wp2_with fail)
  refine hK.out _ _ ?_ (fun hHeld2 => ?_)
  · obtain ⟨h1, h2, h3, h4⟩ := hHeld; have hz := h4.out.size; exact ⟨(L6.cell (Nat.lt_of_lt_of_le SX.out hz)).trans h1, (L6.cell (Nat.lt_of_lt_of_le SX.out hz)).trans h2, (L6.cell (Nat.lt_of_lt_of_le SX.out hz)).trans h3, h4.out.trans (L6.mono hz)⟩
  clear hK K hHeld
  have hHeld := hHeld2
  clear hHeld2
  try simp only [Act.put, List.setIfInBounds_toArray, List.set_cons_zero, List.set_cons_succ]
  refine wpAnyH_take (oi := ⟨_, _, _, _, _, _⟩) (i := 7) (v := ?_) rfl (by kernel_rfl) (by kernel_rfl) (by kernel_rfl) (fun _ _ _ h => h) (Or.inl ⟨by rfl, ?yw7⟩) (by assumption) ?rw7
  case yw7 => (intro w hSw; (try dsimp only at hSw); go_simp; (try with_reducible rfl))
  try simp only [Act.put, List.setIfInBounds_toArray, List.set_cons_zero, List.set_cons_succ]
  refine wpAnyH_take (oi := ⟨_, _, _, _, _, _⟩) (i := 8) (v := ?_) rfl (by kernel_rfl) (by kernel_rfl) (by kernel_rfl) (fun _ _ _ h => h) (Or.inl ⟨by rfl, ?yw8⟩) (by assumption) ?rw8
  case yw8 => (intro w hSw; (try dsimp only at hSw); go_simp; (try with_reducible rfl))
  try simp only [Act.put, List.setIfInBounds_toArray, List.set_cons_zero, List.set_cons_succ]
  refine wpAnyH_done (by kernel_rfl) ?_ _
  have BF := Lib.hid (BW.out.trans (hHeld.2.2.2.out.mono BW.out.size))
  clear hHeld
  go_wp2
  go_ret
  exact ⟨rfl, BF.out⟩
end Go.Proofs.YtlbcdnobpnllkaaGreat
