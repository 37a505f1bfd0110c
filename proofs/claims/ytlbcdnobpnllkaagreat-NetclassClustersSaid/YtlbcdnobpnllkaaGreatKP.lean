/- Classes of nets: the least node of each cluster, by the program. -/
import Derived.Test.YtlbcdnobpnllkaaGreatKN
import Derived.Test.YtlbcdnobpnllkaaGreatKI
import Derived.WalkMore
namespace Go.Proofs.YtlbcdnobpnllkaaGreat
open Go.RowKit Go.Deep

/- the leaders, round by round -/
def ldV (c : Nat → Nat) (k v : Nat) : Int := if c v < k then (c v : Int) else -1
def midV (c : Nat → Nat) (k j v : Nat) : Int := if v < j ∧ c v = k then (k : Int) else ldV c k v
theorem ld_zero (c : Nat → Nat) (v : Nat) : ldV c 0 v = -1 := by unfold ldV; rw [if_neg (by omega)]
theorem ld_skip {c : Nat → Nat} {k : Nat} {N : Nat} (h2 : ∀ v, v < N → c (c v) = c v) (hk : c k ≠ k) {v : Nat} (hv : v < N) : ldV c (k + 1) v = ldV c k v := by
  have : c v ≠ k := fun e => by have := h2 v hv; rw [e] at this; exact hk this
  unfold ldV
  by_cases q : c v < k
  · rw [if_pos q, if_pos (by omega)]
  · rw [if_neg q, if_neg (by omega)]
theorem mid_zero (c : Nat → Nat) (k v : Nat) : midV c k 0 v = ldV c k v := by unfold midV; rw [if_neg (by omega)]
theorem mid_end {c : Nat → Nat} {k N v : Nat} (hv : v < N) : midV c k N v = ldV c (k + 1) v := by
  unfold midV ldV
  by_cases q : c v = k
  · rw [if_pos ⟨hv, q⟩, if_pos (by omega), q]
  · rw [if_neg (fun h => q h.2)]
    by_cases r : c v < k
    · rw [if_pos r, if_pos (by omega)]
    · rw [if_neg r, if_neg (by omega)]
theorem mid_yes {c : Nat → Nat} {k j : Nat} (h : c j = k) (v : Nat) : midV c k (j + 1) v = if v = j then (k : Int) else midV c k j v := by
  unfold midV
  by_cases e : v = j
  · rw [if_pos e, if_pos ⟨by omega, by rw [e]; exact h⟩]
  · rw [if_neg e]
    by_cases q : v < j ∧ c v = k
    · rw [if_pos q, if_pos ⟨by omega, q.2⟩]
    · rw [if_neg q, if_neg (fun x => q ⟨by omega, x.2⟩)]
theorem mid_no {c : Nat → Nat} {k j : Nat} (h : c j ≠ k) (v : Nat) : midV c k (j + 1) v = midV c k j v := by
  unfold midV
  by_cases q : v < j ∧ c v = k
  · rw [if_pos q, if_pos ⟨by omega, q.2⟩]
  · rw [if_neg q, if_neg (fun x => q ⟨by
      have : v ≠ j := fun e => h (by rw [← e]; exact x.2)
      omega, x.2⟩)]
theorem ld_at {c : Nat → Nat} {k : Nat} (h : c k ≤ k) : (c k = k → ldV c k k = -1) ∧ (c k ≠ k → 0 ≤ ldV c k k) := by
  unfold ldV
  exact ⟨fun e => by rw [if_neg (by omega)], fun e => by rw [if_pos (by omega)]; omega⟩
theorem reach_cls {R : Nat → List Int} {N : Nat} (hs : ∀ a b, Dg.EdgeR R N a b → Dg.EdgeR R N b a) {k v : Nat} (hk : k < N) (hv : v < N) (hc : Dg.cmpV R N k = k) : Dg.atT (Dg.reachL R N [(k : Int)]) v = decide (Dg.cmpV R N v = k) := by
  have h : Dg.atT (Dg.reachL R N [(k : Int)]) v = true ↔ Dg.cmpV R N v = k := by
    refine (Dg.reach_iff hv).trans ⟨?_, fun e => ⟨k, by simp, by omega, by omega, ?_⟩⟩
    · rintro ⟨x, hx, h0, h1, h2⟩
      have : x = (k : Int) := by simpa using hx
      subst this
      have h2 : Dg.RchR R N k v := h2.imp (fun e => by omega) (fun p => by rw [show ((k : Int)).toNat = k by omega] at p; exact p)
      rw [← hc]
      exact (Dg.cmp_eq hv hk).2 ⟨rch_sym hs h2, h2⟩
    · have h3 : Dg.MutR R N k v := (Dg.cmp_eq hk hv).1 (by rw [hc, e])
      rw [show ((k : Int)).toNat = k by omega]
      exact h3.1
  by_cases e : Dg.cmpV R N v = k
  · rw [h.2 e, decide_eq_true e]
  · rw [decide_eq_false e]
    cases b : Dg.atT (Dg.reachL R N [(k : Int)]) v
    · rfl
    · exact absurd (h.1 b) e
theorem cmp_idem {R : Nat → List Int} {N v : Nat} (hv : v < N) : Dg.cmpV R N (Dg.cmpV R N v) = Dg.cmpV R N v := by
  have h := Dg.cmp_spec (R := R) hv
  exact (Dg.cmp_eq (by omega) hv).2 h.2.1
theorem row_below {w w' : World} {g : Nat} {t : TypeId} {n : Nat} {f : Nat → Value} {B : Nat} (h : w.rowIs g t n f) (hb : Below B w w') (hB : w.heap.size ≤ B) : w'.rowIs g t n f := h.of_block (hb.block g (Nat.lt_of_lt_of_le h.lt hB))
set_option maxHeartbeats 4000000 in
set_option maxRecDepth 100000 in
theorem least_any (gA : Option Addr) (N gc : Nat) (RA : Nat → Option Addr) (R : Nat → List Int) (RK : Nat → Nat) (w : World) (GR : Dg.GraphR w gA N RA R RK) (h1 : 1 ≤ N) (hN : N ≤ 1000) (hs : ∀ a b, Dg.EdgeR R N a b → Dg.EdgeR R N b a) :
    Calls Tryz.prog 73 #[.slice gA N gc] w (Dg.IsPost w.heap.size w (Dg.tab N fun v => (Dg.cmpV R N v : Int))) := by
  have GW := Lib.hid fun W (hW : Below w.heap.size w W) => GR.below hW
  have CI := Lib.hid fun k (hk : k < N) => (Dg.cmp_spec (R := R) hk).1
  have CD := Lib.hid fun k (hk : k < N) => cmp_idem (R := R) hk
  have CH := Lib.hid fun k (hk : k < N) (hc : Dg.cmpV R N k = k) v (hv : v < N) => reach_cls hs hk hv hc
  have CR : Hid (∀ W k, Below w.heap.size w W → W.cell? ⟨W.heap.size - 1, 0, none⟩ = some (.int .i64 ((k : Nat) : Int)) → 0 < W.heap.size → Calls Tryz.prog 42 #[.slice gA N gc, .slice (some ⟨W.heap.size - 1, 0, none⟩) 1 1] W fun e w' => ∃ A c, e = .returned (.slice A N c) ∧ Dg.ReadsT w' A (Dg.reachL R N [(k : Int)]) ∧ (Dg.reachL R N [(k : Int)]).length = N ∧ Below W.heap.size W w') := fun W k hW hc h0 =>
    Dg.reach_any gA N gc RA R RK (some ⟨W.heap.size - 1, 0, none⟩) [(k : Int)] 1 W (GW.out W hW) (fun j hj => ⟨W.heap.size - 1, 0, rfl, by omega, by
      have : j = 0 := by simp at hj; omega
      subst this
      simpa [Dg.at0] using hc⟩) (by simp)
  have TE : Hid (∀ (w' : World) g, w'.rowIs g 3 N (fun v => .int .i64 (ldV (Dg.cmpV R N) N v)) → Below w.heap.size w w' → Dg.IsPost w.heap.size w (Dg.tab N fun v => (Dg.cmpV R N v : Int)) (.returned (.slice (some ⟨g, 0, none⟩) N N)) w') := fun w' g h hb => by
    have e : Dg.tab N (fun v => ldV (Dg.cmpV R N) N v) = Dg.tab N (fun v => (Dg.cmpV R N v : Int)) := by
      unfold Dg.tab
      refine List.map_congr_left fun v hv => ?_
      have hv := List.mem_range.1 hv
      have := CI.out v hv
      unfold ldV
      rw [if_pos (by omega)]
    refine ⟨some ⟨g, 0, none⟩, N, by rw [Dg.tab_len], ?_, hb⟩
    rw [← e]
    exact row_readsV h
  clear GR hs GW
  generalize hcc : Dg.cmpV R N = c at *
  have SK := Lib.hid fun k (hk : c k ≠ k) v (hv : v < N) => ld_skip (N := N) CD.out hk hv
  generalize Dg.reachL R N = rl at *
  generalize hpp : Dg.IsPost w.heap.size w (Dg.tab N fun v => (c v : Int)) = PP at *
  clear hcc hpp CD
  go_enter Tryz.func73, Tryz.ntmps73
  go_wp2_with fail
  go_step3
  go_wp2_with fail
  refine (repeat_any w.heap.size N (w.alloc (.cells #[.int .i64 (-1)] 3)) h1 hN (by simp) (by simp)).mono ?_
  rintro e w1 ⟨rfl, H1, K1⟩
  rw [World.size_alloc] at H1 K1 ⊢
  have B1 := Lib.hid (((Below.refl _ w).alloc (Nat.le_refl _) (.cells #[.int .i64 (-1)] 3)).trans (K1.mono (by omega)))
  have hs1 : w.heap.size + 1 < w1.heap.size := by
    rcases Nat.lt_or_ge (w.heap.size + 1) w1.heap.size with h | h
    · exact h
    · have : w1.heap[w.heap.size + 1]? = none := by simp; omega
      rw [this] at H1; cases H1
  have M0 : Hid (w1.rowIs (w.heap.size + 1) 3 N (fun v => .int .i64 (ldV c 0 v))) := ⟨_, H1, by simp, fun i hi => by
    try dsimp only
    rw [ld_zero]
    simp [List.getElem?_replicate, hi]⟩
  clear H1 K1
  go_wp2_with fail
  go_step3
  go_wp2_with fail
  go_loopw [13] (fun q wr => ∃ k : Nat, k ≤ N ∧ q = .int .i64 (k : Nat) ∧ Hid (wr.rowIs (w.heap.size + 1) 3 N (fun v => .int .i64 (ldV c k v))) ∧ Hid (Below w.heap.size w wr)) (fun q _ => N - (intOf q).toNat)
  case atStart => exact ⟨0, by omega, rfl, M0, B1⟩
  case round =>
    clear M0 B1 hs1
    obtain ⟨wo, rfl⟩ : ∃ wo, wo = wr := ⟨_, rfl⟩
    obtain ⟨k, hk, rfl, MR, BB⟩ := hrel
    by_cases hlt : k < N
    · have c1 := MR.out.cell hlt
      obtain ⟨l1, l2⟩ := ld_at (CI.out k hlt)
      have hso := MR.out.lt
      by_cases hc : c k = k
      · rw [l1 hc] at c1
        have CHk := Lib.hid (CH.out k hlt hc)
        have CRk : Hid (∀ W, Below w.heap.size w W → W.heap.size = wo.heap.size + 1 → W.cell? ⟨wo.heap.size, 0, none⟩ = some (.int .i64 (k : Int)) → _) := fun W hW hz hcell => by
          have h := CR.out W k hW (by rw [hz]; exact hcell) (by omega)
          rw [hz] at h
          exact h
        clear l1 l2 CH CR SK TE CI
        go_wp2_with fail
        refine (CRk.out (wo.alloc (.cells #[.int .i64 (k : Int)] 3)) (BB.out.alloc BB.out.size _) (by rw [World.size_alloc]) (by simp)).mono ?_
        rintro e w2 ⟨A, ac, rfl, RT, hl, K2⟩
        have RT := Lib.hid RT
        have M2 : Hid (w2.rowIs (w.heap.size + 1) 3 N (fun v => .int .i64 (midV c k 0 v))) := by
          show World.rowIs _ _ _ _ _
          refine World.rowIs.congr (row_below (MR.out.alloc (.cells #[.int .i64 (k : Int)] 3)) K2 (by rw [World.size_alloc]; omega)) fun i hi => ?_
          rw [mid_zero]
        have B2 := Lib.hid ((BB.out.alloc BB.out.size (.cells #[.int .i64 (k : Int)] 3)).trans (K2.mono (by have := BB.out.size; omega)))
        have hw2s : wo.heap.size < w2.heap.size := by have := K2.size; rw [World.size_alloc] at this; omega
        have FAR : Hid (∀ (W : World) (j : Nat), w2.heap.size ≤ W.heap.size → True) := fun _ _ _ => trivial
        have RTW : Hid (∀ W : World, (∀ q, q ≠ w.heap.size + 1 → W.heap[q]? = w2.heap[q]?) → ∀ j, j < N → ∃ b off, A = some ⟨b, off, none⟩ ∧ W.cell? ⟨b, off + j, none⟩ = some (.bool (decide (c j = k)))) := fun W hW j hj => by
          obtain ⟨b, off, e, hb, h2⟩ := RT.out j (by rw [hl]; exact hj)
          refine ⟨b, off, e, ?_⟩
          rw [← CHk.out j hj, ← h2]
          refine World.cell?_of_block (w := w2) (a := ⟨b, off + j, none⟩) (hW b fun eb => ?_)
          obtain ⟨cc, hc1, hc2, hc3⟩ := M2.out
          have h3 : w2.cell? ⟨w.heap.size + 1, off + j, none⟩ = some (.bool (Dg.atT (rl [(k : Int)]) j)) := by rw [← eb]; exact h2
          simp only [World.cell?, hc1] at h3
          by_cases q : off + j < N
          · rw [hc3 _ q] at h3
            simp at h3
          · rw [Array.getElem?_eq_none (by omega)] at h3
            simp at h3
        have O2 : Hid (∀ q, q ≠ w.heap.size + 1 → w2.heap[q]? = w2.heap[q]?) := fun _ _ => rfl
        have ME : Hid (∀ v, v < N → midV c k N v = ldV c (k + 1) v) := fun v hv => mid_end hv
        have MY : Hid (∀ j, c j = k → ∀ v, midV c k (j + 1) v = if v = j then (k : Int) else midV c k j v) := fun j h v => mid_yes h v
        have MN : Hid (∀ j, c j ≠ k → ∀ v, midV c k (j + 1) v = midV c k j v) := fun j h v => mid_no h v
        clear K2 RT CHk CRk MR BB hso c1 hl FAR
        generalize midV c k = mv at *
        go_wp2_with fail
        go_loopw [26] (fun q wr => ∃ j : Nat, j ≤ N ∧ q = .int .i64 (j : Nat) ∧ Hid (wr.rowIs (w.heap.size + 1) 3 N (fun v => .int .i64 (mv j v))) ∧ Hid (Below w.heap.size w wr) ∧ Hid (∀ q, q ≠ w.heap.size + 1 → wr.heap[q]? = w2.heap[q]?)) (fun q _ => N - (intOf q).toNat)
        case atStart => exact ⟨0, by omega, rfl, M2, B2, fun _ _ => rfl⟩
        case round =>
          clear M2 B2 O2
          obtain ⟨wp, rfl⟩ : ∃ wp, wp = wr := ⟨_, rfl⟩
          obtain ⟨j, hj, rfl, MR, BB, OO⟩ := hrel
          by_cases hjl : j < N
          · obtain ⟨b, off, rfl, d1⟩ := RTW.out wp OO.out j hjl
            have c1 := MR.out.cell hjl
            have cf := MR.out.frozen j
            by_cases hcj : c j = k
            · rw [decide_eq_true hcj] at d1
              have M3 : Hid ((wp.setCell ⟨w.heap.size + 1, j, none⟩ (.int .i64 (k : Int))).rowIs (w.heap.size + 1) 3 N (fun v => .int .i64 (mv (j + 1) v))) := (MR.out.set j (.int .i64 (k : Int))).congr fun i hi => by
                try dsimp only
                rw [MY.out j hcj i]
                by_cases e : i = j
                · rw [if_pos e, if_pos e]
                · rw [if_neg e, if_neg e]
              have B3 := Lib.hid (BB.out.setCell (show w.heap.size ≤ (Addr.mk (w.heap.size + 1) j none).block from Nat.le_succ _) (.int .i64 (k : Int)))
              have O3 : Hid (∀ q, q ≠ w.heap.size + 1 → (wp.setCell ⟨w.heap.size + 1, j, none⟩ (.int .i64 (k : Int))).heap[q]? = w2.heap[q]?) := fun q hq => (blk_setCell_other _ _ _ _ hq).trans (OO.out q hq)
              clear MR BB OO RTW ME MY MN hcj
              go_wp2
              go_roundw
              case rel => exact ⟨j + 1, by omega, by go_num, M3, B3, O3⟩
              case measure => simp [intOf]; omega
            · rw [decide_eq_false hcj] at d1
              have M3 : Hid (wp.rowIs (w.heap.size + 1) 3 N (fun v => .int .i64 (mv (j + 1) v))) := MR.out.congr fun i hi => by
                try dsimp only
                rw [MN.out j hcj i]
              clear MR RTW ME MY MN hcj
              go_wp2
              go_roundw
              case rel => exact ⟨j + 1, by omega, by go_num, M3, BB, OO⟩
              case measure => simp [intOf]; omega
          · have hjN : j = N := by omega
            have M3 : Hid (wp.rowIs (w.heap.size + 1) 3 N (fun v => .int .i64 (ldV c (k + 1) v))) := MR.out.congr fun i hi => by
              try dsimp only
              rw [hjN, ME.out i hi]
            clear MR RTW ME MY MN hjN
            go_wp2
            go_roundw
            case rel => exact ⟨k + 1, by omega, by go_num, M3, BB⟩
            case measure => simp [intOf]; omega
      · have M3 : Hid (wo.rowIs (w.heap.size + 1) 3 N (fun v => .int .i64 (ldV c (k + 1) v))) := MR.out.congr fun i hi => by
          try dsimp only
          rw [SK.out k hc i hi]
        have h0 := l2 hc
        generalize ldV c k k = x at *
        clear MR l1 l2 CH CR SK TE CI hc
        go_wp2
        go_roundw
        case rel => exact ⟨k + 1, by omega, by go_num, M3, BB⟩
        case measure => simp [intOf]; omega
    · have hkN : k = N := by omega
      have FIN := Lib.hid (TE.out wo (w.heap.size + 1) (by rw [hkN] at MR; exact MR.out) BB.out)
      clear MR BB CH CR SK TE CI
      go_wp2
      exact FIN.out
end Go.Proofs.YtlbcdnobpnllkaaGreat
