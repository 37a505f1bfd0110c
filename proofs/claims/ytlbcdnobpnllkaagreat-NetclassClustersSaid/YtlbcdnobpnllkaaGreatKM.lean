/- Classes of nets: the reference's words. -/
import Derived.Test.YtlbcdnobpnllkaaGreatKL
import Derived.Deep.RegionHeld3
import Derived.Deep.RegionWith
namespace Go.Proofs.YtlbcdnobpnllkaaGreat
open Go.RowKit Go.Deep

theorem words_none {n : NetV} (h : okN n = false) : wordsTo n 9 = [] := by
  have hp : ∀ k, propB n k = false := fun k => by
    unfold propB
    split <;> simp [plainN, ordinaryN, puN, coN, stN, smN, mgN, fcN, asN, h]
  have : ∀ k, wordsTo n k = [] := fun k => by
    induction k with
    | zero => rfl
    | succ k ih => rw [words_no (hp k)]; exact ih
  exact this 9
set_option maxHeartbeats 16000000 in
set_option maxRecDepth 100000 in
theorem rwords_any (n : NetV) (w : World) (hr : NetR w n) :
    Calls Tryz.prog 31 #[(.agg #[.string n.nm, .slice n.PA n.ps.length n.pc, .slice n.TA n.ts.length n.tc])] w (WordsPost w.heap.size w (wordsTo n 9)) := by
  have CV := Lib.hid fun W (hW : Below w.heap.size w W) => rvalidN_any n W (hr.below hW (Nat.le_refl _))
  have P0 : Hid (∀ W, Below w.heap.size w W → Calls Tryz.prog 75 #[(.agg #[.string n.nm, .slice n.PA n.ps.length n.pc, .slice n.TA n.ts.length n.tc])] W (VPost W.heap.size W (.bool (plainN n)))) := fun W hW => rplainN_any n W (hr.below hW (Nat.le_refl _))
  have P1 : Hid (∀ W, Below w.heap.size w W → Calls Tryz.prog 76 #[(.agg #[.string n.nm, .slice n.PA n.ps.length n.pc, .slice n.TA n.ts.length n.tc])] W (VPost W.heap.size W (.bool (ordinaryN n)))) := fun W hW => rordinaryN_any n W (hr.below hW (Nat.le_refl _))
  have P2 : Hid (∀ W, Below w.heap.size w W → Calls Tryz.prog 25 #[(.agg #[.string n.nm, .slice n.PA n.ps.length n.pc, .slice n.TA n.ts.length n.tc])] W (VPost W.heap.size W (.bool (puN n)))) := fun W hW => by rw [puN_eq]; exact rpu_any n W (hr.below hW (Nat.le_refl _))
  have P3 : Hid (∀ W, Below w.heap.size w W → Calls Tryz.prog 13 #[(.agg #[.string n.nm, .slice n.PA n.ps.length n.pc, .slice n.TA n.ts.length n.tc])] W (VPost W.heap.size W (.bool (coN n)))) := fun W hW => rcon_any n W (hr.below hW (Nat.le_refl _))
  have P4 : Hid (∀ W, Below w.heap.size w W → Calls Tryz.prog 15 #[(.agg #[.string n.nm, .slice n.PA n.ps.length n.pc, .slice n.TA n.ts.length n.tc])] W (VPost W.heap.size W (.bool (stN n)))) := fun W hW => rstr_any n W (hr.below hW (Nat.le_refl _))
  have P5 : Hid (∀ W, Below w.heap.size w W → Calls Tryz.prog 17 #[(.agg #[.string n.nm, .slice n.PA n.ps.length n.pc, .slice n.TA n.ts.length n.tc])] W (VPost W.heap.size W (.bool (smN n)))) := fun W hW => by rw [smN_eq]; exact rsm_any n W (hr.below hW (Nat.le_refl _))
  have P6 : Hid (∀ W, Below w.heap.size w W → Calls Tryz.prog 19 #[(.agg #[.string n.nm, .slice n.PA n.ps.length n.pc, .slice n.TA n.ts.length n.tc])] W (VPost W.heap.size W (.bool (mgN n)))) := fun W hW => by rw [mgN_eq]; exact rmg_any n W (hr.below hW (Nat.le_refl _))
  have P7 : Hid (∀ W, Below w.heap.size w W → Calls Tryz.prog 21 #[(.agg #[.string n.nm, .slice n.PA n.ps.length n.pc, .slice n.TA n.ts.length n.tc])] W (VPost W.heap.size W (.bool (fcN n)))) := fun W hW => by rw [fcN_eq]; exact rfc_any n W (hr.below hW (Nat.le_refl _))
  have P8 : Hid (∀ W, Below w.heap.size w W → Calls Tryz.prog 23 #[(.agg #[.string n.nm, .slice n.PA n.ps.length n.pc, .slice n.TA n.ts.length n.tc])] W (VPost W.heap.size W (.bool (asN n)))) := fun W hW => by rw [asN_eq]; exact ras_any n W (hr.below hW (Nat.le_refl _))
  have B0 : Hid (Below w.heap.size w (w.alloc (.cells #[.string n.nm, .slice n.PA n.ps.length n.pc, .slice n.TA n.ts.length n.tc] 25))) := (Below.refl _ _).alloc (Nat.le_refl _) _
  have N0 : Hid (NBox (w.alloc (.cells #[.string n.nm, .slice n.PA n.ps.length n.pc, .slice n.TA n.ts.length n.tc] 25)) w.heap.size n) := NBox.new w n
  have S0 : Hid (w.heap.size < (w.alloc (.cells #[.string n.nm, .slice n.PA n.ps.length n.pc, .slice n.TA n.ts.length n.tc] 25)).heap.size) := by show _ < _; simp
  have LW := Lib.hid (words_len n)
  have WN : Hid (okN n = false → wordsTo n 9 = []) := words_none
  have W0 : Hid (wordsTo n 0 = []) := rfl
  have WY : Hid (∀ k, propB n k = true → wordsTo n (k + 1) = wordsTo n k ++ [nameK k]) := fun k h => words_yes h
  have WZ : Hid (∀ k, propB n k = false → wordsTo n (k + 1) = wordsTo n k) := fun k h => words_no h
  have PB : Hid (∀ j, j < 9 → (#[Value.bool (plainN n), .bool (ordinaryN n), .bool (puN n), .bool (coN n), .bool (stN n), .bool (smN n), .bool (mgN n), .bool (fcN n), .bool (asN n)] : Array Value)[j]? = some (.bool (propB n j))) := fun j hj => by
    obtain rfl | rfl | rfl | rfl | rfl | rfl | rfl | rfl | rfl : j = 0 ∨ j = 1 ∨ j = 2 ∨ j = 3 ∨ j = 4 ∨ j = 5 ∨ j = 6 ∨ j = 7 ∨ j = 8 := by omega
    all_goals rfl
  clear hr
  unfold WordsPost
  generalize okN n = ok at *
  generalize wordsTo n = ws at *
  generalize propB n = pb at *
  generalize plainN n = p0 at *
  generalize ordinaryN n = p1 at *
  generalize puN n = p2 at *
  generalize coN n = p3 at *
  generalize stN n = p4 at *
  generalize smN n = p5 at *
  generalize mgN n = p6 at *
  generalize fcN n = p7 at *
  generalize asN n = p8 at *
  go_enter Tryz.func31, Tryz.ntmps31
  go_wp2_with fail
  refine (CV.out _ B0.out).mono ?_
  rintro e w1 ⟨rfl, K1⟩
  have N1 := Lib.hid (N0.out.below K1 S0.out)
  have B1 := Lib.hid (B0.out.trans (K1.mono B0.out.size))
  have S1 : Hid (w.heap.size < w1.heap.size) := Nat.lt_of_lt_of_le S0.out K1.size
  clear K1
  obtain ⟨c0, c1, c2⟩ := N1.out
  cases ok
  · have E := Lib.hid (WN.out rfl)
    clear CV P0 P1 P2 P3 P4 P5 P6 P7 P8 PB WY WZ LW W0 WN
    go_wp2
    go_ret
    exact ⟨none, 0, by rw [E.out]; rfl, fun j hj => absurd hj (by rw [E.out]; simp), B1.out⟩
  · clear CV WN N0 B0 S0
    go_upto_region 10 with fail
    generalize hw2 : World.alloc w1 _ = w2
    have WS : Hid (∀ j, j < 9 → w2.cell? ⟨w1.heap.size, j, none⟩ = some (.string (nameK j))) := fun j hj => by
      rw [← hw2, World.cell?_alloc_new]
      obtain rfl | rfl | rfl | rfl | rfl | rfl | rfl | rfl | rfl : j = 0 ∨ j = 1 ∨ j = 2 ∨ j = 3 ∨ j = 4 ∨ j = 5 ∨ j = 6 ∨ j = 7 ∨ j = 8 := by omega
      all_goals rfl
    have SZ2 : Hid (w.heap.size < w2.heap.size) := by show _ < _; rw [← hw2, World.size_alloc]; have := S1.out; omega
    have SW2 : Hid (w1.heap.size < w2.heap.size) := by show _ < _; rw [← hw2, World.size_alloc]; omega
    have BW : Hid (∀ W, Below w2.heap.size w2 W → Below w.heap.size w W) := fun W hW => B1.out.trans ((show Below w.heap.size w1 w2 by rw [← hw2]; exact (Below.refl _ _).alloc (Nat.le_of_lt S1.out) _).trans (hW.mono (Nat.le_of_lt SZ2.out)))
    have N2 : NBox w2 w.heap.size n := N1.out.below (B := w1.heap.size) (by rw [← hw2]; exact (Below.refl _ _).alloc (Nat.le_refl _) _) S1.out
    clear c0 c1 c2 hw2 N1
    obtain ⟨c0, c1, c2⟩ := N2
    refine wp_region_held_drew (S := fun w' => w'.cell? ⟨w.heap.size, 0, none⟩ = some (.string n.nm) ∧ w'.cell? ⟨w.heap.size, 1, none⟩ = some (.slice n.PA n.ps.length n.pc) ∧ w'.cell? ⟨w.heap.size, 2, none⟩ = some (.slice n.TA n.ts.length n.tc) ∧ Hid (Below w2.heap.size w2 w')) (by kernel_rfl) ?_ (fun hHeld => ?_)
    · exact ⟨c0, c1, c2, (Below.refl _ _).drew⟩
    refine wpAnyH_take (oi := ⟨_, _, _, _, _, _⟩) (i := 0) (v := ?_) rfl (by kernel_rfl) (by kernel_rfl) (by kernel_rfl) (fun _ _ _ h => h) (Or.inl ⟨by rfl, ?yw0⟩) (by assumption) ?rw0
    case yw0 => (intro w hSw; (try dsimp only at hSw); go_simp; (try with_reducible rfl))
    try simp only [Act.put, List.setIfInBounds_toArray, List.set_cons_zero, List.set_cons_succ]
    refine wpAnyH_take (oi := ⟨_, _, _, _, _, _⟩) (i := 2) (v := ?_) rfl (by kernel_rfl) (by kernel_rfl) (by kernel_rfl) (fun _ _ _ h => h) (Or.inl ⟨by rfl, ?yw2⟩) (by assumption) ?rw2
    case yw2 => (intro w hSw; (try dsimp only at hSw); go_simp; (try with_reducible rfl))
    try simp only [Act.put, List.setIfInBounds_toArray, List.set_cons_zero, List.set_cons_succ]
    refine wpAnyH_take (oi := ⟨_, _, _, _, _, _⟩) (i := 4) (v := ?_) rfl (by kernel_rfl) (by kernel_rfl) (by kernel_rfl) (fun _ _ _ h => h) (Or.inl ⟨by rfl, ?yw4⟩) (by assumption) ?rw4
    case yw4 => (intro w hSw; (try dsimp only at hSw); go_simp; (try with_reducible rfl))
    try simp only [Act.put, List.setIfInBounds_toArray, List.set_cons_zero, List.set_cons_succ]
    refine wpAnyH_take (oi := ⟨_, _, _, _, _, _⟩) (i := 6) (v := ?_) rfl (by kernel_rfl) (by kernel_rfl) (by kernel_rfl) (fun _ _ _ h => h) (Or.inl ⟨by rfl, ?yw6⟩) (by assumption) ?rw6
    case yw6 => (intro w hSw; (try dsimp only at hSw); go_simp; (try with_reducible rfl))
    try simp only [Act.put, List.setIfInBounds_toArray, List.set_cons_zero, List.set_cons_succ]
    refine wpAnyH_take (oi := ⟨_, _, _, _, _, _⟩) (i := 8) (v := ?_) rfl (by kernel_rfl) (by kernel_rfl) (by kernel_rfl) (fun _ _ _ h => h) (Or.inl ⟨by rfl, ?yw8⟩) (by assumption) ?rw8
    case yw8 => (intro w hSw; (try dsimp only at hSw); go_simp; (try with_reducible rfl))
    try simp only [Act.put, List.setIfInBounds_toArray, List.set_cons_zero, List.set_cons_succ]
    refine wpAnyH_take (oi := ⟨_, _, _, _, _, _⟩) (i := 10) (v := ?_) rfl (by kernel_rfl) (by kernel_rfl) (by kernel_rfl) (fun _ _ _ h => h) (Or.inl ⟨by rfl, ?yw10⟩) (by assumption) ?rw10
    case yw10 => (intro w hSw; (try dsimp only at hSw); go_simp; (try with_reducible rfl))
    try simp only [Act.put, List.setIfInBounds_toArray, List.set_cons_zero, List.set_cons_succ]
    refine wpAnyH_take (oi := ⟨_, _, _, _, _, _⟩) (i := 12) (v := ?_) rfl (by kernel_rfl) (by kernel_rfl) (by kernel_rfl) (fun _ _ _ h => h) (Or.inl ⟨by rfl, ?yw12⟩) (by assumption) ?rw12
    case yw12 => (intro w hSw; (try dsimp only at hSw); go_simp; (try with_reducible rfl))
    try simp only [Act.put, List.setIfInBounds_toArray, List.set_cons_zero, List.set_cons_succ]
    refine wpAnyH_take (oi := ⟨_, _, _, _, _, _⟩) (i := 14) (v := ?_) rfl (by kernel_rfl) (by kernel_rfl) (by kernel_rfl) (fun _ _ _ h => h) (Or.inl ⟨by rfl, ?yw14⟩) (by assumption) ?rw14
    case yw14 => (intro w hSw; (try dsimp only at hSw); go_simp; (try with_reducible rfl))
    try simp only [Act.put, List.setIfInBounds_toArray, List.set_cons_zero, List.set_cons_succ]
    refine wpAnyH_take (oi := ⟨_, _, _, _, _, _⟩) (i := 16) (v := ?_) rfl (by kernel_rfl) (by kernel_rfl) (by kernel_rfl) (fun _ _ _ h => h) (Or.inl ⟨by rfl, ?yw16⟩) (by assumption) ?rw16
    case yw16 => (intro w hSw; (try dsimp only at hSw); go_simp; (try with_reducible rfl))
    try simp only [Act.put, List.setIfInBounds_toArray, List.set_cons_zero, List.set_cons_succ]
    refine wpAnyH_ready (rs := [1]) (by kernel_rfl) (by simp) ?_
    refine AllReadyH.cons (o := ⟨_, _, _, _, _, _⟩) rfl (fun K hK => ?_) AllReadyH.nil
    go_simp
    go_at_call 75; refine (P0.out _ (BW.out _ hHeld.2.2.2.out)).mono ?_; rintro e x0 ⟨rfl, L0⟩; (try go_wp2_with fail)
    refine hK.out _ _ ?_ (fun hHeld2 => ?_)
    · obtain ⟨h1, h2, h3, h4⟩ := hHeld; have hz := h4.out.size; exact ⟨(L0.cell (Nat.lt_of_lt_of_le SZ2.out hz)).trans h1, (L0.cell (Nat.lt_of_lt_of_le SZ2.out hz)).trans h2, (L0.cell (Nat.lt_of_lt_of_le SZ2.out hz)).trans h3, h4.out.trans (L0.mono hz)⟩
    clear hK K hHeld
    have hHeld := hHeld2
    clear hHeld2
    try simp only [Act.put, List.setIfInBounds_toArray, List.set_cons_zero, List.set_cons_succ]
    refine wpAnyH_ready (rs := [3]) (by kernel_rfl) (by simp) ?_
    refine AllReadyH.cons (o := ⟨_, _, _, _, _, _⟩) rfl (fun K hK => ?_) AllReadyH.nil
    go_simp
    go_at_call 76; refine (P1.out _ (BW.out _ hHeld.2.2.2.out)).mono ?_; rintro e x1 ⟨rfl, L1⟩; (try go_wp2_with fail)
    refine hK.out _ _ ?_ (fun hHeld2 => ?_)
    · obtain ⟨h1, h2, h3, h4⟩ := hHeld; have hz := h4.out.size; exact ⟨(L1.cell (Nat.lt_of_lt_of_le SZ2.out hz)).trans h1, (L1.cell (Nat.lt_of_lt_of_le SZ2.out hz)).trans h2, (L1.cell (Nat.lt_of_lt_of_le SZ2.out hz)).trans h3, h4.out.trans (L1.mono hz)⟩
    clear hK K hHeld
    have hHeld := hHeld2
    clear hHeld2
    try simp only [Act.put, List.setIfInBounds_toArray, List.set_cons_zero, List.set_cons_succ]
    refine wpAnyH_ready (rs := [5]) (by kernel_rfl) (by simp) ?_
    refine AllReadyH.cons (o := ⟨_, _, _, _, _, _⟩) rfl (fun K hK => ?_) AllReadyH.nil
    go_simp
    go_at_call 25; refine (P2.out _ (BW.out _ hHeld.2.2.2.out)).mono ?_; rintro e x2 ⟨rfl, L2⟩; (try go_wp2_with fail)
    refine hK.out _ _ ?_ (fun hHeld2 => ?_)
    · obtain ⟨h1, h2, h3, h4⟩ := hHeld; have hz := h4.out.size; exact ⟨(L2.cell (Nat.lt_of_lt_of_le SZ2.out hz)).trans h1, (L2.cell (Nat.lt_of_lt_of_le SZ2.out hz)).trans h2, (L2.cell (Nat.lt_of_lt_of_le SZ2.out hz)).trans h3, h4.out.trans (L2.mono hz)⟩
    clear hK K hHeld
    have hHeld := hHeld2
    clear hHeld2
    try simp only [Act.put, List.setIfInBounds_toArray, List.set_cons_zero, List.set_cons_succ]
    refine wpAnyH_ready (rs := [7]) (by kernel_rfl) (by simp) ?_
    refine AllReadyH.cons (o := ⟨_, _, _, _, _, _⟩) rfl (fun K hK => ?_) AllReadyH.nil
    go_simp
    go_at_call 13; refine (P3.out _ (BW.out _ hHeld.2.2.2.out)).mono ?_; rintro e x3 ⟨rfl, L3⟩; (try go_wp2_with fail)
    refine hK.out _ _ ?_ (fun hHeld2 => ?_)
    · obtain ⟨h1, h2, h3, h4⟩ := hHeld; have hz := h4.out.size; exact ⟨(L3.cell (Nat.lt_of_lt_of_le SZ2.out hz)).trans h1, (L3.cell (Nat.lt_of_lt_of_le SZ2.out hz)).trans h2, (L3.cell (Nat.lt_of_lt_of_le SZ2.out hz)).trans h3, h4.out.trans (L3.mono hz)⟩
    clear hK K hHeld
    have hHeld := hHeld2
    clear hHeld2
    try simp only [Act.put, List.setIfInBounds_toArray, List.set_cons_zero, List.set_cons_succ]
    refine wpAnyH_ready (rs := [9]) (by kernel_rfl) (by simp) ?_
    refine AllReadyH.cons (o := ⟨_, _, _, _, _, _⟩) rfl (fun K hK => ?_) AllReadyH.nil
    go_simp
    go_at_call 15; refine (P4.out _ (BW.out _ hHeld.2.2.2.out)).mono ?_; rintro e x4 ⟨rfl, L4⟩; (try go_wp2_with fail)
    refine hK.out _ _ ?_ (fun hHeld2 => ?_)
    · obtain ⟨h1, h2, h3, h4⟩ := hHeld; have hz := h4.out.size; exact ⟨(L4.cell (Nat.lt_of_lt_of_le SZ2.out hz)).trans h1, (L4.cell (Nat.lt_of_lt_of_le SZ2.out hz)).trans h2, (L4.cell (Nat.lt_of_lt_of_le SZ2.out hz)).trans h3, h4.out.trans (L4.mono hz)⟩
    clear hK K hHeld
    have hHeld := hHeld2
    clear hHeld2
    try simp only [Act.put, List.setIfInBounds_toArray, List.set_cons_zero, List.set_cons_succ]
    refine wpAnyH_ready (rs := [11]) (by kernel_rfl) (by simp) ?_
    refine AllReadyH.cons (o := ⟨_, _, _, _, _, _⟩) rfl (fun K hK => ?_) AllReadyH.nil
    go_simp
    go_at_call 17; refine (P5.out _ (BW.out _ hHeld.2.2.2.out)).mono ?_; rintro e x5 ⟨rfl, L5⟩; (try go_wp2_with fail)
    refine hK.out _ _ ?_ (fun hHeld2 => ?_)
    · obtain ⟨h1, h2, h3, h4⟩ := hHeld; have hz := h4.out.size; exact ⟨(L5.cell (Nat.lt_of_lt_of_le SZ2.out hz)).trans h1, (L5.cell (Nat.lt_of_lt_of_le SZ2.out hz)).trans h2, (L5.cell (Nat.lt_of_lt_of_le SZ2.out hz)).trans h3, h4.out.trans (L5.mono hz)⟩
    clear hK K hHeld
    have hHeld := hHeld2
    clear hHeld2
    try simp only [Act.put, List.setIfInBounds_toArray, List.set_cons_zero, List.set_cons_succ]
    refine wpAnyH_ready (rs := [13]) (by kernel_rfl) (by simp) ?_
    refine AllReadyH.cons (o := ⟨_, _, _, _, _, _⟩) rfl (fun K hK => ?_) AllReadyH.nil
    go_simp
    go_at_call 19; refine (P6.out _ (BW.out _ hHeld.2.2.2.out)).mono ?_; rintro e x6 ⟨rfl, L6⟩; (try go_wp2_with fail)
    refine hK.out _ _ ?_ (fun hHeld2 => ?_)
    · obtain ⟨h1, h2, h3, h4⟩ := hHeld; have hz := h4.out.size; exact ⟨(L6.cell (Nat.lt_of_lt_of_le SZ2.out hz)).trans h1, (L6.cell (Nat.lt_of_lt_of_le SZ2.out hz)).trans h2, (L6.cell (Nat.lt_of_lt_of_le SZ2.out hz)).trans h3, h4.out.trans (L6.mono hz)⟩
    clear hK K hHeld
    have hHeld := hHeld2
    clear hHeld2
    try simp only [Act.put, List.setIfInBounds_toArray, List.set_cons_zero, List.set_cons_succ]
    refine wpAnyH_ready (rs := [15]) (by kernel_rfl) (by simp) ?_
    refine AllReadyH.cons (o := ⟨_, _, _, _, _, _⟩) rfl (fun K hK => ?_) AllReadyH.nil
    go_simp
    go_at_call 21; refine (P7.out _ (BW.out _ hHeld.2.2.2.out)).mono ?_; rintro e x7 ⟨rfl, L7⟩; (try go_wp2_with fail)
    refine hK.out _ _ ?_ (fun hHeld2 => ?_)
    · obtain ⟨h1, h2, h3, h4⟩ := hHeld; have hz := h4.out.size; exact ⟨(L7.cell (Nat.lt_of_lt_of_le SZ2.out hz)).trans h1, (L7.cell (Nat.lt_of_lt_of_le SZ2.out hz)).trans h2, (L7.cell (Nat.lt_of_lt_of_le SZ2.out hz)).trans h3, h4.out.trans (L7.mono hz)⟩
    clear hK K hHeld
    have hHeld := hHeld2
    clear hHeld2
    try simp only [Act.put, List.setIfInBounds_toArray, List.set_cons_zero, List.set_cons_succ]
    refine wpAnyH_ready (rs := [17]) (by kernel_rfl) (by simp) ?_
    refine AllReadyH.cons (o := ⟨_, _, _, _, _, _⟩) rfl (fun K hK => ?_) AllReadyH.nil
    go_simp
    go_at_call 23; refine (P8.out _ (BW.out _ hHeld.2.2.2.out)).mono ?_; rintro e x8 ⟨rfl, L8⟩; (try go_wp2_with fail)
    refine hK.out _ _ ?_ (fun hHeld2 => ?_)
    · obtain ⟨h1, h2, h3, h4⟩ := hHeld; have hz := h4.out.size; exact ⟨(L8.cell (Nat.lt_of_lt_of_le SZ2.out hz)).trans h1, (L8.cell (Nat.lt_of_lt_of_le SZ2.out hz)).trans h2, (L8.cell (Nat.lt_of_lt_of_le SZ2.out hz)).trans h3, h4.out.trans (L8.mono hz)⟩
    clear hK K hHeld
    have hHeld := hHeld2
    clear hHeld2
    try simp only [Act.put, List.setIfInBounds_toArray, List.set_cons_zero, List.set_cons_succ]
    refine wpAnyH_ready (rs := [18]) (by kernel_rfl) (by simp) ?_
    refine AllReadyH.cons (o := ⟨_, _, _, _, _, _⟩) rfl (fun K hK => ?_) AllReadyH.nil
    go_simp
    refine hK.out _ _ ?_ (fun hHeld2 => ?_)
    · obtain ⟨h1, h2, h3, h4⟩ := hHeld; have hz := h4.out.size; exact ⟨World.cell?_alloc_some _ _ _ (by rw [h1]; rfl) ▸ h1, World.cell?_alloc_some _ _ _ (by rw [h2]; rfl) ▸ h2, World.cell?_alloc_some _ _ _ (by rw [h3]; rfl) ▸ h3, h4.out.alloc hz _⟩
    have HB8 := Lib.hid hHeld.2.2.2.out
    clear hK K hHeld
    have hHeld := hHeld2
    clear hHeld2
    try simp only [Act.put, List.setIfInBounds_toArray, List.set_cons_zero, List.set_cons_succ]
    refine wpAnyH_take (oi := ⟨_, _, _, _, _, _⟩) (i := 19) (v := ?_) rfl (by kernel_rfl) (by kernel_rfl) (by kernel_rfl) (fun _ _ _ h => h) (Or.inl ⟨by rfl, ?yw19⟩) (by assumption) ?rw19
    case yw19 => (intro w hSw; (try dsimp only at hSw); go_simp; (try with_reducible rfl))
    try simp only [Act.put, List.setIfInBounds_toArray, List.set_cons_zero, List.set_cons_succ]
    refine wpAnyH_done (by kernel_rfl) ?_ _
    obtain ⟨_, _, _, hB8⟩ := hHeld
    have hz8 : w2.heap.size ≤ x8.heap.size := HB8.out.size
    generalize hw3 : World.alloc x8 _ = w3 at *
    have AS : Hid (∀ j, j < 9 → w3.cell? ⟨x8.heap.size, j, none⟩ = some (.bool (pb j))) := fun j hj => by
      rw [← hw3, World.cell?_alloc_new]
      exact PB.out j hj
    have AL : Hid (x8.heap.size < w3.heap.size) := by show _ < _; rw [← hw3, World.size_alloc]; omega
    have B3 := Lib.hid (BW.out _ hB8.out)
    have WS3 : Hid (∀ W, Below w3.heap.size w3 W → ∀ j, j < 9 → W.cell? ⟨w1.heap.size, j, none⟩ = some (.string (nameK j)) ∧ W.cell? ⟨x8.heap.size, j, none⟩ = some (.bool (pb j))) := fun W hW j hj =>
      ⟨(hW.cell (by show w1.heap.size < w3.heap.size; have := AL.out; have := SW2.out; omega)).trans ((hB8.out.cell (by exact SW2.out)).trans (WS.out j hj)), (hW.cell (by exact AL.out)).trans (AS.out j hj)⟩
    have O0 : Hid (OwnS w3 w3.heap.size (.slice none 0 0) (ws 0)) := by show OwnS _ _ _ _; rw [W0.out]; exact ⟨rfl, Or.inl ⟨rfl, rfl⟩⟩
    have K0 : Hid (Below w3.heap.size w3 w3) := Below.refl _ _
    have S3 : Hid (w.heap.size < w3.heap.size) := by show _ < _; have := AL.out; have := SZ2.out; omega
    clear P0 P1 P2 P3 P4 P5 P6 P7 P8 PB L0 L1 L2 L3 L4 L5 L6 L7 L8 HB8 hB8 hw3 c0 c1 c2 WS BW AS hz8 SW2 SZ2 W0
    go_wp2_with fail
    go_loopw [6, 5] (fun q ov wr => ∃ k : Nat, k ≤ 9 ∧ q = .int .i64 (k : Nat) ∧ Hid (OwnS wr w3.heap.size ov (ws k)) ∧ Hid (Below w3.heap.size w3 wr)) (fun q _ _ => 9 - (intOf q).toNat)
    case atStart => exact ⟨0, by omega, rfl, O0, K0⟩
    case round =>
      clear O0 K0
      obtain ⟨wo, rfl⟩ : ∃ wo, wo = wr := ⟨_, rfl⟩
      obtain ⟨k, hk, rfl, OW, BB⟩ := hrel
      have hsz := BB.out.size
      by_cases hlt : k < 9
      · obtain ⟨d0, d1⟩ := WS3.out wo BB.out k hlt
        have WYk := Lib.hid (WY.out k)
        have WZk := Lib.hid (WZ.out k)
        have lw := LW.out k
        have hlt2 : (k : Int) < 9 := by omega
        clear WS3 WY WZ LW
        generalize nameK k = nm at *
        cases hp : pb k
        · rw [hp] at d1
          have O2 : Hid (OwnS wo w3.heap.size u5 (ws (k + 1))) := by show OwnS _ _ _ _; rw [WZk.out hp]; exact OW.out
          clear OW WYk WZk hp
          go_wp2
          go_roundw
          case rel => exact ⟨k + 1, by omega, by go_num, O2, BB⟩
          case measure => simp [intOf]; omega
        · rw [hp] at d1
          have E := Lib.hid (WYk.out hp)
          clear WYk WZk hp
          go_wp2_with (at_builtin; go_loud (refine wpList_str rfl (.tmp 40) (.tmp 45) rfl w3.heap.size u5 (ws k) nm rfl (OW.out.alloc _) wo.heap.size rfl (by simp) (by omega) (by rw [World.size_alloc]; omega) ?_); intro v' w6 ho6 hb6; have O6 : Hid (OwnS w6 w3.heap.size v' (ws k ++ [nm])) := ho6; have B6 := Lib.hid ((BB.out.alloc hsz _).trans hb6); clear ho6 hb6)
          have O7 : Hid (OwnS w6 w3.heap.size v' (ws (k + 1))) := by show OwnS _ _ _ _; rw [E.out]; exact O6.out
          go_roundw
          case rel => exact ⟨k + 1, by omega, by go_num, O7, B6⟩
          case measure => simp [intOf]; omega
      · obtain rfl : k = 9 := by omega
        obtain ⟨A, c, ev, R⟩ := OW.out.reads
        subst ev
        have R := Lib.hid R
        have BF := Lib.hid (B3.out.trans (BB.out.mono (Nat.le_of_lt S3.out)))
        clear OW WS3 WY WZ
        go_wp2
        go_ret
        exact ⟨A, c, rfl, R.out, BF.out⟩
end Go.Proofs.YtlbcdnobpnllkaaGreat
