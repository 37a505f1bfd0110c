/- Runs of a net by weights: Many. Runs of a net by weights: the reference's Many. Runs of a net by weights: the reference's Many walked. The law on the statistics of several runs. -/
import Derived.Test.YtpfkkjgklhcejaaSV
import Derived.Deep.DeepCutAuto
import Derived.Deep.Cut
import Derived.Deep.CutBlock
import Derived.Deep.RegionWith
import Derived.Test.YtpfkkjgklhcejaaSX
namespace Go.Proofs.Ytpfkkjgklhcejaa
open Go.RowKit

theorem ready_make {w : World} {Y : Nat → Option Bool} {o : Oper} {a : Act} {K : Act → World → Prop} {Q : Exit → Act → World → Prop}
    (hg : o.guard = none) (l c : Operand) (t : TypeId) (hop : o.op = Op.makeSlice t l c)
    (base : Nat) (e : TypeId) (i : TypeInfo) (z : Value) (size : Nat) (h1 : Try.prog.underlying t = some (.slice e)) (h2 : Try.prog.info? e = some i) (h3 : i.zero = some z) (h4 : i.size = size)
    (kl kc : IntKind) (L C : Int) (n : Nat) (hl : a.eval l = .int kl L) (hc : a.eval c = .int kc C) (hL : L = (n : Int)) (hC : C = (n : Int)) (b2 : i.bytes * n ≤ 281474976710656) (b3 : n ≤ maxLen) (b4 : base ≤ w.heap.size)
    (hK : ∀ w', w'.ownsRow base e size (.slice (some ⟨w.heap.size, 0, none⟩) n n) n (madeCells z.cells (n * size)).toList → w.grownBy w' none → K (a.put o.dst (.slice (some ⟨w.heap.size, 0, none⟩) n n)) w') :
    if Region.wanted o Y = true then Oper.wp Try.prog o a w K Q else K (a.put o.dst undef) w := by
  have hw : Region.wanted o Y = true := by simp [Region.wanted, hg]
  rw [if_pos hw]
  obtain ⟨w', hrun, r1, r2⟩ := run_make_full (P := Try.prog) w base t e i z size h1 h2 h3 h4 kl kc n b2 b3 b4
  subst hL
  subst hC
  unfold Oper.wp
  simp [execOp, hop, hl, hc, hrun, Result.andThen]
  exact hK w' r1 r2

set_option maxHeartbeats 32000000 in
set_option maxRecDepth 100000 in
theorem smany_any (n : NetV) (A : Option Addr) (ws : List Int) (c s0 : Nat) (steps runs : Int) (w : World) (hr : NetR w n) (hw : ReadsV w A ws) (hl : ws.length ≤ 9223372036854775806) :
    Calls Try.prog 16 #[.agg #[.string n.nm, .slice n.PA n.ps.length n.pc, .slice n.TA n.ts.length n.tc], .slice A ws.length c, .int .u64 (s0 : Nat), .int .i64 steps, .int .i64 runs] w (MPost w.heap.size w n.ts.length (manyV n ws steps runs s0)) := by
  have CK : Hid (∀ W, Below w.heap.size w W → Calls Try.prog 23 #[.agg #[.string n.nm, .slice n.PA n.ps.length n.pc, .slice n.TA n.ts.length n.tc], .slice A ws.length c, .int .i64 steps, .int .i64 runs] W (VPost W.heap.size W (.int .i64 (runE n ws steps runs)))) := fun W hW => scheck_any n A ws c steps runs W (hr.below hW (Nat.le_refl _)) (hw.below hW (Nat.le_refl _)) hl
  have B0 : Hid (Below w.heap.size w ((w.alloc (.cells #[.string n.nm, .slice n.PA n.ps.length n.pc, .slice n.TA n.ts.length n.tc] 25)).alloc (.cells #[.slice none 0 0, .int .i64 0, .slice none 0 0] 49))) := ((Below.refl _ _).alloc (Nat.le_refl _) _).alloc (by simp) _
  have q0 : ((w.alloc (.cells #[.string n.nm, .slice n.PA n.ps.length n.pc, .slice n.TA n.ts.length n.tc] 25)).alloc (.cells #[.slice none 0 0, .int .i64 0, .slice none 0 0] 49)).cell? ⟨w.heap.size, 0, none⟩ = some (.string n.nm) := by simp [go_sem]
  have q1 : ((w.alloc (.cells #[.string n.nm, .slice n.PA n.ps.length n.pc, .slice n.TA n.ts.length n.tc] 25)).alloc (.cells #[.slice none 0 0, .int .i64 0, .slice none 0 0] 49)).cell? ⟨w.heap.size, 1, none⟩ = some (.slice n.PA n.ps.length n.pc) := by simp [go_sem]
  have q2 : ((w.alloc (.cells #[.string n.nm, .slice n.PA n.ps.length n.pc, .slice n.TA n.ts.length n.tc] 25)).alloc (.cells #[.slice none 0 0, .int .i64 0, .slice none 0 0] 49)).cell? ⟨w.heap.size, 2, none⟩ = some (.slice n.TA n.ts.length n.tc) := by simp [go_sem]
  have BK1 : Hid (((w.alloc (.cells #[.string n.nm, .slice n.PA n.ps.length n.pc, .slice n.TA n.ts.length n.tc] 25)).alloc (.cells #[.slice none 0 0, .int .i64 0, .slice none 0 0] 49)).heap[w.heap.size + 1]? = some (.cells #[.slice none 0 0, .int .i64 0, .slice none 0 0] 49 (0, 0))) := by
    have := World.alloc_heap_new (w.alloc (.cells #[.string n.nm, .slice n.PA n.ps.length n.pc, .slice n.TA n.ts.length n.tc] 25)) (.cells #[.slice none 0 0, .int .i64 0, .slice none 0 0] 49)
    rw [World.size_alloc] at this
    exact this
  by_cases hE : runE n ws steps runs = 0
  rotate_left
  · have HNO := Lib.hid (show (manyV n ws steps runs s0).1 = none ∧ (manyV n ws steps runs s0).2 = runE n ws steps runs by rw [manyV_err s0 hE]; exact ⟨rfl, rfl⟩)
    have hz : (runE n ws steps runs != 0) = true := by simpa using hE
    generalize runE n ws steps runs = E at *
    generalize manyV n ws steps runs s0 = MV at *
    clear hr hw hE
    go_enter Try.func16, Try.ntmps16
    go_wp2_with fail
    refine (CK.out _ B0.out).mono ?_
    rintro e x1 ⟨rfl, K⟩
    have hB1 := B0.out.trans (K.mono B0.out.size)
    have hrs : x1.heap[w.heap.size + 1]? = some (.cells #[.slice none 0 0, .int .i64 0, .slice none 0 0] 49 (0, 0)) := (K.block _ (by rw [World.size_alloc, World.size_alloc]; omega)).trans BK1.out
    have HB1 := Lib.hid hB1
    clear K B0 CK BK1 hB1 q0 q1 q2
    have r0 := cell_blk hrs 0
    have r1 := cell_blk hrs 1
    have r2 := cell_blk hrs 2
    have rf0 := frozen_blk hrs 0
    have rf1 := frozen_blk hrs 1
    have rf2 := frozen_blk hrs 2
    simp only [List.getElem?_toArray, List.getElem?_cons_zero, List.getElem?_cons_succ] at r0 r1 r2
    have HRS : Hid ((put3 x1 (w.heap.size + 1) (.slice none 0 0) (.int .i64 0) (.slice none 0 0)).heap[w.heap.size + 1]? = some (.cells #[.slice none 0 0, .int .i64 0, .slice none 0 0] 49 (0, 0))) := by
      unfold put3
      exact blk_set (blk_set (blk_set hrs 0 _) 1 _) 2 _
    have HB9 : Hid (Below w.heap.size w (put3 x1 (w.heap.size + 1) (.slice none 0 0) (.int .i64 0) (.slice none 0 0))) := put3_below HB1.out (by omega) _ _ _
    clear hrs
    go_wp2_with fail
    (try rw [Exit.noGoto_ret])
    clear r0 r1 r2 rf0 rf1 rf2
    have hres := HRS.out
    have r0 := cell_blk hres 0
    have r1 := cell_blk hres 1
    have r2 := cell_blk hres 2
    unfold put3 at r0 r1 r2
    simp only [List.getElem?_toArray, List.getElem?_cons_zero, List.getElem?_cons_succ] at r0 r1 r2
    exact bodyPost_ret (v := .tuple #[.agg #[.slice none 0 0, .int .i64 0, .slice none 0 0], .int .i64 E]) (by simp [results, Try.results16, go_sem, r0, r1, r2]) rfl (show MPost _ _ _ _ _ _ from Or.inr ⟨HNO.out.1, by rw [HNO.out.2], HB9.out⟩)
  obtain ⟨hA, hr1, hr2⟩ := runE_ok hE
  rw [hE] at CK
  obtain ⟨hok, hlen, hWO, hst0, hst1⟩ := argE_ok hA
  obtain ⟨N, rfl⟩ : ∃ N : Nat, steps = N := ⟨steps.toNat, by omega⟩
  obtain ⟨rn, rfl⟩ : ∃ rn : Nat, runs = rn := ⟨runs.toNat, by omega⟩
  have htl := (okN_parts hok).2.2.2.1
  have hgI := goodN_init hok
  have hI24 : (initialN n).length ≤ 24 := good_len hgI
  have CI : Hid (∀ W, Below w.heap.size w W → Calls Try.prog 24 #[.agg #[.string n.nm, .slice n.PA n.ps.length n.pc, .slice n.TA n.ts.length n.tc]] W (FIs W.heap.size W (initialN n))) := fun W h => initialN_f n W (hr.below h (Nat.le_refl _))
  have SL : Hid (∀ s r, simR n ws N (initialN n) s = some r → r.1.length ≤ N) := fun s r h => (sim_facts hWO hlen N _ _ _ hgI h).1
  have CP : Hid (∀ (x1 W : World) bl PF i (S : St), Below w.heap.size w x1 → LM n ws (manyR n ws N rn (S0 n s0)) x1 49 bl PF n.ts.length N i rn S W → i < rn →
      Calls Try.prog 25 #[.agg #[.string n.nm, .slice n.PA n.ps.length n.pc, .slice n.TA n.ts.length n.tc], .slice A ws.length c, .int .u64 (S.seed : Nat), .int .i64 (N : Int), .func (.func 32) #[] #[.pointer (some ⟨W.heap.size, 0, none⟩), .pointer (some ⟨bl, 0, none⟩)]] (W.alloc (.cells #[.int .i64 0] 3))
        (PPost x1.heap.size x1 (W.heap.size + 1) (InvM x1.heap.size x1 (W.heap.size + 1) W.heap.size bl PF n.ts.length (10000 * i) S) (simR n ws N (initialN n) S.seed))) := fun x1 W bl PF i S hx H hi => by
    have hbl := H.blt
    have hpl := H.row.lt
    have hsz := H.low.size
    have e : (W.alloc (.cells #[.int .i64 0] 3)).heap.size = W.heap.size + 1 := World.size_alloc _ _
    have hne : W.heap.size ≠ bl := by omega
    have hne2 : W.heap.size ≠ PF := by omega
    have := perform_many n A ws c S.seed (N : Int) W.heap.size bl x1.heap.size x1 (W.alloc (.cells #[.int .i64 0] 3)) rfl (hr.below hx (Nat.le_refl _)) (hw.below hx (Nat.le_refl _)) hA (H.low.alloc hsz _)
      (InvM x1.heap.size x1 (W.heap.size + 1) W.heap.size bl PF n.ts.length (10000 * i) S)
      (fun s W' hb => lm_inv H s (by rw [e] at hb; exact hb))
      (fun s h W' hI => hI.low)
      (fun s h W' W'' hI hb => hI.keep hI.low.size hb)
      (fun s h W' W'' P hI hP hPs _ hg => hI.grow (by omega) (by omega) (by omega) hsz (by rw [e] at hP; exact hP) hPs hg)
      (fun s h t m B cb W1 W' hI hs hz hb hF hm ht hh => by
        rw [e] at hz ⊢
        exact vis_many x1.heap.size x1 (W.heap.size + 1) W.heap.size bl PF n.ts.length (10000 * i) S s h n t m B cb W1 W' hI hs hz hsz H.bge H.pge (by omega) (by omega) (by omega) hne hne2 H.pbl hb hF hm ht htl hh (by omega))
    rw [Int.toNat_natCast, e] at this
    exact this
  have MS : Hid (∀ S, manyR n ws N rn (S0 n s0) = some S → (manyV n ws (N : Int) (rn : Int) s0).1 = some S ∧ (manyV n ws (N : Int) (rn : Int) s0).2 = 0) := fun S h => by
    rw [manyV_some hE (by rw [Int.toNat_natCast, Int.toNat_natCast]; exact h)]
    exact ⟨rfl, rfl⟩
  have MN : Hid (manyR n ws N rn (S0 n s0) = none → (manyV n ws (N : Int) (rn : Int) s0).1 = none ∧ (manyV n ws (N : Int) (rn : Int) s0).2 = 3) := fun h => by
    rw [manyV_none hE (by rw [Int.toNat_natCast, Int.toNat_natCast]; exact h)]
    exact ⟨rfl, rfl⟩
  obtain ⟨i0, hi, hz0, hz1, hz2⟩ := info_parts infoI
  have HI := Lib.hid hi
  have HZ0 := Lib.hid hz0
  have HZ1 := Lib.hid hz1
  have HZ2 := Lib.hid hz2
  clear hi hz0 hz1 hz2 hr hw hE hWO hok hgI hA hlen
  obtain ⟨RR, hRR⟩ : ∃ RR, RR = manyR n ws N rn (S0 n s0) := ⟨_, rfl⟩
  rw [← hRR] at CP MS MN
  have HRR := Lib.hid hRR
  clear hRR
  generalize manyV n ws (N : Int) (rn : Int) s0 = MV at *
  go_enter Try.func16, Try.ntmps16
  go_wp2_with fail
  refine (CK.out _ B0.out).mono ?_
  rintro e x1 ⟨rfl, K⟩
  have q0 := keepc q0 K
  have q1 := keepc q1 K
  have q2 := keepc q2 K
  have hxs : w.heap.size + 1 < x1.heap.size := by have := K.size; rw [World.size_alloc, World.size_alloc] at this; omega
  have HB1 := Lib.hid (B0.out.trans (K.mono B0.out.size))
  have HRS1 : Hid (x1.heap[w.heap.size + 1]? = some (.cells #[.slice none 0 0, .int .i64 0, .slice none 0 0] 49 (0, 0))) := (K.block _ (by rw [World.size_alloc, World.size_alloc]; omega)).trans BK1.out
  clear K B0 CK BK1
  go_wp2_with fail
  obtain ⟨z, hz⟩ : ∃ z, z = x1.heap.size := ⟨_, rfl⟩
  have HZ := Lib.hid hz
  clear hz
  have hzw : w.heap.size < z := by rw [HZ.out]; omega
  (try go_upto_region 4 with fail)
  go_cut [13] (fun s13 wx => ∃ fb P, s13 = .pointer (some ⟨fb, 0, none⟩) ∧ Hid (LM n ws RR x1 49 fb P n.ts.length N 0 rn (S0 n s0) wx))
  case first =>
    refine wp_region_held_drew (S := fun w' => w'.cell? ⟨w.heap.size, 0, none⟩ = some (.string n.nm) ∧ w'.cell? ⟨w.heap.size, 1, none⟩ = some (.slice n.PA n.ps.length n.pc) ∧ w'.cell? ⟨w.heap.size, 2, none⟩ = some (.slice n.TA n.ts.length n.tc) ∧ Hid (Below z x1 w')) (by kernel_rfl) ?_ (fun hHeld => ?_)
    · exact ⟨q0, q1, q2, (show Below z x1 x1.drew from (Below.refl _ _).drew)⟩
    refine wpAnyH_take (oi := ⟨_, _, _, _, _, _⟩) (i := 0) (v := ?_) rfl (by kernel_rfl) (by kernel_rfl) (by kernel_rfl) (fun _ _ _ h => h) (Or.inl ⟨by rfl, ?yz1⟩) (by assumption) ?rz1
    case yz1 => (intro w hSw; (try dsimp only at hSw); go_simp; (try with_reducible rfl))
    try simp only [Act.put, List.setIfInBounds_toArray, List.set_cons_zero, List.set_cons_succ]
    refine wpAnyH_take (oi := ⟨_, _, _, _, _, _⟩) (i := 1) (v := ?_) rfl (by kernel_rfl) (by kernel_rfl) (by kernel_rfl) (fun _ _ _ h => h) (Or.inl ⟨by rfl, ?yz2⟩) (by assumption) ?rz2
    case yz2 => (intro w hSw; (try dsimp only at hSw); go_simp; (try with_reducible rfl))
    try simp only [Act.put, List.setIfInBounds_toArray, List.set_cons_zero, List.set_cons_succ]
    refine wpAnyH_take (oi := ⟨_, _, _, _, _, _⟩) (i := 2) (v := ?_) rfl (by kernel_rfl) (by kernel_rfl) (by kernel_rfl) (fun _ _ _ h => h) (Or.inl ⟨by rfl, ?yz3⟩) (by assumption) ?rz3
    case yz3 => (intro w hSw; (try dsimp only at hSw); go_simp; (try with_reducible rfl))
    try simp only [Act.put, List.setIfInBounds_toArray, List.set_cons_zero, List.set_cons_succ]
    refine wpAnyH_take (oi := ⟨_, _, _, _, _, _⟩) (i := 4) (v := ?_) rfl (by kernel_rfl) (by kernel_rfl) (by kernel_rfl) (fun _ _ _ h => h) (Or.inl ⟨by rfl, ?yz4⟩) (by assumption) ?rz4
    case yz4 => (intro w hSw; (try dsimp only at hSw); go_simp; (try with_reducible rfl))
    try simp only [Act.put, List.setIfInBounds_toArray, List.set_cons_zero, List.set_cons_succ]
    generalize x1.drew = wdr at *
    refine wpAnyH_ready (rs := [3, 5, 7]) (by kernel_rfl) (by simp) ?_
    refine (AllReadyH.cons (o := ⟨_, _, _, _, _, _⟩) rfl (fun K hK => ?_) (AllReadyH.cons (o := ⟨_, _, _, _, _, _⟩) rfl (fun K hK => ?_) (AllReadyH.cons (o := ⟨_, _, _, _, _, _⟩) rfl (fun K hK => ?_) AllReadyH.nil)))
    · skip
      have hPz : z ≤ wdr.heap.size := by have := hHeld.2.2.2.out.size; rw [HZ.out]; exact this
      refine ready_make rfl _ _ 26 rfl wdr.heap.size 3 i0 (.int .i64 0) 1 Try.underlying26 HI.out HZ0.out HZ1.out .i64 .i64 _ _ n.ts.length rfl rfl rfl rfl (by rw [HZ2.out]; omega) (by unfold maxLen; omega) (Nat.le_refl _) ?_
      intro wb5 hown hgrow
      have LA : Below wdr.heap.size wdr wb5 := (Below.refl _ _).grown hgrow (Nat.le_refl _) (fun _ h => by cases h)
      have RF : Hid (RowP wb5 wdr.heap.size n.ts.length (fun _ => .int .i64 0)) := row_of_own hown _ (fun i hi => by rw [show madeCells (Value.cells (.int .i64 0)) (n.ts.length * 1) = madeCells #[.int .i64 0] (n.ts.length * 1) from rfl, toList_madeCells_one, Nat.mul_one, List.getElem?_replicate, if_pos hi])
      refine hK.out _ _ ?_ (fun hHeld2 => ?_)
      · exact ⟨keepc hHeld.1 LA, keepc hHeld.2.1 LA, keepc hHeld.2.2.1 LA, hHeld.2.2.2.out.trans (LA.mono (by have := hHeld.2.2.2.out.size; rw [HZ.out]; exact this))⟩
      clear hK K hHeld
      have hHeld := hHeld2
      clear hHeld2
      try simp only [Act.put, List.setIfInBounds_toArray, List.set_cons_zero, List.set_cons_succ]
      clear hown hgrow LA
      obtain ⟨P, hP⟩ : ∃ P, P = wdr.heap.size := ⟨_, rfl⟩
      rw [← hP] at RF hPz ⊢
      clear hP
      refine wpAnyH_ready (rs := [5, 7]) (by kernel_rfl) (by simp) ?_
      refine (AllReadyH.cons (o := ⟨_, _, _, _, _, _⟩) rfl (fun K hK => ?_) (AllReadyH.cons (o := ⟨_, _, _, _, _, _⟩) rfl (fun K hK => ?_) AllReadyH.nil))
      · skip
        have hQz : z ≤ wb5.heap.size := by have := hHeld.2.2.2.out.size; rw [HZ.out]; exact this
        go_simp
        go_at_call 24; refine (CI.out _ (HB1.out.trans (hHeld.2.2.2.out.mono (by rw [HZ.out]; exact HB1.out.size)))).mono ?_; rintro e wb6 ⟨M4, c4, rfl, R4, K⟩; (try go_wp2_with fail)
        have R4 := Lib.hid R4
        have OFF : Hid (Off M4 (initialN n) P) := fun hn b off e => by have h1 := (R4.out.2 hn b off e).1; have h2 := World.rowIs.lt RF.out; omega
        have RF := Lib.hid (RF.out.below K (Nat.le_refl _))
        refine hK.out _ _ ?_ (fun hHeld2 => ?_)
        · exact ⟨keepc hHeld.1 K, keepc hHeld.2.1 K, keepc hHeld.2.2.1 K, hHeld.2.2.2.out.trans (K.mono (by have := hHeld.2.2.2.out.size; rw [HZ.out]; exact this))⟩
        clear hK K hHeld
        have hHeld := hHeld2
        clear hHeld2
        try simp only [Act.put, List.setIfInBounds_toArray, List.set_cons_zero, List.set_cons_succ]
        refine wpAnyH_take (oi := ⟨_, _, _, _, _, _⟩) (i := 6) (v := ?_) rfl (by kernel_rfl) (by kernel_rfl) (by kernel_rfl) (fun _ _ _ h => h) (Or.inl ⟨by rfl, ?yz7⟩) (by assumption) ?rz7
        case yz7 => (intro w hSw; (try dsimp only at hSw); go_simp; (try with_reducible rfl))
        try simp only [Act.put, List.setIfInBounds_toArray, List.set_cons_zero, List.set_cons_succ]
        refine wpAnyH_ready (rs := [7]) (by kernel_rfl) (by simp) ?_
        refine (AllReadyH.cons (o := ⟨_, _, _, _, _, _⟩) rfl (fun K hK => ?_) AllReadyH.nil)
        have LA : Below wb6.heap.size wb6 (wb6.alloc (.cells #[.slice none 0 0, .int .i64 0, .slice none 0 0] 49)) := (Below.refl _ _).alloc (Nat.le_refl _) _
        have CB : Hid (BlkIs (wb6.alloc (.cells #[.slice none 0 0, .int .i64 0, .slice none 0 0] 49)) wb6.heap.size (.cells #[.slice none 0 0, .int .i64 0, .slice none 0 0] 49)) := World.alloc_heap_new _ _
        have hfz : z ≤ wb6.heap.size := by have := hHeld.2.2.2.out.size; rw [HZ.out]; exact this
        have RF := Lib.hid (RF.out.below LA (Nat.le_refl _))
        have R4 := Lib.hid (R4.out.below LA (Nat.le_refl _))
        go_simp
        refine hK.out _ _ ?_ (fun hHeld2 => ?_)
        · exact ⟨keepc hHeld.1 LA, keepc hHeld.2.1 LA, keepc hHeld.2.2.1 LA, hHeld.2.2.2.out.trans (LA.mono (by have := hHeld.2.2.2.out.size; rw [HZ.out]; exact this))⟩
        clear hK K hHeld
        have hHeld := hHeld2
        clear hHeld2
        try simp only [Act.put, List.setIfInBounds_toArray, List.set_cons_zero, List.set_cons_succ]
        obtain ⟨wb8, hw2⟩ : ∃ wb8, wb8 = wb6.alloc (.cells #[.slice none 0 0, .int .i64 0, .slice none 0 0] 49) := ⟨_, rfl⟩
        rw [← hw2] at hHeld CB RF R4 ⊢
        clear hw2 LA
        obtain ⟨fb, hfb⟩ : ∃ fb, fb = wb6.heap.size := ⟨_, rfl⟩
        rw [← hfb] at CB hfz ⊢
        clear hfb
        have c0 := cell_blk CB.out 0
        have f0 := frozen_blk CB.out 0
        have c1 := cell_blk CB.out 1
        have f1 := frozen_blk CB.out 1
        have c2 := cell_blk CB.out 2
        have f2 := frozen_blk CB.out 2
        simp only [List.getElem?_toArray, List.getElem?_cons_zero, List.getElem?_cons_succ] at c0 c1 c2
        refine wpAnyH_ready (rs := [8]) (by kernel_rfl) (by simp) ?_
        refine (AllReadyH.cons (o := ⟨_, _, _, _, _, _⟩) rfl (fun K hK => ?_) AllReadyH.nil)
        go_simp
        have hne : w.heap.size ≠ fb := by omega
        refine hK.out _ _ ?_ (fun hHeld2 => ?_)
        · exact ⟨(World.cell?_of_block (a := ⟨w.heap.size, 0, none⟩) (put3_ne wb8 fb _ _ _ _ hne)).trans hHeld.1, (World.cell?_of_block (a := ⟨w.heap.size, 1, none⟩) (put3_ne wb8 fb _ _ _ _ hne)).trans hHeld.2.1, (World.cell?_of_block (a := ⟨w.heap.size, 2, none⟩) (put3_ne wb8 fb _ _ _ _ hne)).trans hHeld.2.2.1, put3_below hHeld.2.2.2.out hfz _ _ _⟩
        have HL := Lib.hid hHeld.2.2.2.out
        clear hK K hHeld
        have hHeld := hHeld2
        clear hHeld2
        try simp only [Act.put, List.setIfInBounds_toArray, List.set_cons_zero, List.set_cons_succ]
        refine wpAnyH_done (by kernel_rfl) ?_ _
        clear c0 c1 c2 f0 f1 f2
        go_wp2_with fail
        go_meet
        exact ⟨fb, P, rfl, lm_start rfl (by rw [← HZ.out]; exact HL.out) HRR.out RF.out R4.out hI24 CB.out (by decide) OFF.out (by rw [← HZ.out]; exact hPz) (by rw [← HZ.out]; exact hfz) (by rw [← HZ.out]; exact hQz)⟩
      · skip
        have LA : Below wb5.heap.size wb5 (wb5.alloc (.cells #[.slice none 0 0, .int .i64 0, .slice none 0 0] 49)) := (Below.refl _ _).alloc (Nat.le_refl _) _
        have CB : Hid (BlkIs (wb5.alloc (.cells #[.slice none 0 0, .int .i64 0, .slice none 0 0] 49)) wb5.heap.size (.cells #[.slice none 0 0, .int .i64 0, .slice none 0 0] 49)) := World.alloc_heap_new _ _
        have hfz : z ≤ wb5.heap.size := by have := hHeld.2.2.2.out.size; rw [HZ.out]; exact this
        have RF := Lib.hid (RF.out.below LA (Nat.le_refl _))
        go_simp
        refine hK.out _ _ ?_ (fun hHeld2 => ?_)
        · exact ⟨keepc hHeld.1 LA, keepc hHeld.2.1 LA, keepc hHeld.2.2.1 LA, hHeld.2.2.2.out.trans (LA.mono (by have := hHeld.2.2.2.out.size; rw [HZ.out]; exact this))⟩
        clear hK K hHeld
        have hHeld := hHeld2
        clear hHeld2
        try simp only [Act.put, List.setIfInBounds_toArray, List.set_cons_zero, List.set_cons_succ]
        obtain ⟨wb9, hw2⟩ : ∃ wb9, wb9 = wb5.alloc (.cells #[.slice none 0 0, .int .i64 0, .slice none 0 0] 49) := ⟨_, rfl⟩
        rw [← hw2] at hHeld CB RF ⊢
        clear hw2 LA
        obtain ⟨fb, hfb⟩ : ∃ fb, fb = wb5.heap.size := ⟨_, rfl⟩
        rw [← hfb] at CB hfz ⊢
        clear hfb
        refine wpAnyH_ready (rs := [5]) (by kernel_rfl) (by simp) ?_
        refine (AllReadyH.cons (o := ⟨_, _, _, _, _, _⟩) rfl (fun K hK => ?_) AllReadyH.nil)
        have hQz : z ≤ wb9.heap.size := by have := hHeld.2.2.2.out.size; rw [HZ.out]; exact this
        go_simp
        go_at_call 24; refine (CI.out _ (HB1.out.trans (hHeld.2.2.2.out.mono (by rw [HZ.out]; exact HB1.out.size)))).mono ?_; rintro e wb10 ⟨M4, c4, rfl, R4, K⟩; (try go_wp2_with fail)
        have R4 := Lib.hid R4
        have OFF : Hid (Off M4 (initialN n) P) := fun hn b off e => by have h1 := (R4.out.2 hn b off e).1; have h2 := World.rowIs.lt RF.out; omega
        have RF := Lib.hid (RF.out.below K (Nat.le_refl _))
        have CB := Lib.hid (CB.out.below K (Nat.le_refl _))
        refine hK.out _ _ ?_ (fun hHeld2 => ?_)
        · exact ⟨keepc hHeld.1 K, keepc hHeld.2.1 K, keepc hHeld.2.2.1 K, hHeld.2.2.2.out.trans (K.mono (by have := hHeld.2.2.2.out.size; rw [HZ.out]; exact this))⟩
        clear hK K hHeld
        have hHeld := hHeld2
        clear hHeld2
        try simp only [Act.put, List.setIfInBounds_toArray, List.set_cons_zero, List.set_cons_succ]
        refine wpAnyH_take (oi := ⟨_, _, _, _, _, _⟩) (i := 6) (v := ?_) rfl (by kernel_rfl) (by kernel_rfl) (by kernel_rfl) (fun _ _ _ h => h) (Or.inl ⟨by rfl, ?yz11⟩) (by assumption) ?rz11
        case yz11 => (intro w hSw; (try dsimp only at hSw); go_simp; (try with_reducible rfl))
        try simp only [Act.put, List.setIfInBounds_toArray, List.set_cons_zero, List.set_cons_succ]
        have c0 := cell_blk CB.out 0
        have f0 := frozen_blk CB.out 0
        have c1 := cell_blk CB.out 1
        have f1 := frozen_blk CB.out 1
        have c2 := cell_blk CB.out 2
        have f2 := frozen_blk CB.out 2
        simp only [List.getElem?_toArray, List.getElem?_cons_zero, List.getElem?_cons_succ] at c0 c1 c2
        refine wpAnyH_ready (rs := [8]) (by kernel_rfl) (by simp) ?_
        refine (AllReadyH.cons (o := ⟨_, _, _, _, _, _⟩) rfl (fun K hK => ?_) AllReadyH.nil)
        go_simp
        have hne : w.heap.size ≠ fb := by omega
        refine hK.out _ _ ?_ (fun hHeld2 => ?_)
        · exact ⟨(World.cell?_of_block (a := ⟨w.heap.size, 0, none⟩) (put3_ne wb10 fb _ _ _ _ hne)).trans hHeld.1, (World.cell?_of_block (a := ⟨w.heap.size, 1, none⟩) (put3_ne wb10 fb _ _ _ _ hne)).trans hHeld.2.1, (World.cell?_of_block (a := ⟨w.heap.size, 2, none⟩) (put3_ne wb10 fb _ _ _ _ hne)).trans hHeld.2.2.1, put3_below hHeld.2.2.2.out hfz _ _ _⟩
        have HL := Lib.hid hHeld.2.2.2.out
        clear hK K hHeld
        have hHeld := hHeld2
        clear hHeld2
        try simp only [Act.put, List.setIfInBounds_toArray, List.set_cons_zero, List.set_cons_succ]
        refine wpAnyH_done (by kernel_rfl) ?_ _
        clear c0 c1 c2 f0 f1 f2
        go_wp2_with fail
        go_meet
        exact ⟨fb, P, rfl, lm_start rfl (by rw [← HZ.out]; exact HL.out) HRR.out RF.out R4.out hI24 CB.out (by decide) OFF.out (by rw [← HZ.out]; exact hPz) (by rw [← HZ.out]; exact hfz) (by rw [← HZ.out]; exact hQz)⟩
    · skip
      have hQz : z ≤ wdr.heap.size := by have := hHeld.2.2.2.out.size; rw [HZ.out]; exact this
      go_simp
      go_at_call 24; refine (CI.out _ (HB1.out.trans (hHeld.2.2.2.out.mono (by rw [HZ.out]; exact HB1.out.size)))).mono ?_; rintro e wb12 ⟨M4, c4, rfl, R4, K⟩; (try go_wp2_with fail)
      have R4 := Lib.hid R4
      refine hK.out _ _ ?_ (fun hHeld2 => ?_)
      · exact ⟨keepc hHeld.1 K, keepc hHeld.2.1 K, keepc hHeld.2.2.1 K, hHeld.2.2.2.out.trans (K.mono (by have := hHeld.2.2.2.out.size; rw [HZ.out]; exact this))⟩
      clear hK K hHeld
      have hHeld := hHeld2
      clear hHeld2
      try simp only [Act.put, List.setIfInBounds_toArray, List.set_cons_zero, List.set_cons_succ]
      refine wpAnyH_ready (rs := [3, 7]) (by kernel_rfl) (by simp) ?_
      refine (AllReadyH.cons (o := ⟨_, _, _, _, _, _⟩) rfl (fun K hK => ?_) (AllReadyH.cons (o := ⟨_, _, _, _, _, _⟩) rfl (fun K hK => ?_) AllReadyH.nil))
      · skip
        have hPz : z ≤ wb12.heap.size := by have := hHeld.2.2.2.out.size; rw [HZ.out]; exact this
        have OFF : Hid (Off M4 (initialN n) wb12.heap.size) := fun hn b off e => by have := block_reads R4.out.1 hn e; omega
        refine ready_make rfl _ _ 26 rfl wb12.heap.size 3 i0 (.int .i64 0) 1 Try.underlying26 HI.out HZ0.out HZ1.out .i64 .i64 _ _ n.ts.length rfl rfl rfl rfl (by rw [HZ2.out]; omega) (by unfold maxLen; omega) (Nat.le_refl _) ?_
        intro wb13 hown hgrow
        have LA : Below wb12.heap.size wb12 wb13 := (Below.refl _ _).grown hgrow (Nat.le_refl _) (fun _ h => by cases h)
        have RF : Hid (RowP wb13 wb12.heap.size n.ts.length (fun _ => .int .i64 0)) := row_of_own hown _ (fun i hi => by rw [show madeCells (Value.cells (.int .i64 0)) (n.ts.length * 1) = madeCells #[.int .i64 0] (n.ts.length * 1) from rfl, toList_madeCells_one, Nat.mul_one, List.getElem?_replicate, if_pos hi])
        have R4 := Lib.hid (R4.out.below LA (Nat.le_refl _))
        refine hK.out _ _ ?_ (fun hHeld2 => ?_)
        · exact ⟨keepc hHeld.1 LA, keepc hHeld.2.1 LA, keepc hHeld.2.2.1 LA, hHeld.2.2.2.out.trans (LA.mono (by have := hHeld.2.2.2.out.size; rw [HZ.out]; exact this))⟩
        clear hK K hHeld
        have hHeld := hHeld2
        clear hHeld2
        try simp only [Act.put, List.setIfInBounds_toArray, List.set_cons_zero, List.set_cons_succ]
        clear hown hgrow LA
        obtain ⟨P, hP⟩ : ∃ P, P = wb12.heap.size := ⟨_, rfl⟩
        rw [← hP] at RF hPz OFF ⊢
        clear hP
        refine wpAnyH_take (oi := ⟨_, _, _, _, _, _⟩) (i := 6) (v := ?_) rfl (by kernel_rfl) (by kernel_rfl) (by kernel_rfl) (fun _ _ _ h => h) (Or.inl ⟨by rfl, ?yz14⟩) (by assumption) ?rz14
        case yz14 => (intro w hSw; (try dsimp only at hSw); go_simp; (try with_reducible rfl))
        try simp only [Act.put, List.setIfInBounds_toArray, List.set_cons_zero, List.set_cons_succ]
        refine wpAnyH_ready (rs := [7]) (by kernel_rfl) (by simp) ?_
        refine (AllReadyH.cons (o := ⟨_, _, _, _, _, _⟩) rfl (fun K hK => ?_) AllReadyH.nil)
        have LA : Below wb13.heap.size wb13 (wb13.alloc (.cells #[.slice none 0 0, .int .i64 0, .slice none 0 0] 49)) := (Below.refl _ _).alloc (Nat.le_refl _) _
        have CB : Hid (BlkIs (wb13.alloc (.cells #[.slice none 0 0, .int .i64 0, .slice none 0 0] 49)) wb13.heap.size (.cells #[.slice none 0 0, .int .i64 0, .slice none 0 0] 49)) := World.alloc_heap_new _ _
        have hfz : z ≤ wb13.heap.size := by have := hHeld.2.2.2.out.size; rw [HZ.out]; exact this
        have R4 := Lib.hid (R4.out.below LA (Nat.le_refl _))
        have RF := Lib.hid (RF.out.below LA (Nat.le_refl _))
        go_simp
        refine hK.out _ _ ?_ (fun hHeld2 => ?_)
        · exact ⟨keepc hHeld.1 LA, keepc hHeld.2.1 LA, keepc hHeld.2.2.1 LA, hHeld.2.2.2.out.trans (LA.mono (by have := hHeld.2.2.2.out.size; rw [HZ.out]; exact this))⟩
        clear hK K hHeld
        have hHeld := hHeld2
        clear hHeld2
        try simp only [Act.put, List.setIfInBounds_toArray, List.set_cons_zero, List.set_cons_succ]
        obtain ⟨wb15, hw2⟩ : ∃ wb15, wb15 = wb13.alloc (.cells #[.slice none 0 0, .int .i64 0, .slice none 0 0] 49) := ⟨_, rfl⟩
        rw [← hw2] at hHeld CB R4 RF ⊢
        clear hw2 LA
        obtain ⟨fb, hfb⟩ : ∃ fb, fb = wb13.heap.size := ⟨_, rfl⟩
        rw [← hfb] at CB hfz ⊢
        clear hfb
        have c0 := cell_blk CB.out 0
        have f0 := frozen_blk CB.out 0
        have c1 := cell_blk CB.out 1
        have f1 := frozen_blk CB.out 1
        have c2 := cell_blk CB.out 2
        have f2 := frozen_blk CB.out 2
        simp only [List.getElem?_toArray, List.getElem?_cons_zero, List.getElem?_cons_succ] at c0 c1 c2
        refine wpAnyH_ready (rs := [8]) (by kernel_rfl) (by simp) ?_
        refine (AllReadyH.cons (o := ⟨_, _, _, _, _, _⟩) rfl (fun K hK => ?_) AllReadyH.nil)
        go_simp
        have hne : w.heap.size ≠ fb := by omega
        refine hK.out _ _ ?_ (fun hHeld2 => ?_)
        · exact ⟨(World.cell?_of_block (a := ⟨w.heap.size, 0, none⟩) (put3_ne wb15 fb _ _ _ _ hne)).trans hHeld.1, (World.cell?_of_block (a := ⟨w.heap.size, 1, none⟩) (put3_ne wb15 fb _ _ _ _ hne)).trans hHeld.2.1, (World.cell?_of_block (a := ⟨w.heap.size, 2, none⟩) (put3_ne wb15 fb _ _ _ _ hne)).trans hHeld.2.2.1, put3_below hHeld.2.2.2.out hfz _ _ _⟩
        have HL := Lib.hid hHeld.2.2.2.out
        clear hK K hHeld
        have hHeld := hHeld2
        clear hHeld2
        try simp only [Act.put, List.setIfInBounds_toArray, List.set_cons_zero, List.set_cons_succ]
        refine wpAnyH_done (by kernel_rfl) ?_ _
        clear c0 c1 c2 f0 f1 f2
        go_wp2_with fail
        go_meet
        exact ⟨fb, P, rfl, lm_start rfl (by rw [← HZ.out]; exact HL.out) HRR.out RF.out R4.out hI24 CB.out (by decide) OFF.out (by rw [← HZ.out]; exact hPz) (by rw [← HZ.out]; exact hfz) (by rw [← HZ.out]; exact hQz)⟩
      · skip
        have LA : Below wb12.heap.size wb12 (wb12.alloc (.cells #[.slice none 0 0, .int .i64 0, .slice none 0 0] 49)) := (Below.refl _ _).alloc (Nat.le_refl _) _
        have CB : Hid (BlkIs (wb12.alloc (.cells #[.slice none 0 0, .int .i64 0, .slice none 0 0] 49)) wb12.heap.size (.cells #[.slice none 0 0, .int .i64 0, .slice none 0 0] 49)) := World.alloc_heap_new _ _
        have hfz : z ≤ wb12.heap.size := by have := hHeld.2.2.2.out.size; rw [HZ.out]; exact this
        have R4 := Lib.hid (R4.out.below LA (Nat.le_refl _))
        go_simp
        refine hK.out _ _ ?_ (fun hHeld2 => ?_)
        · exact ⟨keepc hHeld.1 LA, keepc hHeld.2.1 LA, keepc hHeld.2.2.1 LA, hHeld.2.2.2.out.trans (LA.mono (by have := hHeld.2.2.2.out.size; rw [HZ.out]; exact this))⟩
        clear hK K hHeld
        have hHeld := hHeld2
        clear hHeld2
        try simp only [Act.put, List.setIfInBounds_toArray, List.set_cons_zero, List.set_cons_succ]
        obtain ⟨wb16, hw2⟩ : ∃ wb16, wb16 = wb12.alloc (.cells #[.slice none 0 0, .int .i64 0, .slice none 0 0] 49) := ⟨_, rfl⟩
        rw [← hw2] at hHeld CB R4 ⊢
        clear hw2 LA
        obtain ⟨fb, hfb⟩ : ∃ fb, fb = wb12.heap.size := ⟨_, rfl⟩
        rw [← hfb] at CB hfz ⊢
        clear hfb
        refine wpAnyH_ready (rs := [3]) (by kernel_rfl) (by simp) ?_
        refine (AllReadyH.cons (o := ⟨_, _, _, _, _, _⟩) rfl (fun K hK => ?_) AllReadyH.nil)
        have hPz : z ≤ wb16.heap.size := by have := hHeld.2.2.2.out.size; rw [HZ.out]; exact this
        have OFF : Hid (Off M4 (initialN n) wb16.heap.size) := fun hn b off e => by have := block_reads R4.out.1 hn e; omega
        refine ready_make rfl _ _ 26 rfl wb16.heap.size 3 i0 (.int .i64 0) 1 Try.underlying26 HI.out HZ0.out HZ1.out .i64 .i64 _ _ n.ts.length rfl rfl rfl rfl (by rw [HZ2.out]; omega) (by unfold maxLen; omega) (Nat.le_refl _) ?_
        intro wb17 hown hgrow
        have LA : Below wb16.heap.size wb16 wb17 := (Below.refl _ _).grown hgrow (Nat.le_refl _) (fun _ h => by cases h)
        have RF : Hid (RowP wb17 wb16.heap.size n.ts.length (fun _ => .int .i64 0)) := row_of_own hown _ (fun i hi => by rw [show madeCells (Value.cells (.int .i64 0)) (n.ts.length * 1) = madeCells #[.int .i64 0] (n.ts.length * 1) from rfl, toList_madeCells_one, Nat.mul_one, List.getElem?_replicate, if_pos hi])
        have R4 := Lib.hid (R4.out.below LA (Nat.le_refl _))
        have CB := Lib.hid (CB.out.below LA (Nat.le_refl _))
        refine hK.out _ _ ?_ (fun hHeld2 => ?_)
        · exact ⟨keepc hHeld.1 LA, keepc hHeld.2.1 LA, keepc hHeld.2.2.1 LA, hHeld.2.2.2.out.trans (LA.mono (by have := hHeld.2.2.2.out.size; rw [HZ.out]; exact this))⟩
        clear hK K hHeld
        have hHeld := hHeld2
        clear hHeld2
        try simp only [Act.put, List.setIfInBounds_toArray, List.set_cons_zero, List.set_cons_succ]
        clear hown hgrow LA
        obtain ⟨P, hP⟩ : ∃ P, P = wb16.heap.size := ⟨_, rfl⟩
        rw [← hP] at RF hPz OFF ⊢
        clear hP
        refine wpAnyH_take (oi := ⟨_, _, _, _, _, _⟩) (i := 6) (v := ?_) rfl (by kernel_rfl) (by kernel_rfl) (by kernel_rfl) (fun _ _ _ h => h) (Or.inl ⟨by rfl, ?yz18⟩) (by assumption) ?rz18
        case yz18 => (intro w hSw; (try dsimp only at hSw); go_simp; (try with_reducible rfl))
        try simp only [Act.put, List.setIfInBounds_toArray, List.set_cons_zero, List.set_cons_succ]
        have c0 := cell_blk CB.out 0
        have f0 := frozen_blk CB.out 0
        have c1 := cell_blk CB.out 1
        have f1 := frozen_blk CB.out 1
        have c2 := cell_blk CB.out 2
        have f2 := frozen_blk CB.out 2
        simp only [List.getElem?_toArray, List.getElem?_cons_zero, List.getElem?_cons_succ] at c0 c1 c2
        refine wpAnyH_ready (rs := [8]) (by kernel_rfl) (by simp) ?_
        refine (AllReadyH.cons (o := ⟨_, _, _, _, _, _⟩) rfl (fun K hK => ?_) AllReadyH.nil)
        go_simp
        have hne : w.heap.size ≠ fb := by omega
        refine hK.out _ _ ?_ (fun hHeld2 => ?_)
        · exact ⟨(World.cell?_of_block (a := ⟨w.heap.size, 0, none⟩) (put3_ne wb17 fb _ _ _ _ hne)).trans hHeld.1, (World.cell?_of_block (a := ⟨w.heap.size, 1, none⟩) (put3_ne wb17 fb _ _ _ _ hne)).trans hHeld.2.1, (World.cell?_of_block (a := ⟨w.heap.size, 2, none⟩) (put3_ne wb17 fb _ _ _ _ hne)).trans hHeld.2.2.1, put3_below hHeld.2.2.2.out hfz _ _ _⟩
        have HL := Lib.hid hHeld.2.2.2.out
        clear hK K hHeld
        have hHeld := hHeld2
        clear hHeld2
        try simp only [Act.put, List.setIfInBounds_toArray, List.set_cons_zero, List.set_cons_succ]
        refine wpAnyH_done (by kernel_rfl) ?_ _
        clear c0 c1 c2 f0 f1 f2
        go_wp2_with fail
        go_meet
        exact ⟨fb, P, rfl, lm_start rfl (by rw [← HZ.out]; exact HL.out) HRR.out RF.out R4.out hI24 CB.out (by decide) OFF.out (by rw [← HZ.out]; exact hPz) (by rw [← HZ.out]; exact hfz) (by rw [← HZ.out]; exact hQz)⟩
    · skip
      have LA : Below wdr.heap.size wdr (wdr.alloc (.cells #[.slice none 0 0, .int .i64 0, .slice none 0 0] 49)) := (Below.refl _ _).alloc (Nat.le_refl _) _
      have CB : Hid (BlkIs (wdr.alloc (.cells #[.slice none 0 0, .int .i64 0, .slice none 0 0] 49)) wdr.heap.size (.cells #[.slice none 0 0, .int .i64 0, .slice none 0 0] 49)) := World.alloc_heap_new _ _
      have hfz : z ≤ wdr.heap.size := by have := hHeld.2.2.2.out.size; rw [HZ.out]; exact this
      go_simp
      refine hK.out _ _ ?_ (fun hHeld2 => ?_)
      · exact ⟨keepc hHeld.1 LA, keepc hHeld.2.1 LA, keepc hHeld.2.2.1 LA, hHeld.2.2.2.out.trans (LA.mono (by have := hHeld.2.2.2.out.size; rw [HZ.out]; exact this))⟩
      clear hK K hHeld
      have hHeld := hHeld2
      clear hHeld2
      try simp only [Act.put, List.setIfInBounds_toArray, List.set_cons_zero, List.set_cons_succ]
      obtain ⟨wb19, hw2⟩ : ∃ wb19, wb19 = wdr.alloc (.cells #[.slice none 0 0, .int .i64 0, .slice none 0 0] 49) := ⟨_, rfl⟩
      rw [← hw2] at hHeld CB  ⊢
      clear hw2 LA
      obtain ⟨fb, hfb⟩ : ∃ fb, fb = wdr.heap.size := ⟨_, rfl⟩
      rw [← hfb] at CB hfz ⊢
      clear hfb
      refine wpAnyH_ready (rs := [3, 5]) (by kernel_rfl) (by simp) ?_
      refine (AllReadyH.cons (o := ⟨_, _, _, _, _, _⟩) rfl (fun K hK => ?_) (AllReadyH.cons (o := ⟨_, _, _, _, _, _⟩) rfl (fun K hK => ?_) AllReadyH.nil))
      · skip
        have hPz : z ≤ wb19.heap.size := by have := hHeld.2.2.2.out.size; rw [HZ.out]; exact this
        refine ready_make rfl _ _ 26 rfl wb19.heap.size 3 i0 (.int .i64 0) 1 Try.underlying26 HI.out HZ0.out HZ1.out .i64 .i64 _ _ n.ts.length rfl rfl rfl rfl (by rw [HZ2.out]; omega) (by unfold maxLen; omega) (Nat.le_refl _) ?_
        intro wb20 hown hgrow
        have LA : Below wb19.heap.size wb19 wb20 := (Below.refl _ _).grown hgrow (Nat.le_refl _) (fun _ h => by cases h)
        have RF : Hid (RowP wb20 wb19.heap.size n.ts.length (fun _ => .int .i64 0)) := row_of_own hown _ (fun i hi => by rw [show madeCells (Value.cells (.int .i64 0)) (n.ts.length * 1) = madeCells #[.int .i64 0] (n.ts.length * 1) from rfl, toList_madeCells_one, Nat.mul_one, List.getElem?_replicate, if_pos hi])
        have CB := Lib.hid (CB.out.below LA (Nat.le_refl _))
        refine hK.out _ _ ?_ (fun hHeld2 => ?_)
        · exact ⟨keepc hHeld.1 LA, keepc hHeld.2.1 LA, keepc hHeld.2.2.1 LA, hHeld.2.2.2.out.trans (LA.mono (by have := hHeld.2.2.2.out.size; rw [HZ.out]; exact this))⟩
        clear hK K hHeld
        have hHeld := hHeld2
        clear hHeld2
        try simp only [Act.put, List.setIfInBounds_toArray, List.set_cons_zero, List.set_cons_succ]
        clear hown hgrow LA
        obtain ⟨P, hP⟩ : ∃ P, P = wb19.heap.size := ⟨_, rfl⟩
        rw [← hP] at RF hPz ⊢
        clear hP
        refine wpAnyH_ready (rs := [5]) (by kernel_rfl) (by simp) ?_
        refine (AllReadyH.cons (o := ⟨_, _, _, _, _, _⟩) rfl (fun K hK => ?_) AllReadyH.nil)
        have hQz : z ≤ wb20.heap.size := by have := hHeld.2.2.2.out.size; rw [HZ.out]; exact this
        go_simp
        go_at_call 24; refine (CI.out _ (HB1.out.trans (hHeld.2.2.2.out.mono (by rw [HZ.out]; exact HB1.out.size)))).mono ?_; rintro e wb21 ⟨M4, c4, rfl, R4, K⟩; (try go_wp2_with fail)
        have R4 := Lib.hid R4
        have OFF : Hid (Off M4 (initialN n) P) := fun hn b off e => by have h1 := (R4.out.2 hn b off e).1; have h2 := World.rowIs.lt RF.out; omega
        have CB := Lib.hid (CB.out.below K (Nat.le_refl _))
        have RF := Lib.hid (RF.out.below K (Nat.le_refl _))
        refine hK.out _ _ ?_ (fun hHeld2 => ?_)
        · exact ⟨keepc hHeld.1 K, keepc hHeld.2.1 K, keepc hHeld.2.2.1 K, hHeld.2.2.2.out.trans (K.mono (by have := hHeld.2.2.2.out.size; rw [HZ.out]; exact this))⟩
        clear hK K hHeld
        have hHeld := hHeld2
        clear hHeld2
        try simp only [Act.put, List.setIfInBounds_toArray, List.set_cons_zero, List.set_cons_succ]
        refine wpAnyH_take (oi := ⟨_, _, _, _, _, _⟩) (i := 6) (v := ?_) rfl (by kernel_rfl) (by kernel_rfl) (by kernel_rfl) (fun _ _ _ h => h) (Or.inl ⟨by rfl, ?yz22⟩) (by assumption) ?rz22
        case yz22 => (intro w hSw; (try dsimp only at hSw); go_simp; (try with_reducible rfl))
        try simp only [Act.put, List.setIfInBounds_toArray, List.set_cons_zero, List.set_cons_succ]
        have c0 := cell_blk CB.out 0
        have f0 := frozen_blk CB.out 0
        have c1 := cell_blk CB.out 1
        have f1 := frozen_blk CB.out 1
        have c2 := cell_blk CB.out 2
        have f2 := frozen_blk CB.out 2
        simp only [List.getElem?_toArray, List.getElem?_cons_zero, List.getElem?_cons_succ] at c0 c1 c2
        refine wpAnyH_ready (rs := [8]) (by kernel_rfl) (by simp) ?_
        refine (AllReadyH.cons (o := ⟨_, _, _, _, _, _⟩) rfl (fun K hK => ?_) AllReadyH.nil)
        go_simp
        have hne : w.heap.size ≠ fb := by omega
        refine hK.out _ _ ?_ (fun hHeld2 => ?_)
        · exact ⟨(World.cell?_of_block (a := ⟨w.heap.size, 0, none⟩) (put3_ne wb21 fb _ _ _ _ hne)).trans hHeld.1, (World.cell?_of_block (a := ⟨w.heap.size, 1, none⟩) (put3_ne wb21 fb _ _ _ _ hne)).trans hHeld.2.1, (World.cell?_of_block (a := ⟨w.heap.size, 2, none⟩) (put3_ne wb21 fb _ _ _ _ hne)).trans hHeld.2.2.1, put3_below hHeld.2.2.2.out hfz _ _ _⟩
        have HL := Lib.hid hHeld.2.2.2.out
        clear hK K hHeld
        have hHeld := hHeld2
        clear hHeld2
        try simp only [Act.put, List.setIfInBounds_toArray, List.set_cons_zero, List.set_cons_succ]
        refine wpAnyH_done (by kernel_rfl) ?_ _
        clear c0 c1 c2 f0 f1 f2
        go_wp2_with fail
        go_meet
        exact ⟨fb, P, rfl, lm_start rfl (by rw [← HZ.out]; exact HL.out) HRR.out RF.out R4.out hI24 CB.out (by decide) OFF.out (by rw [← HZ.out]; exact hPz) (by rw [← HZ.out]; exact hfz) (by rw [← HZ.out]; exact hQz)⟩
      · skip
        have hQz : z ≤ wb19.heap.size := by have := hHeld.2.2.2.out.size; rw [HZ.out]; exact this
        go_simp
        go_at_call 24; refine (CI.out _ (HB1.out.trans (hHeld.2.2.2.out.mono (by rw [HZ.out]; exact HB1.out.size)))).mono ?_; rintro e wb23 ⟨M4, c4, rfl, R4, K⟩; (try go_wp2_with fail)
        have R4 := Lib.hid R4
        have CB := Lib.hid (CB.out.below K (Nat.le_refl _))
        refine hK.out _ _ ?_ (fun hHeld2 => ?_)
        · exact ⟨keepc hHeld.1 K, keepc hHeld.2.1 K, keepc hHeld.2.2.1 K, hHeld.2.2.2.out.trans (K.mono (by have := hHeld.2.2.2.out.size; rw [HZ.out]; exact this))⟩
        clear hK K hHeld
        have hHeld := hHeld2
        clear hHeld2
        try simp only [Act.put, List.setIfInBounds_toArray, List.set_cons_zero, List.set_cons_succ]
        refine wpAnyH_ready (rs := [3]) (by kernel_rfl) (by simp) ?_
        refine (AllReadyH.cons (o := ⟨_, _, _, _, _, _⟩) rfl (fun K hK => ?_) AllReadyH.nil)
        have hPz : z ≤ wb23.heap.size := by have := hHeld.2.2.2.out.size; rw [HZ.out]; exact this
        have OFF : Hid (Off M4 (initialN n) wb23.heap.size) := fun hn b off e => by have := block_reads R4.out.1 hn e; omega
        refine ready_make rfl _ _ 26 rfl wb23.heap.size 3 i0 (.int .i64 0) 1 Try.underlying26 HI.out HZ0.out HZ1.out .i64 .i64 _ _ n.ts.length rfl rfl rfl rfl (by rw [HZ2.out]; omega) (by unfold maxLen; omega) (Nat.le_refl _) ?_
        intro wb24 hown hgrow
        have LA : Below wb23.heap.size wb23 wb24 := (Below.refl _ _).grown hgrow (Nat.le_refl _) (fun _ h => by cases h)
        have RF : Hid (RowP wb24 wb23.heap.size n.ts.length (fun _ => .int .i64 0)) := row_of_own hown _ (fun i hi => by rw [show madeCells (Value.cells (.int .i64 0)) (n.ts.length * 1) = madeCells #[.int .i64 0] (n.ts.length * 1) from rfl, toList_madeCells_one, Nat.mul_one, List.getElem?_replicate, if_pos hi])
        have CB := Lib.hid (CB.out.below LA (Nat.le_refl _))
        have R4 := Lib.hid (R4.out.below LA (Nat.le_refl _))
        refine hK.out _ _ ?_ (fun hHeld2 => ?_)
        · exact ⟨keepc hHeld.1 LA, keepc hHeld.2.1 LA, keepc hHeld.2.2.1 LA, hHeld.2.2.2.out.trans (LA.mono (by have := hHeld.2.2.2.out.size; rw [HZ.out]; exact this))⟩
        clear hK K hHeld
        have hHeld := hHeld2
        clear hHeld2
        try simp only [Act.put, List.setIfInBounds_toArray, List.set_cons_zero, List.set_cons_succ]
        clear hown hgrow LA
        obtain ⟨P, hP⟩ : ∃ P, P = wb23.heap.size := ⟨_, rfl⟩
        rw [← hP] at RF hPz OFF ⊢
        clear hP
        refine wpAnyH_take (oi := ⟨_, _, _, _, _, _⟩) (i := 6) (v := ?_) rfl (by kernel_rfl) (by kernel_rfl) (by kernel_rfl) (fun _ _ _ h => h) (Or.inl ⟨by rfl, ?yz25⟩) (by assumption) ?rz25
        case yz25 => (intro w hSw; (try dsimp only at hSw); go_simp; (try with_reducible rfl))
        try simp only [Act.put, List.setIfInBounds_toArray, List.set_cons_zero, List.set_cons_succ]
        have c0 := cell_blk CB.out 0
        have f0 := frozen_blk CB.out 0
        have c1 := cell_blk CB.out 1
        have f1 := frozen_blk CB.out 1
        have c2 := cell_blk CB.out 2
        have f2 := frozen_blk CB.out 2
        simp only [List.getElem?_toArray, List.getElem?_cons_zero, List.getElem?_cons_succ] at c0 c1 c2
        refine wpAnyH_ready (rs := [8]) (by kernel_rfl) (by simp) ?_
        refine (AllReadyH.cons (o := ⟨_, _, _, _, _, _⟩) rfl (fun K hK => ?_) AllReadyH.nil)
        go_simp
        have hne : w.heap.size ≠ fb := by omega
        refine hK.out _ _ ?_ (fun hHeld2 => ?_)
        · exact ⟨(World.cell?_of_block (a := ⟨w.heap.size, 0, none⟩) (put3_ne wb24 fb _ _ _ _ hne)).trans hHeld.1, (World.cell?_of_block (a := ⟨w.heap.size, 1, none⟩) (put3_ne wb24 fb _ _ _ _ hne)).trans hHeld.2.1, (World.cell?_of_block (a := ⟨w.heap.size, 2, none⟩) (put3_ne wb24 fb _ _ _ _ hne)).trans hHeld.2.2.1, put3_below hHeld.2.2.2.out hfz _ _ _⟩
        have HL := Lib.hid hHeld.2.2.2.out
        clear hK K hHeld
        have hHeld := hHeld2
        clear hHeld2
        try simp only [Act.put, List.setIfInBounds_toArray, List.set_cons_zero, List.set_cons_succ]
        refine wpAnyH_done (by kernel_rfl) ?_ _
        clear c0 c1 c2 f0 f1 f2
        go_wp2_with fail
        go_meet
        exact ⟨fb, P, rfl, lm_start rfl (by rw [← HZ.out]; exact HL.out) HRR.out RF.out R4.out hI24 CB.out (by decide) OFF.out (by rw [← HZ.out]; exact hPz) (by rw [← HZ.out]; exact hfz) (by rw [← HZ.out]; exact hQz)⟩
  obtain ⟨wq, rfl⟩ : ∃ v, v = wc := ⟨_, rfl⟩
  obtain ⟨bl, PF, rfl, START⟩ := hcut
  have q0' := q0
  have q1' := q1
  have q2' := q2
  clear q0 q1 q2 CI
  go_wp2_with fail
  go_loopw [14, 36] (fun p q wr => ∃ (i : Nat) (S : St), i ≤ rn ∧ q = .int .i64 i ∧ p = .int .u64 (S.seed : Nat) ∧ Hid (LM n ws RR x1 49 bl PF n.ts.length N i rn S wr)) (fun _ q _ => rn - (intOf q).toNat)
  case atStart => exact ⟨0, S0 n s0, by omega, rfl, rfl, START⟩
  case round =>
    clear START
    obtain ⟨i, S, hi, rfl, rfl, H⟩ := hrel
    have hsz := H.out.low.size
    by_cases hlt : i < rn
    · have hlt' : (i : Int) < (rn : Int) := by omega
      have q0 := cellA (keepc q0' H.out.low) (.cells #[.int .i64 0] 3)
      have q1 := cellA (keepc q1' H.out.low) (.cells #[.int .i64 0] 3)
      have q2 := cellA (keepc q2' H.out.low) (.cells #[.int .i64 0] 3)
      have C := Lib.hid (CP.out x1 wr bl PF i S HB1.out H.out hlt)
      have hnS := many_none (n := n) (ws := ws) (N := N) (k := rn - (i + 1)) (S := S) (R := RR) (by rw [H.out.res]; congr 1; omega)
      have HNS := Lib.hid hnS
      clear hnS
      go_wp2_with fail
      refine C.out.mono ?_
      rintro e x5 (⟨s, r, hs, hR, rfl, hI⟩ | ⟨hR, rfl, hb⟩)
      · have hrl := SL.out _ _ hR
        obtain ⟨n1, n2, n3, n4⟩ := lm_next H.out hlt hR hrl (by omega) hI
        have hbx := hI.box.cell
        have hdd := H.out.dd
        have N1 := Lib.hid n1
        have N2 := Lib.hid n2
        clear C H hI n1 n2 HNS q0 q1 q2 hR
        by_cases hlN : r.1.length < N
        · have H9 := Lib.hid (N1.out hlN)
          have hlN' : decide ((r.1.length : Int) < (N : Int)) = true := decide_eq_true (by omega)
          clear N1 N2
          have hsd : (stepS N S r).seed = r.2 := rfl
          generalize stepS N S r = S2 at *
          generalize r.1.length = rl at *
          generalize S.dead = dd at *
          go_wp2_with fail
          go_roundw
          case rel => exact ⟨i + 1, S2, by omega, by go_num, by rw [hsd], H9⟩
          case measure => simp [intOf]; omega
        · have H9 := Lib.hid (N2.out hlN)
          have hlN' : decide ((r.1.length : Int) < (N : Int)) = false := decide_eq_false (by omega)
          clear N1 N2
          have hsd : (stepS N S r).seed = r.2 := rfl
          generalize stepS N S r = S2 at *
          generalize r.1.length = rl at *
          go_wp2_with fail
          go_roundw
          case rel => exact ⟨i + 1, S2, by omega, by go_num, by rw [hsd], H9⟩
          case measure => simp [intOf]; omega
      · have HNO := Lib.hid (MN.out (HNS.out hR))
        have hrs := (hb.block _ hxs).trans HRS1.out
        have HB5 := Lib.hid (HB1.out.trans (hb.mono HB1.out.size))
        clear C H HNS hR hb q0 q1 q2
        have r0 := cell_blk hrs 0
        have r1 := cell_blk hrs 1
        have r2 := cell_blk hrs 2
        have rf0 := frozen_blk hrs 0
        have rf1 := frozen_blk hrs 1
        have rf2 := frozen_blk hrs 2
        simp only [List.getElem?_toArray, List.getElem?_cons_zero, List.getElem?_cons_succ] at r0 r1 r2
        have HRS : Hid ((put3 x5 (w.heap.size + 1) (.slice none 0 0) (.int .i64 0) (.slice none 0 0)).heap[w.heap.size + 1]? = some (.cells #[.slice none 0 0, .int .i64 0, .slice none 0 0] 49 (0, 0))) := by
          unfold put3
          exact blk_set (blk_set (blk_set hrs 0 _) 1 _) 2 _
        have HB9 : Hid (Below w.heap.size w (put3 x5 (w.heap.size + 1) (.slice none 0 0) (.int .i64 0) (.slice none 0 0))) := put3_below HB5.out (by omega) _ _ _
        clear hrs
        go_wp2_with fail
        (try rw [Exit.noGoto_ret])
        clear r0 r1 r2 rf0 rf1 rf2
        have hres := HRS.out
        have r0 := cell_blk hres 0
        have r1 := cell_blk hres 1
        have r2 := cell_blk hres 2
        unfold put3 at r0 r1 r2
        simp only [List.getElem?_toArray, List.getElem?_cons_zero, List.getElem?_cons_succ] at r0 r1 r2
        exact bodyPost_ret (v := .tuple #[.agg #[.slice none 0 0, .int .i64 0, .slice none 0 0], .int .i64 3]) (by simp [results, Try.results16, go_sem, r0, r1, r2]) rfl (show MPost _ _ _ _ _ _ from Or.inr ⟨HNO.out.1, by rw [HNO.out.2], HB9.out⟩)
    · obtain rfl : i = rn := by omega
      have E := Lib.hid (MS.out S (many_end (by have := H.out.res; rwa [Nat.sub_self] at this)))
      have hrs := (H.out.low.block _ hxs).trans HRS1.out
      have hS24 := H.out.len
      obtain ⟨M, cM, e1, e2, e3, e4, e5⟩ := lm_done H.out hxs hrs w w.heap.size (by omega) HB1.out HB1.out.size
      have d0 := cell_blk e1 0
      have d1 := cell_blk e1 1
      have d2 := cell_blk e1 2
      have r0 := cell_blk hrs 0
      have r1 := cell_blk hrs 1
      have r2 := cell_blk hrs 2
      have rf0 := frozen_blk hrs 0
      have rf1 := frozen_blk hrs 1
      have rf2 := frozen_blk hrs 2
      simp only [List.getElem?_toArray, List.getElem?_cons_zero, List.getElem?_cons_succ] at r0 r1 r2 d0 d1 d2
      have HRS := Lib.hid e2
      have R1 := Lib.hid e3
      have R2 := Lib.hid e4
      have HB9 := Lib.hid e5
      clear e1 e2 e3 e4 e5 hrs H
      go_wp2_with fail
      (try rw [Exit.noGoto_ret])
      clear r0 r1 r2 rf0 rf1 rf2 d0 d1 d2
      have hres := HRS.out
      have r0 := cell_blk hres 0
      have r1 := cell_blk hres 1
      have r2 := cell_blk hres 2
      unfold put3 at r0 r1 r2
      simp only [List.getElem?_toArray, List.getElem?_cons_zero, List.getElem?_cons_succ] at r0 r1 r2
      exact bodyPost_ret (v := .tuple #[.agg #[.slice (some ⟨PF, 0, none⟩) n.ts.length n.ts.length, .int .i64 (S.dead : Nat), .slice M S.mx.length cM], .int .i64 0]) (by simp [results, Try.results16, go_sem, r0, r1, r2]) rfl (show MPost _ _ _ _ _ _ from Or.inl ⟨S, _, _, M, cM, E.out.1, by rw [E.out.2], R1.out, R2.out, HB9.out, hS24⟩)
end Go.Proofs.Ytpfkkjgklhcejaa

namespace Go.Proofs.Ytpfkkjgklhcejaa
open Go.RowKit

theorem aft_len (n : NetV) (m : List Int) (t : Nat) : (aftL n m t).length = n.ps.length := by unfold aftL; exact tab_len _ _
theorem sim_lens {n : NetV} {ws : List Int} : ∀ (k : Nat) (m : List Int) (s : Nat) (r : Hist × Nat), simR n ws k m s = some r → ∀ x ∈ r.1, x.2.length = n.ps.length
  | 0, m, s, r, h, x, hx => by unfold simR at h; cases h; cases hx
  | k + 1, m, s, r, h, x, hx => by
    unfold simR at h
    split at h
    · cases h; cases hx
    · split at h
      · cases h
      · obtain ⟨r', h1, h2⟩ := Option.map_eq_some_iff.1 h
        subst h2
        rcases List.mem_cons.1 hx with hx | hx
        · rw [hx]; exact aft_len _ _ _
        · exact sim_lens k _ _ r' h1 x hx
def Abs (m0 mx : List Int) : Prop := mx.length = m0.length ∧ ∀ k, k < m0.length → at0 m0 k ≤ at0 mx k
theorem maxL_eq {a b : List Int} (h : a.length = b.length) : maxL a b = tab a.length fun k => max (at0 a k) (at0 b k) := if_pos h
theorem Abs.refl (m : List Int) : Abs m m := ⟨rfl, fun _ _ => by omega⟩
theorem Abs.step {m0 mx x : List Int} (h : Abs m0 mx) (hx : x.length = m0.length) : Abs m0 (maxL mx x) := by
  have e := maxL_eq (a := mx) (b := x) (h.1.trans hx.symm)
  refine ⟨by rw [e, tab_len]; exact h.1, fun k hk => ?_⟩
  rw [e, tab_at _ _ _ (by rw [h.1]; exact hk)]
  have := h.2 k hk
  omega
theorem Abs.eq {m0 mx : List Int} (h : Abs m0 mx) : maxL mx m0 = mx := by
  rw [maxL_eq h.1]
  refine (tab_congr fun k hk => ?_).trans (tab_self mx)
  have := h.2 k (by rw [← h.1]; exact hk)
  omega
theorem Abs.hist {m0 : List Int} : ∀ (h : Hist) (mx : List Int), Abs m0 mx → (∀ x ∈ h, x.2.length = m0.length) → Abs m0 (maxH mx h)
  | [], mx, H, _ => H
  | x :: h, mx, H, hx => by
    show Abs m0 (maxH (maxL mx x.2) h)
    exact Abs.hist h _ (H.step (hx x (List.mem_cons_self ..))) (fun y hy => hx y (List.mem_cons_of_mem _ hy))
theorem cntF_bd : ∀ (h : Hist) (F : Nat → Int) (k : Nat), F k ≤ cntF F h k ∧ cntF F h k ≤ F k + h.length
  | [], F, k => ⟨Int.le_refl _, by simp [cntF]⟩
  | x :: h, F, k => by
    have := cntF_bd h (incF F x.1) k
    show F k ≤ cntF (incF F x.1) h k ∧ cntF (incF F x.1) h k ≤ F k + (h.length + 1 : Nat)
    have e : F k ≤ incF F x.1 k ∧ incF F x.1 k ≤ F k + 1 := by unfold incF; split <;> omega
    omega
theorem maxH_len : ∀ (h : Hist) (mx : List Int), (maxH mx h).length ≤ mx.length
  | [], mx => Nat.le_refl _
  | x :: h, mx => by
    show (maxH (maxL mx x.2) h).length ≤ _
    exact Nat.le_trans (maxH_len h _) (maxL_le _ _)
/-- the maximum over the first k rows -/
def mxs (mx : List Int) (L : List (List Int)) (k : Nat) : List Int := (L.take k).foldl maxL mx
theorem mxs_zero (mx : List Int) (L : List (List Int)) : mxs mx L 0 = mx := by simp [mxs]
theorem mxs_succ {mx : List Int} {L : List (List Int)} {k : Nat} (h : k < L.length) : mxs mx L (k + 1) = maxL (mxs mx L k) L[k] := by
  unfold mxs
  rw [List.take_succ_eq_append_getElem h, List.foldl_append]
  rfl
theorem mxs_all {m0 mx : List Int} {h : Hist} (H : Abs m0 mx) : mxs mx (m0 :: marks h) (m0 :: marks h).length = maxH mx h := by
  unfold mxs
  rw [List.take_length, List.foldl_cons, H.eq]
  unfold marks maxH
  rw [List.foldl_map]
structure RW (x1 x6 : World) (bl PF T dd : Nat) (F : Nat → Int) (mx : List Int) (M : Option Addr) (cM : Nat) (W : World) : Prop where
  low : Below x1.heap.size x1 W
  kp : ∀ k, k < x6.heap.size → k ≠ bl → k ≠ PF → W.heap[k]? = x6.heap[k]?
  row : W.rowIs PF 3 T (fun j => .int .i64 (F j))
  st : W.heap[bl]? = some (statT 52 (.slice (some ⟨PF, 0, none⟩) T T) dd (.slice M mx.length cM))
  rd : ReadsV W M mx
  o1 : Off M mx PF
  o2 : Off M mx bl
  ge : Ge x1.heap.size M mx
  len : mx.length ≤ 24
  sz : x6.heap.size ≤ W.heap.size
variable {n : NetV} {ws : List Int} {R : Option St} {x1 x6 : World} {bl PF T N i runs dd : Nat} {S : St} {W W' : World} {F : Nat → Int} {mx : List Int} {M : Option Addr} {cM : Nat}
theorem LM.below {ty : TypeId} (H : LM n ws R x1 ty bl PF T N i runs S W) (hb : Below W.heap.size W W') : LM n ws R x1 ty bl PF T N i runs S W' := by
  obtain ⟨M, cM, e1, e2, e3⟩ := H.stat
  exact ⟨H.low.trans (hb.mono H.low.size), H.res, H.row.of_block (hb.block _ H.row.lt), H.bd, H.dd, H.len, H.pge, H.bge, H.pbl, M, cM, (hb.block _ H.blt).trans e1, e2.below hb (Nat.le_refl _), e3⟩
theorem rw_start (H : LM n ws R x1 52 bl PF T N i runs S x6) : ∃ M cM, RW x1 x6 bl PF T S.dead S.F S.mx M cM x6 := by
  obtain ⟨M, cM, e1, e2, e3, e4, e5⟩ := H.stat
  exact ⟨M, cM, H.low, fun _ _ _ _ => rfl, H.row, e1, e2, e3, e4, e5, H.len, Nat.le_refl _⟩
theorem RW.drew (H : RW x1 x6 bl PF T dd F mx M cM W) : RW x1 x6 bl PF T dd F mx M cM W.drew := ⟨H.low.drew, H.kp, H.row, H.st, H.rd, H.o1, H.o2, H.ge, H.len, H.sz⟩
theorem RW.inc (H : RW x1 x6 bl PF T dd F mx M cM W) (hp : x1.heap.size ≤ PF) (hne : bl ≠ PF) (t : Nat) : RW x1 x6 bl PF T dd (incF F t) mx M cM (W.setCell ⟨PF, t, none⟩ (.int .i64 (F t + 1))) :=
  ⟨H.low.setCell (p := ⟨PF, t, none⟩) hp _, fun k h1 h2 h3 => (Below.heap_setCell _ _ _ k h3).trans (H.kp k h1 h2 h3), (H.row.set t _).congr fun j _ => by
      unfold incF
      by_cases e : j = t
      · rw [if_pos e, if_pos e, e]
      · rw [if_neg e, if_neg e],
    (Below.heap_setCell _ _ _ bl hne).trans H.st, reads_of H.rd (fun hn b off e => Below.heap_setCell _ _ _ b (H.o1 hn b off e)), H.o1, H.o2, H.ge, H.len, by simp; exact H.sz⟩
theorem RW.died (H : RW x1 x6 bl PF T dd F mx M cM W) (hb : x1.heap.size ≤ bl) (hne : bl ≠ PF) : RW x1 x6 bl PF T (dd + 1) F mx M cM (W.setCell ⟨bl, 1, none⟩ (.int .i64 ((dd : Int) + 1))) :=
  ⟨H.low.setCell (p := ⟨bl, 1, none⟩) hb _, fun k h1 h2 h3 => (Below.heap_setCell _ _ _ k h2).trans (H.kp k h1 h2 h3), H.row.setOther (a := ⟨bl, 1, none⟩) (Ne.symm hne) _, blk_set H.st 1 _, reads_of H.rd (fun hn b off e => Below.heap_setCell _ _ _ b (H.o2 hn b off e)), H.o1, H.o2, H.ge, H.len, by simp; exact H.sz⟩
theorem RW.blt (H : RW x1 x6 bl PF T dd F mx M cM W) : bl < W.heap.size := (Array.getElem?_eq_some_iff.1 H.st).1
theorem RW.max {M5 : Option Addr} {m5 : List Int} {c5 : Nat} (H : RW x1 x6 bl PF T dd F mx M cM W) (hbl : x1.heap.size ≤ bl) (hne : bl ≠ PF) (hb : Below W.heap.size W W') (hF : FreshG W' W.heap.size M5 m5) (hm : m5.length ≤ 24) : RW x1 x6 bl PF T dd F m5 M5 c5 (W'.setCell ⟨bl, 2, none⟩ (.slice M5 m5.length c5)) := by
  have h1 := H.blt
  have h2 := H.row.lt
  have h3 := H.low.size
  have hs := H.sz
  refine ⟨(H.low.trans (hb.mono h3)).setCell (p := ⟨bl, 2, none⟩) hbl _, fun k k1 k2 k3 => (Below.heap_setCell _ _ _ k k2).trans ((hb.block k (by omega)).trans (H.kp k k1 k2 k3)), (H.row.of_block (hb.block _ h2)).setOther (a := ⟨bl, 2, none⟩) (Ne.symm hne) _, blk_set ((hb.block _ h1).trans H.st) 2 _, reads_of hF.1 (fun hn b off e => Below.heap_setCell _ _ _ b ?_), ?_, ?_, ?_, hm, by simp; exact Nat.le_trans hs hb.size⟩
  · have := (hF.2 hn b off e).1
    show b ≠ bl
    omega
  · exact fun hn b off e => by have := (hF.2 hn b off e).1; omega
  · exact fun hn b off e => by have := (hF.2 hn b off e).1; omega
  · exact fun hn b off e => by have := (hF.2 hn b off e).1; omega
theorem rw_end {r : Hist × Nat} {W0 : World} (H : LM n ws R x1 52 bl PF T N i runs S W0) (hi : i < runs) (hsim : simR n ws N (initialN n) S.seed = some r) (hl : r.1.length ≤ N) (hN : N ≤ 10000) (hdd : dd = S.dead + (if r.1.length < N then 1 else 0))
    (I : RW x1 x6 bl PF T dd (cntF S.F r.1) (maxH S.mx r.1) M cM W) : LM n ws R x1 52 bl PF T N (i + 1) runs (stepS N S r) W := by
  have hr : R = manyR n ws N (runs - (i + 1)) (stepS N S r) := many_step (by rw [H.res]; congr 1; omega) hsim
  have hd := H.dd
  refine ⟨I.low, hr, I.row, fun k => ?_, ?_, I.len, H.pge, H.bge, H.pbl, M, cM, ?_, I.rd, I.o1, I.o2, I.ge⟩
  · have h1 := cntF_bd r.1 S.F k
    have h2 := H.bd k
    show 0 ≤ cntF S.F r.1 k ∧ cntF S.F r.1 k ≤ 10000 * ((i + 1 : Nat) : Int)
    omega
  · show S.dead + _ ≤ i + 1
    split <;> omega
  · rw [hdd] at I
    exact I.st
theorem ReadsL.of {W W' : World} {A : Option Addr} {L : List Row} (h : ReadsL W A L) (h1 : L ≠ [] → ∀ b off, A = some ⟨b, off, none⟩ → W'.heap[b]? = W.heap[b]?) (h2 : ∀ r ∈ L, r.zs ≠ [] → ∀ b off, r.A = some ⟨b, off, none⟩ → W'.heap[b]? = W.heap[b]?) : ReadsL W' A L :=
  ⟨fun j hj => by
    obtain ⟨b, off, e, k1, k2⟩ := h.1 j hj
    have hb := h1 (fun c => by rw [c] at hj; simp at hj) b off e
    refine ⟨b, off, e, ?_, (World.cell?_of_block (a := ⟨b, off + j, none⟩) hb).trans k2⟩
    rw [Array.getElem?_eq_getElem k1] at hb
    exact (Array.getElem?_eq_some_iff.1 hb).1,
   fun r hr => ⟨reads_of (h.2 r hr).1 (h2 r hr), (h.2 r hr).2⟩⟩
end Go.Proofs.Ytpfkkjgklhcejaa

namespace Go.Proofs.Ytpfkkjgklhcejaa
open Go.RowKit

set_option maxHeartbeats 64000000 in
set_option maxRecDepth 100000 in
theorem rmany_any (n : NetV) (A : Option Addr) (ws : List Int) (c s0 : Nat) (steps runs : Int) (w : World) (hr : NetR w n) (hw : ReadsV w A ws) (hl : ws.length ≤ 9223372036854775806) :
    Calls Try.prog 17 #[.agg #[.string n.nm, .slice n.PA n.ps.length n.pc, .slice n.TA n.ts.length n.tc], .slice A ws.length c, .int .u64 (s0 : Nat), .int .i64 steps, .int .i64 runs] w (MPost w.heap.size w n.ts.length (manyV n ws steps runs s0)) := by
  have CK : Hid (∀ W, Below w.heap.size w W → Calls Try.prog 12 #[.agg #[.string n.nm, .slice n.PA n.ps.length n.pc, .slice n.TA n.ts.length n.tc], .slice A ws.length c, .int .i64 steps] W (VPost W.heap.size W (.int .i64 (argE n ws steps)))) := fun W hW => rargs_any n A ws c steps W (hr.below hW (Nat.le_refl _)) (hw.below hW (Nat.le_refl _)) hl
  have B0 : Hid (Below w.heap.size w ((w.alloc (.cells #[.string n.nm, .slice n.PA n.ps.length n.pc, .slice n.TA n.ts.length n.tc] 25)).alloc (.cells #[.slice none 0 0, .int .i64 0, .slice none 0 0] 52))) := ((Below.refl _ _).alloc (Nat.le_refl _) _).alloc (by simp) _
  have q0 : ((w.alloc (.cells #[.string n.nm, .slice n.PA n.ps.length n.pc, .slice n.TA n.ts.length n.tc] 25)).alloc (.cells #[.slice none 0 0, .int .i64 0, .slice none 0 0] 52)).cell? ⟨w.heap.size, 0, none⟩ = some (.string n.nm) := by simp [go_sem]
  have q1 : ((w.alloc (.cells #[.string n.nm, .slice n.PA n.ps.length n.pc, .slice n.TA n.ts.length n.tc] 25)).alloc (.cells #[.slice none 0 0, .int .i64 0, .slice none 0 0] 52)).cell? ⟨w.heap.size, 1, none⟩ = some (.slice n.PA n.ps.length n.pc) := by simp [go_sem]
  have q2 : ((w.alloc (.cells #[.string n.nm, .slice n.PA n.ps.length n.pc, .slice n.TA n.ts.length n.tc] 25)).alloc (.cells #[.slice none 0 0, .int .i64 0, .slice none 0 0] 52)).cell? ⟨w.heap.size, 2, none⟩ = some (.slice n.TA n.ts.length n.tc) := by simp [go_sem]
  have BK1 : Hid (((w.alloc (.cells #[.string n.nm, .slice n.PA n.ps.length n.pc, .slice n.TA n.ts.length n.tc] 25)).alloc (.cells #[.slice none 0 0, .int .i64 0, .slice none 0 0] 52)).heap[w.heap.size + 1]? = some (.cells #[.slice none 0 0, .int .i64 0, .slice none 0 0] 52 (0, 0))) := by
    have := World.alloc_heap_new (w.alloc (.cells #[.string n.nm, .slice n.PA n.ps.length n.pc, .slice n.TA n.ts.length n.tc] 25)) (.cells #[.slice none 0 0, .int .i64 0, .slice none 0 0] 52)
    rw [World.size_alloc] at this
    exact this
  by_cases hA : argE n ws steps = 0
  rotate_left
  · have hE : runE n ws steps runs = argE n ws steps := if_pos hA
    have HNO := Lib.hid (show (manyV n ws steps runs s0).1 = none ∧ (manyV n ws steps runs s0).2 = argE n ws steps by rw [manyV_err s0 (by rw [hE]; exact hA), hE]; exact ⟨rfl, rfl⟩)
    have hz : (argE n ws steps != 0) = true := by simpa using hA
    generalize argE n ws steps = E at *
    generalize manyV n ws steps runs s0 = MV at *
    clear hr hw hE hA
    go_enter Try.func17, Try.ntmps17
    go_wp2_with fail
    refine (CK.out _ B0.out).mono ?_
    rintro e x1 ⟨rfl, K⟩
    have hB1 := B0.out.trans (K.mono B0.out.size)
    have hrs : x1.heap[w.heap.size + 1]? = some (.cells #[.slice none 0 0, .int .i64 0, .slice none 0 0] 52 (0, 0)) := (K.block _ (by rw [World.size_alloc, World.size_alloc]; omega)).trans BK1.out
    have HB1 := Lib.hid hB1
    clear K B0 CK BK1 hB1 q0 q1 q2
    have r0 := cell_blk hrs 0
    have r1 := cell_blk hrs 1
    have r2 := cell_blk hrs 2
    have rf0 := frozen_blk hrs 0
    have rf1 := frozen_blk hrs 1
    have rf2 := frozen_blk hrs 2
    simp only [List.getElem?_toArray, List.getElem?_cons_zero, List.getElem?_cons_succ] at r0 r1 r2
    have HRS : Hid ((put3 x1 (w.heap.size + 1) (.slice none 0 0) (.int .i64 0) (.slice none 0 0)).heap[w.heap.size + 1]? = some (.cells #[.slice none 0 0, .int .i64 0, .slice none 0 0] 52 (0, 0))) := by
      unfold put3
      exact blk_set (blk_set (blk_set hrs 0 _) 1 _) 2 _
    have HB9 : Hid (Below w.heap.size w (put3 x1 (w.heap.size + 1) (.slice none 0 0) (.int .i64 0) (.slice none 0 0))) := put3_below HB1.out (by omega) _ _ _
    clear hrs
    go_wp2_with fail
    (try rw [Exit.noGoto_ret])
    clear r0 r1 r2 rf0 rf1 rf2
    have hres := HRS.out
    have r0 := cell_blk hres 0
    have r1 := cell_blk hres 1
    have r2 := cell_blk hres 2
    unfold put3 at r0 r1 r2
    simp only [List.getElem?_toArray, List.getElem?_cons_zero, List.getElem?_cons_succ] at r0 r1 r2
    exact bodyPost_ret (v := .tuple #[.agg #[.slice none 0 0, .int .i64 0, .slice none 0 0], .int .i64 E]) (by simp [results, Try.results17, go_sem, r0, r1, r2]) rfl (show MPost _ _ _ _ _ _ from Or.inr ⟨HNO.out.1, by rw [HNO.out.2], HB9.out⟩)
  by_cases hrr : runs < 1 ∨ 100 < runs
  · have hE : runE n ws steps runs = 1 := by unfold runE; rw [if_neg (by simpa using hA), if_pos hrr]
    have HNO := Lib.hid (show (manyV n ws steps runs s0).1 = none ∧ (manyV n ws steps runs s0).2 = 1 by rw [manyV_err s0 (by rw [hE]; decide), hE]; exact ⟨rfl, rfl⟩)
    rw [hA] at CK
    generalize manyV n ws steps runs s0 = MV at *
    clear hr hw hE hA
    rcases Classical.em (runs < 1) with h1 | h1
    · have d1 : decide (runs < 1) = true := decide_eq_true h1
      go_enter Try.func17, Try.ntmps17
      go_wp2_with fail
      refine (CK.out _ B0.out).mono ?_
      rintro e x1 ⟨rfl, K⟩
      have hB1 := B0.out.trans (K.mono B0.out.size)
      have hrs : x1.heap[w.heap.size + 1]? = some (.cells #[.slice none 0 0, .int .i64 0, .slice none 0 0] 52 (0, 0)) := (K.block _ (by rw [World.size_alloc, World.size_alloc]; omega)).trans BK1.out
      have HB1 := Lib.hid hB1
      clear K B0 CK BK1 hB1 q0 q1 q2
      have r0 := cell_blk hrs 0
      have r1 := cell_blk hrs 1
      have r2 := cell_blk hrs 2
      have rf0 := frozen_blk hrs 0
      have rf1 := frozen_blk hrs 1
      have rf2 := frozen_blk hrs 2
      simp only [List.getElem?_toArray, List.getElem?_cons_zero, List.getElem?_cons_succ] at r0 r1 r2
      have HRS : Hid ((put3 x1 (w.heap.size + 1) (.slice none 0 0) (.int .i64 0) (.slice none 0 0)).heap[w.heap.size + 1]? = some (.cells #[.slice none 0 0, .int .i64 0, .slice none 0 0] 52 (0, 0))) := by
        unfold put3
        exact blk_set (blk_set (blk_set hrs 0 _) 1 _) 2 _
      have HB9 : Hid (Below w.heap.size w (put3 x1 (w.heap.size + 1) (.slice none 0 0) (.int .i64 0) (.slice none 0 0))) := put3_below HB1.out (by omega) _ _ _
      clear hrs
      go_wp2_with fail
      (try rw [Exit.noGoto_ret])
      clear r0 r1 r2 rf0 rf1 rf2
      have hres := HRS.out
      have r0 := cell_blk hres 0
      have r1 := cell_blk hres 1
      have r2 := cell_blk hres 2
      unfold put3 at r0 r1 r2
      simp only [List.getElem?_toArray, List.getElem?_cons_zero, List.getElem?_cons_succ] at r0 r1 r2
      exact bodyPost_ret (v := .tuple #[.agg #[.slice none 0 0, .int .i64 0, .slice none 0 0], .int .i64 1]) (by simp [results, Try.results17, go_sem, r0, r1, r2]) rfl (show MPost _ _ _ _ _ _ from Or.inr ⟨HNO.out.1, by rw [HNO.out.2], HB9.out⟩)
    · have d1 : decide (runs < 1) = false := decide_eq_false h1
      have h2 : 100 < runs := by omega
      have d2 : decide (100 < runs) = true := decide_eq_true h2
      have d3 : decide (runs > 100) = true := d2
      go_enter Try.func17, Try.ntmps17
      go_wp2_with fail
      refine (CK.out _ B0.out).mono ?_
      rintro e x1 ⟨rfl, K⟩
      have hB1 := B0.out.trans (K.mono B0.out.size)
      have hrs : x1.heap[w.heap.size + 1]? = some (.cells #[.slice none 0 0, .int .i64 0, .slice none 0 0] 52 (0, 0)) := (K.block _ (by rw [World.size_alloc, World.size_alloc]; omega)).trans BK1.out
      have HB1 := Lib.hid hB1
      clear K B0 CK BK1 hB1 q0 q1 q2
      have r0 := cell_blk hrs 0
      have r1 := cell_blk hrs 1
      have r2 := cell_blk hrs 2
      have rf0 := frozen_blk hrs 0
      have rf1 := frozen_blk hrs 1
      have rf2 := frozen_blk hrs 2
      simp only [List.getElem?_toArray, List.getElem?_cons_zero, List.getElem?_cons_succ] at r0 r1 r2
      have HRS : Hid ((put3 x1 (w.heap.size + 1) (.slice none 0 0) (.int .i64 0) (.slice none 0 0)).heap[w.heap.size + 1]? = some (.cells #[.slice none 0 0, .int .i64 0, .slice none 0 0] 52 (0, 0))) := by
        unfold put3
        exact blk_set (blk_set (blk_set hrs 0 _) 1 _) 2 _
      have HB9 : Hid (Below w.heap.size w (put3 x1 (w.heap.size + 1) (.slice none 0 0) (.int .i64 0) (.slice none 0 0))) := put3_below HB1.out (by omega) _ _ _
      clear hrs
      go_wp2_with fail
      (try rw [Exit.noGoto_ret])
      clear r0 r1 r2 rf0 rf1 rf2
      have hres := HRS.out
      have r0 := cell_blk hres 0
      have r1 := cell_blk hres 1
      have r2 := cell_blk hres 2
      unfold put3 at r0 r1 r2
      simp only [List.getElem?_toArray, List.getElem?_cons_zero, List.getElem?_cons_succ] at r0 r1 r2
      exact bodyPost_ret (v := .tuple #[.agg #[.slice none 0 0, .int .i64 0, .slice none 0 0], .int .i64 1]) (by simp [results, Try.results17, go_sem, r0, r1, r2]) rfl (show MPost _ _ _ _ _ _ from Or.inr ⟨HNO.out.1, by rw [HNO.out.2], HB9.out⟩)
  have hE : runE n ws steps runs = 0 := by unfold runE; rw [if_neg (by simpa using hA), if_neg hrr]
  obtain ⟨_, hr1, hr2⟩ := runE_ok hE
  rw [hA] at CK
  obtain ⟨hok, hlen, hWO, hst0, hst1⟩ := argE_ok hA
  obtain ⟨N, rfl⟩ : ∃ N : Nat, steps = N := ⟨steps.toNat, by omega⟩
  obtain ⟨rn, rfl⟩ : ∃ rn : Nat, runs = rn := ⟨runs.toNat, by omega⟩
  have d1 : decide ((rn : Int) < 1) = false := decide_eq_false (by omega)
  have d2 : decide (100 < (rn : Int)) = false := decide_eq_false (by omega)
  have htl := (okN_parts hok).2.2.2.1
  have hgI := goodN_init hok
  have hI24 : (initialN n).length ≤ 24 := good_len hgI
  have CI : Hid (∀ W, Below w.heap.size w W → Calls Try.prog 19 #[.agg #[.string n.nm, .slice n.PA n.ps.length n.pc, .slice n.TA n.ts.length n.tc]] W (FIs W.heap.size W (initialN n))) := fun W h => rinitialN_f n W (hr.below h (Nat.le_refl _))
  have ILEN : (initialN n).length = n.ps.length := by
    have e : initialN n = tab n.ps.length (iniF n.ps) := if_pos hok
    rw [e, tab_len]
  have SL : Hid (∀ s r, simR n ws N (initialN n) s = some r → r.1.length ≤ N ∧ (∀ x ∈ r.1, x.1 < n.ts.length) ∧ ∀ x ∈ r.1, x.2.length = (initialN n).length) := fun s r h =>
    ⟨(sim_facts hWO hlen N _ _ _ hgI h).1, fun x hx => ((sim_facts hWO hlen N _ _ _ hgI h).2.1 x hx).1, fun x hx => by rw [ILEN]; exact sim_lens N _ _ _ h x hx⟩
  have CP : Hid (∀ (W : World) (s : Nat), Below w.heap.size w W → Calls Try.prog 13 #[.agg #[.string n.nm, .slice n.PA n.ps.length n.pc, .slice n.TA n.ts.length n.tc], .slice A ws.length c, .int .u64 (s : Nat), .int .i64 (N : Int)] W (XPostG W.heap.size W n (simR n ws N (initialN n) s))) := fun W s hW => by
    have := rrun53g n A ws c s (N : Int) W (hr.below hW (Nat.le_refl _)) (hw.below hW (Nat.le_refl _)) hA
    rw [Int.toNat_natCast] at this
    exact this
  have CX : Hid (∀ W (a b : List Int) Aa ca Ab cb, a.length ≤ 24 → ReadsV W Aa a → ReadsV W Ab b → Calls Try.prog 22 #[.slice Aa a.length ca, .slice Ab b.length cb] W (FIs W.heap.size W (maxL a b))) := fun W a b Aa ca Ab cb ha h1 h2 => rmax_f Aa Ab a b ca cb W h1 h2 (by omega)
  have MS : Hid (∀ S, manyR n ws N rn (S0 n s0) = some S → (manyV n ws (N : Int) (rn : Int) s0).1 = some S ∧ (manyV n ws (N : Int) (rn : Int) s0).2 = 0) := fun S h => by
    rw [manyV_some hE (by rw [Int.toNat_natCast, Int.toNat_natCast]; exact h)]
    exact ⟨rfl, rfl⟩
  have MN : Hid (manyR n ws N rn (S0 n s0) = none → (manyV n ws (N : Int) (rn : Int) s0).1 = none ∧ (manyV n ws (N : Int) (rn : Int) s0).2 = 3) := fun h => by
    rw [manyV_none hE (by rw [Int.toNat_natCast, Int.toNat_natCast]; exact h)]
    exact ⟨rfl, rfl⟩
  obtain ⟨i0, hi, hz0, hz1, hz2⟩ := info_parts infoI
  have HI := Lib.hid hi
  have HZ0 := Lib.hid hz0
  have HZ1 := Lib.hid hz1
  have HZ2 := Lib.hid hz2
  clear hi hz0 hz1 hz2 hr hw hE hWO hok hgI hA hlen ILEN hrr
  obtain ⟨RR, hRR⟩ : ∃ RR, RR = manyR n ws N rn (S0 n s0) := ⟨_, rfl⟩
  rw [← hRR] at MS MN
  have HRR := Lib.hid hRR
  clear hRR
  generalize manyV n ws (N : Int) (rn : Int) s0 = MV at *
  go_enter Try.func17, Try.ntmps17
  go_wp2_with fail
  refine (CK.out _ B0.out).mono ?_
  rintro e x1 ⟨rfl, K⟩
  have q0 := keepc q0 K
  have q1 := keepc q1 K
  have q2 := keepc q2 K
  have hxs : w.heap.size + 1 < x1.heap.size := by have := K.size; rw [World.size_alloc, World.size_alloc] at this; omega
  have HB1 := Lib.hid (B0.out.trans (K.mono B0.out.size))
  have HRS1 : Hid (x1.heap[w.heap.size + 1]? = some (.cells #[.slice none 0 0, .int .i64 0, .slice none 0 0] 52 (0, 0))) := (K.block _ (by rw [World.size_alloc, World.size_alloc]; omega)).trans BK1.out
  clear K B0 CK BK1
  go_wp2_with fail
  obtain ⟨z, hz⟩ : ∃ z, z = x1.heap.size := ⟨_, rfl⟩
  have HZ := Lib.hid hz
  clear hz
  have hzw : w.heap.size < z := by rw [HZ.out]; omega
  (try go_upto_region 6 with fail)
  go_cut [13] (fun s13 wx => ∃ fb P, s13 = .pointer (some ⟨fb, 0, none⟩) ∧ Hid (LM n ws RR x1 52 fb P n.ts.length N 0 rn (S0 n s0) wx))
  case first =>
    refine wp_region_held_drew (S := fun w' => w'.cell? ⟨w.heap.size, 0, none⟩ = some (.string n.nm) ∧ w'.cell? ⟨w.heap.size, 1, none⟩ = some (.slice n.PA n.ps.length n.pc) ∧ w'.cell? ⟨w.heap.size, 2, none⟩ = some (.slice n.TA n.ts.length n.tc) ∧ Hid (Below z x1 w')) (by kernel_rfl) ?_ (fun hHeld => ?_)
    · exact ⟨q0, q1, q2, (show Below z x1 x1.drew from (Below.refl _ _).drew)⟩
    refine wpAnyH_take (oi := ⟨_, _, _, _, _, _⟩) (i := 0) (v := ?_) rfl (by kernel_rfl) (by kernel_rfl) (by kernel_rfl) (fun _ _ _ h => h) (Or.inl ⟨by rfl, ?yz1⟩) (by assumption) ?rz1
    case yz1 => (intro w hSw; (try dsimp only at hSw); go_simp; (try with_reducible rfl))
    try simp only [Act.put, List.setIfInBounds_toArray, List.set_cons_zero, List.set_cons_succ]
    refine wpAnyH_take (oi := ⟨_, _, _, _, _, _⟩) (i := 1) (v := ?_) rfl (by kernel_rfl) (by kernel_rfl) (by kernel_rfl) (fun _ _ _ h => h) (Or.inl ⟨by rfl, ?yz2⟩) (by assumption) ?rz2
    case yz2 => (intro w hSw; (try dsimp only at hSw); go_simp; (try with_reducible rfl))
    try simp only [Act.put, List.setIfInBounds_toArray, List.set_cons_zero, List.set_cons_succ]
    refine wpAnyH_take (oi := ⟨_, _, _, _, _, _⟩) (i := 2) (v := ?_) rfl (by kernel_rfl) (by kernel_rfl) (by kernel_rfl) (fun _ _ _ h => h) (Or.inl ⟨by rfl, ?yz3⟩) (by assumption) ?rz3
    case yz3 => (intro w hSw; (try dsimp only at hSw); go_simp; (try with_reducible rfl))
    try simp only [Act.put, List.setIfInBounds_toArray, List.set_cons_zero, List.set_cons_succ]
    refine wpAnyH_take (oi := ⟨_, _, _, _, _, _⟩) (i := 4) (v := ?_) rfl (by kernel_rfl) (by kernel_rfl) (by kernel_rfl) (fun _ _ _ h => h) (Or.inl ⟨by rfl, ?yz4⟩) (by assumption) ?rz4
    case yz4 => (intro w hSw; (try dsimp only at hSw); go_simp; (try with_reducible rfl))
    try simp only [Act.put, List.setIfInBounds_toArray, List.set_cons_zero, List.set_cons_succ]
    generalize x1.drew = wdr at *
    refine wpAnyH_ready (rs := [3, 5, 7]) (by kernel_rfl) (by simp) ?_
    refine (AllReadyH.cons (o := ⟨_, _, _, _, _, _⟩) rfl (fun K hK => ?_) (AllReadyH.cons (o := ⟨_, _, _, _, _, _⟩) rfl (fun K hK => ?_) (AllReadyH.cons (o := ⟨_, _, _, _, _, _⟩) rfl (fun K hK => ?_) AllReadyH.nil)))
    · skip
      have hPz : z ≤ wdr.heap.size := by have := hHeld.2.2.2.out.size; rw [HZ.out]; exact this
      refine ready_make rfl _ _ 26 rfl wdr.heap.size 3 i0 (.int .i64 0) 1 Try.underlying26 HI.out HZ0.out HZ1.out .i64 .i64 _ _ n.ts.length rfl rfl rfl rfl (by rw [HZ2.out]; omega) (by unfold maxLen; omega) (Nat.le_refl _) ?_
      intro wb5 hown hgrow
      have LA : Below wdr.heap.size wdr wb5 := (Below.refl _ _).grown hgrow (Nat.le_refl _) (fun _ h => by cases h)
      have RF : Hid (RowP wb5 wdr.heap.size n.ts.length (fun _ => .int .i64 0)) := row_of_own hown _ (fun i hi => by rw [show madeCells (Value.cells (.int .i64 0)) (n.ts.length * 1) = madeCells #[.int .i64 0] (n.ts.length * 1) from rfl, toList_madeCells_one, Nat.mul_one, List.getElem?_replicate, if_pos hi])
      refine hK.out _ _ ?_ (fun hHeld2 => ?_)
      · exact ⟨keepc hHeld.1 LA, keepc hHeld.2.1 LA, keepc hHeld.2.2.1 LA, hHeld.2.2.2.out.trans (LA.mono (by have := hHeld.2.2.2.out.size; rw [HZ.out]; exact this))⟩
      clear hK K hHeld
      have hHeld := hHeld2
      clear hHeld2
      try simp only [Act.put, List.setIfInBounds_toArray, List.set_cons_zero, List.set_cons_succ]
      clear hown hgrow LA
      obtain ⟨P, hP⟩ : ∃ P, P = wdr.heap.size := ⟨_, rfl⟩
      rw [← hP] at RF hPz ⊢
      clear hP
      refine wpAnyH_ready (rs := [5, 7]) (by kernel_rfl) (by simp) ?_
      refine (AllReadyH.cons (o := ⟨_, _, _, _, _, _⟩) rfl (fun K hK => ?_) (AllReadyH.cons (o := ⟨_, _, _, _, _, _⟩) rfl (fun K hK => ?_) AllReadyH.nil))
      · skip
        have hQz : z ≤ wb5.heap.size := by have := hHeld.2.2.2.out.size; rw [HZ.out]; exact this
        go_simp
        go_at_call 19; refine (CI.out _ (HB1.out.trans (hHeld.2.2.2.out.mono (by rw [HZ.out]; exact HB1.out.size)))).mono ?_; rintro e wb6 ⟨M4, c4, rfl, R4, K⟩; (try go_wp2_with fail)
        have R4 := Lib.hid R4
        have OFF : Hid (Off M4 (initialN n) P) := fun hn b off e => by have h1 := (R4.out.2 hn b off e).1; have h2 := World.rowIs.lt RF.out; omega
        have RF := Lib.hid (RF.out.below K (Nat.le_refl _))
        refine hK.out _ _ ?_ (fun hHeld2 => ?_)
        · exact ⟨keepc hHeld.1 K, keepc hHeld.2.1 K, keepc hHeld.2.2.1 K, hHeld.2.2.2.out.trans (K.mono (by have := hHeld.2.2.2.out.size; rw [HZ.out]; exact this))⟩
        clear hK K hHeld
        have hHeld := hHeld2
        clear hHeld2
        try simp only [Act.put, List.setIfInBounds_toArray, List.set_cons_zero, List.set_cons_succ]
        refine wpAnyH_take (oi := ⟨_, _, _, _, _, _⟩) (i := 6) (v := ?_) rfl (by kernel_rfl) (by kernel_rfl) (by kernel_rfl) (fun _ _ _ h => h) (Or.inl ⟨by rfl, ?yz7⟩) (by assumption) ?rz7
        case yz7 => (intro w hSw; (try dsimp only at hSw); go_simp; (try with_reducible rfl))
        try simp only [Act.put, List.setIfInBounds_toArray, List.set_cons_zero, List.set_cons_succ]
        refine wpAnyH_ready (rs := [7]) (by kernel_rfl) (by simp) ?_
        refine (AllReadyH.cons (o := ⟨_, _, _, _, _, _⟩) rfl (fun K hK => ?_) AllReadyH.nil)
        have LA : Below wb6.heap.size wb6 (wb6.alloc (.cells #[.slice none 0 0, .int .i64 0, .slice none 0 0] 52)) := (Below.refl _ _).alloc (Nat.le_refl _) _
        have CB : Hid (BlkIs (wb6.alloc (.cells #[.slice none 0 0, .int .i64 0, .slice none 0 0] 52)) wb6.heap.size (.cells #[.slice none 0 0, .int .i64 0, .slice none 0 0] 52)) := World.alloc_heap_new _ _
        have hfz : z ≤ wb6.heap.size := by have := hHeld.2.2.2.out.size; rw [HZ.out]; exact this
        have RF := Lib.hid (RF.out.below LA (Nat.le_refl _))
        have R4 := Lib.hid (R4.out.below LA (Nat.le_refl _))
        go_simp
        refine hK.out _ _ ?_ (fun hHeld2 => ?_)
        · exact ⟨keepc hHeld.1 LA, keepc hHeld.2.1 LA, keepc hHeld.2.2.1 LA, hHeld.2.2.2.out.trans (LA.mono (by have := hHeld.2.2.2.out.size; rw [HZ.out]; exact this))⟩
        clear hK K hHeld
        have hHeld := hHeld2
        clear hHeld2
        try simp only [Act.put, List.setIfInBounds_toArray, List.set_cons_zero, List.set_cons_succ]
        obtain ⟨wb8, hw2⟩ : ∃ wb8, wb8 = wb6.alloc (.cells #[.slice none 0 0, .int .i64 0, .slice none 0 0] 52) := ⟨_, rfl⟩
        rw [← hw2] at hHeld CB RF R4 ⊢
        clear hw2 LA
        obtain ⟨fb, hfb⟩ : ∃ fb, fb = wb6.heap.size := ⟨_, rfl⟩
        rw [← hfb] at CB hfz ⊢
        clear hfb
        have c0 := cell_blk CB.out 0
        have f0 := frozen_blk CB.out 0
        have c1 := cell_blk CB.out 1
        have f1 := frozen_blk CB.out 1
        have c2 := cell_blk CB.out 2
        have f2 := frozen_blk CB.out 2
        simp only [List.getElem?_toArray, List.getElem?_cons_zero, List.getElem?_cons_succ] at c0 c1 c2
        refine wpAnyH_ready (rs := [8]) (by kernel_rfl) (by simp) ?_
        refine (AllReadyH.cons (o := ⟨_, _, _, _, _, _⟩) rfl (fun K hK => ?_) AllReadyH.nil)
        go_simp
        have hne : w.heap.size ≠ fb := by omega
        refine hK.out _ _ ?_ (fun hHeld2 => ?_)
        · exact ⟨(World.cell?_of_block (a := ⟨w.heap.size, 0, none⟩) (put3_ne wb8 fb _ _ _ _ hne)).trans hHeld.1, (World.cell?_of_block (a := ⟨w.heap.size, 1, none⟩) (put3_ne wb8 fb _ _ _ _ hne)).trans hHeld.2.1, (World.cell?_of_block (a := ⟨w.heap.size, 2, none⟩) (put3_ne wb8 fb _ _ _ _ hne)).trans hHeld.2.2.1, put3_below hHeld.2.2.2.out hfz _ _ _⟩
        have HL := Lib.hid hHeld.2.2.2.out
        clear hK K hHeld
        have hHeld := hHeld2
        clear hHeld2
        try simp only [Act.put, List.setIfInBounds_toArray, List.set_cons_zero, List.set_cons_succ]
        refine wpAnyH_done (by kernel_rfl) ?_ _
        clear c0 c1 c2 f0 f1 f2
        go_wp2_with fail
        go_meet
        exact ⟨fb, P, rfl, lm_start rfl (by rw [← HZ.out]; exact HL.out) HRR.out RF.out R4.out hI24 CB.out (by decide) OFF.out (by rw [← HZ.out]; exact hPz) (by rw [← HZ.out]; exact hfz) (by rw [← HZ.out]; exact hQz)⟩
      · skip
        have LA : Below wb5.heap.size wb5 (wb5.alloc (.cells #[.slice none 0 0, .int .i64 0, .slice none 0 0] 52)) := (Below.refl _ _).alloc (Nat.le_refl _) _
        have CB : Hid (BlkIs (wb5.alloc (.cells #[.slice none 0 0, .int .i64 0, .slice none 0 0] 52)) wb5.heap.size (.cells #[.slice none 0 0, .int .i64 0, .slice none 0 0] 52)) := World.alloc_heap_new _ _
        have hfz : z ≤ wb5.heap.size := by have := hHeld.2.2.2.out.size; rw [HZ.out]; exact this
        have RF := Lib.hid (RF.out.below LA (Nat.le_refl _))
        go_simp
        refine hK.out _ _ ?_ (fun hHeld2 => ?_)
        · exact ⟨keepc hHeld.1 LA, keepc hHeld.2.1 LA, keepc hHeld.2.2.1 LA, hHeld.2.2.2.out.trans (LA.mono (by have := hHeld.2.2.2.out.size; rw [HZ.out]; exact this))⟩
        clear hK K hHeld
        have hHeld := hHeld2
        clear hHeld2
        try simp only [Act.put, List.setIfInBounds_toArray, List.set_cons_zero, List.set_cons_succ]
        obtain ⟨wb9, hw2⟩ : ∃ wb9, wb9 = wb5.alloc (.cells #[.slice none 0 0, .int .i64 0, .slice none 0 0] 52) := ⟨_, rfl⟩
        rw [← hw2] at hHeld CB RF ⊢
        clear hw2 LA
        obtain ⟨fb, hfb⟩ : ∃ fb, fb = wb5.heap.size := ⟨_, rfl⟩
        rw [← hfb] at CB hfz ⊢
        clear hfb
        refine wpAnyH_ready (rs := [5]) (by kernel_rfl) (by simp) ?_
        refine (AllReadyH.cons (o := ⟨_, _, _, _, _, _⟩) rfl (fun K hK => ?_) AllReadyH.nil)
        have hQz : z ≤ wb9.heap.size := by have := hHeld.2.2.2.out.size; rw [HZ.out]; exact this
        go_simp
        go_at_call 19; refine (CI.out _ (HB1.out.trans (hHeld.2.2.2.out.mono (by rw [HZ.out]; exact HB1.out.size)))).mono ?_; rintro e wb10 ⟨M4, c4, rfl, R4, K⟩; (try go_wp2_with fail)
        have R4 := Lib.hid R4
        have OFF : Hid (Off M4 (initialN n) P) := fun hn b off e => by have h1 := (R4.out.2 hn b off e).1; have h2 := World.rowIs.lt RF.out; omega
        have RF := Lib.hid (RF.out.below K (Nat.le_refl _))
        have CB := Lib.hid (CB.out.below K (Nat.le_refl _))
        refine hK.out _ _ ?_ (fun hHeld2 => ?_)
        · exact ⟨keepc hHeld.1 K, keepc hHeld.2.1 K, keepc hHeld.2.2.1 K, hHeld.2.2.2.out.trans (K.mono (by have := hHeld.2.2.2.out.size; rw [HZ.out]; exact this))⟩
        clear hK K hHeld
        have hHeld := hHeld2
        clear hHeld2
        try simp only [Act.put, List.setIfInBounds_toArray, List.set_cons_zero, List.set_cons_succ]
        refine wpAnyH_take (oi := ⟨_, _, _, _, _, _⟩) (i := 6) (v := ?_) rfl (by kernel_rfl) (by kernel_rfl) (by kernel_rfl) (fun _ _ _ h => h) (Or.inl ⟨by rfl, ?yz11⟩) (by assumption) ?rz11
        case yz11 => (intro w hSw; (try dsimp only at hSw); go_simp; (try with_reducible rfl))
        try simp only [Act.put, List.setIfInBounds_toArray, List.set_cons_zero, List.set_cons_succ]
        have c0 := cell_blk CB.out 0
        have f0 := frozen_blk CB.out 0
        have c1 := cell_blk CB.out 1
        have f1 := frozen_blk CB.out 1
        have c2 := cell_blk CB.out 2
        have f2 := frozen_blk CB.out 2
        simp only [List.getElem?_toArray, List.getElem?_cons_zero, List.getElem?_cons_succ] at c0 c1 c2
        refine wpAnyH_ready (rs := [8]) (by kernel_rfl) (by simp) ?_
        refine (AllReadyH.cons (o := ⟨_, _, _, _, _, _⟩) rfl (fun K hK => ?_) AllReadyH.nil)
        go_simp
        have hne : w.heap.size ≠ fb := by omega
        refine hK.out _ _ ?_ (fun hHeld2 => ?_)
        · exact ⟨(World.cell?_of_block (a := ⟨w.heap.size, 0, none⟩) (put3_ne wb10 fb _ _ _ _ hne)).trans hHeld.1, (World.cell?_of_block (a := ⟨w.heap.size, 1, none⟩) (put3_ne wb10 fb _ _ _ _ hne)).trans hHeld.2.1, (World.cell?_of_block (a := ⟨w.heap.size, 2, none⟩) (put3_ne wb10 fb _ _ _ _ hne)).trans hHeld.2.2.1, put3_below hHeld.2.2.2.out hfz _ _ _⟩
        have HL := Lib.hid hHeld.2.2.2.out
        clear hK K hHeld
        have hHeld := hHeld2
        clear hHeld2
        try simp only [Act.put, List.setIfInBounds_toArray, List.set_cons_zero, List.set_cons_succ]
        refine wpAnyH_done (by kernel_rfl) ?_ _
        clear c0 c1 c2 f0 f1 f2
        go_wp2_with fail
        go_meet
        exact ⟨fb, P, rfl, lm_start rfl (by rw [← HZ.out]; exact HL.out) HRR.out RF.out R4.out hI24 CB.out (by decide) OFF.out (by rw [← HZ.out]; exact hPz) (by rw [← HZ.out]; exact hfz) (by rw [← HZ.out]; exact hQz)⟩
    · skip
      have hQz : z ≤ wdr.heap.size := by have := hHeld.2.2.2.out.size; rw [HZ.out]; exact this
      go_simp
      go_at_call 19; refine (CI.out _ (HB1.out.trans (hHeld.2.2.2.out.mono (by rw [HZ.out]; exact HB1.out.size)))).mono ?_; rintro e wb12 ⟨M4, c4, rfl, R4, K⟩; (try go_wp2_with fail)
      have R4 := Lib.hid R4
      refine hK.out _ _ ?_ (fun hHeld2 => ?_)
      · exact ⟨keepc hHeld.1 K, keepc hHeld.2.1 K, keepc hHeld.2.2.1 K, hHeld.2.2.2.out.trans (K.mono (by have := hHeld.2.2.2.out.size; rw [HZ.out]; exact this))⟩
      clear hK K hHeld
      have hHeld := hHeld2
      clear hHeld2
      try simp only [Act.put, List.setIfInBounds_toArray, List.set_cons_zero, List.set_cons_succ]
      refine wpAnyH_ready (rs := [3, 7]) (by kernel_rfl) (by simp) ?_
      refine (AllReadyH.cons (o := ⟨_, _, _, _, _, _⟩) rfl (fun K hK => ?_) (AllReadyH.cons (o := ⟨_, _, _, _, _, _⟩) rfl (fun K hK => ?_) AllReadyH.nil))
      · skip
        have hPz : z ≤ wb12.heap.size := by have := hHeld.2.2.2.out.size; rw [HZ.out]; exact this
        have OFF : Hid (Off M4 (initialN n) wb12.heap.size) := fun hn b off e => by have := block_reads R4.out.1 hn e; omega
        refine ready_make rfl _ _ 26 rfl wb12.heap.size 3 i0 (.int .i64 0) 1 Try.underlying26 HI.out HZ0.out HZ1.out .i64 .i64 _ _ n.ts.length rfl rfl rfl rfl (by rw [HZ2.out]; omega) (by unfold maxLen; omega) (Nat.le_refl _) ?_
        intro wb13 hown hgrow
        have LA : Below wb12.heap.size wb12 wb13 := (Below.refl _ _).grown hgrow (Nat.le_refl _) (fun _ h => by cases h)
        have RF : Hid (RowP wb13 wb12.heap.size n.ts.length (fun _ => .int .i64 0)) := row_of_own hown _ (fun i hi => by rw [show madeCells (Value.cells (.int .i64 0)) (n.ts.length * 1) = madeCells #[.int .i64 0] (n.ts.length * 1) from rfl, toList_madeCells_one, Nat.mul_one, List.getElem?_replicate, if_pos hi])
        have R4 := Lib.hid (R4.out.below LA (Nat.le_refl _))
        refine hK.out _ _ ?_ (fun hHeld2 => ?_)
        · exact ⟨keepc hHeld.1 LA, keepc hHeld.2.1 LA, keepc hHeld.2.2.1 LA, hHeld.2.2.2.out.trans (LA.mono (by have := hHeld.2.2.2.out.size; rw [HZ.out]; exact this))⟩
        clear hK K hHeld
        have hHeld := hHeld2
        clear hHeld2
        try simp only [Act.put, List.setIfInBounds_toArray, List.set_cons_zero, List.set_cons_succ]
        clear hown hgrow LA
        obtain ⟨P, hP⟩ : ∃ P, P = wb12.heap.size := ⟨_, rfl⟩
        rw [← hP] at RF hPz OFF ⊢
        clear hP
        refine wpAnyH_take (oi := ⟨_, _, _, _, _, _⟩) (i := 6) (v := ?_) rfl (by kernel_rfl) (by kernel_rfl) (by kernel_rfl) (fun _ _ _ h => h) (Or.inl ⟨by rfl, ?yz14⟩) (by assumption) ?rz14
        case yz14 => (intro w hSw; (try dsimp only at hSw); go_simp; (try with_reducible rfl))
        try simp only [Act.put, List.setIfInBounds_toArray, List.set_cons_zero, List.set_cons_succ]
        refine wpAnyH_ready (rs := [7]) (by kernel_rfl) (by simp) ?_
        refine (AllReadyH.cons (o := ⟨_, _, _, _, _, _⟩) rfl (fun K hK => ?_) AllReadyH.nil)
        have LA : Below wb13.heap.size wb13 (wb13.alloc (.cells #[.slice none 0 0, .int .i64 0, .slice none 0 0] 52)) := (Below.refl _ _).alloc (Nat.le_refl _) _
        have CB : Hid (BlkIs (wb13.alloc (.cells #[.slice none 0 0, .int .i64 0, .slice none 0 0] 52)) wb13.heap.size (.cells #[.slice none 0 0, .int .i64 0, .slice none 0 0] 52)) := World.alloc_heap_new _ _
        have hfz : z ≤ wb13.heap.size := by have := hHeld.2.2.2.out.size; rw [HZ.out]; exact this
        have R4 := Lib.hid (R4.out.below LA (Nat.le_refl _))
        have RF := Lib.hid (RF.out.below LA (Nat.le_refl _))
        go_simp
        refine hK.out _ _ ?_ (fun hHeld2 => ?_)
        · exact ⟨keepc hHeld.1 LA, keepc hHeld.2.1 LA, keepc hHeld.2.2.1 LA, hHeld.2.2.2.out.trans (LA.mono (by have := hHeld.2.2.2.out.size; rw [HZ.out]; exact this))⟩
        clear hK K hHeld
        have hHeld := hHeld2
        clear hHeld2
        try simp only [Act.put, List.setIfInBounds_toArray, List.set_cons_zero, List.set_cons_succ]
        obtain ⟨wb15, hw2⟩ : ∃ wb15, wb15 = wb13.alloc (.cells #[.slice none 0 0, .int .i64 0, .slice none 0 0] 52) := ⟨_, rfl⟩
        rw [← hw2] at hHeld CB R4 RF ⊢
        clear hw2 LA
        obtain ⟨fb, hfb⟩ : ∃ fb, fb = wb13.heap.size := ⟨_, rfl⟩
        rw [← hfb] at CB hfz ⊢
        clear hfb
        have c0 := cell_blk CB.out 0
        have f0 := frozen_blk CB.out 0
        have c1 := cell_blk CB.out 1
        have f1 := frozen_blk CB.out 1
        have c2 := cell_blk CB.out 2
        have f2 := frozen_blk CB.out 2
        simp only [List.getElem?_toArray, List.getElem?_cons_zero, List.getElem?_cons_succ] at c0 c1 c2
        refine wpAnyH_ready (rs := [8]) (by kernel_rfl) (by simp) ?_
        refine (AllReadyH.cons (o := ⟨_, _, _, _, _, _⟩) rfl (fun K hK => ?_) AllReadyH.nil)
        go_simp
        have hne : w.heap.size ≠ fb := by omega
        refine hK.out _ _ ?_ (fun hHeld2 => ?_)
        · exact ⟨(World.cell?_of_block (a := ⟨w.heap.size, 0, none⟩) (put3_ne wb15 fb _ _ _ _ hne)).trans hHeld.1, (World.cell?_of_block (a := ⟨w.heap.size, 1, none⟩) (put3_ne wb15 fb _ _ _ _ hne)).trans hHeld.2.1, (World.cell?_of_block (a := ⟨w.heap.size, 2, none⟩) (put3_ne wb15 fb _ _ _ _ hne)).trans hHeld.2.2.1, put3_below hHeld.2.2.2.out hfz _ _ _⟩
        have HL := Lib.hid hHeld.2.2.2.out
        clear hK K hHeld
        have hHeld := hHeld2
        clear hHeld2
        try simp only [Act.put, List.setIfInBounds_toArray, List.set_cons_zero, List.set_cons_succ]
        refine wpAnyH_done (by kernel_rfl) ?_ _
        clear c0 c1 c2 f0 f1 f2
        go_wp2_with fail
        go_meet
        exact ⟨fb, P, rfl, lm_start rfl (by rw [← HZ.out]; exact HL.out) HRR.out RF.out R4.out hI24 CB.out (by decide) OFF.out (by rw [← HZ.out]; exact hPz) (by rw [← HZ.out]; exact hfz) (by rw [← HZ.out]; exact hQz)⟩
      · skip
        have LA : Below wb12.heap.size wb12 (wb12.alloc (.cells #[.slice none 0 0, .int .i64 0, .slice none 0 0] 52)) := (Below.refl _ _).alloc (Nat.le_refl _) _
        have CB : Hid (BlkIs (wb12.alloc (.cells #[.slice none 0 0, .int .i64 0, .slice none 0 0] 52)) wb12.heap.size (.cells #[.slice none 0 0, .int .i64 0, .slice none 0 0] 52)) := World.alloc_heap_new _ _
        have hfz : z ≤ wb12.heap.size := by have := hHeld.2.2.2.out.size; rw [HZ.out]; exact this
        have R4 := Lib.hid (R4.out.below LA (Nat.le_refl _))
        go_simp
        refine hK.out _ _ ?_ (fun hHeld2 => ?_)
        · exact ⟨keepc hHeld.1 LA, keepc hHeld.2.1 LA, keepc hHeld.2.2.1 LA, hHeld.2.2.2.out.trans (LA.mono (by have := hHeld.2.2.2.out.size; rw [HZ.out]; exact this))⟩
        clear hK K hHeld
        have hHeld := hHeld2
        clear hHeld2
        try simp only [Act.put, List.setIfInBounds_toArray, List.set_cons_zero, List.set_cons_succ]
        obtain ⟨wb16, hw2⟩ : ∃ wb16, wb16 = wb12.alloc (.cells #[.slice none 0 0, .int .i64 0, .slice none 0 0] 52) := ⟨_, rfl⟩
        rw [← hw2] at hHeld CB R4 ⊢
        clear hw2 LA
        obtain ⟨fb, hfb⟩ : ∃ fb, fb = wb12.heap.size := ⟨_, rfl⟩
        rw [← hfb] at CB hfz ⊢
        clear hfb
        refine wpAnyH_ready (rs := [3]) (by kernel_rfl) (by simp) ?_
        refine (AllReadyH.cons (o := ⟨_, _, _, _, _, _⟩) rfl (fun K hK => ?_) AllReadyH.nil)
        have hPz : z ≤ wb16.heap.size := by have := hHeld.2.2.2.out.size; rw [HZ.out]; exact this
        have OFF : Hid (Off M4 (initialN n) wb16.heap.size) := fun hn b off e => by have := block_reads R4.out.1 hn e; omega
        refine ready_make rfl _ _ 26 rfl wb16.heap.size 3 i0 (.int .i64 0) 1 Try.underlying26 HI.out HZ0.out HZ1.out .i64 .i64 _ _ n.ts.length rfl rfl rfl rfl (by rw [HZ2.out]; omega) (by unfold maxLen; omega) (Nat.le_refl _) ?_
        intro wb17 hown hgrow
        have LA : Below wb16.heap.size wb16 wb17 := (Below.refl _ _).grown hgrow (Nat.le_refl _) (fun _ h => by cases h)
        have RF : Hid (RowP wb17 wb16.heap.size n.ts.length (fun _ => .int .i64 0)) := row_of_own hown _ (fun i hi => by rw [show madeCells (Value.cells (.int .i64 0)) (n.ts.length * 1) = madeCells #[.int .i64 0] (n.ts.length * 1) from rfl, toList_madeCells_one, Nat.mul_one, List.getElem?_replicate, if_pos hi])
        have R4 := Lib.hid (R4.out.below LA (Nat.le_refl _))
        have CB := Lib.hid (CB.out.below LA (Nat.le_refl _))
        refine hK.out _ _ ?_ (fun hHeld2 => ?_)
        · exact ⟨keepc hHeld.1 LA, keepc hHeld.2.1 LA, keepc hHeld.2.2.1 LA, hHeld.2.2.2.out.trans (LA.mono (by have := hHeld.2.2.2.out.size; rw [HZ.out]; exact this))⟩
        clear hK K hHeld
        have hHeld := hHeld2
        clear hHeld2
        try simp only [Act.put, List.setIfInBounds_toArray, List.set_cons_zero, List.set_cons_succ]
        clear hown hgrow LA
        obtain ⟨P, hP⟩ : ∃ P, P = wb16.heap.size := ⟨_, rfl⟩
        rw [← hP] at RF hPz OFF ⊢
        clear hP
        refine wpAnyH_take (oi := ⟨_, _, _, _, _, _⟩) (i := 6) (v := ?_) rfl (by kernel_rfl) (by kernel_rfl) (by kernel_rfl) (fun _ _ _ h => h) (Or.inl ⟨by rfl, ?yz18⟩) (by assumption) ?rz18
        case yz18 => (intro w hSw; (try dsimp only at hSw); go_simp; (try with_reducible rfl))
        try simp only [Act.put, List.setIfInBounds_toArray, List.set_cons_zero, List.set_cons_succ]
        have c0 := cell_blk CB.out 0
        have f0 := frozen_blk CB.out 0
        have c1 := cell_blk CB.out 1
        have f1 := frozen_blk CB.out 1
        have c2 := cell_blk CB.out 2
        have f2 := frozen_blk CB.out 2
        simp only [List.getElem?_toArray, List.getElem?_cons_zero, List.getElem?_cons_succ] at c0 c1 c2
        refine wpAnyH_ready (rs := [8]) (by kernel_rfl) (by simp) ?_
        refine (AllReadyH.cons (o := ⟨_, _, _, _, _, _⟩) rfl (fun K hK => ?_) AllReadyH.nil)
        go_simp
        have hne : w.heap.size ≠ fb := by omega
        refine hK.out _ _ ?_ (fun hHeld2 => ?_)
        · exact ⟨(World.cell?_of_block (a := ⟨w.heap.size, 0, none⟩) (put3_ne wb17 fb _ _ _ _ hne)).trans hHeld.1, (World.cell?_of_block (a := ⟨w.heap.size, 1, none⟩) (put3_ne wb17 fb _ _ _ _ hne)).trans hHeld.2.1, (World.cell?_of_block (a := ⟨w.heap.size, 2, none⟩) (put3_ne wb17 fb _ _ _ _ hne)).trans hHeld.2.2.1, put3_below hHeld.2.2.2.out hfz _ _ _⟩
        have HL := Lib.hid hHeld.2.2.2.out
        clear hK K hHeld
        have hHeld := hHeld2
        clear hHeld2
        try simp only [Act.put, List.setIfInBounds_toArray, List.set_cons_zero, List.set_cons_succ]
        refine wpAnyH_done (by kernel_rfl) ?_ _
        clear c0 c1 c2 f0 f1 f2
        go_wp2_with fail
        go_meet
        exact ⟨fb, P, rfl, lm_start rfl (by rw [← HZ.out]; exact HL.out) HRR.out RF.out R4.out hI24 CB.out (by decide) OFF.out (by rw [← HZ.out]; exact hPz) (by rw [← HZ.out]; exact hfz) (by rw [← HZ.out]; exact hQz)⟩
    · skip
      have LA : Below wdr.heap.size wdr (wdr.alloc (.cells #[.slice none 0 0, .int .i64 0, .slice none 0 0] 52)) := (Below.refl _ _).alloc (Nat.le_refl _) _
      have CB : Hid (BlkIs (wdr.alloc (.cells #[.slice none 0 0, .int .i64 0, .slice none 0 0] 52)) wdr.heap.size (.cells #[.slice none 0 0, .int .i64 0, .slice none 0 0] 52)) := World.alloc_heap_new _ _
      have hfz : z ≤ wdr.heap.size := by have := hHeld.2.2.2.out.size; rw [HZ.out]; exact this
      go_simp
      refine hK.out _ _ ?_ (fun hHeld2 => ?_)
      · exact ⟨keepc hHeld.1 LA, keepc hHeld.2.1 LA, keepc hHeld.2.2.1 LA, hHeld.2.2.2.out.trans (LA.mono (by have := hHeld.2.2.2.out.size; rw [HZ.out]; exact this))⟩
      clear hK K hHeld
      have hHeld := hHeld2
      clear hHeld2
      try simp only [Act.put, List.setIfInBounds_toArray, List.set_cons_zero, List.set_cons_succ]
      obtain ⟨wb19, hw2⟩ : ∃ wb19, wb19 = wdr.alloc (.cells #[.slice none 0 0, .int .i64 0, .slice none 0 0] 52) := ⟨_, rfl⟩
      rw [← hw2] at hHeld CB  ⊢
      clear hw2 LA
      obtain ⟨fb, hfb⟩ : ∃ fb, fb = wdr.heap.size := ⟨_, rfl⟩
      rw [← hfb] at CB hfz ⊢
      clear hfb
      refine wpAnyH_ready (rs := [3, 5]) (by kernel_rfl) (by simp) ?_
      refine (AllReadyH.cons (o := ⟨_, _, _, _, _, _⟩) rfl (fun K hK => ?_) (AllReadyH.cons (o := ⟨_, _, _, _, _, _⟩) rfl (fun K hK => ?_) AllReadyH.nil))
      · skip
        have hPz : z ≤ wb19.heap.size := by have := hHeld.2.2.2.out.size; rw [HZ.out]; exact this
        refine ready_make rfl _ _ 26 rfl wb19.heap.size 3 i0 (.int .i64 0) 1 Try.underlying26 HI.out HZ0.out HZ1.out .i64 .i64 _ _ n.ts.length rfl rfl rfl rfl (by rw [HZ2.out]; omega) (by unfold maxLen; omega) (Nat.le_refl _) ?_
        intro wb20 hown hgrow
        have LA : Below wb19.heap.size wb19 wb20 := (Below.refl _ _).grown hgrow (Nat.le_refl _) (fun _ h => by cases h)
        have RF : Hid (RowP wb20 wb19.heap.size n.ts.length (fun _ => .int .i64 0)) := row_of_own hown _ (fun i hi => by rw [show madeCells (Value.cells (.int .i64 0)) (n.ts.length * 1) = madeCells #[.int .i64 0] (n.ts.length * 1) from rfl, toList_madeCells_one, Nat.mul_one, List.getElem?_replicate, if_pos hi])
        have CB := Lib.hid (CB.out.below LA (Nat.le_refl _))
        refine hK.out _ _ ?_ (fun hHeld2 => ?_)
        · exact ⟨keepc hHeld.1 LA, keepc hHeld.2.1 LA, keepc hHeld.2.2.1 LA, hHeld.2.2.2.out.trans (LA.mono (by have := hHeld.2.2.2.out.size; rw [HZ.out]; exact this))⟩
        clear hK K hHeld
        have hHeld := hHeld2
        clear hHeld2
        try simp only [Act.put, List.setIfInBounds_toArray, List.set_cons_zero, List.set_cons_succ]
        clear hown hgrow LA
        obtain ⟨P, hP⟩ : ∃ P, P = wb19.heap.size := ⟨_, rfl⟩
        rw [← hP] at RF hPz ⊢
        clear hP
        refine wpAnyH_ready (rs := [5]) (by kernel_rfl) (by simp) ?_
        refine (AllReadyH.cons (o := ⟨_, _, _, _, _, _⟩) rfl (fun K hK => ?_) AllReadyH.nil)
        have hQz : z ≤ wb20.heap.size := by have := hHeld.2.2.2.out.size; rw [HZ.out]; exact this
        go_simp
        go_at_call 19; refine (CI.out _ (HB1.out.trans (hHeld.2.2.2.out.mono (by rw [HZ.out]; exact HB1.out.size)))).mono ?_; rintro e wb21 ⟨M4, c4, rfl, R4, K⟩; (try go_wp2_with fail)
        have R4 := Lib.hid R4
        have OFF : Hid (Off M4 (initialN n) P) := fun hn b off e => by have h1 := (R4.out.2 hn b off e).1; have h2 := World.rowIs.lt RF.out; omega
        have CB := Lib.hid (CB.out.below K (Nat.le_refl _))
        have RF := Lib.hid (RF.out.below K (Nat.le_refl _))
        refine hK.out _ _ ?_ (fun hHeld2 => ?_)
        · exact ⟨keepc hHeld.1 K, keepc hHeld.2.1 K, keepc hHeld.2.2.1 K, hHeld.2.2.2.out.trans (K.mono (by have := hHeld.2.2.2.out.size; rw [HZ.out]; exact this))⟩
        clear hK K hHeld
        have hHeld := hHeld2
        clear hHeld2
        try simp only [Act.put, List.setIfInBounds_toArray, List.set_cons_zero, List.set_cons_succ]
        refine wpAnyH_take (oi := ⟨_, _, _, _, _, _⟩) (i := 6) (v := ?_) rfl (by kernel_rfl) (by kernel_rfl) (by kernel_rfl) (fun _ _ _ h => h) (Or.inl ⟨by rfl, ?yz22⟩) (by assumption) ?rz22
        case yz22 => (intro w hSw; (try dsimp only at hSw); go_simp; (try with_reducible rfl))
        try simp only [Act.put, List.setIfInBounds_toArray, List.set_cons_zero, List.set_cons_succ]
        have c0 := cell_blk CB.out 0
        have f0 := frozen_blk CB.out 0
        have c1 := cell_blk CB.out 1
        have f1 := frozen_blk CB.out 1
        have c2 := cell_blk CB.out 2
        have f2 := frozen_blk CB.out 2
        simp only [List.getElem?_toArray, List.getElem?_cons_zero, List.getElem?_cons_succ] at c0 c1 c2
        refine wpAnyH_ready (rs := [8]) (by kernel_rfl) (by simp) ?_
        refine (AllReadyH.cons (o := ⟨_, _, _, _, _, _⟩) rfl (fun K hK => ?_) AllReadyH.nil)
        go_simp
        have hne : w.heap.size ≠ fb := by omega
        refine hK.out _ _ ?_ (fun hHeld2 => ?_)
        · exact ⟨(World.cell?_of_block (a := ⟨w.heap.size, 0, none⟩) (put3_ne wb21 fb _ _ _ _ hne)).trans hHeld.1, (World.cell?_of_block (a := ⟨w.heap.size, 1, none⟩) (put3_ne wb21 fb _ _ _ _ hne)).trans hHeld.2.1, (World.cell?_of_block (a := ⟨w.heap.size, 2, none⟩) (put3_ne wb21 fb _ _ _ _ hne)).trans hHeld.2.2.1, put3_below hHeld.2.2.2.out hfz _ _ _⟩
        have HL := Lib.hid hHeld.2.2.2.out
        clear hK K hHeld
        have hHeld := hHeld2
        clear hHeld2
        try simp only [Act.put, List.setIfInBounds_toArray, List.set_cons_zero, List.set_cons_succ]
        refine wpAnyH_done (by kernel_rfl) ?_ _
        clear c0 c1 c2 f0 f1 f2
        go_wp2_with fail
        go_meet
        exact ⟨fb, P, rfl, lm_start rfl (by rw [← HZ.out]; exact HL.out) HRR.out RF.out R4.out hI24 CB.out (by decide) OFF.out (by rw [← HZ.out]; exact hPz) (by rw [← HZ.out]; exact hfz) (by rw [← HZ.out]; exact hQz)⟩
      · skip
        have hQz : z ≤ wb19.heap.size := by have := hHeld.2.2.2.out.size; rw [HZ.out]; exact this
        go_simp
        go_at_call 19; refine (CI.out _ (HB1.out.trans (hHeld.2.2.2.out.mono (by rw [HZ.out]; exact HB1.out.size)))).mono ?_; rintro e wb23 ⟨M4, c4, rfl, R4, K⟩; (try go_wp2_with fail)
        have R4 := Lib.hid R4
        have CB := Lib.hid (CB.out.below K (Nat.le_refl _))
        refine hK.out _ _ ?_ (fun hHeld2 => ?_)
        · exact ⟨keepc hHeld.1 K, keepc hHeld.2.1 K, keepc hHeld.2.2.1 K, hHeld.2.2.2.out.trans (K.mono (by have := hHeld.2.2.2.out.size; rw [HZ.out]; exact this))⟩
        clear hK K hHeld
        have hHeld := hHeld2
        clear hHeld2
        try simp only [Act.put, List.setIfInBounds_toArray, List.set_cons_zero, List.set_cons_succ]
        refine wpAnyH_ready (rs := [3]) (by kernel_rfl) (by simp) ?_
        refine (AllReadyH.cons (o := ⟨_, _, _, _, _, _⟩) rfl (fun K hK => ?_) AllReadyH.nil)
        have hPz : z ≤ wb23.heap.size := by have := hHeld.2.2.2.out.size; rw [HZ.out]; exact this
        have OFF : Hid (Off M4 (initialN n) wb23.heap.size) := fun hn b off e => by have := block_reads R4.out.1 hn e; omega
        refine ready_make rfl _ _ 26 rfl wb23.heap.size 3 i0 (.int .i64 0) 1 Try.underlying26 HI.out HZ0.out HZ1.out .i64 .i64 _ _ n.ts.length rfl rfl rfl rfl (by rw [HZ2.out]; omega) (by unfold maxLen; omega) (Nat.le_refl _) ?_
        intro wb24 hown hgrow
        have LA : Below wb23.heap.size wb23 wb24 := (Below.refl _ _).grown hgrow (Nat.le_refl _) (fun _ h => by cases h)
        have RF : Hid (RowP wb24 wb23.heap.size n.ts.length (fun _ => .int .i64 0)) := row_of_own hown _ (fun i hi => by rw [show madeCells (Value.cells (.int .i64 0)) (n.ts.length * 1) = madeCells #[.int .i64 0] (n.ts.length * 1) from rfl, toList_madeCells_one, Nat.mul_one, List.getElem?_replicate, if_pos hi])
        have CB := Lib.hid (CB.out.below LA (Nat.le_refl _))
        have R4 := Lib.hid (R4.out.below LA (Nat.le_refl _))
        refine hK.out _ _ ?_ (fun hHeld2 => ?_)
        · exact ⟨keepc hHeld.1 LA, keepc hHeld.2.1 LA, keepc hHeld.2.2.1 LA, hHeld.2.2.2.out.trans (LA.mono (by have := hHeld.2.2.2.out.size; rw [HZ.out]; exact this))⟩
        clear hK K hHeld
        have hHeld := hHeld2
        clear hHeld2
        try simp only [Act.put, List.setIfInBounds_toArray, List.set_cons_zero, List.set_cons_succ]
        clear hown hgrow LA
        obtain ⟨P, hP⟩ : ∃ P, P = wb23.heap.size := ⟨_, rfl⟩
        rw [← hP] at RF hPz OFF ⊢
        clear hP
        refine wpAnyH_take (oi := ⟨_, _, _, _, _, _⟩) (i := 6) (v := ?_) rfl (by kernel_rfl) (by kernel_rfl) (by kernel_rfl) (fun _ _ _ h => h) (Or.inl ⟨by rfl, ?yz25⟩) (by assumption) ?rz25
        case yz25 => (intro w hSw; (try dsimp only at hSw); go_simp; (try with_reducible rfl))
        try simp only [Act.put, List.setIfInBounds_toArray, List.set_cons_zero, List.set_cons_succ]
        have c0 := cell_blk CB.out 0
        have f0 := frozen_blk CB.out 0
        have c1 := cell_blk CB.out 1
        have f1 := frozen_blk CB.out 1
        have c2 := cell_blk CB.out 2
        have f2 := frozen_blk CB.out 2
        simp only [List.getElem?_toArray, List.getElem?_cons_zero, List.getElem?_cons_succ] at c0 c1 c2
        refine wpAnyH_ready (rs := [8]) (by kernel_rfl) (by simp) ?_
        refine (AllReadyH.cons (o := ⟨_, _, _, _, _, _⟩) rfl (fun K hK => ?_) AllReadyH.nil)
        go_simp
        have hne : w.heap.size ≠ fb := by omega
        refine hK.out _ _ ?_ (fun hHeld2 => ?_)
        · exact ⟨(World.cell?_of_block (a := ⟨w.heap.size, 0, none⟩) (put3_ne wb24 fb _ _ _ _ hne)).trans hHeld.1, (World.cell?_of_block (a := ⟨w.heap.size, 1, none⟩) (put3_ne wb24 fb _ _ _ _ hne)).trans hHeld.2.1, (World.cell?_of_block (a := ⟨w.heap.size, 2, none⟩) (put3_ne wb24 fb _ _ _ _ hne)).trans hHeld.2.2.1, put3_below hHeld.2.2.2.out hfz _ _ _⟩
        have HL := Lib.hid hHeld.2.2.2.out
        clear hK K hHeld
        have hHeld := hHeld2
        clear hHeld2
        try simp only [Act.put, List.setIfInBounds_toArray, List.set_cons_zero, List.set_cons_succ]
        refine wpAnyH_done (by kernel_rfl) ?_ _
        clear c0 c1 c2 f0 f1 f2
        go_wp2_with fail
        go_meet
        exact ⟨fb, P, rfl, lm_start rfl (by rw [← HZ.out]; exact HL.out) HRR.out RF.out R4.out hI24 CB.out (by decide) OFF.out (by rw [← HZ.out]; exact hPz) (by rw [← HZ.out]; exact hfz) (by rw [← HZ.out]; exact hQz)⟩
  obtain ⟨wq, rfl⟩ : ∃ v, v = wc := ⟨_, rfl⟩
  obtain ⟨bl, PF, rfl, START⟩ := hcut
  have q0' := q0
  have q1' := q1
  have q2' := q2
  clear q0 q1 q2 CI d1 d2
  go_wp2_with fail
  go_loopw [2, 14] (fun p q wr => ∃ (i : Nat) (S : St), i ≤ rn ∧ q = .int .i64 i ∧ p = .int .u64 (S.seed : Nat) ∧ Hid (LM n ws RR x1 52 bl PF n.ts.length N i rn S wr) ∧ Hid (Abs (initialN n) S.mx)) (fun _ q _ => rn - (intOf q).toNat)
  case atStart => exact ⟨0, S0 n s0, by omega, rfl, rfl, START, Abs.refl _⟩
  case round =>
    clear START
    obtain ⟨i, S, hi, rfl, rfl, H, AB⟩ := hrel
    have hsz := H.out.low.size
    by_cases hlt : i < rn
    · have hlt' : (i : Int) < (rn : Int) := by omega
      have q0 := keepc q0' H.out.low
      have q1 := keepc q1' H.out.low
      have q2 := keepc q2' H.out.low
      have HBr := Lib.hid (HB1.out.trans (H.out.low.mono HB1.out.size))
      have C := Lib.hid (CP.out wr S.seed HBr.out)
      have hnS := many_none (n := n) (ws := ws) (N := N) (k := rn - (i + 1)) (S := S) (R := RR) (by rw [H.out.res]; congr 1; omega)
      have HNS := Lib.hid hnS
      have hbl := H.out.blt
      have hpl := H.out.row.lt
      have hpge := H.out.pge
      have hbge := H.out.bge
      have hpbl := H.out.pbl
      have hpbl' := Ne.symm hpbl
      clear hnS
      go_wp2_with fail
      refine C.out.mono ?_
      rintro e x5 (⟨r, A1, c1, A2, c2, L, hR, rfl, F1, R2, e2, K, hA2, hLg⟩ | ⟨hR, rfl, K⟩)
      · obtain ⟨hrl, hrt, hrz⟩ := SL.out _ _ hR
        have HR := Lib.hid hR
        have hx5 := K.size
        obtain ⟨x6, hx6⟩ : ∃ x6, x6 = x5.alloc (.cells #[.slice A1 (seqT r.1).length c1, .slice A2 (List.length L) c2, .int .u64 (r.2 : Nat)] 42) := ⟨_, rfl⟩
        obtain ⟨xb, hxb⟩ : ∃ xb, xb = x5.heap.size := ⟨_, rfl⟩
        have K6 : Below wr.heap.size wr x6 := by rw [hx6]; exact K.alloc (by omega) _
        have LA : Below x5.heap.size x5 x6 := by rw [hx6]; exact (Below.refl _ _).alloc (Nat.le_refl _) _
        have hbx : x6.heap[xb]? = some (.cells #[.slice A1 (seqT r.1).length c1, .slice A2 (List.length L) c2, .int .u64 (r.2 : Nat)] 42 (0, 0)) := by rw [hx6, hxb]; exact World.alloc_heap_new _ _
        have hs6 : x6.heap.size = x5.heap.size + 1 := by rw [hx6, World.size_alloc]
        have H6 := Lib.hid (H.out.below K6)
        have hLl : L.length = r.1.length + 1 := by rw [← rowsL_len, e2]; simp [marks]
        have KX : Hid (∀ W', (∀ k, k < x6.heap.size → k ≠ bl → k ≠ PF → W'.heap[k]? = x6.heap[k]?) → ReadsV W' A1 (seqT r.1) ∧ ReadsL W' A2 L ∧ W'.heap[xb]? = some (.cells #[.slice A1 (seqT r.1).length c1, .slice A2 (List.length L) c2, .int .u64 (r.2 : Nat)] 42 (0, 0))) := fun W' hk => by
          have F16 := F1.below LA (Nat.le_refl _)
          have R26 := R2.below LA (Nat.le_refl _)
          refine ⟨reads_of F16.1 (fun hn b off e => hk b (block_reads F16.1 hn e) (by have := (F16.2 hn b off e).1; omega) (by have := (F16.2 hn b off e).1; omega)), R26.of (fun hn b off e => ?_) (fun rw' hrw hn b off e => ?_), (hk xb (by omega) (by omega) (by omega)).trans hbx⟩
          · obtain ⟨b', off', e', h1, _⟩ := R26.1 0 (List.length_pos_iff.2 hn)
            rw [e] at e'
            cases e'
            have := hA2 hn b off e
            exact hk b h1 (by omega) (by omega)
          · have := hLg rw' hrw hn b off e
            exact hk b (block_reads (R26.2 rw' hrw).1 hn e) (by omega) (by omega)
        have SEQ : Hid (∀ k, k < (seqT r.1).length → ∃ t : Nat, at0 (seqT r.1) k = (t : Int) ∧ t < n.ts.length ∧ ∀ F, cntF F (r.1.take (k + 1)) = incF (cntF F (r.1.take k)) t) := fun k hk => by
          rw [seqT_len] at hk
          refine ⟨(r.1[k]).1, ?_, hrt _ (List.getElem_mem hk), fun F => ?_⟩
          · unfold at0 seqT
            simp [hk]
          · rw [List.take_succ_eq_append_getElem hk, cntF_snoc]
        have ROWS : Hid (∀ k, k < L.length → mxs S.mx (initialN n :: marks r.1) (k + 1) = maxL (mxs S.mx (initialN n :: marks r.1) k) (rA L k).zs) := fun k hk => by
          have hk2 : k < (initialN n :: marks r.1).length := by rw [← e2, rowsL_len]; exact hk
          rw [mxs_succ hk2]
          congr 1
          have := rA_get hk
          rw [← this]
          congr 1
          exact e2.symm
        have AB2 : Hid (Abs (initialN n) (maxH S.mx r.1)) := Abs.hist r.1 _ AB.out hrz
        have MALL : Hid (mxs S.mx (initialN n :: marks r.1) L.length = maxH S.mx r.1) := by
          have e : L.length = (initialN n :: marks r.1).length := by rw [← e2, rowsL_len]
          rw [e]
          exact mxs_all AB.out
        have CBD : Hid (∀ k t, k ≤ (seqT r.1).length → 0 ≤ cntF S.F (r.1.take k) t ∧ cntF S.F (r.1.take k) t ≤ 1000000 + 10000) := fun k t hk => by
          have h1 := cntF_bd (r.1.take k) S.F t
          have h2 := H6.out.bd t
          rw [seqT_len] at hk
          rw [List.length_take] at h1
          omega
        have CALL : Hid (cntF S.F (r.1.take (seqT r.1).length) = cntF S.F r.1) := Lib.hid (by rw [seqT_len, List.take_length])
        obtain ⟨M0, cM0, hRW⟩ := rw_start H6.out
        have HSQ := Lib.hid (seqT_len r.1)
        have HLl := Lib.hid hLl
        have hQN : (seqT r.1).length ≤ N := by rw [seqT_len]; exact hrl
        have hLN : L.length ≤ 10001 := by omega
        have HA1 : Hid (Off A1 (seqT r.1) PF) := fun hn b off e => by have := (F1.2 hn b off e).1; omega
        have HA2 : Hid (L ≠ [] → ∀ b off, A2 = some ⟨b, off, none⟩ → b ≠ bl) := fun hn b off e => by have := hA2 hn b off e; omega
        have hxbl : xb ≠ bl := by omega
        have hxbp : xb ≠ PF := by omega
        have hlr : r.1.length ≤ 10000 := by omega
        have RW0 := Lib.hid hRW
        have h60 := hRW.kp
        have c0 := cell_blk hbx 0
        have c1' := cell_blk hbx 1
        have c2' := cell_blk hbx 2
        simp only [List.getElem?_toArray, List.getElem?_cons_zero, List.getElem?_cons_succ] at c0 c1' c2'
        have hd6 := H6.out.dd
        have HX6 := Lib.hid hx6
        have HXB := Lib.hid hxb
        clear hRW h60 C HNS F1 R2 K hA2 hLg hbx LA K6 hx6 hxb hrt hrz hLl e2 hR hs6 hx5 H6
        go_wp2_with fail
        (try rw [← HXB.out])
        (try rw [← HX6.out])
        go_loopw [17] (fun q wx => ∃ k : Nat, k ≤ (seqT r.1).length ∧ q = .int .i64 k ∧ Hid (RW x1 x6 bl PF n.ts.length S.dead (cntF S.F (r.1.take k)) S.mx M0 cM0 wx)) (fun q _ => (seqT r.1).length - (intOf q).toNat)
        case atStart => exact ⟨0, by omega, rfl, RW0⟩
        case round =>
          clear RW0 c0 c1' c2'
          obtain ⟨k, hk, rfl, HW⟩ := hrel
          obtain ⟨k1, k2, k3⟩ := KX.out _ HW.out.kp
          have c0 := cell_blk k3 0
          simp only [List.getElem?_toArray, List.getElem?_cons_zero] at c0
          by_cases hkl : k < (seqT r.1).length
          · obtain ⟨t, et, htn, eF⟩ := SEQ.out k hkl
            obtain ⟨b1, o1, e1, hxq⟩ := at_of_reads k1 k hkl
            rw [et] at hxq
            have hb1 : b1 ≠ PF := HA1.out (fun c => by rw [c] at hkl; simp at hkl) b1 o1 e1
            have s0 := cell_blk HW.out.st 0
            simp only [List.getElem?_toArray, List.getElem?_cons_zero] at s0
            have H2 := Lib.hid (HW.out.drew.inc hpge hpbl t)
            have p0 : wr.drew.cell? ⟨PF, t, none⟩ = some (.int .i64 (cntF S.F (r.1.take k) t)) := HW.out.row.cell htn
            have pf : wr.drew.frozen? ⟨PF, t, none⟩ = false := HW.out.row.frozen t
            have bx := CBD.out k t (by omega)
            have EF := Lib.hid (eF S.F)
            rw [← EF.out] at H2
            subst e1
            clear et eF k1 k2 k3 EF
            generalize cntF S.F (r.1.take k) t = x at *
            go_upto_region 17 with fail
            refine wp_region_held_drew (S := fun w' => w'.cell? ⟨bl, 0, none⟩ = some (.slice (some ⟨PF, 0, none⟩) n.ts.length n.ts.length) ∧ w'.cell? ⟨xb, 0, none⟩ = some (.slice (some ⟨b1, o1, none⟩) (seqT r.1).length c1) ∧ w'.cell? ⟨b1, o1 + k, none⟩ = some (.int .i64 (t : Int))) (by kernel_rfl) ?_ (fun hHeld => ?_)
            · exact ⟨s0, c0, hxq⟩
            refine wpAnyH_take (oi := ⟨_, _, _, _, _, _⟩) (i := 0) (v := ?_) rfl (by kernel_rfl) (by kernel_rfl) (by kernel_rfl) (fun _ _ _ h => h) (Or.inl ⟨by rfl, ?ye0⟩) (by assumption) ?re0
            case ye0 => (intro w hSw; (try dsimp only at hSw); go_simp; (try with_reducible rfl))
            try simp only [Act.put, List.setIfInBounds_toArray, List.set_cons_zero, List.set_cons_succ]
            refine wpAnyH_take (oi := ⟨_, _, _, _, _, _⟩) (i := 1) (v := ?_) rfl (by kernel_rfl) (by kernel_rfl) (by kernel_rfl) (fun _ _ _ h => h) (Or.inl ⟨by rfl, ?ye1⟩) (by assumption) ?re1
            case ye1 => (intro w hSw; (try dsimp only at hSw); go_simp; (try with_reducible rfl))
            try simp only [Act.put, List.setIfInBounds_toArray, List.set_cons_zero, List.set_cons_succ]
            refine wpAnyH_take (oi := ⟨_, _, _, _, _, _⟩) (i := 2) (v := ?_) rfl (by kernel_rfl) (by kernel_rfl) (by kernel_rfl) (fun _ _ _ h => h) (Or.inl ⟨by rfl, ?ye2⟩) (by assumption) ?re2
            case ye2 => (intro w hSw; (try dsimp only at hSw); go_simp; (try with_reducible rfl))
            try simp only [Act.put, List.setIfInBounds_toArray, List.set_cons_zero, List.set_cons_succ]
            refine wpAnyH_take (oi := ⟨_, _, _, _, _, _⟩) (i := 3) (v := ?_) rfl (by kernel_rfl) (by kernel_rfl) (by kernel_rfl) (fun _ _ _ h => h) (Or.inl ⟨by rfl, ?ye3⟩) (by assumption) ?re3
            case ye3 => (intro w hSw; (try dsimp only at hSw); go_simp; (try with_reducible rfl))
            try simp only [Act.put, List.setIfInBounds_toArray, List.set_cons_zero, List.set_cons_succ]
            refine wpAnyH_take (oi := ⟨_, _, _, _, _, _⟩) (i := 4) (v := ?_) rfl (by kernel_rfl) (by kernel_rfl) (by kernel_rfl) (fun _ _ _ h => h) (Or.inl ⟨by rfl, ?ye4⟩) (by assumption) ?re4
            case ye4 => (intro w hSw; (try dsimp only at hSw); go_simp; (try with_reducible rfl))
            try simp only [Act.put, List.setIfInBounds_toArray, List.set_cons_zero, List.set_cons_succ]
            refine wpAnyH_take (oi := ⟨_, _, _, _, _, _⟩) (i := 5) (v := ?_) rfl (by kernel_rfl) (by kernel_rfl) (by kernel_rfl) (fun _ _ _ h => h) (Or.inl ⟨by rfl, ?ye5⟩) (by assumption) ?re5
            case ye5 => (intro w hSw; (try dsimp only at hSw); go_simp; (try with_reducible rfl))
            try simp only [Act.put, List.setIfInBounds_toArray, List.set_cons_zero, List.set_cons_succ]
            refine wpAnyH_take (oi := ⟨_, _, _, _, _, _⟩) (i := 6) (v := ?_) rfl (by kernel_rfl) (by kernel_rfl) (by kernel_rfl) (fun _ _ _ h => h) (Or.inl ⟨by rfl, ?ye6⟩) (by assumption) ?re6
            case ye6 => (intro w hSw; (try dsimp only at hSw); go_simp; (try with_reducible rfl))
            try simp only [Act.put, List.setIfInBounds_toArray, List.set_cons_zero, List.set_cons_succ]
            refine wpAnyH_take (oi := ⟨_, _, _, _, _, _⟩) (i := 7) (v := ?_) rfl (by kernel_rfl) (by kernel_rfl) (by kernel_rfl) (fun _ _ _ h => h) (Or.inl ⟨by rfl, ?ye7⟩) (by assumption) ?re7
            case ye7 => (intro w hSw; (try dsimp only at hSw); go_simp; (try with_reducible rfl))
            try simp only [Act.put, List.setIfInBounds_toArray, List.set_cons_zero, List.set_cons_succ]
            generalize wr.drew = wdr at *
            refine wpAnyH_ready (rs := [8]) (by kernel_rfl) (by simp) ?_
            refine AllReadyH.cons (o := ⟨_, _, _, _, _, _⟩) rfl (fun K hK => ?_) AllReadyH.nil
            go_simp
            refine hK.out _ _ ?_ (fun hHeld2 => ?_)
            · exact hHeld
            clear hK K hHeld
            have hHeld := hHeld2
            clear hHeld2
            try simp only [Act.put, List.setIfInBounds_toArray, List.set_cons_zero, List.set_cons_succ]
            refine wpAnyH_take (oi := ⟨_, _, _, _, _, _⟩) (i := 9) (v := ?_) rfl (by kernel_rfl) (by kernel_rfl) (by kernel_rfl) (fun _ _ _ h => h) (Or.inl ⟨by rfl, ?yf9⟩) (by assumption) ?rf9
            case yf9 => (intro w hSw; (try dsimp only at hSw); go_simp; (try with_reducible rfl))
            try simp only [Act.put, List.setIfInBounds_toArray, List.set_cons_zero, List.set_cons_succ]
            refine wpAnyH_take (oi := ⟨_, _, _, _, _, _⟩) (i := 10) (v := ?_) rfl (by kernel_rfl) (by kernel_rfl) (by kernel_rfl) (fun _ _ _ h => h) (Or.inl ⟨by rfl, ?yf10⟩) (by assumption) ?rf10
            case yf10 => (intro w hSw; (try dsimp only at hSw); go_simp; (try with_reducible rfl))
            try simp only [Act.put, List.setIfInBounds_toArray, List.set_cons_zero, List.set_cons_succ]
            refine wpAnyH_ready (rs := [11]) (by kernel_rfl) (by simp) ?_
            refine AllReadyH.cons (o := ⟨_, _, _, _, _, _⟩) rfl (fun K hK => ?_) AllReadyH.nil
            go_simp
            refine hK.out _ _ ?_ (fun hHeld2 => ?_)
            · exact ⟨(World.cell?_of_block (a := ⟨bl, 0, none⟩) (Below.heap_setCell _ _ _ bl hpbl)).trans hHeld.1, (World.cell?_of_block (a := ⟨xb, 0, none⟩) (Below.heap_setCell _ _ _ xb hxbp)).trans hHeld.2.1, (World.cell?_of_block (a := ⟨b1, o1 + k, none⟩) (Below.heap_setCell _ _ _ b1 hb1)).trans hHeld.2.2⟩
            clear hK K hHeld
            have hHeld := hHeld2
            clear hHeld2
            try simp only [Act.put, List.setIfInBounds_toArray, List.set_cons_zero, List.set_cons_succ]
            refine wpAnyH_done (by kernel_rfl) ?_ _
            clear hHeld p0 pf
            go_wp2_with fail
            go_roundw
            case rel => exact ⟨k + 1, by omega, by go_num, H2⟩
            case measure => simp [intOf]; omega
          · obtain rfl : k = (seqT r.1).length := by omega
            rw [CALL.out] at HW
            clear k1 k2 k3 hkl CBD SEQ HA1
            have s1 := cell_blk HW.out.st 1
            simp only [List.getElem?_toArray, List.getElem?_cons_zero, List.getElem?_cons_succ] at s1
            have sf1 := frozen_blk HW.out.st 1
            by_cases hdl : (seqT r.1).length < N
            · have hdl' : decide (((seqT r.1).length : Int) < (N : Int)) = true := decide_eq_true (by omega)
              have HD := Lib.hid (HW.out.died hbge hpbl)
              have hdd : S.dead + 1 = S.dead + (if r.1.length < N then 1 else 0) := by rw [if_pos (by rw [← HSQ.out]; exact hdl)]
              have HDD := Lib.hid hdd
              clear HW hdd
              go_wp2_with fail
              go_loopw [18] (fun q wx => ∃ (k : Nat) (M : Option Addr) (cM : Nat), k ≤ L.length ∧ q = .int .i64 k ∧ Hid (RW x1 x6 bl PF n.ts.length (S.dead + 1) (cntF S.F r.1) (mxs S.mx (initialN n :: marks r.1) k) M cM wx)) (fun q _ => L.length - (intOf q).toNat)
              case atStart => exact ⟨0, M0, cM0, by omega, rfl, by rw [mxs_zero]; exact HD⟩
              case round =>
                clear HD s1 sf1 c0
                obtain ⟨k, M, cM, hk, rfl, HW⟩ := hrel
                obtain ⟨-, k2, k3⟩ := KX.out _ HW.out.kp
                have c1' := cell_blk k3 1
                have c2' := cell_blk k3 2
                simp only [List.getElem?_toArray, List.getElem?_cons_zero, List.getElem?_cons_succ] at c1' c2'
                by_cases hkl : k < L.length
                · obtain ⟨b2, o2, e2, hxr⟩ := k2.1.at k hkl
                  have RR5 : Hid (ReadsV wr.drew (rA L k).A (rA L k).zs) := (k2.2 _ (rA_mem hkl)).1
                  have hb2 : b2 ≠ bl := HA2.out (fun c => by rw [c] at hkl; simp at hkl) b2 o2 e2
                  have EM := Lib.hid (ROWS.out k hkl)
                  have HWd := Lib.hid HW.out.drew
                  have s2 := cell_blk HWd.out.st 2
                  simp only [List.getElem?_toArray, List.getElem?_cons_zero, List.getElem?_cons_succ] at s2
                  have hlen5 := HW.out.len
                  subst e2
                  clear k2 k3 HW c2'
                  generalize mxs S.mx (initialN n :: marks r.1) k = mx at *
                  generalize rA L k = row at *
                  obtain ⟨rA5, rz5, rc5⟩ := row
                  dsimp only at *
                  go_upto_region 23 with fail
                  refine wp_region_held_drew (S := fun w' => w'.cell? ⟨xb, 1, none⟩ = some (.slice (some ⟨b2, o2, none⟩) L.length c2) ∧ w'.cell? ⟨b2, o2 + k, none⟩ = some (.slice rA5 rz5.length rc5)) (by kernel_rfl) ?_ (fun hHeld => ?_)
                  · exact ⟨c1', hxr⟩
                  refine wpAnyH_take (oi := ⟨_, _, _, _, _, _⟩) (i := 0) (v := ?_) rfl (by kernel_rfl) (by kernel_rfl) (by kernel_rfl) (fun _ _ _ h => h) (Or.inl ⟨by rfl, ?ygHD120⟩) (by assumption) ?rgHD120
                  case ygHD120 => (intro w hSw; (try dsimp only at hSw); go_simp; (try with_reducible rfl))
                  try simp only [Act.put, List.setIfInBounds_toArray, List.set_cons_zero, List.set_cons_succ]
                  refine wpAnyH_take (oi := ⟨_, _, _, _, _, _⟩) (i := 2) (v := ?_) rfl (by kernel_rfl) (by kernel_rfl) (by kernel_rfl) (fun _ _ _ h => h) (Or.inl ⟨by rfl, ?ygHD122⟩) (by assumption) ?rgHD122
                  case ygHD122 => (intro w hSw; (try dsimp only at hSw); go_simp; (try with_reducible rfl))
                  try simp only [Act.put, List.setIfInBounds_toArray, List.set_cons_zero, List.set_cons_succ]
                  refine wpAnyH_take (oi := ⟨_, _, _, _, _, _⟩) (i := 3) (v := ?_) rfl (by kernel_rfl) (by kernel_rfl) (by kernel_rfl) (fun _ _ _ h => h) (Or.inl ⟨by rfl, ?ygHD123⟩) (by assumption) ?rgHD123
                  case ygHD123 => (intro w hSw; (try dsimp only at hSw); go_simp; (try with_reducible rfl))
                  try simp only [Act.put, List.setIfInBounds_toArray, List.set_cons_zero, List.set_cons_succ]
                  refine wpAnyH_take (oi := ⟨_, _, _, _, _, _⟩) (i := 4) (v := ?_) rfl (by kernel_rfl) (by kernel_rfl) (by kernel_rfl) (fun _ _ _ h => h) (Or.inl ⟨by rfl, ?ygHD124⟩) (by assumption) ?rgHD124
                  case ygHD124 => (intro w hSw; (try dsimp only at hSw); go_simp; (try with_reducible rfl))
                  try simp only [Act.put, List.setIfInBounds_toArray, List.set_cons_zero, List.set_cons_succ]
                  refine wpAnyH_take (oi := ⟨_, _, _, _, _, _⟩) (i := 5) (v := ?_) rfl (by kernel_rfl) (by kernel_rfl) (by kernel_rfl) (fun _ _ _ h => h) (Or.inl ⟨by rfl, ?ygHD125⟩) (by assumption) ?rgHD125
                  case ygHD125 => (intro w hSw; (try dsimp only at hSw); go_simp; (try with_reducible rfl))
                  try simp only [Act.put, List.setIfInBounds_toArray, List.set_cons_zero, List.set_cons_succ]
                  refine wpAnyH_take (oi := ⟨_, _, _, _, _, _⟩) (i := 6) (v := ?_) rfl (by kernel_rfl) (by kernel_rfl) (by kernel_rfl) (fun _ _ _ h => h) (Or.inl ⟨by rfl, ?ygHD126⟩) (by assumption) ?rgHD126
                  case ygHD126 => (intro w hSw; (try dsimp only at hSw); go_simp; (try with_reducible rfl))
                  try simp only [Act.put, List.setIfInBounds_toArray, List.set_cons_zero, List.set_cons_succ]
                  generalize wr.drew = wdr at *
                  refine wpAnyH_ready (rs := [1]) (by kernel_rfl) (by simp) ?_
                  refine AllReadyH.cons (o := ⟨_, _, _, _, _, _⟩) rfl (fun K hK => ?_) AllReadyH.nil
                  go_simp
                  refine hK.out _ _ ?_ (fun hHeld2 => ?_)
                  · exact hHeld
                  clear hK K hHeld
                  have hHeld := hHeld2
                  clear hHeld2
                  try simp only [Act.put, List.setIfInBounds_toArray, List.set_cons_zero, List.set_cons_succ]
                  refine wpAnyH_ready (rs := [7]) (by kernel_rfl) (by simp) ?_
                  refine AllReadyH.cons (o := ⟨_, _, _, _, _, _⟩) rfl (fun K hK => ?_) AllReadyH.nil
                  go_simp
                  go_at_call 22; refine (CX.out _ _ _ _ _ _ _ hlen5 HWd.out.rd RR5.out).mono ?_; rintro e w8 ⟨M5, c5, rfl, F5, K⟩; (try go_wp2_with fail)
                  have RWm : Hid (RW x1 x6 bl PF n.ts.length (S.dead + 1) (cntF S.F r.1) (mxs S.mx (initialN n :: marks r.1) (k + 1)) M5 c5 (w8.setCell ⟨bl, 2, none⟩ (.slice M5 (maxL mx rz5).length c5))) := by
                    rw [EM.out]
                    exact HWd.out.max hbge hpbl K F5 (Nat.le_trans (maxL_le _ _) hlen5)
                  have hb8 := (K.block bl HWd.out.blt).trans HWd.out.st
                  have s2 := keepc s2 K
                  have sf2 := frozen_blk hb8 2
                  clear hb8
                  refine hK.out _ _ ?_ (fun hHeld2 => ?_)
                  · exact ⟨keepc hHeld.1 K, keepc hHeld.2 K⟩
                  clear hK hHeld
                  have hHeld := hHeld2
                  clear hHeld2
                  try simp only [Act.put, List.setIfInBounds_toArray, List.set_cons_zero, List.set_cons_succ]
                  refine wpAnyH_take (oi := ⟨_, _, _, _, _, _⟩) (i := 8) (v := ?_) rfl (by kernel_rfl) (by kernel_rfl) (by kernel_rfl) (fun _ _ _ h => h) (Or.inl ⟨by rfl, ?yh128⟩) (by assumption) ?rh128
                  case yh128 => (intro w hSw; (try dsimp only at hSw); go_simp; (try with_reducible rfl))
                  try simp only [Act.put, List.setIfInBounds_toArray, List.set_cons_zero, List.set_cons_succ]
                  refine wpAnyH_ready (rs := [9]) (by kernel_rfl) (by simp) ?_
                  refine AllReadyH.cons (o := ⟨_, _, _, _, _, _⟩) rfl (fun K hK => ?_) AllReadyH.nil
                  go_simp
                  refine hK.out _ _ ?_ (fun hHeld2 => ?_)
                  · exact ⟨(World.cell?_of_block (a := ⟨xb, 1, none⟩) (Below.heap_setCell _ _ _ xb hxbl)).trans hHeld.1, (World.cell?_of_block (a := ⟨b2, o2 + k, none⟩) (Below.heap_setCell _ _ _ b2 hb2)).trans hHeld.2⟩
                  clear hK K hHeld
                  have hHeld := hHeld2
                  clear hHeld2
                  try simp only [Act.put, List.setIfInBounds_toArray, List.set_cons_zero, List.set_cons_succ]
                  refine wpAnyH_done (by kernel_rfl) ?_ _
                  clear hHeld s2 sf2
                  go_wp2_with fail
                  go_roundw
                  case rel => exact ⟨k + 1, M5, c5, by omega, by go_num, RWm⟩
                  case measure => simp [intOf]; omega
                · obtain rfl : k = L.length := by omega
                  rw [MALL.out] at HW
                  have HN := Lib.hid (rw_end H.out hlt HR.out hrl (by omega) (HDD.out) HW.out)
                  clear HW k2 k3 H
                  go_wp2_with fail
                  go_roundw
                  case rel => exact ⟨i + 1, stepS N S r, by omega, by go_num, rfl, HN, AB2⟩
                  case measure => simp [intOf]; omega
            · have hdl' : decide (((seqT r.1).length : Int) < (N : Int)) = false := decide_eq_false (by omega)
              have hdd : S.dead = S.dead + (if r.1.length < N then 1 else 0) := by rw [if_neg (by rw [← HSQ.out]; exact hdl)]; rfl
              have HDD := Lib.hid hdd
              have HD := HW
              clear HW hdd
              go_wp2_with fail
              go_loopw [18] (fun q wx => ∃ (k : Nat) (M : Option Addr) (cM : Nat), k ≤ L.length ∧ q = .int .i64 k ∧ Hid (RW x1 x6 bl PF n.ts.length S.dead (cntF S.F r.1) (mxs S.mx (initialN n :: marks r.1) k) M cM wx)) (fun q _ => L.length - (intOf q).toNat)
              case atStart => exact ⟨0, M0, cM0, by omega, rfl, by rw [mxs_zero]; exact HD⟩
              case round =>
                clear HD s1 sf1 c0
                obtain ⟨k, M, cM, hk, rfl, HW⟩ := hrel
                obtain ⟨-, k2, k3⟩ := KX.out _ HW.out.kp
                have c1' := cell_blk k3 1
                have c2' := cell_blk k3 2
                simp only [List.getElem?_toArray, List.getElem?_cons_zero, List.getElem?_cons_succ] at c1' c2'
                by_cases hkl : k < L.length
                · obtain ⟨b2, o2, e2, hxr⟩ := k2.1.at k hkl
                  have RR5 : Hid (ReadsV wr.drew (rA L k).A (rA L k).zs) := (k2.2 _ (rA_mem hkl)).1
                  have hb2 : b2 ≠ bl := HA2.out (fun c => by rw [c] at hkl; simp at hkl) b2 o2 e2
                  have EM := Lib.hid (ROWS.out k hkl)
                  have HWd := Lib.hid HW.out.drew
                  have s2 := cell_blk HWd.out.st 2
                  simp only [List.getElem?_toArray, List.getElem?_cons_zero, List.getElem?_cons_succ] at s2
                  have hlen5 := HW.out.len
                  subst e2
                  clear k2 k3 HW c2'
                  generalize mxs S.mx (initialN n :: marks r.1) k = mx at *
                  generalize rA L k = row at *
                  obtain ⟨rA5, rz5, rc5⟩ := row
                  dsimp only at *
                  go_upto_region 23 with fail
                  refine wp_region_held_drew (S := fun w' => w'.cell? ⟨xb, 1, none⟩ = some (.slice (some ⟨b2, o2, none⟩) L.length c2) ∧ w'.cell? ⟨b2, o2 + k, none⟩ = some (.slice rA5 rz5.length rc5)) (by kernel_rfl) ?_ (fun hHeld => ?_)
                  · exact ⟨c1', hxr⟩
                  refine wpAnyH_take (oi := ⟨_, _, _, _, _, _⟩) (i := 0) (v := ?_) rfl (by kernel_rfl) (by kernel_rfl) (by kernel_rfl) (fun _ _ _ h => h) (Or.inl ⟨by rfl, ?ygHD60⟩) (by assumption) ?rgHD60
                  case ygHD60 => (intro w hSw; (try dsimp only at hSw); go_simp; (try with_reducible rfl))
                  try simp only [Act.put, List.setIfInBounds_toArray, List.set_cons_zero, List.set_cons_succ]
                  refine wpAnyH_take (oi := ⟨_, _, _, _, _, _⟩) (i := 2) (v := ?_) rfl (by kernel_rfl) (by kernel_rfl) (by kernel_rfl) (fun _ _ _ h => h) (Or.inl ⟨by rfl, ?ygHD62⟩) (by assumption) ?rgHD62
                  case ygHD62 => (intro w hSw; (try dsimp only at hSw); go_simp; (try with_reducible rfl))
                  try simp only [Act.put, List.setIfInBounds_toArray, List.set_cons_zero, List.set_cons_succ]
                  refine wpAnyH_take (oi := ⟨_, _, _, _, _, _⟩) (i := 3) (v := ?_) rfl (by kernel_rfl) (by kernel_rfl) (by kernel_rfl) (fun _ _ _ h => h) (Or.inl ⟨by rfl, ?ygHD63⟩) (by assumption) ?rgHD63
                  case ygHD63 => (intro w hSw; (try dsimp only at hSw); go_simp; (try with_reducible rfl))
                  try simp only [Act.put, List.setIfInBounds_toArray, List.set_cons_zero, List.set_cons_succ]
                  refine wpAnyH_take (oi := ⟨_, _, _, _, _, _⟩) (i := 4) (v := ?_) rfl (by kernel_rfl) (by kernel_rfl) (by kernel_rfl) (fun _ _ _ h => h) (Or.inl ⟨by rfl, ?ygHD64⟩) (by assumption) ?rgHD64
                  case ygHD64 => (intro w hSw; (try dsimp only at hSw); go_simp; (try with_reducible rfl))
                  try simp only [Act.put, List.setIfInBounds_toArray, List.set_cons_zero, List.set_cons_succ]
                  refine wpAnyH_take (oi := ⟨_, _, _, _, _, _⟩) (i := 5) (v := ?_) rfl (by kernel_rfl) (by kernel_rfl) (by kernel_rfl) (fun _ _ _ h => h) (Or.inl ⟨by rfl, ?ygHD65⟩) (by assumption) ?rgHD65
                  case ygHD65 => (intro w hSw; (try dsimp only at hSw); go_simp; (try with_reducible rfl))
                  try simp only [Act.put, List.setIfInBounds_toArray, List.set_cons_zero, List.set_cons_succ]
                  refine wpAnyH_take (oi := ⟨_, _, _, _, _, _⟩) (i := 6) (v := ?_) rfl (by kernel_rfl) (by kernel_rfl) (by kernel_rfl) (fun _ _ _ h => h) (Or.inl ⟨by rfl, ?ygHD66⟩) (by assumption) ?rgHD66
                  case ygHD66 => (intro w hSw; (try dsimp only at hSw); go_simp; (try with_reducible rfl))
                  try simp only [Act.put, List.setIfInBounds_toArray, List.set_cons_zero, List.set_cons_succ]
                  generalize wr.drew = wdr at *
                  refine wpAnyH_ready (rs := [1]) (by kernel_rfl) (by simp) ?_
                  refine AllReadyH.cons (o := ⟨_, _, _, _, _, _⟩) rfl (fun K hK => ?_) AllReadyH.nil
                  go_simp
                  refine hK.out _ _ ?_ (fun hHeld2 => ?_)
                  · exact hHeld
                  clear hK K hHeld
                  have hHeld := hHeld2
                  clear hHeld2
                  try simp only [Act.put, List.setIfInBounds_toArray, List.set_cons_zero, List.set_cons_succ]
                  refine wpAnyH_ready (rs := [7]) (by kernel_rfl) (by simp) ?_
                  refine AllReadyH.cons (o := ⟨_, _, _, _, _, _⟩) rfl (fun K hK => ?_) AllReadyH.nil
                  go_simp
                  go_at_call 22; refine (CX.out _ _ _ _ _ _ _ hlen5 HWd.out.rd RR5.out).mono ?_; rintro e w8 ⟨M5, c5, rfl, F5, K⟩; (try go_wp2_with fail)
                  have RWm : Hid (RW x1 x6 bl PF n.ts.length S.dead (cntF S.F r.1) (mxs S.mx (initialN n :: marks r.1) (k + 1)) M5 c5 (w8.setCell ⟨bl, 2, none⟩ (.slice M5 (maxL mx rz5).length c5))) := by
                    rw [EM.out]
                    exact HWd.out.max hbge hpbl K F5 (Nat.le_trans (maxL_le _ _) hlen5)
                  have hb8 := (K.block bl HWd.out.blt).trans HWd.out.st
                  have s2 := keepc s2 K
                  have sf2 := frozen_blk hb8 2
                  clear hb8
                  refine hK.out _ _ ?_ (fun hHeld2 => ?_)
                  · exact ⟨keepc hHeld.1 K, keepc hHeld.2 K⟩
                  clear hK hHeld
                  have hHeld := hHeld2
                  clear hHeld2
                  try simp only [Act.put, List.setIfInBounds_toArray, List.set_cons_zero, List.set_cons_succ]
                  refine wpAnyH_take (oi := ⟨_, _, _, _, _, _⟩) (i := 8) (v := ?_) rfl (by kernel_rfl) (by kernel_rfl) (by kernel_rfl) (fun _ _ _ h => h) (Or.inl ⟨by rfl, ?yh68⟩) (by assumption) ?rh68
                  case yh68 => (intro w hSw; (try dsimp only at hSw); go_simp; (try with_reducible rfl))
                  try simp only [Act.put, List.setIfInBounds_toArray, List.set_cons_zero, List.set_cons_succ]
                  refine wpAnyH_ready (rs := [9]) (by kernel_rfl) (by simp) ?_
                  refine AllReadyH.cons (o := ⟨_, _, _, _, _, _⟩) rfl (fun K hK => ?_) AllReadyH.nil
                  go_simp
                  refine hK.out _ _ ?_ (fun hHeld2 => ?_)
                  · exact ⟨(World.cell?_of_block (a := ⟨xb, 1, none⟩) (Below.heap_setCell _ _ _ xb hxbl)).trans hHeld.1, (World.cell?_of_block (a := ⟨b2, o2 + k, none⟩) (Below.heap_setCell _ _ _ b2 hb2)).trans hHeld.2⟩
                  clear hK K hHeld
                  have hHeld := hHeld2
                  clear hHeld2
                  try simp only [Act.put, List.setIfInBounds_toArray, List.set_cons_zero, List.set_cons_succ]
                  refine wpAnyH_done (by kernel_rfl) ?_ _
                  clear hHeld s2 sf2
                  go_wp2_with fail
                  go_roundw
                  case rel => exact ⟨k + 1, M5, c5, by omega, by go_num, RWm⟩
                  case measure => simp [intOf]; omega
                · obtain rfl : k = L.length := by omega
                  rw [MALL.out] at HW
                  have HN := Lib.hid (rw_end H.out hlt HR.out hrl (by omega) (HDD.out) HW.out)
                  clear HW k2 k3 H
                  go_wp2_with fail
                  go_roundw
                  case rel => exact ⟨i + 1, stepS N S r, by omega, by go_num, rfl, HN, AB2⟩
                  case measure => simp [intOf]; omega
      · have HNO := Lib.hid (MN.out (HNS.out hR))
        have hx5 := K.size
        have hrs : (x5.alloc (.cells #[.slice none 0 0, .slice none 0 0, .int .u64 0] 42)).heap[w.heap.size + 1]? = some (.cells #[.slice none 0 0, .int .i64 0, .slice none 0 0] 52 (0, 0)) := (Deep.blk_alloc_lt _ _ _ (by omega)).trans ((K.block _ (by omega)).trans ((H.out.low.block _ hxs).trans HRS1.out))
        have HB5 : Hid (Below w.heap.size w (x5.alloc (.cells #[.slice none 0 0, .slice none 0 0, .int .u64 0] 42))) := (HBr.out.trans (K.mono HBr.out.size)).alloc (by omega) _
        clear C H HNS hR K q0 q1 q2
        have r0 := cell_blk hrs 0
        have r1 := cell_blk hrs 1
        have r2 := cell_blk hrs 2
        have rf0 := frozen_blk hrs 0
        have rf1 := frozen_blk hrs 1
        have rf2 := frozen_blk hrs 2
        simp only [List.getElem?_toArray, List.getElem?_cons_zero, List.getElem?_cons_succ] at r0 r1 r2
        have HRS : Hid ((put3 (x5.alloc (.cells #[.slice none 0 0, .slice none 0 0, .int .u64 0] 42)) (w.heap.size + 1) (.slice none 0 0) (.int .i64 0) (.slice none 0 0)).heap[w.heap.size + 1]? = some (.cells #[.slice none 0 0, .int .i64 0, .slice none 0 0] 52 (0, 0))) := by
          unfold put3
          exact blk_set (blk_set (blk_set hrs 0 _) 1 _) 2 _
        have HB9 : Hid (Below w.heap.size w (put3 (x5.alloc (.cells #[.slice none 0 0, .slice none 0 0, .int .u64 0] 42)) (w.heap.size + 1) (.slice none 0 0) (.int .i64 0) (.slice none 0 0))) := put3_below HB5.out (by omega) _ _ _
        clear hrs
        go_wp2_with fail
        (try rw [Exit.noGoto_ret])
        clear r0 r1 r2 rf0 rf1 rf2
        have hres := HRS.out
        have r0 := cell_blk hres 0
        have r1 := cell_blk hres 1
        have r2 := cell_blk hres 2
        unfold put3 at r0 r1 r2
        simp only [List.getElem?_toArray, List.getElem?_cons_zero, List.getElem?_cons_succ] at r0 r1 r2
        exact bodyPost_ret (v := .tuple #[.agg #[.slice none 0 0, .int .i64 0, .slice none 0 0], .int .i64 3]) (by simp [results, Try.results17, go_sem, r0, r1, r2]) rfl (show MPost _ _ _ _ _ _ from Or.inr ⟨HNO.out.1, by rw [HNO.out.2], HB9.out⟩)
    · obtain rfl : i = rn := by omega
      have E := Lib.hid (MS.out S (many_end (by have := H.out.res; rwa [Nat.sub_self] at this)))
      have hrs := (H.out.low.block _ hxs).trans HRS1.out
      have hS24 := H.out.len
      obtain ⟨M, cM, e1, e2, e3, e4, e5⟩ := lm_done H.out hxs hrs w w.heap.size (by omega) HB1.out HB1.out.size
      have d0 := cell_blk e1 0
      have d1 := cell_blk e1 1
      have d2 := cell_blk e1 2
      have r0 := cell_blk hrs 0
      have r1 := cell_blk hrs 1
      have r2 := cell_blk hrs 2
      have rf0 := frozen_blk hrs 0
      have rf1 := frozen_blk hrs 1
      have rf2 := frozen_blk hrs 2
      simp only [List.getElem?_toArray, List.getElem?_cons_zero, List.getElem?_cons_succ] at r0 r1 r2 d0 d1 d2
      have HRS := Lib.hid e2
      have R1 := Lib.hid e3
      have R2 := Lib.hid e4
      have HB9 := Lib.hid e5
      clear e1 e2 e3 e4 e5 hrs H
      go_wp2_with fail
      (try rw [Exit.noGoto_ret])
      clear r0 r1 r2 rf0 rf1 rf2 d0 d1 d2
      have hres := HRS.out
      have r0 := cell_blk hres 0
      have r1 := cell_blk hres 1
      have r2 := cell_blk hres 2
      unfold put3 at r0 r1 r2
      simp only [List.getElem?_toArray, List.getElem?_cons_zero, List.getElem?_cons_succ] at r0 r1 r2
      exact bodyPost_ret (v := .tuple #[.agg #[.slice (some ⟨PF, 0, none⟩) n.ts.length n.ts.length, .int .i64 (S.dead : Nat), .slice M S.mx.length cM], .int .i64 0]) (by simp [results, Try.results17, go_sem, r0, r1, r2]) rfl (show MPost _ _ _ _ _ _ from Or.inl ⟨S, _, _, M, cM, E.out.1, by rw [E.out.2], R1.out, R2.out, HB9.out, hS24⟩)
end Go.Proofs.Ytpfkkjgklhcejaa

namespace Go.Proofs.Ytpfkkjgklhcejaa
open Go.RowKit

set_option maxHeartbeats 16000000 in
set_option maxRecDepth 100000 in
theorem many_law (n : NetV) (A : Option Addr) (ws : List Int) (c s0 : Nat) (steps : Int) (runs : Int) (w : World) (hr : NetW w n) (hw : ReadsV w A ws) (hl : ws.length ≤ maxLen) :
    Calls Try.prog 4 #[.agg #[.string n.nm, .slice n.PA n.ps.length n.pc, .slice n.TA n.ts.length n.tc], .agg #[.slice A ws.length c, .int .u64 (s0 : Nat), .int .i64 steps], .int .i64 runs] w fun e w' => e = .returned (.bool true) ∧ Below w.heap.size w w' := by
  have CS : Hid (∀ W, Below w.heap.size w W → Calls Try.prog 7 #[.agg #[.string n.nm, .slice n.PA n.ps.length n.pc, .slice n.TA n.ts.length n.tc]] W (SmallPost W.heap.size W n)) := fun W hW => small_any n W (hr.below hW (Nat.le_refl _))
  have CX : Hid (∀ W, Calls Try.prog 9 #[] W (VPost W.heap.size W (.bool true))) := example_any
  have CLG : Hid (∀ W, Calls Try.prog 8 #[.agg #[.slice A ws.length c, .int .u64 (s0 : Nat), .int .i64 steps]] W (VPost W.heap.size W (.bool (longB ws steps)))) := fun W => long_any A ws c s0 steps W
  have B0 : Hid (Below w.heap.size w ((w.alloc (.cells #[.string n.nm, .slice n.PA n.ps.length n.pc, .slice n.TA n.ts.length n.tc] 25)).alloc (.cells #[.slice A ws.length c, .int .u64 (s0 : Nat), .int .i64 steps] 29))) := ((Below.refl _ _).alloc (Nat.le_refl _) _).alloc (by simp) _
  have a0 : ((w.alloc (.cells #[.string n.nm, .slice n.PA n.ps.length n.pc, .slice n.TA n.ts.length n.tc] 25)).alloc (.cells #[.slice A ws.length c, .int .u64 (s0 : Nat), .int .i64 steps] 29)).cell? ⟨w.heap.size + 1, 0, none⟩ = some (.slice A ws.length c) := by rw [← World.size_alloc w (.cells #[.string n.nm, .slice n.PA n.ps.length n.pc, .slice n.TA n.ts.length n.tc] 25)]; simp
  have a1 : ((w.alloc (.cells #[.string n.nm, .slice n.PA n.ps.length n.pc, .slice n.TA n.ts.length n.tc] 25)).alloc (.cells #[.slice A ws.length c, .int .u64 (s0 : Nat), .int .i64 steps] 29)).cell? ⟨w.heap.size + 1, 1, none⟩ = some (.int .u64 (s0 : Nat)) := by rw [← World.size_alloc w (.cells #[.string n.nm, .slice n.PA n.ps.length n.pc, .slice n.TA n.ts.length n.tc] 25)]; simp
  have a2 : ((w.alloc (.cells #[.string n.nm, .slice n.PA n.ps.length n.pc, .slice n.TA n.ts.length n.tc] 25)).alloc (.cells #[.slice A ws.length c, .int .u64 (s0 : Nat), .int .i64 steps] 29)).cell? ⟨w.heap.size + 1, 2, none⟩ = some (.int .i64 steps) := by rw [← World.size_alloc w (.cells #[.string n.nm, .slice n.PA n.ps.length n.pc, .slice n.TA n.ts.length n.tc] 25)]; simp
  cases hs : smallN n
  · have CS2 : Hid (∀ W, Below w.heap.size w W → Calls Try.prog 7 #[.agg #[.string n.nm, .slice n.PA n.ps.length n.pc, .slice n.TA n.ts.length n.tc]] W (fun e w' => e = .returned (.tuple #[.agg #[.string ⟨#[]⟩, .slice none 0 0, .slice none 0 0], .bool false]) ∧ Below W.heap.size W w')) := fun W hW => (CS.out W hW).mono fun e w' h => by
      unfold SmallPost at h
      rw [hs, if_neg (by simp)] at h
      exact h
    clear CS hs CLG hr hw hl
    go_enter Try.func4, Try.ntmps4
    go_wp2_with fail
    refine (CS2.out _ B0.out).mono ?_
    rintro e x1 ⟨rfl, K⟩
    have a0 := keepc a0 K
    have a1 := keepc a1 K
    have a2 := keepc a2 K
    have Dx1 := Lib.hid (B0.out.trans (K.mono B0.out.size))
    clear K
    have Dx1a := Lib.hid (Dx1.out.alloc Dx1.out.size (.cells #[.string ⟨#[]⟩, .slice none 0 0, .slice none 0 0] 25))
    have a0 := cellA a0 (.cells #[.string ⟨#[]⟩, .slice none 0 0, .slice none 0 0] 25)
    have a1 := cellA a1 (.cells #[.string ⟨#[]⟩, .slice none 0 0, .slice none 0 0] 25)
    have a2 := cellA a2 (.cells #[.string ⟨#[]⟩, .slice none 0 0, .slice none 0 0] 25)
    go_wp2_with fail
    refine (CX.out _).mono ?_
    rintro e x2 ⟨rfl, K⟩
    have a0 := keepc a0 K
    have a1 := keepc a1 K
    have a2 := keepc a2 K
    have Dx2 := Lib.hid (Dx1a.out.trans (K.mono Dx1a.out.size))
    clear K
    go_wp2
    go_ret
    exact ⟨rfl, Dx2.out⟩
  have hr0 := small_ok hr hs
  have CS2 : Hid (∀ W, Below w.heap.size w W → Calls Try.prog 7 #[.agg #[.string n.nm, .slice n.PA n.ps.length n.pc, .slice n.TA n.ts.length n.tc]] W (fun e w' => e = .returned (.tuple #[.agg #[.string n.nm, .slice n.PA n.ps.length n.pc, .slice n.TA n.ts.length n.tc], .bool true]) ∧ Below W.heap.size W w')) := fun W hW => (CS.out W hW).mono fun e w' h => by
    unfold SmallPost at h
    rw [hs, if_pos rfl] at h
    exact h
  clear CS
  cases hlg : longB ws steps
  rotate_left
  · rw [hlg] at CLG
    clear hs hr hr0 hw hl hlg
    go_enter Try.func4, Try.ntmps4
    go_wp2_with fail
    refine (CS2.out _ B0.out).mono ?_
    rintro e x1 ⟨rfl, K⟩
    have a0 := keepc a0 K
    have a1 := keepc a1 K
    have a2 := keepc a2 K
    have Dx1 := Lib.hid (B0.out.trans (K.mono B0.out.size))
    clear K
    have a0 := cellA a0 (.cells #[.string n.nm, .slice n.PA n.ps.length n.pc, .slice n.TA n.ts.length n.tc] 25)
    have a1 := cellA a1 (.cells #[.string n.nm, .slice n.PA n.ps.length n.pc, .slice n.TA n.ts.length n.tc] 25)
    have a2 := cellA a2 (.cells #[.string n.nm, .slice n.PA n.ps.length n.pc, .slice n.TA n.ts.length n.tc] 25)
    have q0 : (x1.alloc (.cells #[.string n.nm, .slice n.PA n.ps.length n.pc, .slice n.TA n.ts.length n.tc] 25)).cell? ⟨x1.heap.size, 0, none⟩ = some (.string n.nm) := by simp
    have q1 : (x1.alloc (.cells #[.string n.nm, .slice n.PA n.ps.length n.pc, .slice n.TA n.ts.length n.tc] 25)).cell? ⟨x1.heap.size, 1, none⟩ = some (.slice n.PA n.ps.length n.pc) := by simp
    have q2 : (x1.alloc (.cells #[.string n.nm, .slice n.PA n.ps.length n.pc, .slice n.TA n.ts.length n.tc] 25)).cell? ⟨x1.heap.size, 2, none⟩ = some (.slice n.TA n.ts.length n.tc) := by simp
    have Dx1a := Lib.hid (Dx1.out.alloc Dx1.out.size (.cells #[.string n.nm, .slice n.PA n.ps.length n.pc, .slice n.TA n.ts.length n.tc] 25))
    go_wp2_with fail
    refine (CLG.out _).mono ?_
    rintro e x2 ⟨rfl, K⟩
    have q0 := keepc q0 K
    have q1 := keepc q1 K
    have q2 := keepc q2 K
    have a0 := keepc a0 K
    have a1 := keepc a1 K
    have a2 := keepc a2 K
    have Dx2 := Lib.hid (Dx1a.out.trans (K.mono Dx1a.out.size))
    clear K
    go_wp2_with fail
    refine (CX.out _).mono ?_
    rintro e x3 ⟨rfl, K⟩
    have q0 := keepc q0 K
    have q1 := keepc q1 K
    have q2 := keepc q2 K
    have a0 := keepc a0 K
    have a1 := keepc a1 K
    have a2 := keepc a2 K
    have Dx3 := Lib.hid (Dx2.out.trans (K.mono Dx2.out.size))
    clear K
    go_wp2
    go_ret
    exact ⟨rfl, Dx3.out⟩
  rw [hlg] at CLG
  by_cases hq : 6 < runs ∧ runs ≤ 100
  · have d1 : decide (6 < runs) = true := decide_eq_true hq.1
    have d2 : decide (runs ≤ 100) = true := decide_eq_true hq.2
    clear hs hr hr0 hw hl hlg hq
    go_enter Try.func4, Try.ntmps4
    go_wp2_with fail
    refine (CS2.out _ B0.out).mono ?_
    rintro e x1 ⟨rfl, K⟩
    have a0 := keepc a0 K
    have a1 := keepc a1 K
    have a2 := keepc a2 K
    have Dx1 := Lib.hid (B0.out.trans (K.mono B0.out.size))
    clear K
    have a0 := cellA a0 (.cells #[.string n.nm, .slice n.PA n.ps.length n.pc, .slice n.TA n.ts.length n.tc] 25)
    have a1 := cellA a1 (.cells #[.string n.nm, .slice n.PA n.ps.length n.pc, .slice n.TA n.ts.length n.tc] 25)
    have a2 := cellA a2 (.cells #[.string n.nm, .slice n.PA n.ps.length n.pc, .slice n.TA n.ts.length n.tc] 25)
    have q0 : (x1.alloc (.cells #[.string n.nm, .slice n.PA n.ps.length n.pc, .slice n.TA n.ts.length n.tc] 25)).cell? ⟨x1.heap.size, 0, none⟩ = some (.string n.nm) := by simp
    have q1 : (x1.alloc (.cells #[.string n.nm, .slice n.PA n.ps.length n.pc, .slice n.TA n.ts.length n.tc] 25)).cell? ⟨x1.heap.size, 1, none⟩ = some (.slice n.PA n.ps.length n.pc) := by simp
    have q2 : (x1.alloc (.cells #[.string n.nm, .slice n.PA n.ps.length n.pc, .slice n.TA n.ts.length n.tc] 25)).cell? ⟨x1.heap.size, 2, none⟩ = some (.slice n.TA n.ts.length n.tc) := by simp
    have Dx1a := Lib.hid (Dx1.out.alloc Dx1.out.size (.cells #[.string n.nm, .slice n.PA n.ps.length n.pc, .slice n.TA n.ts.length n.tc] 25))
    go_wp2_with fail
    refine (CLG.out _).mono ?_
    rintro e x2 ⟨rfl, K⟩
    have q0 := keepc q0 K
    have q1 := keepc q1 K
    have q2 := keepc q2 K
    have a0 := keepc a0 K
    have a1 := keepc a1 K
    have a2 := keepc a2 K
    have Dx2 := Lib.hid (Dx1a.out.trans (K.mono Dx1a.out.size))
    clear K
    go_wp2_with fail
    refine (CX.out _).mono ?_
    rintro e x3 ⟨rfl, K⟩
    have q0 := keepc q0 K
    have q1 := keepc q1 K
    have q2 := keepc q2 K
    have a0 := keepc a0 K
    have a1 := keepc a1 K
    have a2 := keepc a2 K
    have Dx3 := Lib.hid (Dx2.out.trans (K.mono Dx2.out.size))
    clear K
    go_wp2
    go_ret
    exact ⟨rfl, Dx3.out⟩
  have hT : n.ts.length ≤ 1000 := by
    obtain ⟨_, _, ⟨h, _⟩, _⟩ := hr0
    exact h
  have hl2 : ws.length ≤ 9223372036854775806 := by
    unfold longB at hlg
    rw [Bool.or_eq_false_iff, decide_eq_false_iff_not, decide_eq_false_iff_not] at hlg
    omega
  have CA : Hid (∀ W, Below w.heap.size w W → Calls Try.prog 16 #[.agg #[.string n.nm, .slice n.PA n.ps.length n.pc, .slice n.TA n.ts.length n.tc], .slice A ws.length c, .int .u64 (s0 : Nat), .int .i64 steps, .int .i64 runs] W (MPost W.heap.size W n.ts.length (manyV n ws steps runs s0))) := fun W hW => smany_any n A ws c s0 steps runs W (hr0.below hW (Nat.le_refl _)) (hw.below hW (Nat.le_refl _)) hl2
  have CB : Hid (∀ W, Below w.heap.size w W → Calls Try.prog 17 #[.agg #[.string n.nm, .slice n.PA n.ps.length n.pc, .slice n.TA n.ts.length n.tc], .slice A ws.length c, .int .u64 (s0 : Nat), .int .i64 steps, .int .i64 runs] W (MPost W.heap.size W n.ts.length (manyV n ws steps runs s0))) := fun W hW => rmany_any n A ws c s0 steps runs W (hr0.below hW (Nat.le_refl _)) (hw.below hW (Nat.le_refl _)) hl2
  have CM : Hid (∀ (a : List Int) B cb D cd W, a.length ≤ 1000 → ReadsV W B a → ReadsV W D a → Calls Try.prog 14 #[.slice B a.length cb, .slice D a.length cd] W (BPost W.heap.size W true)) := fun a B cb D cd W hl h1 h2 => by
    have := same_law B D a a cb cd W h1 h2 (by omega)
    rw [sameL_iff.2 rfl] at this
    exact this
  have CM0 : Hid (∀ W, Calls Try.prog 14 #[.slice none 0 0, .slice none 0 0] W (BPost W.heap.size W true)) := fun W => CM.out [] none 0 none 0 W (by simp) (ReadsV.nil _ _) (ReadsV.nil _ _)
  have CMT : Hid (∀ (F : Nat → Int) B cb D cd W, ReadsV W B (tab n.ts.length F) → ReadsV W D (tab n.ts.length F) → Calls Try.prog 14 #[.slice B n.ts.length cb, .slice D n.ts.length cd] W (BPost W.heap.size W true)) := fun F B cb D cd W h1 h2 => by
    have := CM.out (tab n.ts.length F) B cb D cd W (by rw [tab_len]; exact hT) h1 h2
    rw [tab_len] at this
    exact this
  generalize manyV n ws steps runs s0 = V at *
  obtain ⟨V1, V2⟩ := V
  rcases V1 with _ | S
  · skip
    have CA2 : Hid (∀ W, Below w.heap.size w W → Calls Try.prog 16 #[.agg #[.string n.nm, .slice n.PA n.ps.length n.pc, .slice n.TA n.ts.length n.tc], .slice A ws.length c, .int .u64 (s0 : Nat), .int .i64 steps, .int .i64 runs] W (fun e w' => e = .returned (.tuple #[.agg #[.slice none 0 0, .int .i64 0, .slice none 0 0], .int .i64 V2]) ∧ Below W.heap.size W w')) := fun W hW => (CA.out W hW).mono (fun e w' h => by
      rcases h with ⟨S', A1, c1, A2, c2, h0, h1⟩ | ⟨_, h1⟩
      · cases h0
      · exact h1)
    have CB2 : Hid (∀ W, Below w.heap.size w W → Calls Try.prog 17 #[.agg #[.string n.nm, .slice n.PA n.ps.length n.pc, .slice n.TA n.ts.length n.tc], .slice A ws.length c, .int .u64 (s0 : Nat), .int .i64 steps, .int .i64 runs] W (fun e w' => e = .returned (.tuple #[.agg #[.slice none 0 0, .int .i64 0, .slice none 0 0], .int .i64 V2]) ∧ Below W.heap.size W w')) := fun W hW => (CB.out W hW).mono (fun e w' h => by
      rcases h with ⟨S', A1, c1, A2, c2, h0, h1⟩ | ⟨_, h1⟩
      · cases h0
      · exact h1)
    rcases Classical.em (6 < runs) with h6 | h6
    · have h100 : ¬ runs ≤ 100 := fun h => hq ⟨h6, h⟩
      have d1 : decide (6 < runs) = true := decide_eq_true h6
      have d2 : decide (runs ≤ 100) = false := decide_eq_false h100
      clear hs hr hr0 hw hl hlg hl2 hq CA CB
      go_enter Try.func4, Try.ntmps4
      go_wp2_with fail
      refine (CS2.out _ B0.out).mono ?_
      rintro e x1 ⟨rfl, K⟩
      have a0 := keepc a0 K
      have a1 := keepc a1 K
      have a2 := keepc a2 K
      have Dx1 := Lib.hid (B0.out.trans (K.mono B0.out.size))
      clear K
      have a0 := cellA a0 (.cells #[.string n.nm, .slice n.PA n.ps.length n.pc, .slice n.TA n.ts.length n.tc] 25)
      have a1 := cellA a1 (.cells #[.string n.nm, .slice n.PA n.ps.length n.pc, .slice n.TA n.ts.length n.tc] 25)
      have a2 := cellA a2 (.cells #[.string n.nm, .slice n.PA n.ps.length n.pc, .slice n.TA n.ts.length n.tc] 25)
      have q0 : (x1.alloc (.cells #[.string n.nm, .slice n.PA n.ps.length n.pc, .slice n.TA n.ts.length n.tc] 25)).cell? ⟨x1.heap.size, 0, none⟩ = some (.string n.nm) := by simp
      have q1 : (x1.alloc (.cells #[.string n.nm, .slice n.PA n.ps.length n.pc, .slice n.TA n.ts.length n.tc] 25)).cell? ⟨x1.heap.size, 1, none⟩ = some (.slice n.PA n.ps.length n.pc) := by simp
      have q2 : (x1.alloc (.cells #[.string n.nm, .slice n.PA n.ps.length n.pc, .slice n.TA n.ts.length n.tc] 25)).cell? ⟨x1.heap.size, 2, none⟩ = some (.slice n.TA n.ts.length n.tc) := by simp
      have Dx1a := Lib.hid (Dx1.out.alloc Dx1.out.size (.cells #[.string n.nm, .slice n.PA n.ps.length n.pc, .slice n.TA n.ts.length n.tc] 25))
      go_wp2_with fail
      refine (CLG.out _).mono ?_
      rintro e x2 ⟨rfl, K⟩
      have q0 := keepc q0 K
      have q1 := keepc q1 K
      have q2 := keepc q2 K
      have a0 := keepc a0 K
      have a1 := keepc a1 K
      have a2 := keepc a2 K
      have Dx2 := Lib.hid (Dx1a.out.trans (K.mono Dx1a.out.size))
      clear K
      go_wp2_with fail
      refine (CA2.out _ Dx2.out).mono ?_
      rintro e x3 ⟨rfl, K⟩
      have q0 := keepc q0 K
      have q1 := keepc q1 K
      have q2 := keepc q2 K
      have a0 := keepc a0 K
      have a1 := keepc a1 K
      have a2 := keepc a2 K
      have Dx3 := Lib.hid (Dx2.out.trans (K.mono Dx2.out.size))
      clear K
      have LA : Below x3.heap.size x3 (x3.alloc (.cells #[.slice none 0 0, .int .i64 0, .slice none 0 0] 49)) := (Below.refl _ _).alloc (Nat.le_refl _) _
      have Dx3a := Lib.hid (Dx3.out.alloc Dx3.out.size (.cells #[.slice none 0 0, .int .i64 0, .slice none 0 0] 49))
      have q0 := cellA q0 (.cells #[.slice none 0 0, .int .i64 0, .slice none 0 0] 49)
      have q1 := cellA q1 (.cells #[.slice none 0 0, .int .i64 0, .slice none 0 0] 49)
      have q2 := cellA q2 (.cells #[.slice none 0 0, .int .i64 0, .slice none 0 0] 49)
      have a0 := cellA a0 (.cells #[.slice none 0 0, .int .i64 0, .slice none 0 0] 49)
      have a1 := cellA a1 (.cells #[.slice none 0 0, .int .i64 0, .slice none 0 0] 49)
      have a2 := cellA a2 (.cells #[.slice none 0 0, .int .i64 0, .slice none 0 0] 49)
      have m0 : (x3.alloc (.cells #[.slice none 0 0, .int .i64 0, .slice none 0 0] 49)).cell? ⟨x3.heap.size, 0, none⟩ = some (.slice none 0 0) := by simp [go_sem]
      have m1 : (x3.alloc (.cells #[.slice none 0 0, .int .i64 0, .slice none 0 0] 49)).cell? ⟨x3.heap.size, 1, none⟩ = some (.int .i64 0) := by simp [go_sem]
      have m2 : (x3.alloc (.cells #[.slice none 0 0, .int .i64 0, .slice none 0 0] 49)).cell? ⟨x3.heap.size, 2, none⟩ = some (.slice none 0 0) := by simp [go_sem]
      clear LA
      go_wp2_with fail
      refine (CB2.out _ Dx3a.out).mono ?_
      rintro e x4 ⟨rfl, K⟩
      have q0 := keepc q0 K
      have q1 := keepc q1 K
      have q2 := keepc q2 K
      have a0 := keepc a0 K
      have a1 := keepc a1 K
      have a2 := keepc a2 K
      have m0 := keepc m0 K
      have m1 := keepc m1 K
      have m2 := keepc m2 K
      have Dx4 := Lib.hid (Dx3a.out.trans (K.mono Dx3a.out.size))
      clear K
      clear q0 q1 q2 a0 a1 a2 CA2 CB2 CLG
      have LA : Below x4.heap.size x4 (x4.alloc (.cells #[.slice none 0 0, .int .i64 0, .slice none 0 0] 52)) := (Below.refl _ _).alloc (Nat.le_refl _) _
      have Dx4a := Lib.hid (Dx4.out.alloc Dx4.out.size (.cells #[.slice none 0 0, .int .i64 0, .slice none 0 0] 52))
      have m0 := cellA m0 (.cells #[.slice none 0 0, .int .i64 0, .slice none 0 0] 52)
      have m1 := cellA m1 (.cells #[.slice none 0 0, .int .i64 0, .slice none 0 0] 52)
      have m2 := cellA m2 (.cells #[.slice none 0 0, .int .i64 0, .slice none 0 0] 52)
      have k0 : (x4.alloc (.cells #[.slice none 0 0, .int .i64 0, .slice none 0 0] 52)).cell? ⟨x4.heap.size, 0, none⟩ = some (.slice none 0 0) := by simp [go_sem]
      have k1 : (x4.alloc (.cells #[.slice none 0 0, .int .i64 0, .slice none 0 0] 52)).cell? ⟨x4.heap.size, 1, none⟩ = some (.int .i64 0) := by simp [go_sem]
      have k2 : (x4.alloc (.cells #[.slice none 0 0, .int .i64 0, .slice none 0 0] 52)).cell? ⟨x4.heap.size, 2, none⟩ = some (.slice none 0 0) := by simp [go_sem]
      clear LA
      go_wp2_with fail
      refine (CM0.out _).mono ?_
      rintro e x5 ⟨rfl, K⟩
      have m0 := keepc m0 K
      have m1 := keepc m1 K
      have m2 := keepc m2 K
      have k0 := keepc k0 K
      have k1 := keepc k1 K
      have k2 := keepc k2 K
      have Dx5 := Lib.hid (Dx4a.out.trans (K.mono Dx4a.out.size))
      clear K
      go_wp2_with fail
      refine (CM0.out _).mono ?_
      rintro e x6 ⟨rfl, K⟩
      have m0 := keepc m0 K
      have m1 := keepc m1 K
      have m2 := keepc m2 K
      have k0 := keepc k0 K
      have k1 := keepc k1 K
      have k2 := keepc k2 K
      have Dx6 := Lib.hid (Dx5.out.trans (K.mono Dx5.out.size))
      clear K
      go_wp2_with fail
      refine (CX.out _).mono ?_
      rintro e x7 ⟨rfl, K⟩
      have m0 := keepc m0 K
      have m1 := keepc m1 K
      have m2 := keepc m2 K
      have k0 := keepc k0 K
      have k1 := keepc k1 K
      have k2 := keepc k2 K
      have Dx7 := Lib.hid (Dx6.out.trans (K.mono Dx6.out.size))
      clear K
      go_wp2
      go_ret
      exact ⟨rfl, Dx7.out⟩
    · have d1 : decide (6 < runs) = false := decide_eq_false h6
      clear hs hr hr0 hw hl hlg hl2 hq CA CB
      go_enter Try.func4, Try.ntmps4
      go_wp2_with fail
      refine (CS2.out _ B0.out).mono ?_
      rintro e x1 ⟨rfl, K⟩
      have a0 := keepc a0 K
      have a1 := keepc a1 K
      have a2 := keepc a2 K
      have Dx1 := Lib.hid (B0.out.trans (K.mono B0.out.size))
      clear K
      have a0 := cellA a0 (.cells #[.string n.nm, .slice n.PA n.ps.length n.pc, .slice n.TA n.ts.length n.tc] 25)
      have a1 := cellA a1 (.cells #[.string n.nm, .slice n.PA n.ps.length n.pc, .slice n.TA n.ts.length n.tc] 25)
      have a2 := cellA a2 (.cells #[.string n.nm, .slice n.PA n.ps.length n.pc, .slice n.TA n.ts.length n.tc] 25)
      have q0 : (x1.alloc (.cells #[.string n.nm, .slice n.PA n.ps.length n.pc, .slice n.TA n.ts.length n.tc] 25)).cell? ⟨x1.heap.size, 0, none⟩ = some (.string n.nm) := by simp
      have q1 : (x1.alloc (.cells #[.string n.nm, .slice n.PA n.ps.length n.pc, .slice n.TA n.ts.length n.tc] 25)).cell? ⟨x1.heap.size, 1, none⟩ = some (.slice n.PA n.ps.length n.pc) := by simp
      have q2 : (x1.alloc (.cells #[.string n.nm, .slice n.PA n.ps.length n.pc, .slice n.TA n.ts.length n.tc] 25)).cell? ⟨x1.heap.size, 2, none⟩ = some (.slice n.TA n.ts.length n.tc) := by simp
      have Dx1a := Lib.hid (Dx1.out.alloc Dx1.out.size (.cells #[.string n.nm, .slice n.PA n.ps.length n.pc, .slice n.TA n.ts.length n.tc] 25))
      go_wp2_with fail
      refine (CLG.out _).mono ?_
      rintro e x2 ⟨rfl, K⟩
      have q0 := keepc q0 K
      have q1 := keepc q1 K
      have q2 := keepc q2 K
      have a0 := keepc a0 K
      have a1 := keepc a1 K
      have a2 := keepc a2 K
      have Dx2 := Lib.hid (Dx1a.out.trans (K.mono Dx1a.out.size))
      clear K
      go_wp2_with fail
      refine (CA2.out _ Dx2.out).mono ?_
      rintro e x3 ⟨rfl, K⟩
      have q0 := keepc q0 K
      have q1 := keepc q1 K
      have q2 := keepc q2 K
      have a0 := keepc a0 K
      have a1 := keepc a1 K
      have a2 := keepc a2 K
      have Dx3 := Lib.hid (Dx2.out.trans (K.mono Dx2.out.size))
      clear K
      have LA : Below x3.heap.size x3 (x3.alloc (.cells #[.slice none 0 0, .int .i64 0, .slice none 0 0] 49)) := (Below.refl _ _).alloc (Nat.le_refl _) _
      have Dx3a := Lib.hid (Dx3.out.alloc Dx3.out.size (.cells #[.slice none 0 0, .int .i64 0, .slice none 0 0] 49))
      have q0 := cellA q0 (.cells #[.slice none 0 0, .int .i64 0, .slice none 0 0] 49)
      have q1 := cellA q1 (.cells #[.slice none 0 0, .int .i64 0, .slice none 0 0] 49)
      have q2 := cellA q2 (.cells #[.slice none 0 0, .int .i64 0, .slice none 0 0] 49)
      have a0 := cellA a0 (.cells #[.slice none 0 0, .int .i64 0, .slice none 0 0] 49)
      have a1 := cellA a1 (.cells #[.slice none 0 0, .int .i64 0, .slice none 0 0] 49)
      have a2 := cellA a2 (.cells #[.slice none 0 0, .int .i64 0, .slice none 0 0] 49)
      have m0 : (x3.alloc (.cells #[.slice none 0 0, .int .i64 0, .slice none 0 0] 49)).cell? ⟨x3.heap.size, 0, none⟩ = some (.slice none 0 0) := by simp [go_sem]
      have m1 : (x3.alloc (.cells #[.slice none 0 0, .int .i64 0, .slice none 0 0] 49)).cell? ⟨x3.heap.size, 1, none⟩ = some (.int .i64 0) := by simp [go_sem]
      have m2 : (x3.alloc (.cells #[.slice none 0 0, .int .i64 0, .slice none 0 0] 49)).cell? ⟨x3.heap.size, 2, none⟩ = some (.slice none 0 0) := by simp [go_sem]
      clear LA
      go_wp2_with fail
      refine (CB2.out _ Dx3a.out).mono ?_
      rintro e x4 ⟨rfl, K⟩
      have q0 := keepc q0 K
      have q1 := keepc q1 K
      have q2 := keepc q2 K
      have a0 := keepc a0 K
      have a1 := keepc a1 K
      have a2 := keepc a2 K
      have m0 := keepc m0 K
      have m1 := keepc m1 K
      have m2 := keepc m2 K
      have Dx4 := Lib.hid (Dx3a.out.trans (K.mono Dx3a.out.size))
      clear K
      clear q0 q1 q2 a0 a1 a2 CA2 CB2 CLG
      have LA : Below x4.heap.size x4 (x4.alloc (.cells #[.slice none 0 0, .int .i64 0, .slice none 0 0] 52)) := (Below.refl _ _).alloc (Nat.le_refl _) _
      have Dx4a := Lib.hid (Dx4.out.alloc Dx4.out.size (.cells #[.slice none 0 0, .int .i64 0, .slice none 0 0] 52))
      have m0 := cellA m0 (.cells #[.slice none 0 0, .int .i64 0, .slice none 0 0] 52)
      have m1 := cellA m1 (.cells #[.slice none 0 0, .int .i64 0, .slice none 0 0] 52)
      have m2 := cellA m2 (.cells #[.slice none 0 0, .int .i64 0, .slice none 0 0] 52)
      have k0 : (x4.alloc (.cells #[.slice none 0 0, .int .i64 0, .slice none 0 0] 52)).cell? ⟨x4.heap.size, 0, none⟩ = some (.slice none 0 0) := by simp [go_sem]
      have k1 : (x4.alloc (.cells #[.slice none 0 0, .int .i64 0, .slice none 0 0] 52)).cell? ⟨x4.heap.size, 1, none⟩ = some (.int .i64 0) := by simp [go_sem]
      have k2 : (x4.alloc (.cells #[.slice none 0 0, .int .i64 0, .slice none 0 0] 52)).cell? ⟨x4.heap.size, 2, none⟩ = some (.slice none 0 0) := by simp [go_sem]
      clear LA
      go_wp2_with fail
      refine (CM0.out _).mono ?_
      rintro e x5 ⟨rfl, K⟩
      have m0 := keepc m0 K
      have m1 := keepc m1 K
      have m2 := keepc m2 K
      have k0 := keepc k0 K
      have k1 := keepc k1 K
      have k2 := keepc k2 K
      have Dx5 := Lib.hid (Dx4a.out.trans (K.mono Dx4a.out.size))
      clear K
      go_wp2_with fail
      refine (CM0.out _).mono ?_
      rintro e x6 ⟨rfl, K⟩
      have m0 := keepc m0 K
      have m1 := keepc m1 K
      have m2 := keepc m2 K
      have k0 := keepc k0 K
      have k1 := keepc k1 K
      have k2 := keepc k2 K
      have Dx6 := Lib.hid (Dx5.out.trans (K.mono Dx5.out.size))
      clear K
      go_wp2_with fail
      refine (CX.out _).mono ?_
      rintro e x7 ⟨rfl, K⟩
      have m0 := keepc m0 K
      have m1 := keepc m1 K
      have m2 := keepc m2 K
      have k0 := keepc k0 K
      have k1 := keepc k1 K
      have k2 := keepc k2 K
      have Dx7 := Lib.hid (Dx6.out.trans (K.mono Dx6.out.size))
      clear K
      go_wp2
      go_ret
      exact ⟨rfl, Dx7.out⟩
  · skip
    have CA2 : Hid (∀ W, Below w.heap.size w W → Calls Try.prog 16 #[.agg #[.string n.nm, .slice n.PA n.ps.length n.pc, .slice n.TA n.ts.length n.tc], .slice A ws.length c, .int .u64 (s0 : Nat), .int .i64 steps, .int .i64 runs] W (fun e w' => ∃ A1 c1 A2 c2, e = .returned (.tuple #[.agg #[.slice A1 n.ts.length c1, .int .i64 (S.dead : Nat), .slice A2 S.mx.length c2], .int .i64 V2]) ∧ ReadsV w' A1 (tab n.ts.length S.F) ∧ ReadsV w' A2 S.mx ∧ Below W.heap.size W w' ∧ S.mx.length ≤ 24)) := fun W hW => (CA.out W hW).mono (fun e w' h => by
      rcases h with ⟨S', A1, c1, A2, c2, h0, h1⟩ | ⟨h0, _⟩
      · cases h0
        exact ⟨A1, c1, A2, c2, h1⟩
      · cases h0)
    have CB2 : Hid (∀ W, Below w.heap.size w W → Calls Try.prog 17 #[.agg #[.string n.nm, .slice n.PA n.ps.length n.pc, .slice n.TA n.ts.length n.tc], .slice A ws.length c, .int .u64 (s0 : Nat), .int .i64 steps, .int .i64 runs] W (fun e w' => ∃ A1 c1 A2 c2, e = .returned (.tuple #[.agg #[.slice A1 n.ts.length c1, .int .i64 (S.dead : Nat), .slice A2 S.mx.length c2], .int .i64 V2]) ∧ ReadsV w' A1 (tab n.ts.length S.F) ∧ ReadsV w' A2 S.mx ∧ Below W.heap.size W w' ∧ S.mx.length ≤ 24)) := fun W hW => (CB.out W hW).mono (fun e w' h => by
      rcases h with ⟨S', A1, c1, A2, c2, h0, h1⟩ | ⟨h0, _⟩
      · cases h0
        exact ⟨A1, c1, A2, c2, h1⟩
      · cases h0)
    rcases Classical.em (6 < runs) with h6 | h6
    · have h100 : ¬ runs ≤ 100 := fun h => hq ⟨h6, h⟩
      have d1 : decide (6 < runs) = true := decide_eq_true h6
      have d2 : decide (runs ≤ 100) = false := decide_eq_false h100
      clear hs hr hr0 hw hl hlg hl2 hq CA CB
      go_enter Try.func4, Try.ntmps4
      go_wp2_with fail
      refine (CS2.out _ B0.out).mono ?_
      rintro e x1 ⟨rfl, K⟩
      have a0 := keepc a0 K
      have a1 := keepc a1 K
      have a2 := keepc a2 K
      have Dx1 := Lib.hid (B0.out.trans (K.mono B0.out.size))
      clear K
      have a0 := cellA a0 (.cells #[.string n.nm, .slice n.PA n.ps.length n.pc, .slice n.TA n.ts.length n.tc] 25)
      have a1 := cellA a1 (.cells #[.string n.nm, .slice n.PA n.ps.length n.pc, .slice n.TA n.ts.length n.tc] 25)
      have a2 := cellA a2 (.cells #[.string n.nm, .slice n.PA n.ps.length n.pc, .slice n.TA n.ts.length n.tc] 25)
      have q0 : (x1.alloc (.cells #[.string n.nm, .slice n.PA n.ps.length n.pc, .slice n.TA n.ts.length n.tc] 25)).cell? ⟨x1.heap.size, 0, none⟩ = some (.string n.nm) := by simp
      have q1 : (x1.alloc (.cells #[.string n.nm, .slice n.PA n.ps.length n.pc, .slice n.TA n.ts.length n.tc] 25)).cell? ⟨x1.heap.size, 1, none⟩ = some (.slice n.PA n.ps.length n.pc) := by simp
      have q2 : (x1.alloc (.cells #[.string n.nm, .slice n.PA n.ps.length n.pc, .slice n.TA n.ts.length n.tc] 25)).cell? ⟨x1.heap.size, 2, none⟩ = some (.slice n.TA n.ts.length n.tc) := by simp
      have Dx1a := Lib.hid (Dx1.out.alloc Dx1.out.size (.cells #[.string n.nm, .slice n.PA n.ps.length n.pc, .slice n.TA n.ts.length n.tc] 25))
      go_wp2_with fail
      refine (CLG.out _).mono ?_
      rintro e x2 ⟨rfl, K⟩
      have q0 := keepc q0 K
      have q1 := keepc q1 K
      have q2 := keepc q2 K
      have a0 := keepc a0 K
      have a1 := keepc a1 K
      have a2 := keepc a2 K
      have Dx2 := Lib.hid (Dx1a.out.trans (K.mono Dx1a.out.size))
      clear K
      go_wp2_with fail
      refine (CA2.out _ Dx2.out).mono ?_
      rintro e x3 ⟨A1, c1, A2, c2, rfl, R1, R2, K, hS⟩
      have R1 := Lib.hid R1
      have R2 := Lib.hid R2
      have q0 := keepc q0 K
      have q1 := keepc q1 K
      have q2 := keepc q2 K
      have a0 := keepc a0 K
      have a1 := keepc a1 K
      have a2 := keepc a2 K
      have Dx3 := Lib.hid (Dx2.out.trans (K.mono Dx2.out.size))
      clear K
      have LA : Below x3.heap.size x3 (x3.alloc (.cells #[.slice A1 n.ts.length c1, .int .i64 (S.dead : Nat), .slice A2 S.mx.length c2] 49)) := (Below.refl _ _).alloc (Nat.le_refl _) _
      have Dx3a := Lib.hid (Dx3.out.alloc Dx3.out.size (.cells #[.slice A1 n.ts.length c1, .int .i64 (S.dead : Nat), .slice A2 S.mx.length c2] 49))
      have q0 := cellA q0 (.cells #[.slice A1 n.ts.length c1, .int .i64 (S.dead : Nat), .slice A2 S.mx.length c2] 49)
      have q1 := cellA q1 (.cells #[.slice A1 n.ts.length c1, .int .i64 (S.dead : Nat), .slice A2 S.mx.length c2] 49)
      have q2 := cellA q2 (.cells #[.slice A1 n.ts.length c1, .int .i64 (S.dead : Nat), .slice A2 S.mx.length c2] 49)
      have a0 := cellA a0 (.cells #[.slice A1 n.ts.length c1, .int .i64 (S.dead : Nat), .slice A2 S.mx.length c2] 49)
      have a1 := cellA a1 (.cells #[.slice A1 n.ts.length c1, .int .i64 (S.dead : Nat), .slice A2 S.mx.length c2] 49)
      have a2 := cellA a2 (.cells #[.slice A1 n.ts.length c1, .int .i64 (S.dead : Nat), .slice A2 S.mx.length c2] 49)
      have R1 := Lib.hid (R1.out.below LA (Nat.le_refl _))
      have R2 := Lib.hid (R2.out.below LA (Nat.le_refl _))
      have m0 : (x3.alloc (.cells #[.slice A1 n.ts.length c1, .int .i64 (S.dead : Nat), .slice A2 S.mx.length c2] 49)).cell? ⟨x3.heap.size, 0, none⟩ = some (.slice A1 n.ts.length c1) := by simp [go_sem]
      have m1 : (x3.alloc (.cells #[.slice A1 n.ts.length c1, .int .i64 (S.dead : Nat), .slice A2 S.mx.length c2] 49)).cell? ⟨x3.heap.size, 1, none⟩ = some (.int .i64 (S.dead : Nat)) := by simp [go_sem]
      have m2 : (x3.alloc (.cells #[.slice A1 n.ts.length c1, .int .i64 (S.dead : Nat), .slice A2 S.mx.length c2] 49)).cell? ⟨x3.heap.size, 2, none⟩ = some (.slice A2 S.mx.length c2) := by simp [go_sem]
      clear LA
      go_wp2_with fail
      refine (CB2.out _ Dx3a.out).mono ?_
      rintro e x4 ⟨A3, c3, A4, c4, rfl, R3, R4, K, _⟩
      have R3 := Lib.hid R3
      have R4 := Lib.hid R4
      have q0 := keepc q0 K
      have q1 := keepc q1 K
      have q2 := keepc q2 K
      have a0 := keepc a0 K
      have a1 := keepc a1 K
      have a2 := keepc a2 K
      have m0 := keepc m0 K
      have m1 := keepc m1 K
      have m2 := keepc m2 K
      have R1 := Lib.hid (R1.out.below K (Nat.le_refl _))
      have R2 := Lib.hid (R2.out.below K (Nat.le_refl _))
      have Dx4 := Lib.hid (Dx3a.out.trans (K.mono Dx3a.out.size))
      clear K
      clear q0 q1 q2 a0 a1 a2 CA2 CB2 CLG
      have LA : Below x4.heap.size x4 (x4.alloc (.cells #[.slice A3 n.ts.length c3, .int .i64 (S.dead : Nat), .slice A4 S.mx.length c4] 52)) := (Below.refl _ _).alloc (Nat.le_refl _) _
      have Dx4a := Lib.hid (Dx4.out.alloc Dx4.out.size (.cells #[.slice A3 n.ts.length c3, .int .i64 (S.dead : Nat), .slice A4 S.mx.length c4] 52))
      have m0 := cellA m0 (.cells #[.slice A3 n.ts.length c3, .int .i64 (S.dead : Nat), .slice A4 S.mx.length c4] 52)
      have m1 := cellA m1 (.cells #[.slice A3 n.ts.length c3, .int .i64 (S.dead : Nat), .slice A4 S.mx.length c4] 52)
      have m2 := cellA m2 (.cells #[.slice A3 n.ts.length c3, .int .i64 (S.dead : Nat), .slice A4 S.mx.length c4] 52)
      have R1 := Lib.hid (R1.out.below LA (Nat.le_refl _))
      have R2 := Lib.hid (R2.out.below LA (Nat.le_refl _))
      have R3 := Lib.hid (R3.out.below LA (Nat.le_refl _))
      have R4 := Lib.hid (R4.out.below LA (Nat.le_refl _))
      have k0 : (x4.alloc (.cells #[.slice A3 n.ts.length c3, .int .i64 (S.dead : Nat), .slice A4 S.mx.length c4] 52)).cell? ⟨x4.heap.size, 0, none⟩ = some (.slice A3 n.ts.length c3) := by simp [go_sem]
      have k1 : (x4.alloc (.cells #[.slice A3 n.ts.length c3, .int .i64 (S.dead : Nat), .slice A4 S.mx.length c4] 52)).cell? ⟨x4.heap.size, 1, none⟩ = some (.int .i64 (S.dead : Nat)) := by simp [go_sem]
      have k2 : (x4.alloc (.cells #[.slice A3 n.ts.length c3, .int .i64 (S.dead : Nat), .slice A4 S.mx.length c4] 52)).cell? ⟨x4.heap.size, 2, none⟩ = some (.slice A4 S.mx.length c4) := by simp [go_sem]
      clear LA
      go_wp2_with fail
      refine (CMT.out _ _ _ _ _ _ R1.out R3.out).mono ?_
      rintro e x5 ⟨rfl, K⟩
      have m0 := keepc m0 K
      have m1 := keepc m1 K
      have m2 := keepc m2 K
      have k0 := keepc k0 K
      have k1 := keepc k1 K
      have k2 := keepc k2 K
      have R2 := Lib.hid (R2.out.below K (Nat.le_refl _))
      have R4 := Lib.hid (R4.out.below K (Nat.le_refl _))
      have Dx5 := Lib.hid (Dx4a.out.trans (K.mono Dx4a.out.size))
      clear K
      go_wp2_with fail
      refine (CM.out S.mx _ _ _ _ _ (Nat.le_trans hS (by decide)) R2.out R4.out).mono ?_
      rintro e x6 ⟨rfl, K⟩
      have m0 := keepc m0 K
      have m1 := keepc m1 K
      have m2 := keepc m2 K
      have k0 := keepc k0 K
      have k1 := keepc k1 K
      have k2 := keepc k2 K
      have Dx6 := Lib.hid (Dx5.out.trans (K.mono Dx5.out.size))
      clear K
      go_wp2_with fail
      refine (CX.out _).mono ?_
      rintro e x7 ⟨rfl, K⟩
      have m0 := keepc m0 K
      have m1 := keepc m1 K
      have m2 := keepc m2 K
      have k0 := keepc k0 K
      have k1 := keepc k1 K
      have k2 := keepc k2 K
      have Dx7 := Lib.hid (Dx6.out.trans (K.mono Dx6.out.size))
      clear K
      go_wp2
      go_ret
      exact ⟨rfl, Dx7.out⟩
    · have d1 : decide (6 < runs) = false := decide_eq_false h6
      clear hs hr hr0 hw hl hlg hl2 hq CA CB
      go_enter Try.func4, Try.ntmps4
      go_wp2_with fail
      refine (CS2.out _ B0.out).mono ?_
      rintro e x1 ⟨rfl, K⟩
      have a0 := keepc a0 K
      have a1 := keepc a1 K
      have a2 := keepc a2 K
      have Dx1 := Lib.hid (B0.out.trans (K.mono B0.out.size))
      clear K
      have a0 := cellA a0 (.cells #[.string n.nm, .slice n.PA n.ps.length n.pc, .slice n.TA n.ts.length n.tc] 25)
      have a1 := cellA a1 (.cells #[.string n.nm, .slice n.PA n.ps.length n.pc, .slice n.TA n.ts.length n.tc] 25)
      have a2 := cellA a2 (.cells #[.string n.nm, .slice n.PA n.ps.length n.pc, .slice n.TA n.ts.length n.tc] 25)
      have q0 : (x1.alloc (.cells #[.string n.nm, .slice n.PA n.ps.length n.pc, .slice n.TA n.ts.length n.tc] 25)).cell? ⟨x1.heap.size, 0, none⟩ = some (.string n.nm) := by simp
      have q1 : (x1.alloc (.cells #[.string n.nm, .slice n.PA n.ps.length n.pc, .slice n.TA n.ts.length n.tc] 25)).cell? ⟨x1.heap.size, 1, none⟩ = some (.slice n.PA n.ps.length n.pc) := by simp
      have q2 : (x1.alloc (.cells #[.string n.nm, .slice n.PA n.ps.length n.pc, .slice n.TA n.ts.length n.tc] 25)).cell? ⟨x1.heap.size, 2, none⟩ = some (.slice n.TA n.ts.length n.tc) := by simp
      have Dx1a := Lib.hid (Dx1.out.alloc Dx1.out.size (.cells #[.string n.nm, .slice n.PA n.ps.length n.pc, .slice n.TA n.ts.length n.tc] 25))
      go_wp2_with fail
      refine (CLG.out _).mono ?_
      rintro e x2 ⟨rfl, K⟩
      have q0 := keepc q0 K
      have q1 := keepc q1 K
      have q2 := keepc q2 K
      have a0 := keepc a0 K
      have a1 := keepc a1 K
      have a2 := keepc a2 K
      have Dx2 := Lib.hid (Dx1a.out.trans (K.mono Dx1a.out.size))
      clear K
      go_wp2_with fail
      refine (CA2.out _ Dx2.out).mono ?_
      rintro e x3 ⟨A1, c1, A2, c2, rfl, R1, R2, K, hS⟩
      have R1 := Lib.hid R1
      have R2 := Lib.hid R2
      have q0 := keepc q0 K
      have q1 := keepc q1 K
      have q2 := keepc q2 K
      have a0 := keepc a0 K
      have a1 := keepc a1 K
      have a2 := keepc a2 K
      have Dx3 := Lib.hid (Dx2.out.trans (K.mono Dx2.out.size))
      clear K
      have LA : Below x3.heap.size x3 (x3.alloc (.cells #[.slice A1 n.ts.length c1, .int .i64 (S.dead : Nat), .slice A2 S.mx.length c2] 49)) := (Below.refl _ _).alloc (Nat.le_refl _) _
      have Dx3a := Lib.hid (Dx3.out.alloc Dx3.out.size (.cells #[.slice A1 n.ts.length c1, .int .i64 (S.dead : Nat), .slice A2 S.mx.length c2] 49))
      have q0 := cellA q0 (.cells #[.slice A1 n.ts.length c1, .int .i64 (S.dead : Nat), .slice A2 S.mx.length c2] 49)
      have q1 := cellA q1 (.cells #[.slice A1 n.ts.length c1, .int .i64 (S.dead : Nat), .slice A2 S.mx.length c2] 49)
      have q2 := cellA q2 (.cells #[.slice A1 n.ts.length c1, .int .i64 (S.dead : Nat), .slice A2 S.mx.length c2] 49)
      have a0 := cellA a0 (.cells #[.slice A1 n.ts.length c1, .int .i64 (S.dead : Nat), .slice A2 S.mx.length c2] 49)
      have a1 := cellA a1 (.cells #[.slice A1 n.ts.length c1, .int .i64 (S.dead : Nat), .slice A2 S.mx.length c2] 49)
      have a2 := cellA a2 (.cells #[.slice A1 n.ts.length c1, .int .i64 (S.dead : Nat), .slice A2 S.mx.length c2] 49)
      have R1 := Lib.hid (R1.out.below LA (Nat.le_refl _))
      have R2 := Lib.hid (R2.out.below LA (Nat.le_refl _))
      have m0 : (x3.alloc (.cells #[.slice A1 n.ts.length c1, .int .i64 (S.dead : Nat), .slice A2 S.mx.length c2] 49)).cell? ⟨x3.heap.size, 0, none⟩ = some (.slice A1 n.ts.length c1) := by simp [go_sem]
      have m1 : (x3.alloc (.cells #[.slice A1 n.ts.length c1, .int .i64 (S.dead : Nat), .slice A2 S.mx.length c2] 49)).cell? ⟨x3.heap.size, 1, none⟩ = some (.int .i64 (S.dead : Nat)) := by simp [go_sem]
      have m2 : (x3.alloc (.cells #[.slice A1 n.ts.length c1, .int .i64 (S.dead : Nat), .slice A2 S.mx.length c2] 49)).cell? ⟨x3.heap.size, 2, none⟩ = some (.slice A2 S.mx.length c2) := by simp [go_sem]
      clear LA
      go_wp2_with fail
      refine (CB2.out _ Dx3a.out).mono ?_
      rintro e x4 ⟨A3, c3, A4, c4, rfl, R3, R4, K, _⟩
      have R3 := Lib.hid R3
      have R4 := Lib.hid R4
      have q0 := keepc q0 K
      have q1 := keepc q1 K
      have q2 := keepc q2 K
      have a0 := keepc a0 K
      have a1 := keepc a1 K
      have a2 := keepc a2 K
      have m0 := keepc m0 K
      have m1 := keepc m1 K
      have m2 := keepc m2 K
      have R1 := Lib.hid (R1.out.below K (Nat.le_refl _))
      have R2 := Lib.hid (R2.out.below K (Nat.le_refl _))
      have Dx4 := Lib.hid (Dx3a.out.trans (K.mono Dx3a.out.size))
      clear K
      clear q0 q1 q2 a0 a1 a2 CA2 CB2 CLG
      have LA : Below x4.heap.size x4 (x4.alloc (.cells #[.slice A3 n.ts.length c3, .int .i64 (S.dead : Nat), .slice A4 S.mx.length c4] 52)) := (Below.refl _ _).alloc (Nat.le_refl _) _
      have Dx4a := Lib.hid (Dx4.out.alloc Dx4.out.size (.cells #[.slice A3 n.ts.length c3, .int .i64 (S.dead : Nat), .slice A4 S.mx.length c4] 52))
      have m0 := cellA m0 (.cells #[.slice A3 n.ts.length c3, .int .i64 (S.dead : Nat), .slice A4 S.mx.length c4] 52)
      have m1 := cellA m1 (.cells #[.slice A3 n.ts.length c3, .int .i64 (S.dead : Nat), .slice A4 S.mx.length c4] 52)
      have m2 := cellA m2 (.cells #[.slice A3 n.ts.length c3, .int .i64 (S.dead : Nat), .slice A4 S.mx.length c4] 52)
      have R1 := Lib.hid (R1.out.below LA (Nat.le_refl _))
      have R2 := Lib.hid (R2.out.below LA (Nat.le_refl _))
      have R3 := Lib.hid (R3.out.below LA (Nat.le_refl _))
      have R4 := Lib.hid (R4.out.below LA (Nat.le_refl _))
      have k0 : (x4.alloc (.cells #[.slice A3 n.ts.length c3, .int .i64 (S.dead : Nat), .slice A4 S.mx.length c4] 52)).cell? ⟨x4.heap.size, 0, none⟩ = some (.slice A3 n.ts.length c3) := by simp [go_sem]
      have k1 : (x4.alloc (.cells #[.slice A3 n.ts.length c3, .int .i64 (S.dead : Nat), .slice A4 S.mx.length c4] 52)).cell? ⟨x4.heap.size, 1, none⟩ = some (.int .i64 (S.dead : Nat)) := by simp [go_sem]
      have k2 : (x4.alloc (.cells #[.slice A3 n.ts.length c3, .int .i64 (S.dead : Nat), .slice A4 S.mx.length c4] 52)).cell? ⟨x4.heap.size, 2, none⟩ = some (.slice A4 S.mx.length c4) := by simp [go_sem]
      clear LA
      go_wp2_with fail
      refine (CMT.out _ _ _ _ _ _ R1.out R3.out).mono ?_
      rintro e x5 ⟨rfl, K⟩
      have m0 := keepc m0 K
      have m1 := keepc m1 K
      have m2 := keepc m2 K
      have k0 := keepc k0 K
      have k1 := keepc k1 K
      have k2 := keepc k2 K
      have R2 := Lib.hid (R2.out.below K (Nat.le_refl _))
      have R4 := Lib.hid (R4.out.below K (Nat.le_refl _))
      have Dx5 := Lib.hid (Dx4a.out.trans (K.mono Dx4a.out.size))
      clear K
      go_wp2_with fail
      refine (CM.out S.mx _ _ _ _ _ (Nat.le_trans hS (by decide)) R2.out R4.out).mono ?_
      rintro e x6 ⟨rfl, K⟩
      have m0 := keepc m0 K
      have m1 := keepc m1 K
      have m2 := keepc m2 K
      have k0 := keepc k0 K
      have k1 := keepc k1 K
      have k2 := keepc k2 K
      have Dx6 := Lib.hid (Dx5.out.trans (K.mono Dx5.out.size))
      clear K
      go_wp2_with fail
      refine (CX.out _).mono ?_
      rintro e x7 ⟨rfl, K⟩
      have m0 := keepc m0 K
      have m1 := keepc m1 K
      have m2 := keepc m2 K
      have k0 := keepc k0 K
      have k1 := keepc k1 K
      have k2 := keepc k2 K
      have Dx7 := Lib.hid (Dx6.out.trans (K.mono Dx6.out.size))
      clear K
      go_wp2
      go_ret
      exact ⟨rfl, Dx7.out⟩
end Go.Proofs.Ytpfkkjgklhcejaa
