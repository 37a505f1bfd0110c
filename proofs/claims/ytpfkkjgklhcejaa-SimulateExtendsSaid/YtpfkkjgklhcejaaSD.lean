/- Runs of a net by weights: perform, with the visitor of run. -/
import Derived.Test.YtpfkkjgklhcejaaSC
namespace Go.Proofs.Ytpfkkjgklhcejaa
open Go.RowKit

set_option maxHeartbeats 16000000 in
set_option maxRecDepth 100000 in
theorem perform_run (n : NetV) (A : Option Addr) (ws : List Int) (c s0 : Nat) (steps : Int) (bq bl : Nat) (g : Nat) (w0 w : World) (hg : g = w0.heap.size) (hr : NetR w0 n) (hw : ReadsV w0 A ws) (hE : argE n ws steps = 0) (hB : Below g w0 w)
    (Inv : Nat → Hist → World → Prop) (hstart : ∀ s W, Below w.heap.size w W → Inv s [] W) (hlow : ∀ s h W, Inv s h W → Below g w0 W) (hkeep : ∀ s h W W', Inv s h W → Below W.heap.size W W' → Inv s h W')
    (hgrow : ∀ s h W W' P, Inv s h W → w.heap.size ≤ P → P < s → (∃ f, W.rowIs P 3 ws.length f) → W.grownBy W' (some P) → Inv s h W')
    (hvis : ∀ s h (t : Nat) m B cb W1 W, Inv s h W1 → s ≤ W1.heap.size → w.heap.size ≤ s → Below W1.heap.size W1 W → FreshG W W1.heap.size B m → m.length ≤ 24 → t < n.ts.length → h.length < 10000 →
      Calls Try.prog 26 #[.int .i64 (t : Nat), .slice B m.length cb, .pointer (some ⟨bq, 0, none⟩), .pointer (some ⟨bl, 0, none⟩)] W fun e w' => e = .returned (.tuple #[]) ∧ Inv s (h ++ [(t, m)]) w' ∧ W.heap.size ≤ w'.heap.size ∧ (∀ k cc, w.heap.size ≤ k → k < s → (W.heap[k]? = some (.cells cc 3 (0, 0)) ∨ W.heap[k]? = some (netObj n)) → w'.heap[k]? = W.heap[k]?) ∧ ReadsV w' B m) :
    Calls Try.prog 25 #[.agg #[.string n.nm, .slice n.PA n.ps.length n.pc, .slice n.TA n.ts.length n.tc], .slice A ws.length c, .int .u64 (s0 : Nat), .int .i64 steps, .func (.func 26) #[] #[.pointer (some ⟨bq, 0, none⟩), .pointer (some ⟨bl, 0, none⟩)]] w (PPost g w0 w.heap.size Inv (simR n ws steps.toNat (initialN n) s0)) := by
  obtain ⟨hok, hlen, hWO, hst0, hst1⟩ := argE_ok hE
  obtain ⟨N, rfl⟩ : ∃ N : Nat, steps = N := ⟨steps.toNat, by omega⟩
  rw [Int.toNat_natCast]
  have htl := (okN_parts hok).2.2.2.1
  have CI : Hid (∀ W, Below g w0 W → Calls Try.prog 24 #[.agg #[.string n.nm, .slice n.PA n.ps.length n.pc, .slice n.TA n.ts.length n.tc]] W (IsPost W.heap.size W (initialN n))) := fun W h => initialN_any n W (hr.below h (by rw [hg]; exact Nat.le_refl _))
  have CL : Hid (∀ W m B cb, Below g w0 W → ReadsV W B m → goodN n m = true → Calls Try.prog 43 #[.agg #[.string n.nm, .slice n.PA n.ps.length n.pc, .slice n.TA n.ts.length n.tc], .slice B m.length cb] W (FIs W.heap.size W (firesV n m))) := fun W m B cb h h2 h3 => by
    have := list_f n B m cb W (hr.below h (by rw [hg]; exact Nat.le_refl _)) h2 (by have := good_len h3; omega)
    unfold listL at this
    rw [if_pos h3] at this
    exact this
  have CH : Hid (∀ W P m st, ReadsV W (some ⟨P, 0, none⟩) (posL n ws m) → Calls Try.prog 44 #[.int .u64 (st : Nat), .slice (some ⟨P, 0, none⟩) ws.length ws.length] W fun e w' => e = .returned (.tuple #[.int .i64 (Rd.chV st (posL n ws m)), .int .u64 (Rd.chS st (posL n ws m))]) ∧ W = w') := fun W P m st h => by
    have := Rd.choose_any st (some ⟨P, 0, none⟩) (posL n ws m) ws.length W (reads_rd h) (by rw [posL_len]; omega)
    rw [posL_len] at this
    exact this
  have CF : Hid (∀ W m B cb (t : Nat), Below g w0 W → ReadsV W B m → goodN n m = true → Calls Try.prog 45 #[.agg #[.string n.nm, .slice n.PA n.ps.length n.pc, .slice n.TA n.ts.length n.tc], .slice B m.length cb, .int .i64 (t : Nat)] W (FPair W.heap.size W (fireL n m t) (.int .i64 (fireE n m t)))) := fun W m B cb t h h2 h3 =>
    Fire_f n B m cb t W (hr.below h (by rw [hg]; exact Nat.le_refl _)) h2 (by have := good_len h3; omega)
  have CW : Hid (∀ W, Below g w0 W → ReadsV W A ws) := fun W h => hw.below h (by rw [hg]; exact Nat.le_refl _)
  have CV : Hid (∀ s h (t : Nat) m B cb W1 W, Inv s h W1 → s ≤ W1.heap.size → w.heap.size ≤ s → Below W1.heap.size W1 W → FreshG W W1.heap.size B m → m.length ≤ 24 → t < n.ts.length → h.length < 10000 →
      Calls Try.prog 26 #[.int .i64 (t : Nat), .slice B m.length cb, .pointer (some ⟨bq, 0, none⟩), .pointer (some ⟨bl, 0, none⟩)] W fun e w' => e = .returned (.tuple #[]) ∧ Inv s (h ++ [(t, m)]) w' ∧ W.heap.size ≤ w'.heap.size ∧ (∀ k cc, w.heap.size ≤ k → k < s → (W.heap[k]? = some (.cells cc 3 (0, 0)) ∨ W.heap[k]? = some (netObj n)) → w'.heap[k]? = W.heap[k]?) ∧ ReadsV w' B m) := hvis
  have HLow := Lib.hid hlow
  have HKeep := Lib.hid hkeep
  have HGrow := Lib.hid hgrow
  have HM0 := goodN_init hok
  have NAW0 : A = A := rfl
  have HS0 := sim_start n ws N (initialN n) s0
  have hgw : g ≤ w.heap.size := by rw [hg]; exact hB.size
  have B1 : Hid (Below g w0 (w.alloc (.cells #[.string n.nm, .slice n.PA n.ps.length n.pc, .slice n.TA n.ts.length n.tc] 25))) := hB.alloc hgw _
  have BZ : Hid (Below w.heap.size w (w.alloc (.cells #[.string n.nm, .slice n.PA n.ps.length n.pc, .slice n.TA n.ts.length n.tc] 25))) := (Below.refl _ _).alloc (Nat.le_refl _) _
  have q0 : (w.alloc (.cells #[.string n.nm, .slice n.PA n.ps.length n.pc, .slice n.TA n.ts.length n.tc] 25)).cell? ⟨w.heap.size, 0, none⟩ = some (.string n.nm) := by simp
  have q1 : (w.alloc (.cells #[.string n.nm, .slice n.PA n.ps.length n.pc, .slice n.TA n.ts.length n.tc] 25)).cell? ⟨w.heap.size, 1, none⟩ = some (.slice n.PA n.ps.length n.pc) := by simp
  have q2 : (w.alloc (.cells #[.string n.nm, .slice n.PA n.ps.length n.pc, .slice n.TA n.ts.length n.tc] 25)).cell? ⟨w.heap.size, 2, none⟩ = some (.slice n.TA n.ts.length n.tc) := by simp
  obtain ⟨i0, hi, hz0, hz1, hz2⟩ := info_parts infoI
  have HI := Lib.hid hi
  have HZ0 := Lib.hid hz0
  have HZ1 := Lib.hid hz1
  have HZ2 := Lib.hid hz2
  have HSt := Lib.hid hstart
  have HWO := Lib.hid hWO
  have HLEN := Lib.hid hlen
  clear hi hz0 hz1 hz2 hlow hkeep hgrow hvis hr hw hE hstart hWO hok
  have HM0 := Lib.hid HM0
  have HS0 := Lib.hid HS0
  generalize simR n ws N (initialN n) s0 = RR at *
  generalize hwl : ws.length = T at *
  have HT := Lib.hid hwl
  clear hwl
  have hT24 : T ≤ 24 := by have := HLEN.out; omega
  have HG0 := Lib.hid hg
  clear hlen hg NAW0
  go_enter Try.func25, Try.ntmps25
  go_wp2_with fail
  (try go_step3)
  (try go_wp2_with fail)
  refine (CI.out _ B1.out).mono ?_
  rintro e w1 ⟨B, cb, rfl, RB, K⟩
  have q0 := keepc q0 K
  have q1 := keepc q1 K
  have q2 := keepc q2 K
  have RB := Lib.hid RB
  have BG1 := Lib.hid (B1.out.trans (K.mono (by have := B1.out.size; rw [World.size_alloc]; omega)))
  have BZ1 := Lib.hid (BZ.out.trans (K.mono BZ.out.size))
  have hz1 : w.heap.size < w1.heap.size := by have := K.size; rw [World.size_alloc] at this; omega
  have BLK1 : Hid (w1.heap[w.heap.size]? = some (netObj n)) := (K.block _ (by rw [World.size_alloc]; omega)).trans (World.alloc_heap_new w _)
  clear K B1 BZ CI
  go_wp2_with (at_make; refine wpList_make_full _ rfl _ _ 26 rfl w1.heap.size 3 i0 (.int .i64 0) 1 Try.underlying26 HI.out HZ0.out HZ1.out .i64 .i64 _ _ T rfl rfl rfl rfl (by rw [HZ2.out]; omega) (by unfold maxLen; omega) (Nat.le_refl _) ?_; intro w2 hown2 hgrow2)
  (try go_step3)
  (try go_wp2_with fail)
  have ROW : w2.rowIs w1.heap.size 3 T (fun _ => .int .i64 0) := row_of_own hown2 _ fun i hi => by
    rw [show madeCells (Value.cells (.int .i64 0)) (T * 1) = madeCells #[.int .i64 0] (T * 1) from rfl, toList_madeCells_one, Nat.mul_one, List.getElem?_replicate, if_pos hi]
  have K2 : Below w1.heap.size w1 w2 := (Below.refl _ _).grown hgrow2 (Nat.le_refl _) (fun _ h => by cases h)
  obtain ⟨P, hP⟩ : ∃ P, P = w1.heap.size := ⟨_, rfl⟩
  have START : Hid (PI n ws RR Inv w.heap.size P w2.heap.size N 0 [] (initialN n) s0 B w2) :=
    ⟨HS0.out, rfl, HM0.out, RB.out.below K2 (Nat.le_refl _), fun hn b off e => by have := block_reads RB.out hn e; omega, HSt.out _ _ (BZ1.out.trans (K2.mono BZ1.out.size)), ⟨_, by rw [HT.out, hP]; exact ROW⟩, (K2.block _ hz1).trans BLK1.out, Nat.le_refl _⟩
  have hPs : P < w2.heap.size := by have := ROW.lt; omega
  have hzP : w.heap.size < P := by omega
  rw [← hP]
  obtain ⟨s, hs⟩ : ∃ s, s = w2.heap.size := ⟨_, rfl⟩
  rw [← hs] at START hPs
  have NAW : Hid (NotAt P A ws) := fun hn b off e => by have := block_reads (CW.out w0 (Below.refl _ _)) hn e; have := HG0.out; omega
  clear hown2 hgrow2 ROW K2 q0 q1 q2 RB BG1 BZ1 HSt HM0 HS0 hz1 hs hP
  go_loopw [2, 12, 26] (fun p q r wr => ∃ (i : Nat) (h : Hist) (m : List Int) (st : Nat) (B : Option Addr) (cb : Nat), i ≤ N ∧ r = .int .i64 i ∧ p = .int .u64 (st : Nat) ∧ q = .slice B m.length cb ∧ Hid (PI n ws RR Inv w.heap.size P s N i h m st B wr)) (fun _ _ r _ => N - (intOf r).toNat)
  case atStart => exact ⟨0, [], initialN n, s0, B, cb, by omega, rfl, rfl, rfl, START⟩
  case round =>
    clear START
    obtain ⟨i, h, m, st, B, cb, hiN, rfl, rfl, rfl, H⟩ := hrel
    by_cases hlt : i < N
    · obtain ⟨f, hrow⟩ := H.out.row
      rw [HT.out] at hrow
      have hml := good_len H.out.good
      have hlt' : (i : Int) < (N : Int) := by omega
      obtain ⟨wo, rfl⟩ : ∃ wo, wo = wr := ⟨_, rfl⟩
      obtain ⟨w3, hrun, row3, grow3⟩ := run_clear 0 P T T f hrow
      have H3 := Lib.hid (H.out.grown (by omega) (fun hi => HGrow.out s h _ _ P hi (by omega) hPs ⟨f, hrow⟩ grow3) grow3 ⟨_, by rw [HT.out]; exact row3⟩)
      have q0 := H3.out.q0
      have q1 := H3.out.q1
      have q2 := H3.out.q2
      go_wp2_with fail
      clear hrow H grow3
      refine (CL.out w3 m B cb (HLow.out _ _ _ H3.out.inv) H3.out.rd H3.out.good).mono ?_
      rintro e w4 ⟨B4, c4, rfl, F4, K4⟩
      have H4 := Lib.hid (H3.out.below (fun hi => HKeep.out _ _ _ _ hi K4) K4)
      have NA4 : Hid (NotAt P B4 (firesV n m)) := fun hn b off e => by have := (F4.2 hn b off e).1; have := H3.out.big; omega
      have RD4 := Lib.hid F4.1
      have ROW4 := Lib.hid (row3.of_block (K4.block P row3.lt))
      clear H3 F4 K4 q0 q1 q2 row3 hrun f
      have hfl : (firesV n m).length ≤ 24 := Nat.le_trans (pickI_len _ _) htl
      go_wp2_with fail
      go_loopw [15, 33] (fun _ q wx => ∃ j : Nat, j ≤ (firesV n m).length ∧ q = .int .i64 j ∧ Hid (wx.rowIs P 3 T (fun t => .int .i64 (posJ (firesV n m) ws j t))) ∧ Hid (w4.grownBy wx (some P))) (fun _ q _ => (firesV n m).length - (intOf q).toNat)
      case atStart => exact ⟨0, by omega, rfl, by show World.rowIs _ _ _ _ _; exact ROW4.out.congr fun i _ => by rw [posJ_zero], World.grownBy.refl _ _⟩
      case round =>
        clear ROW4
        obtain ⟨j, hj, rfl, HR, HG⟩ := hrel
        by_cases hjl : j < (firesV n m).length
        · obtain ⟨k, hk, ek⟩ := at_fires hjl
          have hkT : k < T := by have := HLEN.out; omega
          obtain ⟨bf, ofs, e1, hxf⟩ := at_of_reads (RD4.out.grown NA4.out HG.out) j hjl
          subst e1
          rw [ek] at hxf
          obtain ⟨bw, ow, e2, hxw⟩ := at_of_reads ((CW.out w4 (HLow.out _ _ _ H4.out.inv)).grown NAW.out HG.out) k (by rw [HT.out]; exact hkT)
          subst e2
          have hc := HR.out.cell hkT
          have hfz := HR.out.frozen k
          have R2 : Hid ((wr.setCell ⟨P, k, none⟩ (.int .i64 (at0 ws k))).rowIs P 3 T (fun t => .int .i64 (posJ (firesV n m) ws (j + 1) t))) := (HR.out.set k _).congr fun i' _ => by
            rw [posJ_step ws hjl, ek]
            by_cases e : i' = k
            · rw [if_pos e, if_pos (by rw [e]), e]
            · rw [if_neg e, if_neg (fun h : (i' : Int) = (k : Int) => e (by omega))]
          have G2 := Lib.hid (HG.out.trans (grown_set wr P k (.int .i64 (at0 ws k))))
          clear ek
          generalize at0 ws k = x at *
          generalize posJ (firesV n m) ws j k = y at *
          go_wp2_with fail
          go_roundw
          case rel => exact ⟨j + 1, by omega, by go_num, R2, G2⟩
          case measure => simp [intOf]; omega
        · obtain rfl : j = (firesV n m).length := by omega
          have RP := Lib.hid (reads_row HR.out)
          have H5 := Lib.hid (H4.out.grown (by omega) (fun hi => HGrow.out s h _ _ P hi (by omega) hPs (by have := H4.out.row; rwa [HT.out] at this) HG.out) HG.out ⟨_, by rw [HT.out]; exact HR.out⟩)
          have q0 := H5.out.q0
          have q1 := H5.out.q1
          have q2 := H5.out.q2
          have C := CH.out wr P m st (by unfold posL; rw [HT.out]; exact RP.out)
          have hn1 : N - i = N - (i + 1) + 1 := by omega
          have hsim := H5.out.sim
          rw [hn1] at hsim
          clear H4 HR HG RP NA4 RD4 hn1 hjl hj
          by_cases ht : Rd.totR (posL n ws m) < 1
          · obtain ⟨e1, e2⟩ := ch_stop (s := st) ht
            rw [e1, e2] at C
            have E := Lib.hid (sim_stop hsim ht)
            have C := Lib.hid C
            clear hsim ht e1 e2
            go_wp2_with fail
            refine C.out.mono ?_
            rintro e w5 ⟨rfl, rfl⟩
            go_wp2
            (try rw [Exit.noGoto_ret])
            go_ret2
            exact .inl ⟨s, (h, st), by omega, E.out, rfl, H5.out.inv⟩
          · obtain ⟨e1, t1, t2, _⟩ := tCh_may (s := st) HWO.out (HT.out.trans HLEN.out) ht
            rw [e1] at C
            have SOV := Lib.hid (fun ho => sim_over hsim ht ho)
            have SST := Lib.hid (fun ho => sim_step hsim ht ho)
            clear hsim ht e1
            generalize tCh n ws m st = t at *
            generalize Rd.chS st (posL n ws m) = st2 at *
            have C := Lib.hid C
            obtain ⟨f1, f2⟩ := fire_may H5.out.good t1 t2
            have CFt := CF.out wr m B cb t (HLow.out _ _ _ H5.out.inv) H5.out.rd H5.out.good
            have hneg : ¬ (t : Int) < 0 := by omega
            cases ho : overB n m t
            · obtain ⟨x1, x2⟩ := f1 ho
              rw [x1, x2] at CFt
              have GD : goodN n (aftL n m t) = true := by have := fire_goodN H5.out.good x1; rwa [x2] at this
              have S7 := Lib.hid (SST.out ho)
              clear f1 f2 SOV SST x1 x2 ho t2
              generalize aftL n m t = m2 at *
              have GD := Lib.hid GD
              have CFt := Lib.hid CFt
              go_wp2_with fail
              refine C.out.mono ?_
              rintro e w5 ⟨rfl, rfl⟩
              go_wp2_with fail
              refine CFt.out.mono ?_
              rintro e w6 ⟨B6, c6, rfl, F6, K6⟩
              have C7 := Lib.hid (CV.out s h t m2 B6 c6 _ w6 H5.out.inv H5.out.big (by omega) K6 F6 (good_len GD.out) t1 (by rw [H5.out.len]; omega))
              have NA6 : Hid (NotAt P B6 m2) := fun hn b off e => by have := (F6.2 hn b off e).1; have := H5.out.big; omega
              obtain ⟨f, hrow⟩ := H5.out.row
              have ROW6 := Lib.hid (hrow.of_block (K6.block P hrow.lt))
              have BLK6 := (K6.block _ (Array.getElem?_eq_some_iff.1 H5.out.blk).1).trans H5.out.blk
              clear q0 q1 q2
              have hs6 : s ≤ w6.heap.size := Nat.le_trans H5.out.big K6.size
              have L6 := H5.out.len
              clear hrow F6 K6 CFt H5
              go_wp2_with fail
              refine C7.out.mono ?_
              rintro e w7 ⟨rfl, I7, sz7, fr7, rd7⟩
              have H7 : Hid (PI n ws RR Inv w.heap.size P s N (i + 1) (h ++ [(t, m2)]) m2 st2 B6 w7) :=
                ⟨S7.out, by rw [List.length_append, L6]; rfl, GD.out, rd7, NA6.out, I7, ⟨f, by obtain ⟨c6', h6, _⟩ := ROW6.out; exact ROW6.out.of_block (fr7 P c6' (by omega) hPs (.inl h6))⟩, (fr7 w.heap.size #[] (Nat.le_refl _) (by omega) (.inr BLK6)).trans BLK6, by omega⟩
              clear I7 sz7 fr7 rd7 BLK6 L6
              go_wp2
              go_roundw
              case rel => exact ⟨i + 1, h ++ [(t, m2)], m2, st2, B6, c6, by omega, by go_num, rfl, rfl, H7⟩
              case measure => simp [intOf]; omega
            · obtain ⟨x1, x2⟩ := f2 ho
              rw [x1, x2] at CFt
              have E := Lib.hid (SOV.out ho)
              clear f1 f2 SOV SST x1 x2 ho t2
              have CFt := Lib.hid CFt
              go_wp2_with fail
              refine C.out.mono ?_
              rintro e w5 ⟨rfl, rfl⟩
              go_wp2_with fail
              refine CFt.out.mono ?_
              rintro e w6 ⟨B6, c6, rfl, F6, K6⟩
              have BG6 := Lib.hid ((HLow.out _ _ _ H5.out.inv).trans (K6.mono (Nat.le_trans hgw (by have := H5.out.big; omega))))
              clear F6 K6 CFt H5 q0 q1 q2
              go_wp2
              (try rw [Exit.noGoto_ret])
              go_ret2
              exact .inr ⟨E.out, rfl, BG6.out⟩
    · obtain rfl : i = N := by omega
      have E : Hid (RR = some (h, st)) := sim_end (by have := H.out.sim; rwa [Nat.sub_self] at this)
      go_wp2
      (try rw [Exit.noGoto_ret])
      go_ret2
      exact .inl ⟨s, (h, st), by omega, E.out, rfl, H.out.inv⟩
end Go.Proofs.Ytpfkkjgklhcejaa
