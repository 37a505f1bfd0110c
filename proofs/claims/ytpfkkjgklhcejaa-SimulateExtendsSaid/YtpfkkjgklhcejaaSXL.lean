/- The law that a run with more steps begins with one with fewer, and on the statistics of one run alone. -/
import Derived.Test.YtpfkkjgklhcejaaSY
import Derived.Deep.DeepCutAuto
import Derived.Deep.Cut
import Derived.Deep.CutBlock
import Derived.Deep.RegionWith
namespace Go.Proofs.Ytpfkkjgklhcejaa
open Go.RowKit

theorem sim_take {n : NetV} {ws : List Int} : ∀ (k : Nat) (m : List Int) (s : Nat) (r : Hist × Nat), simR n ws k m s = some r → ∀ f, f ≤ k → ∃ s', simR n ws f m s = some (r.1.take f, s')
  | k, m, s, r, h, 0, _ => ⟨s, by simp [simR]⟩
  | 0, m, s, r, h, f + 1, hf => absurd hf (by omega)
  | k + 1, m, s, r, h, f + 1, hf => by
    unfold simR at h ⊢
    split at h
    · rename_i ht
      cases h
      exact ⟨s, by rw [if_pos ht]; simp⟩
    · rename_i ht
      rw [if_neg ht]
      split at h
      · cases h
      · rename_i ho
        rw [if_neg ho]
        obtain ⟨r', h1, h2⟩ := Option.map_eq_some_iff.1 h
        obtain ⟨s', h3⟩ := sim_take k _ _ r' h1 f (by omega)
        subst h2
        exact ⟨s', by rw [h3]; simp⟩
theorem argE_less {n : NetV} {ws : List Int} {steps f : Int} (h : argE n ws steps = 0) (h0 : 0 ≤ f) (h1 : f ≤ steps) : argE n ws f = 0 := by
  obtain ⟨hok, hlen, hWO, hst0, hst1⟩ := argE_ok h
  have hc : (chkV n).1 = 0 := by
    unfold argE at h
    split at h
    · rename_i hn; exact absurd h hn
    · rename_i hn; simpa using hn
  unfold argE
  rw [if_neg (by simpa using hc), if_neg (by simpa using hlen), if_neg (by rw [hWO]; decide), if_neg (by omega)]
def sumTo (a : List Int) : Nat → Int
  | 0 => 0
  | k + 1 => sumTo a k + at0 a k
theorem sumTo_bound (a : List Int) (h : natL a = true) : ∀ k, k ≤ a.length → 0 ≤ sumTo a k ∧ sumTo a k ≤ k * 1048576
  | 0, _ => by simp [sumTo]
  | k + 1, hk => by
    have h1 := sumTo_bound a h k (by omega)
    have h2 := of_decide_eq_true (allB_iff.1 h k (by omega))
    unfold NatP at h2
    simp only [sumTo]
    omega
theorem sum_inc (T t : Nat) (F : Nat → Int) : ∀ k, k ≤ T → sumTo (tab T (incF F t)) k = sumTo (tab T F) k + if t < k then 1 else 0
  | 0, _ => by simp [sumTo]
  | k + 1, hk => by
    simp only [sumTo]
    rw [sum_inc T t F k (by omega), tab_at _ _ _ (by omega), tab_at _ _ _ (by omega)]
    unfold incF
    repeat' split
    all_goals omega
theorem sum_cnt (T : Nat) : ∀ (h : Hist) (F : Nat → Int), (∀ x ∈ h, x.1 < T) → sumTo (tab T (cntF F h)) T = sumTo (tab T F) T + h.length
  | [], F, _ => by simp [cntF]
  | x :: h, F, hx => by
    show sumTo (tab T (cntF (incF F x.1) h)) T = _
    rw [sum_cnt T h _ (fun y hy => hx y (List.mem_cons_of_mem _ hy)), sum_inc T x.1 F T (Nat.le_refl _), if_pos (hx x (List.mem_cons_self ..)), List.length_cons]
    omega
theorem sum_zero (T : Nat) : ∀ k, k ≤ T → sumTo (tab T fun _ => 0) k = 0
  | 0, _ => rfl
  | k + 1, hk => by
    simp only [sumTo]
    rw [sum_zero T k (by omega), tab_at _ _ _ (by omega)]
    rfl
theorem cnt_nat {T : Nat} {h : Hist} (hl : h.length ≤ 10000) : natL (tab T (cntF (fun _ => 0) h)) = true := by
  unfold natL
  refine allB_yes fun k hk => ?_
  rw [tab_len] at hk
  rw [tab_at _ _ _ hk]
  have := cntF_bd h (fun _ => 0) k
  refine decide_eq_true ?_
  unfold NatP
  omega
theorem mxs_len (mx : List Int) (L : List (List Int)) (k : Nat) : (mxs mx L k).length ≤ mx.length := by
  unfold mxs
  generalize L.take k = M
  induction M generalizing mx with
  | nil => exact Nat.le_refl _
  | cons x M ih => exact Nat.le_trans (ih _) (maxL_le _ _)
theorem ReadsL.take {w : World} {A : Option Addr} {L : List Row} (h : ReadsL w A L) (q : Nat) : ReadsL w A (L.take q) :=
  ⟨fun j hj => by
    rw [List.length_take] at hj
    obtain ⟨b, off, e, h1, h2⟩ := h.1 j (by omega)
    refine ⟨b, off, e, h1, ?_⟩
    have e2 : rA (L.take q) j = rA L j := by
      unfold rA
      rw [List.getElem?_take, if_pos (by omega)]
    rw [e2]
    exact h2,
   fun r hr => h.2 r (List.mem_of_mem_take hr)⟩
theorem OwnL.readsC {w : World} {s : Nat} {v : Value} {L : List Row} (h : OwnL w s v L) : ∃ A c, v = .slice A L.length c ∧ ReadsL w A L ∧ L.length ≤ c := by
  obtain ⟨A, c, e, R⟩ := h.reads
  refine ⟨A, c, e, R, ?_⟩
  subst e
  rcases h.1.2 with ⟨e1, h0⟩ | ⟨b', cap, cur, e1, _, _, hc, _⟩
  · rw [h0]; exact Nat.zero_le _
  · cases e1
    exact hc
set_option maxHeartbeats 1000000 in
theorem rtotal_ok (A : Option Addr) (a : List Int) (ca : Nat) (w : World) (ra : ReadsV w A a) (h1 : a.length ≤ 24) (h2 : natL a = true) :
    Calls Try.prog 21 #[.slice A a.length ca] w fun e w' => e = .returned (.int .i64 (sumTo a a.length)) ∧ w = w' := by
  have V := Lib.hid (rvalid_law A a ca w ra (by omega))
  rw [h2] at V
  have SB := Lib.hid (sumTo_bound a h2)
  have RA := Lib.hid ra
  have NB := Lib.hid (allB_iff.1 h2)
  clear ra h2
  generalize hn : a.length = n at *
  have HN := Lib.hid hn
  clear hn
  have g1 : ¬ (24 : Int) < n := by omega
  have g2 : (n : Int) ≤ 24 := by omega
  go_enter Try.func21, Try.ntmps21
  go_wp2_with fail
  refine V.out.mono ?_
  rintro e w' ⟨rfl, rfl⟩
  go_wp2_with fail
  go_loop [3, 4] (fun s q => ∃ k : Nat, k ≤ n ∧ q = .int .i64 k ∧ s = .int .i64 (sumTo a k)) (fun _ q => n - (intOf q).toNat)
  case atStart => exact ⟨0, by omega, rfl, rfl⟩
  case round =>
    obtain ⟨k, hk, rfl, rfl⟩ := hrel
    by_cases hlt : k < n
    · obtain ⟨b, off, rfl, hcx⟩ := at_of_reads RA.out k (by rw [HN.out]; exact hlt)
      have s1 := SB.out k (by omega)
      have s2 := SB.out (k + 1) (by omega)
      have E : Hid (sumTo a (k + 1) = sumTo a k + at0 a k) := rfl
      rw [E.out] at s2
      generalize at0 a k = z at *
      generalize sumTo a k = s at *
      have b5 : wrap64 (s + z) = s + z := by unfold wrap64; omega
      go_wp2
      go_round
      case rel => exact ⟨k + 1, by omega, by go_num, by rw [E.out]⟩
      case measure => simp [intOf]; omega
    · obtain rfl : k = n := by omega
      go_wp2
      go_ret
      exact ⟨rfl, rfl⟩
def TPostC (g : Nat) (w : World) (r : List (List Int) × Int) (e : Ending) (w' : World) : Prop :=
  ∃ A c L, e = .returned (.tuple #[.slice A (List.length L) c, .int .i64 r.2]) ∧ rowsL L = r.1 ∧ ReadsL w' A L ∧ Below g w w' ∧ L.length ≤ c
set_option maxHeartbeats 4000000 in
set_option maxRecDepth 100000 in
theorem strace_c (n : NetV) (A : Option Addr) (ws : List Int) (c s0 : Nat) (steps : Int) (w : World) (hr : NetR w n) (hw : ReadsV w A ws) (hl : ws.length ≤ 9223372036854775806) :
    Calls Try.prog 11 #[.agg #[.string n.nm, .slice n.PA n.ps.length n.pc, .slice n.TA n.ts.length n.tc], .slice A ws.length c, .int .u64 (s0 : Nat), .int .i64 steps] w (TPostC w.heap.size w (trR n ws steps s0)) := by
  have CK : Hid (∀ W, Below w.heap.size w W → Calls Try.prog 23 #[.agg #[.string n.nm, .slice n.PA n.ps.length n.pc, .slice n.TA n.ts.length n.tc], .slice A ws.length c, .int .i64 steps, .int .i64 1] W (VPost W.heap.size W (.int .i64 (argE n ws steps)))) := fun W hW => by
    have := scheck_any n A ws c steps 1 W (hr.below hW (Nat.le_refl _)) (hw.below hW (Nat.le_refl _)) hl
    rw [runE_one] at this
    exact this
  have B0 : Hid (Below w.heap.size w (w.alloc (.cells #[.string n.nm, .slice n.PA n.ps.length n.pc, .slice n.TA n.ts.length n.tc] 25))) := (Below.refl _ _).alloc (Nat.le_refl _) _
  have q0 : (w.alloc (.cells #[.string n.nm, .slice n.PA n.ps.length n.pc, .slice n.TA n.ts.length n.tc] 25)).cell? ⟨w.heap.size, 0, none⟩ = some (.string n.nm) := by simp
  have q1 : (w.alloc (.cells #[.string n.nm, .slice n.PA n.ps.length n.pc, .slice n.TA n.ts.length n.tc] 25)).cell? ⟨w.heap.size, 1, none⟩ = some (.slice n.PA n.ps.length n.pc) := by simp
  have q2 : (w.alloc (.cells #[.string n.nm, .slice n.PA n.ps.length n.pc, .slice n.TA n.ts.length n.tc] 25)).cell? ⟨w.heap.size, 2, none⟩ = some (.slice n.TA n.ts.length n.tc) := by simp
  by_cases hE : argE n ws steps = 0
  rotate_left
  · rw [trR_err s0 hE]
    have hz : (argE n ws steps != 0) = true := by simpa using hE
    generalize argE n ws steps = E at *
    clear hr hw hE
    go_enter Try.func11, Try.ntmps11
    go_wp2_with fail
    refine (CK.out _ B0.out).mono ?_
    rintro e w1 ⟨rfl, K⟩
    have D1 := Lib.hid (B0.out.trans (K.mono B0.out.size))
    clear K B0 CK
    go_wp2
    go_ret2
    exact ⟨none, 0, [], rfl, rfl, ReadsL.nil _ _, D1.out, Nat.le_refl _⟩
  · rw [hE] at CK
    have htl := (okN_parts (argE_ok hE).1).2.2.1
    have hI24 : (initialN n).length ≤ 24 := good_len (goodN_init (argE_ok hE).1)
    have CI : Hid (∀ W, Below w.heap.size w W → Calls Try.prog 24 #[.agg #[.string n.nm, .slice n.PA n.ps.length n.pc, .slice n.TA n.ts.length n.tc]] W (IsPost W.heap.size W (initialN n))) := fun W h => initialN_any n W (hr.below h (Nat.le_refl _))
    have CP : Hid (∀ bq lb m0 L v W, w.heap.size ≤ bq → w.heap.size ≤ lb → lb ≤ W.heap.size → Boxed W bq 37 v → OwnL W lb v L → rowsL L = [m0] → Below w.heap.size w W → Calls Try.prog 25 #[.agg #[.string n.nm, .slice n.PA n.ps.length n.pc, .slice n.TA n.ts.length n.tc], .slice A ws.length c, .int .u64 (s0 : Nat), .int .i64 steps, .func (.func 27) #[] #[.pointer (some ⟨bq, 0, none⟩)]] W (PPost w.heap.size w W.heap.size (InvT w.heap.size w W.heap.size bq lb m0) (simR n ws steps.toNat (initialN n) s0))) := fun bq lb m0 L v W h1 h2 h2' h3 h4 h5 hB =>
      perform_trace n A ws c s0 steps bq w.heap.size w W rfl hr hw hE hB _
        (fun s W' hb => ⟨hB.trans (hb.mono hB.size), v, L, boxed_of h3 (hb.block _ h3.lt), h4.below hb (Nat.le_refl _), h5, fun r hm hn b off e => .inl (block_reads (h4.2 r hm).1.1 hn e)⟩)
        (fun s h W' hI' => hI'.1)
        (fun s h W' W'' hI' hb => hI'.keep hI'.1.size hb)
        (fun s h W' W'' P hI' hP hPs hrow hg => hI'.grow h3.lt h1 hP hPs ⟨_, hrow⟩ hg)
        (fun s h t m B cb W1 W' hI' hs hz hb hF hm _ hh => vis_trace w.heap.size w W.heap.size bq lb m0 s h n t m B cb W1 W' hI' hs hz h1 h2 h2' h3.lt hb hF hm hh)
    have RS : Hid (∀ r, simR n ws steps.toNat (initialN n) s0 = some r → trR n ws steps s0 = (initialN n :: marks r.1, 0)) := fun r h => trR_some hE h
    have RN : Hid (simR n ws steps.toNat (initialN n) s0 = none → trR n ws steps s0 = ([], 3)) := fun h => trR_none hE h
    clear hr hw hE htl
    generalize simR n ws steps.toNat (initialN n) s0 = RR at *
    generalize trR n ws steps s0 = X at *
    go_enter Try.func11, Try.ntmps11
    go_wp2_with fail
    refine (CK.out _ B0.out).mono ?_
    rintro e w1 ⟨rfl, K⟩
    have q0 := keepc q0 K
    have q1 := keepc q1 K
    have q2 := keepc q2 K
    have D1 := Lib.hid (B0.out.trans (K.mono B0.out.size))
    clear K B0 CK
    go_wp2_with fail
    refine (CI.out _ D1.out).mono ?_
    rintro e w3 ⟨B, cb, rfl, RB, K⟩
    have D3 := Lib.hid (D1.out.trans (K.mono D1.out.size))
    have s3 := D3.out.size
    have q0 := cellA (cellA (keepc q0 K) (.cells #[.slice B (initialN n).length cb] 26)) (.cells #[.slice (some ⟨w3.heap.size, 0, none⟩) 1 1] 37)
    have q1 := cellA (cellA (keepc q1 K) (.cells #[.slice B (initialN n).length cb] 26)) (.cells #[.slice (some ⟨w3.heap.size, 0, none⟩) 1 1] 37)
    have q2 := cellA (cellA (keepc q2 K) (.cells #[.slice B (initialN n).length cb] 26)) (.cells #[.slice (some ⟨w3.heap.size, 0, none⟩) 1 1] 37)
    have NB := Boxed.new (w3.alloc (.cells #[.slice B (initialN n).length cb] 26)) 37 (.slice (some ⟨w3.heap.size, 0, none⟩) 1 1)
    rw [World.size_alloc] at NB
    have LA : Below w3.heap.size w3 (w3.alloc (.cells #[.slice B (initialN n).length cb] 26)) := (Below.refl _ _).alloc (Nat.le_refl _) _
    have OL : OwnL (w3.alloc (.cells #[.slice B (initialN n).length cb] 26)) w3.heap.size (.slice (some ⟨w3.heap.size, 0, none⟩) 1 1) [⟨B, initialN n, cb⟩] := by
      refine ⟨⟨rfl, .inr ⟨w3.heap.size, 1, #[.slice B (initialN n).length cb], rfl, Nat.le_refl _, World.alloc_heap_new _ _, Nat.le_refl _, by unfold maxLen; decide, rfl, rfl⟩⟩, fun r hm => ?_⟩
      rw [List.mem_singleton.1 hm]
      exact FarR.old (B := w3.heap.size) ⟨RB, by show (initialN n).length ≤ 1000; omega⟩ LA (Nat.le_refl _) (Nat.le_refl _)
    have OL2 := OL.alloc (.cells #[.slice (some ⟨w3.heap.size, 0, none⟩) 1 1] 37)
    have D5 := ((D3.out.alloc s3 (.cells #[.slice B (initialN n).length cb] 26)).alloc (by rw [World.size_alloc]; omega) (.cells #[.slice (some ⟨w3.heap.size, 0, none⟩) 1 1] 37))
    have C := Lib.hid (CP.out _ w3.heap.size _ _ _ _ (by omega) s3 (by rw [World.size_alloc, World.size_alloc]; omega) NB OL2 rfl D5)
    clear CP K D1 NB OL OL2 RB CI D5 LA
    generalize initialN n = m0 at *
    go_wp2_with fail
    refine C.out.mono ?_
    rintro e w5 (⟨s, r, hs, hR, rfl, hI⟩ | ⟨hR, rfl, hb⟩)
    · obtain ⟨hB, v, L, b1, o1, e1, _⟩ := hI
      obtain ⟨A1, c1, ev, R1, hC1⟩ := OwnL.readsC o1
      have HC1 := Lib.hid hC1
      clear hC1
      subst ev
      have ex := RS.out r hR
      subst ex
      have p1 := b1.cell
      have R1 := Lib.hid R1
      have HB := Lib.hid hB
      have E1 := Lib.hid e1
      clear b1 o1 hB C RS RN hR q0 q1 q2 D3 e1
      go_wp2
      go_ret2
      exact ⟨A1, c1, L, rfl, E1.out, R1.out, HB.out, HC1.out⟩
    · have ex := RN.out hR
      subst ex
      have HB := Lib.hid hb
      clear C RS RN hR q0 q1 q2 D3 hb
      go_wp2
      go_ret2
      exact ⟨none, 0, [], rfl, rfl, ReadsL.nil _ _, HB.out, Nat.le_refl _⟩

set_option maxHeartbeats 32000000 in
set_option maxRecDepth 100000 in
theorem extends_law (n : NetV) (A : Option Addr) (ws : List Int) (c s0 : Nat) (steps : Int) (fewer : Int) (w : World) (hr : NetW w n) (hw : ReadsV w A ws) (hl : ws.length ≤ maxLen) :
    Calls Try.prog 6 #[.agg #[.string n.nm, .slice n.PA n.ps.length n.pc, .slice n.TA n.ts.length n.tc], .agg #[.slice A ws.length c, .int .u64 (s0 : Nat), .int .i64 steps], .int .i64 fewer] w fun e w' => e = .returned (.bool true) ∧ Below w.heap.size w w' := by
  have CS : Hid (∀ W, Below w.heap.size w W → Calls Try.prog 7 #[.agg #[.string n.nm, .slice n.PA n.ps.length n.pc, .slice n.TA n.ts.length n.tc]] W (SmallPost W.heap.size W n)) := fun W hW => small_any n W (hr.below hW (Nat.le_refl _))
  have CX : Hid (∀ W, Calls Try.prog 9 #[] W (VPost W.heap.size W (.bool true))) := example_any
  have CLG : Hid (∀ W, Calls Try.prog 8 #[.agg #[.slice A ws.length c, .int .u64 (s0 : Nat), .int .i64 steps]] W (VPost W.heap.size W (.bool (longB ws steps)))) := fun W => long_any A ws c s0 steps W
  have B0 : Hid (Below w.heap.size w ((w.alloc (.cells #[.string n.nm, .slice n.PA n.ps.length n.pc, .slice n.TA n.ts.length n.tc] 25)).alloc (.cells #[.slice A ws.length c, .int .u64 (s0 : Nat), .int .i64 steps] 29))) := ((Below.refl _ _).alloc (Nat.le_refl _) _).alloc (by simp) _
  have a0 : ((w.alloc (.cells #[.string n.nm, .slice n.PA n.ps.length n.pc, .slice n.TA n.ts.length n.tc] 25)).alloc (.cells #[.slice A ws.length c, .int .u64 (s0 : Nat), .int .i64 steps] 29)).cell? ⟨w.heap.size + 1, 0, none⟩ = some (.slice A ws.length c) := by rw [← World.size_alloc w (.cells #[.string n.nm, .slice n.PA n.ps.length n.pc, .slice n.TA n.ts.length n.tc] 25)]; simp
  have a1 : ((w.alloc (.cells #[.string n.nm, .slice n.PA n.ps.length n.pc, .slice n.TA n.ts.length n.tc] 25)).alloc (.cells #[.slice A ws.length c, .int .u64 (s0 : Nat), .int .i64 steps] 29)).cell? ⟨w.heap.size + 1, 1, none⟩ = some (.int .u64 (s0 : Nat)) := by rw [← World.size_alloc w (.cells #[.string n.nm, .slice n.PA n.ps.length n.pc, .slice n.TA n.ts.length n.tc] 25)]; simp
  have a2 : ((w.alloc (.cells #[.string n.nm, .slice n.PA n.ps.length n.pc, .slice n.TA n.ts.length n.tc] 25)).alloc (.cells #[.slice A ws.length c, .int .u64 (s0 : Nat), .int .i64 steps] 29)).cell? ⟨w.heap.size + 1, 2, none⟩ = some (.int .i64 steps) := by rw [← World.size_alloc w (.cells #[.string n.nm, .slice n.PA n.ps.length n.pc, .slice n.TA n.ts.length n.tc] 25)]; simp
  cases hs : smallN n
  · have CS2 : Hid (∀ W, Below w.heap.size w W → Calls Try.prog 7 #[.agg #[.string n.nm, .slice n.PA n.ps.length n.pc, .slice n.TA n.ts.length n.tc]] W (fun e w' => e = .returned (.tuple #[.agg #[.string ⟨#[]⟩, .slice none 0 0, .slice none 0 0], .bool false]) ∧ Below W.heap.size W w')) := fun W hW => (CS.out W hW).mono fun e w' h => by
      unfold SmallPost at h
      rw [hs, if_neg (by simp)] at h
      exact h
    clear CS hs CLG hr hw hl
    go_enter Try.func6, Try.ntmps6
    go_wp2_with fail
    refine (CS2.out _ B0.out).mono ?_
    rintro e x1 ⟨rfl, K⟩
    have a0 := keepc a0 K
    have a1 := keepc a1 K
    have a2 := keepc a2 K
    have Dx1 := Lib.hid (B0.out.trans (K.mono B0.out.size))
    clear K
    have Dx1a := Lib.hid (Dx1.out.alloc Dx1.out.size (.cells #[.string ⟨#[]⟩, .slice none 0 0, .slice none 0 0] 25))
    have a0 := cellA a0 (.cells #[.string ⟨#[]⟩, .slice none 0 0, .slice none 0 0] 25)
    have a1 := cellA a1 (.cells #[.string ⟨#[]⟩, .slice none 0 0, .slice none 0 0] 25)
    have a2 := cellA a2 (.cells #[.string ⟨#[]⟩, .slice none 0 0, .slice none 0 0] 25)
    go_wp2_with fail
    refine (CX.out _).mono ?_
    rintro e x2 ⟨rfl, K⟩
    have a0 := keepc a0 K
    have a1 := keepc a1 K
    have a2 := keepc a2 K
    have Dx2 := Lib.hid (Dx1a.out.trans (K.mono Dx1a.out.size))
    clear K
    go_wp2
    go_ret
    exact ⟨rfl, Dx2.out⟩
  have hr0 := small_ok hr hs
  have CS2 : Hid (∀ W, Below w.heap.size w W → Calls Try.prog 7 #[.agg #[.string n.nm, .slice n.PA n.ps.length n.pc, .slice n.TA n.ts.length n.tc]] W (fun e w' => e = .returned (.tuple #[.agg #[.string n.nm, .slice n.PA n.ps.length n.pc, .slice n.TA n.ts.length n.tc], .bool true]) ∧ Below W.heap.size W w')) := fun W hW => (CS.out W hW).mono fun e w' h => by
    unfold SmallPost at h
    rw [hs, if_pos rfl] at h
    exact h
  clear CS
  cases hlg : longB ws steps
  rotate_left
  · rw [hlg] at CLG
    clear hs hr hr0 hw hl hlg
    go_enter Try.func6, Try.ntmps6
    go_wp2_with fail
    refine (CS2.out _ B0.out).mono ?_
    rintro e x1 ⟨rfl, K⟩
    have a0 := keepc a0 K
    have a1 := keepc a1 K
    have a2 := keepc a2 K
    have Dx1 := Lib.hid (B0.out.trans (K.mono B0.out.size))
    clear K
    have a0 := cellA a0 (.cells #[.string n.nm, .slice n.PA n.ps.length n.pc, .slice n.TA n.ts.length n.tc] 25)
    have a1 := cellA a1 (.cells #[.string n.nm, .slice n.PA n.ps.length n.pc, .slice n.TA n.ts.length n.tc] 25)
    have a2 := cellA a2 (.cells #[.string n.nm, .slice n.PA n.ps.length n.pc, .slice n.TA n.ts.length n.tc] 25)
    have q0 : (x1.alloc (.cells #[.string n.nm, .slice n.PA n.ps.length n.pc, .slice n.TA n.ts.length n.tc] 25)).cell? ⟨x1.heap.size, 0, none⟩ = some (.string n.nm) := by simp
    have q1 : (x1.alloc (.cells #[.string n.nm, .slice n.PA n.ps.length n.pc, .slice n.TA n.ts.length n.tc] 25)).cell? ⟨x1.heap.size, 1, none⟩ = some (.slice n.PA n.ps.length n.pc) := by simp
    have q2 : (x1.alloc (.cells #[.string n.nm, .slice n.PA n.ps.length n.pc, .slice n.TA n.ts.length n.tc] 25)).cell? ⟨x1.heap.size, 2, none⟩ = some (.slice n.TA n.ts.length n.tc) := by simp
    have Dx1a := Lib.hid (Dx1.out.alloc Dx1.out.size (.cells #[.string n.nm, .slice n.PA n.ps.length n.pc, .slice n.TA n.ts.length n.tc] 25))
    go_wp2_with fail
    refine (CLG.out _).mono ?_
    rintro e x2 ⟨rfl, K⟩
    have q0 := keepc q0 K
    have q1 := keepc q1 K
    have q2 := keepc q2 K
    have a0 := keepc a0 K
    have a1 := keepc a1 K
    have a2 := keepc a2 K
    have Dx2 := Lib.hid (Dx1a.out.trans (K.mono Dx1a.out.size))
    clear K
    go_wp2_with fail
    refine (CX.out _).mono ?_
    rintro e x3 ⟨rfl, K⟩
    have q0 := keepc q0 K
    have q1 := keepc q1 K
    have q2 := keepc q2 K
    have a0 := keepc a0 K
    have a1 := keepc a1 K
    have a2 := keepc a2 K
    have Dx3 := Lib.hid (Dx2.out.trans (K.mono Dx2.out.size))
    clear K
    go_wp2
    go_ret
    exact ⟨rfl, Dx3.out⟩
  rw [hlg] at CLG
  have hlg2 : ¬ (60 < steps ∧ steps ≤ 10000) ∧ ws.length ≤ 200 := by
    unfold longB at hlg
    rw [Bool.or_eq_false_iff, decide_eq_false_iff_not, decide_eq_false_iff_not] at hlg
    exact ⟨hlg.1, by omega⟩
  rcases Classical.em (fewer < 0) with hf | hf
  · have d1 : decide (fewer < 0) = true := decide_eq_true hf
    clear hs hr hr0 hw hl hlg hlg2 hf
    go_enter Try.func6, Try.ntmps6
    go_wp2_with fail
    refine (CS2.out _ B0.out).mono ?_
    rintro e x1 ⟨rfl, K⟩
    have a0 := keepc a0 K
    have a1 := keepc a1 K
    have a2 := keepc a2 K
    have Dx1 := Lib.hid (B0.out.trans (K.mono B0.out.size))
    clear K
    have a0 := cellA a0 (.cells #[.string n.nm, .slice n.PA n.ps.length n.pc, .slice n.TA n.ts.length n.tc] 25)
    have a1 := cellA a1 (.cells #[.string n.nm, .slice n.PA n.ps.length n.pc, .slice n.TA n.ts.length n.tc] 25)
    have a2 := cellA a2 (.cells #[.string n.nm, .slice n.PA n.ps.length n.pc, .slice n.TA n.ts.length n.tc] 25)
    have q0 : (x1.alloc (.cells #[.string n.nm, .slice n.PA n.ps.length n.pc, .slice n.TA n.ts.length n.tc] 25)).cell? ⟨x1.heap.size, 0, none⟩ = some (.string n.nm) := by simp
    have q1 : (x1.alloc (.cells #[.string n.nm, .slice n.PA n.ps.length n.pc, .slice n.TA n.ts.length n.tc] 25)).cell? ⟨x1.heap.size, 1, none⟩ = some (.slice n.PA n.ps.length n.pc) := by simp
    have q2 : (x1.alloc (.cells #[.string n.nm, .slice n.PA n.ps.length n.pc, .slice n.TA n.ts.length n.tc] 25)).cell? ⟨x1.heap.size, 2, none⟩ = some (.slice n.TA n.ts.length n.tc) := by simp
    have Dx1a := Lib.hid (Dx1.out.alloc Dx1.out.size (.cells #[.string n.nm, .slice n.PA n.ps.length n.pc, .slice n.TA n.ts.length n.tc] 25))
    go_wp2_with fail
    refine (CLG.out _).mono ?_
    rintro e x2 ⟨rfl, K⟩
    have q0 := keepc q0 K
    have q1 := keepc q1 K
    have q2 := keepc q2 K
    have a0 := keepc a0 K
    have a1 := keepc a1 K
    have a2 := keepc a2 K
    have Dx2 := Lib.hid (Dx1a.out.trans (K.mono Dx1a.out.size))
    clear K
    go_wp2_with fail
    refine (CX.out _).mono ?_
    rintro e x3 ⟨rfl, K⟩
    have q0 := keepc q0 K
    have q1 := keepc q1 K
    have q2 := keepc q2 K
    have a0 := keepc a0 K
    have a1 := keepc a1 K
    have a2 := keepc a2 K
    have Dx3 := Lib.hid (Dx2.out.trans (K.mono Dx2.out.size))
    clear K
    go_wp2
    go_ret
    exact ⟨rfl, Dx3.out⟩
  have d1 : decide (fewer < 0) = false := decide_eq_false hf
  rcases Classical.em (steps < fewer) with hf2 | hf2
  · have d2 : decide (steps < fewer) = true := decide_eq_true hf2
    clear hs hr hr0 hw hl hlg hlg2 hf hf2
    go_enter Try.func6, Try.ntmps6
    go_wp2_with fail
    refine (CS2.out _ B0.out).mono ?_
    rintro e x1 ⟨rfl, K⟩
    have a0 := keepc a0 K
    have a1 := keepc a1 K
    have a2 := keepc a2 K
    have Dx1 := Lib.hid (B0.out.trans (K.mono B0.out.size))
    clear K
    have a0 := cellA a0 (.cells #[.string n.nm, .slice n.PA n.ps.length n.pc, .slice n.TA n.ts.length n.tc] 25)
    have a1 := cellA a1 (.cells #[.string n.nm, .slice n.PA n.ps.length n.pc, .slice n.TA n.ts.length n.tc] 25)
    have a2 := cellA a2 (.cells #[.string n.nm, .slice n.PA n.ps.length n.pc, .slice n.TA n.ts.length n.tc] 25)
    have q0 : (x1.alloc (.cells #[.string n.nm, .slice n.PA n.ps.length n.pc, .slice n.TA n.ts.length n.tc] 25)).cell? ⟨x1.heap.size, 0, none⟩ = some (.string n.nm) := by simp
    have q1 : (x1.alloc (.cells #[.string n.nm, .slice n.PA n.ps.length n.pc, .slice n.TA n.ts.length n.tc] 25)).cell? ⟨x1.heap.size, 1, none⟩ = some (.slice n.PA n.ps.length n.pc) := by simp
    have q2 : (x1.alloc (.cells #[.string n.nm, .slice n.PA n.ps.length n.pc, .slice n.TA n.ts.length n.tc] 25)).cell? ⟨x1.heap.size, 2, none⟩ = some (.slice n.TA n.ts.length n.tc) := by simp
    have Dx1a := Lib.hid (Dx1.out.alloc Dx1.out.size (.cells #[.string n.nm, .slice n.PA n.ps.length n.pc, .slice n.TA n.ts.length n.tc] 25))
    go_wp2_with fail
    refine (CLG.out _).mono ?_
    rintro e x2 ⟨rfl, K⟩
    have q0 := keepc q0 K
    have q1 := keepc q1 K
    have q2 := keepc q2 K
    have a0 := keepc a0 K
    have a1 := keepc a1 K
    have a2 := keepc a2 K
    have Dx2 := Lib.hid (Dx1a.out.trans (K.mono Dx1a.out.size))
    clear K
    go_wp2_with fail
    refine (CX.out _).mono ?_
    rintro e x3 ⟨rfl, K⟩
    have q0 := keepc q0 K
    have q1 := keepc q1 K
    have q2 := keepc q2 K
    have a0 := keepc a0 K
    have a1 := keepc a1 K
    have a2 := keepc a2 K
    have Dx3 := Lib.hid (Dx2.out.trans (K.mono Dx2.out.size))
    clear K
    go_wp2
    go_ret
    exact ⟨rfl, Dx3.out⟩
  have d2 : decide (steps < fewer) = false := decide_eq_false hf2
  have CT : Hid (∀ W, Below w.heap.size w W → Calls Try.prog 11 #[.agg #[.string n.nm, .slice n.PA n.ps.length n.pc, .slice n.TA n.ts.length n.tc], .slice A ws.length c, .int .u64 (s0 : Nat), .int .i64 steps] W (TPostC W.heap.size W (trR n ws steps s0))) := fun W hW => strace_c n A ws c s0 steps W (hr0.below hW (Nat.le_refl _)) (hw.below hW (Nat.le_refl _)) (by omega)
  have CU : Hid (∀ W, Below w.heap.size w W → Calls Try.prog 11 #[.agg #[.string n.nm, .slice n.PA n.ps.length n.pc, .slice n.TA n.ts.length n.tc], .slice A ws.length c, .int .u64 (s0 : Nat), .int .i64 fewer] W (TPostC W.heap.size W (trR n ws fewer s0))) := fun W hW => strace_c n A ws c s0 fewer W (hr0.below hW (Nat.le_refl _)) (hw.below hW (Nat.le_refl _)) (by omega)
  have CY : Hid (∀ W, Below w.heap.size w W → Calls Try.prog 16 #[.agg #[.string n.nm, .slice n.PA n.ps.length n.pc, .slice n.TA n.ts.length n.tc], .slice A ws.length c, .int .u64 (s0 : Nat), .int .i64 steps, .int .i64 1] W (MPost W.heap.size W n.ts.length (manyV n ws steps 1 s0))) := fun W hW => smany_any n A ws c s0 steps 1 W (hr0.below hW (Nat.le_refl _)) (hw.below hW (Nat.le_refl _)) (by omega)
  by_cases hE : (trR n ws steps s0).2 = 0
  rotate_left
  · have hz : ((trR n ws steps s0).2 != 0) = true := by simpa using hE
    clear hs hr hr0 hw hl hlg hlg2 hE CU CY hf hf2
    generalize trR n ws steps s0 = X at *
    obtain ⟨X1, X2⟩ := X
    dsimp only at *
    go_enter Try.func6, Try.ntmps6
    go_wp2_with fail
    refine (CS2.out _ B0.out).mono ?_
    rintro e x1 ⟨rfl, K⟩
    have a0 := keepc a0 K
    have a1 := keepc a1 K
    have a2 := keepc a2 K
    have Dx1 := Lib.hid (B0.out.trans (K.mono B0.out.size))
    clear K
    have a0 := cellA a0 (.cells #[.string n.nm, .slice n.PA n.ps.length n.pc, .slice n.TA n.ts.length n.tc] 25)
    have a1 := cellA a1 (.cells #[.string n.nm, .slice n.PA n.ps.length n.pc, .slice n.TA n.ts.length n.tc] 25)
    have a2 := cellA a2 (.cells #[.string n.nm, .slice n.PA n.ps.length n.pc, .slice n.TA n.ts.length n.tc] 25)
    have q0 : (x1.alloc (.cells #[.string n.nm, .slice n.PA n.ps.length n.pc, .slice n.TA n.ts.length n.tc] 25)).cell? ⟨x1.heap.size, 0, none⟩ = some (.string n.nm) := by simp
    have q1 : (x1.alloc (.cells #[.string n.nm, .slice n.PA n.ps.length n.pc, .slice n.TA n.ts.length n.tc] 25)).cell? ⟨x1.heap.size, 1, none⟩ = some (.slice n.PA n.ps.length n.pc) := by simp
    have q2 : (x1.alloc (.cells #[.string n.nm, .slice n.PA n.ps.length n.pc, .slice n.TA n.ts.length n.tc] 25)).cell? ⟨x1.heap.size, 2, none⟩ = some (.slice n.TA n.ts.length n.tc) := by simp
    have Dx1a := Lib.hid (Dx1.out.alloc Dx1.out.size (.cells #[.string n.nm, .slice n.PA n.ps.length n.pc, .slice n.TA n.ts.length n.tc] 25))
    go_wp2_with fail
    refine (CLG.out _).mono ?_
    rintro e x2 ⟨rfl, K⟩
    have q0 := keepc q0 K
    have q1 := keepc q1 K
    have q2 := keepc q2 K
    have a0 := keepc a0 K
    have a1 := keepc a1 K
    have a2 := keepc a2 K
    have Dx2 := Lib.hid (Dx1a.out.trans (K.mono Dx1a.out.size))
    clear K
    go_wp2_with fail
    refine (CT.out _ Dx2.out).mono ?_
    rintro e x3 ⟨A1, c1, L1, rfl, E1, R1, K, hc1⟩
    have q0 := keepc q0 K
    have q1 := keepc q1 K
    have q2 := keepc q2 K
    have a0 := keepc a0 K
    have a1 := keepc a1 K
    have a2 := keepc a2 K
    have Dx3 := Lib.hid (Dx2.out.trans (K.mono Dx2.out.size))
    clear K
    clear E1 R1 hc1
    go_wp2_with fail
    refine (CX.out _).mono ?_
    rintro e x4 ⟨rfl, K⟩
    have q0 := keepc q0 K
    have q1 := keepc q1 K
    have q2 := keepc q2 K
    have a0 := keepc a0 K
    have a1 := keepc a1 K
    have a2 := keepc a2 K
    have Dx4 := Lib.hid (Dx3.out.trans (K.mono Dx3.out.size))
    clear K
    go_wp2
    go_ret
    exact ⟨rfl, Dx4.out⟩
  obtain ⟨hA, r, hR⟩ : argE n ws steps = 0 ∧ ∃ r, simR n ws steps.toNat (initialN n) s0 = some r := by
    by_cases hA : argE n ws steps = 0
    · refine ⟨hA, ?_⟩
      cases e : simR n ws steps.toNat (initialN n) s0 with
      | none => rw [trR_none hA e] at hE; exact absurd hE (by decide)
      | some r => exact ⟨r, rfl⟩
    · rw [trR_err s0 hA] at hE; exact absurd hE hA
  obtain ⟨hok, hlen, hWO, hst0, hst1⟩ := argE_ok hA
  obtain ⟨N, rfl⟩ : ∃ N : Nat, steps = N := ⟨steps.toNat, by omega⟩
  obtain ⟨f, rfl⟩ : ∃ f : Nat, fewer = f := ⟨fewer.toNat, by omega⟩
  have hfN : f ≤ N := by omega
  rw [Int.toNat_natCast] at hR
  have htl := (okN_parts hok).2.2.2.1
  have hgI := goodN_init hok
  have hI24 : (initialN n).length ≤ 24 := good_len hgI
  obtain ⟨f1, f2, -, -, -⟩ := sim_facts hWO hlen N _ _ _ hgI hR
  obtain ⟨s', hR'⟩ := sim_take N _ _ _ hR f hfN
  have hA' := argE_less hA (f := (f : Int)) (by omega) (by omega)
  rw [trR_some hA (by rw [Int.toNat_natCast]; exact hR)] at CT
  rw [trR_some hA' (by rw [Int.toNat_natCast]; exact hR')] at CU
  have hMV : manyV n ws (N : Int) 1 s0 = (some (stepS N (S0 n s0) r), 0) := by
    refine manyV_some (by rw [runE_one]; exact hA) ?_
    rw [Int.toNat_natCast, show (1 : Int).toNat = 0 + 1 from rfl, manyR]
    rw [show (S0 n s0).seed = s0 from rfl, hR]
    rfl
  rw [hMV] at CY
  have hN60 : N ≤ 60 := by omega
  have hrl : r.1.length ≤ 60 := by omega
  have SUM : Hid (∀ W A3 c3, ReadsV W A3 (tab n.ts.length (cntF (fun _ => 0) r.1)) → Calls Try.prog 21 #[.slice A3 n.ts.length c3] W fun e w' => e = .returned (.int .i64 (r.1.length : Nat)) ∧ W = w') := fun W A3 c3 h => by
    have := rtotal_ok A3 _ c3 W h (by rw [tab_len]; exact htl) (cnt_nat (by omega))
    rw [tab_len, sum_cnt n.ts.length r.1 _ (fun x hx => (f2 x hx).1), sum_zero _ _ (Nat.le_refl _), Int.zero_add] at this
    exact this
  have LK : Hid (∀ L : List Row, rowsL L = initialN n :: marks r.1 → L.length = r.1.length + 1 ∧ (rA L 0).zs = initialN n ∧ ∀ k, k < L.length → mxs (initialN n) (initialN n :: marks r.1) (k + 1) = maxL (mxs (initialN n) (initialN n :: marks r.1) k) (rA L k).zs) := fun L h => by
    refine ⟨by rw [← rowsL_len, h]; simp [marks], by rw [← rowsL_get, h]; rfl, fun k hk => ?_⟩
    have hk2 : k < (initialN n :: marks r.1).length := by rw [← h, rowsL_len]; exact hk
    rw [mxs_succ hk2]
    congr 1
    rw [← rA_get hk]
    congr 1
    exact h.symm
  have MALL : Hid (mxs (initialN n) (initialN n :: marks r.1) (r.1.length + 1) = maxH (initialN n) r.1) := by
    have e : r.1.length + 1 = (initialN n :: marks r.1).length := by simp [marks]
    rw [e]
    exact mxs_all (Abs.refl _)
  have LJ : Hid (∀ L : List Row, rowsL L = initialN n :: marks (r.1.take f) → L.length = min r.1.length f + 1) := fun L h => by
    rw [← rowsL_len, h]
    simp [marks]
    omega
  have CLS : Hid (∀ (L1 L2 : List Row) A1 c1 A2 c2 W, rowsL L1 = initialN n :: marks r.1 → rowsL L2 = initialN n :: marks (r.1.take f) → ReadsL W A1 L1 → ReadsL W A2 L2 → Calls Try.prog 15 #[.slice A2 L2.length c2, .slice A1 L2.length c1] W (BPost W.heap.size W true)) := fun L1 L2 A1 c1 A2 c2 W e1 e2 h1 h2 => by
    have l1 := (LK.out L1 e1).1
    have l2 := LJ.out L2 e2
    have et : (L1.take L2.length).length = L2.length := by rw [List.length_take]; omega
    have := lists_any A2 A1 L2 (L1.take L2.length) c2 c1 W h2 (by omega) (h1.take _) (by omega)
    rw [et, sameR_of (R := rowsL L2) rfl (by
      rw [rowsL_take, e1, e2, l2, List.take_succ_cons]
      congr 1
      unfold marks
      rw [← List.map_take]
      congr 1
      rw [List.take_eq_take_iff]
      omega)] at this
    exact this
  have CX0 := CX
  clear CX
  have CX : Hid (∀ W (a b : List Int) Aa ca Ab cb, a.length ≤ 24 → ReadsV W Aa a → ReadsV W Ab b → Calls Try.prog 22 #[.slice Aa a.length ca, .slice Ab b.length cb] W (FIs W.heap.size W (maxL a b))) := fun W a b Aa ca Ab cb ha h1 h2 => rmax_f Aa Ab a b ca cb W h1 h2 (by omega)
  have CM : Hid (∀ (a b : List Int) B cb D cd W, a.length ≤ 100 → a = b → ReadsV W B a → ReadsV W D b → Calls Try.prog 14 #[.slice B a.length cb, .slice D b.length cd] W (BPost W.heap.size W true)) := fun a b B cb D cd W hl e h1 h2 => by
    have := same_law B D a b cb cd W h1 h2 (by omega)
    rw [sameL_iff.2 e] at this
    exact this
  have MXL : Hid (∀ k, (mxs (initialN n) (initialN n :: marks r.1) k).length ≤ 24) := fun k => Nat.le_trans (mxs_len _ _ _) hI24
  have hf60 : f ≤ 60 := by omega
  rcases Classical.em (r.1.length < N) with hN | hN
  · have hdead : (stepS N (S0 n s0) r).dead = 1 := by show 0 + (if r.1.length < N then 1 else 0) = 1; rw [if_pos hN]
    have d3 : decide ((r.1.length : Int) < (N : Int)) = true := decide_eq_true (by omega)
    have CY2 : Hid (∀ W, Below w.heap.size w W → Calls Try.prog 16 #[.agg #[.string n.nm, .slice n.PA n.ps.length n.pc, .slice n.TA n.ts.length n.tc], .slice A ws.length c, .int .u64 (s0 : Nat), .int .i64 (N : Int), .int .i64 1] W (fun e w' => ∃ A1 c1 A2 c2, e = .returned (.tuple #[.agg #[.slice A1 n.ts.length c1, .int .i64 1, .slice A2 (maxH (initialN n) r.1).length c2], .int .i64 0]) ∧ ReadsV w' A1 (tab n.ts.length (cntF (fun _ => 0) r.1)) ∧ ReadsV w' A2 (maxH (initialN n) r.1) ∧ Below W.heap.size W w')) := fun W hW => (CY.out W hW).mono (fun e w' h => by
      rcases h with ⟨S', A1, c1, A2, c2, h0, h1, h2, h3, h4, _⟩ | ⟨h0, _⟩
      · cases h0
        refine ⟨A1, c1, A2, c2, h1.trans ?_, h2, h3, h4⟩
        have hd : (stepS N (S0 n s0) r).dead = 1 := hdead
        rw [hd]
        rfl
      · cases h0)
    clear hs hr hr0 hw hl hlg hlg2 hE hf hf2 CY hA hR hok hlen hWO hst0 hst1 hgI f1 f2 hR' hA' hMV hdead
    generalize hMH : maxH (initialN n) r.1 = MH at *
    have HMH := Lib.hid hMH
    clear hMH
    generalize hML : initialN n :: marks r.1 = ML at *
    clear hML
    generalize hML2 : initialN n :: marks (r.1.take f) = ML2 at *
    clear hML2
    generalize hI0 : initialN n = I0 at *
    clear hI0 HMH
    generalize tab n.ts.length (cntF (fun _ => 0) r.1) = CF at *
    generalize r.1.length = rl at *
    go_enter Try.func6, Try.ntmps6
    go_wp2_with fail
    refine (CS2.out _ B0.out).mono ?_
    rintro e x1 ⟨rfl, K⟩
    have a0 := keepc a0 K
    have a1 := keepc a1 K
    have a2 := keepc a2 K
    have Dx1 := Lib.hid (B0.out.trans (K.mono B0.out.size))
    clear K
    have a0 := cellA a0 (.cells #[.string n.nm, .slice n.PA n.ps.length n.pc, .slice n.TA n.ts.length n.tc] 25)
    have a1 := cellA a1 (.cells #[.string n.nm, .slice n.PA n.ps.length n.pc, .slice n.TA n.ts.length n.tc] 25)
    have a2 := cellA a2 (.cells #[.string n.nm, .slice n.PA n.ps.length n.pc, .slice n.TA n.ts.length n.tc] 25)
    have q0 : (x1.alloc (.cells #[.string n.nm, .slice n.PA n.ps.length n.pc, .slice n.TA n.ts.length n.tc] 25)).cell? ⟨x1.heap.size, 0, none⟩ = some (.string n.nm) := by simp
    have q1 : (x1.alloc (.cells #[.string n.nm, .slice n.PA n.ps.length n.pc, .slice n.TA n.ts.length n.tc] 25)).cell? ⟨x1.heap.size, 1, none⟩ = some (.slice n.PA n.ps.length n.pc) := by simp
    have q2 : (x1.alloc (.cells #[.string n.nm, .slice n.PA n.ps.length n.pc, .slice n.TA n.ts.length n.tc] 25)).cell? ⟨x1.heap.size, 2, none⟩ = some (.slice n.TA n.ts.length n.tc) := by simp
    have Dx1a := Lib.hid (Dx1.out.alloc Dx1.out.size (.cells #[.string n.nm, .slice n.PA n.ps.length n.pc, .slice n.TA n.ts.length n.tc] 25))
    go_wp2_with fail
    refine (CLG.out _).mono ?_
    rintro e x2 ⟨rfl, K⟩
    have q0 := keepc q0 K
    have q1 := keepc q1 K
    have q2 := keepc q2 K
    have a0 := keepc a0 K
    have a1 := keepc a1 K
    have a2 := keepc a2 K
    have Dx2 := Lib.hid (Dx1a.out.trans (K.mono Dx1a.out.size))
    clear K
    go_wp2_with fail
    refine (CT.out _ Dx2.out).mono ?_
    rintro e x3 ⟨A1, c1, L1, rfl, E1, R1, K, hc1⟩
    have R1 := Lib.hid R1
    have E1 := Lib.hid E1
    have q0 := keepc q0 K
    have q1 := keepc q1 K
    have q2 := keepc q2 K
    have a0 := keepc a0 K
    have a1 := keepc a1 K
    have a2 := keepc a2 K
    have Dx3 := Lib.hid (Dx2.out.trans (K.mono Dx2.out.size))
    clear K
    go_wp2_with fail
    refine (CU.out _ Dx3.out).mono ?_
    rintro e x4 ⟨A2, c2, L2, rfl, E2, R2, K, _⟩
    have R2 := Lib.hid R2
    have E2 := Lib.hid E2
    have q0 := keepc q0 K
    have q1 := keepc q1 K
    have q2 := keepc q2 K
    have a0 := keepc a0 K
    have a1 := keepc a1 K
    have a2 := keepc a2 K
    have R1 := Lib.hid (R1.out.below K (Nat.le_refl _))
    have Dx4 := Lib.hid (Dx3.out.trans (K.mono Dx3.out.size))
    clear K
    obtain ⟨l1, z1, HMS⟩ := LK.out L1 E1.out
    have l2 := LJ.out L2 E2.out
    have HMS := Lib.hid HMS
    have CL2 := Lib.hid (fun W h1 h2 => CLS.out L1 L2 A1 c1 A2 c2 W E1.out E2.out h1 h2)
    obtain ⟨b1, o1, e1, _⟩ := R1.out.1.at 0 (by omega)
    subst e1
    clear CT CU LK LJ CLS E1 E2 CLG CS2
    have HL1 := Lib.hid l1
    generalize hj : L2.length = lj at *
    clear hj
    rw [l1] at hc1 ⊢
    have HZ1 := Lib.hid z1
    clear l1 z1
    have hne : ((lj : Int) != min ((rl + 1 : Nat) : Int) ((f : Int) + 1)) = false := by simp; omega
    have hne2 : ((lj : Int) != min ((rl : Int) + 1) ((f : Int) + 1)) = false := by simp; omega
    have hne3 : ((lj : Int) != min (rl : Int) (f : Int) + 1) = false := by simp; omega
    have hjc : lj ≤ c1 := by omega
    have hjk : lj ≤ rl + 1 := by omega
    clear l2
    go_wp2_with fail
    refine (CL2.out _ R1.out R2.out).mono ?_
    rintro e x5 ⟨rfl, K⟩
    have q0 := keepc q0 K
    have q1 := keepc q1 K
    have q2 := keepc q2 K
    have a0 := keepc a0 K
    have a1 := keepc a1 K
    have a2 := keepc a2 K
    have R1 := Lib.hid (R1.out.below K (Nat.le_refl _))
    have Dx5 := Lib.hid (Dx4.out.trans (K.mono Dx4.out.size))
    clear K
    clear hne hne2 hne3 hjc hjk R2 CL2
    go_wp2_with fail
    refine (CY2.out _ Dx5.out).mono ?_
    rintro e x6 ⟨A3, c3, A4, c4, rfl, R3, R4, K⟩
    have R3 := Lib.hid R3
    have R4 := Lib.hid R4
    have q0 := keepc q0 K
    have q1 := keepc q1 K
    have q2 := keepc q2 K
    have a0 := keepc a0 K
    have a1 := keepc a1 K
    have a2 := keepc a2 K
    have R1 := Lib.hid (R1.out.below K (Nat.le_refl _))
    have Dx6 := Lib.hid (Dx5.out.trans (K.mono Dx5.out.size))
    clear K
    have LA : Below x6.heap.size x6 (x6.alloc (.cells #[.slice A3 n.ts.length c3, .int .i64 1, .slice A4 MH.length c4] 49)) := (Below.refl _ _).alloc (Nat.le_refl _) _
    have Dxa := Lib.hid (Dx6.out.alloc Dx6.out.size (.cells #[.slice A3 n.ts.length c3, .int .i64 1, .slice A4 MH.length c4] 49))
    have a2 := cellA a2 (.cells #[.slice A3 n.ts.length c3, .int .i64 1, .slice A4 MH.length c4] 49)
    have R1 := Lib.hid (R1.out.below LA (Nat.le_refl _))
    have R3 := Lib.hid (R3.out.below LA (Nat.le_refl _))
    have R4 := Lib.hid (R4.out.below LA (Nat.le_refl _))
    have m0 : (x6.alloc (.cells #[.slice A3 n.ts.length c3, .int .i64 1, .slice A4 MH.length c4] 49)).cell? ⟨x6.heap.size, 0, none⟩ = some (.slice A3 n.ts.length c3) := by simp [go_sem]
    have m1 : (x6.alloc (.cells #[.slice A3 n.ts.length c3, .int .i64 1, .slice A4 MH.length c4] 49)).cell? ⟨x6.heap.size, 1, none⟩ = some (.int .i64 1) := by simp [go_sem]
    have m2 : (x6.alloc (.cells #[.slice A3 n.ts.length c3, .int .i64 1, .slice A4 MH.length c4] 49)).cell? ⟨x6.heap.size, 2, none⟩ = some (.slice A4 MH.length c4) := by simp [go_sem]
    obtain ⟨x9, hx9⟩ : ∃ x9, x9 = x6.alloc (.cells #[.slice A3 n.ts.length c3, .int .i64 1, .slice A4 MH.length c4] 49) := ⟨_, rfl⟩
    rw [← hx9] at Dxa R1 R3 R4 m0 m1 m2 a2
    have HX9 := Lib.hid hx9
    clear LA q0 q1 q2 a0 a1 CY2 hx9
    have C9 := SUM.out x9 A3 c3 R3.out
    have M2 := Lib.hid m2
    rw [HX9.out] at C9 m0 m1 m2 a2
    have C9 := Lib.hid C9
    go_wp2_with fail
    refine C9.out.mono ?_
    rintro e x10 ⟨rfl, rfl⟩
    obtain ⟨b, off, e1, hx0⟩ := R1.out.1.at 0 (by rw [HL1.out]; omega)
    cases e1
    rw [HX9.out] at hx0
    rw [Nat.add_zero] at hx0
    have hs9 := Dxa.out.size
    go_wp2_with fail
    rw [← HX9.out] at *
    go_loopw [15, 16] (fun p q wx => ∃ (j : Nat) (M : Option Addr) (cM : Nat), j ≤ rl + 1 ∧ q = .int .i64 j ∧ p = .slice M (mxs I0 ML j).length cM ∧ Hid (ReadsV wx M (mxs I0 ML j)) ∧ Hid (Below x9.heap.size x9 wx)) (fun _ q _ => rl + 1 - (intOf q).toNat)
    case atStart => exact ⟨0, (rA L1 0).A, (rA L1 0).cap, by omega, rfl, by rw [mxs_zero, HZ1.out], by rw [mxs_zero, ← HZ1.out]; exact (R1.out.2 _ (rA_mem (by rw [HL1.out]; omega))).1, Below.refl _ _⟩
    case round =>
      clear hx0
      obtain ⟨j, M, cM, hj, rfl, rfl, RM, HB⟩ := hrel
      have R1w := Lib.hid (R1.out.below HB.out (Nat.le_refl _))
      by_cases hjl : j < rl + 1
      · obtain ⟨b, off, e1, hxj⟩ := R1w.out.1.at j (by rw [HL1.out]; exact hjl)
        cases e1
        have RJ : Hid (ReadsV wr (rA L1 j).A (rA L1 j).zs) := (R1w.out.2 _ (rA_mem (by rw [HL1.out]; exact hjl))).1
        have EM := Lib.hid (HMS.out j (by rw [HL1.out]; exact hjl))
        have C := Lib.hid (CX.out wr _ _ M cM (rA L1 j).A (rA L1 j).cap (MXL.out j) RM.out RJ.out)
        generalize rA L1 j = row at *
        generalize mxs I0 ML j = mx at *
        go_wp2_with fail
        refine C.out.mono ?_
        rintro e x11 ⟨M5, c5, rfl, F5, K⟩
        have HB2 := Lib.hid (HB.out.trans (K.mono HB.out.size))
        have R5 : Hid (ReadsV x11 M5 (mxs I0 ML (j + 1))) := by rw [EM.out]; exact F5.1
        clear K F5 C RJ RM HB R1w
        go_wp2
        go_roundw
        case rel => exact ⟨j + 1, M5, c5, by omega, by go_num, by rw [EM.out], R5, HB2⟩
        case measure => simp [intOf]; omega
      · obtain rfl : j = rl + 1 := by omega
        have m2 := keepc M2.out HB.out
        have R4w := R4.out.below HB.out (Nat.le_refl _)
        have C := Lib.hid (CM.out MH (mxs I0 ML (rl + 1)) A4 c4 M cM wr (by rw [← MALL.out]; exact Nat.le_trans (MXL.out _) (by decide)) MALL.out.symm R4w RM.out)
        have DW := Lib.hid (Dxa.out.trans (HB.out.mono hs9))
        clear R4w RM
        generalize mxs I0 ML (rl + 1) = mxl at *
        go_wp2_with fail
        refine C.out.mono ?_
        rintro e x12 ⟨rfl, K⟩
        have DW := Lib.hid (DW.out.trans (K.mono DW.out.size))
        clear K
        go_wp2_with fail
        refine (CX0.out _).mono ?_
        rintro e x13 ⟨rfl, K⟩
        have DW := Lib.hid (DW.out.trans (K.mono DW.out.size))
        clear K
        go_wp2
        go_ret
        exact ⟨rfl, DW.out⟩
  · have hdead : (stepS N (S0 n s0) r).dead = 0 := by show 0 + (if r.1.length < N then 1 else 0) = 0; rw [if_neg hN]
    have d3 : decide ((r.1.length : Int) < (N : Int)) = false := decide_eq_false (by omega)
    have CY2 : Hid (∀ W, Below w.heap.size w W → Calls Try.prog 16 #[.agg #[.string n.nm, .slice n.PA n.ps.length n.pc, .slice n.TA n.ts.length n.tc], .slice A ws.length c, .int .u64 (s0 : Nat), .int .i64 (N : Int), .int .i64 1] W (fun e w' => ∃ A1 c1 A2 c2, e = .returned (.tuple #[.agg #[.slice A1 n.ts.length c1, .int .i64 0, .slice A2 (maxH (initialN n) r.1).length c2], .int .i64 0]) ∧ ReadsV w' A1 (tab n.ts.length (cntF (fun _ => 0) r.1)) ∧ ReadsV w' A2 (maxH (initialN n) r.1) ∧ Below W.heap.size W w')) := fun W hW => (CY.out W hW).mono (fun e w' h => by
      rcases h with ⟨S', A1, c1, A2, c2, h0, h1, h2, h3, h4, _⟩ | ⟨h0, _⟩
      · cases h0
        refine ⟨A1, c1, A2, c2, h1.trans ?_, h2, h3, h4⟩
        have hd : (stepS N (S0 n s0) r).dead = 0 := hdead
        rw [hd]
        rfl
      · cases h0)
    clear hs hr hr0 hw hl hlg hlg2 hE hf hf2 CY hA hR hok hlen hWO hst0 hst1 hgI f1 f2 hR' hA' hMV hdead
    generalize hMH : maxH (initialN n) r.1 = MH at *
    have HMH := Lib.hid hMH
    clear hMH
    generalize hML : initialN n :: marks r.1 = ML at *
    clear hML
    generalize hML2 : initialN n :: marks (r.1.take f) = ML2 at *
    clear hML2
    generalize hI0 : initialN n = I0 at *
    clear hI0 HMH
    generalize tab n.ts.length (cntF (fun _ => 0) r.1) = CF at *
    generalize r.1.length = rl at *
    go_enter Try.func6, Try.ntmps6
    go_wp2_with fail
    refine (CS2.out _ B0.out).mono ?_
    rintro e x1 ⟨rfl, K⟩
    have a0 := keepc a0 K
    have a1 := keepc a1 K
    have a2 := keepc a2 K
    have Dx1 := Lib.hid (B0.out.trans (K.mono B0.out.size))
    clear K
    have a0 := cellA a0 (.cells #[.string n.nm, .slice n.PA n.ps.length n.pc, .slice n.TA n.ts.length n.tc] 25)
    have a1 := cellA a1 (.cells #[.string n.nm, .slice n.PA n.ps.length n.pc, .slice n.TA n.ts.length n.tc] 25)
    have a2 := cellA a2 (.cells #[.string n.nm, .slice n.PA n.ps.length n.pc, .slice n.TA n.ts.length n.tc] 25)
    have q0 : (x1.alloc (.cells #[.string n.nm, .slice n.PA n.ps.length n.pc, .slice n.TA n.ts.length n.tc] 25)).cell? ⟨x1.heap.size, 0, none⟩ = some (.string n.nm) := by simp
    have q1 : (x1.alloc (.cells #[.string n.nm, .slice n.PA n.ps.length n.pc, .slice n.TA n.ts.length n.tc] 25)).cell? ⟨x1.heap.size, 1, none⟩ = some (.slice n.PA n.ps.length n.pc) := by simp
    have q2 : (x1.alloc (.cells #[.string n.nm, .slice n.PA n.ps.length n.pc, .slice n.TA n.ts.length n.tc] 25)).cell? ⟨x1.heap.size, 2, none⟩ = some (.slice n.TA n.ts.length n.tc) := by simp
    have Dx1a := Lib.hid (Dx1.out.alloc Dx1.out.size (.cells #[.string n.nm, .slice n.PA n.ps.length n.pc, .slice n.TA n.ts.length n.tc] 25))
    go_wp2_with fail
    refine (CLG.out _).mono ?_
    rintro e x2 ⟨rfl, K⟩
    have q0 := keepc q0 K
    have q1 := keepc q1 K
    have q2 := keepc q2 K
    have a0 := keepc a0 K
    have a1 := keepc a1 K
    have a2 := keepc a2 K
    have Dx2 := Lib.hid (Dx1a.out.trans (K.mono Dx1a.out.size))
    clear K
    go_wp2_with fail
    refine (CT.out _ Dx2.out).mono ?_
    rintro e x3 ⟨A1, c1, L1, rfl, E1, R1, K, hc1⟩
    have R1 := Lib.hid R1
    have E1 := Lib.hid E1
    have q0 := keepc q0 K
    have q1 := keepc q1 K
    have q2 := keepc q2 K
    have a0 := keepc a0 K
    have a1 := keepc a1 K
    have a2 := keepc a2 K
    have Dx3 := Lib.hid (Dx2.out.trans (K.mono Dx2.out.size))
    clear K
    go_wp2_with fail
    refine (CU.out _ Dx3.out).mono ?_
    rintro e x4 ⟨A2, c2, L2, rfl, E2, R2, K, _⟩
    have R2 := Lib.hid R2
    have E2 := Lib.hid E2
    have q0 := keepc q0 K
    have q1 := keepc q1 K
    have q2 := keepc q2 K
    have a0 := keepc a0 K
    have a1 := keepc a1 K
    have a2 := keepc a2 K
    have R1 := Lib.hid (R1.out.below K (Nat.le_refl _))
    have Dx4 := Lib.hid (Dx3.out.trans (K.mono Dx3.out.size))
    clear K
    obtain ⟨l1, z1, HMS⟩ := LK.out L1 E1.out
    have l2 := LJ.out L2 E2.out
    have HMS := Lib.hid HMS
    have CL2 := Lib.hid (fun W h1 h2 => CLS.out L1 L2 A1 c1 A2 c2 W E1.out E2.out h1 h2)
    obtain ⟨b1, o1, e1, _⟩ := R1.out.1.at 0 (by omega)
    subst e1
    clear CT CU LK LJ CLS E1 E2 CLG CS2
    have HL1 := Lib.hid l1
    generalize hj : L2.length = lj at *
    clear hj
    rw [l1] at hc1 ⊢
    have HZ1 := Lib.hid z1
    clear l1 z1
    have hne : ((lj : Int) != min ((rl + 1 : Nat) : Int) ((f : Int) + 1)) = false := by simp; omega
    have hne2 : ((lj : Int) != min ((rl : Int) + 1) ((f : Int) + 1)) = false := by simp; omega
    have hne3 : ((lj : Int) != min (rl : Int) (f : Int) + 1) = false := by simp; omega
    have hjc : lj ≤ c1 := by omega
    have hjk : lj ≤ rl + 1 := by omega
    clear l2
    go_wp2_with fail
    refine (CL2.out _ R1.out R2.out).mono ?_
    rintro e x5 ⟨rfl, K⟩
    have q0 := keepc q0 K
    have q1 := keepc q1 K
    have q2 := keepc q2 K
    have a0 := keepc a0 K
    have a1 := keepc a1 K
    have a2 := keepc a2 K
    have R1 := Lib.hid (R1.out.below K (Nat.le_refl _))
    have Dx5 := Lib.hid (Dx4.out.trans (K.mono Dx4.out.size))
    clear K
    clear hne hne2 hne3 hjc hjk R2 CL2
    go_wp2_with fail
    refine (CY2.out _ Dx5.out).mono ?_
    rintro e x6 ⟨A3, c3, A4, c4, rfl, R3, R4, K⟩
    have R3 := Lib.hid R3
    have R4 := Lib.hid R4
    have q0 := keepc q0 K
    have q1 := keepc q1 K
    have q2 := keepc q2 K
    have a0 := keepc a0 K
    have a1 := keepc a1 K
    have a2 := keepc a2 K
    have R1 := Lib.hid (R1.out.below K (Nat.le_refl _))
    have Dx6 := Lib.hid (Dx5.out.trans (K.mono Dx5.out.size))
    clear K
    have LA : Below x6.heap.size x6 (x6.alloc (.cells #[.slice A3 n.ts.length c3, .int .i64 0, .slice A4 MH.length c4] 49)) := (Below.refl _ _).alloc (Nat.le_refl _) _
    have Dxa := Lib.hid (Dx6.out.alloc Dx6.out.size (.cells #[.slice A3 n.ts.length c3, .int .i64 0, .slice A4 MH.length c4] 49))
    have a2 := cellA a2 (.cells #[.slice A3 n.ts.length c3, .int .i64 0, .slice A4 MH.length c4] 49)
    have R1 := Lib.hid (R1.out.below LA (Nat.le_refl _))
    have R3 := Lib.hid (R3.out.below LA (Nat.le_refl _))
    have R4 := Lib.hid (R4.out.below LA (Nat.le_refl _))
    have m0 : (x6.alloc (.cells #[.slice A3 n.ts.length c3, .int .i64 0, .slice A4 MH.length c4] 49)).cell? ⟨x6.heap.size, 0, none⟩ = some (.slice A3 n.ts.length c3) := by simp [go_sem]
    have m1 : (x6.alloc (.cells #[.slice A3 n.ts.length c3, .int .i64 0, .slice A4 MH.length c4] 49)).cell? ⟨x6.heap.size, 1, none⟩ = some (.int .i64 0) := by simp [go_sem]
    have m2 : (x6.alloc (.cells #[.slice A3 n.ts.length c3, .int .i64 0, .slice A4 MH.length c4] 49)).cell? ⟨x6.heap.size, 2, none⟩ = some (.slice A4 MH.length c4) := by simp [go_sem]
    obtain ⟨x9, hx9⟩ : ∃ x9, x9 = x6.alloc (.cells #[.slice A3 n.ts.length c3, .int .i64 0, .slice A4 MH.length c4] 49) := ⟨_, rfl⟩
    rw [← hx9] at Dxa R1 R3 R4 m0 m1 m2 a2
    have HX9 := Lib.hid hx9
    clear LA q0 q1 q2 a0 a1 CY2 hx9
    have C9 := SUM.out x9 A3 c3 R3.out
    have M2 := Lib.hid m2
    rw [HX9.out] at C9 m0 m1 m2 a2
    have C9 := Lib.hid C9
    go_wp2_with fail
    refine C9.out.mono ?_
    rintro e x10 ⟨rfl, rfl⟩
    obtain ⟨b, off, e1, hx0⟩ := R1.out.1.at 0 (by rw [HL1.out]; omega)
    cases e1
    rw [HX9.out] at hx0
    rw [Nat.add_zero] at hx0
    have hs9 := Dxa.out.size
    go_wp2_with fail
    rw [← HX9.out] at *
    go_loopw [15, 16] (fun p q wx => ∃ (j : Nat) (M : Option Addr) (cM : Nat), j ≤ rl + 1 ∧ q = .int .i64 j ∧ p = .slice M (mxs I0 ML j).length cM ∧ Hid (ReadsV wx M (mxs I0 ML j)) ∧ Hid (Below x9.heap.size x9 wx)) (fun _ q _ => rl + 1 - (intOf q).toNat)
    case atStart => exact ⟨0, (rA L1 0).A, (rA L1 0).cap, by omega, rfl, by rw [mxs_zero, HZ1.out], by rw [mxs_zero, ← HZ1.out]; exact (R1.out.2 _ (rA_mem (by rw [HL1.out]; omega))).1, Below.refl _ _⟩
    case round =>
      clear hx0
      obtain ⟨j, M, cM, hj, rfl, rfl, RM, HB⟩ := hrel
      have R1w := Lib.hid (R1.out.below HB.out (Nat.le_refl _))
      by_cases hjl : j < rl + 1
      · obtain ⟨b, off, e1, hxj⟩ := R1w.out.1.at j (by rw [HL1.out]; exact hjl)
        cases e1
        have RJ : Hid (ReadsV wr (rA L1 j).A (rA L1 j).zs) := (R1w.out.2 _ (rA_mem (by rw [HL1.out]; exact hjl))).1
        have EM := Lib.hid (HMS.out j (by rw [HL1.out]; exact hjl))
        have C := Lib.hid (CX.out wr _ _ M cM (rA L1 j).A (rA L1 j).cap (MXL.out j) RM.out RJ.out)
        generalize rA L1 j = row at *
        generalize mxs I0 ML j = mx at *
        go_wp2_with fail
        refine C.out.mono ?_
        rintro e x11 ⟨M5, c5, rfl, F5, K⟩
        have HB2 := Lib.hid (HB.out.trans (K.mono HB.out.size))
        have R5 : Hid (ReadsV x11 M5 (mxs I0 ML (j + 1))) := by rw [EM.out]; exact F5.1
        clear K F5 C RJ RM HB R1w
        go_wp2
        go_roundw
        case rel => exact ⟨j + 1, M5, c5, by omega, by go_num, by rw [EM.out], R5, HB2⟩
        case measure => simp [intOf]; omega
      · obtain rfl : j = rl + 1 := by omega
        have m2 := keepc M2.out HB.out
        have R4w := R4.out.below HB.out (Nat.le_refl _)
        have C := Lib.hid (CM.out MH (mxs I0 ML (rl + 1)) A4 c4 M cM wr (by rw [← MALL.out]; exact Nat.le_trans (MXL.out _) (by decide)) MALL.out.symm R4w RM.out)
        have DW := Lib.hid (Dxa.out.trans (HB.out.mono hs9))
        clear R4w RM
        generalize mxs I0 ML (rl + 1) = mxl at *
        go_wp2_with fail
        refine C.out.mono ?_
        rintro e x12 ⟨rfl, K⟩
        have DW := Lib.hid (DW.out.trans (K.mono DW.out.size))
        clear K
        go_wp2_with fail
        refine (CX0.out _).mono ?_
        rintro e x13 ⟨rfl, K⟩
        have DW := Lib.hid (DW.out.trans (K.mono DW.out.size))
        clear K
        go_wp2
        go_ret
        exact ⟨rfl, DW.out⟩
end Go.Proofs.Ytpfkkjgklhcejaa
