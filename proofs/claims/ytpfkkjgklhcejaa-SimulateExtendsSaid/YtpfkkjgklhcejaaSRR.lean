/- Runs of a net by weights: the run of the reference. -/
import Derived.Test.YtpfkkjgklhcejaaSRM
import Derived.Deep.DeepCutAuto
import Derived.Deep.Cut
import Derived.Deep.CutBlock
import Derived.Deep.RegionWith
namespace Go.Proofs.Ytpfkkjgklhcejaa
open Go.RowKit

def XPost (g : Nat) (w : World) (n : NetV) (R : Option (Hist × Nat)) (e : Ending) (w' : World) : Prop :=
  (∃ r A1 c1 A2 c2 L, R = some r ∧ e = .returned (.tuple #[.agg #[.slice A1 (seqT r.1).length c1, .slice A2 (List.length L) c2, .int .u64 (r.2 : Nat)], .bool true]) ∧ ReadsV w' A1 (seqT r.1) ∧ ReadsL w' A2 L ∧ rowsL L = initialN n :: marks r.1 ∧ Below g w w')
  ∨ (R = none ∧ e = .returned (.tuple #[.agg #[.slice none 0 0, .slice none 0 0, .int .u64 0], .bool false]) ∧ Below g w w')
def XPostG (g : Nat) (w : World) (n : NetV) (R : Option (Hist × Nat)) (e : Ending) (w' : World) : Prop :=
  (∃ r A1 c1 A2 c2 L, R = some r ∧ e = .returned (.tuple #[.agg #[.slice A1 (seqT r.1).length c1, .slice A2 (List.length L) c2, .int .u64 (r.2 : Nat)], .bool true]) ∧ FreshG w' g A1 (seqT r.1) ∧ ReadsL w' A2 L ∧ rowsL L = initialN n :: marks r.1 ∧ Below g w w' ∧ (L ≠ [] → ∀ b off, A2 = some ⟨b, off, none⟩ → g ≤ b) ∧ ∀ r ∈ L, Ge g r.A r.zs)
  ∨ (R = none ∧ e = .returned (.tuple #[.agg #[.slice none 0 0, .slice none 0 0, .int .u64 0], .bool false]) ∧ Below g w w')
theorem OwnL.readsG {w : World} {s : Nat} {v : Value} {L : List Row} (h : OwnL w s v L) : ∃ A c, v = .slice A L.length c ∧ ReadsL w A L ∧ (L ≠ [] → ∀ b off, A = some ⟨b, off, none⟩ → s ≤ b) := by
  obtain ⟨A, c, e, R⟩ := h.reads
  refine ⟨A, c, e, R, fun hn b off ea => ?_⟩
  subst ea
  rcases h.1.2 with ⟨e1, h0⟩ | ⟨b', cap, cur, e1, hb, _⟩
  · exact absurd (List.eq_nil_of_length_eq_zero h0) hn
  · rw [e1] at e
    cases e
    exact hb
def put3 (w : World) (b : Nat) (v1 v2 v3 : Value) : World := ((w.setCell ⟨b, 0, none⟩ v1).setCell ⟨b, 1, none⟩ v2).setCell ⟨b, 2, none⟩ v3
theorem put3_blk {w : World} {b : Nat} {x1 x2 : Value} {st : Nat} (h : w.heap[b]? = some (resObj x1 x2 st)) (v1 v2 : Value) (s2 : Nat) : (put3 w b v1 v2 (.int .u64 (s2 : Nat))).heap[b]? = some (resObj v1 v2 s2) := by
  unfold put3
  exact blk_set (blk_set (blk_set h 0 v1) 1 v2) 2 _
theorem put3_ne (w : World) (b : Nat) (v1 v2 v3 : Value) (k : Nat) (h : k ≠ b) : (put3 w b v1 v2 v3).heap[k]? = w.heap[k]? := by
  unfold put3
  exact ((Below.heap_setCell _ _ _ k h).trans (Below.heap_setCell _ _ _ k h)).trans (Below.heap_setCell _ _ _ k h)
theorem put3_below {g b : Nat} {w0 w : World} (h : Below g w0 w) (hb : g ≤ b) (v1 v2 v3 : Value) : Below g w0 (put3 w b v1 v2 v3) := by
  unfold put3
  exact ((h.setCell (p := ⟨b, 0, none⟩) hb _).setCell (p := ⟨b, 1, none⟩) hb _).setCell (p := ⟨b, 2, none⟩) hb _
variable {n : NetV} {ws : List Int} {R : Option (Hist × Nat)} {g : Nat} {w0 : World} {z lb ob N : Nat} {m0 : List Int} {i : Nat} {h : Hist} {m : List Int} {st : Nat} {B : Option Addr} {v1 v2 : Value} {L : List Row} {wr w' : World}
/-- the result is stored -/
theorem ri_done (H : RI n ws R g w0 z lb ob N m0 i h m st B v1 v2 L wr) (hz : g ≤ z) (hgl : g ≤ lb) :
    ∃ A1 c1 A2 c2, v1 = .slice A1 (seqT h).length c1 ∧ v2 = .slice A2 (List.length L) c2 ∧ (put3 wr (z + 1) v1 v2 (.int .u64 (st : Nat))).heap[z + 1]? = some (resObj v1 v2 st) ∧
      FreshG (put3 wr (z + 1) v1 v2 (.int .u64 (st : Nat))) g A1 (seqT h) ∧ ReadsL (put3 wr (z + 1) v1 v2 (.int .u64 (st : Nat))) A2 L ∧ rowsL L = m0 :: marks h ∧ Below g w0 (put3 wr (z + 1) v1 v2 (.int .u64 (st : Nat))) ∧ (L ≠ [] → ∀ b off, A2 = some ⟨b, off, none⟩ → g ≤ b) := by
  have O1 : OwnI (put3 wr (z + 1) v1 v2 (.int .u64 (st : Nat))) lb v1 (seqT h) := own_of H.o1 fun b e => put3_ne _ _ _ _ _ b (by
    obtain ⟨_, cur, hc⟩ := own_typed H.o1 e
    exact blk_ne hc H.res (by decide))
  have O2 : OwnL (put3 wr (z + 1) v1 v2 (.int .u64 (st : Nat))) lb v2 L := H.o2.of (fun b e => put3_ne _ _ _ _ _ b (by
    obtain ⟨_, cur, hc⟩ := own_typed H.o2.1 e
    exact blk_ne hc H.res (by decide))) (fun r hr hn b off e => put3_ne _ _ _ _ _ b (by
    intro e2
    obtain ⟨b', off', e', _, h2⟩ := (H.o2.2 r hr).1.1 0 (List.length_pos_iff.2 hn)
    rw [e] at e'
    cases e'
    rw [e2, cell_blk H.res] at h2
    rcases off with _ | _ | _ | off <;> simp at h2
    ))
  obtain ⟨A1, c1, e1, R1⟩ := FreshG.own O1
  obtain ⟨A2, c2, e2, R2, G2⟩ := O2.readsG
  exact ⟨A1, c1, A2, c2, e1, e2, put3_blk H.res _ _ _, R1.mono hgl, R2, H.rows, put3_below H.low (by omega) _ _ _, fun hn b off e => Nat.le_trans hgl (G2 hn b off e)⟩
theorem RI.o_0 (H : RI n ws R g w0 z lb ob N m0 i h m st B v1 v2 L wr) : wr.cell? ⟨ob, 0, none⟩ = some v1 := cell_blk H.out 0
theorem RI.o_1 (H : RI n ws R g w0 z lb ob N m0 i h m st B v1 v2 L wr) : wr.cell? ⟨ob, 1, none⟩ = some v2 := cell_blk H.out 1
theorem RI.o_2 (H : RI n ws R g w0 z lb ob N m0 i h m st B v1 v2 L wr) : wr.cell? ⟨ob, 2, none⟩ = some (.int .u64 (st : Nat)) := cell_blk H.out 2
theorem RI.r_0 (H : RI n ws R g w0 z lb ob N m0 i h m st B v1 v2 L wr) : wr.cell? ⟨z + 1, 0, none⟩ = some (.slice none 0 0) := cell_blk H.res 0
theorem RI.r_1 (H : RI n ws R g w0 z lb ob N m0 i h m st B v1 v2 L wr) : wr.cell? ⟨z + 1, 1, none⟩ = some (.slice none 0 0) := cell_blk H.res 1
theorem RI.r_2 (H : RI n ws R g w0 z lb ob N m0 i h m st B v1 v2 L wr) : wr.cell? ⟨z + 1, 2, none⟩ = some (.int .u64 0) := cell_blk H.res 2
theorem RI.fo (H : RI n ws R g w0 z lb ob N m0 i h m st B v1 v2 L wr) (k : Nat) : wr.frozen? ⟨ob, k, none⟩ = false := frozen_blk H.out k
theorem RI.fr (H : RI n ws R g w0 z lb ob N m0 i h m st B v1 v2 L wr) (k : Nat) : wr.frozen? ⟨z + 1, k, none⟩ = false := frozen_blk H.res k
theorem row_ok {r : Row} (h : r.zs.length ≤ 1000) : True := trivial

set_option maxHeartbeats 32000000 in
set_option maxRecDepth 100000 in
theorem rrun53g (n : NetV) (A : Option Addr) (ws : List Int) (c s0 : Nat) (steps : Int) (w : World) (hr : NetR w n) (hw : ReadsV w A ws) (hE : argE n ws steps = 0) :
    Calls Try.prog 13 #[.agg #[.string n.nm, .slice n.PA n.ps.length n.pc, .slice n.TA n.ts.length n.tc], .slice A ws.length c, .int .u64 (s0 : Nat), .int .i64 steps] w (XPostG w.heap.size w n (simR n ws steps.toNat (initialN n) s0)) := by
  obtain ⟨hok, hlen, hWO, hst0, hst1⟩ := argE_ok hE
  obtain ⟨N, rfl⟩ : ∃ N : Nat, steps = N := ⟨steps.toNat, by omega⟩
  rw [Int.toNat_natCast]
  have htl := (okN_parts hok).2.2.2.1
  have CI : Hid (∀ W, Below w.heap.size w W → Calls Try.prog 19 #[.agg #[.string n.nm, .slice n.PA n.ps.length n.pc, .slice n.TA n.ts.length n.tc]] W (FIs W.heap.size W (initialN n))) := fun W h => rinitialN_f n W (hr.below h (Nat.le_refl _))
  have CL : Hid (∀ W m B cb, Below w.heap.size w W → ReadsV W B m → goodN n m = true → Calls Try.prog 29 #[.agg #[.string n.nm, .slice n.PA n.ps.length n.pc, .slice n.TA n.ts.length n.tc], .slice B m.length cb] W (IsPost W.heap.size W (firesV n m))) := fun W m B cb h h2 h3 => fires_any n B m cb W (hr.below h (Nat.le_refl _)) h2 h3
  have CH : Hid (∀ W P m st, ReadsV W (some ⟨P, 0, none⟩) (posL n ws m) → Calls Try.prog 30 #[.int .u64 (st : Nat), .slice (some ⟨P, 0, none⟩) ws.length ws.length] W fun e w' => e = .returned (.tuple #[.int .i64 (Rd.chV st (posL n ws m)), .int .u64 (Rd.chS st (posL n ws m))]) ∧ W = w') := fun W P m st h => by
    have := Rd.rchoose_any st (some ⟨P, 0, none⟩) (posL n ws m) ws.length W (reads_rd h) (by rw [posL_len]; omega)
    rw [posL_len] at this
    exact this
  have CF : Hid (∀ W m B cb (t : Nat), Below w.heap.size w W → ReadsV W B m → goodN n m = true → t < n.ts.length → Calls Try.prog 31 #[.agg #[.string n.nm, .slice n.PA n.ps.length n.pc, .slice n.TA n.ts.length n.tc], .slice B m.length cb, .int .i64 (t : Nat)] W (FPair W.heap.size W (aftR n m t) (.bool (!(overB n m t))))) := fun W m B cb t h h2 h3 h4 =>
    after_f n B m cb t W (hr.below h (Nat.le_refl _)) h2 h3 h4
  have CW : Hid (∀ W, Below w.heap.size w W → ReadsV W A ws) := fun W h => hw.below h (Nat.le_refl _)
  have HM0 := goodN_init hok
  have HS0 := sim_start n ws N (initialN n) s0
  have B0 : Hid (Below w.heap.size w ((w.alloc (.cells #[.string n.nm, .slice n.PA n.ps.length n.pc, .slice n.TA n.ts.length n.tc] 25)).alloc (.cells #[.slice none 0 0, .slice none 0 0, .int .u64 0] 42))) := ((Below.refl _ _).alloc (Nat.le_refl _) _).alloc (by simp) _
  have q0 : ((w.alloc (.cells #[.string n.nm, .slice n.PA n.ps.length n.pc, .slice n.TA n.ts.length n.tc] 25)).alloc (.cells #[.slice none 0 0, .slice none 0 0, .int .u64 0] 42)).cell? ⟨w.heap.size, 0, none⟩ = some (.string n.nm) := by simp [go_sem]
  have q1 : ((w.alloc (.cells #[.string n.nm, .slice n.PA n.ps.length n.pc, .slice n.TA n.ts.length n.tc] 25)).alloc (.cells #[.slice none 0 0, .slice none 0 0, .int .u64 0] 42)).cell? ⟨w.heap.size, 1, none⟩ = some (.slice n.PA n.ps.length n.pc) := by simp [go_sem]
  have q2 : ((w.alloc (.cells #[.string n.nm, .slice n.PA n.ps.length n.pc, .slice n.TA n.ts.length n.tc] 25)).alloc (.cells #[.slice none 0 0, .slice none 0 0, .int .u64 0] 42)).cell? ⟨w.heap.size, 2, none⟩ = some (.slice n.TA n.ts.length n.tc) := by simp [go_sem]
  have BK0 : Hid (((w.alloc (.cells #[.string n.nm, .slice n.PA n.ps.length n.pc, .slice n.TA n.ts.length n.tc] 25)).alloc (.cells #[.slice none 0 0, .slice none 0 0, .int .u64 0] 42)).heap[w.heap.size]? = some (netObj n)) := (Deep.blk_alloc_lt _ _ _ (by simp)).trans (World.alloc_heap_new w _)
  have BK1 : Hid (((w.alloc (.cells #[.string n.nm, .slice n.PA n.ps.length n.pc, .slice n.TA n.ts.length n.tc] 25)).alloc (.cells #[.slice none 0 0, .slice none 0 0, .int .u64 0] 42)).heap[w.heap.size + 1]? = some (resObj (.slice none 0 0) (.slice none 0 0) 0)) := by
    have := World.alloc_heap_new (w.alloc (.cells #[.string n.nm, .slice n.PA n.ps.length n.pc, .slice n.TA n.ts.length n.tc] 25)) (.cells #[.slice none 0 0, .slice none 0 0, .int .u64 0] 42)
    rw [World.size_alloc] at this
    exact this
  obtain ⟨i0, hi, hz0, hz1, hz2⟩ := info_parts infoI
  have HI := Lib.hid hi
  have HZ0 := Lib.hid hz0
  have HZ1 := Lib.hid hz1
  have HZ2 := Lib.hid hz2
  have HWO := Lib.hid hWO
  have HLEN := Lib.hid hlen
  have HM0 := Lib.hid HM0
  have HS0 := Lib.hid HS0
  clear hi hz0 hz1 hz2 hr hw hE hWO hok
  generalize hRR : simR n ws N (initialN n) s0 = RR at *
  clear hRR
  generalize hwl : ws.length = T at *
  have HT := Lib.hid hwl
  clear hwl
  have hT24 : T ≤ 24 := by have := HLEN.out; omega
  clear hlen
  go_enter Try.func13, Try.ntmps13
  go_wp2_with fail
  refine (CI.out _ B0.out).mono ?_
  rintro e w1 ⟨B, cb, rfl, FB, K⟩
  have RB := FB.1
  have FB := Lib.hid FB
  have q0 := keepc q0 K
  have q1 := keepc q1 K
  have q2 := keepc q2 K
  have hI24 : (initialN n).length ≤ 24 := good_len HM0.out
  have hz1 : w.heap.size + 1 < w1.heap.size := by have := K.size; rw [World.size_alloc, World.size_alloc] at this; omega
  have BG1 := Lib.hid (B0.out.trans (K.mono B0.out.size))
  have BLK1 : Hid (w1.heap[w.heap.size]? = some (netObj n)) := (K.block _ (by rw [World.size_alloc, World.size_alloc]; omega)).trans BK0.out
  have BRS1 : Hid (w1.heap[w.heap.size + 1]? = some (resObj (.slice none 0 0) (.slice none 0 0) 0)) := (K.block _ (by rw [World.size_alloc, World.size_alloc]; omega)).trans BK1.out
  obtain ⟨wS, hwS⟩ : ∃ wS, wS = (w1.alloc (.cells #[.slice B (initialN n).length cb] 26)).alloc (.cells #[.slice none 0 0, .slice (some ⟨w1.heap.size, 0, none⟩) 1 1, .int .u64 (s0 : Nat)] 42) := ⟨_, rfl⟩
  have START : Hid (RI n ws RR w.heap.size w w.heap.size w1.heap.size (w1.heap.size + 1) N (initialN n) 0 [] (initialN n) s0 B (.slice none 0 0) (.slice (some ⟨w1.heap.size, 0, none⟩) 1 1) [⟨B, initialN n, cb⟩] wS) := by
    have LA : Below w1.heap.size w1 (w1.alloc (.cells #[.slice B (initialN n).length cb] 26)) := (Below.refl _ _).alloc (Nat.le_refl _) _
    have LC : Below w1.heap.size w1 wS := by rw [hwS]; exact LA.alloc (by rw [World.size_alloc]; omega) _
    have OL : OwnL (w1.alloc (.cells #[.slice B (initialN n).length cb] 26)) w1.heap.size (.slice (some ⟨w1.heap.size, 0, none⟩) 1 1) [⟨B, initialN n, cb⟩] := by
      refine ⟨⟨rfl, .inr ⟨w1.heap.size, 1, #[.slice B (initialN n).length cb], rfl, Nat.le_refl _, World.alloc_heap_new _ _, Nat.le_refl _, by unfold maxLen; decide, rfl, rfl⟩⟩, fun r hm => ?_⟩
      rw [List.mem_singleton.1 hm]
      exact FarR.old (B := w1.heap.size) ⟨RB, by show (initialN n).length ≤ 1000; omega⟩ LA (Nat.le_refl _) (Nat.le_refl _)
    have hO : wS.heap[w1.heap.size + 1]? = some (resObj (.slice none 0 0) (.slice (some ⟨w1.heap.size, 0, none⟩) 1 1) s0) := by
      rw [hwS]
      have := World.alloc_heap_new (w1.alloc (.cells #[.slice B (initialN n).length cb] 26)) (.cells #[.slice none 0 0, .slice (some ⟨w1.heap.size, 0, none⟩) 1 1, .int .u64 (s0 : Nat)] 42)
      rw [World.size_alloc] at this
      exact this
    refine ⟨HS0.out, rfl, HM0.out, RB.below LC (Nat.le_refl _), fun _ b off _ => (fun e => by cases e), (LC.block _ (by omega)).trans BLK1.out, (LC.block _ hz1).trans BRS1.out, hO, OwnI.nil _ _, ?_, rfl, fun r hr _ b off _ => (fun e => by cases e), BG1.out.trans (LC.mono (by omega)), fun r hr => by
      rw [List.mem_singleton.1 hr]
      exact fun hn b off e => Nat.le_trans B0.out.size (FB.out.2 hn b off e).1⟩
    rw [hwS]
    exact OL.alloc _
  have hzl : w.heap.size + 1 < w1.heap.size := by omega
  have hgz : w.heap.size ≤ w.heap.size := Nat.le_refl _
  have HWS := Lib.hid hwS
  clear B0 BG1 BLK1 BRS1 BK0 BK1 RB FB K HS0 hwS CI
  generalize hm0 : initialN n = m0 at *
  have HMM := Lib.hid hm0
  clear hm0
  go_wp2_with fail
  (try go_step3)
  (try go_wp2_with fail)
  rw [← HWS.out]
  generalize hlb : w1.heap.size = lb at *
  clear HWS hlb q0 q1 q2
  have hgl : w.heap.size ≤ lb := by omega
  go_loopw [10, 12] (fun p q wr => ∃ (i : Nat) (h : Hist) (m : List Int) (st : Nat) (B : Option Addr) (cb : Nat) (v1 v2 : Value) (L : List Row), i ≤ N ∧ q = .int .i64 i ∧ p = .slice B m.length cb ∧ Hid (RI n ws RR w.heap.size w w.heap.size lb (lb + 1) N m0 i h m st B v1 v2 L wr)) (fun _ q _ => N - (intOf q).toNat)
  case atStart => exact ⟨0, [], m0, s0, B, cb, _, _, _, by omega, rfl, rfl, START⟩
  case round =>
    clear START
    obtain ⟨i, h, m, st, B, cb, v1, v2, L, hiN, rfl, rfl, H⟩ := hrel
    by_cases hlt : i < N
    · have hml := good_len H.out.good
      have hlt' : (i : Int) < (N : Int) := by omega
      have q0 := H.out.q0
      have q1 := H.out.q1
      have q2 := H.out.q2
      have hgr := H.out.low.size
      go_wp2_with fail
      refine (CL.out wr m B cb H.out.low H.out.rd H.out.good).mono ?_
      rintro e w4 ⟨B4, c4, rfl, F4, K4⟩
      have H4 := Lib.hid (H.out.below hgr K4)
      have RD4 := Lib.hid F4
      have hgr4 := H4.out.low.size
      clear H F4 K4 q0 q1 q2
      have hfl : (firesV n m).length ≤ 24 := Nat.le_trans (pickI_len _ _) htl
      go_wp2_with (at_make; refine wpList_make_full _ rfl _ _ 26 rfl w4.heap.size 3 i0 (.int .i64 0) 1 Try.underlying26 HI.out HZ0.out HZ1.out .i64 .i64 _ _ T rfl rfl rfl rfl (by rw [HZ2.out]; omega) (by unfold maxLen; omega) (Nat.le_refl _) ?_; intro w5 hown5 hgrow5)
      (try go_step3)
      (try go_wp2_with fail)
      have ROW : w5.rowIs w4.heap.size 3 T (fun _ => .int .i64 0) := row_of_own hown5 _ fun i hi => by
        rw [show madeCells (Value.cells (.int .i64 0)) (T * 1) = madeCells #[.int .i64 0] (T * 1) from rfl, toList_madeCells_one, Nat.mul_one, List.getElem?_replicate, if_pos hi]
      have K5 : Hid (Below w4.heap.size w4 w5) := (Below.refl _ _).grown hgrow5 (Nat.le_refl _) (fun _ h => by cases h)
      obtain ⟨P, hP⟩ : ∃ P, P = w4.heap.size := ⟨_, rfl⟩
      rw [← hP] at ROW K5 ⊢
      have ROW5 := Lib.hid ROW
      have HP := Lib.hid hP
      clear hown5 hgrow5 ROW hP
      go_loopw [15, 16] (fun p q wx => ∃ j : Nat, j ≤ (firesV n m).length ∧ p = .int .i64 (sumJ (firesV n m) ws j) ∧ 0 ≤ sumJ (firesV n m) ws j ∧ sumJ (firesV n m) ws j ≤ 1000 * j ∧ q = .int .i64 j ∧ Hid (wx.rowIs P 3 T (fun t => .int .i64 (posJ (firesV n m) ws j t))) ∧ Hid (Below P w4 wx)) (fun _ q _ => (firesV n m).length - (intOf q).toNat)
      case atStart => exact ⟨0, by omega, by rw [sumJ_zero], by rw [sumJ_zero]; omega, by rw [sumJ_zero]; omega, rfl, by show World.rowIs _ _ _ _ _; exact ROW5.out.congr fun i _ => by rw [posJ_zero], K5⟩
      case round =>
        clear ROW5 K5
        obtain ⟨j, hj, rfl, hs0, hs1, rfl, HR, HG⟩ := hrel
        by_cases hjl : j < (firesV n m).length
        · obtain ⟨k, hk, ek⟩ := at_fires hjl
          have hkT : k < T := by have := HLEN.out; omega
          obtain ⟨bf, ofs, e1, hxf⟩ := at_of_reads (RD4.out.below HG.out (by rw [HP.out]; exact Nat.le_refl _)) j hjl
          have hbf := block_reads RD4.out (fun c => by rw [c] at hjl; simp at hjl) e1
          subst e1
          rw [ek] at hxf
          obtain ⟨bw, ow, e2, hxw⟩ := at_of_reads ((CW.out w4 H4.out.low).below HG.out (by rw [HP.out]; exact Nat.le_refl _)) k (by rw [HT.out]; exact hkT)
          have hbw := block_reads (CW.out w4 H4.out.low) (fun c => by have := HT.out; rw [c] at this; simp at this; omega) e2
          subst e2
          rw [← HP.out] at hbf hbw
          have okx := okW_at HWO.out k
          have SJ : Hid (sumJ (firesV n m) ws (j + 1) = sumJ (firesV n m) ws j + at0 ws k) := Lib.hid (by rw [sumJ_step ws hjl, ek, Int.toNat_natCast])
          have R2 : Hid ((wr.drew.setCell ⟨P, k, none⟩ (.int .i64 (at0 ws k))).rowIs P 3 T (fun t => .int .i64 (posJ (firesV n m) ws (j + 1) t))) := ((show wr.drew.rowIs P 3 T _ from HR.out).set k _).congr fun i' _ => by
            rw [posJ_step ws hjl, ek]
            by_cases e : i' = k
            · rw [if_pos e, if_pos (by rw [e]), e]
            · rw [if_neg e, if_neg (fun h : (i' : Int) = (k : Int) => e (by omega))]
          have hc : wr.drew.cell? ⟨P, k, none⟩ = some (.int .i64 (posJ (firesV n m) ws j k)) := HR.out.cell hkT
          have hfz : wr.drew.frozen? ⟨P, k, none⟩ = false := HR.out.frozen k
          have G2 : Hid (Below P w4 (wr.drew.setCell ⟨P, k, none⟩ (.int .i64 (at0 ws k)))) := HG.out.drew.setCell (p := ⟨P, k, none⟩) (Nat.le_refl _) _
          have hnf : bf ≠ P := by omega
          have hnw : bw ≠ P := by omega
          clear ek HR HG
          generalize at0 ws k = x at *
          generalize sumJ (firesV n m) ws j = sj at *
          generalize posJ (firesV n m) ws j k = y at *
          go_upto_region 12 with fail
          refine wp_region_held_drew (S := fun w' => w'.cell? ⟨bf, ofs + j, none⟩ = some (.int .i64 (k : Int)) ∧ w'.cell? ⟨bw, ow + k, none⟩ = some (.int .i64 x)) (by kernel_rfl) ?_ (fun hHeld => ?_)
          · exact ⟨hxf, hxw⟩
          refine wpAnyH_take (oi := ⟨_, _, _, _, _, _⟩) (i := 0) (v := ?_) rfl (by kernel_rfl) (by kernel_rfl) (by kernel_rfl) (fun _ _ _ h => h) (Or.inl ⟨by rfl, ?yd0⟩) (by assumption) ?rd0
          case yd0 => (intro w hSw; (try dsimp only at hSw); go_simp; (try with_reducible rfl))
          try simp only [Act.put, List.setIfInBounds_toArray, List.set_cons_zero, List.set_cons_succ]
          refine wpAnyH_take (oi := ⟨_, _, _, _, _, _⟩) (i := 1) (v := ?_) rfl (by kernel_rfl) (by kernel_rfl) (by kernel_rfl) (fun _ _ _ h => h) (Or.inl ⟨by rfl, ?yd1⟩) (by assumption) ?rd1
          case yd1 => (intro w hSw; (try dsimp only at hSw); go_simp; (try with_reducible rfl))
          try simp only [Act.put, List.setIfInBounds_toArray, List.set_cons_zero, List.set_cons_succ]
          refine wpAnyH_take (oi := ⟨_, _, _, _, _, _⟩) (i := 2) (v := ?_) rfl (by kernel_rfl) (by kernel_rfl) (by kernel_rfl) (fun _ _ _ h => h) (Or.inl ⟨by rfl, ?yd2⟩) (by assumption) ?rd2
          case yd2 => (intro w hSw; (try dsimp only at hSw); go_simp; (try with_reducible rfl))
          try simp only [Act.put, List.setIfInBounds_toArray, List.set_cons_zero, List.set_cons_succ]
          refine wpAnyH_take (oi := ⟨_, _, _, _, _, _⟩) (i := 3) (v := ?_) rfl (by kernel_rfl) (by kernel_rfl) (by kernel_rfl) (fun _ _ _ h => h) (Or.inl ⟨by rfl, ?yd3⟩) (by assumption) ?rd3
          case yd3 => (intro w hSw; (try dsimp only at hSw); go_simp; (try with_reducible rfl))
          try simp only [Act.put, List.setIfInBounds_toArray, List.set_cons_zero, List.set_cons_succ]
          refine wpAnyH_take (oi := ⟨_, _, _, _, _, _⟩) (i := 4) (v := ?_) rfl (by kernel_rfl) (by kernel_rfl) (by kernel_rfl) (fun _ _ _ h => h) (Or.inl ⟨by rfl, ?yd4⟩) (by assumption) ?rd4
          case yd4 => (intro w hSw; (try dsimp only at hSw); go_simp; (try with_reducible rfl))
          try simp only [Act.put, List.setIfInBounds_toArray, List.set_cons_zero, List.set_cons_succ]
          refine wpAnyH_take (oi := ⟨_, _, _, _, _, _⟩) (i := 5) (v := ?_) rfl (by kernel_rfl) (by kernel_rfl) (by kernel_rfl) (fun _ _ _ h => h) (Or.inl ⟨by rfl, ?yd5⟩) (by assumption) ?rd5
          case yd5 => (intro w hSw; (try dsimp only at hSw); go_simp; (try with_reducible rfl))
          try simp only [Act.put, List.setIfInBounds_toArray, List.set_cons_zero, List.set_cons_succ]
          refine wpAnyH_take (oi := ⟨_, _, _, _, _, _⟩) (i := 6) (v := ?_) rfl (by kernel_rfl) (by kernel_rfl) (by kernel_rfl) (fun _ _ _ h => h) (Or.inl ⟨by rfl, ?yd6⟩) (by assumption) ?rd6
          case yd6 => (intro w hSw; (try dsimp only at hSw); go_simp; (try with_reducible rfl))
          try simp only [Act.put, List.setIfInBounds_toArray, List.set_cons_zero, List.set_cons_succ]
          refine wpAnyH_take (oi := ⟨_, _, _, _, _, _⟩) (i := 7) (v := ?_) rfl (by kernel_rfl) (by kernel_rfl) (by kernel_rfl) (fun _ _ _ h => h) (Or.inl ⟨by rfl, ?yd7⟩) (by assumption) ?rd7
          case yd7 => (intro w hSw; (try dsimp only at hSw); go_simp; (try with_reducible rfl))
          try simp only [Act.put, List.setIfInBounds_toArray, List.set_cons_zero, List.set_cons_succ]
          refine wpAnyH_take (oi := ⟨_, _, _, _, _, _⟩) (i := 8) (v := ?_) rfl (by kernel_rfl) (by kernel_rfl) (by kernel_rfl) (fun _ _ _ h => h) (Or.inl ⟨by rfl, ?yd8⟩) (by assumption) ?rd8
          case yd8 => (intro w hSw; (try dsimp only at hSw); go_simp; (try with_reducible rfl))
          try simp only [Act.put, List.setIfInBounds_toArray, List.set_cons_zero, List.set_cons_succ]
          refine wpAnyH_take (oi := ⟨_, _, _, _, _, _⟩) (i := 9) (v := ?_) rfl (by kernel_rfl) (by kernel_rfl) (by kernel_rfl) (fun _ _ _ h => h) (Or.inl ⟨by rfl, ?yd9⟩) (by assumption) ?rd9
          case yd9 => (intro w hSw; (try dsimp only at hSw); go_simp; (try with_reducible rfl))
          try simp only [Act.put, List.setIfInBounds_toArray, List.set_cons_zero, List.set_cons_succ]
          refine wpAnyH_take (oi := ⟨_, _, _, _, _, _⟩) (i := 10) (v := ?_) rfl (by kernel_rfl) (by kernel_rfl) (by kernel_rfl) (fun _ _ _ h => h) (Or.inl ⟨by rfl, ?yd10⟩) (by assumption) ?rd10
          case yd10 => (intro w hSw; (try dsimp only at hSw); go_simp; (try with_reducible rfl))
          try simp only [Act.put, List.setIfInBounds_toArray, List.set_cons_zero, List.set_cons_succ]
          refine wpAnyH_take (oi := ⟨_, _, _, _, _, _⟩) (i := 11) (v := ?_) rfl (by kernel_rfl) (by kernel_rfl) (by kernel_rfl) (fun _ _ _ h => h) (Or.inl ⟨by rfl, ?yd11⟩) (by assumption) ?rd11
          case yd11 => (intro w hSw; (try dsimp only at hSw); go_simp; (try with_reducible rfl))
          try simp only [Act.put, List.setIfInBounds_toArray, List.set_cons_zero, List.set_cons_succ]
          refine wpAnyH_take (oi := ⟨_, _, _, _, _, _⟩) (i := 12) (v := ?_) rfl (by kernel_rfl) (by kernel_rfl) (by kernel_rfl) (fun _ _ _ h => h) (Or.inl ⟨by rfl, ?yd12⟩) (by assumption) ?rd12
          case yd12 => (intro w hSw; (try dsimp only at hSw); go_simp; (try with_reducible rfl))
          try simp only [Act.put, List.setIfInBounds_toArray, List.set_cons_zero, List.set_cons_succ]
          generalize wr.drew = wdr at *
          refine wpAnyH_ready (rs := [13]) (by kernel_rfl) (by simp) ?_
          refine AllReadyH.cons (o := ⟨_, _, _, _, _, _⟩) rfl (fun K hK => ?_) AllReadyH.nil
          go_simp
          refine hK.out _ _ ?_ (fun hHeld2 => ?_)
          · exact ⟨(World.cell?_of_block (a := ⟨bf, ofs + j, none⟩) (Below.heap_setCell _ _ _ bf hnf)).trans hHeld.1, (World.cell?_of_block (a := ⟨bw, ow + k, none⟩) (Below.heap_setCell _ _ _ bw hnw)).trans hHeld.2⟩
          clear hK K hHeld
          have hHeld := hHeld2
          clear hHeld2
          try simp only [Act.put, List.setIfInBounds_toArray, List.set_cons_zero, List.set_cons_succ]
          refine wpAnyH_done (by kernel_rfl) ?_ _
          have hxf := hHeld.1
          have hxw := hHeld.2
          clear hHeld hc hfz
          obtain ⟨wx, hwx⟩ : ∃ wx, wx = wdr.setCell ⟨P, k, none⟩ (.int .i64 x) := ⟨_, rfl⟩
          rw [← hwx] at hxf hxw R2 G2 ⊢
          clear hwx
          go_wp2_with fail
          go_roundw
          case rel => exact ⟨j + 1, by omega, by rw [SJ.out], by rw [SJ.out]; omega, by rw [SJ.out]; omega, by go_num, R2, G2⟩
          case measure => simp [intOf]; omega
        · obtain rfl : j = (firesV n m).length := by omega
          have RP := Lib.hid (reads_row HR.out)
          have hPle : P ≤ wr.heap.size := by have := HG.out.size; rw [HP.out]; exact this
          have H5 := Lib.hid (H4.out.below hgr4 (by rw [← HP.out]; exact HG.out))
          have q0 := H5.out.q0
          have q1 := H5.out.q1
          have q2 := H5.out.q2
          have C := CH.out wr P m st (by unfold posL; rw [HT.out]; exact RP.out)
          have hn1 : N - i = N - (i + 1) + 1 := by omega
          have hsim := H5.out.sim
          rw [hn1] at hsim
          have hsum : sumJ (firesV n m) ws (firesV n m).length = Rd.totR (posL n ws m) := by
            rw [tot_sum HWO.out (by rw [HT.out]; omega)]
            exact sumJ_all (HT.out.trans HLEN.out)
          rw [hsum] at hs0 hs1 ⊢
          have hgr5 := H5.out.low.size
          clear H4 HR HG RP RD4 hn1 hjl hj hsum
          by_cases ht : Rd.totR (posL n ws m) < 1
          · have E := Lib.hid (sim_stop hsim ht)
            have ht0 : Rd.totR (posL n ws m) = 0 := by omega
            rw [ht0]
            clear hsim ht ht0 C q0 q1 q2 hs0 hs1
            have r0 := H5.out.r_0
            have r1 := H5.out.r_1
            have r2 := H5.out.r_2
            have rf0 := H5.out.fr 0
            have rf1 := H5.out.fr 1
            have rf2 := H5.out.fr 2
            have o0 := H5.out.o_0
            have o1 := H5.out.o_1
            have o2 := H5.out.o_2
            obtain ⟨A1, c1, A2, c2, e1, e2, hres, R1, R2, hrow, hbel, hA2⟩ := ri_done H5.out hgz hgl
            have HA2 := Lib.hid hA2
            have HGE := Lib.hid H5.out.ge
            clear hA2
            subst e1
            subst e2
            have R1 := Lib.hid R1
            have R2 := Lib.hid R2
            have HB9 := Lib.hid hbel
            have HRW := Lib.hid hrow
            have HRS := Lib.hid hres
            clear hbel hrow hres
            generalize hLS : seqT h = LS at *
            have EQ := Lib.hid hLS
            clear hLS
            go_wp2_with fail
            (try rw [Exit.noGoto_ret])
            clear r0 r1 r2 o0 o1 o2 rf0 rf1 rf2
            have hres := HRS.out
            have r0 := cell_blk hres 0
            have r1 := cell_blk hres 1
            have r2 := cell_blk hres 2
            unfold put3 at r0 r1 r2
            simp only [List.getElem?_toArray, List.getElem?_cons_zero, List.getElem?_cons_succ] at r0 r1 r2
            exact bodyPost_ret (v := .tuple #[.agg #[.slice A1 LS.length c1, .slice A2 (List.length L) c2, .int .u64 (st : Nat)], .bool true]) (by simp [results, Try.results13, go_sem, r0, r1, r2]) rfl (show XPostG _ _ _ _ _ _ from Or.inl ⟨(h, st), A1, c1, A2, c2, L, E.out, by rw [EQ.out], by rw [EQ.out]; exact R1.out, R2.out, by rw [HMM.out]; exact HRW.out, HB9.out, HA2.out, HGE.out⟩)
          · obtain ⟨e1, t1, t2, _⟩ := tCh_may (s := st) HWO.out (HT.out.trans HLEN.out) ht
            rw [e1] at C
            have SOV := Lib.hid (fun ho => sim_over hsim ht ho)
            have SST := Lib.hid (fun ho => sim_step hsim ht ho)
            have hne1 : ¬ Rd.totR (posL n ws m) = 0 := by omega
            have hne2 : (Rd.totR (posL n ws m) == 0) = false := by simpa using hne1
            have hne3 : decide (Rd.totR (posL n ws m) = 0) = false := decide_eq_false hne1
            clear hsim ht e1 hs0 hs1
            generalize Rd.totR (posL n ws m) = tot at *
            generalize tCh n ws m st = t at *
            generalize Rd.chS st (posL n ws m) = st2 at *
            have C := Lib.hid C
            obtain ⟨f1, f2⟩ := fire_may H5.out.good t1 t2
            have CFt := CF.out wr m B cb t H5.out.low H5.out.rd H5.out.good t1
            have o2 := H5.out.o_2
            cases ho : overB n m t
            · obtain ⟨x1, x2⟩ := f1 ho
              have ea : aftR n m t = aftL n m t := by unfold aftR; rw [if_neg (by rw [ho]; decide)]
              rw [ho, ea] at CFt
              have GD : goodN n (aftL n m t) = true := by have := fire_goodN H5.out.good x1; rwa [x2] at this
              have S7 := Lib.hid (SST.out ho)
              clear f1 f2 SOV SST x1 x2 ho t2 ea
              generalize aftL n m t = m2 at *
              have GD := Lib.hid GD
              have CFt := Lib.hid CFt
              go_wp2_with fail
              refine C.out.mono ?_
              rintro e w5' ⟨rfl, rfl⟩
              go_wp2_with fail
              refine CFt.out.mono ?_
              rintro e w6 ⟨B6, c6, rfl, F6, K6⟩
              have H6 := Lib.hid (H5.out.below hgr5 K6)
              have hl6 := H6.out.len
              have hgr6 := H6.out.low.size
              have FR6 : Hid (FreshG w6 wr.heap.size B6 m2) := F6
              have OW6 : Hid (∀ b, v1.ownBlock = some b → b < wr.heap.size) := fun b e => by
                obtain ⟨_, cur, hc⟩ := own_typed H5.out.o1 e
                exact (Array.getElem?_eq_some_iff.1 hc).1
              have hm2 := good_len GD.out
              clear q0 q1 q2 o2 H5 F6 K6 CFt C
              have o0 := H6.out.o_0
              have o1 := H6.out.o_1
              have o2 := H6.out.o_2
              have fo0 := H6.out.fo 0
              have fo1 := H6.out.fo 1
              have fo2 := H6.out.fo 2
              have hob : lb + 1 < w6.heap.size := (Array.getElem?_eq_some_iff.1 H6.out.out).1
              have hLl : L.length = h.length + 1 := by
                have e := congrArg List.length H6.out.rows
                rw [rowsL_len] at e
                simpa [marks] using e
              have hsl : (seqT h).length ≤ 17592186043904 := by rw [seqT_len]; omega
              have hsL : L.length ≤ 100000 := by omega
              have hA6 : (w6.setCell ⟨lb + 1, 2, none⟩ (.int .u64 (st2 : Nat))).heap[lb + 1]? = some (resObj v1 v2 st2) := blk_set H6.out.out 2 _
              have OA : Hid (OwnI ((w6.setCell ⟨lb + 1, 2, none⟩ (.int .u64 (st2 : Nat))).alloc (.cells #[.int .i64 (t : Int)] 3)) lb v1 (seqT h)) := by
                refine OwnI.alloc (own_of H6.out.o1 fun b e => ?_) _
                obtain ⟨_, cur, hc⟩ := own_typed H6.out.o1 e
                exact Below.heap_setCell _ _ _ b (blk_ne hc H6.out.out (by decide))
              have KA : Hid (∀ g' c' w7, ((w6.setCell ⟨lb + 1, 2, none⟩ (.int .u64 (st2 : Nat))).alloc (.cells #[.int .i64 (t : Int)] 3)).grownBy w7 v1.ownBlock →
                  (w7.cell? ⟨lb + 1, 0, none⟩ = some v1 ∧ w7.frozen? ⟨lb + 1, 0, none⟩ = false) ∧ w6.heap.size + 1 ≤ w7.heap.size ∧
                  ((w7.setCell ⟨lb + 1, 0, none⟩ (.slice (some ⟨g', 0, none⟩) ((seqT h).length + 1) c')).cell? ⟨lb + 1, 1, none⟩ = some v2 ∧
                    OwnL (w7.setCell ⟨lb + 1, 0, none⟩ (.slice (some ⟨g', 0, none⟩) ((seqT h).length + 1) c')) lb v2 L ∧ FarR (w7.setCell ⟨lb + 1, 0, none⟩ (.slice (some ⟨g', 0, none⟩) ((seqT h).length + 1) c')) lb ⟨B6, m2, c6⟩)) := fun g' c' w7 hg7 => by
                obtain ⟨h1, h2, h3⟩ := ri_one H6.out st2 (t : Int) hg7
                obtain ⟨k1, k2, k3⟩ := ri_two (u1 := .slice (some ⟨g', 0, none⟩) ((seqT h).length + 1) c') (c6 := c6) H6.out (by omega) hg7 FR6.out OW6.out hm2
                exact ⟨⟨cell_blk h1 0, frozen_blk h1 0⟩, h2, cell_blk k1 1, k2, k3⟩
              have KB : Hid (∀ g' c' w7 u2 w8, ((w6.setCell ⟨lb + 1, 2, none⟩ (.int .u64 (st2 : Nat))).alloc (.cells #[.int .i64 (t : Int)] 3)).grownBy w7 v1.ownBlock →
                  OwnI w7 lb (.slice (some ⟨g', 0, none⟩) ((seqT h).length + 1) c') (seqT h ++ [(t : Int)]) → (v1.ownBlock = some g' ∨ g' = ((w6.setCell ⟨lb + 1, 2, none⟩ (.int .u64 (st2 : Nat))).alloc (.cells #[.int .i64 (t : Int)] 3)).heap.size) →
                  ((w7.setCell ⟨lb + 1, 0, none⟩ (.slice (some ⟨g', 0, none⟩) ((seqT h).length + 1) c')).alloc (.cells #[.slice B6 m2.length c6] 26)).grownBy w8 v2.ownBlock → OwnL w8 lb u2 (L ++ [⟨B6, m2, c6⟩]) →
                  (w8.cell? ⟨lb + 1, 1, none⟩ = some v2 ∧ w8.frozen? ⟨lb + 1, 1, none⟩ = false) ∧ RI n ws RR w.heap.size w w.heap.size lb (lb + 1) N m0 (i + 1) (h ++ [(t, m2)]) m2 st2 B6 (.slice (some ⟨g', 0, none⟩) ((seqT h).length + 1) c') u2 (L ++ [⟨B6, m2, c6⟩]) (w8.setCell ⟨lb + 1, 1, none⟩ u2)) := fun g' c' w7 u2 w8 hg7 ho7 hl7 hg8 ho8 => by
                obtain ⟨h1, h2⟩ := ri_next H6.out (by omega) hgl (by omega) hg7 ho7 hl7 FR6.out hgr5 OW6.out hm2 GD.out S7.out hg8 ho8
                exact ⟨⟨cell_blk h1 1, frozen_blk h1 1⟩, h2⟩
              have CN6 : Hid (((w6.setCell ⟨lb + 1, 2, none⟩ (.int .u64 (st2 : Nat))).alloc (.cells #[.int .i64 (t : Int)] 3)).cell? ⟨w6.heap.size, 0, none⟩ = some (.int .i64 (t : Int))) := by
                have := cell_new1 (w6.setCell ⟨lb + 1, 2, none⟩ (.int .u64 (st2 : Nat))) (.int .i64 (t : Int)) 3
                rw [show (w6.setCell ⟨lb + 1, 2, none⟩ (.int .u64 (st2 : Nat))).heap.size = w6.heap.size by simp] at this
                exact this
              have CN7 : Hid (∀ (w7 : World) (u : Value), ((w7.setCell ⟨lb + 1, 0, none⟩ u).alloc (.cells #[.slice B6 m2.length c6] 26)).cell? ⟨w7.heap.size, 0, none⟩ = some (.slice B6 m2.length c6)) := fun w7 u => by
                have := cell_new1 (w7.setCell ⟨lb + 1, 0, none⟩ u) (.slice B6 m2.length c6) 26
                rw [show (w7.setCell ⟨lb + 1, 0, none⟩ u).heap.size = w7.heap.size by simp] at this
                exact this
              clear hA6 FR6 OW6 GD S7 H6 hLl hl6
              go_wp2_with (first
                | (at_builtin; refine wpList_int_l rfl (.tmp 90) (.tmp 92) rfl lb v1 (seqT h) (t : Int) rfl OA.out _ rfl CN6.out hsl (by rw [World.size_alloc]; simp; omega) ?_; intro g' c' w7 hown7 hgr7 hlies7; have HO7 := Lib.hid hown7; have HG7 := Lib.hid hgr7; have HL7 := Lib.hid hlies7; clear hown7 hgr7 hlies7; obtain ⟨⟨c70, f70⟩, s7, c71, HO2, HF2⟩ := KA.out g' c' w7 HG7.out; have HO2 := Lib.hid HO2; have HF2 := Lib.hid HF2)
                | (at_builtin; refine wpList_row_g rfl (.tmp 96) (.tmp 98) rfl lb v2 L ⟨B6, m2, c6⟩ _ rfl rfl (HO2.out.alloc _) _ rfl (CN7.out _ _) (HF2.out.alloc _) hsL (by rw [World.size_alloc]; simp; omega) ?_; intro g8 c8 w8 hown8 hgr8; obtain ⟨⟨c81, f81⟩, H8⟩ := KB.out g' c' w7 _ w8 HG7.out HO7.out HL7.out hgr8 hown8; have H8 := Lib.hid H8; clear hown8 hgr8))
              go_roundw
              case rel => exact ⟨i + 1, h ++ [(t, m2)], m2, st2, B6, c6, _, _, _, by omega, by go_num, rfl, H8⟩
              case measure => simp [intOf]; omega
            · have ea : aftR n m t = [] := by unfold aftR; rw [if_pos ho]
              rw [ho, ea] at CFt
              have E := Lib.hid (SOV.out ho)
              clear f1 f2 SOV SST ho t2 ea
              have CFt := Lib.hid CFt
              go_wp2_with fail
              refine C.out.mono ?_
              rintro e w5' ⟨rfl, rfl⟩
              go_wp2_with fail
              refine CFt.out.mono ?_
              rintro e w6 ⟨B6, c6, rfl, F6, K6⟩
              have H6 := Lib.hid (H5.out.below hgr5 K6)
              clear F6 K6 CFt H5 q0 q1 q2 o2
              have r0 := H6.out.r_0
              have r1 := H6.out.r_1
              have r2 := H6.out.r_2
              have rf0 := H6.out.fr 0
              have rf1 := H6.out.fr 1
              have rf2 := H6.out.fr 2
              have HB9 : Hid (Below w.heap.size w (put3 w6 (w.heap.size + 1) (.slice none 0 0) (.slice none 0 0) (.int .u64 0))) := put3_below H6.out.low (by omega) _ _ _
              have hres : (put3 w6 (w.heap.size + 1) (.slice none 0 0) (.slice none 0 0) (.int .u64 0)).heap[w.heap.size + 1]? = some (resObj (.slice none 0 0) (.slice none 0 0) 0) := put3_blk H6.out.res (.slice none 0 0) (.slice none 0 0) 0
              have HRS := Lib.hid hres
              clear hres
              go_wp2_with fail
              (try rw [Exit.noGoto_ret])
              clear r0 r1 r2 rf0 rf1 rf2
              have hres := HRS.out
              have r0 := cell_blk hres 0
              have r1 := cell_blk hres 1
              have r2 := cell_blk hres 2
              unfold put3 at r0 r1 r2
              simp only [List.getElem?_toArray, List.getElem?_cons_zero, List.getElem?_cons_succ] at r0 r1 r2
              exact bodyPost_ret (v := .tuple #[.agg #[.slice none 0 0, .slice none 0 0, .int .u64 0], .bool false]) (by simp [results, Try.results13, go_sem, r0, r1, r2]) rfl (show XPostG _ _ _ _ _ _ from Or.inr ⟨E.out, rfl, HB9.out⟩)
    · obtain rfl : i = N := by omega
      have E : Hid (RR = some (h, st)) := sim_end (by have := H.out.sim; rwa [Nat.sub_self] at this)
      have r0 := H.out.r_0
      have r1 := H.out.r_1
      have r2 := H.out.r_2
      have rf0 := H.out.fr 0
      have rf1 := H.out.fr 1
      have rf2 := H.out.fr 2
      have o0 := H.out.o_0
      have o1 := H.out.o_1
      have o2 := H.out.o_2
      obtain ⟨A1, c1, A2, c2, e1, e2, hres, R1, R2, hrow, hbel, hA2⟩ := ri_done H.out hgz hgl
      have HA2 := Lib.hid hA2
      have HGE := Lib.hid H.out.ge
      clear hA2
      subst e1
      subst e2
      have R1 := Lib.hid R1
      have R2 := Lib.hid R2
      have HB9 := Lib.hid hbel
      have HRW := Lib.hid hrow
      have HRS := Lib.hid hres
      clear hbel hrow hres
      generalize hLS : seqT h = LS at *
      have EQ := Lib.hid hLS
      clear hLS
      go_wp2_with fail
      (try rw [Exit.noGoto_ret])
      clear r0 r1 r2 o0 o1 o2 rf0 rf1 rf2
      have hres := HRS.out
      have r0 := cell_blk hres 0
      have r1 := cell_blk hres 1
      have r2 := cell_blk hres 2
      unfold put3 at r0 r1 r2
      simp only [List.getElem?_toArray, List.getElem?_cons_zero, List.getElem?_cons_succ] at r0 r1 r2
      exact bodyPost_ret (v := .tuple #[.agg #[.slice A1 LS.length c1, .slice A2 (List.length L) c2, .int .u64 (st : Nat)], .bool true]) (by simp [results, Try.results13, go_sem, r0, r1, r2]) rfl (show XPostG _ _ _ _ _ _ from Or.inl ⟨(h, st), A1, c1, A2, c2, L, E.out, by rw [EQ.out], by rw [EQ.out]; exact R1.out, R2.out, by rw [HMM.out]; exact HRW.out, HB9.out, HA2.out, HGE.out⟩)
theorem rrun53 (n : NetV) (A : Option Addr) (ws : List Int) (c s0 : Nat) (steps : Int) (w : World) (hr : NetR w n) (hw : ReadsV w A ws) (hE : argE n ws steps = 0) :
    Calls Try.prog 13 #[.agg #[.string n.nm, .slice n.PA n.ps.length n.pc, .slice n.TA n.ts.length n.tc], .slice A ws.length c, .int .u64 (s0 : Nat), .int .i64 steps] w (XPost w.heap.size w n (simR n ws steps.toNat (initialN n) s0)) :=
  (rrun53g n A ws c s0 steps w hr hw hE).mono fun e w' h => h.imp (fun ⟨r, A1, c1, A2, c2, L, h1, h2, h3, h4, h5, h6, _⟩ => ⟨r, A1, c1, A2, c2, L, h1, h2, h3.1, h4, h5, h6⟩) id
end Go.Proofs.Ytpfkkjgklhcejaa
