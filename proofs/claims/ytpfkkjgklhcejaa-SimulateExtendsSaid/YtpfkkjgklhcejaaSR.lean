/- Runs of a net by weights: Run. -/
import Derived.Test.YtpfkkjgklhcejaaSD
import Derived.Test.YtpfkkjgklhcejaaSE
import Derived.Deep.QuietTactic
namespace Go.Proofs.Ytpfkkjgklhcejaa
open Go.RowKit

theorem runE_one (n : NetV) (ws : List Int) (steps : Int) : runE n ws steps 1 = argE n ws steps := by
  unfold runE
  by_cases h : argE n ws steps = 0
  · rw [if_neg (by simpa using h), if_neg (by omega), h]
  · rw [if_pos h]
def runR (n : NetV) (ws : List Int) (steps : Int) (s0 : Nat) : List Int × List Int × Int :=
  if argE n ws steps ≠ 0 then ([], [], argE n ws steps) else match simR n ws steps.toNat (initialN n) s0 with
    | some r => (seqT r.1, lastM (initialN n) r.1, 0)
    | none => ([], [], 3)
theorem runR_err {n : NetV} {ws : List Int} {steps : Int} (s0 : Nat) (h : argE n ws steps ≠ 0) : runR n ws steps s0 = ([], [], argE n ws steps) := if_pos h
theorem runR_some {n : NetV} {ws : List Int} {steps : Int} {s0 : Nat} {r : Hist × Nat} (h : argE n ws steps = 0) (h2 : simR n ws steps.toNat (initialN n) s0 = some r) : runR n ws steps s0 = (seqT r.1, lastM (initialN n) r.1, 0) := by
  unfold runR
  rw [if_neg (by simpa using h), h2]
theorem runR_none {n : NetV} {ws : List Int} {steps : Int} {s0 : Nat} (h : argE n ws steps = 0) (h2 : simR n ws steps.toNat (initialN n) s0 = none) : runR n ws steps s0 = ([], [], 3) := by
  unfold runR
  rw [if_neg (by simpa using h), h2]
def RPost (g : Nat) (w : World) (r : List Int × List Int × Int) (e : Ending) (w' : World) : Prop :=
  ∃ A c B d, e = .returned (.tuple #[.slice A r.1.length c, .slice B r.2.1.length d, .int .i64 r.2.2]) ∧ ReadsV w' A r.1 ∧ ReadsV w' B r.2.1 ∧ Below g w w'

set_option maxHeartbeats 4000000 in
set_option maxRecDepth 100000 in
theorem srun_any (n : NetV) (A : Option Addr) (ws : List Int) (c s0 : Nat) (steps : Int) (w : World) (hr : NetR w n) (hw : ReadsV w A ws) (hl : ws.length ≤ 9223372036854775806) :
    Calls Try.prog 10 #[.agg #[.string n.nm, .slice n.PA n.ps.length n.pc, .slice n.TA n.ts.length n.tc], .slice A ws.length c, .int .u64 (s0 : Nat), .int .i64 steps] w (RPost w.heap.size w (runR n ws steps s0)) := by
  have CK : Hid (∀ W, Below w.heap.size w W → Calls Try.prog 23 #[.agg #[.string n.nm, .slice n.PA n.ps.length n.pc, .slice n.TA n.ts.length n.tc], .slice A ws.length c, .int .i64 steps, .int .i64 1] W (VPost W.heap.size W (.int .i64 (argE n ws steps)))) := fun W hW => by
    have := scheck_any n A ws c steps 1 W (hr.below hW (Nat.le_refl _)) (hw.below hW (Nat.le_refl _)) hl
    rw [runE_one] at this
    exact this
  have B0 : Hid (Below w.heap.size w (w.alloc (.cells #[.string n.nm, .slice n.PA n.ps.length n.pc, .slice n.TA n.ts.length n.tc] 25))) := (Below.refl _ _).alloc (Nat.le_refl _) _
  have q0 : (w.alloc (.cells #[.string n.nm, .slice n.PA n.ps.length n.pc, .slice n.TA n.ts.length n.tc] 25)).cell? ⟨w.heap.size, 0, none⟩ = some (.string n.nm) := by simp
  have q1 : (w.alloc (.cells #[.string n.nm, .slice n.PA n.ps.length n.pc, .slice n.TA n.ts.length n.tc] 25)).cell? ⟨w.heap.size, 1, none⟩ = some (.slice n.PA n.ps.length n.pc) := by simp
  have q2 : (w.alloc (.cells #[.string n.nm, .slice n.PA n.ps.length n.pc, .slice n.TA n.ts.length n.tc] 25)).cell? ⟨w.heap.size, 2, none⟩ = some (.slice n.TA n.ts.length n.tc) := by simp
  by_cases hE : argE n ws steps = 0
  rotate_left
  · rw [runR_err s0 hE]
    have hz : (argE n ws steps != 0) = true := by simpa using hE
    generalize argE n ws steps = E at *
    clear hr hw hE
    go_enter Try.func10, Try.ntmps10
    go_wp2_with fail
    refine (CK.out _ B0.out).mono ?_
    rintro e w1 ⟨rfl, K⟩
    have D1 := Lib.hid (B0.out.trans (K.mono B0.out.size))
    clear K B0 CK
    go_wp2
    go_ret3
    exact ⟨none, 0, none, 0, rfl, ReadsV.nil _ _, ReadsV.nil _ _, D1.out⟩
  · rw [hE] at CK
    have CI : Hid (∀ W, Below w.heap.size w W → Calls Try.prog 24 #[.agg #[.string n.nm, .slice n.PA n.ps.length n.pc, .slice n.TA n.ts.length n.tc]] W (IsPost W.heap.size W (initialN n))) := fun W h => initialN_any n W (hr.below h (Nat.le_refl _))
    have CP : Hid (∀ bq bl m0 B cb W, w.heap.size ≤ bq → w.heap.size ≤ bl → Boxed W bq 26 (.slice none 0 0) → Boxed W bl 26 (.slice B m0.length cb) → ReadsV W B m0 → bq ≠ bl → Below w.heap.size w W → Calls Try.prog 25 #[.agg #[.string n.nm, .slice n.PA n.ps.length n.pc, .slice n.TA n.ts.length n.tc], .slice A ws.length c, .int .u64 (s0 : Nat), .int .i64 steps, .func (.func 26) #[] #[.pointer (some ⟨bq, 0, none⟩), .pointer (some ⟨bl, 0, none⟩)]] W (PPost w.heap.size w W.heap.size (InvR w.heap.size w W.heap.size bq bl m0) (simR n ws steps.toNat (initialN n) s0))) := fun bq bl m0 B cb W h1 h2 h3 h4 hRB h5 hB =>
      perform_run n A ws c s0 steps bq bl w.heap.size w W rfl hr hw hE hB _
        (fun s W' hb => ⟨hB.trans (hb.mono hB.size), .slice none 0 0, B, cb, boxed_of h3 (hb.block _ h3.lt), World.ownsRow_nil _ _ _ _, boxed_of h4 (hb.block _ h4.lt), hRB.below hb (Nat.le_refl _), fun hn b off e => .inl (block_reads hRB hn e)⟩)
        (fun s h W' hI' => hI'.1)
        (fun s h W' W'' hI' hb => hI'.keep hI'.1.size hb)
        (fun s h W' W'' P hI' hP hPs _ hg => hI'.grow h3.lt h4.lt h1 hP hPs hg)
        (fun s h t m B cb W1 W' hI' hs hz hb hF _ _ hh => (vis_run w.heap.size w W.heap.size bq bl m0 s h t m B cb W1 W' hI' hs hz h1 h2 h3.lt h4.lt h5 hb hF hh).mono fun e w' hp => ⟨hp.1, hp.2.1, hp.2.2.1, fun k cc k1 k2 _ => hp.2.2.2.1 k k1 k2, hp.2.2.2.2⟩)
    have RS : Hid (∀ r, simR n ws steps.toNat (initialN n) s0 = some r → runR n ws steps s0 = (seqT r.1, lastM (initialN n) r.1, 0)) := fun r h => runR_some hE h
    have RN : Hid (simR n ws steps.toNat (initialN n) s0 = none → runR n ws steps s0 = ([], [], 3)) := fun h => runR_none hE h
    clear hr hw hE
    generalize simR n ws steps.toNat (initialN n) s0 = RR at *
    generalize runR n ws steps s0 = X at *
    have hgg := Nat.le_refl w.heap.size
    go_enter Try.func10, Try.ntmps10
    go_wp2_with fail
    refine (CK.out _ B0.out).mono ?_
    rintro e w1 ⟨rfl, K⟩
    have q0 := keepc q0 K
    have q1 := keepc q1 K
    have q2 := keepc q2 K
    have D1 := Lib.hid (B0.out.trans (K.mono B0.out.size))
    have s1 := D1.out.size
    clear K B0 CK
    have NB1 := Boxed.new w1 26 (.slice none 0 0)
    have D2 : Hid (Below w.heap.size w (w1.alloc (.cells #[.slice none 0 0] 26))) := D1.out.alloc s1 _
    have p0 := cellA q0 (.cells #[.slice none 0 0] 26)
    have p1 := cellA q1 (.cells #[.slice none 0 0] 26)
    have p2 := cellA q2 (.cells #[.slice none 0 0] 26)
    go_wp2_with fail
    refine (CI.out _ D2.out).mono ?_
    rintro e w3 ⟨B, cb, rfl, RB, K⟩
    have q0 := cellA (keepc p0 K) (.cells #[.slice B (initialN n).length cb] 26)
    have q1 := cellA (keepc p1 K) (.cells #[.slice B (initialN n).length cb] 26)
    have q2 := cellA (keepc p2 K) (.cells #[.slice B (initialN n).length cb] 26)
    clear p0 p1 p2
    have D3 := Lib.hid (D2.out.trans (K.mono D2.out.size))
    have NB3 := boxed_of NB1 (K.block _ NB1.lt)
    have s3 := NB3.lt
    have NB4 : Boxed (w3.alloc (.cells #[.slice B (initialN n).length cb] 26)) w1.heap.size 26 (.slice none 0 0) := NB3.alloc _
    have NB5 := Boxed.new w3 26 (.slice B (initialN n).length cb)
    have D4 : Hid (Below w.heap.size w (w3.alloc (.cells #[.slice B (initialN n).length cb] 26))) := D3.out.alloc (Nat.le_trans s1 (by omega)) _
    have C := CP.out _ _ _ _ _ _ s1 (by omega) NB4 NB5 (RB.below ((Below.refl _ _).alloc (Nat.le_refl _) _) (Nat.le_refl _)) (by omega) D4.out
    have C := Lib.hid C
    clear CP K D2 D1 NB1 NB3 NB4 NB5 RB CI D4
    generalize initialN n = m0 at *
    go_wp2_with fail
    refine C.out.mono ?_
    rintro e w5 (⟨s, r, hs, hR, rfl, hI⟩ | ⟨hR, rfl, hb⟩)
    · obtain ⟨hB, v, A2, c2, b1, o1, b2, r1, _⟩ := hI
      obtain ⟨A1, c1, e1, R1⟩ := ReadsV.own o1
      subst e1
      have ex := RS.out r hR
      subst ex
      have p1 := b1.cell
      have p2 := b2.cell
      have R1 := Lib.hid R1
      have R2 := Lib.hid r1
      have HB := Lib.hid hB
      clear b1 b2 o1 r1 hB C RS RN hR q0 q1 q2 D3
      generalize seqT r.1 = L1 at *
      generalize lastM m0 r.1 = L2 at *
      go_wp2_with fail
      (try go_quiet (fail))
      (try go_wp2)
      go_ret3
      exact ⟨A1, c1, A2, c2, rfl, R1.out, R2.out, below_drewN HB.out _⟩
    · have ex := RN.out hR
      subst ex
      have HB := Lib.hid hb
      clear C RS RN hR q0 q1 q2 D3 hb
      go_wp2
      go_ret3
      exact ⟨none, 0, none, 0, rfl, ReadsV.nil _ _, ReadsV.nil _ _, HB.out⟩
end Go.Proofs.Ytpfkkjgklhcejaa
