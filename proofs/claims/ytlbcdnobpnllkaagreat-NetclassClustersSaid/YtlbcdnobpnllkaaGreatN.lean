/- Validity, names and weights: the program and the reference. -/
import Derived.Test.YtlbcdnobpnllkaaGreatL
namespace Go.Proofs.YtlbcdnobpnllkaaGreat
open Go.RowKit

def okN (n : NetV) : Bool := decide ((chkV n).1 = 0)
def weightV (l : List (Int × Int)) (p : Int) : Int :=
  if 0 ≤ firstI (fun j => decide (aP l j = p)) l.length 0 then aW l (firstI (fun j => decide (aP l j = p)) l.length 0).toNat else 0
theorem weightV_at {l : List (Int × Int)} {p : Int} {k : Nat} (hk : k < l.length) (h : ∀ j, j < k → decide (aP l j = p) = false) (ht : aP l k = p) : weightV l p = aW l k := by
  have e := firstI_at (f := fun j => decide (aP l j = p)) hk h (by simpa using ht)
  unfold weightV
  rw [e, if_pos (by omega)]
  rfl
theorem weightV_none {l : List (Int × Int)} {p : Int} (h : ∀ j, j < l.length → decide (aP l j = p) = false) : weightV l p = 0 := by
  have e := firstI_none (f := fun j => decide (aP l j = p)) h
  unfold weightV
  rw [e, if_neg (by omega)]
def ReadsN (g : Nat) (w : World) (n : NetV) : Prop := ∀ W, Below g w W → NetR W n
theorem NetR.reads {w : World} {n : NetV} (h : NetR w n) : ReadsN w.heap.size w n := fun _ hb => h.below hb (Nat.le_refl _)
def VPost (g : Nat) (w : World) (v : Value) (e : Ending) (w' : World) : Prop := e = .returned v ∧ Below g w w'

set_option maxHeartbeats 1000000 in
theorem validN_any (n : NetV) (w : World) (hr : NetR w n) :
    Calls Tryz.prog 92 #[.agg #[.string n.nm, .slice n.PA n.ps.length n.pc, .slice n.TA n.ts.length n.tc]] w (VPost w.heap.size w (.bool (okN n))) := by
  have C := fun W (hW : Below w.heap.size w W) => check_any n W (hr.below hW (Nat.le_refl _))
  obtain ⟨nm, PA, ps, pc, TA, ts, tc⟩ := n
  have hok : okN ⟨nm, PA, ps, pc, TA, ts, tc⟩ = decide ((chkV ⟨nm, PA, ps, pc, TA, ts, tc⟩).1 = 0) := rfl
  generalize okN ⟨nm, PA, ps, pc, TA, ts, tc⟩ = S at *
  generalize chkV ⟨nm, PA, ps, pc, TA, ts, tc⟩ = cv at *
  obtain ⟨a, b⟩ := cv
  have HOK := Lib.hid hok
  clear hok hr
  replace C := Lib.hid C
  have B0 : Hid (Below w.heap.size w (w.alloc (.cells #[.string nm, .slice PA ps.length pc, .slice TA ts.length tc] 25))) := (Below.refl _ _).alloc (Nat.le_refl _) _
  have hfd : ∀ (a b : Int) (w : World), (Instr.field 47 (.agg #[.int .i64 a, .int .i64 b]) 0).run Tryz.prog w = .ok (.int .i64 a) w := fun _ _ _ => by kernel_rfl
  go_enter Tryz.func92, Tryz.ntmps92
  go_wp2_with fail
  refine (C.out _ B0.out).mono ?_
  rintro e w1 ⟨rfl, K⟩
  have K2 := Lib.hid (B0.out.trans (K.mono (by rw [World.size_alloc]; omega)))
  clear K
  by_cases z : a = 0
  · have E : Hid (true = S) := by show _ = _; rw [HOK.out]; simp [z]
    have z2 : (a == 0) = true := by simpa using z
    clear z
    go_wp2
    go_ret
    exact ⟨ret_b (by rw [← E.out]), K2.out⟩
  · have E : Hid (false = S) := by show _ = _; rw [HOK.out]; simp [z]
    have z2 : (a == 0) = false := by simpa using z
    clear z
    go_wp2
    go_ret
    exact ⟨ret_b (by rw [← E.out]), K2.out⟩

set_option maxHeartbeats 1000000 in
theorem rvalidN_any (n : NetV) (w : World) (hr : NetR w n) :
    Calls Tryz.prog 36 #[.agg #[.string n.nm, .slice n.PA n.ps.length n.pc, .slice n.TA n.ts.length n.tc]] w (VPost w.heap.size w (.bool (okN n))) := by
  have C := fun W (hW : Below w.heap.size w W) => rcheck_any n W (hr.below hW (Nat.le_refl _))
  obtain ⟨nm, PA, ps, pc, TA, ts, tc⟩ := n
  have hok : okN ⟨nm, PA, ps, pc, TA, ts, tc⟩ = decide ((chkV ⟨nm, PA, ps, pc, TA, ts, tc⟩).1 = 0) := rfl
  generalize okN ⟨nm, PA, ps, pc, TA, ts, tc⟩ = S at *
  generalize chkV ⟨nm, PA, ps, pc, TA, ts, tc⟩ = cv at *
  obtain ⟨a, b⟩ := cv
  have HOK := Lib.hid hok
  clear hok hr
  replace C := Lib.hid C
  have B0 : Hid (Below w.heap.size w (w.alloc (.cells #[.string nm, .slice PA ps.length pc, .slice TA ts.length tc] 25))) := (Below.refl _ _).alloc (Nat.le_refl _) _
  have hfd : ∀ (a b : Int) (w : World), (Instr.field 47 (.agg #[.int .i64 a, .int .i64 b]) 0).run Tryz.prog w = .ok (.int .i64 a) w := fun _ _ _ => by kernel_rfl
  go_enter Tryz.func36, Tryz.ntmps36
  go_wp2_with fail
  refine (C.out _ B0.out).mono ?_
  rintro e w1 ⟨rfl, K⟩
  have K2 := Lib.hid (B0.out.trans (K.mono (by rw [World.size_alloc]; omega)))
  clear K
  by_cases z : a = 0
  · have E : Hid (true = S) := by show _ = _; rw [HOK.out]; simp [z]
    have z2 : (a == 0) = true := by simpa using z
    clear z
    go_wp2
    go_ret
    exact ⟨ret_b (by rw [← E.out]), K2.out⟩
  · have E : Hid (false = S) := by show _ = _; rw [HOK.out]; simp [z]
    have z2 : (a == 0) = false := by simpa using z
    clear z
    go_wp2
    go_ret
    exact ⟨ret_b (by rw [← E.out]), K2.out⟩
end Go.Proofs.YtlbcdnobpnllkaaGreat
