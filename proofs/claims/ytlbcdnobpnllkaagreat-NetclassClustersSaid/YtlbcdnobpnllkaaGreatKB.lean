/- Classes of nets: the conditions of the program. -/
import Derived.Test.YtlbcdnobpnllkaaGreatKA
import Derived.Deep.RegionHeld3
import Derived.Deep.RegionWith
import Derived.Deep.Cut
import Derived.BigRegion
namespace Go.Proofs.YtlbcdnobpnllkaaGreat
open Go.RowKit Go.Deep

def smF (ts : List TransV) (j : Nat) : Bool := decide ((tA ts j).pre.l.length ≠ 1 ∨ (tA ts j).post.l.length ≠ 1)
theorem clos_sm (nm : ByteArray) (a1 a2 a3 : ArcsV) (prio : Int) (w : World) :
    Calls Tryz.prog 54 #[(.agg #[.string nm, .slice a1.A a1.l.length a1.c, .slice a2.A a2.l.length a2.c, .slice a3.A a3.l.length a3.c, .int .i64 prio])] w (VPost w.heap.size w (.bool (decide (a1.l.length ≠ 1 ∨ a2.l.length ≠ 1)))) := by
  generalize a1.l.length = m
  generalize a2.l.length = k
  by_cases q1 : m = 1
  · have q2 : decide (m ≠ 1 ∨ k ≠ 1) = decide (k ≠ 1) := by simp [q1]
    rw [q2]
    subst q1
    clear q2
    by_cases q3 : k = 1
    · subst q3
      go_enter Tryz.func54, Tryz.ntmps54
      go_wp2
      go_ret
      exact ⟨rfl, (Below.refl _ _).alloc (Nat.le_refl _) _⟩
    · have q4 : ((k : Int) != 1) = true := by simp; omega
      have q5 : ((k : Int) == 1) = false := by simp; omega
      have q6 : decide (k ≠ 1) = true := decide_eq_true q3
      rw [q6]
      clear q6 q3
      go_enter Tryz.func54, Tryz.ntmps54
      go_wp2
      go_ret
      exact ⟨rfl, (Below.refl _ _).alloc (Nat.le_refl _) _⟩
  · have q4 : ((m : Int) != 1) = true := by simp; omega
    have q5 : ((m : Int) == 1) = false := by simp; omega
    have q2 : decide (m ≠ 1 ∨ k ≠ 1) = true := decide_eq_true (Or.inl q1)
    rw [q2]
    clear q2 q1
    go_enter Tryz.func54, Tryz.ntmps54
    go_wp2
    go_ret
    exact ⟨rfl, (Below.refl _ _).alloc (Nat.le_refl _) _⟩

set_option maxHeartbeats 2000000 in
theorem smT_index (A : Option Addr) (l : List TransV) (c : Nat) (w : World) (hr : ReadsT w A l) (hl : l.length ≤ 1000) :
    Calls Tryz.prog 99 #[.slice A l.length c, .func (.func 54) #[] #[]] w (VPost w.heap.size w (.int .i64 (firstI (smF l) l.length 0))) := by
  have hD : ∀ k, k < l.length → (∀ j, j < k → smF l j = false) → smF l k = true → (k : Int) = firstI (smF l) l.length 0 := fun k h1 h2 h3 => (firstI_at h1 h2 h3).symm
  have hN : (∀ j, j < l.length → smF l j = false) → -1 = firstI (smF l) l.length 0 := fun h => (firstI_none h).symm
  generalize firstI (smF l) l.length 0 = S at *
  have HD := Lib.hid hD
  have HNo := Lib.hid hN
  have HR := Lib.hid hr
  clear hr hD hN
  generalize hg : w.heap.size = g at *
  have HG := Lib.hid hg
  clear hg
  generalize hn : l.length = n at *
  have HN := Lib.hid hn
  clear hn
  go_enter Tryz.func99, Tryz.ntmps99
  go_wp2
  go_loopw [8] (fun q wr => ∃ k : Nat, k ≤ n ∧ q = .int .i64 k ∧ Hid (Below g w wr) ∧ Hid (∀ j, j < k → smF l j = false)) (fun q _ => n - (intOf q).toNat)
  case atStart => exact ⟨0, by omega, rfl, Below.refl _ _, fun j hj => absurd hj (by omega)⟩
  case round =>
    obtain ⟨k, hk, rfl, HB, HM⟩ := hrel
    have HBk : Hid (∀ w2, Below wr.heap.size wr w2 → Below g w w2) := fun w2 h => HB.out.trans (h.mono (by have := HB.out.size; rw [HG.out] at this; exact this))
    by_cases hlt : k < n
    · obtain ⟨b0, off, rfl, hb0, hc0, hc1, hc2, hc3, hc4, r1, r2, r3⟩ := (HR.out.below HB.out (by rw [HG.out]; exact Nat.le_refl _)) k (by rw [HN.out]; exact hlt)
      have HT := Lib.hid (HD.out k hlt HM.out)
      have HF : Hid (smF l k = false → ∀ j, j < k + 1 → smF l j = false) := upto_snoc HM.out
      have C := clos_sm (tA l k).nm (tA l k).pre (tA l k).post (tA l k).inh (tA l k).prio wr
      clear HM
      clear r1 r2 r3
      have HQ : Hid (smF l k = decide ((tA l k).pre.l.length ≠ 1 ∨ (tA l k).post.l.length ≠ 1)) := rfl
      generalize (tA l k).nm = tn at *
      generalize (tA l k).pre = a1 at *
      generalize (tA l k).post = a2 at *
      generalize (tA l k).inh = a3 at *
      generalize (tA l k).prio = prio at *
      generalize decide (a1.l.length ≠ 1 ∨ a2.l.length ≠ 1) = t at *
      replace C := Lib.hid C
      cases t
      · have HF2 := Lib.hid (HF.out (HQ.out.trans rfl))
        go_wp2_with fail
        refine C.out.mono ?_
        rintro e w2 ⟨rfl, K⟩
        have K2 := Lib.hid (HBk.out _ K)
        clear K
        go_wp2
        go_roundw
        case rel => exact ⟨k + 1, by omega, by go_num, K2, HF2⟩
        case measure => simp [intOf]; omega
      · have HT2 := Lib.hid (HT.out (HQ.out.trans rfl))
        go_wp2_with fail
        refine C.out.mono ?_
        rintro e w2 ⟨rfl, K⟩
        have K2 := Lib.hid (HBk.out _ K)
        clear K
        go_wp2
        go_ret
        exact ⟨ret_i HT2.out, K2.out⟩
    · have E := Lib.hid (HNo.out (fun j hj => HM.out j (by omega)))
      clear HM
      go_wp2
      go_ret
      exact ⟨ret_i E.out, HB.out⟩

set_option maxHeartbeats 2000000 in
theorem smT_contains (A : Option Addr) (l : List TransV) (c : Nat) (w : World) (hr : ReadsT w A l) (hl : l.length ≤ 1000) :
    Calls Tryz.prog 53 #[.slice A l.length c, .func (.func 54) #[] #[]] w (VPost w.heap.size w (.bool (anyB (smF l) l.length))) := by
  have C := smT_index A l c w hr hl 
  unfold anyB
  generalize firstI (smF l) l.length 0 = S at *
  generalize l.length = n at *
  clear hr
  replace C := Lib.hid C
  go_enter Tryz.func53, Tryz.ntmps53
  go_wp2_with fail
  refine C.out.mono ?_
  rintro e w2 ⟨rfl, K⟩
  have K2 := Lib.hid K
  clear K
  by_cases q : 0 ≤ S
  · have q2 : decide (0 ≤ S) = true := by simpa using q
    have q3 := Lib.hid q2
    go_wp2
    go_ret
    exact ⟨ret_b q3.out.symm, K2.out⟩
  · have q2 : decide (0 ≤ S) = false := by simpa using q
    have q3 := Lib.hid q2
    go_wp2
    go_ret
    exact ⟨ret_b q3.out.symm, K2.out⟩

def smV (n : NetV) : Bool := !anyB (smF n.ts) n.ts.length
set_option maxHeartbeats 1000000 in
theorem sm1_any (n : NetV) (w : World) (hr : NetR w n) :
    Calls Tryz.prog 52 #[(.agg #[.string n.nm, .slice n.PA n.ps.length n.pc, .slice n.TA n.ts.length n.tc])] w (VPost w.heap.size w (.bool (smV n))) := by
  have C := Lib.hid (smT_contains n.TA n.ts n.tc (w.alloc (.cells #[.string n.nm, .slice n.PA n.ps.length n.pc, .slice n.TA n.ts.length n.tc] 25)) (hr.rt.below (B := w.heap.size) ((Below.refl _ _).alloc (Nat.le_refl _) _) (Nat.le_refl _)) hr.okt.1)
  have B0 : Hid (Below w.heap.size w (w.alloc (.cells #[.string n.nm, .slice n.PA n.ps.length n.pc, .slice n.TA n.ts.length n.tc] 25))) := (Below.refl _ _).alloc (Nat.le_refl _) _
  unfold smV
  clear hr
  generalize anyB (smF n.ts) n.ts.length = t at *
  go_enter Tryz.func52, Tryz.ntmps52
  go_wp2_with fail
  refine C.out.mono ?_
  rintro e w1 ⟨rfl, K⟩
  have K2 := Lib.hid (B0.out.trans (K.mono (by rw [World.size_alloc]; omega)))
  clear K
  go_wp2
  go_ret
  exact ⟨rfl, K2.out⟩
def mgF (n : NetV) (p : Nat) : Bool := decide ((producersN n p).length ≠ 1) || decide ((consumersN n p).length ≠ 1)
def mgV (n : NetV) : Bool := !anyB (mgF n) n.ps.length
set_option maxHeartbeats 4000000 in
set_option maxRecDepth 100000 in
theorem mg1_any (n : NetV) (w : World) (hr : NetR w n) :
    Calls Tryz.prog 56 #[(.agg #[.string n.nm, .slice n.PA n.ps.length n.pc, .slice n.TA n.ts.length n.tc])] w (VPost w.heap.size w (.bool (mgV n))) := by
  have hpl := hr.okp.1
  have CP := Lib.hid fun (p : Int) W (hW : Below w.heap.size w W) => producersN_any n p W (hr.below hW (Nat.le_refl _))
  have CC := Lib.hid fun (p : Int) W (hW : Below w.heap.size w W) => consumersN_any n p W (hr.below hW (Nat.le_refl _))
  have MY : Hid (∀ k, k < n.ps.length → mgF n k = true → mgV n = false) := fun k h1 h2 => by unfold mgV; rw [anyB_yes h1 h2]; rfl
  have MN : Hid ((∀ k, k < n.ps.length → mgF n k = false) → mgV n = true) := fun h => by unfold mgV; rw [anyB_no h]; rfl
  have MD : Hid (∀ k : Nat, mgF n k = (decide ((producersN n k).length ≠ 1) || decide ((consumersN n k).length ≠ 1))) := fun _ => rfl
  have B0 : Hid (Below w.heap.size w (w.alloc (.cells #[.string n.nm, .slice n.PA n.ps.length n.pc, .slice n.TA n.ts.length n.tc] 25))) := (Below.refl _ _).alloc (Nat.le_refl _) _
  have N0 : Hid (NBox (w.alloc (.cells #[.string n.nm, .slice n.PA n.ps.length n.pc, .slice n.TA n.ts.length n.tc] 25)) w.heap.size n) := NBox.new w n
  have F0 : Hid (∀ j, j < 0 → mgF n j = false) := fun j hj => absurd hj (by omega)
  clear hr
  unfold IsPost at *
  generalize mgV n = V at *
  generalize mgF n = F at *
  go_enter Tryz.func56, Tryz.ntmps56
  go_wp2_with fail
  go_loopw [7] (fun q wr => ∃ k : Nat, k ≤ n.ps.length ∧ q = .int .i64 (k : Nat) ∧ Hid (NBox wr w.heap.size n) ∧ Hid (Below w.heap.size w wr) ∧ Hid (w.heap.size < wr.heap.size) ∧ Hid (∀ j, j < k → F j = false)) (fun q _ => n.ps.length - (intOf q).toNat)
  case atStart => exact ⟨0, by omega, rfl, N0, B0, by show _ < _; simp, F0⟩
  case round =>
    clear N0 B0 F0
    obtain ⟨k, hk, rfl, NB, BB, SZ, HF⟩ := hrel
    by_cases hlt : k < n.ps.length
    · obtain ⟨c0, c1, c2⟩ := NB.out
      have MYk := Lib.hid (MY.out k hlt)
      have MDk := Lib.hid (MD.out k)
      have CPk := Lib.hid (CP.out (k : Int) wr BB.out)
      have CCk := Lib.hid (CC.out (k : Int))
      have HF2 : Hid (F k = false → ∀ j, j < k + 1 → F j = false) := fun h j hj => by
        by_cases e : j = k
        · rw [e]; exact h
        · exact HF.out j (by omega)
      have hsz := SZ.out
      clear CP CC MY MD MN HF
      generalize producersN n (k : Int) = LP at *
      generalize consumersN n (k : Int) = LC at *
      go_wp2_with fail
      refine CPk.out.mono ?_
      rintro e w1 ⟨A1, m1, rfl, R1, K1⟩
      have N1 := NB.out.below K1 hsz
      have B1 := Lib.hid (BB.out.trans (K1.mono BB.out.size))
      have S1 : Hid (w.heap.size < w1.heap.size) := Nat.lt_of_lt_of_le hsz K1.size
      clear c0 c1 c2 K1 R1 CPk
      obtain ⟨c0, c1, c2⟩ := N1
      have N1 : Hid (NBox w1 w.heap.size n) := ⟨c0, c1, c2⟩
      have hsz1 := S1.out
      by_cases h1 : LP.length = 1
      · have e1 : ((LP.length : Int) != 1) = false := by simp; omega
        have e2 : ((LP.length : Int) == 1) = true := by simp; omega
        have MDk : Hid (F k = decide (LC.length ≠ 1)) := by show _ = _; rw [MDk.out, decide_eq_false (fun h => h h1), Bool.false_or]
        have C2 := Lib.hid (CCk.out w1 B1.out)
        clear CCk h1
        go_wp2_with fail
        refine C2.out.mono ?_
        rintro e w2 ⟨A2, m2, rfl, R2, K2⟩
        have N2 := Lib.hid (N1.out.below K2 hsz1)
        have B2 := Lib.hid (B1.out.trans (K2.mono B1.out.size))
        have S2 : Hid (w.heap.size < w2.heap.size) := Nat.lt_of_lt_of_le hsz1 K2.size
        clear c0 c1 c2 K2 R2 C2
        by_cases h2 : LC.length = 1
        · have e3 : ((LC.length : Int) != 1) = false := by simp; omega
          have e4 : ((LC.length : Int) == 1) = true := by simp; omega
          have HF3 := Lib.hid (HF2.out (by rw [MDk.out]; exact decide_eq_false (fun h => h h2)))
          clear h2 MDk HF2
          go_wp2
          go_roundw
          case rel => exact ⟨k + 1, by omega, by go_num, N2, B2, S2, HF3⟩
          case measure => simp [intOf]; omega
        · have e3 : ((LC.length : Int) != 1) = true := by simp; omega
          have e4 : ((LC.length : Int) == 1) = false := by simp; omega
          have E := Lib.hid (MYk.out (by rw [MDk.out]; exact decide_eq_true h2))
          clear h2 MDk HF2
          go_wp2
          go_ret
          exact ⟨by rw [E.out]; rfl, B2.out⟩
      · have e1 : ((LP.length : Int) != 1) = true := by simp; omega
        have e2 : ((LP.length : Int) == 1) = false := by simp; omega
        have E := Lib.hid (MYk.out (by rw [MDk.out, decide_eq_true h1]; rfl))
        clear h1 MDk HF2 CCk
        go_wp2
        go_ret
        exact ⟨by rw [E.out]; rfl, B1.out⟩
    · have E := Lib.hid (MN.out fun j hj => HF.out j (by omega))
      clear MN MY MD HF CP CC
      go_wp2
      go_ret
      exact ⟨by rw [E.out]; rfl, BB.out⟩

theorem inputs_few {n : NetV} (h : OkT n.ts) (t : Int) : (inputsN n t).length ≤ 1000 := by
  unfold inputsN
  split
  · unfold targetsV; rw [List.length_map]; exact (h.2 t.toNat).2.1
  · exact Nat.zero_le _
theorem outputs_few {n : NetV} (h : OkT n.ts) (t : Int) : (outputsN n t).length ≤ 1000 := by
  unfold outputsN
  split
  · unfold targetsV; rw [List.length_map]; exact (h.2 t.toNat).2.2.1
  · exact Nat.zero_le _
def puF (n : NetV) (t : Nat) : Bool := comB (inputsN n t) (outputsN n t)
def puV (n : NetV) : Bool := !anyB (puF n) n.ts.length
set_option maxHeartbeats 4000000 in
set_option maxRecDepth 100000 in
theorem pu1_any (n : NetV) (w : World) (hr : NetR w n) :
    Calls Tryz.prog 69 #[(.agg #[.string n.nm, .slice n.PA n.ps.length n.pc, .slice n.TA n.ts.length n.tc])] w (VPost w.heap.size w (.bool (puV n))) := by
  have hpl := hr.okt.1
  have CI := Lib.hid fun (p : Int) W (hW : Below w.heap.size w W) => inputsN_any n p W (hr.below hW (Nat.le_refl _))
  have CO := Lib.hid fun (p : Int) W (hW : Below w.heap.size w W) => outputsN_any n p W (hr.below hW (Nat.le_refl _))
  have LIL := Lib.hid (inputs_few hr.okt)
  have LOL := Lib.hid (outputs_few hr.okt)
  have MY : Hid (∀ k, k < n.ts.length → puF n k = true → puV n = false) := fun k h1 h2 => by unfold puV; rw [anyB_yes h1 h2]; rfl
  have MN : Hid ((∀ k, k < n.ts.length → puF n k = false) → puV n = true) := fun h => by unfold puV; rw [anyB_no h]; rfl
  have MD : Hid (∀ k : Nat, puF n k = comB (inputsN n k) (outputsN n k)) := fun _ => rfl
  have B0 : Hid (Below w.heap.size w (w.alloc (.cells #[.string n.nm, .slice n.PA n.ps.length n.pc, .slice n.TA n.ts.length n.tc] 25))) := (Below.refl _ _).alloc (Nat.le_refl _) _
  have N0 : Hid (NBox (w.alloc (.cells #[.string n.nm, .slice n.PA n.ps.length n.pc, .slice n.TA n.ts.length n.tc] 25)) w.heap.size n) := NBox.new w n
  have F0 : Hid (∀ j, j < 0 → puF n j = false) := fun j hj => absurd hj (by omega)
  clear hr
  unfold IsPost at *
  generalize puV n = V at *
  generalize puF n = F at *
  go_enter Tryz.func69, Tryz.ntmps69
  go_wp2_with fail
  go_loopw [7] (fun q wr => ∃ k : Nat, k ≤ n.ts.length ∧ q = .int .i64 (k : Nat) ∧ Hid (NBox wr w.heap.size n) ∧ Hid (Below w.heap.size w wr) ∧ Hid (w.heap.size < wr.heap.size) ∧ Hid (∀ j, j < k → F j = false)) (fun q _ => n.ts.length - (intOf q).toNat)
  case atStart => exact ⟨0, by omega, rfl, N0, B0, by show _ < _; simp, F0⟩
  case round =>
    clear N0 B0 F0
    obtain ⟨k, hk, rfl, NB, BB, SZ, HF⟩ := hrel
    by_cases hlt : k < n.ts.length
    · obtain ⟨c0, c1, c2⟩ := NB.out
      have MYk := Lib.hid (MY.out k hlt)
      have MDk := Lib.hid (MD.out k)
      have CIk := Lib.hid (CI.out (k : Int))
      have COk := Lib.hid (CO.out (k : Int))
      have li := LIL.out (k : Int)
      have lo := LOL.out (k : Int)
      have HF2 : Hid (F k = false → ∀ j, j < k + 1 → F j = false) := fun h j hj => by
        by_cases e : j = k
        · rw [e]; exact h
        · exact HF.out j (by omega)
      clear CI CO MY MD MN HF LIL LOL
      generalize inputsN n (k : Int) = LI at *
      generalize outputsN n (k : Int) = LO at *
      have CM : Hid (∀ A3 k2 k3 W, ReadsV W A3 LO → ∀ A2, ReadsV W A2 LI → Calls Tryz.prog 70 #[.slice A2 LI.length k2, .slice A3 LO.length k3] W (VPost W.heap.size W (.bool (comB LI LO)))) := fun A3 k2 k3 W h1 A2 h2 => common_any A2 A3 LI LO k2 k3 W h2 h1 li lo
      generalize comB LI LO = t at *
      go_upto_region 10 with fail
      refine wp_region_held_drew (S := fun w' => w'.cell? ⟨w.heap.size, 0, none⟩ = some (.string n.nm) ∧ w'.cell? ⟨w.heap.size, 1, none⟩ = some (.slice n.PA n.ps.length n.pc) ∧ w'.cell? ⟨w.heap.size, 2, none⟩ = some (.slice n.TA n.ts.length n.tc) ∧ Hid (Below w.heap.size w w' ∧ w.heap.size < w'.heap.size)) (by kernel_rfl) ?_ (fun hHeld => ?_)
      · exact ⟨c0, c1, c2, BB.out.drew, SZ.out⟩
      refine wpAnyH_take (oi := ⟨_, _, _, _, _, _⟩) (i := 0) (v := ?_) rfl (by kernel_rfl) (by kernel_rfl) (by kernel_rfl) (fun _ _ _ h => h) (Or.inl ⟨by rfl, ?ypu0⟩) (by assumption) ?rpu0
      case ypu0 => (intro w hSw; (try dsimp only at hSw); go_simp; (try with_reducible rfl))
      try simp only [Act.put, List.setIfInBounds_toArray, List.set_cons_zero, List.set_cons_succ]
      refine wpAnyH_take (oi := ⟨_, _, _, _, _, _⟩) (i := 1) (v := ?_) rfl (by kernel_rfl) (by kernel_rfl) (by kernel_rfl) (fun _ _ _ h => h) (Or.inl ⟨by rfl, ?ypu1⟩) (by assumption) ?rpu1
      case ypu1 => (intro w hSw; (try dsimp only at hSw); go_simp; (try with_reducible rfl))
      try simp only [Act.put, List.setIfInBounds_toArray, List.set_cons_zero, List.set_cons_succ]
      refine wpAnyH_take (oi := ⟨_, _, _, _, _, _⟩) (i := 3) (v := ?_) rfl (by kernel_rfl) (by kernel_rfl) (by kernel_rfl) (fun _ _ _ h => h) (Or.inl ⟨by rfl, ?ypu3⟩) (by assumption) ?rpu3
      case ypu3 => (intro w hSw; (try dsimp only at hSw); go_simp; (try with_reducible rfl))
      try simp only [Act.put, List.setIfInBounds_toArray, List.set_cons_zero, List.set_cons_succ]
      refine wpAnyH_take (oi := ⟨_, _, _, _, _, _⟩) (i := 4) (v := ?_) rfl (by kernel_rfl) (by kernel_rfl) (by kernel_rfl) (fun _ _ _ h => h) (Or.inl ⟨by rfl, ?ypu4⟩) (by assumption) ?rpu4
      case ypu4 => (intro w hSw; (try dsimp only at hSw); go_simp; (try with_reducible rfl))
      try simp only [Act.put, List.setIfInBounds_toArray, List.set_cons_zero, List.set_cons_succ]
      refine wpAnyH_ready (rs := [2]) (by kernel_rfl) (by simp) ?_
      refine AllReadyH.cons (o := ⟨_, _, _, _, _, _⟩) rfl (fun K hK => ?_) AllReadyH.nil
      go_simp
      go_at_call 34; refine (CIk.out _ hHeld.2.2.2.out.1).mono ?_; rintro e w2 ⟨A2, k2, rfl, R2, L2⟩; (try go_wp2_with fail)
      refine hK.out _ _ ?_ (fun hHeld2 => ?_)
      · obtain ⟨h1, h2, h3, h4⟩ := hHeld; exact ⟨(L2.cell h4.out.2).trans h1, (L2.cell h4.out.2).trans h2, (L2.cell h4.out.2).trans h3, h4.out.1.trans (L2.mono h4.out.1.size), Nat.lt_of_lt_of_le h4.out.2 L2.size⟩
      clear hK K hHeld
      have hHeld := hHeld2
      clear hHeld2
      try simp only [Act.put, List.setIfInBounds_toArray, List.set_cons_zero, List.set_cons_succ]
      refine wpAnyH_ready (rs := [5]) (by kernel_rfl) (by simp) ?_
      refine AllReadyH.cons (o := ⟨_, _, _, _, _, _⟩) rfl (fun K hK => ?_) AllReadyH.nil
      go_simp
      go_at_call 35; refine (COk.out _ hHeld.2.2.2.out.1).mono ?_; rintro e w3 ⟨A3, k3, rfl, R3, L3⟩; (try go_wp2_with fail)
      refine hK.out _ _ ?_ (fun hHeld2 => ?_)
      · obtain ⟨h1, h2, h3, h4⟩ := hHeld; exact ⟨(L3.cell h4.out.2).trans h1, (L3.cell h4.out.2).trans h2, (L3.cell h4.out.2).trans h3, h4.out.1.trans (L3.mono h4.out.1.size), Nat.lt_of_lt_of_le h4.out.2 L3.size⟩
      clear hK K hHeld
      have hHeld := hHeld2
      clear hHeld2
      try simp only [Act.put, List.setIfInBounds_toArray, List.set_cons_zero, List.set_cons_succ]
      refine wpAnyH_ready (rs := [6]) (by kernel_rfl) (by simp) ?_
      refine AllReadyH.cons (o := ⟨_, _, _, _, _, _⟩) rfl (fun K hK => ?_) AllReadyH.nil
      go_simp
      go_at_call 70; refine (CM.out A3 k2 k3 _ R3 A2 (R2.below L3 (Nat.le_refl _))).mono ?_; rintro e w4 ⟨rfl, L4⟩; (try go_wp2_with fail)
      refine hK.out _ _ ?_ (fun hHeld2 => ?_)
      · obtain ⟨h1, h2, h3, h4⟩ := hHeld; exact ⟨(L4.cell h4.out.2).trans h1, (L4.cell h4.out.2).trans h2, (L4.cell h4.out.2).trans h3, h4.out.1.trans (L4.mono h4.out.1.size), Nat.lt_of_lt_of_le h4.out.2 L4.size⟩
      clear hK K hHeld
      have hHeld := hHeld2
      clear hHeld2
      try simp only [Act.put, List.setIfInBounds_toArray, List.set_cons_zero, List.set_cons_succ]
      refine wpAnyH_done (by kernel_rfl) ?_ _
      obtain ⟨c0, c1, c2, hB⟩ := hHeld
      have N2 : Hid (NBox w4 w.heap.size n) := ⟨c0, c1, c2⟩
      have B2 := Lib.hid hB.out.1
      have S2 := Lib.hid hB.out.2
      clear c0 c1 c2 hB R2 R3 L2 L3 L4
      cases t
      · have HF3 := Lib.hid (HF2.out MDk.out)
        clear MDk HF2
        go_wp2
        go_roundw
        case rel => exact ⟨k + 1, by omega, by go_num, N2, B2, S2, HF3⟩
        case measure => simp [intOf]; omega
      · have E := Lib.hid (MYk.out MDk.out)
        clear MDk HF2
        go_wp2
        go_ret
        exact ⟨by rw [E.out]; rfl, B2.out⟩
    · have E := Lib.hid (MN.out fun j hj => HF.out j (by omega))
      clear MN MY MD HF CI CO
      go_wp2
      go_ret
      exact ⟨by rw [E.out]; rfl, BB.out⟩
end Go.Proofs.YtlbcdnobpnllkaaGreat
