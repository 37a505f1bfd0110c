/- Classes of nets: the properties of the program. -/
import Derived.Test.YtlbcdnobpnllkaaGreatKE
namespace Go.Proofs.YtlbcdnobpnllkaaGreat
open Go.RowKit Go.Deep

def nodN (n : NetV) : Nat := n.ps.length + n.ts.length
def conV (n : NetV) : Bool := Dg.allB (Dg.reachL (undV (flowV n) (nodN n)) (nodN n) [0])
def strV (n : NetV) : Bool := !anyB (fun j => !decide (at0 (Dg.tab (nodN n) fun v => (Dg.cmpV (flowV n) (nodN n) v : Int)) j = 0)) (nodN n)
theorem row_readsV {w : World} {T n : Nat} {f : Nat → Int} (h : w.rowIs T 3 n (fun j => .int .i64 (f j))) : ReadsV w (some ⟨T, 0, none⟩) (Dg.tab n f) := fun j hj => by
  rw [Dg.tab_len] at hj
  have h2 := Dg.tab_at n f j hj
  exact ⟨T, 0, rfl, h.lt, by rw [Nat.zero_add, h.cell hj]; exact congrArg (fun z => some (Value.int .i64 z)) h2.symm⟩
set_option maxHeartbeats 4000000 in
set_option maxRecDepth 100000 in
theorem con1_any (n : NetV) (w : World) (hr : NetR w n) (hok : okN n = true) :
    Calls Tryz.prog 40 #[(.agg #[.string n.nm, .slice n.PA n.ps.length n.pc, .slice n.TA n.ts.length n.tc])] w (VPost w.heap.size w (.bool (conV n))) := by
  have hpl := hr.okp.1
  have htl := hr.okt.1
  have B0 : Hid (Below w.heap.size w (w.alloc (.cells #[.string n.nm, .slice n.PA n.ps.length n.pc, .slice n.TA n.ts.length n.tc] 25))) := (Below.refl _ _).alloc (Nat.le_refl _) _
  have CF := Lib.hid (flow_any n (w.alloc (.cells #[.string n.nm, .slice n.PA n.ps.length n.pc, .slice n.TA n.ts.length n.tc] 25)) (hr.below (B := w.heap.size) ((Below.refl _ _).alloc (Nat.le_refl _) _) (Nat.le_refl _)))
  have FF := Lib.hid (flow_few hr.okt)
  have CV : Hid (conV n = Dg.allB (Dg.reachL (undV (flowV n) (n.ps.length + n.ts.length)) (n.ps.length + n.ts.length) [0])) := rfl
  clear hr
  unfold FlowPost at CF
  generalize conV n = V at *
  obtain ⟨N, hN⟩ : ∃ N, N = n.ps.length + n.ts.length := ⟨_, rfl⟩
  rw [← hN] at CF CV
  have hN2 : N ≤ 1000 := by have := okN_parts hok; omega
  generalize flowV n = fv at *
  clear hN
  go_enter Tryz.func40, Tryz.ntmps40
  go_wp2_with fail
  refine CF.out.mono ?_
  rintro e w1 (⟨h1, _⟩ | ⟨_, T, vs, rfl, M1, K1⟩)
  · rw [hok] at h1; cases h1
  have B1 := Lib.hid (B0.out.trans (K1.mono (by rw [World.size_alloc]; omega)))
  have CU := Lib.hid (und_any T (T + 1) N fv vs w1 M1 hN2 fun v _ => by have := FF.out v; omega)
  clear M1 K1 CF
  go_wp2_with fail
  refine CU.out.mono ?_
  rintro e w2 ⟨T2, vs2, rfl, M2, K2⟩
  have B2 := Lib.hid (B1.out.trans (K2.mono B1.out.size))
  have UF : Hid (∀ v, (undV fv N v).length ≤ 1000000) := fun v => by
    unfold undV
    rw [List.length_append]
    have h1 : (Dg.revV fv N v).length ≤ N := Dg.pickI_len _ _
    have := FF.out v
    omega
  obtain ⟨RA, RK, GR⟩ := grow_graph' (M2.below ((Below.refl w2.heap.size w2).alloc (Nat.le_refl _) (.cells #[.int .i64 0] 3))) (by omega) fun v _ => UF.out v
  have CR := Lib.hid (Dg.reach_any (some ⟨T2, 0, none⟩) N N RA (undV fv N) RK (some ⟨w2.heap.size, 0, none⟩) [0] 1 _ GR (fun j hj => ⟨w2.heap.size, 0, rfl, by simp, by
    have : j = 0 := by simp at hj; omega
    subst this
    simp [Dg.at0]⟩) (by simp))
  have B3 : Hid (Below w.heap.size w (w2.alloc (.cells #[.int .i64 0] 3))) := B2.out.alloc B2.out.size _
  clear M2 K2 CU GR UF
  generalize Dg.reachL (undV fv N) N [0] = RL at *
  go_wp2_with fail
  refine CR.out.mono ?_
  rintro e w4 ⟨A4, c4, rfl, R4, hl4, K4⟩
  have B4 := Lib.hid (B3.out.trans (K4.mono B3.out.size))
  have CC := Lib.hid (Dg.contains_bool A4 RL c4 w4 R4 (by omega))
  rw [hl4] at CC
  clear R4 K4 CR
  generalize Dg.allB RL = t at *
  go_wp2_with fail
  refine CC.out.mono ?_
  rintro e w5 ⟨rfl, rfl⟩
  go_wp2
  go_ret
  refine ⟨?_, B4.out⟩
  rw [CV.out]
  cases t <;> rfl
set_option maxHeartbeats 4000000 in
set_option maxRecDepth 100000 in
theorem str1_any (n : NetV) (w : World) (hr : NetR w n) (hok : okN n = true) :
    Calls Tryz.prog 46 #[(.agg #[.string n.nm, .slice n.PA n.ps.length n.pc, .slice n.TA n.ts.length n.tc])] w (VPost w.heap.size w (.bool (strV n))) := by
  have B0 : Hid (Below w.heap.size w (w.alloc (.cells #[.string n.nm, .slice n.PA n.ps.length n.pc, .slice n.TA n.ts.length n.tc] 25))) := (Below.refl _ _).alloc (Nat.le_refl _) _
  have CF := Lib.hid (flow_any n (w.alloc (.cells #[.string n.nm, .slice n.PA n.ps.length n.pc, .slice n.TA n.ts.length n.tc] 25)) (hr.below (B := w.heap.size) ((Below.refl _ _).alloc (Nat.le_refl _) _) (Nat.le_refl _)))
  have FF := Lib.hid (flow_few hr.okt)
  have hpl := hr.okp.1
  have htl := hr.okt.1
  have CV : Hid (strV n = !anyB (fun j => !decide (at0 (Dg.tab (n.ps.length + n.ts.length) fun v => (Dg.cmpV (flowV n) (n.ps.length + n.ts.length) v : Int)) j = 0)) (n.ps.length + n.ts.length)) := rfl
  clear hr
  unfold FlowPost at CF
  generalize strV n = V at *
  obtain ⟨N, hN⟩ : ∃ N, N = n.ps.length + n.ts.length := ⟨_, rfl⟩
  rw [← hN] at CF CV
  have hN2 : N ≤ 1000 := by have := okN_parts hok; omega
  generalize flowV n = fv at *
  clear hN
  go_enter Tryz.func46, Tryz.ntmps46
  go_wp2_with fail
  refine CF.out.mono ?_
  rintro e w1 (⟨h1, _⟩ | ⟨_, T, vs, rfl, M1, K1⟩)
  · rw [hok] at h1; cases h1
  have B1 := Lib.hid (B0.out.trans (K1.mono (by rw [World.size_alloc]; omega)))
  obtain ⟨RA, RK, GR⟩ := grow_graph M1 (by omega) fun v _ => by have := FF.out v; omega
  have CC := Lib.hid (Dg.components_any (some ⟨T, 0, none⟩) N N RA fv RK w1 GR)
  clear M1 K1 CF GR
  go_wp2_with fail
  refine CC.out.mono ?_
  rintro e w2 ⟨rfl, M2, K2⟩
  have B2 := Lib.hid (B1.out.trans (K2.mono B1.out.size))
  have CL := Lib.hid (lead_contains (some ⟨w1.heap.size, 0, none⟩) _ N w2 (row_readsV M2) (by rw [Dg.tab_len]; exact hN2))
  rw [Dg.tab_len] at CL
  clear M2 K2 CC
  generalize anyB (fun j => !decide (at0 (Dg.tab N fun v => (Dg.cmpV fv N v : Int)) j = 0)) N = t at *
  go_wp2_with fail
  refine CL.out.mono ?_
  rintro e w3 ⟨rfl, K3⟩
  have B3 := Lib.hid (B2.out.trans (K3.mono B2.out.size))
  clear K3 CL
  go_wp2
  go_ret
  exact ⟨by rw [CV.out]; rfl, B3.out⟩

set_option maxHeartbeats 4000000 in
set_option maxRecDepth 100000 in
theorem sat_sm_any (n : NetV) (b : Nat) (w : World) (hr : NetR w n) (q0 : w.cell? ⟨b, 0, none⟩ = some (.func (.func 50) #[] #[])) (q1 : w.cell? ⟨b, 1, none⟩ = some (.func (.func 51) #[] #[])) (q2 : w.cell? ⟨b, 2, none⟩ = some (.func (.func 52) #[] #[])) :
    Calls Tryz.prog 39 #[(.agg #[.string n.nm, .slice n.PA n.ps.length n.pc, .slice n.TA n.ts.length n.tc]), .slice (some ⟨b, 0, none⟩) 3 3] w (VPost w.heap.size w (.bool (okN n && plainN n && ordinaryN n && smV n))) := by
  have hb : b < w.heap.size := World.block_lt_of_cell? w ⟨b, 0, none⟩ q0
  have C := fun W (hW : Below w.heap.size w W) => check_any n W (hr.below hW (Nat.le_refl _))
  have hok : okN n = decide ((chkV n).1 = 0) := rfl
  have hfd : ∀ (a b : Int) (w : World), (Instr.field 47 (.agg #[.int .i64 a, .int .i64 b]) 0).run Tryz.prog w = .ok (.int .i64 a) w := fun _ _ _ => by kernel_rfl
  have B0 : Hid (Below w.heap.size w (w.alloc (.cells #[.string n.nm, .slice n.PA n.ps.length n.pc, .slice n.TA n.ts.length n.tc] 25))) := (Below.refl _ _).alloc (Nat.le_refl _) _
  have N0 : Hid (NBox (w.alloc (.cells #[.string n.nm, .slice n.PA n.ps.length n.pc, .slice n.TA n.ts.length n.tc] 25)) w.heap.size n) := NBox.new w n
  have C0 : Hid (okN n = true → ∀ W, Below w.heap.size w W → Calls Tryz.prog 50 #[(.agg #[.string n.nm, .slice n.PA n.ps.length n.pc, .slice n.TA n.ts.length n.tc])] W (VPost W.heap.size W (.bool (plainN n)))) := fun hk W hW => plainN_any n W (hr.below hW (Nat.le_refl _))
  have Q0 : Hid (∀ W, Below w.heap.size w W → W.cell? ⟨b, 0, none⟩ = some (.func (.func 50) #[] #[])) := fun W hW => (hW.cell (by exact hb)).trans q0
  have C1 : Hid (okN n = true → ∀ W, Below w.heap.size w W → Calls Tryz.prog 51 #[(.agg #[.string n.nm, .slice n.PA n.ps.length n.pc, .slice n.TA n.ts.length n.tc])] W (VPost W.heap.size W (.bool (ordinaryN n)))) := fun hk W hW => ordinaryN_any n W (hr.below hW (Nat.le_refl _))
  have Q1 : Hid (∀ W, Below w.heap.size w W → W.cell? ⟨b, 1, none⟩ = some (.func (.func 51) #[] #[])) := fun W hW => (hW.cell (by exact hb)).trans q1
  have C2 : Hid (okN n = true → ∀ W, Below w.heap.size w W → Calls Tryz.prog 52 #[(.agg #[.string n.nm, .slice n.PA n.ps.length n.pc, .slice n.TA n.ts.length n.tc])] W (VPost W.heap.size W (.bool (smV n)))) := fun hk W hW => sm1_any n W (hr.below hW (Nat.le_refl _))
  have Q2 : Hid (∀ W, Below w.heap.size w W → W.cell? ⟨b, 2, none⟩ = some (.func (.func 52) #[] #[])) := fun W hW => (hW.cell (by exact hb)).trans q2
  generalize chkV n = cv at *
  obtain ⟨a, d⟩ := cv
  try dsimp only at hok
  replace C := Lib.hid C
  clear hr q0 q1 q2
  generalize plainN n = p0 at *
  generalize ordinaryN n = p1 at *
  generalize smV n = p2 at *
  by_cases z : a = 0
  case neg =>
    have E : Hid (okN n = false) := by show _ = _; rw [hok]; simp [z]
    have z2 : (a == 0) = false := by simpa using z
    have z3 : (a != 0) = true := by simpa using z
    clear z hok
    go_enter Tryz.func39, Tryz.ntmps39
    go_wp2_with fail
    refine (C.out _ B0.out).mono ?_
    rintro e w1 ⟨rfl, K⟩
    have K2 := Lib.hid (B0.out.trans (K.mono (by rw [World.size_alloc]; omega)))
    clear K
    go_wp2
    go_ret
    exact ⟨by rw [E.out]; rfl, K2.out⟩
  have E : Hid (okN n = true) := by show _ = _; rw [hok]; simp [z]
  have z2 : (a == 0) = true := by simpa using z
  have z3 : (a != 0) = false := by simpa using z
  replace C0 := Lib.hid (C0.out E.out)
  replace C1 := Lib.hid (C1.out E.out)
  replace C2 := Lib.hid (C2.out E.out)
  have HE : Hid ((okN n && p0 && p1 && p2) = (true && p0 && p1 && p2)) := by show _ = _; rw [E.out]
  rw [HE.out]
  clear z hok
  go_enter Tryz.func39, Tryz.ntmps39
  go_wp2_with fail
  refine (C.out _ B0.out).mono ?_
  rintro e w1 ⟨rfl, K⟩
  have B1 := Lib.hid (B0.out.trans (K.mono (by rw [World.size_alloc]; omega)))
  have N1 := Lib.hid (N0.out.below K (by simp))
  have S1 : Hid (w.heap.size < w1.heap.size) := by have := K.size; rw [World.size_alloc] at this; show _ < _; omega
  clear K C B0 N0
  have d0 := Q0.out _ B1.out
  obtain ⟨c0, c1, c2⟩ := N1.out
  go_wp2_with fail
  refine wp_loop_rounds 4 ?_
  rw [rounds_succ]
  go_wp2_with fail
  refine (C0.out _ B1.out).mono ?_
  rintro e w2 ⟨rfl, K⟩
  have B2 := Lib.hid (B1.out.trans (K.mono B1.out.size))
  have N2 := Lib.hid (N1.out.below K S1.out)
  have S2 : Hid (w.heap.size < w2.heap.size) := Nat.lt_of_lt_of_le S1.out K.size
  clear K c0 c1 c2 d0 N1
  cases p0
  · go_wp2
    go_ret
    exact ⟨rfl, B2.out⟩
  have d1 := Q1.out _ B2.out
  obtain ⟨c0, c1, c2⟩ := N2.out
  go_wp2_with fail
  rw [rounds_succ]
  go_wp2_with fail
  refine (C1.out _ B2.out).mono ?_
  rintro e w3 ⟨rfl, K⟩
  have B3 := Lib.hid (B2.out.trans (K.mono B2.out.size))
  have N3 := Lib.hid (N2.out.below K S2.out)
  have S3 : Hid (w.heap.size < w3.heap.size) := Nat.lt_of_lt_of_le S2.out K.size
  clear K c0 c1 c2 d1 N2
  cases p1
  · go_wp2
    go_ret
    exact ⟨rfl, B3.out⟩
  have d2 := Q2.out _ B3.out
  obtain ⟨c0, c1, c2⟩ := N3.out
  go_wp2_with fail
  rw [rounds_succ]
  go_wp2_with fail
  refine (C2.out _ B3.out).mono ?_
  rintro e w4 ⟨rfl, K⟩
  have B4 := Lib.hid (B3.out.trans (K.mono B3.out.size))
  have N4 := Lib.hid (N3.out.below K S3.out)
  have S4 : Hid (w.heap.size < w4.heap.size) := Nat.lt_of_lt_of_le S3.out K.size
  clear K c0 c1 c2 d2 N3
  cases p2
  · go_wp2
    go_ret
    exact ⟨rfl, B4.out⟩
  obtain ⟨c0, c1, c2⟩ := N4.out
  go_wp2_with fail
  rw [rounds_succ]
  go_wp2_with fail
  go_ret
  exact ⟨rfl, B4.out⟩

def smN (n : NetV) : Bool := okN n && plainN n && ordinaryN n && smV n
set_option maxHeartbeats 2000000 in
set_option maxRecDepth 100000 in
theorem smN_any (n : NetV) (w : World) (hr : NetR w n) :
    Calls Tryz.prog 16 #[(.agg #[.string n.nm, .slice n.PA n.ps.length n.pc, .slice n.TA n.ts.length n.tc])] w (VPost w.heap.size w (.bool (smN n))) := by
  have W2 : Below w.heap.size w ((w.alloc (.cells #[.string n.nm, .slice n.PA n.ps.length n.pc, .slice n.TA n.ts.length n.tc] 25)).alloc (.cells #[.func (.func 50) #[] #[], .func (.func 51) #[] #[], .func (.func 52) #[] #[]] 32)) := ((Below.refl _ _).alloc (Nat.le_refl _) _).alloc (by simp) _
  have CS := Lib.hid (sat_sm_any n (w.heap.size + 1) ((w.alloc (.cells #[.string n.nm, .slice n.PA n.ps.length n.pc, .slice n.TA n.ts.length n.tc] 25)).alloc (.cells #[.func (.func 50) #[] #[], .func (.func 51) #[] #[], .func (.func 52) #[] #[]] 32)) (hr.below W2 (Nat.le_refl _)) (by simp) (by simp) (by simp))
  have W2 := Lib.hid W2
  unfold smN
  clear hr
  generalize (okN n && plainN n && ordinaryN n && smV n) = t at *
  go_enter Tryz.func16, Tryz.ntmps16
  go_wp2_with fail
  refine CS.out.mono ?_
  rintro e w1 ⟨rfl, K⟩
  have K2 := Lib.hid (W2.out.trans (K.mono (by simp; omega)))
  clear K
  go_wp2
  go_ret
  exact ⟨rfl, K2.out⟩

set_option maxHeartbeats 4000000 in
set_option maxRecDepth 100000 in
theorem sat_mg_any (n : NetV) (b : Nat) (w : World) (hr : NetR w n) (q0 : w.cell? ⟨b, 0, none⟩ = some (.func (.func 50) #[] #[])) (q1 : w.cell? ⟨b, 1, none⟩ = some (.func (.func 51) #[] #[])) (q2 : w.cell? ⟨b, 2, none⟩ = some (.func (.func 56) #[] #[])) :
    Calls Tryz.prog 39 #[(.agg #[.string n.nm, .slice n.PA n.ps.length n.pc, .slice n.TA n.ts.length n.tc]), .slice (some ⟨b, 0, none⟩) 3 3] w (VPost w.heap.size w (.bool (okN n && plainN n && ordinaryN n && mgV n))) := by
  have hb : b < w.heap.size := World.block_lt_of_cell? w ⟨b, 0, none⟩ q0
  have C := fun W (hW : Below w.heap.size w W) => check_any n W (hr.below hW (Nat.le_refl _))
  have hok : okN n = decide ((chkV n).1 = 0) := rfl
  have hfd : ∀ (a b : Int) (w : World), (Instr.field 47 (.agg #[.int .i64 a, .int .i64 b]) 0).run Tryz.prog w = .ok (.int .i64 a) w := fun _ _ _ => by kernel_rfl
  have B0 : Hid (Below w.heap.size w (w.alloc (.cells #[.string n.nm, .slice n.PA n.ps.length n.pc, .slice n.TA n.ts.length n.tc] 25))) := (Below.refl _ _).alloc (Nat.le_refl _) _
  have N0 : Hid (NBox (w.alloc (.cells #[.string n.nm, .slice n.PA n.ps.length n.pc, .slice n.TA n.ts.length n.tc] 25)) w.heap.size n) := NBox.new w n
  have C0 : Hid (okN n = true → ∀ W, Below w.heap.size w W → Calls Tryz.prog 50 #[(.agg #[.string n.nm, .slice n.PA n.ps.length n.pc, .slice n.TA n.ts.length n.tc])] W (VPost W.heap.size W (.bool (plainN n)))) := fun hk W hW => plainN_any n W (hr.below hW (Nat.le_refl _))
  have Q0 : Hid (∀ W, Below w.heap.size w W → W.cell? ⟨b, 0, none⟩ = some (.func (.func 50) #[] #[])) := fun W hW => (hW.cell (by exact hb)).trans q0
  have C1 : Hid (okN n = true → ∀ W, Below w.heap.size w W → Calls Tryz.prog 51 #[(.agg #[.string n.nm, .slice n.PA n.ps.length n.pc, .slice n.TA n.ts.length n.tc])] W (VPost W.heap.size W (.bool (ordinaryN n)))) := fun hk W hW => ordinaryN_any n W (hr.below hW (Nat.le_refl _))
  have Q1 : Hid (∀ W, Below w.heap.size w W → W.cell? ⟨b, 1, none⟩ = some (.func (.func 51) #[] #[])) := fun W hW => (hW.cell (by exact hb)).trans q1
  have C2 : Hid (okN n = true → ∀ W, Below w.heap.size w W → Calls Tryz.prog 56 #[(.agg #[.string n.nm, .slice n.PA n.ps.length n.pc, .slice n.TA n.ts.length n.tc])] W (VPost W.heap.size W (.bool (mgV n)))) := fun hk W hW => mg1_any n W (hr.below hW (Nat.le_refl _))
  have Q2 : Hid (∀ W, Below w.heap.size w W → W.cell? ⟨b, 2, none⟩ = some (.func (.func 56) #[] #[])) := fun W hW => (hW.cell (by exact hb)).trans q2
  generalize chkV n = cv at *
  obtain ⟨a, d⟩ := cv
  try dsimp only at hok
  replace C := Lib.hid C
  clear hr q0 q1 q2
  generalize plainN n = p0 at *
  generalize ordinaryN n = p1 at *
  generalize mgV n = p2 at *
  by_cases z : a = 0
  case neg =>
    have E : Hid (okN n = false) := by show _ = _; rw [hok]; simp [z]
    have z2 : (a == 0) = false := by simpa using z
    have z3 : (a != 0) = true := by simpa using z
    clear z hok
    go_enter Tryz.func39, Tryz.ntmps39
    go_wp2_with fail
    refine (C.out _ B0.out).mono ?_
    rintro e w1 ⟨rfl, K⟩
    have K2 := Lib.hid (B0.out.trans (K.mono (by rw [World.size_alloc]; omega)))
    clear K
    go_wp2
    go_ret
    exact ⟨by rw [E.out]; rfl, K2.out⟩
  have E : Hid (okN n = true) := by show _ = _; rw [hok]; simp [z]
  have z2 : (a == 0) = true := by simpa using z
  have z3 : (a != 0) = false := by simpa using z
  replace C0 := Lib.hid (C0.out E.out)
  replace C1 := Lib.hid (C1.out E.out)
  replace C2 := Lib.hid (C2.out E.out)
  have HE : Hid ((okN n && p0 && p1 && p2) = (true && p0 && p1 && p2)) := by show _ = _; rw [E.out]
  rw [HE.out]
  clear z hok
  go_enter Tryz.func39, Tryz.ntmps39
  go_wp2_with fail
  refine (C.out _ B0.out).mono ?_
  rintro e w1 ⟨rfl, K⟩
  have B1 := Lib.hid (B0.out.trans (K.mono (by rw [World.size_alloc]; omega)))
  have N1 := Lib.hid (N0.out.below K (by simp))
  have S1 : Hid (w.heap.size < w1.heap.size) := by have := K.size; rw [World.size_alloc] at this; show _ < _; omega
  clear K C B0 N0
  have d0 := Q0.out _ B1.out
  obtain ⟨c0, c1, c2⟩ := N1.out
  go_wp2_with fail
  refine wp_loop_rounds 4 ?_
  rw [rounds_succ]
  go_wp2_with fail
  refine (C0.out _ B1.out).mono ?_
  rintro e w2 ⟨rfl, K⟩
  have B2 := Lib.hid (B1.out.trans (K.mono B1.out.size))
  have N2 := Lib.hid (N1.out.below K S1.out)
  have S2 : Hid (w.heap.size < w2.heap.size) := Nat.lt_of_lt_of_le S1.out K.size
  clear K c0 c1 c2 d0 N1
  cases p0
  · go_wp2
    go_ret
    exact ⟨rfl, B2.out⟩
  have d1 := Q1.out _ B2.out
  obtain ⟨c0, c1, c2⟩ := N2.out
  go_wp2_with fail
  rw [rounds_succ]
  go_wp2_with fail
  refine (C1.out _ B2.out).mono ?_
  rintro e w3 ⟨rfl, K⟩
  have B3 := Lib.hid (B2.out.trans (K.mono B2.out.size))
  have N3 := Lib.hid (N2.out.below K S2.out)
  have S3 : Hid (w.heap.size < w3.heap.size) := Nat.lt_of_lt_of_le S2.out K.size
  clear K c0 c1 c2 d1 N2
  cases p1
  · go_wp2
    go_ret
    exact ⟨rfl, B3.out⟩
  have d2 := Q2.out _ B3.out
  obtain ⟨c0, c1, c2⟩ := N3.out
  go_wp2_with fail
  rw [rounds_succ]
  go_wp2_with fail
  refine (C2.out _ B3.out).mono ?_
  rintro e w4 ⟨rfl, K⟩
  have B4 := Lib.hid (B3.out.trans (K.mono B3.out.size))
  have N4 := Lib.hid (N3.out.below K S3.out)
  have S4 : Hid (w.heap.size < w4.heap.size) := Nat.lt_of_lt_of_le S3.out K.size
  clear K c0 c1 c2 d2 N3
  cases p2
  · go_wp2
    go_ret
    exact ⟨rfl, B4.out⟩
  obtain ⟨c0, c1, c2⟩ := N4.out
  go_wp2_with fail
  rw [rounds_succ]
  go_wp2_with fail
  go_ret
  exact ⟨rfl, B4.out⟩

def mgN (n : NetV) : Bool := okN n && plainN n && ordinaryN n && mgV n
set_option maxHeartbeats 2000000 in
set_option maxRecDepth 100000 in
theorem mgN_any (n : NetV) (w : World) (hr : NetR w n) :
    Calls Tryz.prog 18 #[(.agg #[.string n.nm, .slice n.PA n.ps.length n.pc, .slice n.TA n.ts.length n.tc])] w (VPost w.heap.size w (.bool (mgN n))) := by
  have W2 : Below w.heap.size w ((w.alloc (.cells #[.string n.nm, .slice n.PA n.ps.length n.pc, .slice n.TA n.ts.length n.tc] 25)).alloc (.cells #[.func (.func 50) #[] #[], .func (.func 51) #[] #[], .func (.func 56) #[] #[]] 32)) := ((Below.refl _ _).alloc (Nat.le_refl _) _).alloc (by simp) _
  have CS := Lib.hid (sat_mg_any n (w.heap.size + 1) ((w.alloc (.cells #[.string n.nm, .slice n.PA n.ps.length n.pc, .slice n.TA n.ts.length n.tc] 25)).alloc (.cells #[.func (.func 50) #[] #[], .func (.func 51) #[] #[], .func (.func 56) #[] #[]] 32)) (hr.below W2 (Nat.le_refl _)) (by simp) (by simp) (by simp))
  have W2 := Lib.hid W2
  unfold mgN
  clear hr
  generalize (okN n && plainN n && ordinaryN n && mgV n) = t at *
  go_enter Tryz.func18, Tryz.ntmps18
  go_wp2_with fail
  refine CS.out.mono ?_
  rintro e w1 ⟨rfl, K⟩
  have K2 := Lib.hid (W2.out.trans (K.mono (by simp; omega)))
  clear K
  go_wp2
  go_ret
  exact ⟨rfl, K2.out⟩

set_option maxHeartbeats 4000000 in
set_option maxRecDepth 100000 in
theorem sat_fc_any (n : NetV) (b : Nat) (w : World) (hr : NetR w n) (q0 : w.cell? ⟨b, 0, none⟩ = some (.func (.func 50) #[] #[])) (q1 : w.cell? ⟨b, 1, none⟩ = some (.func (.func 51) #[] #[])) (q2 : w.cell? ⟨b, 2, none⟩ = some (.func (.func 61) #[] #[])) :
    Calls Tryz.prog 39 #[(.agg #[.string n.nm, .slice n.PA n.ps.length n.pc, .slice n.TA n.ts.length n.tc]), .slice (some ⟨b, 0, none⟩) 3 3] w (VPost w.heap.size w (.bool (okN n && plainN n && ordinaryN n && relV n eqL))) := by
  have hb : b < w.heap.size := World.block_lt_of_cell? w ⟨b, 0, none⟩ q0
  have C := fun W (hW : Below w.heap.size w W) => check_any n W (hr.below hW (Nat.le_refl _))
  have hok : okN n = decide ((chkV n).1 = 0) := rfl
  have hfd : ∀ (a b : Int) (w : World), (Instr.field 47 (.agg #[.int .i64 a, .int .i64 b]) 0).run Tryz.prog w = .ok (.int .i64 a) w := fun _ _ _ => by kernel_rfl
  have B0 : Hid (Below w.heap.size w (w.alloc (.cells #[.string n.nm, .slice n.PA n.ps.length n.pc, .slice n.TA n.ts.length n.tc] 25))) := (Below.refl _ _).alloc (Nat.le_refl _) _
  have N0 : Hid (NBox (w.alloc (.cells #[.string n.nm, .slice n.PA n.ps.length n.pc, .slice n.TA n.ts.length n.tc] 25)) w.heap.size n) := NBox.new w n
  have C0 : Hid (okN n = true → ∀ W, Below w.heap.size w W → Calls Tryz.prog 50 #[(.agg #[.string n.nm, .slice n.PA n.ps.length n.pc, .slice n.TA n.ts.length n.tc])] W (VPost W.heap.size W (.bool (plainN n)))) := fun hk W hW => plainN_any n W (hr.below hW (Nat.le_refl _))
  have Q0 : Hid (∀ W, Below w.heap.size w W → W.cell? ⟨b, 0, none⟩ = some (.func (.func 50) #[] #[])) := fun W hW => (hW.cell (by exact hb)).trans q0
  have C1 : Hid (okN n = true → ∀ W, Below w.heap.size w W → Calls Tryz.prog 51 #[(.agg #[.string n.nm, .slice n.PA n.ps.length n.pc, .slice n.TA n.ts.length n.tc])] W (VPost W.heap.size W (.bool (ordinaryN n)))) := fun hk W hW => ordinaryN_any n W (hr.below hW (Nat.le_refl _))
  have Q1 : Hid (∀ W, Below w.heap.size w W → W.cell? ⟨b, 1, none⟩ = some (.func (.func 51) #[] #[])) := fun W hW => (hW.cell (by exact hb)).trans q1
  have C2 : Hid (okN n = true → ∀ W, Below w.heap.size w W → Calls Tryz.prog 61 #[(.agg #[.string n.nm, .slice n.PA n.ps.length n.pc, .slice n.TA n.ts.length n.tc])] W (VPost W.heap.size W (.bool (relV n eqL)))) := fun hk W hW => fc1_any n W (hr.below hW (Nat.le_refl _))
  have Q2 : Hid (∀ W, Below w.heap.size w W → W.cell? ⟨b, 2, none⟩ = some (.func (.func 61) #[] #[])) := fun W hW => (hW.cell (by exact hb)).trans q2
  generalize chkV n = cv at *
  obtain ⟨a, d⟩ := cv
  try dsimp only at hok
  replace C := Lib.hid C
  clear hr q0 q1 q2
  generalize plainN n = p0 at *
  generalize ordinaryN n = p1 at *
  generalize relV n eqL = p2 at *
  by_cases z : a = 0
  case neg =>
    have E : Hid (okN n = false) := by show _ = _; rw [hok]; simp [z]
    have z2 : (a == 0) = false := by simpa using z
    have z3 : (a != 0) = true := by simpa using z
    clear z hok
    go_enter Tryz.func39, Tryz.ntmps39
    go_wp2_with fail
    refine (C.out _ B0.out).mono ?_
    rintro e w1 ⟨rfl, K⟩
    have K2 := Lib.hid (B0.out.trans (K.mono (by rw [World.size_alloc]; omega)))
    clear K
    go_wp2
    go_ret
    exact ⟨by rw [E.out]; rfl, K2.out⟩
  have E : Hid (okN n = true) := by show _ = _; rw [hok]; simp [z]
  have z2 : (a == 0) = true := by simpa using z
  have z3 : (a != 0) = false := by simpa using z
  replace C0 := Lib.hid (C0.out E.out)
  replace C1 := Lib.hid (C1.out E.out)
  replace C2 := Lib.hid (C2.out E.out)
  have HE : Hid ((okN n && p0 && p1 && p2) = (true && p0 && p1 && p2)) := by show _ = _; rw [E.out]
  rw [HE.out]
  clear z hok
  go_enter Tryz.func39, Tryz.ntmps39
  go_wp2_with fail
  refine (C.out _ B0.out).mono ?_
  rintro e w1 ⟨rfl, K⟩
  have B1 := Lib.hid (B0.out.trans (K.mono (by rw [World.size_alloc]; omega)))
  have N1 := Lib.hid (N0.out.below K (by simp))
  have S1 : Hid (w.heap.size < w1.heap.size) := by have := K.size; rw [World.size_alloc] at this; show _ < _; omega
  clear K C B0 N0
  have d0 := Q0.out _ B1.out
  obtain ⟨c0, c1, c2⟩ := N1.out
  go_wp2_with fail
  refine wp_loop_rounds 4 ?_
  rw [rounds_succ]
  go_wp2_with fail
  refine (C0.out _ B1.out).mono ?_
  rintro e w2 ⟨rfl, K⟩
  have B2 := Lib.hid (B1.out.trans (K.mono B1.out.size))
  have N2 := Lib.hid (N1.out.below K S1.out)
  have S2 : Hid (w.heap.size < w2.heap.size) := Nat.lt_of_lt_of_le S1.out K.size
  clear K c0 c1 c2 d0 N1
  cases p0
  · go_wp2
    go_ret
    exact ⟨rfl, B2.out⟩
  have d1 := Q1.out _ B2.out
  obtain ⟨c0, c1, c2⟩ := N2.out
  go_wp2_with fail
  rw [rounds_succ]
  go_wp2_with fail
  refine (C1.out _ B2.out).mono ?_
  rintro e w3 ⟨rfl, K⟩
  have B3 := Lib.hid (B2.out.trans (K.mono B2.out.size))
  have N3 := Lib.hid (N2.out.below K S2.out)
  have S3 : Hid (w.heap.size < w3.heap.size) := Nat.lt_of_lt_of_le S2.out K.size
  clear K c0 c1 c2 d1 N2
  cases p1
  · go_wp2
    go_ret
    exact ⟨rfl, B3.out⟩
  have d2 := Q2.out _ B3.out
  obtain ⟨c0, c1, c2⟩ := N3.out
  go_wp2_with fail
  rw [rounds_succ]
  go_wp2_with fail
  refine (C2.out _ B3.out).mono ?_
  rintro e w4 ⟨rfl, K⟩
  have B4 := Lib.hid (B3.out.trans (K.mono B3.out.size))
  have N4 := Lib.hid (N3.out.below K S3.out)
  have S4 : Hid (w.heap.size < w4.heap.size) := Nat.lt_of_lt_of_le S3.out K.size
  clear K c0 c1 c2 d2 N3
  cases p2
  · go_wp2
    go_ret
    exact ⟨rfl, B4.out⟩
  obtain ⟨c0, c1, c2⟩ := N4.out
  go_wp2_with fail
  rw [rounds_succ]
  go_wp2_with fail
  go_ret
  exact ⟨rfl, B4.out⟩

def fcN (n : NetV) : Bool := okN n && plainN n && ordinaryN n && relV n eqL
set_option maxHeartbeats 2000000 in
set_option maxRecDepth 100000 in
theorem fcN_any (n : NetV) (w : World) (hr : NetR w n) :
    Calls Tryz.prog 20 #[(.agg #[.string n.nm, .slice n.PA n.ps.length n.pc, .slice n.TA n.ts.length n.tc])] w (VPost w.heap.size w (.bool (fcN n))) := by
  have W2 : Below w.heap.size w ((w.alloc (.cells #[.string n.nm, .slice n.PA n.ps.length n.pc, .slice n.TA n.ts.length n.tc] 25)).alloc (.cells #[.func (.func 50) #[] #[], .func (.func 51) #[] #[], .func (.func 61) #[] #[]] 32)) := ((Below.refl _ _).alloc (Nat.le_refl _) _).alloc (by simp) _
  have CS := Lib.hid (sat_fc_any n (w.heap.size + 1) ((w.alloc (.cells #[.string n.nm, .slice n.PA n.ps.length n.pc, .slice n.TA n.ts.length n.tc] 25)).alloc (.cells #[.func (.func 50) #[] #[], .func (.func 51) #[] #[], .func (.func 61) #[] #[]] 32)) (hr.below W2 (Nat.le_refl _)) (by simp) (by simp) (by simp))
  have W2 := Lib.hid W2
  unfold fcN
  clear hr
  generalize (okN n && plainN n && ordinaryN n && relV n eqL) = t at *
  go_enter Tryz.func20, Tryz.ntmps20
  go_wp2_with fail
  refine CS.out.mono ?_
  rintro e w1 ⟨rfl, K⟩
  have K2 := Lib.hid (W2.out.trans (K.mono (by simp; omega)))
  clear K
  go_wp2
  go_ret
  exact ⟨rfl, K2.out⟩

set_option maxHeartbeats 4000000 in
set_option maxRecDepth 100000 in
theorem sat_as_any (n : NetV) (b : Nat) (w : World) (hr : NetR w n) (q0 : w.cell? ⟨b, 0, none⟩ = some (.func (.func 50) #[] #[])) (q1 : w.cell? ⟨b, 1, none⟩ = some (.func (.func 51) #[] #[])) (q2 : w.cell? ⟨b, 2, none⟩ = some (.func (.func 66) #[] #[])) :
    Calls Tryz.prog 39 #[(.agg #[.string n.nm, .slice n.PA n.ps.length n.pc, .slice n.TA n.ts.length n.tc]), .slice (some ⟨b, 0, none⟩) 3 3] w (VPost w.heap.size w (.bool (okN n && plainN n && ordinaryN n && relV n asR))) := by
  have hb : b < w.heap.size := World.block_lt_of_cell? w ⟨b, 0, none⟩ q0
  have C := fun W (hW : Below w.heap.size w W) => check_any n W (hr.below hW (Nat.le_refl _))
  have hok : okN n = decide ((chkV n).1 = 0) := rfl
  have hfd : ∀ (a b : Int) (w : World), (Instr.field 47 (.agg #[.int .i64 a, .int .i64 b]) 0).run Tryz.prog w = .ok (.int .i64 a) w := fun _ _ _ => by kernel_rfl
  have B0 : Hid (Below w.heap.size w (w.alloc (.cells #[.string n.nm, .slice n.PA n.ps.length n.pc, .slice n.TA n.ts.length n.tc] 25))) := (Below.refl _ _).alloc (Nat.le_refl _) _
  have N0 : Hid (NBox (w.alloc (.cells #[.string n.nm, .slice n.PA n.ps.length n.pc, .slice n.TA n.ts.length n.tc] 25)) w.heap.size n) := NBox.new w n
  have C0 : Hid (okN n = true → ∀ W, Below w.heap.size w W → Calls Tryz.prog 50 #[(.agg #[.string n.nm, .slice n.PA n.ps.length n.pc, .slice n.TA n.ts.length n.tc])] W (VPost W.heap.size W (.bool (plainN n)))) := fun hk W hW => plainN_any n W (hr.below hW (Nat.le_refl _))
  have Q0 : Hid (∀ W, Below w.heap.size w W → W.cell? ⟨b, 0, none⟩ = some (.func (.func 50) #[] #[])) := fun W hW => (hW.cell (by exact hb)).trans q0
  have C1 : Hid (okN n = true → ∀ W, Below w.heap.size w W → Calls Tryz.prog 51 #[(.agg #[.string n.nm, .slice n.PA n.ps.length n.pc, .slice n.TA n.ts.length n.tc])] W (VPost W.heap.size W (.bool (ordinaryN n)))) := fun hk W hW => ordinaryN_any n W (hr.below hW (Nat.le_refl _))
  have Q1 : Hid (∀ W, Below w.heap.size w W → W.cell? ⟨b, 1, none⟩ = some (.func (.func 51) #[] #[])) := fun W hW => (hW.cell (by exact hb)).trans q1
  have C2 : Hid (okN n = true → ∀ W, Below w.heap.size w W → Calls Tryz.prog 66 #[(.agg #[.string n.nm, .slice n.PA n.ps.length n.pc, .slice n.TA n.ts.length n.tc])] W (VPost W.heap.size W (.bool (relV n asR)))) := fun hk W hW => as1_any n W (hr.below hW (Nat.le_refl _))
  have Q2 : Hid (∀ W, Below w.heap.size w W → W.cell? ⟨b, 2, none⟩ = some (.func (.func 66) #[] #[])) := fun W hW => (hW.cell (by exact hb)).trans q2
  generalize chkV n = cv at *
  obtain ⟨a, d⟩ := cv
  try dsimp only at hok
  replace C := Lib.hid C
  clear hr q0 q1 q2
  generalize plainN n = p0 at *
  generalize ordinaryN n = p1 at *
  generalize relV n asR = p2 at *
  by_cases z : a = 0
  case neg =>
    have E : Hid (okN n = false) := by show _ = _; rw [hok]; simp [z]
    have z2 : (a == 0) = false := by simpa using z
    have z3 : (a != 0) = true := by simpa using z
    clear z hok
    go_enter Tryz.func39, Tryz.ntmps39
    go_wp2_with fail
    refine (C.out _ B0.out).mono ?_
    rintro e w1 ⟨rfl, K⟩
    have K2 := Lib.hid (B0.out.trans (K.mono (by rw [World.size_alloc]; omega)))
    clear K
    go_wp2
    go_ret
    exact ⟨by rw [E.out]; rfl, K2.out⟩
  have E : Hid (okN n = true) := by show _ = _; rw [hok]; simp [z]
  have z2 : (a == 0) = true := by simpa using z
  have z3 : (a != 0) = false := by simpa using z
  replace C0 := Lib.hid (C0.out E.out)
  replace C1 := Lib.hid (C1.out E.out)
  replace C2 := Lib.hid (C2.out E.out)
  have HE : Hid ((okN n && p0 && p1 && p2) = (true && p0 && p1 && p2)) := by show _ = _; rw [E.out]
  rw [HE.out]
  clear z hok
  go_enter Tryz.func39, Tryz.ntmps39
  go_wp2_with fail
  refine (C.out _ B0.out).mono ?_
  rintro e w1 ⟨rfl, K⟩
  have B1 := Lib.hid (B0.out.trans (K.mono (by rw [World.size_alloc]; omega)))
  have N1 := Lib.hid (N0.out.below K (by simp))
  have S1 : Hid (w.heap.size < w1.heap.size) := by have := K.size; rw [World.size_alloc] at this; show _ < _; omega
  clear K C B0 N0
  have d0 := Q0.out _ B1.out
  obtain ⟨c0, c1, c2⟩ := N1.out
  go_wp2_with fail
  refine wp_loop_rounds 4 ?_
  rw [rounds_succ]
  go_wp2_with fail
  refine (C0.out _ B1.out).mono ?_
  rintro e w2 ⟨rfl, K⟩
  have B2 := Lib.hid (B1.out.trans (K.mono B1.out.size))
  have N2 := Lib.hid (N1.out.below K S1.out)
  have S2 : Hid (w.heap.size < w2.heap.size) := Nat.lt_of_lt_of_le S1.out K.size
  clear K c0 c1 c2 d0 N1
  cases p0
  · go_wp2
    go_ret
    exact ⟨rfl, B2.out⟩
  have d1 := Q1.out _ B2.out
  obtain ⟨c0, c1, c2⟩ := N2.out
  go_wp2_with fail
  rw [rounds_succ]
  go_wp2_with fail
  refine (C1.out _ B2.out).mono ?_
  rintro e w3 ⟨rfl, K⟩
  have B3 := Lib.hid (B2.out.trans (K.mono B2.out.size))
  have N3 := Lib.hid (N2.out.below K S2.out)
  have S3 : Hid (w.heap.size < w3.heap.size) := Nat.lt_of_lt_of_le S2.out K.size
  clear K c0 c1 c2 d1 N2
  cases p1
  · go_wp2
    go_ret
    exact ⟨rfl, B3.out⟩
  have d2 := Q2.out _ B3.out
  obtain ⟨c0, c1, c2⟩ := N3.out
  go_wp2_with fail
  rw [rounds_succ]
  go_wp2_with fail
  refine (C2.out _ B3.out).mono ?_
  rintro e w4 ⟨rfl, K⟩
  have B4 := Lib.hid (B3.out.trans (K.mono B3.out.size))
  have N4 := Lib.hid (N3.out.below K S3.out)
  have S4 : Hid (w.heap.size < w4.heap.size) := Nat.lt_of_lt_of_le S3.out K.size
  clear K c0 c1 c2 d2 N3
  cases p2
  · go_wp2
    go_ret
    exact ⟨rfl, B4.out⟩
  obtain ⟨c0, c1, c2⟩ := N4.out
  go_wp2_with fail
  rw [rounds_succ]
  go_wp2_with fail
  go_ret
  exact ⟨rfl, B4.out⟩

def asN (n : NetV) : Bool := okN n && plainN n && ordinaryN n && relV n asR
set_option maxHeartbeats 2000000 in
set_option maxRecDepth 100000 in
theorem asN_any (n : NetV) (w : World) (hr : NetR w n) :
    Calls Tryz.prog 22 #[(.agg #[.string n.nm, .slice n.PA n.ps.length n.pc, .slice n.TA n.ts.length n.tc])] w (VPost w.heap.size w (.bool (asN n))) := by
  have W2 : Below w.heap.size w ((w.alloc (.cells #[.string n.nm, .slice n.PA n.ps.length n.pc, .slice n.TA n.ts.length n.tc] 25)).alloc (.cells #[.func (.func 50) #[] #[], .func (.func 51) #[] #[], .func (.func 66) #[] #[]] 32)) := ((Below.refl _ _).alloc (Nat.le_refl _) _).alloc (by simp) _
  have CS := Lib.hid (sat_as_any n (w.heap.size + 1) ((w.alloc (.cells #[.string n.nm, .slice n.PA n.ps.length n.pc, .slice n.TA n.ts.length n.tc] 25)).alloc (.cells #[.func (.func 50) #[] #[], .func (.func 51) #[] #[], .func (.func 66) #[] #[]] 32)) (hr.below W2 (Nat.le_refl _)) (by simp) (by simp) (by simp))
  have W2 := Lib.hid W2
  unfold asN
  clear hr
  generalize (okN n && plainN n && ordinaryN n && relV n asR) = t at *
  go_enter Tryz.func22, Tryz.ntmps22
  go_wp2_with fail
  refine CS.out.mono ?_
  rintro e w1 ⟨rfl, K⟩
  have K2 := Lib.hid (W2.out.trans (K.mono (by simp; omega)))
  clear K
  go_wp2
  go_ret
  exact ⟨rfl, K2.out⟩

set_option maxHeartbeats 4000000 in
set_option maxRecDepth 100000 in
theorem sat_pu_any (n : NetV) (b : Nat) (w : World) (hr : NetR w n) (q0 : w.cell? ⟨b, 0, none⟩ = some (.func (.func 69) #[] #[])) :
    Calls Tryz.prog 39 #[(.agg #[.string n.nm, .slice n.PA n.ps.length n.pc, .slice n.TA n.ts.length n.tc]), .slice (some ⟨b, 0, none⟩) 1 1] w (VPost w.heap.size w (.bool (okN n && puV n))) := by
  have hb : b < w.heap.size := World.block_lt_of_cell? w ⟨b, 0, none⟩ q0
  have C := fun W (hW : Below w.heap.size w W) => check_any n W (hr.below hW (Nat.le_refl _))
  have hok : okN n = decide ((chkV n).1 = 0) := rfl
  have hfd : ∀ (a b : Int) (w : World), (Instr.field 47 (.agg #[.int .i64 a, .int .i64 b]) 0).run Tryz.prog w = .ok (.int .i64 a) w := fun _ _ _ => by kernel_rfl
  have B0 : Hid (Below w.heap.size w (w.alloc (.cells #[.string n.nm, .slice n.PA n.ps.length n.pc, .slice n.TA n.ts.length n.tc] 25))) := (Below.refl _ _).alloc (Nat.le_refl _) _
  have N0 : Hid (NBox (w.alloc (.cells #[.string n.nm, .slice n.PA n.ps.length n.pc, .slice n.TA n.ts.length n.tc] 25)) w.heap.size n) := NBox.new w n
  have C0 : Hid (okN n = true → ∀ W, Below w.heap.size w W → Calls Tryz.prog 69 #[(.agg #[.string n.nm, .slice n.PA n.ps.length n.pc, .slice n.TA n.ts.length n.tc])] W (VPost W.heap.size W (.bool (puV n)))) := fun hk W hW => pu1_any n W (hr.below hW (Nat.le_refl _))
  have Q0 : Hid (∀ W, Below w.heap.size w W → W.cell? ⟨b, 0, none⟩ = some (.func (.func 69) #[] #[])) := fun W hW => (hW.cell (by exact hb)).trans q0
  generalize chkV n = cv at *
  obtain ⟨a, d⟩ := cv
  try dsimp only at hok
  replace C := Lib.hid C
  clear hr q0
  generalize puV n = p0 at *
  by_cases z : a = 0
  case neg =>
    have E : Hid (okN n = false) := by show _ = _; rw [hok]; simp [z]
    have z2 : (a == 0) = false := by simpa using z
    have z3 : (a != 0) = true := by simpa using z
    clear z hok
    go_enter Tryz.func39, Tryz.ntmps39
    go_wp2_with fail
    refine (C.out _ B0.out).mono ?_
    rintro e w1 ⟨rfl, K⟩
    have K2 := Lib.hid (B0.out.trans (K.mono (by rw [World.size_alloc]; omega)))
    clear K
    go_wp2
    go_ret
    exact ⟨by rw [E.out]; rfl, K2.out⟩
  have E : Hid (okN n = true) := by show _ = _; rw [hok]; simp [z]
  have z2 : (a == 0) = true := by simpa using z
  have z3 : (a != 0) = false := by simpa using z
  replace C0 := Lib.hid (C0.out E.out)
  have HE : Hid ((okN n && p0) = (true && p0)) := by show _ = _; rw [E.out]
  rw [HE.out]
  clear z hok
  go_enter Tryz.func39, Tryz.ntmps39
  go_wp2_with fail
  refine (C.out _ B0.out).mono ?_
  rintro e w1 ⟨rfl, K⟩
  have B1 := Lib.hid (B0.out.trans (K.mono (by rw [World.size_alloc]; omega)))
  have N1 := Lib.hid (N0.out.below K (by simp))
  have S1 : Hid (w.heap.size < w1.heap.size) := by have := K.size; rw [World.size_alloc] at this; show _ < _; omega
  clear K C B0 N0
  have d0 := Q0.out _ B1.out
  obtain ⟨c0, c1, c2⟩ := N1.out
  go_wp2_with fail
  refine wp_loop_rounds 2 ?_
  rw [rounds_succ]
  go_wp2_with fail
  refine (C0.out _ B1.out).mono ?_
  rintro e w2 ⟨rfl, K⟩
  have B2 := Lib.hid (B1.out.trans (K.mono B1.out.size))
  have N2 := Lib.hid (N1.out.below K S1.out)
  have S2 : Hid (w.heap.size < w2.heap.size) := Nat.lt_of_lt_of_le S1.out K.size
  clear K c0 c1 c2 d0 N1
  cases p0
  · go_wp2
    go_ret
    exact ⟨rfl, B2.out⟩
  obtain ⟨c0, c1, c2⟩ := N2.out
  go_wp2_with fail
  rw [rounds_succ]
  go_wp2_with fail
  go_ret
  exact ⟨rfl, B2.out⟩

def puN (n : NetV) : Bool := okN n && puV n
set_option maxHeartbeats 2000000 in
set_option maxRecDepth 100000 in
theorem puN_any (n : NetV) (w : World) (hr : NetR w n) :
    Calls Tryz.prog 24 #[(.agg #[.string n.nm, .slice n.PA n.ps.length n.pc, .slice n.TA n.ts.length n.tc])] w (VPost w.heap.size w (.bool (puN n))) := by
  have W2 : Below w.heap.size w ((w.alloc (.cells #[.string n.nm, .slice n.PA n.ps.length n.pc, .slice n.TA n.ts.length n.tc] 25)).alloc (.cells #[.func (.func 69) #[] #[]] 32)) := ((Below.refl _ _).alloc (Nat.le_refl _) _).alloc (by simp) _
  have CS := Lib.hid (sat_pu_any n (w.heap.size + 1) ((w.alloc (.cells #[.string n.nm, .slice n.PA n.ps.length n.pc, .slice n.TA n.ts.length n.tc] 25)).alloc (.cells #[.func (.func 69) #[] #[]] 32)) (hr.below W2 (Nat.le_refl _)) (by simp))
  have W2 := Lib.hid W2
  unfold puN
  clear hr
  generalize (okN n && puV n) = t at *
  go_enter Tryz.func24, Tryz.ntmps24
  go_wp2_with fail
  refine CS.out.mono ?_
  rintro e w1 ⟨rfl, K⟩
  have K2 := Lib.hid (W2.out.trans (K.mono (by simp; omega)))
  clear K
  go_wp2
  go_ret
  exact ⟨rfl, K2.out⟩

set_option maxHeartbeats 4000000 in
set_option maxRecDepth 100000 in
theorem sat_co_any (n : NetV) (b : Nat) (w : World) (hr : NetR w n) (q0 : w.cell? ⟨b, 0, none⟩ = some (.func (.func 40) #[] #[])) :
    Calls Tryz.prog 39 #[(.agg #[.string n.nm, .slice n.PA n.ps.length n.pc, .slice n.TA n.ts.length n.tc]), .slice (some ⟨b, 0, none⟩) 1 1] w (VPost w.heap.size w (.bool (okN n && conV n))) := by
  have hb : b < w.heap.size := World.block_lt_of_cell? w ⟨b, 0, none⟩ q0
  have C := fun W (hW : Below w.heap.size w W) => check_any n W (hr.below hW (Nat.le_refl _))
  have hok : okN n = decide ((chkV n).1 = 0) := rfl
  have hfd : ∀ (a b : Int) (w : World), (Instr.field 47 (.agg #[.int .i64 a, .int .i64 b]) 0).run Tryz.prog w = .ok (.int .i64 a) w := fun _ _ _ => by kernel_rfl
  have B0 : Hid (Below w.heap.size w (w.alloc (.cells #[.string n.nm, .slice n.PA n.ps.length n.pc, .slice n.TA n.ts.length n.tc] 25))) := (Below.refl _ _).alloc (Nat.le_refl _) _
  have N0 : Hid (NBox (w.alloc (.cells #[.string n.nm, .slice n.PA n.ps.length n.pc, .slice n.TA n.ts.length n.tc] 25)) w.heap.size n) := NBox.new w n
  have C0 : Hid (okN n = true → ∀ W, Below w.heap.size w W → Calls Tryz.prog 40 #[(.agg #[.string n.nm, .slice n.PA n.ps.length n.pc, .slice n.TA n.ts.length n.tc])] W (VPost W.heap.size W (.bool (conV n)))) := fun hk W hW => con1_any n W (hr.below hW (Nat.le_refl _)) hk
  have Q0 : Hid (∀ W, Below w.heap.size w W → W.cell? ⟨b, 0, none⟩ = some (.func (.func 40) #[] #[])) := fun W hW => (hW.cell (by exact hb)).trans q0
  generalize chkV n = cv at *
  obtain ⟨a, d⟩ := cv
  try dsimp only at hok
  replace C := Lib.hid C
  clear hr q0
  generalize conV n = p0 at *
  by_cases z : a = 0
  case neg =>
    have E : Hid (okN n = false) := by show _ = _; rw [hok]; simp [z]
    have z2 : (a == 0) = false := by simpa using z
    have z3 : (a != 0) = true := by simpa using z
    clear z hok
    go_enter Tryz.func39, Tryz.ntmps39
    go_wp2_with fail
    refine (C.out _ B0.out).mono ?_
    rintro e w1 ⟨rfl, K⟩
    have K2 := Lib.hid (B0.out.trans (K.mono (by rw [World.size_alloc]; omega)))
    clear K
    go_wp2
    go_ret
    exact ⟨by rw [E.out]; rfl, K2.out⟩
  have E : Hid (okN n = true) := by show _ = _; rw [hok]; simp [z]
  have z2 : (a == 0) = true := by simpa using z
  have z3 : (a != 0) = false := by simpa using z
  replace C0 := Lib.hid (C0.out E.out)
  have HE : Hid ((okN n && p0) = (true && p0)) := by show _ = _; rw [E.out]
  rw [HE.out]
  clear z hok
  go_enter Tryz.func39, Tryz.ntmps39
  go_wp2_with fail
  refine (C.out _ B0.out).mono ?_
  rintro e w1 ⟨rfl, K⟩
  have B1 := Lib.hid (B0.out.trans (K.mono (by rw [World.size_alloc]; omega)))
  have N1 := Lib.hid (N0.out.below K (by simp))
  have S1 : Hid (w.heap.size < w1.heap.size) := by have := K.size; rw [World.size_alloc] at this; show _ < _; omega
  clear K C B0 N0
  have d0 := Q0.out _ B1.out
  obtain ⟨c0, c1, c2⟩ := N1.out
  go_wp2_with fail
  refine wp_loop_rounds 2 ?_
  rw [rounds_succ]
  go_wp2_with fail
  refine (C0.out _ B1.out).mono ?_
  rintro e w2 ⟨rfl, K⟩
  have B2 := Lib.hid (B1.out.trans (K.mono B1.out.size))
  have N2 := Lib.hid (N1.out.below K S1.out)
  have S2 : Hid (w.heap.size < w2.heap.size) := Nat.lt_of_lt_of_le S1.out K.size
  clear K c0 c1 c2 d0 N1
  cases p0
  · go_wp2
    go_ret
    exact ⟨rfl, B2.out⟩
  obtain ⟨c0, c1, c2⟩ := N2.out
  go_wp2_with fail
  rw [rounds_succ]
  go_wp2_with fail
  go_ret
  exact ⟨rfl, B2.out⟩

def coN (n : NetV) : Bool := okN n && conV n
set_option maxHeartbeats 2000000 in
set_option maxRecDepth 100000 in
theorem coN_any (n : NetV) (w : World) (hr : NetR w n) :
    Calls Tryz.prog 12 #[(.agg #[.string n.nm, .slice n.PA n.ps.length n.pc, .slice n.TA n.ts.length n.tc])] w (VPost w.heap.size w (.bool (coN n))) := by
  have W2 : Below w.heap.size w ((w.alloc (.cells #[.string n.nm, .slice n.PA n.ps.length n.pc, .slice n.TA n.ts.length n.tc] 25)).alloc (.cells #[.func (.func 40) #[] #[]] 32)) := ((Below.refl _ _).alloc (Nat.le_refl _) _).alloc (by simp) _
  have CS := Lib.hid (sat_co_any n (w.heap.size + 1) ((w.alloc (.cells #[.string n.nm, .slice n.PA n.ps.length n.pc, .slice n.TA n.ts.length n.tc] 25)).alloc (.cells #[.func (.func 40) #[] #[]] 32)) (hr.below W2 (Nat.le_refl _)) (by simp))
  have W2 := Lib.hid W2
  unfold coN
  clear hr
  generalize (okN n && conV n) = t at *
  go_enter Tryz.func12, Tryz.ntmps12
  go_wp2_with fail
  refine CS.out.mono ?_
  rintro e w1 ⟨rfl, K⟩
  have K2 := Lib.hid (W2.out.trans (K.mono (by simp; omega)))
  clear K
  go_wp2
  go_ret
  exact ⟨rfl, K2.out⟩

set_option maxHeartbeats 4000000 in
set_option maxRecDepth 100000 in
theorem sat_st_any (n : NetV) (b : Nat) (w : World) (hr : NetR w n) (q0 : w.cell? ⟨b, 0, none⟩ = some (.func (.func 46) #[] #[])) :
    Calls Tryz.prog 39 #[(.agg #[.string n.nm, .slice n.PA n.ps.length n.pc, .slice n.TA n.ts.length n.tc]), .slice (some ⟨b, 0, none⟩) 1 1] w (VPost w.heap.size w (.bool (okN n && strV n))) := by
  have hb : b < w.heap.size := World.block_lt_of_cell? w ⟨b, 0, none⟩ q0
  have C := fun W (hW : Below w.heap.size w W) => check_any n W (hr.below hW (Nat.le_refl _))
  have hok : okN n = decide ((chkV n).1 = 0) := rfl
  have hfd : ∀ (a b : Int) (w : World), (Instr.field 47 (.agg #[.int .i64 a, .int .i64 b]) 0).run Tryz.prog w = .ok (.int .i64 a) w := fun _ _ _ => by kernel_rfl
  have B0 : Hid (Below w.heap.size w (w.alloc (.cells #[.string n.nm, .slice n.PA n.ps.length n.pc, .slice n.TA n.ts.length n.tc] 25))) := (Below.refl _ _).alloc (Nat.le_refl _) _
  have N0 : Hid (NBox (w.alloc (.cells #[.string n.nm, .slice n.PA n.ps.length n.pc, .slice n.TA n.ts.length n.tc] 25)) w.heap.size n) := NBox.new w n
  have C0 : Hid (okN n = true → ∀ W, Below w.heap.size w W → Calls Tryz.prog 46 #[(.agg #[.string n.nm, .slice n.PA n.ps.length n.pc, .slice n.TA n.ts.length n.tc])] W (VPost W.heap.size W (.bool (strV n)))) := fun hk W hW => str1_any n W (hr.below hW (Nat.le_refl _)) hk
  have Q0 : Hid (∀ W, Below w.heap.size w W → W.cell? ⟨b, 0, none⟩ = some (.func (.func 46) #[] #[])) := fun W hW => (hW.cell (by exact hb)).trans q0
  generalize chkV n = cv at *
  obtain ⟨a, d⟩ := cv
  try dsimp only at hok
  replace C := Lib.hid C
  clear hr q0
  generalize strV n = p0 at *
  by_cases z : a = 0
  case neg =>
    have E : Hid (okN n = false) := by show _ = _; rw [hok]; simp [z]
    have z2 : (a == 0) = false := by simpa using z
    have z3 : (a != 0) = true := by simpa using z
    clear z hok
    go_enter Tryz.func39, Tryz.ntmps39
    go_wp2_with fail
    refine (C.out _ B0.out).mono ?_
    rintro e w1 ⟨rfl, K⟩
    have K2 := Lib.hid (B0.out.trans (K.mono (by rw [World.size_alloc]; omega)))
    clear K
    go_wp2
    go_ret
    exact ⟨by rw [E.out]; rfl, K2.out⟩
  have E : Hid (okN n = true) := by show _ = _; rw [hok]; simp [z]
  have z2 : (a == 0) = true := by simpa using z
  have z3 : (a != 0) = false := by simpa using z
  replace C0 := Lib.hid (C0.out E.out)
  have HE : Hid ((okN n && p0) = (true && p0)) := by show _ = _; rw [E.out]
  rw [HE.out]
  clear z hok
  go_enter Tryz.func39, Tryz.ntmps39
  go_wp2_with fail
  refine (C.out _ B0.out).mono ?_
  rintro e w1 ⟨rfl, K⟩
  have B1 := Lib.hid (B0.out.trans (K.mono (by rw [World.size_alloc]; omega)))
  have N1 := Lib.hid (N0.out.below K (by simp))
  have S1 : Hid (w.heap.size < w1.heap.size) := by have := K.size; rw [World.size_alloc] at this; show _ < _; omega
  clear K C B0 N0
  have d0 := Q0.out _ B1.out
  obtain ⟨c0, c1, c2⟩ := N1.out
  go_wp2_with fail
  refine wp_loop_rounds 2 ?_
  rw [rounds_succ]
  go_wp2_with fail
  refine (C0.out _ B1.out).mono ?_
  rintro e w2 ⟨rfl, K⟩
  have B2 := Lib.hid (B1.out.trans (K.mono B1.out.size))
  have N2 := Lib.hid (N1.out.below K S1.out)
  have S2 : Hid (w.heap.size < w2.heap.size) := Nat.lt_of_lt_of_le S1.out K.size
  clear K c0 c1 c2 d0 N1
  cases p0
  · go_wp2
    go_ret
    exact ⟨rfl, B2.out⟩
  obtain ⟨c0, c1, c2⟩ := N2.out
  go_wp2_with fail
  rw [rounds_succ]
  go_wp2_with fail
  go_ret
  exact ⟨rfl, B2.out⟩

def stN (n : NetV) : Bool := okN n && strV n
set_option maxHeartbeats 2000000 in
set_option maxRecDepth 100000 in
theorem stN_any (n : NetV) (w : World) (hr : NetR w n) :
    Calls Tryz.prog 14 #[(.agg #[.string n.nm, .slice n.PA n.ps.length n.pc, .slice n.TA n.ts.length n.tc])] w (VPost w.heap.size w (.bool (stN n))) := by
  have W2 : Below w.heap.size w ((w.alloc (.cells #[.string n.nm, .slice n.PA n.ps.length n.pc, .slice n.TA n.ts.length n.tc] 25)).alloc (.cells #[.func (.func 46) #[] #[]] 32)) := ((Below.refl _ _).alloc (Nat.le_refl _) _).alloc (by simp) _
  have CS := Lib.hid (sat_st_any n (w.heap.size + 1) ((w.alloc (.cells #[.string n.nm, .slice n.PA n.ps.length n.pc, .slice n.TA n.ts.length n.tc] 25)).alloc (.cells #[.func (.func 46) #[] #[]] 32)) (hr.below W2 (Nat.le_refl _)) (by simp))
  have W2 := Lib.hid W2
  unfold stN
  clear hr
  generalize (okN n && strV n) = t at *
  go_enter Tryz.func14, Tryz.ntmps14
  go_wp2_with fail
  refine CS.out.mono ?_
  rintro e w1 ⟨rfl, K⟩
  have K2 := Lib.hid (W2.out.trans (K.mono (by simp; omega)))
  clear K
  go_wp2
  go_ret
  exact ⟨rfl, K2.out⟩
end Go.Proofs.YtlbcdnobpnllkaaGreat
