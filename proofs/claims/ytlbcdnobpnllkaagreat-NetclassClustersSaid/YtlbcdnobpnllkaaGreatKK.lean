/- Classes of nets: the reference's classes, by their loops. -/
import Derived.Test.YtlbcdnobpnllkaaGreatKJ
namespace Go.Proofs.YtlbcdnobpnllkaaGreat
open Go.RowKit Go.Deep

set_option maxHeartbeats 4000000 in
set_option maxRecDepth 100000 in
theorem rsm_any (n : NetV) (w : World) (hr : NetR w n) :
    Calls Tryz.prog 17 #[(.agg #[.string n.nm, .slice n.PA n.ps.length n.pc, .slice n.TA n.ts.length n.tc])] w (VPost w.heap.size w (.bool (basN n && smV n))) := by
  have htl := hr.okt.1
  have RT := Lib.hid fun W (hW : Below w.heap.size w W) => (hr.below hW (Nat.le_refl _)).rt
  have CB := Lib.hid fun W (hW : Below w.heap.size w W) => rbas_any n W (hr.below hW (Nat.le_refl _))
  have MY : Hid (∀ k, k < n.ts.length → smF n.ts k = true → (basN n && smV n) = false) := fun k h1 h2 => by unfold smV; rw [anyB_yes h1 h2]; simp
  have MN : Hid ((∀ k, k < n.ts.length → smF n.ts k = false) → (basN n && smV n) = basN n) := fun h => by unfold smV; rw [anyB_no h]; simp
  have MD : Hid (∀ t, smF n.ts t = decide ((tA n.ts t).pre.l.length ≠ 1 ∨ (tA n.ts t).post.l.length ≠ 1)) := fun _ => rfl
  have B0 : Hid (Below w.heap.size w (w.alloc (.cells #[.string n.nm, .slice n.PA n.ps.length n.pc, .slice n.TA n.ts.length n.tc] 25))) := (Below.refl _ _).alloc (Nat.le_refl _) _
  have N0 : Hid (NBox (w.alloc (.cells #[.string n.nm, .slice n.PA n.ps.length n.pc, .slice n.TA n.ts.length n.tc] 25)) w.heap.size n) := NBox.new w n
  have S0 : Hid (w.heap.size < (w.alloc (.cells #[.string n.nm, .slice n.PA n.ps.length n.pc, .slice n.TA n.ts.length n.tc] 25)).heap.size) := by show _ < _; simp
  have F0 : Hid (∀ j, j < 0 → smF n.ts j = false) := fun j hj => absurd hj (by omega)
  clear hr
  generalize (basN n && smV n) = V at *
  generalize smF n.ts = F at *
  generalize basN n = bas at *
  go_enter Tryz.func17, Tryz.ntmps17
  go_wp2_with fail
  go_loopw [3] (fun q wr => ∃ k : Nat, k ≤ n.ts.length ∧ q = .int .i64 (k : Nat) ∧ Hid (NBox wr w.heap.size n) ∧ Hid (Below w.heap.size w wr) ∧ Hid (w.heap.size < wr.heap.size) ∧ Hid (∀ j, j < k → F j = false)) (fun q _ => n.ts.length - (intOf q).toNat)
  case atStart => exact ⟨0, by omega, rfl, N0, B0, S0, F0⟩
  case round =>
    clear N0 B0 S0 F0
    obtain ⟨w0, rfl⟩ : ∃ w0, w0 = wr := ⟨_, rfl⟩
    obtain ⟨k, hk, rfl, N0, B0, S0, HF⟩ := hrel
    obtain ⟨c0, c1, c2⟩ := N0.out
    by_cases hlt : k < n.ts.length
    · obtain ⟨b0, off, e0, hb0, d0, d1, d2, d3, d4, r1, r2, r3⟩ := RT.out w0 B0.out k hlt
      have MYk := Lib.hid (MY.out k hlt)
      have MDk := Lib.hid (MD.out k)
      have HF2 : Hid (F k = false → ∀ j, j < k + 1 → F j = false) := fun h j hj => by
        by_cases e : j = k
        · rw [e]; exact h
        · exact HF.out j (by omega)
      rw [e0] at c2
      clear r1 r2 r3 d0 d3 d4 MY MD MN HF RT CB e0
      generalize (tA n.ts k).pre.l.length = x at *
      generalize (tA n.ts k).post.l.length = y at *
      generalize (tA n.ts k).pre.A = xA at *
      generalize (tA n.ts k).post.A = yA at *
      generalize (tA n.ts k).pre.c = xc at *
      generalize (tA n.ts k).post.c = yc at *
      by_cases h1 : x = 1
      · have e1 : ((x : Int) != 1) = false := by simp; omega
        have e2 : ((x : Int) == 1) = true := by simp; omega
        by_cases h2 : y = 1
        · have e3 : ((y : Int) != 1) = false := by simp; omega
          have e4 : ((y : Int) == 1) = true := by simp; omega
          have HF3 := Lib.hid (HF2.out (by rw [MDk.out]; exact decide_eq_false (by omega)))
          clear MDk MYk HF2
          go_wp2
          go_roundw
          case rel => exact ⟨k + 1, by omega, by go_num, N0, B0, S0, HF3⟩
          case measure => simp [intOf]; omega
        · have e3 : ((y : Int) != 1) = true := by simp; omega
          have e4 : ((y : Int) == 1) = false := by simp; omega
          have E := Lib.hid (MYk.out (by rw [MDk.out]; exact decide_eq_true (by omega)))
          clear MDk MYk HF2
          go_wp2
          go_ret
          exact ⟨by rw [E.out]; rfl, B0.out⟩
      · have e1 : ((x : Int) != 1) = true := by simp; omega
        have e2 : ((x : Int) == 1) = false := by simp; omega
        have E := Lib.hid (MYk.out (by rw [MDk.out]; exact decide_eq_true (by omega)))
        clear MDk MYk HF2
        go_wp2
        go_ret
        exact ⟨by rw [E.out]; rfl, B0.out⟩
    · have E := Lib.hid (MN.out fun j hj => HF.out j (by omega))
      have CB0 := Lib.hid (CB.out w0 B0.out)
      clear MY MN MD HF RT CB
      go_wp2_with fail
      refine CB0.out.mono ?_
      rintro e w1 ⟨rfl, K1⟩
      have B1 := Lib.hid (B0.out.trans (K1.mono B0.out.size))
      clear K1
      go_wp2
      go_ret
      exact ⟨by rw [E.out]; rfl, B1.out⟩
set_option maxHeartbeats 4000000 in
set_option maxRecDepth 100000 in
theorem rmg_any (n : NetV) (w : World) (hr : NetR w n) :
    Calls Tryz.prog 19 #[(.agg #[.string n.nm, .slice n.PA n.ps.length n.pc, .slice n.TA n.ts.length n.tc])] w (VPost w.heap.size w (.bool (basN n && mgV n))) := by
  have hpl := hr.okp.1
  have CB := Lib.hid fun W (hW : Below w.heap.size w W) => rbas_any n W (hr.below hW (Nat.le_refl _))
  have CP := Lib.hid fun (p : Int) W (hW : Below w.heap.size w W) => rproducersN_any n p W (hr.below hW (Nat.le_refl _))
  have CC := Lib.hid fun (p : Int) W (hW : Below w.heap.size w W) => rconsumersN_any n p W (hr.below hW (Nat.le_refl _))
  have MY : Hid (∀ k, k < n.ps.length → mgF n k = true → (basN n && mgV n) = false) := fun k h1 h2 => by unfold mgV; rw [anyB_yes h1 h2]; simp
  have MN : Hid ((∀ k, k < n.ps.length → mgF n k = false) → (basN n && mgV n) = basN n) := fun h => by unfold mgV; rw [anyB_no h]; simp
  have MZ : Hid (basN n = false → (basN n && mgV n) = false) := fun h => by rw [h]; rfl
  have MD : Hid (∀ k : Nat, mgF n k = (decide ((producersN n k).length ≠ 1) || decide ((consumersN n k).length ≠ 1))) := fun _ => rfl
  have B0 : Hid (Below w.heap.size w (w.alloc (.cells #[.string n.nm, .slice n.PA n.ps.length n.pc, .slice n.TA n.ts.length n.tc] 25))) := (Below.refl _ _).alloc (Nat.le_refl _) _
  have N0 : Hid (NBox (w.alloc (.cells #[.string n.nm, .slice n.PA n.ps.length n.pc, .slice n.TA n.ts.length n.tc] 25)) w.heap.size n) := NBox.new w n
  have S0 : Hid (w.heap.size < (w.alloc (.cells #[.string n.nm, .slice n.PA n.ps.length n.pc, .slice n.TA n.ts.length n.tc] 25)).heap.size) := by show _ < _; simp
  have F0 : Hid (∀ j, j < 0 → mgF n j = false) := fun j hj => absurd hj (by omega)
  clear hr
  unfold IsPost at *
  generalize (basN n && mgV n) = V at *
  generalize mgF n = F at *
  generalize basN n = bas at *
  go_enter Tryz.func19, Tryz.ntmps19
  go_wp2_with fail
  go_loopw [3] (fun q wr => ∃ k : Nat, k ≤ n.ps.length ∧ q = .int .i64 (k : Nat) ∧ Hid (NBox wr w.heap.size n) ∧ Hid (Below w.heap.size w wr) ∧ Hid (w.heap.size < wr.heap.size) ∧ Hid (∀ j, j < k → F j = false)) (fun q _ => n.ps.length - (intOf q).toNat)
  case atStart => exact ⟨0, by omega, rfl, N0, B0, S0, F0⟩
  case round =>
    clear N0 B0 S0 F0
    obtain ⟨w0, rfl⟩ : ∃ w0, w0 = wr := ⟨_, rfl⟩
    obtain ⟨k, hk, rfl, N0, B0, S0, HF⟩ := hrel
    obtain ⟨c0, c1, c2⟩ := N0.out
    by_cases hlt : k < n.ps.length
    · have MYk := Lib.hid (MY.out k hlt)
      have MDk := Lib.hid (MD.out k)
      have HF2 : Hid (F k = false → ∀ j, j < k + 1 → F j = false) := fun h j hj => by
        by_cases e : j = k
        · rw [e]; exact h
        · exact HF.out j (by omega)
      have CB0 := Lib.hid (CB.out w0 B0.out)
      have CCk := Lib.hid (CC.out (k : Int))
      have CPk := Lib.hid (CP.out (k : Int))
      clear MY MD MN HF CP CC
      generalize producersN n (k : Int) = LP at *
      generalize consumersN n (k : Int) = LC at *
      go_wp2_with fail
      refine (CB0.out).mono ?_
      rintro e w1 ⟨rfl, K1⟩
      have N1 := Lib.hid (N0.out.below K1 S0.out)
      have B1 := Lib.hid (B0.out.trans (K1.mono B0.out.size))
      have S1 : Hid (w.heap.size < w1.heap.size) := Nat.lt_of_lt_of_le S0.out K1.size
      clear K1
      obtain ⟨c0, c1, c2⟩ := N1.out
      clear CB0
      cases bas
      · have E := Lib.hid (MZ.out rfl)
        have CB1 := Lib.hid (CB.out w1 B1.out)
        clear MZ CB MDk MYk HF2 CCk CPk
        go_wp2_with fail
        refine (CB1.out).mono ?_
        rintro e w2 ⟨rfl, K2⟩
        have N2 := Lib.hid (N1.out.below K2 S1.out)
        have B2 := Lib.hid (B1.out.trans (K2.mono B1.out.size))
        have S2 : Hid (w.heap.size < w2.heap.size) := Nat.lt_of_lt_of_le S1.out K2.size
        clear K2
        obtain ⟨c0, c1, c2⟩ := N2.out
        go_wp2
        go_ret
        exact ⟨by rw [E.out]; rfl, B2.out⟩
      · clear MZ CB
        have CP1 := Lib.hid (CPk.out w1 B1.out)
        clear CPk
        go_wp2_with fail
        refine (CP1.out).mono ?_
        rintro e w2 ⟨A2, m2, rfl, R2, K2⟩
        have N2 := Lib.hid (N1.out.below K2 S1.out)
        have B2 := Lib.hid (B1.out.trans (K2.mono B1.out.size))
        have S2 : Hid (w.heap.size < w2.heap.size) := Nat.lt_of_lt_of_le S1.out K2.size
        clear K2
        obtain ⟨c0, c1, c2⟩ := N2.out
        clear CP1 R2
        by_cases h1 : LP.length = 1
        · have e1 : ((LP.length : Int) != 1) = false := by simp; omega
          have e2 : ((LP.length : Int) == 1) = true := by simp; omega
          have MDk : Hid (F k = decide (LC.length ≠ 1)) := by show _ = _; rw [MDk.out, decide_eq_false (fun h => h h1), Bool.false_or]
          have CC2 := Lib.hid (CCk.out w2 B2.out)
          clear CCk h1
          go_wp2_with fail
          refine (CC2.out).mono ?_
          rintro e w3 ⟨A3, m3, rfl, R3, K3⟩
          have N3 := Lib.hid (N2.out.below K3 S2.out)
          have B3 := Lib.hid (B2.out.trans (K3.mono B2.out.size))
          have S3 : Hid (w.heap.size < w3.heap.size) := Nat.lt_of_lt_of_le S2.out K3.size
          clear K3
          obtain ⟨c0, c1, c2⟩ := N3.out
          clear CC2 R3
          by_cases h2 : LC.length = 1
          · have e3 : ((LC.length : Int) != 1) = false := by simp; omega
            have e4 : ((LC.length : Int) == 1) = true := by simp; omega
            have HF3 := Lib.hid (HF2.out (by rw [MDk.out]; exact decide_eq_false (fun h => h h2)))
            clear h2 MDk HF2
            go_wp2
            go_roundw
            case rel => exact ⟨k + 1, by omega, by go_num, N3, B3, S3, HF3⟩
            case measure => simp [intOf]; omega
          · have e3 : ((LC.length : Int) != 1) = true := by simp; omega
            have e4 : ((LC.length : Int) == 1) = false := by simp; omega
            have E := Lib.hid (MYk.out (by rw [MDk.out]; exact decide_eq_true h2))
            clear h2 MDk HF2
            go_wp2
            go_ret
            exact ⟨by rw [E.out]; rfl, B3.out⟩
        · have e1 : ((LP.length : Int) != 1) = true := by simp; omega
          have e2 : ((LP.length : Int) == 1) = false := by simp; omega
          have E := Lib.hid (MYk.out (by rw [MDk.out, decide_eq_true h1]; rfl))
          clear h1 MDk HF2 CCk
          go_wp2
          go_ret
          exact ⟨by rw [E.out]; rfl, B2.out⟩
    · have E := Lib.hid (MN.out fun j hj => HF.out j (by omega))
      have CB0 := Lib.hid (CB.out w0 B0.out)
      clear MN MY MD HF CP CC MZ CB
      go_wp2_with fail
      refine (CB0.out).mono ?_
      rintro e w1 ⟨rfl, K1⟩
      have N1 := Lib.hid (N0.out.below K1 S0.out)
      have B1 := Lib.hid (B0.out.trans (K1.mono B0.out.size))
      have S1 : Hid (w.heap.size < w1.heap.size) := Nat.lt_of_lt_of_le S0.out K1.size
      clear K1
      obtain ⟨c0, c1, c2⟩ := N1.out
      go_wp2
      go_ret
      exact ⟨by rw [E.out]; rfl, B1.out⟩
def rfF (n : NetV) (p q : Nat) : Bool := meetN n p q && outN n p q
def rfR (n : NetV) (p : Nat) : Bool := anyB (rfF n p) n.ps.length
def rfV (n : NetV) : Bool := !anyB (rfR n) n.ps.length
set_option maxHeartbeats 4000000 in
set_option maxRecDepth 100000 in
theorem rfc_any (n : NetV) (w : World) (hr : NetR w n) :
    Calls Tryz.prog 21 #[(.agg #[.string n.nm, .slice n.PA n.ps.length n.pc, .slice n.TA n.ts.length n.tc])] w (VPost w.heap.size w (.bool (basN n && rfV n))) := by
  have hpl := hr.okp.1
  have CB := Lib.hid fun W (hW : Below w.heap.size w W) => rbas_any n W (hr.below hW (Nat.le_refl _))
  have CM := Lib.hid fun (p q : Int) W (hW : Below w.heap.size w W) => rmeet_any n p q W (hr.below hW (Nat.le_refl _))
  have CW := Lib.hid fun (p q : Int) W (hW : Below w.heap.size w W) (hb : basN n = true) => rwithin_any n p q W (hr.below hW (Nat.le_refl _)) (bas_ok hb)
  have MY : Hid (∀ k j, k < n.ps.length → j < n.ps.length → rfF n k j = true → (basN n && rfV n) = false) := fun k j h1 h2 h3 => by unfold rfV; rw [anyB_yes h1 (show rfR n k = true from anyB_yes h2 h3)]; simp
  have MR : Hid (∀ k, (∀ j, j < n.ps.length → rfF n k j = false) → rfR n k = false) := fun k h => anyB_no h
  have MN : Hid ((∀ k, k < n.ps.length → rfR n k = false) → (basN n && rfV n) = basN n) := fun h => by unfold rfV; rw [anyB_no h]; simp
  have MZ : Hid (basN n = false → (basN n && rfV n) = false) := fun h => by rw [h]; rfl
  have MD : Hid (∀ p q : Nat, rfF n p q = (meetN n p q && outN n p q)) := fun _ _ => rfl
  have B0 : Hid (Below w.heap.size w (w.alloc (.cells #[.string n.nm, .slice n.PA n.ps.length n.pc, .slice n.TA n.ts.length n.tc] 25))) := (Below.refl _ _).alloc (Nat.le_refl _) _
  have N0 : Hid (NBox (w.alloc (.cells #[.string n.nm, .slice n.PA n.ps.length n.pc, .slice n.TA n.ts.length n.tc] 25)) w.heap.size n) := NBox.new w n
  have S0 : Hid (w.heap.size < (w.alloc (.cells #[.string n.nm, .slice n.PA n.ps.length n.pc, .slice n.TA n.ts.length n.tc] 25)).heap.size) := by show _ < _; simp
  have F0 : Hid (∀ j, j < 0 → rfR n j = false) := fun j hj => absurd hj (by omega)
  clear hr
  generalize (basN n && rfV n) = V at *
  generalize rfR n = F at *
  generalize rfF n = FF at *
  generalize basN n = bas at *
  generalize meetN n = mt at *
  generalize outN n = ou at *
  go_enter Tryz.func21, Tryz.ntmps21
  go_wp2_with fail
  go_loopw [3] (fun q wr => ∃ k : Nat, k ≤ n.ps.length ∧ q = .int .i64 (k : Nat) ∧ Hid (NBox wr w.heap.size n) ∧ Hid (Below w.heap.size w wr) ∧ Hid (w.heap.size < wr.heap.size) ∧ Hid (∀ j, j < k → F j = false)) (fun q _ => n.ps.length - (intOf q).toNat)
  case atStart => exact ⟨0, by omega, rfl, N0, B0, S0, F0⟩
  case round =>
    clear N0 B0 S0 F0
    obtain ⟨w0, rfl⟩ : ∃ w0, w0 = wr := ⟨_, rfl⟩
    obtain ⟨k, hk, rfl, N0, B0, S0, HF⟩ := hrel
    obtain ⟨c0, c1, c2⟩ := N0.out
    by_cases hlt : k < n.ps.length
    · have MYk := Lib.hid fun j => MY.out k j hlt
      have MDk := Lib.hid (MD.out k)
      have MRk := Lib.hid (MR.out k)
      have HF2 : Hid (F k = false → ∀ j, j < k + 1 → F j = false) := fun h j hj => by
        by_cases e : j = k
        · rw [e]; exact h
        · exact HF.out j (by omega)
      have CB0 := Lib.hid (CB.out w0 B0.out)
      clear MY MD MN HF MR
      go_wp2_with fail
      refine (CB0.out).mono ?_
      rintro e w1 ⟨rfl, K1⟩
      have N1 := Lib.hid (N0.out.below K1 S0.out)
      have B1 := Lib.hid (B0.out.trans (K1.mono B0.out.size))
      have S1 : Hid (w.heap.size < w1.heap.size) := Nat.lt_of_lt_of_le S0.out K1.size
      clear K1
      obtain ⟨c0, c1, c2⟩ := N1.out
      clear CB0
      cases bas
      · have E := Lib.hid (MZ.out rfl)
        have CB1 := Lib.hid (CB.out w1 B1.out)
        clear MZ CB MDk MYk HF2 MRk CM CW
        go_wp2_with fail
        refine (CB1.out).mono ?_
        rintro e w2 ⟨rfl, K2⟩
        have N2 := Lib.hid (N1.out.below K2 S1.out)
        have B2 := Lib.hid (B1.out.trans (K2.mono B1.out.size))
        have S2 : Hid (w.heap.size < w2.heap.size) := Nat.lt_of_lt_of_le S1.out K2.size
        clear K2
        obtain ⟨c0, c1, c2⟩ := N2.out
        go_wp2
        go_ret
        exact ⟨by rw [E.out]; rfl, B2.out⟩
      · clear MZ CB
        have F1 : Hid (∀ j, j < 0 → FF k j = false) := fun j hj => absurd hj (by omega)
        go_wp2_with fail
        go_loopw [4] (fun q wr => ∃ j : Nat, j ≤ n.ps.length ∧ q = .int .i64 (j : Nat) ∧ Hid (NBox wr w.heap.size n) ∧ Hid (Below w.heap.size w wr) ∧ Hid (w.heap.size < wr.heap.size) ∧ Hid (∀ i, i < j → FF k i = false)) (fun q _ => n.ps.length - (intOf q).toNat)
        case atStart => exact ⟨0, by omega, rfl, N1, B1, S1, F1⟩
        case round =>
          clear N1 B1 S1 F1 c0 c1 c2
          obtain ⟨w1, rfl⟩ : ∃ w1, w1 = wr := ⟨_, rfl⟩
          obtain ⟨j, hj, rfl, N1, B1, S1, HJ⟩ := hrel
          obtain ⟨c0, c1, c2⟩ := N1.out
          by_cases hjl : j < n.ps.length
          · have MYj := Lib.hid (MYk.out j hjl)
            have MDj := Lib.hid (MDk.out j)
            have HJ2 : Hid (FF k j = false → ∀ i, i < j + 1 → FF k i = false) := fun h i hi => by
              by_cases e : i = j
              · rw [e]; exact h
              · exact HJ.out i (by omega)
            have CM1 := Lib.hid (CM.out k j w1 B1.out)
            have CW1 := Lib.hid fun W hW => CW.out k j W hW (by trivial)
            have CW2 := Lib.hid fun W hW => CW.out j k W hW (by trivial)
            clear CM CW MYk MDk MRk HJ HF2
            generalize mt (k : Int) (j : Int) = a at *
            generalize ou (k : Int) (j : Int) = b at *
            generalize ou (j : Int) (k : Int) = c at *
            go_wp2_with fail
            refine (CM1.out).mono ?_
            rintro e w2 ⟨rfl, K2⟩
            have N2 := Lib.hid (N1.out.below K2 S1.out)
            have B2 := Lib.hid (B1.out.trans (K2.mono B1.out.size))
            have S2 : Hid (w.heap.size < w2.heap.size) := Nat.lt_of_lt_of_le S1.out K2.size
            clear K2
            obtain ⟨c0, c1, c2⟩ := N2.out
            clear CM1
            cases a
            · have HJ3 := Lib.hid (HJ2.out (by rw [MDj.out]; rfl))
              clear MDj MYj HJ2 CW1 CW2
              go_wp2
              go_roundw
              case rel => exact ⟨j + 1, by omega, by go_num, N2, B2, S2, HJ3⟩
              case measure => simp [intOf]; omega
            · have CW3 := Lib.hid (CW1.out w2 B2.out)
              clear CW1
              go_wp2_with fail
              refine (CW3.out).mono ?_
              rintro e w3 ⟨rfl, K3⟩
              have N3 := Lib.hid (N2.out.below K3 S2.out)
              have B3 := Lib.hid (B2.out.trans (K3.mono B2.out.size))
              have S3 : Hid (w.heap.size < w3.heap.size) := Nat.lt_of_lt_of_le S2.out K3.size
              clear K3
              obtain ⟨c0, c1, c2⟩ := N3.out
              clear CW3
              cases b
              · have HJ3 := Lib.hid (HJ2.out (by rw [MDj.out]; rfl))
                clear MDj MYj HJ2 CW2
                go_wp2
                go_roundw
                case rel => exact ⟨j + 1, by omega, by go_num, N3, B3, S3, HJ3⟩
                case measure => simp [intOf]; omega
              · have E := Lib.hid (MYj.out (by rw [MDj.out]; rfl))
                clear MDj MYj HJ2 CW2
                go_wp2
                go_ret
                exact ⟨by rw [E.out]; rfl, B3.out⟩
          · have HF3 := Lib.hid (HF2.out (MRk.out fun i hi => HJ.out i (by omega)))
            clear HF2 MRk HJ MYk MDk CM CW
            go_wp2
            go_roundw
            case rel => exact ⟨k + 1, by omega, by go_num, N1, B1, S1, HF3⟩
            case measure => simp [intOf]; omega
    · have E := Lib.hid (MN.out fun j hj => HF.out j (by omega))
      have CB0 := Lib.hid (CB.out w0 B0.out)
      clear MN MY MD HF MZ CB MR CM CW
      go_wp2_with fail
      refine (CB0.out).mono ?_
      rintro e w1 ⟨rfl, K1⟩
      have N1 := Lib.hid (N0.out.below K1 S0.out)
      have B1 := Lib.hid (B0.out.trans (K1.mono B0.out.size))
      have S1 : Hid (w.heap.size < w1.heap.size) := Nat.lt_of_lt_of_le S0.out K1.size
      clear K1
      obtain ⟨c0, c1, c2⟩ := N1.out
      go_wp2
      go_ret
      exact ⟨by rw [E.out]; rfl, B1.out⟩
def raF (n : NetV) (p q : Nat) : Bool := meetN n p q && outN n p q && outN n q p
def raR (n : NetV) (p : Nat) : Bool := anyB (raF n p) n.ps.length
def raV (n : NetV) : Bool := !anyB (raR n) n.ps.length
set_option maxHeartbeats 4000000 in
set_option maxRecDepth 100000 in
theorem ras_any (n : NetV) (w : World) (hr : NetR w n) :
    Calls Tryz.prog 23 #[(.agg #[.string n.nm, .slice n.PA n.ps.length n.pc, .slice n.TA n.ts.length n.tc])] w (VPost w.heap.size w (.bool (basN n && raV n))) := by
  have hpl := hr.okp.1
  have CB := Lib.hid fun W (hW : Below w.heap.size w W) => rbas_any n W (hr.below hW (Nat.le_refl _))
  have CM := Lib.hid fun (p q : Int) W (hW : Below w.heap.size w W) => rmeet_any n p q W (hr.below hW (Nat.le_refl _))
  have CW := Lib.hid fun (p q : Int) W (hW : Below w.heap.size w W) (hb : basN n = true) => rwithin_any n p q W (hr.below hW (Nat.le_refl _)) (bas_ok hb)
  have MY : Hid (∀ k j, k < n.ps.length → j < n.ps.length → raF n k j = true → (basN n && raV n) = false) := fun k j h1 h2 h3 => by unfold raV; rw [anyB_yes h1 (show raR n k = true from anyB_yes h2 h3)]; simp
  have MR : Hid (∀ k, (∀ j, j < n.ps.length → raF n k j = false) → raR n k = false) := fun k h => anyB_no h
  have MN : Hid ((∀ k, k < n.ps.length → raR n k = false) → (basN n && raV n) = basN n) := fun h => by unfold raV; rw [anyB_no h]; simp
  have MZ : Hid (basN n = false → (basN n && raV n) = false) := fun h => by rw [h]; rfl
  have MD : Hid (∀ p q : Nat, raF n p q = (meetN n p q && outN n p q && outN n q p)) := fun _ _ => rfl
  have B0 : Hid (Below w.heap.size w (w.alloc (.cells #[.string n.nm, .slice n.PA n.ps.length n.pc, .slice n.TA n.ts.length n.tc] 25))) := (Below.refl _ _).alloc (Nat.le_refl _) _
  have N0 : Hid (NBox (w.alloc (.cells #[.string n.nm, .slice n.PA n.ps.length n.pc, .slice n.TA n.ts.length n.tc] 25)) w.heap.size n) := NBox.new w n
  have S0 : Hid (w.heap.size < (w.alloc (.cells #[.string n.nm, .slice n.PA n.ps.length n.pc, .slice n.TA n.ts.length n.tc] 25)).heap.size) := by show _ < _; simp
  have F0 : Hid (∀ j, j < 0 → raR n j = false) := fun j hj => absurd hj (by omega)
  clear hr
  generalize (basN n && raV n) = V at *
  generalize raR n = F at *
  generalize raF n = FF at *
  generalize basN n = bas at *
  generalize meetN n = mt at *
  generalize outN n = ou at *
  go_enter Tryz.func23, Tryz.ntmps23
  go_wp2_with fail
  go_loopw [3] (fun q wr => ∃ k : Nat, k ≤ n.ps.length ∧ q = .int .i64 (k : Nat) ∧ Hid (NBox wr w.heap.size n) ∧ Hid (Below w.heap.size w wr) ∧ Hid (w.heap.size < wr.heap.size) ∧ Hid (∀ j, j < k → F j = false)) (fun q _ => n.ps.length - (intOf q).toNat)
  case atStart => exact ⟨0, by omega, rfl, N0, B0, S0, F0⟩
  case round =>
    clear N0 B0 S0 F0
    obtain ⟨w0, rfl⟩ : ∃ w0, w0 = wr := ⟨_, rfl⟩
    obtain ⟨k, hk, rfl, N0, B0, S0, HF⟩ := hrel
    obtain ⟨c0, c1, c2⟩ := N0.out
    by_cases hlt : k < n.ps.length
    · have MYk := Lib.hid fun j => MY.out k j hlt
      have MDk := Lib.hid (MD.out k)
      have MRk := Lib.hid (MR.out k)
      have HF2 : Hid (F k = false → ∀ j, j < k + 1 → F j = false) := fun h j hj => by
        by_cases e : j = k
        · rw [e]; exact h
        · exact HF.out j (by omega)
      have CB0 := Lib.hid (CB.out w0 B0.out)
      clear MY MD MN HF MR
      go_wp2_with fail
      refine (CB0.out).mono ?_
      rintro e w1 ⟨rfl, K1⟩
      have N1 := Lib.hid (N0.out.below K1 S0.out)
      have B1 := Lib.hid (B0.out.trans (K1.mono B0.out.size))
      have S1 : Hid (w.heap.size < w1.heap.size) := Nat.lt_of_lt_of_le S0.out K1.size
      clear K1
      obtain ⟨c0, c1, c2⟩ := N1.out
      clear CB0
      cases bas
      · have E := Lib.hid (MZ.out rfl)
        have CB1 := Lib.hid (CB.out w1 B1.out)
        clear MZ CB MDk MYk HF2 MRk CM CW
        go_wp2_with fail
        refine (CB1.out).mono ?_
        rintro e w2 ⟨rfl, K2⟩
        have N2 := Lib.hid (N1.out.below K2 S1.out)
        have B2 := Lib.hid (B1.out.trans (K2.mono B1.out.size))
        have S2 : Hid (w.heap.size < w2.heap.size) := Nat.lt_of_lt_of_le S1.out K2.size
        clear K2
        obtain ⟨c0, c1, c2⟩ := N2.out
        go_wp2
        go_ret
        exact ⟨by rw [E.out]; rfl, B2.out⟩
      · clear MZ CB
        have F1 : Hid (∀ j, j < 0 → FF k j = false) := fun j hj => absurd hj (by omega)
        go_wp2_with fail
        go_loopw [4] (fun q wr => ∃ j : Nat, j ≤ n.ps.length ∧ q = .int .i64 (j : Nat) ∧ Hid (NBox wr w.heap.size n) ∧ Hid (Below w.heap.size w wr) ∧ Hid (w.heap.size < wr.heap.size) ∧ Hid (∀ i, i < j → FF k i = false)) (fun q _ => n.ps.length - (intOf q).toNat)
        case atStart => exact ⟨0, by omega, rfl, N1, B1, S1, F1⟩
        case round =>
          clear N1 B1 S1 F1 c0 c1 c2
          obtain ⟨w1, rfl⟩ : ∃ w1, w1 = wr := ⟨_, rfl⟩
          obtain ⟨j, hj, rfl, N1, B1, S1, HJ⟩ := hrel
          obtain ⟨c0, c1, c2⟩ := N1.out
          by_cases hjl : j < n.ps.length
          · have MYj := Lib.hid (MYk.out j hjl)
            have MDj := Lib.hid (MDk.out j)
            have HJ2 : Hid (FF k j = false → ∀ i, i < j + 1 → FF k i = false) := fun h i hi => by
              by_cases e : i = j
              · rw [e]; exact h
              · exact HJ.out i (by omega)
            have CM1 := Lib.hid (CM.out k j w1 B1.out)
            have CW1 := Lib.hid fun W hW => CW.out k j W hW (by trivial)
            have CW2 := Lib.hid fun W hW => CW.out j k W hW (by trivial)
            clear CM CW MYk MDk MRk HJ HF2
            generalize mt (k : Int) (j : Int) = a at *
            generalize ou (k : Int) (j : Int) = b at *
            generalize ou (j : Int) (k : Int) = c at *
            go_wp2_with fail
            refine (CM1.out).mono ?_
            rintro e w2 ⟨rfl, K2⟩
            have N2 := Lib.hid (N1.out.below K2 S1.out)
            have B2 := Lib.hid (B1.out.trans (K2.mono B1.out.size))
            have S2 : Hid (w.heap.size < w2.heap.size) := Nat.lt_of_lt_of_le S1.out K2.size
            clear K2
            obtain ⟨c0, c1, c2⟩ := N2.out
            clear CM1
            cases a
            · have HJ3 := Lib.hid (HJ2.out (by rw [MDj.out]; rfl))
              clear MDj MYj HJ2 CW1 CW2
              go_wp2
              go_roundw
              case rel => exact ⟨j + 1, by omega, by go_num, N2, B2, S2, HJ3⟩
              case measure => simp [intOf]; omega
            · have CW3 := Lib.hid (CW1.out w2 B2.out)
              clear CW1
              go_wp2_with fail
              refine (CW3.out).mono ?_
              rintro e w3 ⟨rfl, K3⟩
              have N3 := Lib.hid (N2.out.below K3 S2.out)
              have B3 := Lib.hid (B2.out.trans (K3.mono B2.out.size))
              have S3 : Hid (w.heap.size < w3.heap.size) := Nat.lt_of_lt_of_le S2.out K3.size
              clear K3
              obtain ⟨c0, c1, c2⟩ := N3.out
              clear CW3
              cases b
              · have HJ3 := Lib.hid (HJ2.out (by rw [MDj.out]; rfl))
                clear MDj MYj HJ2 CW2
                go_wp2
                go_roundw
                case rel => exact ⟨j + 1, by omega, by go_num, N3, B3, S3, HJ3⟩
                case measure => simp [intOf]; omega
              · have CW4 := Lib.hid (CW2.out w3 B3.out)
                clear CW2
                go_wp2_with fail
                refine (CW4.out).mono ?_
                rintro e w4 ⟨rfl, K4⟩
                have N4 := Lib.hid (N3.out.below K4 S3.out)
                have B4 := Lib.hid (B3.out.trans (K4.mono B3.out.size))
                have S4 : Hid (w.heap.size < w4.heap.size) := Nat.lt_of_lt_of_le S3.out K4.size
                clear K4
                obtain ⟨c0, c1, c2⟩ := N4.out
                clear CW4
                cases c
                · have HJ3 := Lib.hid (HJ2.out (by rw [MDj.out]; rfl))
                  clear MDj MYj HJ2
                  go_wp2
                  go_roundw
                  case rel => exact ⟨j + 1, by omega, by go_num, N4, B4, S4, HJ3⟩
                  case measure => simp [intOf]; omega
                · have E := Lib.hid (MYj.out (by rw [MDj.out]; rfl))
                  clear MDj MYj HJ2
                  go_wp2
                  go_ret
                  exact ⟨by rw [E.out]; rfl, B4.out⟩
          · have HF3 := Lib.hid (HF2.out (MRk.out fun i hi => HJ.out i (by omega)))
            clear HF2 MRk HJ MYk MDk CM CW
            go_wp2
            go_roundw
            case rel => exact ⟨k + 1, by omega, by go_num, N1, B1, S1, HF3⟩
            case measure => simp [intOf]; omega
    · have E := Lib.hid (MN.out fun j hj => HF.out j (by omega))
      have CB0 := Lib.hid (CB.out w0 B0.out)
      clear MN MY MD HF MZ CB MR CM CW
      go_wp2_with fail
      refine (CB0.out).mono ?_
      rintro e w1 ⟨rfl, K1⟩
      have N1 := Lib.hid (N0.out.below K1 S0.out)
      have B1 := Lib.hid (B0.out.trans (K1.mono B0.out.size))
      have S1 : Hid (w.heap.size < w1.heap.size) := Nat.lt_of_lt_of_le S0.out K1.size
      clear K1
      obtain ⟨c0, c1, c2⟩ := N1.out
      go_wp2
      go_ret
      exact ⟨by rw [E.out]; rfl, B1.out⟩
def rpF (n : NetV) (t p : Nat) : Bool := decide (0 < preN n t p) && decide (0 < postN n t p)
def rpR (n : NetV) (t : Nat) : Bool := anyB (rpF n t) n.ps.length
def rpV (n : NetV) : Bool := !anyB (rpR n) n.ts.length
set_option maxHeartbeats 4000000 in
set_option maxRecDepth 100000 in
theorem rpu_any (n : NetV) (w : World) (hr : NetR w n) :
    Calls Tryz.prog 25 #[(.agg #[.string n.nm, .slice n.PA n.ps.length n.pc, .slice n.TA n.ts.length n.tc])] w (VPost w.heap.size w (.bool (okN n && rpV n))) := by
  have hpl := hr.okp.1
  have htl := hr.okt.1
  have CB := Lib.hid fun W (hW : Below w.heap.size w W) => rvalidN_any n W (hr.below hW (Nat.le_refl _))
  have CM := Lib.hid fun (t p : Int) W (hW : Below w.heap.size w W) => rpreN_any n t p W (hr.below hW (Nat.le_refl _))
  have CW := Lib.hid fun (t p : Int) W (hW : Below w.heap.size w W) => rpostN_any n t p W (hr.below hW (Nat.le_refl _))
  have MY : Hid (∀ k j, k < n.ts.length → j < n.ps.length → rpF n k j = true → (okN n && rpV n) = false) := fun k j h1 h2 h3 => by unfold rpV; rw [anyB_yes h1 (show rpR n k = true from anyB_yes h2 h3)]; simp
  have MR : Hid (∀ k, (∀ j, j < n.ps.length → rpF n k j = false) → rpR n k = false) := fun k h => anyB_no h
  have MN : Hid (okN n = true → (∀ k, k < n.ts.length → rpR n k = false) → (okN n && rpV n) = true) := fun h0 h => by unfold rpV; rw [anyB_no h, h0]; rfl
  have MZ : Hid (okN n = false → (okN n && rpV n) = false) := fun h => by rw [h]; rfl
  have MD : Hid (∀ t p : Nat, rpF n t p = (decide (0 < preN n t p) && decide (0 < postN n t p))) := fun _ _ => rfl
  have B0 : Hid (Below w.heap.size w (w.alloc (.cells #[.string n.nm, .slice n.PA n.ps.length n.pc, .slice n.TA n.ts.length n.tc] 25))) := (Below.refl _ _).alloc (Nat.le_refl _) _
  have N0 : Hid (NBox (w.alloc (.cells #[.string n.nm, .slice n.PA n.ps.length n.pc, .slice n.TA n.ts.length n.tc] 25)) w.heap.size n) := NBox.new w n
  have S0 : Hid (w.heap.size < (w.alloc (.cells #[.string n.nm, .slice n.PA n.ps.length n.pc, .slice n.TA n.ts.length n.tc] 25)).heap.size) := by show _ < _; simp
  have F0 : Hid (∀ j, j < 0 → rpR n j = false) := fun j hj => absurd hj (by omega)
  clear hr
  generalize (okN n && rpV n) = V at *
  generalize rpR n = F at *
  generalize rpF n = FF at *
  generalize okN n = ok at *
  generalize preN n = mt at *
  generalize postN n = ou at *
  go_enter Tryz.func25, Tryz.ntmps25
  go_wp2_with fail
  refine (CB.out _ B0.out).mono ?_
  rintro e w1 ⟨rfl, K1⟩
  have N1 := Lib.hid (N0.out.below K1 S0.out)
  have B1 := Lib.hid (B0.out.trans (K1.mono B0.out.size))
  have S1 : Hid (w.heap.size < w1.heap.size) := Nat.lt_of_lt_of_le S0.out K1.size
  clear K1
  obtain ⟨c0, c1, c2⟩ := N1.out
  cases ok
  · have E := Lib.hid (MZ.out rfl)
    clear MZ MN MY MR MD CM CW CB
    go_wp2
    go_ret
    exact ⟨by rw [E.out]; rfl, B1.out⟩
  have MN1 := Lib.hid (MN.out (by trivial))
  clear MZ CB N0 B0 S0 MN
  go_wp2_with fail
  go_loopw [3] (fun q wr => ∃ k : Nat, k ≤ n.ts.length ∧ q = .int .i64 (k : Nat) ∧ Hid (NBox wr w.heap.size n) ∧ Hid (Below w.heap.size w wr) ∧ Hid (w.heap.size < wr.heap.size) ∧ Hid (∀ j, j < k → F j = false)) (fun q _ => n.ts.length - (intOf q).toNat)
  case atStart => exact ⟨0, by omega, rfl, N1, B1, S1, F0⟩
  case round =>
    clear N1 B1 S1 F0 c0 c1 c2
    obtain ⟨w1, rfl⟩ : ∃ w1, w1 = wr := ⟨_, rfl⟩
    obtain ⟨k, hk, rfl, N1, B1, S1, HF⟩ := hrel
    obtain ⟨c0, c1, c2⟩ := N1.out
    by_cases hlt : k < n.ts.length
    · have MYk := Lib.hid fun j => MY.out k j hlt
      have MDk := Lib.hid (MD.out k)
      have MRk := Lib.hid (MR.out k)
      have HF2 : Hid (F k = false → ∀ j, j < k + 1 → F j = false) := fun h j hj => by
        by_cases e : j = k
        · rw [e]; exact h
        · exact HF.out j (by omega)
      clear MY MD MN1 HF MR
      have F1 : Hid (∀ j, j < 0 → FF k j = false) := fun j hj => absurd hj (by omega)
      go_wp2_with fail
      go_loopw [4] (fun q wr => ∃ j : Nat, j ≤ n.ps.length ∧ q = .int .i64 (j : Nat) ∧ Hid (NBox wr w.heap.size n) ∧ Hid (Below w.heap.size w wr) ∧ Hid (w.heap.size < wr.heap.size) ∧ Hid (∀ i, i < j → FF k i = false)) (fun q _ => n.ps.length - (intOf q).toNat)
      case atStart => exact ⟨0, by omega, rfl, N1, B1, S1, F1⟩
      case round =>
        clear N1 B1 S1 F1 c0 c1 c2
        obtain ⟨w1, rfl⟩ : ∃ w1, w1 = wr := ⟨_, rfl⟩
        obtain ⟨j, hj, rfl, N1, B1, S1, HJ⟩ := hrel
        obtain ⟨c0, c1, c2⟩ := N1.out
        by_cases hjl : j < n.ps.length
        · have MYj := Lib.hid (MYk.out j hjl)
          have MDj := Lib.hid (MDk.out j)
          have HJ2 : Hid (FF k j = false → ∀ i, i < j + 1 → FF k i = false) := fun h i hi => by
            by_cases e : i = j
            · rw [e]; exact h
            · exact HJ.out i (by omega)
          have CM1 := Lib.hid (CM.out k j w1 B1.out)
          have CW1 := Lib.hid fun W hW => CW.out k j W hW
          clear CM CW MYk MDk MRk HJ HF2
          generalize mt (k : Int) (j : Int) = a at *
          generalize ou (k : Int) (j : Int) = b at *
          go_wp2_with fail
          refine (CM1.out).mono ?_
          rintro e w2 ⟨rfl, K2⟩
          have N2 := Lib.hid (N1.out.below K2 S1.out)
          have B2 := Lib.hid (B1.out.trans (K2.mono B1.out.size))
          have S2 : Hid (w.heap.size < w2.heap.size) := Nat.lt_of_lt_of_le S1.out K2.size
          clear K2
          obtain ⟨c0, c1, c2⟩ := N2.out
          clear CM1
          by_cases ha : 0 < a
          · have MDj : Hid (FF k j = decide (0 < b)) := by show _ = _; rw [MDj.out, decide_eq_true ha, Bool.true_and]
            have CW3 := Lib.hid (CW1.out w2 B2.out)
            clear CW1
            go_wp2_with fail
            refine (CW3.out).mono ?_
            rintro e w3 ⟨rfl, K3⟩
            have N3 := Lib.hid (N2.out.below K3 S2.out)
            have B3 := Lib.hid (B2.out.trans (K3.mono B2.out.size))
            have S3 : Hid (w.heap.size < w3.heap.size) := Nat.lt_of_lt_of_le S2.out K3.size
            clear K3
            obtain ⟨c0, c1, c2⟩ := N3.out
            clear CW3
            by_cases hb : 0 < b
            · have E := Lib.hid (MYj.out (by rw [MDj.out]; exact decide_eq_true hb))
              clear MDj MYj HJ2
              go_wp2
              go_ret
              exact ⟨by rw [E.out]; rfl, B3.out⟩
            · have HJ3 := Lib.hid (HJ2.out (by rw [MDj.out]; exact decide_eq_false hb))
              clear MDj MYj HJ2
              go_wp2
              go_roundw
              case rel => exact ⟨j + 1, by omega, by go_num, N3, B3, S3, HJ3⟩
              case measure => simp [intOf]; omega
          · have HJ3 := Lib.hid (HJ2.out (by rw [MDj.out, decide_eq_false ha]; rfl))
            clear MDj MYj HJ2 CW1
            go_wp2
            go_roundw
            case rel => exact ⟨j + 1, by omega, by go_num, N2, B2, S2, HJ3⟩
            case measure => simp [intOf]; omega
        · have HF3 := Lib.hid (HF2.out (MRk.out fun i hi => HJ.out i (by omega)))
          clear HF2 MRk HJ MYk MDk CM CW
          go_wp2
          go_roundw
          case rel => exact ⟨k + 1, by omega, by go_num, N1, B1, S1, HF3⟩
          case measure => simp [intOf]; omega
    · have E := Lib.hid (MN1.out fun j hj => HF.out j (by omega))
      clear MN1 MY MD HF MR CM CW
      go_wp2
      go_ret
      exact ⟨by rw [E.out]; rfl, B1.out⟩
end Go.Proofs.YtlbcdnobpnllkaaGreat
