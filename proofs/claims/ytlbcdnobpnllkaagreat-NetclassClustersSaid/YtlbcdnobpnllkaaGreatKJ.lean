/- Classes of nets: the reference's classes. -/
import Derived.Test.YtlbcdnobpnllkaaGreatKI
import Derived.Test.YtlbcdnobpnllkaaGreatU
namespace Go.Proofs.YtlbcdnobpnllkaaGreat
open Go.RowKit Go.Deep

def basN (n : NetV) : Bool := okN n && plainN n && ordinaryN n
def meetF (n : NetV) (p q : Int) (t : Nat) : Bool := conF n.ts p t && conF n.ts q t
def meetN (n : NetV) (p q : Int) : Bool := anyB (meetF n p q) n.ts.length
def outF (n : NetV) (p q : Int) (t : Nat) : Bool := conF n.ts p t && !conF n.ts q t
def outN (n : NetV) (p q : Int) : Bool := anyB (outF n p q) n.ts.length
theorem bas_ok {n : NetV} (h : basN n = true) : okN n = true := by
  unfold basN at h
  cases e : okN n
  · rw [e] at h; cases h
  · rfl
set_option maxHeartbeats 4000000 in
set_option maxRecDepth 100000 in
theorem rbas_any (n : NetV) (w : World) (hr : NetR w n) :
    Calls Tryz.prog 55 #[(.agg #[.string n.nm, .slice n.PA n.ps.length n.pc, .slice n.TA n.ts.length n.tc])] w (VPost w.heap.size w (.bool (basN n))) := by
  have CV := Lib.hid fun W (hW : Below w.heap.size w W) => rvalidN_any n W (hr.below hW (Nat.le_refl _))
  have CP := Lib.hid fun W (hW : Below w.heap.size w W) => rplainN_any n W (hr.below hW (Nat.le_refl _))
  have CO := Lib.hid fun W (hW : Below w.heap.size w W) => rordinaryN_any n W (hr.below hW (Nat.le_refl _))
  have BD : Hid (basN n = (okN n && plainN n && ordinaryN n)) := rfl
  have B0 : Hid (Below w.heap.size w (w.alloc (.cells #[.string n.nm, .slice n.PA n.ps.length n.pc, .slice n.TA n.ts.length n.tc] 25))) := (Below.refl _ _).alloc (Nat.le_refl _) _
  have N0 : Hid (NBox (w.alloc (.cells #[.string n.nm, .slice n.PA n.ps.length n.pc, .slice n.TA n.ts.length n.tc] 25)) w.heap.size n) := NBox.new w n
  have S0 : Hid (w.heap.size < (w.alloc (.cells #[.string n.nm, .slice n.PA n.ps.length n.pc, .slice n.TA n.ts.length n.tc] 25)).heap.size) := by show _ < _; simp
  clear hr
  generalize basN n = V at *
  generalize okN n = a at *
  generalize plainN n = b at *
  generalize ordinaryN n = c at *
  go_enter Tryz.func55, Tryz.ntmps55
  go_wp2_with fail
  refine (CV.out _ B0.out).mono ?_
  rintro e w1 ⟨rfl, K1⟩
  have N1 := Lib.hid (N0.out.below K1 S0.out)
  have B1 := Lib.hid (B0.out.trans (K1.mono B0.out.size))
  have S1 : Hid (w.heap.size < w1.heap.size) := Nat.lt_of_lt_of_le S0.out K1.size
  clear K1
  obtain ⟨c0, c1, c2⟩ := N1.out
  cases a
  · have E : Hid (V = false) := BD.out
    go_wp2
    go_ret
    exact ⟨by rw [E.out]; rfl, B1.out⟩
  · have BD : Hid (V = (b && c)) := BD.out
    go_wp2_with fail
    refine (CP.out _ B1.out).mono ?_
    rintro e w2 ⟨rfl, K2⟩
    have N2 := Lib.hid (N1.out.below K2 S1.out)
    have B2 := Lib.hid (B1.out.trans (K2.mono B1.out.size))
    have S2 : Hid (w.heap.size < w2.heap.size) := Nat.lt_of_lt_of_le S1.out K2.size
    clear K2
    obtain ⟨c0, c1, c2⟩ := N2.out
    cases b
    · have E : Hid (V = false) := BD.out
      go_wp2
      go_ret
      exact ⟨by rw [E.out]; rfl, B2.out⟩
    · have E : Hid (V = c) := BD.out
      go_wp2_with fail
      refine (CO.out _ B2.out).mono ?_
      rintro e w3 ⟨rfl, K3⟩
      have N3 := Lib.hid (N2.out.below K3 S2.out)
      have B3 := Lib.hid (B2.out.trans (K3.mono B2.out.size))
      have S3 : Hid (w.heap.size < w3.heap.size) := Nat.lt_of_lt_of_le S2.out K3.size
      clear K3
      obtain ⟨c0, c1, c2⟩ := N3.out
      go_wp2
      go_ret
      exact ⟨by rw [E.out]; cases c <;> rfl, B3.out⟩
set_option maxHeartbeats 4000000 in
set_option maxRecDepth 100000 in
theorem rmeet_any (n : NetV) (p q : Int) (w : World) (hr : NetR w n) :
    Calls Tryz.prog 64 #[(.agg #[.string n.nm, .slice n.PA n.ps.length n.pc, .slice n.TA n.ts.length n.tc]), .int .i64 p, .int .i64 q] w (VPost w.heap.size w (.bool (meetN n p q))) := by
  have htl := hr.okt.1
  have RT := Lib.hid fun W (hW : Below w.heap.size w W) => (hr.below hW (Nat.le_refl _)).rt
  have OT := Lib.hid hr.okt.2
  have MY : Hid (∀ k, k < n.ts.length → meetF n p q k = true → meetN n p q = true) := fun k h1 h2 => anyB_yes h1 h2
  have MN : Hid ((∀ k, k < n.ts.length → meetF n p q k = false) → meetN n p q = false) := fun h => anyB_no h
  have MD : Hid (∀ t, meetF n p q t = (decide (0 < weightV (tA n.ts t).pre.l p) && decide (0 < weightV (tA n.ts t).pre.l q))) := fun _ => rfl
  have WN : Hid (∀ t, t < n.ts.length → 0 ≤ weightV (tA n.ts t).pre.l q ∨ True) := fun _ _ => Or.inr trivial
  have B0 : Hid (Below w.heap.size w (w.alloc (.cells #[.string n.nm, .slice n.PA n.ps.length n.pc, .slice n.TA n.ts.length n.tc] 25))) := (Below.refl _ _).alloc (Nat.le_refl _) _
  have N0 : Hid (NBox (w.alloc (.cells #[.string n.nm, .slice n.PA n.ps.length n.pc, .slice n.TA n.ts.length n.tc] 25)) w.heap.size n) := NBox.new w n
  have S0 : Hid (w.heap.size < (w.alloc (.cells #[.string n.nm, .slice n.PA n.ps.length n.pc, .slice n.TA n.ts.length n.tc] 25)).heap.size) := by show _ < _; simp
  have F0 : Hid (∀ j, j < 0 → meetF n p q j = false) := fun j hj => absurd hj (by omega)
  clear hr
  generalize meetN n p q = V at *
  generalize meetF n p q = F at *
  go_enter Tryz.func64, Tryz.ntmps64
  go_wp2_with fail
  go_loopw [7] (fun q wr => ∃ k : Nat, k ≤ n.ts.length ∧ q = .int .i64 (k : Nat) ∧ Hid (NBox wr w.heap.size n) ∧ Hid (Below w.heap.size w wr) ∧ Hid (w.heap.size < wr.heap.size) ∧ Hid (∀ j, j < k → F j = false)) (fun q _ => n.ts.length - (intOf q).toNat)
  case atStart => exact ⟨0, by omega, rfl, N0, B0, S0, F0⟩
  case round =>
    clear N0 B0 S0 F0
    obtain ⟨w0, rfl⟩ : ∃ w0, w0 = wr := ⟨_, rfl⟩
    obtain ⟨k, hk, rfl, N0, B0, S0, HF⟩ := hrel
    obtain ⟨c0, c1, c2⟩ := N0.out
    by_cases hlt : k < n.ts.length
    · obtain ⟨b0, off, e0, hb0, d0, d1, d2, d3, d4, r1, r2, r3⟩ := RT.out w0 B0.out k hlt
      have RA : Hid (∀ W, Below w.heap.size w W → ReadsA W (tA n.ts k).pre.A (tA n.ts k).pre.l ∧ W.cell? ⟨b0, off + k * 11 + 1, none⟩ = W.cell? ⟨b0, off + k * 11 + 1, none⟩) := fun W hW => by
        obtain ⟨b0', off', e0', hb0', d0', d1', d2', d3', d4', r1', r2', r3'⟩ := RT.out W hW k hlt
        exact ⟨r1', rfl⟩
      have hle : (tA n.ts k).pre.l.length ≤ maxLen := Nat.le_trans (OT.out k).2.1 (by unfold maxLen; omega)
      have CW : Hid (∀ W x, Below w.heap.size w W → Calls Tryz.prog 37 #[.slice (tA n.ts k).pre.A (tA n.ts k).pre.l.length (tA n.ts k).pre.c, .int .i64 x] W (VPost W.heap.size W (.int .i64 (weightV (tA n.ts k).pre.l x)))) := fun W x hW => rweight_any _ _ _ x W (RA.out W hW).1 hle
      have MYk := Lib.hid (MY.out k hlt)
      have MDk := Lib.hid (MD.out k)
      have WNk := Lib.hid (WN.out k hlt)
      have HF2 : Hid (F k = false → ∀ j, j < k + 1 → F j = false) := fun h j hj => by
        by_cases e : j = k
        · rw [e]; exact h
        · exact HF.out j (by omega)
      have d1H := Lib.hid d1
      have hbs : b0 < w0.heap.size := World.block_lt_of_cell? w0 _ d1
      rw [e0] at c2
      clear r1 r2 r3 d0 d2 d3 d4 MY MD WN MN HF RT OT RA hle e0
      have CWp := Lib.hid (CW.out w0 p B0.out)
      generalize weightV (tA n.ts k).pre.l p = wp at *
      go_wp2_with fail
      refine CWp.out.mono ?_
      rintro e w1 ⟨rfl, K1⟩
      have d1' := (K1.cell (by exact hbs)).trans d1
      have N1 := Lib.hid (N0.out.below K1 S0.out)
      have B1 := Lib.hid (B0.out.trans (K1.mono B0.out.size))
      have S1 : Hid (w.heap.size < w1.heap.size) := Nat.lt_of_lt_of_le S0.out K1.size
      have c0' := (K1.cell (show (⟨w.heap.size, 0, none⟩ : Addr).block < w0.heap.size from S0.out)).trans c0
      have c1' := (K1.cell (show (⟨w.heap.size, 1, none⟩ : Addr).block < w0.heap.size from S0.out)).trans c1
      have c2' := (K1.cell (show (⟨w.heap.size, 2, none⟩ : Addr).block < w0.heap.size from S0.out)).trans c2
      clear K1 CWp d1 c0 c1 c2
      have CWq := Lib.hid (CW.out w1 q B1.out)
      clear CW
      generalize weightV (tA n.ts k).pre.l q = wq at *
      by_cases h1 : 0 < wp
      · have MDk : Hid (F k = decide (0 < wq)) := by show _ = _; rw [MDk.out, decide_eq_true h1, Bool.true_and]
        go_wp2_with fail
        refine CWq.out.mono ?_
        rintro e w2 ⟨rfl, K2⟩
        have N2 := Lib.hid (N1.out.below K2 S1.out)
        have B2 := Lib.hid (B1.out.trans (K2.mono B1.out.size))
        have S2 : Hid (w.heap.size < w2.heap.size) := Nat.lt_of_lt_of_le S1.out K2.size
        clear K2 CWq d1' c0' c1' c2'
        by_cases h2 : 0 < wq
        · skip
          have E := Lib.hid (MYk.out (by rw [MDk.out]; exact decide_eq_true h2))
          clear MDk MYk HF2 WNk
          go_wp2
          go_ret
          exact ⟨by rw [E.out]; rfl, B2.out⟩
        · skip
          have HF3 := Lib.hid (HF2.out (by rw [MDk.out]; exact decide_eq_false h2))
          clear MDk MYk HF2 WNk
          go_wp2
          go_roundw
          case rel => exact ⟨k + 1, by omega, by go_num, N2, B2, S2, HF3⟩
          case measure => simp [intOf]; omega
      · have HF3 := Lib.hid (HF2.out (by rw [MDk.out, decide_eq_false h1, Bool.false_and]))
        clear CWq MDk MYk HF2 WNk
        go_wp2
        go_roundw
        case rel => exact ⟨k + 1, by omega, by go_num, N1, B1, S1, HF3⟩
        case measure => simp [intOf]; omega
    · have E := Lib.hid (MN.out fun j hj => HF.out j (by omega))
      clear MY MN MD HF WN RT OT
      go_wp2
      go_ret
      exact ⟨by rw [E.out]; rfl, B0.out⟩
set_option maxHeartbeats 4000000 in
set_option maxRecDepth 100000 in
theorem rwithin_any (n : NetV) (p q : Int) (w : World) (hr : NetR w n) (hok : okN n = true) :
    Calls Tryz.prog 65 #[(.agg #[.string n.nm, .slice n.PA n.ps.length n.pc, .slice n.TA n.ts.length n.tc]), .int .i64 p, .int .i64 q] w (VPost w.heap.size w (.bool (!outN n p q))) := by
  have htl := hr.okt.1
  have RT := Lib.hid fun W (hW : Below w.heap.size w W) => (hr.below hW (Nat.le_refl _)).rt
  have OT := Lib.hid hr.okt.2
  have MY : Hid (∀ k, k < n.ts.length → outF n p q k = true → outN n p q = true) := fun k h1 h2 => anyB_yes h1 h2
  have MN : Hid ((∀ k, k < n.ts.length → outF n p q k = false) → outN n p q = false) := fun h => anyB_no h
  have MD : Hid (∀ t, outF n p q t = (decide (0 < weightV (tA n.ts t).pre.l p) && !decide (0 < weightV (tA n.ts t).pre.l q))) := fun _ => rfl
  have WN : Hid (∀ t, t < n.ts.length → 0 ≤ weightV (tA n.ts t).pre.l q ∨ False) := fun t ht => by obtain ⟨_, _, _, _, _, h6⟩ := okN_parts hok; obtain ⟨_, _, _, _, _, a1, _, _⟩ := transE_parts (h6 t ht); exact Or.inl (weight_bd a1).1
  have B0 : Hid (Below w.heap.size w (w.alloc (.cells #[.string n.nm, .slice n.PA n.ps.length n.pc, .slice n.TA n.ts.length n.tc] 25))) := (Below.refl _ _).alloc (Nat.le_refl _) _
  have N0 : Hid (NBox (w.alloc (.cells #[.string n.nm, .slice n.PA n.ps.length n.pc, .slice n.TA n.ts.length n.tc] 25)) w.heap.size n) := NBox.new w n
  have S0 : Hid (w.heap.size < (w.alloc (.cells #[.string n.nm, .slice n.PA n.ps.length n.pc, .slice n.TA n.ts.length n.tc] 25)).heap.size) := by show _ < _; simp
  have F0 : Hid (∀ j, j < 0 → outF n p q j = false) := fun j hj => absurd hj (by omega)
  clear hr hok
  generalize outN n p q = V at *
  generalize outF n p q = F at *
  go_enter Tryz.func65, Tryz.ntmps65
  go_wp2_with fail
  go_loopw [7] (fun q wr => ∃ k : Nat, k ≤ n.ts.length ∧ q = .int .i64 (k : Nat) ∧ Hid (NBox wr w.heap.size n) ∧ Hid (Below w.heap.size w wr) ∧ Hid (w.heap.size < wr.heap.size) ∧ Hid (∀ j, j < k → F j = false)) (fun q _ => n.ts.length - (intOf q).toNat)
  case atStart => exact ⟨0, by omega, rfl, N0, B0, S0, F0⟩
  case round =>
    clear N0 B0 S0 F0
    obtain ⟨w0, rfl⟩ : ∃ w0, w0 = wr := ⟨_, rfl⟩
    obtain ⟨k, hk, rfl, N0, B0, S0, HF⟩ := hrel
    obtain ⟨c0, c1, c2⟩ := N0.out
    by_cases hlt : k < n.ts.length
    · obtain ⟨b0, off, e0, hb0, d0, d1, d2, d3, d4, r1, r2, r3⟩ := RT.out w0 B0.out k hlt
      have RA : Hid (∀ W, Below w.heap.size w W → ReadsA W (tA n.ts k).pre.A (tA n.ts k).pre.l ∧ W.cell? ⟨b0, off + k * 11 + 1, none⟩ = W.cell? ⟨b0, off + k * 11 + 1, none⟩) := fun W hW => by
        obtain ⟨b0', off', e0', hb0', d0', d1', d2', d3', d4', r1', r2', r3'⟩ := RT.out W hW k hlt
        exact ⟨r1', rfl⟩
      have hle : (tA n.ts k).pre.l.length ≤ maxLen := Nat.le_trans (OT.out k).2.1 (by unfold maxLen; omega)
      have CW : Hid (∀ W x, Below w.heap.size w W → Calls Tryz.prog 37 #[.slice (tA n.ts k).pre.A (tA n.ts k).pre.l.length (tA n.ts k).pre.c, .int .i64 x] W (VPost W.heap.size W (.int .i64 (weightV (tA n.ts k).pre.l x)))) := fun W x hW => rweight_any _ _ _ x W (RA.out W hW).1 hle
      have MYk := Lib.hid (MY.out k hlt)
      have MDk := Lib.hid (MD.out k)
      have WNk := Lib.hid (WN.out k hlt)
      have HF2 : Hid (F k = false → ∀ j, j < k + 1 → F j = false) := fun h j hj => by
        by_cases e : j = k
        · rw [e]; exact h
        · exact HF.out j (by omega)
      have d1H := Lib.hid d1
      have hbs : b0 < w0.heap.size := World.block_lt_of_cell? w0 _ d1
      rw [e0] at c2
      clear r1 r2 r3 d0 d2 d3 d4 MY MD WN MN HF RT OT RA hle e0
      have CWp := Lib.hid (CW.out w0 p B0.out)
      generalize weightV (tA n.ts k).pre.l p = wp at *
      go_wp2_with fail
      refine CWp.out.mono ?_
      rintro e w1 ⟨rfl, K1⟩
      have d1' := (K1.cell (by exact hbs)).trans d1
      have N1 := Lib.hid (N0.out.below K1 S0.out)
      have B1 := Lib.hid (B0.out.trans (K1.mono B0.out.size))
      have S1 : Hid (w.heap.size < w1.heap.size) := Nat.lt_of_lt_of_le S0.out K1.size
      have c0' := (K1.cell (show (⟨w.heap.size, 0, none⟩ : Addr).block < w0.heap.size from S0.out)).trans c0
      have c1' := (K1.cell (show (⟨w.heap.size, 1, none⟩ : Addr).block < w0.heap.size from S0.out)).trans c1
      have c2' := (K1.cell (show (⟨w.heap.size, 2, none⟩ : Addr).block < w0.heap.size from S0.out)).trans c2
      clear K1 CWp d1 c0 c1 c2
      have CWq := Lib.hid (CW.out w1 q B1.out)
      clear CW
      generalize weightV (tA n.ts k).pre.l q = wq at *
      by_cases h1 : 0 < wp
      · have MDk : Hid (F k = !decide (0 < wq)) := by show _ = _; rw [MDk.out, decide_eq_true h1, Bool.true_and]
        go_wp2_with fail
        refine CWq.out.mono ?_
        rintro e w2 ⟨rfl, K2⟩
        have N2 := Lib.hid (N1.out.below K2 S1.out)
        have B2 := Lib.hid (B1.out.trans (K2.mono B1.out.size))
        have S2 : Hid (w.heap.size < w2.heap.size) := Nat.lt_of_lt_of_le S1.out K2.size
        clear K2 CWq d1' c0' c1' c2'
        by_cases h2 : 0 < wq
        · have e2 : (wq == 0) = false := by simp; omega
          have HF3 := Lib.hid (HF2.out (by rw [MDk.out, decide_eq_true h2]; rfl))
          clear MDk MYk HF2 WNk
          go_wp2
          go_roundw
          case rel => exact ⟨k + 1, by omega, by go_num, N2, B2, S2, HF3⟩
          case measure => simp [intOf]; omega
        · have e2 : (wq == 0) = true := by simp; have := WNk.out.resolve_right id; omega
          have E := Lib.hid (MYk.out (by rw [MDk.out, decide_eq_false h2]; rfl))
          clear MDk MYk HF2 WNk
          go_wp2
          go_ret
          exact ⟨by rw [E.out]; rfl, B2.out⟩
      · have HF3 := Lib.hid (HF2.out (by rw [MDk.out, decide_eq_false h1, Bool.false_and]))
        clear CWq MDk MYk HF2 WNk
        go_wp2
        go_roundw
        case rel => exact ⟨k + 1, by omega, by go_num, N1, B1, S1, HF3⟩
        case measure => simp [intOf]; omega
    · have E := Lib.hid (MN.out fun j hj => HF.out j (by omega))
      clear MY MN MD HF WN RT OT
      go_wp2
      go_ret
      exact ⟨by rw [E.out]; rfl, B0.out⟩
end Go.Proofs.YtlbcdnobpnllkaaGreat
