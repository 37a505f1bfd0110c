/- Equality of nets. -/
import Derived.Test.YtlmchanciegggaaW
namespace Go.Proofs.Ytlmchanciegggaa
open Go.RowKit

def sameN (a b : NetV) : Bool := okN a && (okN b && equalN a b)

set_option maxHeartbeats 8000000 in
set_option maxRecDepth 100000 in
theorem sameN_any (a b : NetV) (w : World) (hr : NetR w a) (hs : NetR w b) :
    Calls Try.prog 44 #[.agg #[.string a.nm, .slice a.PA a.ps.length a.pc, .slice a.TA a.ts.length a.tc], .agg #[.string b.nm, .slice b.PA b.ps.length b.pc, .slice b.TA b.ts.length b.tc]] w (VPost w.heap.size w (.bool (sameN a b))) := by
  have CA := fun W (hW : Below w.heap.size w W) => validN_any a W (hr.below hW (Nat.le_refl _))
  have CB := fun W (hW : Below w.heap.size w W) => validN_any b W (hs.below hW (Nat.le_refl _))
  have CP := fun W (hW : Below w.heap.size w W) => sameP_any a.PA b.PA a.ps b.ps a.pc b.pc W (hr.below hW (Nat.le_refl _)).rp (hs.below hW (Nat.le_refl _)).rp hr.okp.1 hs.okp.1
  have CT := fun W (hW : Below w.heap.size w W) => sameT_any a.TA b.TA a.ts b.ts a.tc b.tc W (hr.below hW (Nat.le_refl _)).rt (hs.below hW (Nat.le_refl _)).rt hr.okt hs.okt
  have hD : sameN a b = (okN a && (okN b && (eqS a.nm b.nm && (sameP a.ps b.ps && sameT a.ts b.ts)))) := rfl
  have hq : eqS a.nm b.nm = (a.nm.toList == b.nm.toList) := rfl
  generalize sameN a b = S at *
  generalize okN a = t1 at *
  generalize okN b = t2 at *
  generalize eqS a.nm b.nm = t3 at *
  generalize sameP a.ps b.ps = t4 at *
  generalize sameT a.ts b.ts = t5 at *
  have HQ := Lib.hid hq
  clear hr hs hq
  obtain ⟨nm, PA, ps, pc, TA, ts, tc⟩ := a
  obtain ⟨nm2, PB, qs, qc, TB, us, uc⟩ := b
  dsimp only at *
  replace CA := Lib.hid CA
  replace CB := Lib.hid CB
  replace CP := Lib.hid CP
  replace CT := Lib.hid CT
  have B0 : Hid (Below w.heap.size w ((w.alloc (.cells #[.string nm, .slice PA ps.length pc, .slice TA ts.length tc] 25)).alloc (.cells #[.string nm2, .slice PB qs.length qc, .slice TB us.length uc] 25))) := ((Below.refl _ _).alloc (Nat.le_refl _) _).alloc (by simp) _
  cases t1
  · have E : Hid (false = S) := by show _ = _; rw [hD]; rfl
    clear hD
    go_enter Try.func44, Try.ntmps44
    go_wp2_with fail
    refine (CA.out _ B0.out).mono ?_
    rintro e w1 ⟨rfl, K⟩
    have x0w1 : w1.cell? ⟨w.heap.size, 0, none⟩ = some (.string nm) := by rw [K.cell (by simp; omega)]; simp
    have x1w1 : w1.cell? ⟨w.heap.size, 1, none⟩ = some (.slice PA ps.length pc) := by rw [K.cell (by simp; omega)]; simp
    have x2w1 : w1.cell? ⟨w.heap.size, 2, none⟩ = some (.slice TA ts.length tc) := by rw [K.cell (by simp; omega)]; simp
    have x3w1 : w1.cell? ⟨w.heap.size + 1, 0, none⟩ = some (.string nm2) := by rw [K.cell (by simp)]; simp
    have x4w1 : w1.cell? ⟨w.heap.size + 1, 1, none⟩ = some (.slice PB qs.length qc) := by rw [K.cell (by simp)]; simp
    have x5w1 : w1.cell? ⟨w.heap.size + 1, 2, none⟩ = some (.slice TB us.length uc) := by rw [K.cell (by simp)]; simp
    have K1 := Lib.hid (B0.out.trans (K.mono (by simp; omega)))
    clear K
    go_wp2
    go_ret
    exact ⟨ret_b E.out, K1.out⟩
  · cases t2
    · have E : Hid (false = S) := by show _ = _; rw [hD]; rfl
      clear hD
      go_enter Try.func44, Try.ntmps44
      go_wp2_with fail
      refine (CA.out _ B0.out).mono ?_
      rintro e w1 ⟨rfl, K⟩
      have x0w1 : w1.cell? ⟨w.heap.size, 0, none⟩ = some (.string nm) := by rw [K.cell (by simp; omega)]; simp
      have x1w1 : w1.cell? ⟨w.heap.size, 1, none⟩ = some (.slice PA ps.length pc) := by rw [K.cell (by simp; omega)]; simp
      have x2w1 : w1.cell? ⟨w.heap.size, 2, none⟩ = some (.slice TA ts.length tc) := by rw [K.cell (by simp; omega)]; simp
      have x3w1 : w1.cell? ⟨w.heap.size + 1, 0, none⟩ = some (.string nm2) := by rw [K.cell (by simp)]; simp
      have x4w1 : w1.cell? ⟨w.heap.size + 1, 1, none⟩ = some (.slice PB qs.length qc) := by rw [K.cell (by simp)]; simp
      have x5w1 : w1.cell? ⟨w.heap.size + 1, 2, none⟩ = some (.slice TB us.length uc) := by rw [K.cell (by simp)]; simp
      have K1 := Lib.hid (B0.out.trans (K.mono (by simp; omega)))
      clear K
      go_wp2_with fail
      refine (CB.out _ K1.out).mono ?_
      rintro e w2 ⟨rfl, K⟩
      have x0w2 : w2.cell? ⟨w.heap.size, 0, none⟩ = some (.string nm) := (K.cell (World.block_lt_of_cell? w1 ⟨w.heap.size, 0, none⟩ x0w1)).trans x0w1
      have x1w2 : w2.cell? ⟨w.heap.size, 1, none⟩ = some (.slice PA ps.length pc) := (K.cell (World.block_lt_of_cell? w1 ⟨w.heap.size, 1, none⟩ x1w1)).trans x1w1
      have x2w2 : w2.cell? ⟨w.heap.size, 2, none⟩ = some (.slice TA ts.length tc) := (K.cell (World.block_lt_of_cell? w1 ⟨w.heap.size, 2, none⟩ x2w1)).trans x2w1
      have x3w2 : w2.cell? ⟨w.heap.size + 1, 0, none⟩ = some (.string nm2) := (K.cell (World.block_lt_of_cell? w1 ⟨w.heap.size + 1, 0, none⟩ x3w1)).trans x3w1
      have x4w2 : w2.cell? ⟨w.heap.size + 1, 1, none⟩ = some (.slice PB qs.length qc) := (K.cell (World.block_lt_of_cell? w1 ⟨w.heap.size + 1, 1, none⟩ x4w1)).trans x4w1
      have x5w2 : w2.cell? ⟨w.heap.size + 1, 2, none⟩ = some (.slice TB us.length uc) := (K.cell (World.block_lt_of_cell? w1 ⟨w.heap.size + 1, 2, none⟩ x5w1)).trans x5w1
      have K2 := Lib.hid (K1.out.trans (K.mono K1.out.size))
      clear x0w1 x1w1 x2w1 x3w1 x4w1 x5w1
      clear K
      go_wp2
      go_ret
      exact ⟨ret_b E.out, K2.out⟩
    · cases t3
      · have E : Hid (false = S) := by show _ = _; rw [hD]; rfl
        clear hD
        have hq2 := HQ.out.symm
        go_enter Try.func44, Try.ntmps44
        go_wp2_with fail
        refine (CA.out _ B0.out).mono ?_
        rintro e w1 ⟨rfl, K⟩
        have x0w1 : w1.cell? ⟨w.heap.size, 0, none⟩ = some (.string nm) := by rw [K.cell (by simp; omega)]; simp
        have x1w1 : w1.cell? ⟨w.heap.size, 1, none⟩ = some (.slice PA ps.length pc) := by rw [K.cell (by simp; omega)]; simp
        have x2w1 : w1.cell? ⟨w.heap.size, 2, none⟩ = some (.slice TA ts.length tc) := by rw [K.cell (by simp; omega)]; simp
        have x3w1 : w1.cell? ⟨w.heap.size + 1, 0, none⟩ = some (.string nm2) := by rw [K.cell (by simp)]; simp
        have x4w1 : w1.cell? ⟨w.heap.size + 1, 1, none⟩ = some (.slice PB qs.length qc) := by rw [K.cell (by simp)]; simp
        have x5w1 : w1.cell? ⟨w.heap.size + 1, 2, none⟩ = some (.slice TB us.length uc) := by rw [K.cell (by simp)]; simp
        have K1 := Lib.hid (B0.out.trans (K.mono (by simp; omega)))
        clear K
        go_wp2_with fail
        refine (CB.out _ K1.out).mono ?_
        rintro e w2 ⟨rfl, K⟩
        have x0w2 : w2.cell? ⟨w.heap.size, 0, none⟩ = some (.string nm) := (K.cell (World.block_lt_of_cell? w1 ⟨w.heap.size, 0, none⟩ x0w1)).trans x0w1
        have x1w2 : w2.cell? ⟨w.heap.size, 1, none⟩ = some (.slice PA ps.length pc) := (K.cell (World.block_lt_of_cell? w1 ⟨w.heap.size, 1, none⟩ x1w1)).trans x1w1
        have x2w2 : w2.cell? ⟨w.heap.size, 2, none⟩ = some (.slice TA ts.length tc) := (K.cell (World.block_lt_of_cell? w1 ⟨w.heap.size, 2, none⟩ x2w1)).trans x2w1
        have x3w2 : w2.cell? ⟨w.heap.size + 1, 0, none⟩ = some (.string nm2) := (K.cell (World.block_lt_of_cell? w1 ⟨w.heap.size + 1, 0, none⟩ x3w1)).trans x3w1
        have x4w2 : w2.cell? ⟨w.heap.size + 1, 1, none⟩ = some (.slice PB qs.length qc) := (K.cell (World.block_lt_of_cell? w1 ⟨w.heap.size + 1, 1, none⟩ x4w1)).trans x4w1
        have x5w2 : w2.cell? ⟨w.heap.size + 1, 2, none⟩ = some (.slice TB us.length uc) := (K.cell (World.block_lt_of_cell? w1 ⟨w.heap.size + 1, 2, none⟩ x5w1)).trans x5w1
        have K2 := Lib.hid (K1.out.trans (K.mono K1.out.size))
        clear x0w1 x1w1 x2w1 x3w1 x4w1 x5w1
        clear K
        go_wp2
        go_ret
        exact ⟨ret_b E.out, K2.out⟩
      · cases t4
        · have E : Hid (false = S) := by show _ = _; rw [hD]; rfl
          clear hD
          have hq2 := HQ.out.symm
          go_enter Try.func44, Try.ntmps44
          go_wp2_with fail
          refine (CA.out _ B0.out).mono ?_
          rintro e w1 ⟨rfl, K⟩
          have x0w1 : w1.cell? ⟨w.heap.size, 0, none⟩ = some (.string nm) := by rw [K.cell (by simp; omega)]; simp
          have x1w1 : w1.cell? ⟨w.heap.size, 1, none⟩ = some (.slice PA ps.length pc) := by rw [K.cell (by simp; omega)]; simp
          have x2w1 : w1.cell? ⟨w.heap.size, 2, none⟩ = some (.slice TA ts.length tc) := by rw [K.cell (by simp; omega)]; simp
          have x3w1 : w1.cell? ⟨w.heap.size + 1, 0, none⟩ = some (.string nm2) := by rw [K.cell (by simp)]; simp
          have x4w1 : w1.cell? ⟨w.heap.size + 1, 1, none⟩ = some (.slice PB qs.length qc) := by rw [K.cell (by simp)]; simp
          have x5w1 : w1.cell? ⟨w.heap.size + 1, 2, none⟩ = some (.slice TB us.length uc) := by rw [K.cell (by simp)]; simp
          have K1 := Lib.hid (B0.out.trans (K.mono (by simp; omega)))
          clear K
          go_wp2_with fail
          refine (CB.out _ K1.out).mono ?_
          rintro e w2 ⟨rfl, K⟩
          have x0w2 : w2.cell? ⟨w.heap.size, 0, none⟩ = some (.string nm) := (K.cell (World.block_lt_of_cell? w1 ⟨w.heap.size, 0, none⟩ x0w1)).trans x0w1
          have x1w2 : w2.cell? ⟨w.heap.size, 1, none⟩ = some (.slice PA ps.length pc) := (K.cell (World.block_lt_of_cell? w1 ⟨w.heap.size, 1, none⟩ x1w1)).trans x1w1
          have x2w2 : w2.cell? ⟨w.heap.size, 2, none⟩ = some (.slice TA ts.length tc) := (K.cell (World.block_lt_of_cell? w1 ⟨w.heap.size, 2, none⟩ x2w1)).trans x2w1
          have x3w2 : w2.cell? ⟨w.heap.size + 1, 0, none⟩ = some (.string nm2) := (K.cell (World.block_lt_of_cell? w1 ⟨w.heap.size + 1, 0, none⟩ x3w1)).trans x3w1
          have x4w2 : w2.cell? ⟨w.heap.size + 1, 1, none⟩ = some (.slice PB qs.length qc) := (K.cell (World.block_lt_of_cell? w1 ⟨w.heap.size + 1, 1, none⟩ x4w1)).trans x4w1
          have x5w2 : w2.cell? ⟨w.heap.size + 1, 2, none⟩ = some (.slice TB us.length uc) := (K.cell (World.block_lt_of_cell? w1 ⟨w.heap.size + 1, 2, none⟩ x5w1)).trans x5w1
          have K2 := Lib.hid (K1.out.trans (K.mono K1.out.size))
          clear x0w1 x1w1 x2w1 x3w1 x4w1 x5w1
          clear K
          go_wp2_with fail
          refine (CP.out _ K2.out).mono ?_
          rintro e w3 ⟨rfl, K⟩
          have x0w3 : w3.cell? ⟨w.heap.size, 0, none⟩ = some (.string nm) := (K.cell (World.block_lt_of_cell? w2 ⟨w.heap.size, 0, none⟩ x0w2)).trans x0w2
          have x1w3 : w3.cell? ⟨w.heap.size, 1, none⟩ = some (.slice PA ps.length pc) := (K.cell (World.block_lt_of_cell? w2 ⟨w.heap.size, 1, none⟩ x1w2)).trans x1w2
          have x2w3 : w3.cell? ⟨w.heap.size, 2, none⟩ = some (.slice TA ts.length tc) := (K.cell (World.block_lt_of_cell? w2 ⟨w.heap.size, 2, none⟩ x2w2)).trans x2w2
          have x3w3 : w3.cell? ⟨w.heap.size + 1, 0, none⟩ = some (.string nm2) := (K.cell (World.block_lt_of_cell? w2 ⟨w.heap.size + 1, 0, none⟩ x3w2)).trans x3w2
          have x4w3 : w3.cell? ⟨w.heap.size + 1, 1, none⟩ = some (.slice PB qs.length qc) := (K.cell (World.block_lt_of_cell? w2 ⟨w.heap.size + 1, 1, none⟩ x4w2)).trans x4w2
          have x5w3 : w3.cell? ⟨w.heap.size + 1, 2, none⟩ = some (.slice TB us.length uc) := (K.cell (World.block_lt_of_cell? w2 ⟨w.heap.size + 1, 2, none⟩ x5w2)).trans x5w2
          have K3 := Lib.hid (K2.out.trans (K.mono K2.out.size))
          clear x0w2 x1w2 x2w2 x3w2 x4w2 x5w2
          clear K
          go_wp2
          go_ret
          exact ⟨ret_b E.out, K3.out⟩
        · cases t5
          · have E : Hid (false = S) := by show _ = _; rw [hD]; rfl
            clear hD
            have hq2 := HQ.out.symm
            go_enter Try.func44, Try.ntmps44
            go_wp2_with fail
            refine (CA.out _ B0.out).mono ?_
            rintro e w1 ⟨rfl, K⟩
            have x0w1 : w1.cell? ⟨w.heap.size, 0, none⟩ = some (.string nm) := by rw [K.cell (by simp; omega)]; simp
            have x1w1 : w1.cell? ⟨w.heap.size, 1, none⟩ = some (.slice PA ps.length pc) := by rw [K.cell (by simp; omega)]; simp
            have x2w1 : w1.cell? ⟨w.heap.size, 2, none⟩ = some (.slice TA ts.length tc) := by rw [K.cell (by simp; omega)]; simp
            have x3w1 : w1.cell? ⟨w.heap.size + 1, 0, none⟩ = some (.string nm2) := by rw [K.cell (by simp)]; simp
            have x4w1 : w1.cell? ⟨w.heap.size + 1, 1, none⟩ = some (.slice PB qs.length qc) := by rw [K.cell (by simp)]; simp
            have x5w1 : w1.cell? ⟨w.heap.size + 1, 2, none⟩ = some (.slice TB us.length uc) := by rw [K.cell (by simp)]; simp
            have K1 := Lib.hid (B0.out.trans (K.mono (by simp; omega)))
            clear K
            go_wp2_with fail
            refine (CB.out _ K1.out).mono ?_
            rintro e w2 ⟨rfl, K⟩
            have x0w2 : w2.cell? ⟨w.heap.size, 0, none⟩ = some (.string nm) := (K.cell (World.block_lt_of_cell? w1 ⟨w.heap.size, 0, none⟩ x0w1)).trans x0w1
            have x1w2 : w2.cell? ⟨w.heap.size, 1, none⟩ = some (.slice PA ps.length pc) := (K.cell (World.block_lt_of_cell? w1 ⟨w.heap.size, 1, none⟩ x1w1)).trans x1w1
            have x2w2 : w2.cell? ⟨w.heap.size, 2, none⟩ = some (.slice TA ts.length tc) := (K.cell (World.block_lt_of_cell? w1 ⟨w.heap.size, 2, none⟩ x2w1)).trans x2w1
            have x3w2 : w2.cell? ⟨w.heap.size + 1, 0, none⟩ = some (.string nm2) := (K.cell (World.block_lt_of_cell? w1 ⟨w.heap.size + 1, 0, none⟩ x3w1)).trans x3w1
            have x4w2 : w2.cell? ⟨w.heap.size + 1, 1, none⟩ = some (.slice PB qs.length qc) := (K.cell (World.block_lt_of_cell? w1 ⟨w.heap.size + 1, 1, none⟩ x4w1)).trans x4w1
            have x5w2 : w2.cell? ⟨w.heap.size + 1, 2, none⟩ = some (.slice TB us.length uc) := (K.cell (World.block_lt_of_cell? w1 ⟨w.heap.size + 1, 2, none⟩ x5w1)).trans x5w1
            have K2 := Lib.hid (K1.out.trans (K.mono K1.out.size))
            clear x0w1 x1w1 x2w1 x3w1 x4w1 x5w1
            clear K
            go_wp2_with fail
            refine (CP.out _ K2.out).mono ?_
            rintro e w3 ⟨rfl, K⟩
            have x0w3 : w3.cell? ⟨w.heap.size, 0, none⟩ = some (.string nm) := (K.cell (World.block_lt_of_cell? w2 ⟨w.heap.size, 0, none⟩ x0w2)).trans x0w2
            have x1w3 : w3.cell? ⟨w.heap.size, 1, none⟩ = some (.slice PA ps.length pc) := (K.cell (World.block_lt_of_cell? w2 ⟨w.heap.size, 1, none⟩ x1w2)).trans x1w2
            have x2w3 : w3.cell? ⟨w.heap.size, 2, none⟩ = some (.slice TA ts.length tc) := (K.cell (World.block_lt_of_cell? w2 ⟨w.heap.size, 2, none⟩ x2w2)).trans x2w2
            have x3w3 : w3.cell? ⟨w.heap.size + 1, 0, none⟩ = some (.string nm2) := (K.cell (World.block_lt_of_cell? w2 ⟨w.heap.size + 1, 0, none⟩ x3w2)).trans x3w2
            have x4w3 : w3.cell? ⟨w.heap.size + 1, 1, none⟩ = some (.slice PB qs.length qc) := (K.cell (World.block_lt_of_cell? w2 ⟨w.heap.size + 1, 1, none⟩ x4w2)).trans x4w2
            have x5w3 : w3.cell? ⟨w.heap.size + 1, 2, none⟩ = some (.slice TB us.length uc) := (K.cell (World.block_lt_of_cell? w2 ⟨w.heap.size + 1, 2, none⟩ x5w2)).trans x5w2
            have K3 := Lib.hid (K2.out.trans (K.mono K2.out.size))
            clear x0w2 x1w2 x2w2 x3w2 x4w2 x5w2
            clear K
            go_wp2_with fail
            refine (CT.out _ K3.out).mono ?_
            rintro e w4 ⟨rfl, K⟩
            have x0w4 : w4.cell? ⟨w.heap.size, 0, none⟩ = some (.string nm) := (K.cell (World.block_lt_of_cell? w3 ⟨w.heap.size, 0, none⟩ x0w3)).trans x0w3
            have x1w4 : w4.cell? ⟨w.heap.size, 1, none⟩ = some (.slice PA ps.length pc) := (K.cell (World.block_lt_of_cell? w3 ⟨w.heap.size, 1, none⟩ x1w3)).trans x1w3
            have x2w4 : w4.cell? ⟨w.heap.size, 2, none⟩ = some (.slice TA ts.length tc) := (K.cell (World.block_lt_of_cell? w3 ⟨w.heap.size, 2, none⟩ x2w3)).trans x2w3
            have x3w4 : w4.cell? ⟨w.heap.size + 1, 0, none⟩ = some (.string nm2) := (K.cell (World.block_lt_of_cell? w3 ⟨w.heap.size + 1, 0, none⟩ x3w3)).trans x3w3
            have x4w4 : w4.cell? ⟨w.heap.size + 1, 1, none⟩ = some (.slice PB qs.length qc) := (K.cell (World.block_lt_of_cell? w3 ⟨w.heap.size + 1, 1, none⟩ x4w3)).trans x4w3
            have x5w4 : w4.cell? ⟨w.heap.size + 1, 2, none⟩ = some (.slice TB us.length uc) := (K.cell (World.block_lt_of_cell? w3 ⟨w.heap.size + 1, 2, none⟩ x5w3)).trans x5w3
            have K4 := Lib.hid (K3.out.trans (K.mono K3.out.size))
            clear x0w3 x1w3 x2w3 x3w3 x4w3 x5w3
            clear K
            go_wp2
            go_ret
            exact ⟨ret_b E.out, K4.out⟩
          · have E : Hid (true = S) := by show _ = _; rw [hD]; rfl
            clear hD
            have hq2 := HQ.out.symm
            go_enter Try.func44, Try.ntmps44
            go_wp2_with fail
            refine (CA.out _ B0.out).mono ?_
            rintro e w1 ⟨rfl, K⟩
            have x0w1 : w1.cell? ⟨w.heap.size, 0, none⟩ = some (.string nm) := by rw [K.cell (by simp; omega)]; simp
            have x1w1 : w1.cell? ⟨w.heap.size, 1, none⟩ = some (.slice PA ps.length pc) := by rw [K.cell (by simp; omega)]; simp
            have x2w1 : w1.cell? ⟨w.heap.size, 2, none⟩ = some (.slice TA ts.length tc) := by rw [K.cell (by simp; omega)]; simp
            have x3w1 : w1.cell? ⟨w.heap.size + 1, 0, none⟩ = some (.string nm2) := by rw [K.cell (by simp)]; simp
            have x4w1 : w1.cell? ⟨w.heap.size + 1, 1, none⟩ = some (.slice PB qs.length qc) := by rw [K.cell (by simp)]; simp
            have x5w1 : w1.cell? ⟨w.heap.size + 1, 2, none⟩ = some (.slice TB us.length uc) := by rw [K.cell (by simp)]; simp
            have K1 := Lib.hid (B0.out.trans (K.mono (by simp; omega)))
            clear K
            go_wp2_with fail
            refine (CB.out _ K1.out).mono ?_
            rintro e w2 ⟨rfl, K⟩
            have x0w2 : w2.cell? ⟨w.heap.size, 0, none⟩ = some (.string nm) := (K.cell (World.block_lt_of_cell? w1 ⟨w.heap.size, 0, none⟩ x0w1)).trans x0w1
            have x1w2 : w2.cell? ⟨w.heap.size, 1, none⟩ = some (.slice PA ps.length pc) := (K.cell (World.block_lt_of_cell? w1 ⟨w.heap.size, 1, none⟩ x1w1)).trans x1w1
            have x2w2 : w2.cell? ⟨w.heap.size, 2, none⟩ = some (.slice TA ts.length tc) := (K.cell (World.block_lt_of_cell? w1 ⟨w.heap.size, 2, none⟩ x2w1)).trans x2w1
            have x3w2 : w2.cell? ⟨w.heap.size + 1, 0, none⟩ = some (.string nm2) := (K.cell (World.block_lt_of_cell? w1 ⟨w.heap.size + 1, 0, none⟩ x3w1)).trans x3w1
            have x4w2 : w2.cell? ⟨w.heap.size + 1, 1, none⟩ = some (.slice PB qs.length qc) := (K.cell (World.block_lt_of_cell? w1 ⟨w.heap.size + 1, 1, none⟩ x4w1)).trans x4w1
            have x5w2 : w2.cell? ⟨w.heap.size + 1, 2, none⟩ = some (.slice TB us.length uc) := (K.cell (World.block_lt_of_cell? w1 ⟨w.heap.size + 1, 2, none⟩ x5w1)).trans x5w1
            have K2 := Lib.hid (K1.out.trans (K.mono K1.out.size))
            clear x0w1 x1w1 x2w1 x3w1 x4w1 x5w1
            clear K
            go_wp2_with fail
            refine (CP.out _ K2.out).mono ?_
            rintro e w3 ⟨rfl, K⟩
            have x0w3 : w3.cell? ⟨w.heap.size, 0, none⟩ = some (.string nm) := (K.cell (World.block_lt_of_cell? w2 ⟨w.heap.size, 0, none⟩ x0w2)).trans x0w2
            have x1w3 : w3.cell? ⟨w.heap.size, 1, none⟩ = some (.slice PA ps.length pc) := (K.cell (World.block_lt_of_cell? w2 ⟨w.heap.size, 1, none⟩ x1w2)).trans x1w2
            have x2w3 : w3.cell? ⟨w.heap.size, 2, none⟩ = some (.slice TA ts.length tc) := (K.cell (World.block_lt_of_cell? w2 ⟨w.heap.size, 2, none⟩ x2w2)).trans x2w2
            have x3w3 : w3.cell? ⟨w.heap.size + 1, 0, none⟩ = some (.string nm2) := (K.cell (World.block_lt_of_cell? w2 ⟨w.heap.size + 1, 0, none⟩ x3w2)).trans x3w2
            have x4w3 : w3.cell? ⟨w.heap.size + 1, 1, none⟩ = some (.slice PB qs.length qc) := (K.cell (World.block_lt_of_cell? w2 ⟨w.heap.size + 1, 1, none⟩ x4w2)).trans x4w2
            have x5w3 : w3.cell? ⟨w.heap.size + 1, 2, none⟩ = some (.slice TB us.length uc) := (K.cell (World.block_lt_of_cell? w2 ⟨w.heap.size + 1, 2, none⟩ x5w2)).trans x5w2
            have K3 := Lib.hid (K2.out.trans (K.mono K2.out.size))
            clear x0w2 x1w2 x2w2 x3w2 x4w2 x5w2
            clear K
            go_wp2_with fail
            refine (CT.out _ K3.out).mono ?_
            rintro e w4 ⟨rfl, K⟩
            have x0w4 : w4.cell? ⟨w.heap.size, 0, none⟩ = some (.string nm) := (K.cell (World.block_lt_of_cell? w3 ⟨w.heap.size, 0, none⟩ x0w3)).trans x0w3
            have x1w4 : w4.cell? ⟨w.heap.size, 1, none⟩ = some (.slice PA ps.length pc) := (K.cell (World.block_lt_of_cell? w3 ⟨w.heap.size, 1, none⟩ x1w3)).trans x1w3
            have x2w4 : w4.cell? ⟨w.heap.size, 2, none⟩ = some (.slice TA ts.length tc) := (K.cell (World.block_lt_of_cell? w3 ⟨w.heap.size, 2, none⟩ x2w3)).trans x2w3
            have x3w4 : w4.cell? ⟨w.heap.size + 1, 0, none⟩ = some (.string nm2) := (K.cell (World.block_lt_of_cell? w3 ⟨w.heap.size + 1, 0, none⟩ x3w3)).trans x3w3
            have x4w4 : w4.cell? ⟨w.heap.size + 1, 1, none⟩ = some (.slice PB qs.length qc) := (K.cell (World.block_lt_of_cell? w3 ⟨w.heap.size + 1, 1, none⟩ x4w3)).trans x4w3
            have x5w4 : w4.cell? ⟨w.heap.size + 1, 2, none⟩ = some (.slice TB us.length uc) := (K.cell (World.block_lt_of_cell? w3 ⟨w.heap.size + 1, 2, none⟩ x5w3)).trans x5w3
            have K4 := Lib.hid (K3.out.trans (K.mono K3.out.size))
            clear x0w3 x1w3 x2w3 x3w3 x4w3 x5w3
            clear K
            go_wp2
            go_ret
            exact ⟨ret_b E.out, K4.out⟩
end Go.Proofs.Ytlmchanciegggaa
