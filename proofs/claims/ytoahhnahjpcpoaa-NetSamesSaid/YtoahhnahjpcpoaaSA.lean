/- The reference's equality of nets. -/
import Derived.Test.YtoahhnahjpcpoaaLA
import Derived.Deep.CutRange
import Derived.Deep.RegionHeld3
namespace Go.Proofs.Ytoahhnahjpcpoaa
open Go.RowKit

set_option maxHeartbeats 16000000 in
set_option maxRecDepth 1000000 in
theorem requalN_any (a b : NetV) (w : World) (hr : NetR w a) (hs : NetR w b) :
    Calls Try.prog 73 #[.agg #[.string a.nm, .slice a.PA a.ps.length a.pc, .slice a.TA a.ts.length a.tc], .agg #[.string b.nm, .slice b.PA b.ps.length b.pc, .slice b.TA b.ts.length b.tc]] w (VPost w.heap.size w (.bool (equalN a b))) := by
  have HN : eqS a.nm b.nm = false → false = equalN a b := fun h => by simp [equalN, h]
  have HL1 : a.ps.length ≠ b.ps.length → false = equalN a b := fun h => by simp [equalN, sameP, sameBy_ne h]
  have HL2 : a.ts.length ≠ b.ts.length → false = equalN a b := fun h => by simp [equalN, sameT, sameBy_ne h]
  have HP1 : ∀ k, k < a.ps.length → eqPl a.ps b.ps k = false → false = equalN a b := fun k hk h => by simp [equalN, sameP, sameBy_at hk h]
  have HT1 : ∀ k, k < a.ts.length → eqTr a.ts b.ts k = false → false = equalN a b := fun k hk h => by simp [equalN, sameT, sameBy_at hk h]
  have HY : eqS a.nm b.nm = true → a.ps.length = b.ps.length → a.ts.length = b.ts.length → (∀ k, k < a.ps.length → eqPl a.ps b.ps k = true) → (∀ k, k < a.ts.length → eqTr a.ts b.ts k = true) → true = equalN a b := fun h1 h2 h3 h4 h5 => by simp [equalN, sameP, sameT, h1, sameBy_yes h2 h4, sameBy_yes h3 h5]
  have hq : eqS a.nm b.nm = (a.nm.toList == b.nm.toList) := rfl
  have RPA := Lib.hid (fun W (hW : Below w.heap.size w W) => (hr.below hW (Nat.le_refl _)).rp)
  have RPB := Lib.hid (fun W (hW : Below w.heap.size w W) => (hs.below hW (Nat.le_refl _)).rp)
  have RTA := Lib.hid (fun W (hW : Below w.heap.size w W) => (hr.below hW (Nat.le_refl _)).rt)
  have RTB := Lib.hid (fun W (hW : Below w.heap.size w W) => (hs.below hW (Nat.le_refl _)).rt)
  have lp := hr.okp.1
  have lt := hr.okt.1
  have ZA := Lib.hid hr.okt.2
  have ZB := Lib.hid hs.okt.2
  generalize equalN a b = S at *
  clear hr hs
  obtain ⟨nm, PA, ps, pc, TA, ts, tc⟩ := a
  obtain ⟨nm2, PB, qs, qc, TB, us, uc⟩ := b
  dsimp only at *
  generalize eqS nm nm2 = t0 at *
  cases t0
  · have E := Lib.hid (HN rfl)
    have hq2 := hq.symm
    have hq3 : (nm.toList != nm2.toList) = true := by simp only [bne, hq2]; rfl
    have B0 : Hid (Below w.heap.size w ((w.alloc (.cells #[.string nm, .slice PA ps.length pc, .slice TA ts.length tc] 25)).alloc (.cells #[.string nm2, .slice PB qs.length qc, .slice TB us.length uc] 25))) := ((Below.refl _ _).alloc (Nat.le_refl _) _).alloc (by simp) _
    generalize ps.length = np at *
    generalize qs.length = nq at *
    generalize ts.length = nt at *
    generalize us.length = nu at *
    clear HN HL1 HL2 HP1 HT1 HY hq
    go_enter Try.func73, Try.ntmps73
    go_wp2
    go_ret
    exact ⟨ret_b E.out, B0.out⟩
  have hq2 := hq.symm
  have hq3 : (nm.toList != nm2.toList) = false := by simp only [bne, hq2]; rfl
  replace HY := HY rfl
  clear HN hq
  by_cases he : ps.length = qs.length
  case neg =>
    have E := Lib.hid (HL1 he)
    have B0 : Hid (Below w.heap.size w ((w.alloc (.cells #[.string nm, .slice PA ps.length pc, .slice TA ts.length tc] 25)).alloc (.cells #[.string nm2, .slice PB qs.length qc, .slice TB us.length uc] 25))) := ((Below.refl _ _).alloc (Nat.le_refl _) _).alloc (by simp) _
    clear HL1 HL2 HP1 HT1 HY
    generalize ps.length = np at *
    generalize qs.length = nq at *
    generalize ts.length = nt at *
    generalize us.length = nu at *
    have hx : ((np : Int) != (nq : Int)) = true := by simp; omega
    clear he
    go_enter Try.func73, Try.ntmps73
    go_wp2
    go_ret
    exact ⟨ret_b E.out, B0.out⟩
  by_cases hf : ts.length = us.length
  case neg =>
    have E := Lib.hid (HL2 hf)
    rw [← he]
    have hx : ((ps.length : Int) != (ps.length : Int)) = false := by simp
    clear HL1 HL2 HP1 HT1 HY he
    have B0 : Hid (Below w.heap.size w ((w.alloc (.cells #[.string nm, .slice PA ps.length pc, .slice TA ts.length tc] 25)).alloc (.cells #[.string nm2, .slice PB ps.length qc, .slice TB us.length uc] 25))) := ((Below.refl _ _).alloc (Nat.le_refl _) _).alloc (by simp) _
    generalize ps.length = np at *
    generalize ts.length = nt at *
    generalize us.length = nu at *
    have hx2 : ((nt : Int) != (nu : Int)) = true := by simp; omega
    clear hf
    go_enter Try.func73, Try.ntmps73
    go_wp2
    go_ret
    exact ⟨ret_b E.out, B0.out⟩
  replace HY := Lib.hid (HY he hf)
  have HP1 := Lib.hid HP1
  have HT1 := Lib.hid HT1
  rw [← he, ← hf]
  have HE := Lib.hid he
  have HF := Lib.hid hf
  clear HL1 HL2 he hf
  generalize hnp : ps.length = np at *
  generalize hnt : ts.length = nt at *
  have HNP := Lib.hid hnp
  have HNT := Lib.hid hnt
  clear hnp hnt
  have B0 : Hid (Below w.heap.size w ((w.alloc (.cells #[.string nm, .slice PA np pc, .slice TA nt tc] 25)).alloc (.cells #[.string nm2, .slice PB np qc, .slice TB nt uc] 25))) := ((Below.refl _ _).alloc (Nat.le_refl _) _).alloc (by simp) _
  have hx : ((np : Int) != (np : Int)) = false := by simp
  have hx2 : ((nt : Int) != (nt : Int)) = false := by simp
  go_enter Try.func73, Try.ntmps73
  go_wp2
  go_loopw [5] (fun q wr => ∃ k : Nat, k ≤ np ∧ q = .int .i64 k ∧ Hid (Below ((w.alloc (.cells #[.string nm, .slice PA np pc, .slice TA nt tc] 25)).alloc (.cells #[.string nm2, .slice PB np qc, .slice TB nt uc] 25)).heap.size ((w.alloc (.cells #[.string nm, .slice PA np pc, .slice TA nt tc] 25)).alloc (.cells #[.string nm2, .slice PB np qc, .slice TB nt uc] 25)) wr) ∧ Hid (∀ j, j < k → eqPl ps qs j = true)) (fun q _ => np - (intOf q).toNat)
  case atStart => exact ⟨0, by omega, rfl, Below.refl _ _, fun j hj => absurd hj (by omega)⟩
  case round =>
    obtain ⟨k, hk, rfl, HB, HM⟩ := hrel
    have BW : Hid (Below w.heap.size w wr) := B0.out.trans (HB.out.mono B0.out.size)
    by_cases hlt : k < np
    · obtain ⟨b0, off, rfl, hb0, d0, d1, d2⟩ := (RPA.out wr BW.out) k (by rw [HNP.out]; exact hlt)
      obtain ⟨b1, off1, rfl, hb1, f0, f1, f2⟩ := (RPB.out wr BW.out) k (by rw [← HE.out]; exact hlt)
      have c0wr : wr.cell? ⟨w.heap.size, 0, none⟩ = some (.string nm) := by rw [HB.out.cell (by simp; omega)]; simp
      have c1wr : wr.cell? ⟨w.heap.size, 1, none⟩ = some (.slice (some ⟨b0, off, none⟩) np pc) := by rw [HB.out.cell (by simp; omega)]; simp
      have c2wr : wr.cell? ⟨w.heap.size, 2, none⟩ = some (.slice TA nt tc) := by rw [HB.out.cell (by simp; omega)]; simp
      have c3wr : wr.cell? ⟨w.heap.size + 1, 0, none⟩ = some (.string nm2) := by rw [HB.out.cell (by simp)]; simp
      have c4wr : wr.cell? ⟨w.heap.size + 1, 1, none⟩ = some (.slice (some ⟨b1, off1, none⟩) np qc) := by rw [HB.out.cell (by simp)]; simp
      have c5wr : wr.cell? ⟨w.heap.size + 1, 2, none⟩ = some (.slice TB nt uc) := by rw [HB.out.cell (by simp)]; simp
      have HT := Lib.hid (HP1.out k hlt)
      have HF2 : Hid (eqPl ps qs k = true → ∀ j, j < k + 1 → eqPl ps qs j = true) := upto_snoc HM.out
      have HQ : Hid (eqPl ps qs k = (eqS (pA ps k).nm (pA qs k).nm && ((pA ps k).ini == (pA qs k).ini && (pA ps k).cap == (pA qs k).cap))) := rfl
      have hmg : Try.prog.eqGuardType Try.prog.depth 50 = false := by kernel_rfl
      clear HM
      generalize (pA ps k).nm = x0 at *
      generalize (pA ps k).ini = x1 at *
      generalize (pA ps k).cap = x2 at *
      generalize (pA qs k).nm = y0 at *
      generalize (pA qs k).ini = y1 at *
      generalize (pA qs k).cap = y2 at *
      have hneq := fun w => placeNeq x0 y0 x1 x2 y1 y2 w
      generalize (eqS x0 y0 && (x1 == y1 && x2 == y2)) = q at *
      cases q
      · have E := Lib.hid (HT.out (HQ.out.trans rfl))
        clear HT HF2
        simp only [Bool.not_false] at hneq
        go_wp2
        go_quiet (fail)
        go_wp2
        go_ret
        exact ⟨ret_b E.out, below_drewN BW.out _⟩
      · have G := Lib.hid (HF2.out (HQ.out.trans rfl))
        clear HT HF2
        simp only [Bool.not_true] at hneq
        go_wp2
        go_quiet (fail)
        go_wp2
        go_roundw
        case rel => exact ⟨k + 1, by omega, by go_num, below_drewN HB.out _, G⟩
        case measure => simp [intOf]; omega
    · have HYP : Hid (∀ k, k < np → eqPl ps qs k = true) := fun j hj => HM.out j (by omega)
      obtain ⟨wo, rfl⟩ : ∃ wo, wo = wr := ⟨_, rfl⟩
      have c0wo : wo.cell? ⟨w.heap.size, 0, none⟩ = some (.string nm) := by rw [HB.out.cell (by simp; omega)]; simp
      have c1wo : wo.cell? ⟨w.heap.size, 1, none⟩ = some (.slice PA np pc) := by rw [HB.out.cell (by simp; omega)]; simp
      have c2wo : wo.cell? ⟨w.heap.size, 2, none⟩ = some (.slice TA nt tc) := by rw [HB.out.cell (by simp; omega)]; simp
      have c3wo : wo.cell? ⟨w.heap.size + 1, 0, none⟩ = some (.string nm2) := by rw [HB.out.cell (by simp)]; simp
      have c4wo : wo.cell? ⟨w.heap.size + 1, 1, none⟩ = some (.slice PB np qc) := by rw [HB.out.cell (by simp)]; simp
      have c5wo : wo.cell? ⟨w.heap.size + 1, 2, none⟩ = some (.slice TB nt uc) := by rw [HB.out.cell (by simp)]; simp
      clear HM BW
      have HBo := Lib.hid HB.out
      go_wp2
      go_loopw [6] (fun q wr => ∃ k : Nat, k ≤ nt ∧ q = .int .i64 k ∧ Hid (Below ((w.alloc (.cells #[.string nm, .slice PA np pc, .slice TA nt tc] 25)).alloc (.cells #[.string nm2, .slice PB np qc, .slice TB nt uc] 25)).heap.size ((w.alloc (.cells #[.string nm, .slice PA np pc, .slice TA nt tc] 25)).alloc (.cells #[.string nm2, .slice PB np qc, .slice TB nt uc] 25)) wr) ∧ Hid (∀ j, j < k → eqTr ts us j = true)) (fun q _ => nt - (intOf q).toNat)
      case atStart => exact ⟨0, by omega, rfl, HBo, fun j hj => absurd hj (by omega)⟩
      case round =>
        clear HB HBo
        obtain ⟨k, hk, rfl, HB, HM⟩ := hrel
        have BW : Hid (Below w.heap.size w wr) := B0.out.trans (HB.out.mono B0.out.size)
        by_cases hlt : k < nt
        · obtain ⟨b0, off, rfl, hb0, d0, d1, d2, d3, d4, a1, a2, a3⟩ := (RTA.out wr BW.out) k (by rw [HNT.out]; exact hlt)
          obtain ⟨b1, off1, rfl, hb1, f0, f1, f2, f3, f4, e1, e2, e3⟩ := (RTB.out wr BW.out) k (by rw [← HF.out]; exact hlt)
          have c0wr : wr.cell? ⟨w.heap.size, 0, none⟩ = some (.string nm) := by rw [HB.out.cell (by simp; omega)]; simp
          have c1wr : wr.cell? ⟨w.heap.size, 1, none⟩ = some (.slice PA np pc) := by rw [HB.out.cell (by simp; omega)]; simp
          have c2wr : wr.cell? ⟨w.heap.size, 2, none⟩ = some (.slice (some ⟨b0, off, none⟩) nt tc) := by rw [HB.out.cell (by simp; omega)]; simp
          have c3wr : wr.cell? ⟨w.heap.size + 1, 0, none⟩ = some (.string nm2) := by rw [HB.out.cell (by simp)]; simp
          have c4wr : wr.cell? ⟨w.heap.size + 1, 1, none⟩ = some (.slice PB np qc) := by rw [HB.out.cell (by simp)]; simp
          have c5wr : wr.cell? ⟨w.heap.size + 1, 2, none⟩ = some (.slice (some ⟨b1, off1, none⟩) nt uc) := by rw [HB.out.cell (by simp)]; simp
          have HT := Lib.hid (HT1.out k hlt)
          have HF2 : Hid (eqTr ts us k = true → ∀ j, j < k + 1 → eqTr ts us j = true) := upto_snoc HM.out
          have z1 := ZA.out k
          have z2 := ZB.out k
          have C1 := fun W (hW : Below wr.heap.size wr W) => rsameA_any (tA ts k).pre.A (tA us k).pre.A (tA ts k).pre.l (tA us k).pre.l (tA ts k).pre.c (tA us k).pre.c W (a1.below hW (Nat.le_refl _)) (e1.below hW (Nat.le_refl _)) z1.2.1 z2.2.1
          have C2 := fun W (hW : Below wr.heap.size wr W) => rsameA_any (tA ts k).post.A (tA us k).post.A (tA ts k).post.l (tA us k).post.l (tA ts k).post.c (tA us k).post.c W (a2.below hW (Nat.le_refl _)) (e2.below hW (Nat.le_refl _)) z1.2.2.1 z2.2.2.1
          have C3 := fun W (hW : Below wr.heap.size wr W) => rsameA_any (tA ts k).inh.A (tA us k).inh.A (tA ts k).inh.l (tA us k).inh.l (tA ts k).inh.c (tA us k).inh.c W (a3.below hW (Nat.le_refl _)) (e3.below hW (Nat.le_refl _)) z1.2.2.2 z2.2.2.2
          have HQ : Hid (eqTr ts us k = (eqS (tA ts k).nm (tA us k).nm && ((tA ts k).prio == (tA us k).prio && (sameA (tA ts k).pre.l (tA us k).pre.l && (sameA (tA ts k).post.l (tA us k).post.l && sameA (tA ts k).inh.l (tA us k).inh.l))))) := rfl
          clear HM a1 a2 a3 e1 e2 e3 z1 z2
          generalize eqTr ts us k = t at *
          generalize (tA ts k).nm = n1 at *
          generalize (tA ts k).pre = p1 at *
          generalize (tA ts k).post = q1 at *
          generalize (tA ts k).inh = i1 at *
          generalize (tA ts k).prio = r1 at *
          generalize (tA us k).nm = n2 at *
          generalize (tA us k).pre = p2 at *
          generalize (tA us k).post = q2 at *
          generalize (tA us k).inh = i2 at *
          generalize (tA us k).prio = r2 at *
          have hs : eqS n1 n2 = (n1.toList == n2.toList) := rfl
          generalize eqS n1 n2 = t0 at *
          generalize sameA p1.l p2.l = t1 at *
          generalize sameA q1.l q2.l = t2 at *
          generalize sameA i1.l i2.l = t3 at *
          have HS := Lib.hid hs
          clear hs
          replace C1 := Lib.hid C1
          replace C2 := Lib.hid C2
          replace C3 := Lib.hid C3
          go_upto_region 11 with fail
          go_cut [7, 8] from 50 to 102 (fun s7 s8 wx => ∃ x y : Nat, s7 = .pointer (some ⟨x, 0, none⟩) ∧ s8 = .pointer (some ⟨y, 0, none⟩) ∧ Hid (Below wr.heap.size wr wx)
            ∧ wx.cell? ⟨x, 0, none⟩ = some (.string n1) ∧ wx.cell? ⟨x, 1, none⟩ = some (.slice p1.A p1.l.length p1.c) ∧ wx.cell? ⟨x, 2, none⟩ = some (.slice q1.A q1.l.length q1.c) ∧ wx.cell? ⟨x, 3, none⟩ = some (.slice i1.A i1.l.length i1.c) ∧ wx.cell? ⟨x, 4, none⟩ = some (.int .i64 r1)
            ∧ wx.cell? ⟨y, 0, none⟩ = some (.string n2) ∧ wx.cell? ⟨y, 1, none⟩ = some (.slice p2.A p2.l.length p2.c) ∧ wx.cell? ⟨y, 2, none⟩ = some (.slice q2.A q2.l.length q2.c) ∧ wx.cell? ⟨y, 3, none⟩ = some (.slice i2.A i2.l.length i2.c) ∧ wx.cell? ⟨y, 4, none⟩ = some (.int .i64 r2))
          case first =>
            go_region_held3 (fun w' => w'.cell? ⟨w.heap.size, 2, none⟩ = some (.slice (some ⟨b0, off, none⟩) nt tc) ∧ w'.cell? ⟨w.heap.size + 1, 2, none⟩ = some (.slice (some ⟨b1, off1, none⟩) nt uc)
              ∧ w'.cell? ⟨b0, off + k * 5, none⟩ = some (.string n1) ∧ w'.cell? ⟨b0, off + k * 5 + 1, none⟩ = some (.slice p1.A p1.l.length p1.c) ∧ w'.cell? ⟨b0, off + k * 5 + 2, none⟩ = some (.slice q1.A q1.l.length q1.c) ∧ w'.cell? ⟨b0, off + k * 5 + 3, none⟩ = some (.slice i1.A i1.l.length i1.c) ∧ w'.cell? ⟨b0, off + k * 5 + 4, none⟩ = some (.int .i64 r1)
              ∧ w'.cell? ⟨b1, off1 + k * 5, none⟩ = some (.string n2) ∧ w'.cell? ⟨b1, off1 + k * 5 + 1, none⟩ = some (.slice p2.A p2.l.length p2.c) ∧ w'.cell? ⟨b1, off1 + k * 5 + 2, none⟩ = some (.slice q2.A q2.l.length q2.c) ∧ w'.cell? ⟨b1, off1 + k * 5 + 3, none⟩ = some (.slice i2.A i2.l.length i2.c) ∧ w'.cell? ⟨b1, off1 + k * 5 + 4, none⟩ = some (.int .i64 r2)) (go_keep) (fail)
            all_goals
              go_wp2
              go_meet
              case rel => exact ⟨_, _, rfl, rfl, (((Below.refl _ _).alloc (Nat.le_refl _) _).alloc (by simp) _).drew, by simp, by simp, by simp, by simp, by simp, by simp, by simp, by simp, by simp, by simp⟩
          case rest =>
            clear d0 d1 d2 d3 d4 f0 f1 f2 f3 f4
            obtain ⟨x, y, rfl, rfl, BX, g0, g1, g2, g3, g4, h0, h1, h2, h3, h4⟩ := hcut
            have BWX := Lib.hid (BW.out.trans (BX.out.mono BW.out.size))
            cases t0
            · have hq5 := HS.out.symm
              have hq6 : (n1.toList != n2.toList) = true := by simp only [bne, hq5]; rfl
              have E := Lib.hid (HT.out (HQ.out.trans rfl))
              clear HT HF2 HQ HS
              go_wp2
              go_ret
              exact ⟨ret_b E.out, BWX.out⟩
            have hq5 := HS.out.symm
            have hq6 : (n1.toList != n2.toList) = false := by simp only [bne, hq5]; rfl
            clear HS
            by_cases hp : r1 = r2
            case neg =>
              have hp2 : (r1 == r2) = false := by simpa using hp
              have hp3 : (r1 != r2) = true := by simpa using hp
              have E := Lib.hid (HT.out (by rw [HQ.out, hp2]; rfl))
              clear HT HF2 HQ hp
              go_wp2
              go_ret
              exact ⟨ret_b E.out, BWX.out⟩
            have hp2 : (r1 == r2) = true := by simpa using hp
            have hp3 : (r1 != r2) = false := by simpa using hp
            have HQ2 : Hid (t = (t1 && (t2 && t3))) := by show _ = _; rw [HQ.out, hp2]; rfl
            clear HQ hp hp2
            cases t1
            · have E := Lib.hid (HT.out (HQ2.out.trans rfl))
              clear HT HF2 HQ2
              go_wp2_with fail
              refine (C1.out _ BX.out).mono ?_
              rintro e w1 ⟨rfl, K⟩
              have K1 := Lib.hid (BWX.out.trans (K.mono BWX.out.size))
              clear K
              go_wp2
              go_ret
              exact ⟨ret_b E.out, K1.out⟩
            cases t2
            · have E := Lib.hid (HT.out (HQ2.out.trans rfl))
              clear HT HF2 HQ2
              go_wp2_with fail
              refine (C1.out _ BX.out).mono ?_
              rintro e w1 ⟨rfl, K⟩
              have k2 := keepc g2 K
              have l2 := keepc h2 K
              have BX1 := Lib.hid (BX.out.trans (K.mono BX.out.size))
              clear K
              go_wp2_with fail
              refine (C2.out _ BX1.out).mono ?_
              rintro e w2 ⟨rfl, K⟩
              have K1 := Lib.hid (BW.out.trans ((BX1.out.trans (K.mono BX1.out.size)).mono BW.out.size))
              clear K
              go_wp2
              go_ret
              exact ⟨ret_b E.out, K1.out⟩
            cases t3
            · have E := Lib.hid (HT.out (HQ2.out.trans rfl))
              clear HT HF2 HQ2
              go_wp2_with fail
              refine (C1.out _ BX.out).mono ?_
              rintro e w1 ⟨rfl, K⟩
              have k2 := keepc g2 K
              have l2 := keepc h2 K
              have k3 := keepc g3 K
              have l3 := keepc h3 K
              have BX1 := Lib.hid (BX.out.trans (K.mono BX.out.size))
              clear K g2 h2 g3 h3
              go_wp2_with fail
              refine (C2.out _ BX1.out).mono ?_
              rintro e w2 ⟨rfl, K⟩
              have m3 := keepc k3 K
              have o3 := keepc l3 K
              have BX2 := Lib.hid (BX1.out.trans (K.mono BX1.out.size))
              clear K k3 l3
              go_wp2_with fail
              refine (C3.out _ BX2.out).mono ?_
              rintro e w3 ⟨rfl, K⟩
              have BX3 := Lib.hid (BX2.out.trans (K.mono BX2.out.size))
              clear K
              have K1 := Lib.hid (BW.out.trans (BX3.out.mono BW.out.size))
              clear BX3
              go_wp2
              go_ret
              exact ⟨ret_b E.out, K1.out⟩
            · have G := Lib.hid (HF2.out (HQ2.out.trans rfl))
              clear HT HF2 HQ2
              go_wp2_with fail
              refine (C1.out _ BX.out).mono ?_
              rintro e w1 ⟨rfl, K⟩
              have k2 := keepc g2 K
              have l2 := keepc h2 K
              have k3 := keepc g3 K
              have l3 := keepc h3 K
              have BX1 := Lib.hid (BX.out.trans (K.mono BX.out.size))
              clear K g2 h2 g3 h3
              go_wp2_with fail
              refine (C2.out _ BX1.out).mono ?_
              rintro e w2 ⟨rfl, K⟩
              have m3 := keepc k3 K
              have o3 := keepc l3 K
              have BX2 := Lib.hid (BX1.out.trans (K.mono BX1.out.size))
              clear K k3 l3
              go_wp2_with fail
              refine (C3.out _ BX2.out).mono ?_
              rintro e w3 ⟨rfl, K⟩
              have BX3 := Lib.hid (BX2.out.trans (K.mono BX2.out.size))
              clear K
              have K1 := Lib.hid (HB.out.trans (BX3.out.mono HB.out.size))
              clear BX3
              go_wp2
              go_roundw
              case rel => exact ⟨k + 1, by omega, by go_num, K1, G⟩
              case measure => simp [intOf]; omega
        · have HYT : Hid (∀ k, k < nt → eqTr ts us k = true) := fun j hj => HM.out j (by omega)
          have E := Lib.hid (HY.out HYP.out HYT.out)
          have c0wr : wr.cell? ⟨w.heap.size, 0, none⟩ = some (.string nm) := by rw [HB.out.cell (by simp; omega)]; simp
          have c1wr : wr.cell? ⟨w.heap.size, 1, none⟩ = some (.slice PA np pc) := by rw [HB.out.cell (by simp; omega)]; simp
          have c2wr : wr.cell? ⟨w.heap.size, 2, none⟩ = some (.slice TA nt tc) := by rw [HB.out.cell (by simp; omega)]; simp
          have c3wr : wr.cell? ⟨w.heap.size + 1, 0, none⟩ = some (.string nm2) := by rw [HB.out.cell (by simp)]; simp
          have c4wr : wr.cell? ⟨w.heap.size + 1, 1, none⟩ = some (.slice PB np qc) := by rw [HB.out.cell (by simp)]; simp
          have c5wr : wr.cell? ⟨w.heap.size + 1, 2, none⟩ = some (.slice TB nt uc) := by rw [HB.out.cell (by simp)]; simp
          clear HM
          go_wp2
          go_ret
          exact ⟨ret_b E.out, BW.out⟩
end Go.Proofs.Ytoahhnahjpcpoaa
