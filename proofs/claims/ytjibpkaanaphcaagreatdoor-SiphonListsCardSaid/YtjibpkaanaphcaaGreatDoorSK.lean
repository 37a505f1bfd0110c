/- The greatest siphon and trap within a set, by the reference. -/
import Derived.Test.YtjibpkaanaphcaaGreatDoorZG
namespace Go.Proofs.YtjibpkaanaphcaaGreatDoor
open Go.RowKit

theorem take_snocI (a : List Int) {k : Nat} (hk : k < a.length) : a.take (k + 1) = a.take k ++ [at0 a k] := by
  rw [List.take_succ_eq_append_getElem hk]
  simp [at0, hk]
def dropW (l : List (Int × Int)) (s k : Nat) : Nat := ((targetsV l).take k).foldl Bt.woV s
theorem dropW_zero (l : List (Int × Int)) (s : Nat) : dropW l s 0 = s := rfl
theorem dropW_step {l : List (Int × Int)} {s k : Nat} (hk : k < l.length) : dropW l s (k + 1) = Bt.woV (dropW l s k) (aP l k) := by
  unfold dropW
  have hl : k < (targetsV l).length := by unfold targetsV; rw [List.length_map]; exact hk
  rw [take_snocI _ hl, List.foldl_append]
  have e : at0 (targetsV l) k = aP l k := by
    unfold at0 targetsV aP
    rw [List.getElem?_map, List.getElem?_eq_getElem hk]
    rfl
  rw [e]
  rfl
theorem dropW_end {l : List (Int × Int)} {s : Nat} (hs : s < 18446744073709551616) : dropW l s l.length = Bt.mB s (Bt.ofV (targetsV l)) := by
  unfold dropW
  rw [List.take_of_length_le (by unfold targetsV; rw [List.length_map]; exact Nat.le_refl _)]
  exact wo_fold _ s hs
theorem dropW_lt {l : List (Int × Int)} {s : Nat} (hs : s < 18446744073709551616) : ∀ k, k ≤ l.length → dropW l s k < 18446744073709551616
  | 0, _ => hs
  | k + 1, h => by
    rw [dropW_step (by omega)]
    exact mB_lt' (dropW_lt hs k (by omega)) (Bt.sgl_lt _)
def lostA (n : NetV) (b : Bool) (t : Nat) : ArcsV := if b = true then (tA n.ts t).post else (tA n.ts t).pre
def keptA (n : NetV) (b : Bool) (t : Nat) : ArcsV := if b = true then (tA n.ts t).pre else (tA n.ts t).post
theorem step_eq {n : NetV} {b : Bool} {s t : Nat} (hs : s < 18446744073709551616) : stepG n b s t = if meetsB (keptA n b t).l s = true then s else dropW (lostA n b t).l s (lostA n b t).l.length := by
  unfold stepG
  rw [meets_of, dropW_end hs]
  unfold ndS trgS inS outS keptA lostA
  cases b <;> rfl

set_option maxHeartbeats 4000000 in
set_option maxRecDepth 100000 in
theorem rgreatest_any (n : NetV) (s : Nat) (b : Bool) (w : World) (hr : NetR w n) (hs : s < 18446744073709551616) :
    Calls Tryz.prog 24 #[.agg #[.string n.nm, .slice n.PA n.ps.length n.pc, .slice n.TA n.ts.length n.tc], .int .u64 (s : Nat), .bool b] w (VPost w.heap.size w (.int .u64 (maxG n b s : Nat))) := by
  have CV : Hid (∀ W, Below w.heap.size w W → Calls Tryz.prog 45 #[.agg #[.string n.nm, .slice n.PA n.ps.length n.pc, .slice n.TA n.ts.length n.tc]] W (VPost W.heap.size W (.bool (okN n)))) := fun W hW => rvalidN_any n W (hr.below hW (Nat.le_refl _))
  have CA : Hid (∀ W, Calls Tryz.prog 16 #[.int .i64 n.ps.length] W (fun e w' => e = .returned (.int .u64 (Bt.allV n.ps.length : Nat)) ∧ W = w')) := fun W => Bt.rall_any _ W (by omega) (by have := hr.okp.1; omega)
  have KA : bits .and .u64 (s : Int) (Bt.allV n.ps.length : Nat) = ((withinS n s : Nat) : Int) := bits_and_nat s _ hs (all_lt _)
  have TD : Hid (∀ t, t < n.ts.length → ∃ bt ot, n.TA = some ⟨bt, ot, none⟩ ∧ ∀ W, Below w.heap.size w W → W.cell? ⟨bt, ot + t * 5 + 1, none⟩ = some (.slice (tA n.ts t).pre.A (tA n.ts t).pre.l.length (tA n.ts t).pre.c) ∧ W.cell? ⟨bt, ot + t * 5 + 2, none⟩ = some (.slice (tA n.ts t).post.A (tA n.ts t).post.l.length (tA n.ts t).post.c)) := fun t ht => by
    obtain ⟨bt, ot, eT, hbt, d0, d1, d2, _⟩ := hr.rt t ht
    exact ⟨bt, ot, eT, fun W hW => ⟨(hW.cell (World.block_lt_of_cell? w _ d1)).trans d1, (hW.cell (World.block_lt_of_cell? w _ d2)).trans d2⟩⟩
  have RA : Hid (∀ t, t < n.ts.length → ReadsA w (keptA n b t).A (keptA n b t).l ∧ ReadsA w (lostA n b t).A (lostA n b t).l ∧ (keptA n b t).l.length ≤ 1000 ∧ (lostA n b t).l.length ≤ 1000) := fun t ht => by
    obtain ⟨bt, ot, eT, hbt, d0, d1, d2, d3, d4, r1, r2, r3⟩ := hr.rt t ht
    have h1 := (hr.okt.2 t).2.1
    have h2 := (hr.okt.2 t).2.2.1
    unfold keptA lostA
    cases b
    · exact ⟨r2, r1, h2, h1⟩
    · exact ⟨r1, r2, h1, h2⟩
  have CM : Hid (∀ t (r : Nat), t < n.ts.length → r < 18446744073709551616 → ∀ W, Below w.heap.size w W → Calls Tryz.prog 37 #[.slice (keptA n b t).A (keptA n b t).l.length (keptA n b t).c, .int .u64 (r : Nat)] W (VPost W.heap.size W (.bool (meetsB (keptA n b t).l r)))) := fun t r ht hr' W hW => meets_any _ _ _ r W ((RA.out t ht).1.below hW (Nat.le_refl _)) (RA.out t ht).2.2.1 hr'
  have CW : Hid (∀ (r : Nat) i W, r < 18446744073709551616 → Calls Tryz.prog 46 #[.int .u64 (r : Nat), .int .i64 i] W (fun e w' => e = .returned (.int .u64 (Bt.woV r i : Nat)) ∧ W = w')) := fun r i W h => Bt.rwithout_any r i W h
  have htl : n.ts.length ≤ 1000 := hr.okt.1
  have hpl : n.ps.length ≤ 1000 := hr.okp.1
  have SE : Hid (∀ (r t : Nat), r < 18446744073709551616 → stepG n b r t = if meetsB (keptA n b t).l r = true then r else dropW (lostA n b t).l r (lostA n b t).l.length) := fun r t h => step_eq h
  have hsw := within_lt n hs
  have RL : Hid (∀ k, roundsG n b (withinS n s) k < 18446744073709551616 ∧ ∀ t, roundG n b (roundsG n b (withinS n s) k) t < 18446744073709551616) := fun k => ⟨rounds_lt hsw k, fun t => round_lt (rounds_lt hsw k) t⟩
  have GE : Hid (okN n = true → roundsG n b (withinS n s) (n.ps.length + 1) = maxG n b s) := fun hk => by
    have hp := (okN_parts hk).2.2.1
    have hc := within_card n s (by omega)
    unfold maxG
    rw [if_pos hk]
    exact rounds_gr hsw (by omega)
  have GN : Hid (okN n = false → maxG n b s = 0) := fun hk => by unfold maxG; rw [if_neg (by rw [hk]; simp)]
  have RS : Hid (∀ k, roundsG n b (withinS n s) (k + 1) = roundG n b (roundsG n b (withinS n s) k) n.ts.length ∧ roundG n b (roundsG n b (withinS n s) k) 0 = roundsG n b (withinS n s) k ∧ ∀ t, roundG n b (roundsG n b (withinS n s) k) (t + 1) = stepG n b (roundG n b (roundsG n b (withinS n s) k) t) t) := fun k => ⟨rfl, rfl, fun t => rfl⟩
  have R0 : Hid (roundsG n b (withinS n s) 0 = withinS n s) := rfl
  clear hr hsw
  generalize maxG n b s = G at *
  generalize roundsG n b (withinS n s) = ro at *
  generalize withinS n s = sw at *
  generalize Bt.allV n.ps.length = av at *
  have B0 : Hid (Below w.heap.size w (w.alloc (.cells #[.string n.nm, .slice n.PA n.ps.length n.pc, .slice n.TA n.ts.length n.tc] 25))) := ((Below.refl _ _).alloc (Nat.le_refl _) _)
  have q0 : (w.alloc (.cells #[.string n.nm, .slice n.PA n.ps.length n.pc, .slice n.TA n.ts.length n.tc] 25)).cell? ⟨w.heap.size, 0, none⟩ = some (.string n.nm) := by simp
  have q1 : (w.alloc (.cells #[.string n.nm, .slice n.PA n.ps.length n.pc, .slice n.TA n.ts.length n.tc] 25)).cell? ⟨w.heap.size, 1, none⟩ = some (.slice n.PA n.ps.length n.pc) := by simp
  have q2 : (w.alloc (.cells #[.string n.nm, .slice n.PA n.ps.length n.pc, .slice n.TA n.ts.length n.tc] 25)).cell? ⟨w.heap.size, 2, none⟩ = some (.slice n.TA n.ts.length n.tc) := by simp
  cases hok : okN n
  · rw [hok] at CV
    have E := Lib.hid (GN.out hok)
    clear GN GE RS RL SE CM RA TD
    go_enter Tryz.func24, Tryz.ntmps24
    go_wp2_with fail
    refine (CV.out _ B0.out).mono ?_
    rintro e x1 ⟨rfl, K⟩
    have q0 := keepc q0 K
    have q1 := keepc q1 K
    have q2 := keepc q2 K
    have Dx1 := Lib.hid (B0.out.trans (K.mono B0.out.size))
    clear K
    go_wp2
    go_ret
    exact ⟨by rw [E.out]; rfl, Dx1.out⟩
  · rw [hok] at CV
    have E := Lib.hid (GE.out hok)
    clear GN GE
    go_enter Tryz.func24, Tryz.ntmps24
    go_wp2_with fail
    refine (CV.out _ B0.out).mono ?_
    rintro e x1 ⟨rfl, K⟩
    have q0 := keepc q0 K
    have q1 := keepc q1 K
    have q2 := keepc q2 K
    have Dx1 := Lib.hid (B0.out.trans (K.mono B0.out.size))
    clear K
    go_wp2_with fail
    refine (CA.out _).mono ?_
    rintro e y2 ⟨rfl, rfl⟩
    have q1h := Lib.hid q1
    have q2h := Lib.hid q2
    clear q0 CV CA
    have rz : Hid ((Value.int .u64 (sw : Int)) = .int .u64 (ro 0 : Int)) := by show _ = _; rw [R0.out]
    go_wp2_with fail
    clear q1 q2
    go_loopw [7, 8] (fun p q wr => ∃ k : Nat, k ≤ n.ps.length + 1 ∧ p = .int .u64 (ro k : Int) ∧ q = .int .i64 k ∧ Hid (Below x1.heap.size x1 wr)) (fun _ q _ => n.ps.length + 1 - (intOf q).toNat)
    case atStart => exact ⟨0, by omega, by first | exact rz.out | rfl, rfl, Below.refl _ _⟩
    case round =>
      clear rz
      obtain ⟨k, hk, rfl, rfl, BB⟩ := hrel
      have q1 := keepc q1h.out BB.out
      by_cases hlt : k ≤ n.ps.length
      · have q2 := keepc q2h.out BB.out
        obtain ⟨e1, e2, e3⟩ := RS.out k
        have HE1 := Lib.hid e1
        have HE3 := Lib.hid e3
        have HRL := Lib.hid (RL.out k).2
        rw [← e2]
        clear e1 e2 e3
        generalize roundG n b (ro k) = rg at *
        obtain ⟨wo, rfl⟩ : ∃ wo, wo = wr := ⟨_, rfl⟩
        go_wp2_with fail
        go_loopw [7, 9] (fun p q wr => ∃ t : Nat, t ≤ n.ts.length ∧ p = .int .u64 (rg t : Int) ∧ q = .int .i64 t ∧ Hid (Below x1.heap.size x1 wr)) (fun _ q _ => n.ts.length - (intOf q).toNat)
        case atStart => exact ⟨0, by omega, rfl, rfl, BB⟩
        case round =>
          clear q1 q2 BB
          obtain ⟨t, ht, rfl, rfl, BB⟩ := hrel
          have q2 := keepc q2h.out BB.out
          by_cases hlt2 : t < n.ts.length
          · obtain ⟨bt, ot, eT, hd⟩ := TD.out t hlt2
            have BG := Lib.hid (Dx1.out.trans (BB.out.mono Dx1.out.size))
            obtain ⟨d1, d2⟩ := hd wr BG.out
            rw [eT] at q2
            have hrt := HRL.out t
            have ST := Lib.hid ((HE3.out t).trans (SE.out (rg t) t hrt))
            have CMt := Lib.hid (CM.out t (rg t) hlt2 hrt)
            obtain ⟨_, rl, _, hl2⟩ := RA.out t hlt2
            have RLo := Lib.hid rl
            cases b
            · have CMt : Hid (∀ W, Below w.heap.size w W → Calls Tryz.prog 37 #[.slice (tA n.ts t).post.A (tA n.ts t).post.l.length (tA n.ts t).post.c, .int .u64 (rg t : Nat)] W (VPost W.heap.size W (.bool (meetsB (tA n.ts t).post.l (rg t))))) := CMt
              have ST : Hid (rg (t + 1) = if meetsB (tA n.ts t).post.l (rg t) = true then rg t else dropW (tA n.ts t).pre.l (rg t) (tA n.ts t).pre.l.length) := ST
              have RLo : Hid (ReadsA w (tA n.ts t).pre.A (tA n.ts t).pre.l) := RLo
              have hl2 : (tA n.ts t).pre.l.length ≤ 1000 := hl2
              clear hd eT RS RL SE CM RA TD HE1 HE3 HRL E
              generalize meetsB (tA n.ts t).post.l (rg t) = mb at *
              generalize (tA n.ts t).pre = xp at *
              generalize (tA n.ts t).post = xq at *
              have PB : Hid (∀ nn, Below x1.heap.size x1 (wr.drewN nn)) := fun nn => below_drewN BB.out nn
              go_wp2_with fail
              go_quiet (fail)
              generalize hw4 : wr.drewN _ = w4
              have BB4 : Hid (Below x1.heap.size x1 w4) := by rw [← hw4]; exact PB.out _
              clear hw4 PB q2 d1 d2 BB BG
              have BG4 := Lib.hid (Dx1.out.trans (BB4.out.mono Dx1.out.size))
              go_wp2_with fail
              refine (CMt.out _ BG4.out).mono ?_
              rintro e w5 ⟨rfl, K⟩
              have B5 := Lib.hid (BB4.out.trans (K.mono BB4.out.size))
              clear K CMt
              cases mb
              · have ST2 : Hid (rg (t + 1) = dropW xp.l (rg t) xp.l.length) := by show _ = _; rw [ST.out]; rfl
                clear ST
                generalize rg t = r at *
                go_wp2_with fail
                go_loopw [7, 12] (fun p q ws => ∃ i : Nat, i ≤ xp.l.length ∧ p = .int .u64 (dropW xp.l r i : Int) ∧ q = .int .i64 i ∧ Hid (Below x1.heap.size x1 ws)) (fun _ q _ => xp.l.length - (intOf q).toNat)
                case atStart => exact ⟨0, by omega, rfl, rfl, B5⟩
                case round =>
                  obtain ⟨i, hi, rfl, rfl, BI⟩ := hrel
                  by_cases hil : i < xp.l.length
                  · obtain ⟨b0, off, eA, hb0, hc0, hc1⟩ := (RLo.out.below (Dx1.out.trans (BI.out.mono Dx1.out.size)) (Nat.le_refl _)) i hil
                    have DS := Lib.hid (dropW_step (s := r) hil)
                    have CWi := Lib.hid (CW.out (dropW xp.l r i) (aP xp.l i) wr (dropW_lt hrt i hi))
                    obtain ⟨xA, xc, xll⟩ := xp
                    dsimp only at *
                    subst eA
                    generalize aP xll i = z at *
                    go_wp2_with fail
                    refine CWi.out.mono ?_
                    rintro e w6 ⟨rfl, rfl⟩
                    go_wp2
                    go_roundw
                    case rel => exact ⟨i + 1, by omega, by rw [DS.out], by go_num, BI⟩
                    case measure => simp [intOf]; omega
                  · have ei : i = xp.l.length := by omega
                    subst ei
                    go_wp2
                    go_roundw
                    case rel => exact ⟨t + 1, by omega, by rw [ST2.out], by go_num, BI⟩
                    case measure => simp [intOf]; omega
              · have ST2 : Hid (rg (t + 1) = rg t) := by show _ = _; rw [ST.out]; rfl
                clear ST
                go_wp2
                go_roundw
                case rel => exact ⟨t + 1, by omega, by rw [ST2.out], by go_num, B5⟩
                case measure => simp [intOf]; omega
            · have CMt : Hid (∀ W, Below w.heap.size w W → Calls Tryz.prog 37 #[.slice (tA n.ts t).pre.A (tA n.ts t).pre.l.length (tA n.ts t).pre.c, .int .u64 (rg t : Nat)] W (VPost W.heap.size W (.bool (meetsB (tA n.ts t).pre.l (rg t))))) := CMt
              have ST : Hid (rg (t + 1) = if meetsB (tA n.ts t).pre.l (rg t) = true then rg t else dropW (tA n.ts t).post.l (rg t) (tA n.ts t).post.l.length) := ST
              have RLo : Hid (ReadsA w (tA n.ts t).post.A (tA n.ts t).post.l) := RLo
              have hl2 : (tA n.ts t).post.l.length ≤ 1000 := hl2
              clear hd eT RS RL SE CM RA TD HE1 HE3 HRL E
              generalize meetsB (tA n.ts t).pre.l (rg t) = mb at *
              generalize (tA n.ts t).pre = xp at *
              generalize (tA n.ts t).post = xq at *
              have PB : Hid (∀ nn, Below x1.heap.size x1 (wr.drewN nn)) := fun nn => below_drewN BB.out nn
              go_wp2_with fail
              go_quiet (fail)
              generalize hw4 : wr.drewN _ = w4
              have BB4 : Hid (Below x1.heap.size x1 w4) := by rw [← hw4]; exact PB.out _
              clear hw4 PB q2 d1 d2 BB BG
              have BG4 := Lib.hid (Dx1.out.trans (BB4.out.mono Dx1.out.size))
              go_wp2_with fail
              refine (CMt.out _ BG4.out).mono ?_
              rintro e w5 ⟨rfl, K⟩
              have B5 := Lib.hid (BB4.out.trans (K.mono BB4.out.size))
              clear K CMt
              cases mb
              · have ST2 : Hid (rg (t + 1) = dropW xq.l (rg t) xq.l.length) := by show _ = _; rw [ST.out]; rfl
                clear ST
                generalize rg t = r at *
                go_wp2_with fail
                go_loopw [7, 12] (fun p q ws => ∃ i : Nat, i ≤ xq.l.length ∧ p = .int .u64 (dropW xq.l r i : Int) ∧ q = .int .i64 i ∧ Hid (Below x1.heap.size x1 ws)) (fun _ q _ => xq.l.length - (intOf q).toNat)
                case atStart => exact ⟨0, by omega, rfl, rfl, B5⟩
                case round =>
                  obtain ⟨i, hi, rfl, rfl, BI⟩ := hrel
                  by_cases hil : i < xq.l.length
                  · obtain ⟨b0, off, eA, hb0, hc0, hc1⟩ := (RLo.out.below (Dx1.out.trans (BI.out.mono Dx1.out.size)) (Nat.le_refl _)) i hil
                    have DS := Lib.hid (dropW_step (s := r) hil)
                    have CWi := Lib.hid (CW.out (dropW xq.l r i) (aP xq.l i) wr (dropW_lt hrt i hi))
                    obtain ⟨xA, xc, xll⟩ := xq
                    dsimp only at *
                    subst eA
                    generalize aP xll i = z at *
                    go_wp2_with fail
                    refine CWi.out.mono ?_
                    rintro e w6 ⟨rfl, rfl⟩
                    go_wp2
                    go_roundw
                    case rel => exact ⟨i + 1, by omega, by rw [DS.out], by go_num, BI⟩
                    case measure => simp [intOf]; omega
                  · have ei : i = xq.l.length := by omega
                    subst ei
                    go_wp2
                    go_roundw
                    case rel => exact ⟨t + 1, by omega, by rw [ST2.out], by go_num, BI⟩
                    case measure => simp [intOf]; omega
              · have ST2 : Hid (rg (t + 1) = rg t) := by show _ = _; rw [ST.out]; rfl
                clear ST
                go_wp2
                go_roundw
                case rel => exact ⟨t + 1, by omega, by rw [ST2.out], by go_num, B5⟩
                case measure => simp [intOf]; omega
          · have et : t = n.ts.length := by omega
            subst et
            go_wp2
            go_roundw
            case rel => exact ⟨k + 1, by omega, by rw [HE1.out], by go_num, BB⟩
            case measure => simp [intOf]; omega
      · have ek : k = n.ps.length + 1 := by omega
        subst ek
        have BG := Lib.hid (Dx1.out.trans (BB.out.mono Dx1.out.size))
        clear RS RL SE CM RA TD
        rw [E.out]
        go_wp2
        go_ret
        exact ⟨rfl, BG.out⟩
end Go.Proofs.YtjibpkaanaphcaaGreatDoor
