/- Classes of nets: the flow graph of the program. -/
import Derived.Test.YtlbcdnobpnllkaaGreatKC
import Derived.Test.YtlbcdnobpnllkaaGreatDgM1
import Derived.Test.YtlbcdnobpnllkaaGreatOA2
namespace Go.Proofs.YtlbcdnobpnllkaaGreat
open Go.RowKit Go.Deep

def OwnPost (g : Nat) (w : World) (L : List Int) (e : Ending) (w' : World) : Prop := ∃ v, e = .returned v ∧ w'.ownsRow g 3 1 v L.length (vI L) ∧ Below g w w'
set_option maxHeartbeats 1000000 in
theorem places_own (A : Option Addr) (l : List (Int × Int)) (c : Nat) (w : World) (hr : ReadsA w A l) (hl : l.length ≤ 1000) :
    Calls Tryz.prog 81 #[.slice A l.length c] w (OwnPost w.heap.size w (targetsV l)) := by
  obtain ⟨i0, hi, hz0, hz1, hz2⟩ := info_parts infoI
  have HI := Lib.hid hi
  have HZ0 := Lib.hid hz0
  have HZ1 := Lib.hid hz1
  have HZ2 := Lib.hid hz2
  clear hi hz0 hz1 hz2
  have HR := Lib.hid hr
  clear hr
  generalize hg : w.heap.size = g at *
  have HG := Lib.hid hg
  clear hg
  generalize hn : l.length = n at *
  have HN := Lib.hid hn
  clear hn
  go_enter Tryz.func81, Tryz.ntmps81
  go_wp2
  go_loopw [3, 8] (fun v q wr => ∃ k : Nat, k ≤ n ∧ q = .int .i64 k ∧ Hid (wr.ownsRow g 3 1 v k (vI (targetsV (l.take k)))) ∧ Hid (Below g w wr)) (fun _ q _ => n - (intOf q).toNat)
  case atStart => exact ⟨0, by omega, rfl, World.ownsRow_nil _ _ _ _, Below.refl _ _⟩
  case round =>
    obtain ⟨k, hk, rfl, O, HB⟩ := hrel
    have hsz := HB.out.size
    rw [HG.out] at hsz
    by_cases hlt : k < n
    · obtain ⟨b0, off, rfl, hb0, hc0, hc1⟩ := (HR.out.below HB.out (by rw [HG.out]; exact Nat.le_refl _)) k (by rw [HN.out]; exact hlt)
      have HE := Lib.hid (targets_snoc l k (by rw [HN.out]; exact hlt))
      generalize aP l k = x at *
      generalize aW l k = u at *
      have b1 : k + 1 ≤ maxLen := by unfold maxLen; omega
      have b2 : (k + 1) * 8 ≤ 140737488355328 := by omega
      have b3 : g ≤ ((wr.alloc (.cells #[.int .i64 x, .int .i64 u] 69)).alloc (.cells #[.int .i64 x] 3)).heap.size := by simp only [World.size_alloc]; omega
      have b4 : Hid (∀ q, u3.ownBlock = some q → g ≤ q) := fun q e => (O.out.lt q e).1
      have BA : Hid (Below g w ((wr.alloc (.cells #[.int .i64 x, .int .i64 u] 69)).alloc (.cells #[.int .i64 x] 3))) := (HB.out.alloc hsz _).alloc (by simp only [World.size_alloc]; omega) _
      have CN1 : Hid (∀ j y, [Value.int .i64 x][j]? = some y → ((wr.alloc (.cells #[.int .i64 x, .int .i64 u] 69)).alloc (.cells #[.int .i64 x] 3)).cell? ((⟨wr.heap.size + 1, 0, none⟩ : Addr).add j) = some y) := by
        have h := cell_one_new (wr.alloc (.cells #[.int .i64 x, .int .i64 u] 69)) (.int .i64 x) 3
        rw [World.size_alloc] at h
        exact h
      go_wp2_with (at_builtin; (refine wpList_append_own _ rfl (.tmp 12) (.tmp 15) 34 rfl g 3 i0 (.int .i64 0) 1 8 Tryz.underlying34 HI.out HZ0.out HZ1.out HZ2.out rfl (by decide) u3 k _ rfl ((O.out.alloc _).alloc _) ⟨wr.heap.size + 1, 0, none⟩ 1 1 [.int .i64 x] rfl rfl (CN1.out) (one_cellI _) b1 b2 b3 ?_); intro v' w5 hown' hgrow _)
      have O5 : Hid (w5.ownsRow g 3 1 v' (k + 1) (vI (targetsV (l.take (k + 1))))) := by
        show World.ownsRow _ _ _ _ _ _ _
        rw [HE.out, vI_snoc]
        exact hown'
      have B5 : Hid (Below g w w5) := BA.out.grown hgrow b3 b4.out
      clear hown' hgrow
      go_wp2
      go_roundw
      case rel => exact ⟨k + 1, by omega, by go_num, O5, B5⟩
      case measure => simp [intOf]; omega
    · obtain rfl : k = n := by omega
      have e : l.take k = l := List.take_of_length_le (by rw [HN.out]; exact Nat.le_refl _)
      rw [e] at O
      have O2 : Hid (wr.ownsRow g 3 1 u3 (targetsV l).length (vI (targetsV l))) := by
        have hl2 : (targetsV l).length = k := by unfold targetsV; rw [List.length_map, HN.out]
        show World.ownsRow _ _ _ _ _ _ _
        rw [hl2]; exact O.out
      clear O e
      go_wp2
      go_ret
      exact ⟨_, rfl, O2.out, HB.out⟩

set_option maxHeartbeats 2000000 in
set_option maxRecDepth 100000 in
theorem inputsN_own (n : NetV) (t : Int) (w : World) (hr : NetR w n)  :
    Calls Tryz.prog 34 #[.agg #[.string n.nm, .slice n.PA n.ps.length n.pc, .slice n.TA n.ts.length n.tc], .int .i64 t] w (OwnPost w.heap.size w (inputsN n t)) := by
  have CV := fun W (hW : Below w.heap.size w W) => isTrans_any n t W (hr.below hW (Nat.le_refl _))
  have RP := fun W (hW : Below w.heap.size w W) => (hr.below hW (Nat.le_refl _)).rp
  have RT := fun W (hW : Below w.heap.size w W) => (hr.below hW (Nat.le_refl _)).rt
  have hD : inputsN n t = if isT n t = true then targetsV (tA n.ts t.toNat).pre.l else [] := rfl
  have hT := @isT_val n t
  generalize inputsN n t = S at *
  obtain ⟨nm, PA, ps, pc, TA, ts, tc⟩ := n
  obtain ⟨hnm, ⟨hlp, hzp⟩, ⟨hlt, hzt⟩, hpc, htc, _, _⟩ := hr
  dsimp only at hnm hlp hzp hlt hzt hpc htc RP RT
  dsimp only at hD hT CV
  replace RP := Lib.hid RP
  replace RT := Lib.hid RT
  have HZT := Lib.hid hzt
  have HZP := Lib.hid hzp
  clear hzt hzp
  have B0 : Hid (Below w.heap.size w (w.alloc (.cells #[.string nm, .slice PA ps.length pc, .slice TA ts.length tc] 25))) := (Below.refl _ _).alloc (Nat.le_refl _) _
  have HT := Lib.hid hT
  clear hT
  cases hv : isT ⟨nm, PA, ps, pc, TA, ts, tc⟩ t
  · rw [hv] at CV hD
    have E : Hid (([] : List Int) = S) := by show _ = _; rw [hD]; rfl
    clear hD hv
    replace CV := Lib.hid CV
    go_enter Tryz.func34, Tryz.ntmps34
    go_wp2_with fail
    refine (CV.out _ B0.out).mono ?_
    rintro e w1 ⟨rfl, K⟩
    have K2 := Lib.hid (B0.out.trans (K.mono (by rw [World.size_alloc]; omega)))
    clear K
    go_wp2
    go_ret
    exact ⟨.slice none 0 0, rfl, by rw [← E.out]; exact World.ownsRow_nil _ _ _ _, K2.out⟩
  · obtain ⟨h1, h2, h3⟩ := HT.out.1 hv
    obtain ⟨k, rfl⟩ : ∃ k : Nat, t = k := ⟨t.toNat, by omega⟩
    have hk : k < ts.length := by omega
    rw [hv] at CV hD
    have E : Hid (targetsV (tA ts k).pre.l = S) := by show _ = _; rw [hD, if_pos rfl]; rfl
    have hz : Hid ((tA ts k).pre.l.length ≤ 1000) := (tA_ok HZT.out).1
    clear hD hv h1 h2 h3
    replace CV := Lib.hid CV
    go_enter Tryz.func34, Tryz.ntmps34
    go_wp2_with fail
    refine (CV.out _ B0.out).mono ?_
    rintro e w1 ⟨rfl, K⟩
    have c0w1 : w1.cell? ⟨w.heap.size, 0, none⟩ = some (.string nm) := by rw [K.cell (by simp)]; simp
    have c1w1 : w1.cell? ⟨w.heap.size, 1, none⟩ = some (.slice PA ps.length pc) := by rw [K.cell (by simp)]; simp
    have c2w1 : w1.cell? ⟨w.heap.size, 2, none⟩ = some (.slice TA ts.length tc) := by rw [K.cell (by simp)]; simp
    have K2 := Lib.hid (B0.out.trans (K.mono (by rw [World.size_alloc]; omega)))
    clear K
    obtain ⟨b0, off, rfl, hb0, d0, d1, d2, d3, d4, r1, r2, r3⟩ := RT.out w1 K2.out k hk
    have C := places_own _ _ (tA ts k).pre.c w1 r1 hz.out
    replace C := Lib.hid C
    clear r1 r2 r3
    generalize targetsV (tA ts k).pre.l = F at *
    generalize (tA ts k).pre.l.length = m at *
    generalize (tA ts k).pre.A = A at *
    generalize (tA ts k).pre.c = c at *
    go_wp2_with fail
    refine C.out.mono ?_
    rintro e w2 ⟨v2, rfl, R, K⟩
    have K3 := Lib.hid (K2.out.trans (K.mono K2.out.size))
    have R2 : Hid (w2.ownsRow w.heap.size 3 1 v2 S.length (vI S)) := by
      show World.ownsRow _ _ _ _ _ _ _
      rw [← E.out]
      exact Dg.own_mono R K2.out.size
    clear K R
    go_wp2
    go_ret
    exact ⟨v2, rfl, R2.out, K3.out⟩

set_option maxHeartbeats 2000000 in
set_option maxRecDepth 100000 in
theorem outputsN_own (n : NetV) (t : Int) (w : World) (hr : NetR w n)  :
    Calls Tryz.prog 35 #[.agg #[.string n.nm, .slice n.PA n.ps.length n.pc, .slice n.TA n.ts.length n.tc], .int .i64 t] w (OwnPost w.heap.size w (outputsN n t)) := by
  have CV := fun W (hW : Below w.heap.size w W) => isTrans_any n t W (hr.below hW (Nat.le_refl _))
  have RP := fun W (hW : Below w.heap.size w W) => (hr.below hW (Nat.le_refl _)).rp
  have RT := fun W (hW : Below w.heap.size w W) => (hr.below hW (Nat.le_refl _)).rt
  have hD : outputsN n t = if isT n t = true then targetsV (tA n.ts t.toNat).post.l else [] := rfl
  have hT := @isT_val n t
  generalize outputsN n t = S at *
  obtain ⟨nm, PA, ps, pc, TA, ts, tc⟩ := n
  obtain ⟨hnm, ⟨hlp, hzp⟩, ⟨hlt, hzt⟩, hpc, htc, _, _⟩ := hr
  dsimp only at hnm hlp hzp hlt hzt hpc htc RP RT
  dsimp only at hD hT CV
  replace RP := Lib.hid RP
  replace RT := Lib.hid RT
  have HZT := Lib.hid hzt
  have HZP := Lib.hid hzp
  clear hzt hzp
  have B0 : Hid (Below w.heap.size w (w.alloc (.cells #[.string nm, .slice PA ps.length pc, .slice TA ts.length tc] 25))) := (Below.refl _ _).alloc (Nat.le_refl _) _
  have HT := Lib.hid hT
  clear hT
  cases hv : isT ⟨nm, PA, ps, pc, TA, ts, tc⟩ t
  · rw [hv] at CV hD
    have E : Hid (([] : List Int) = S) := by show _ = _; rw [hD]; rfl
    clear hD hv
    replace CV := Lib.hid CV
    go_enter Tryz.func35, Tryz.ntmps35
    go_wp2_with fail
    refine (CV.out _ B0.out).mono ?_
    rintro e w1 ⟨rfl, K⟩
    have K2 := Lib.hid (B0.out.trans (K.mono (by rw [World.size_alloc]; omega)))
    clear K
    go_wp2
    go_ret
    exact ⟨.slice none 0 0, rfl, by rw [← E.out]; exact World.ownsRow_nil _ _ _ _, K2.out⟩
  · obtain ⟨h1, h2, h3⟩ := HT.out.1 hv
    obtain ⟨k, rfl⟩ : ∃ k : Nat, t = k := ⟨t.toNat, by omega⟩
    have hk : k < ts.length := by omega
    rw [hv] at CV hD
    have E : Hid (targetsV (tA ts k).post.l = S) := by show _ = _; rw [hD, if_pos rfl]; rfl
    have hz : Hid ((tA ts k).post.l.length ≤ 1000) := (tA_ok HZT.out).2
    clear hD hv h1 h2 h3
    replace CV := Lib.hid CV
    go_enter Tryz.func35, Tryz.ntmps35
    go_wp2_with fail
    refine (CV.out _ B0.out).mono ?_
    rintro e w1 ⟨rfl, K⟩
    have c0w1 : w1.cell? ⟨w.heap.size, 0, none⟩ = some (.string nm) := by rw [K.cell (by simp)]; simp
    have c1w1 : w1.cell? ⟨w.heap.size, 1, none⟩ = some (.slice PA ps.length pc) := by rw [K.cell (by simp)]; simp
    have c2w1 : w1.cell? ⟨w.heap.size, 2, none⟩ = some (.slice TA ts.length tc) := by rw [K.cell (by simp)]; simp
    have K2 := Lib.hid (B0.out.trans (K.mono (by rw [World.size_alloc]; omega)))
    clear K
    obtain ⟨b0, off, rfl, hb0, d0, d1, d2, d3, d4, r1, r2, r3⟩ := RT.out w1 K2.out k hk
    have C := places_own _ _ (tA ts k).post.c w1 r2 hz.out
    replace C := Lib.hid C
    clear r1 r2 r3
    generalize targetsV (tA ts k).post.l = F at *
    generalize (tA ts k).post.l.length = m at *
    generalize (tA ts k).post.A = A at *
    generalize (tA ts k).post.c = c at *
    go_wp2_with fail
    refine C.out.mono ?_
    rintro e w2 ⟨v2, rfl, R, K⟩
    have K3 := Lib.hid (K2.out.trans (K.mono K2.out.size))
    have R2 : Hid (w2.ownsRow w.heap.size 3 1 v2 S.length (vI S)) := by
      show World.ownsRow _ _ _ _ _ _ _
      rw [← E.out]
      exact Dg.own_mono R K2.out.size
    clear K R
    go_wp2
    go_ret
    exact ⟨v2, rfl, R2.out, K3.out⟩

def shP (P : Nat) (l : List Int) : List Int := l.map fun x => x + (P : Int)
def rowS (n : NetV) (t i v : Nat) : List Int :=
  if v < n.ps.length then shP n.ps.length (pickI (conF n.ts (v : Nat)) t) ++ (if ((inputsN n (t : Nat)).take i).contains (v : Int) then [((n.ps.length + t : Nat) : Int)] else [])
  else if v - n.ps.length < t then outputsN n ((v - n.ps.length : Nat) : Int) else []
def flowV (n : NetV) (v : Nat) : List Int := if v < n.ps.length then shP n.ps.length (consumersN n (v : Nat)) else outputsN n ((v - n.ps.length : Nat) : Int)
theorem inputs_at {n : NetV} (h : okN n = true) {t : Nat} (ht : t < n.ts.length) {i : Nat} (hi : i < (inputsN n (t : Nat)).length) : ∃ e : Nat, at0 (inputsN n (t : Nat)) i = (e : Int) ∧ e < n.ps.length ∧ ((inputsN n (t : Nat)).take i).contains (e : Int) = false := by
  obtain ⟨_, _, _, _, _, h6⟩ := okN_parts h
  obtain ⟨_, _, _, _, _, a1, _, _⟩ := transE_parts (h6 t ht)
  have e1 : inputsN n (t : Nat) = targetsV (tA n.ts t).pre.l := by
    unfold inputsN
    rw [if_pos (isT_val.2 ⟨by omega, by omega, h⟩)]
    rfl
  rw [e1] at hi ⊢
  have hl : i < (tA n.ts t).pre.l.length := by unfold targetsV at hi; rw [List.length_map] at hi; exact hi
  have hat : ∀ j, j < (tA n.ts t).pre.l.length → at0 (targetsV (tA n.ts t).pre.l) j = aP (tA n.ts t).pre.l j := fun j hj => by
    unfold at0 targetsV aP
    rw [List.getElem?_map, List.getElem?_eq_getElem hj]
    rfl
  obtain ⟨b1, b2, _, _, _⟩ := arcsE_parts a1 i hl
  refine ⟨(aP (tA n.ts t).pre.l i).toNat, by rw [hat i hl]; omega, by omega, ?_⟩
  rw [Bool.eq_false_iff]
  intro hc
  rw [List.contains_iff_mem, List.mem_iff_getElem?] at hc
  obtain ⟨j, hj⟩ := hc
  rw [List.getElem?_take] at hj
  by_cases c : j < i
  · rw [if_pos c] at hj
    have h1 := arcs_lt a1 c hl
    have h2 := hat j (by omega)
    unfold at0 at h2
    rw [hj, Option.getD_some] at h2
    omega
  · rw [if_neg c] at hj; cases hj
theorem take_more {l : List Int} {k : Nat} (h : k < l.length) (x : Int) : (l.take (k + 1)).contains x = ((l.take k).contains x || decide (at0 l k = x)) := Dg.take_has' h x
theorem rowS_start (n : NetV) (v : Nat) : rowS n 0 0 v = [] := by
  unfold rowS
  split
  · simp [pickI, shP]
  · rw [if_neg (by omega)]
theorem rowS_step {n : NetV} (h : okN n = true) {t : Nat} (ht : t < n.ts.length) {i e : Nat} (hi : i < (inputsN n (t : Nat)).length) (he : at0 (inputsN n (t : Nat)) i = (e : Int)) (hep : e < n.ps.length) (hno : ((inputsN n (t : Nat)).take i).contains (e : Int) = false) (j : Nat) :
    rowS n t (i + 1) j = if j = e then rowS n t i e ++ [((n.ps.length + t : Nat) : Int)] else rowS n t i j := by
  unfold rowS
  by_cases c : j = e
  · subst c
    rw [if_pos hep, if_pos rfl, if_pos hep, take_more hi, he, hno]
    simp
  · rw [if_neg c]
    by_cases c2 : j < n.ps.length
    · rw [if_pos c2, if_pos c2, take_more hi, he]
      have h3 : decide ((e : Int) = (j : Int)) = false := decide_eq_false fun h => c (by omega)
      rw [h3, Bool.or_false]
    · rw [if_neg c2, if_neg c2]
theorem rowS_node {n : NetV} (h : okN n = true) {t : Nat} (ht : t < n.ts.length) (j : Nat) :
    (if j = n.ps.length + t then outputsN n (t : Nat) else rowS n t (inputsN n (t : Nat)).length j) = rowS n (t + 1) 0 j := by
  unfold rowS
  by_cases c : j < n.ps.length
  · rw [if_neg (by omega), if_pos c, if_pos c, List.take_length]
    obtain ⟨_, _, h3, _, _, _, _, _⟩ := opp h ht j
    have h4 := decide_eq_decide.1 h3
    cases hc : conF n.ts (j : Nat) t
    · rw [pickI_no _ _ hc]
      have : (inputsN n (t : Nat)).contains (j : Int) = false := by
        rw [Bool.eq_false_iff]
        intro hm
        rw [List.contains_iff_mem] at hm
        unfold conF at hc
        exact of_decide_eq_false hc (h4.1 hm)
      rw [this]
      simp
    · rw [pickI_yes _ _ hc]
      have : (inputsN n (t : Nat)).contains (j : Int) = true := by
        rw [List.contains_iff_mem]
        unfold conF at hc
        exact h4.2 (of_decide_eq_true hc)
      rw [this]
      simp [shP]
      omega
  · by_cases c2 : j = n.ps.length + t
    · subst c2
      rw [if_pos rfl, if_neg (by omega), if_pos (by omega), Nat.add_sub_cancel_left]
    · rw [if_neg c2, if_neg c, if_neg c]
      by_cases c3 : j - n.ps.length < t
      · rw [if_pos c3, if_pos (by omega)]
      · rw [if_neg c3, if_neg (by omega)]
theorem rowS_end {n : NetV} (h : okN n = true) {v : Nat} (hv : v < n.ps.length + n.ts.length) : rowS n n.ts.length 0 v = flowV n v := by
  unfold rowS flowV consumersN
  by_cases c : v < n.ps.length
  · rw [if_pos c, if_pos c, if_pos h]
    simp
  · rw [if_neg c, if_neg c, if_pos (by omega)]
theorem rowS_few {n : NetV} (t i : Nat) {v : Nat} (hv : v < n.ps.length) : (rowS n t i v).length ≤ t + 1 := by
  unfold rowS
  rw [if_pos hv, List.length_append]
  have := pickI_len (conF n.ts (v : Nat)) t
  unfold shP
  rw [List.length_map]
  split
  · rw [List.length_singleton]; omega
  · rw [List.length_nil]; omega
/-- the rows, beside a list that is read -/
structure FloI (w1 : World) (g N : Nat) (A2 : Option Addr) (L2 : List Int) (L : Nat → List Int) (vs : Nat → Value) (W : World) : Prop where
  gr : Dg.GrowT W g (g + 1) N 34 3 1 (fun e => (L e).length) (fun e => Dg.vI (L e)) vs
  nb : ∀ b off, A2 = some ⟨b, off, none⟩ → L2 ≠ [] → b ≠ g ∧ b < W.heap.size ∧ ∀ v, v < N → (vs v).ownBlock ≠ some b
  rd : ReadsV W A2 L2
  bg : Below g w1 W
theorem FloI.below {w1 W W' : World} {g N : Nat} {A2 : Option Addr} {L2 : List Int} {L : Nat → List Int} {vs : Nat → Value} (h : FloI w1 g N A2 L2 L vs W) (hb : Below W.heap.size W W') : FloI w1 g N A2 L2 L vs W' :=
  ⟨h.gr.below hb, fun b off e hz => ⟨(h.nb b off e hz).1, Nat.lt_of_lt_of_le (h.nb b off e hz).2.1 hb.size, (h.nb b off e hz).2.2⟩, h.rd.below hb (Nat.le_refl _), h.bg.trans (hb.mono (Nat.le_trans (Nat.le_succ g) h.gr.2.1))⟩
theorem FloI.step {w1 w5 w6 : World} {g N e : Nat} {A2 : Option Addr} {L2 : List Int} {L L' : Nat → List Int} {vs : Nat → Value} {v' : Value} {d : Int} (h : FloI w1 g N A2 L2 L vs w5) (he : e < N)
    (LS : ∀ i, i < N → L' i = if i = e then L e ++ [d] else L i)
    (ho6 : w6.ownsRow (g + 1) 3 1 v' ((L e).length + 1) (Dg.vI (L e) ++ [.int .i64 d])) (hg6 : w5.grownBy w6 (vs e).ownBlock) (hb6 : v'.ownBlock = (vs e).ownBlock ∨ v'.ownBlock = some w5.heap.size) :
    FloI w1 g N A2 L2 L' (fun i => if i = e then v' else vs i) (w6.setCell ⟨g, e, none⟩ v') ∧ (∃ u, w6.cell? ⟨g, e, none⟩ = some u) ∧ w6.frozen? ⟨g, e, none⟩ = false := by
  have hnb : ∀ q, (vs e).ownBlock = some q → g + 1 ≤ q := fun q hq => by
    rcases Dg.own_ge (h.gr.2.2.2.1 e he) with h2 | ⟨g', h2, h3, h4⟩
    · rw [h2] at hq; cases hq
    · rw [h2] at hq; injection hq with hq; omega
  have ne : some g ≠ (vs e).ownBlock := fun c => by have h9 : g + 1 ≤ g := hnb _ c.symm; omega
  have h3 := h.gr.2.2.1.of_block (hg6.block _ h.gr.2.2.1.lt ne)
  have hB : g + 1 ≤ w5.heap.size := h.gr.2.1
  have BG6 : Below g w1 w6 := h.bg.trans ((Below.refl _ w5).grown hg6 (by omega) fun q hq => by have := hnb q hq; omega)
  refine ⟨⟨?_, ?_, ?_, BG6.setCell (Nat.le_refl _) _⟩, ⟨_, h3.cell he⟩, h3.frozen e⟩
  · refine (h.gr.step he ho6 hg6 hb6).congr (fun i hi => ?_) (fun i hi => ?_)
    · rw [LS i hi]
      by_cases c : i = e
      · rw [if_pos c, if_pos c]; simp
      · rw [if_neg c, if_neg c]
    · rw [LS i hi]
      by_cases c : i = e
      · rw [if_pos c, if_pos c, Dg.vI_snoc]
      · rw [if_neg c, if_neg c]
  · intro b off e1 hz
    obtain ⟨x1, x2, x3⟩ := h.nb b off e1 hz
    refine ⟨x1, by rw [nblk_setCell]; exact Nat.lt_of_lt_of_le x2 hg6.size, fun v hv => ?_⟩
    try dsimp only
    by_cases c : v = e
    · rw [if_pos c]
      rcases hb6 with e2 | e2
      · rw [e2]; exact x3 e he
      · rw [e2]; intro e3; injection e3 with e3; omega
    · rw [if_neg c]; exact x3 v hv
  · intro j hj
    obtain ⟨b, off, e1, x1, x2⟩ := h.rd j hj
    have hz : L2 ≠ [] := fun c => by rw [c] at hj; exact absurd hj (by simp)
    obtain ⟨y1, y2, y3⟩ := h.nb b off e1 hz
    have k1 : w6.heap[b]? = w5.heap[b]? := hg6.block b y2 fun c => y3 e he c.symm
    have k2 : (w6.setCell ⟨g, e, none⟩ v').heap[b]? = w5.heap[b]? := (blk_setCell_other _ _ _ _ y1).trans k1
    exact ⟨b, off, e1, by rw [nblk_setCell]; exact Nat.lt_of_lt_of_le y2 hg6.size, (World.cell?_of_block (w := w5) (a := ⟨b, off + j, none⟩) k2).trans x2⟩
theorem grow_node {w1 wr w3 : World} {g N e : Nat} {L L' : Nat → List Int} {L3 : List Int} {vs : Nat → Value} {v3 : Value} (h : Dg.GrowT wr g (g + 1) N 34 3 1 (fun e => (L e).length) (fun e => Dg.vI (L e)) vs) (hbg : Below g w1 wr) (he : e < N)
    (hb : Below wr.heap.size wr w3) (ho : w3.ownsRow wr.heap.size 3 1 v3 L3.length (vI L3)) (LS : ∀ i, i < N → L' i = if i = e then L3 else L i) :
    (∃ vs', Dg.GrowT (w3.setCell ⟨g, e, none⟩ v3) g (g + 1) N 34 3 1 (fun e => (L' e).length) (fun e => Dg.vI (L' e)) vs') ∧ Below g w1 (w3.setCell ⟨g, e, none⟩ v3) ∧ (∃ u, w3.cell? ⟨g, e, none⟩ = some u) ∧ w3.frozen? ⟨g, e, none⟩ = false := by
  have h' := h.below hb
  have hsz : g + 1 ≤ wr.heap.size := h.2.1
  have old : ∀ i, i < N → ∀ q, (vs i).ownBlock = some q → g + 1 ≤ q ∧ q < wr.heap.size := fun i hi q hq => by
    rcases Dg.own_ge (h.2.2.2.1 i hi) with h2 | ⟨g', h2, h3, h4⟩
    · rw [h2] at hq; cases hq
    · rw [h2] at hq; injection hq with hq; omega
  have new : ∀ q, v3.ownBlock = some q → wr.heap.size ≤ q := fun q hq => (ho.lt q hq).1
  refine ⟨⟨fun i => if i = e then v3 else vs i, h'.1, by rw [nblk_setCell]; exact h'.2.1, (h'.2.2.1.set e v3).congr fun i _ => rfl, fun i hi => ?_, fun i i' hi hi' hne => ?_⟩, (hbg.trans (hb.mono (by omega))).setCell (Nat.le_refl _) _, ⟨_, h'.2.2.1.cell he⟩, h'.2.2.1.frozen e⟩
  · try dsimp only
    rw [LS i hi]
    by_cases c : i = e
    · rw [if_pos c, if_pos c]
      refine Dg.own_block (Dg.own_mono ho hsz) fun q hq => blk_setCell_other _ _ _ _ (by have := new q hq; show q ≠ g; omega)
    · rw [if_neg c, if_neg c]
      refine Dg.own_block (h'.2.2.2.1 i hi) fun q hq => blk_setCell_other _ _ _ _ (by have := old i hi q hq; show q ≠ g; omega)
  · try dsimp only
    have sep : ∀ k, k < N → (vs k).ownBlock ≠ none → (vs k).ownBlock ≠ v3.ownBlock := fun k hk hn c => by
      cases hq : (vs k).ownBlock with
      | none => exact hn hq
      | some q =>
        have h5 := (old k hk q hq).2
        have h6 := new q (by rw [← c]; exact hq)
        omega
    by_cases c : i = e
    · rw [if_pos c, if_neg (fun d => hne (by rw [c, d]))]
      cases hq : v3.ownBlock with
      | none => exact .inl rfl
      | some q =>
        right
        intro d
        have h5 := (old i' hi' q d.symm).2
        have h6 := new q hq
        omega
    · rw [if_neg c]
      by_cases d : i' = e
      · rw [if_pos d]
        by_cases hn : (vs i).ownBlock = none
        · exact .inl hn
        · exact .inr (sep i hi hn)
      · rw [if_neg d]
        exact h'.2.2.2.2 i i' hi hi' hne
theorem flow_few {n : NetV} (h : OkT n.ts) (v : Nat) : (flowV n v).length ≤ 1000 := by
  unfold flowV
  split
  · unfold shP; rw [List.length_map]; exact cons_few h _
  · exact outputs_few h _
def FlowPost (g : Nat) (w : World) (n : NetV) (e : Ending) (w' : World) : Prop :=
  (okN n = false ∧ e = .returned (.slice none 0 0) ∧ Below g w w') ∨ (okN n = true ∧ ∃ T vs, e = .returned (.slice (some ⟨T, 0, none⟩) (n.ps.length + n.ts.length) (n.ps.length + n.ts.length)) ∧ Dg.GrowT w' T (T + 1) (n.ps.length + n.ts.length) 34 3 1 (fun e => (flowV n e).length) (fun e => Dg.vI (flowV n e)) vs ∧ Below g w w')
theorem grow_graph {w : World} {T N : Nat} {L : Nat → List Int} {vs : Nat → Value} (h : Dg.GrowT w T (T + 1) N 34 3 1 (fun e => (L e).length) (fun e => Dg.vI (L e)) vs) (hn : N ≤ 4000) (hl : ∀ e, e < N → (L e).length ≤ 1000000) : ∃ RA RK, Dg.GraphR w (some ⟨T, 0, none⟩) N RA L RK := by
  have key : ∀ e, e < N → ∃ A c, vs e = .slice A (L e).length c ∧ Dg.ReadsV w A (L e) := fun e he => Dg.ReadsV.own (h.2.2.2.1 e he)
  refine ⟨fun e => match vs e with | .slice A _ _ => A | _ => none, fun e => match vs e with | .slice _ _ c => c | _ => 0, hn, fun e he => ?_, fun e he => ?_, hl⟩
  · obtain ⟨A, c, e1, _⟩ := key e he
    refine ⟨T, 0, rfl, h.2.2.1.lt, ?_⟩
    rw [Nat.zero_add, h.2.2.1.cell he, e1]
  · obtain ⟨A, c, e1, h2⟩ := key e he
    rw [e1]
    exact h2
set_option maxHeartbeats 8000000 in
set_option maxRecDepth 100000 in
theorem flow_any (n : NetV) (w : World) (hr : NetR w n) :
    Calls Tryz.prog 10 #[(.agg #[.string n.nm, .slice n.PA n.ps.length n.pc, .slice n.TA n.ts.length n.tc])] w (FlowPost w.heap.size w n) := by
  have C := fun W (hW : Below w.heap.size w W) => check_any n W (hr.below hW (Nat.le_refl _))
  have hok : okN n = decide ((chkV n).1 = 0) := rfl
  have hpl := hr.okp.1
  have htl := hr.okt.1
  have CI := Lib.hid fun (t : Int) W (hW : Below w.heap.size w W) => inputsN_own n t W (hr.below hW (Nat.le_refl _))
  have CO := Lib.hid fun (t : Int) W (hW : Below w.heap.size w W) => outputsN_own n t W (hr.below hW (Nat.le_refl _))
  have LI := Lib.hid (inputs_few hr.okt)
  have LO := Lib.hid (outputs_few hr.okt)
  have LCo := Lib.hid (cons_few hr.okt)
  have hfd : ∀ (a b : Int) (w : World), (Instr.field 47 (.agg #[.int .i64 a, .int .i64 b]) 0).run Tryz.prog w = .ok (.int .i64 a) w := fun _ _ _ => by kernel_rfl
  have B0 : Hid (Below w.heap.size w (w.alloc (.cells #[.string n.nm, .slice n.PA n.ps.length n.pc, .slice n.TA n.ts.length n.tc] 25))) := (Below.refl _ _).alloc (Nat.le_refl _) _
  have N0 : Hid (NBox (w.alloc (.cells #[.string n.nm, .slice n.PA n.ps.length n.pc, .slice n.TA n.ts.length n.tc] 25)) w.heap.size n) := NBox.new w n
  generalize chkV n = cv at *
  obtain ⟨a, b⟩ := cv
  try dsimp only at hok
  replace C := Lib.hid C
  clear hr
  unfold FlowPost OwnPost at *
  by_cases z : a = 0
  case neg =>
    have E : Hid (okN n = false) := by show _ = _; rw [hok]; simp [z]
    have z2 : (a == 0) = false := by simpa using z
    have z3 : (a != 0) = true := by simpa using z
    clear z hok
    go_enter Tryz.func10, Tryz.ntmps10
    go_wp2_with fail
    refine (C.out _ B0.out).mono ?_
    rintro e w1 ⟨rfl, K⟩
    have K2 := Lib.hid (B0.out.trans (K.mono (by rw [World.size_alloc]; omega)))
    clear K
    go_wp2
    go_ret
    exact Or.inl ⟨E.out, rfl, K2.out⟩
  have E : Hid (okN n = true) := by show _ = _; rw [hok]; simp [z]
  have IA : Hid (∀ t, t < n.ts.length → ∀ i, i < (inputsN n (t : Nat)).length → ∃ e : Nat, at0 (inputsN n (t : Nat)) i = (e : Int) ∧ e < n.ps.length ∧ ∀ j, rowS n t (i + 1) j = if j = e then rowS n t i e ++ [((n.ps.length + t : Nat) : Int)] else rowS n t i j) := fun t ht i hi => by
    obtain ⟨e, h1, h2, h3⟩ := inputs_at E.out ht hi
    exact ⟨e, h1, h2, rowS_step E.out ht hi h1 h2 h3⟩
  have NA : Hid (∀ t, t < n.ts.length → ∀ j, rowS n (t + 1) 0 j = if j = n.ps.length + t then outputsN n (t : Nat) else rowS n t (inputsN n (t : Nat)).length j) := fun t ht j => (rowS_node E.out ht j).symm
  have FE : Hid (∀ v, v < n.ps.length + n.ts.length → rowS n n.ts.length 0 v = flowV n v) := fun v hv => rowS_end E.out hv
  have FF : Hid (∀ v, (flowV n v).length ≤ 1000000) := fun v => by
    unfold flowV
    split
    · unfold shP; rw [List.length_map]; have := LCo.out ((v : Nat) : Int); omega
    · have := LO.out ((v - n.ps.length : Nat) : Int); omega
  have FR : Hid (∀ t i v, v < n.ps.length → (rowS n t i v).length ≤ t + 1) := fun t i v hv => rowS_few t i hv
  have RS0 : Hid (∀ v, rowS n 0 0 v = []) := rowS_start n
  have z2 : (a == 0) = true := by simpa using z
  have z3 : (a != 0) = false := by simpa using z
  have hmk := run_make_rowsI (n.ps.length + n.ts.length) (by omega)
  clear z hok LCo
  generalize rowS n = rs at *
  generalize flowV n = fv at *
  obtain ⟨N, hN⟩ : ∃ N, N = n.ps.length + n.ts.length := ⟨_, rfl⟩
  have hNi : (n.ps.length : Int) + (n.ts.length : Int) = (N : Int) := by omega
  rw [← hN] at FE hmk
  have hN2 : N ≤ 4000 := by omega
  have HN := Lib.hid hN
  have hgoal : Hid (∀ T vs (w' : World), Dg.GrowT w' T (T + 1) N 34 3 1 (fun e => (fv e).length) (fun e => Dg.vI (fv e)) vs → Below w.heap.size w w' → (okN n = false ∧ Ending.returned (Value.slice (some ⟨T, 0, none⟩) N N) = .returned (.slice none 0 0) ∧ Below w.heap.size w w') ∨ (okN n = true ∧ ∃ T' vs, Ending.returned (Value.slice (some ⟨T, 0, none⟩) N N) = .returned (.slice (some ⟨T', 0, none⟩) (n.ps.length + n.ts.length) (n.ps.length + n.ts.length)) ∧ Dg.GrowT w' T' (T' + 1) (n.ps.length + n.ts.length) 34 3 1 (fun e => (fv e).length) (fun e => Dg.vI (fv e)) vs ∧ Below w.heap.size w w')) := fun T vs w' h1 h2 => Or.inr ⟨E.out, T, vs, by rw [hN], by rw [← hN]; exact h1, h2⟩
  clear hN
  go_enter Tryz.func10, Tryz.ntmps10
  go_wp2_with fail
  refine (C.out _ B0.out).mono ?_
  rintro e w1 ⟨rfl, K⟩
  have B1 := Lib.hid (B0.out.trans (K.mono (by rw [World.size_alloc]; omega)))
  have N1 := Lib.hid (N0.out.below K (by simp))
  have hg1 : w.heap.size < w1.heap.size := by have := K.size; rw [World.size_alloc] at this; omega
  obtain ⟨c0, c1, c2⟩ := N1.out
  have M0 : Hid (Dg.GrowT (w1.alloc (.cells (madeCells #[.slice none 0 0] N) 34)) w1.heap.size (w1.heap.size + 1) N 34 3 1 (fun e => (rs 0 0 e).length) (fun e => Dg.vI (rs 0 0 e)) (fun _ => .slice none 0 0)) :=
    (Dg.GrowT.start (w := w1) N 34 3 1).congr (fun e _ => by rw [RS0.out e]; rfl) (fun e _ => by rw [RS0.out e]; rfl)
  have BG0 : Hid (Below w1.heap.size w1 (w1.alloc (.cells (madeCells #[.slice none 0 0] N) 34))) := (Below.refl _ _).alloc (Nat.le_refl _) _
  have NBW : Hid (∀ W, Below w1.heap.size w1 W → NBox W w.heap.size n) := fun W hW => N1.out.below hW hg1
  have BW : Hid (∀ W, Below w1.heap.size w1 W → Below w.heap.size w W) := fun W hW => B1.out.trans (hW.mono (by omega))
  clear K C B0 N0 B1 N1 RS0
  go_wp2_with fail
  go_loopw [23] (fun q wr => ∃ (k : Nat) (vs : Nat → Value), k ≤ n.ts.length ∧ q = .int .i64 (k : Nat) ∧ Hid (Dg.GrowT wr w1.heap.size (w1.heap.size + 1) N 34 3 1 (fun e => (rs k 0 e).length) (fun e => Dg.vI (rs k 0 e)) vs) ∧ Hid (Below w1.heap.size w1 wr)) (fun q _ => n.ts.length - (intOf q).toNat)
  case atStart => exact ⟨0, _, by omega, rfl, M0, BG0⟩
  case round =>
    clear M0 BG0 c0 c1 c2
    obtain ⟨wo, rfl⟩ : ∃ wo, wo = wr := ⟨_, rfl⟩
    obtain ⟨k, vs, hk, rfl, MR, BG⟩ := hrel
    have hszo := MR.out.2.1
    by_cases hlt : k < n.ts.length
    · obtain ⟨c0, c1, c2⟩ := NBW.out _ BG.out
      have CIk := Lib.hid (CI.out (k : Int) wo (BW.out _ BG.out))
      have COk := Lib.hid (CO.out (k : Int))
      have IAk := Lib.hid (IA.out k hlt)
      have NAk := Lib.hid (NA.out k hlt)
      have lik := LI.out (k : Int)
      have lok := LO.out (k : Int)
      have FRk := Lib.hid (FR.out k)
      obtain ⟨nd, hnd⟩ : ∃ nd, nd = n.ps.length + k := ⟨_, rfl⟩
      have hndi : (n.ps.length : Int) + (k : Int) = (nd : Int) := by omega
      have hndN : nd < N := by have := HN.out; omega
      have hpN : n.ps.length ≤ N := by have := HN.out; omega
      rw [← hnd] at IAk NAk
      clear hnd CI CO IA NA LI LO FR hgoal FE FF
      generalize inputsN n (k : Int) = L2 at *
      generalize outputsN n (k : Int) = L3 at *
      go_wp2_with fail
      refine CIk.out.mono ?_
      rintro e w2 ⟨v2, rfl, O2, K2⟩
      obtain ⟨A2, m2, ev, R2⟩ := ReadsV.own O2
      subst ev
      have F0 : Hid (FloI w1 w1.heap.size N A2 L2 (rs k 0) vs w2) := by
        refine ⟨MR.out.below K2, fun b off e1 hz => ?_, R2, BG.out.trans (K2.mono (by omega))⟩
        have hb2 := O2.lt b (by rw [e1]; rfl)
        refine ⟨by omega, hb2.2, fun v hv c => ?_⟩
        rcases Dg.own_ge (MR.out.2.2.2.1 v hv) with h2 | ⟨g', h2, h3, h4⟩
        · rw [h2] at c; cases c
        · rw [h2] at c; injection c with c; omega
      clear c0 c1 c2 K2 O2 R2 CIk MR BG
      go_wp2_with fail
      go_loopw [35] (fun q wr => ∃ (i : Nat) (vs : Nat → Value), i ≤ L2.length ∧ q = .int .i64 (i : Nat) ∧ Hid (FloI w1 w1.heap.size N A2 L2 (rs k i) vs wr)) (fun q _ => L2.length - (intOf q).toNat)
      case atStart => exact ⟨0, vs, by omega, rfl, F0⟩
      case round =>
        clear F0
        obtain ⟨wp, rfl⟩ : ∃ wp, wp = wr := ⟨_, rfl⟩
        obtain ⟨i, vs, hi, rfl, FI⟩ := hrel
        by_cases hli : i < L2.length
        · obtain ⟨e, he1, he2, he3⟩ := IAk.out i hli
          obtain ⟨b2, off2, e2, _, d1⟩ := FI.out.rd i hli
          rw [he1] at d1
          have heN : e < N := by omega
          have hv := FI.out.gr.2.2.1.cell heN
          have hOw := FI.out.gr.2.2.2.1 e heN
          have hlen := FRk.out i e he2
          have hsz := FI.out.gr.2.1
          have HVE0 : ∃ A c, vs e = .slice A (rs k i e).length c := by
            rcases hOw.2 with ⟨h1, h0⟩ | ⟨g, cap, cur, h1, _⟩
            · have h0 : (rs k i e).length = 0 := h0
              exact ⟨none, 0, by rw [h1, h0]⟩
            · exact ⟨_, _, h1⟩
          obtain ⟨vA, vc, hve⟩ := HVE0
          have HVE := Lib.hid hve
          obtain ⟨w5, hw5⟩ : ∃ w5, w5 = wp.alloc (.cells #[.int .i64 (nd : Int)] 3) := ⟨_, rfl⟩
          have KB : Below wp.heap.size wp w5 := by rw [hw5]; exact (Below.refl _ _).alloc (Nat.le_refl _) _
          have g0 : w5.cell? ⟨wp.heap.size, 0, none⟩ = some (.int .i64 (nd : Int)) := by rw [hw5]; simp
          have hs5 : wp.heap.size ≤ w5.heap.size := KB.size
          have FI5 := FI.out.below KB
          have HOW : Hid (w5.ownsRow (w1.heap.size + 1) 3 1 (vs e) (rs k i e).length (Dg.vI (rs k i e))) := FI5.gr.2.2.2.1 e heN
          have PACK : Hid (∀ v' w6, w6.ownsRow (w1.heap.size + 1) 3 1 v' ((rs k i e).length + 1) (Dg.vI (rs k i e) ++ [.int .i64 (nd : Int)]) → w5.grownBy w6 (vs e).ownBlock → (v'.ownBlock = (vs e).ownBlock ∨ v'.ownBlock = some w5.heap.size) →
              FloI w1 w1.heap.size N A2 L2 (rs k (i + 1)) (fun i => if i = e then v' else vs i) (w6.setCell ⟨w1.heap.size, e, none⟩ v') ∧ (∃ u, w6.cell? ⟨w1.heap.size, e, none⟩ = some u) ∧ w6.frozen? ⟨w1.heap.size, e, none⟩ = false) := fun v' w6 h1 h2 h3 => FI5.step heN (fun j _ => he3 j) h1 h2 h3
          have HW5 := Lib.hid hw5
          rw [hve] at hv
          subst e2
          clear hw5 KB FI5 FI he1 he3 IAk hOw hve
          go_wp2_with (at_builtin; rw [← HW5.out, ← HVE.out]; go_loud (refine Dg.wpList_intg rfl (.tmp 44) (.tmp 46) rfl (w1.heap.size + 1) (vs e) (rs k i e) (nd : Int) rfl HOW.out wp.heap.size rfl g0 (by omega) (by omega) ?_); intro v' w6 ho6 hg6 hb6; obtain ⟨gv, cv, hv'⟩ := Dg.own_form ho6; subst hv'; obtain ⟨m6, ⟨cu, ct⟩, cf⟩ := PACK.out _ w6 ho6 hg6 hb6; have M6 := Lib.hid m6; clear m6 ho6 hg6 hb6 PACK)
          go_roundw
          case rel => exact ⟨i + 1, _, by omega, by go_num, M6⟩
          case measure => simp [intOf]; omega
        · have hieq : i = L2.length := by omega
          rw [hieq] at FI
          obtain ⟨c0, c1, c2⟩ := NBW.out _ FI.out.bg
          have C3 := Lib.hid (COk.out wp (BW.out _ FI.out.bg))
          have GN : Hid (∀ v3 w3, Below wp.heap.size wp w3 → w3.ownsRow wp.heap.size 3 1 v3 L3.length (vI L3) → _) := fun v3 w3 h1 h2 => grow_node FI.out.gr FI.out.bg hndN h1 h2 fun j _ => NAk.out j
          clear FI COk NAk IAk hieq
          go_wp2_with fail
          refine C3.out.mono ?_
          rintro e w3 ⟨v3, rfl, O3, K3⟩
          obtain ⟨A3, m3, ev3, _⟩ := ReadsV.own O3
          subst ev3
          obtain ⟨⟨vs', m6⟩, b6, ⟨u, cu⟩, cf⟩ := GN.out _ w3 K3 O3
          have M6 := Lib.hid m6
          have B6 := Lib.hid b6
          clear GN m6 b6 O3 K3 C3 c0 c1 c2
          go_wp2
          go_roundw
          case rel => exact ⟨k + 1, _, by omega, by go_num, M6, B6⟩
          case measure => simp [intOf]; omega
    · have hkT : k = n.ts.length := by omega
      have M6 : Hid (Dg.GrowT wo w1.heap.size (w1.heap.size + 1) N 34 3 1 (fun e => (fv e).length) (fun e => Dg.vI (fv e)) vs) := MR.out.congr (fun j hj => by rw [hkT, FE.out j hj]) (fun j hj => by rw [hkT, FE.out j hj])
      have BF := Lib.hid (BW.out _ BG.out)
      clear MR CI CO IA NA FE FF
      go_wp2
      go_ret
      exact hgoal.out _ _ _ M6.out BF.out
end Go.Proofs.YtlbcdnobpnllkaaGreat
