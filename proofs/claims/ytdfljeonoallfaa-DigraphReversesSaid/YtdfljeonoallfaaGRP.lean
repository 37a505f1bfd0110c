/- Graphs: Path of the reference; the law Paths. -/
import Derived.Test.YtdfljeonoallfaaGRD
import Derived.Test.YtdfljeonoallfaaGN
namespace Go.Proofs.Ytdfljeonoallfaa
open Go.RowKit Go.Deep

set_option maxHeartbeats 8000000 in
set_option maxRecDepth 100000 in
theorem rpath_any (gA : Option Addr) (n gc : Nat) (RA : Nat → Option Addr) (RL : Nat → List Int) (RK : Nat → Nat) (f t : Int) (w : World) (GR : GraphR w gA n RA RL RK) :
    Calls Try.prog 30 #[.slice gA n gc, .int .i64 f, .int .i64 t] w (PthPost w.heap.size w (pathS RL n f t)) := by
  have hn := GR.hn
  have CT : Hid (∀ W, Below w.heap.size w W → Calls Try.prog 32 #[.slice gA n gc] W fun e w' => ∃ v ad, e = .returned v ∧ MatB w' W.heap.size v n n ad (tabB RL) ∧ Below W.heap.size W w') := fun W hW => table_any gA n gc RA RL RK W (GR.below hW)
  have CD : Hid (∀ t : Nat, t < n → Calls Try.prog 42 #[.slice gA n gc, .int .i64 (t : Nat)] w (IsPost w.heap.size w (tab n (fun v => dstV RL n t n v)))) := fun t ht => rdistances_any gA n gc RA RL RK t w GR ht
  clear GR
  by_cases hin : (inR f n && inR t n) = true
  rotate_left
  · have hb : (inR f n && inR t n) = false := by simpa using hin
    rw [pathS_no hb]
    have Bw : Hid (Below w.heap.size w w) := Below.refl _ _
    have hcase : f < 0 ∨ (¬ f < 0 ∧ (n : Int) ≤ f) ∨ (¬ f < 0 ∧ ¬ (n : Int) ≤ f ∧ t < 0) ∨ (¬ f < 0 ∧ ¬ (n : Int) ≤ f ∧ ¬ t < 0 ∧ (n : Int) ≤ t) := by
      have : ¬ ((0 ≤ f ∧ f < n) ∧ 0 ≤ t ∧ t < n) := fun h => hin (by rw [Bool.and_eq_true, inR_iff, inR_iff]; exact h)
      omega
    clear hin CD CT hb
    rcases hcase with h1 | ⟨h1, h2⟩ | ⟨h1, h2, h3⟩ | ⟨h1, h2, h3, h4⟩
    all_goals
      go_enter Try.func30, Try.ntmps30
      go_wp2
      go_ret2
      exact ⟨none, 0, rfl, ReadsV.nil _ _, Bw.out⟩
  rw [Bool.and_eq_true, inR_iff, inR_iff] at hin
  obtain ⟨f, rfl⟩ : ∃ y : Nat, f = y := ⟨f.toNat, by omega⟩
  obtain ⟨t, rfl⟩ : ∃ y : Nat, t = y := ⟨t.toNat, by omega⟩
  have hf : f < n := by omega
  have ht : t < n := by omega
  have n1 : ¬ (f : Int) < 0 := by omega
  have n2 : ¬ (n : Int) ≤ (f : Int) := by omega
  have n3 : ¬ (t : Int) < 0 := by omega
  have n4 : ¬ (n : Int) ≤ (t : Int) := by omega
  have CD := Lib.hid (CD.out t ht)
  have PN := Lib.hid (pathS_none (R := RL) hf ht)
  have PS := Lib.hid (pathS_some (R := RL) hf ht)
  have IT := Lib.hid (fun m (h : dstV RL n t n f = ((m : Nat) : Int)) => it_spec (R := RL) hf h)
  have DL := Lib.hid (fun v => dst_le RL n t v)
  have NX := Lib.hid (fun v m (h : dstV RL n t n v = ((m + 1 : Nat) : Int)) => nxt_spec (R := RL) h)
  have OB : Hid (∀ v u, onB RL n t v u = (tabB RL v u && decide (dstV RL n t n u = dstV RL n t n v - 1))) := fun _ _ => rfl
  have DS : Hid (¬ dstV RL n t n f < 0 → ∃ m : Nat, dstV RL n t n f = (m : Int) ∧ pthV RL n t f = tab (m + 1) (fun j => (itV RL n t f j : Int))) := fun h => ⟨(dstV RL n t n f).toNat, by omega, rfl⟩
  have I0 : Hid (itV RL n t f 0 = f) := rfl
  have IS : Hid (∀ j, itV RL n t f (j + 1) = nxtV RL n t (itV RL n t f j)) := fun _ => rfl
  clear hin
  unfold PthPost
  generalize pathS RL n (f : Int) (t : Int) = PO at *
  generalize pthV RL n t f = PT at *
  generalize onB RL n t = ob at *
  generalize dstV RL n t n = D at *
  generalize itV RL n t f = it at *
  generalize nxtV RL n t = nx at *
  generalize tabB RL = T at *
  unfold IsPost at CD
  rw [tab_len] at CD
  go_enter Try.func30, Try.ntmps30
  go_wp2_with fail
  refine CD.out.mono ?_
  rintro e w1 ⟨dA, dc, rfl, DR, K1⟩
  have DR := Lib.hid DR
  have K1 := Lib.hid K1
  obtain ⟨b, off, rfl, _, c0⟩ := DR.out f (by rw [tab_len]; exact hf)
  rw [tab_at _ _ _ hf] at c0
  have CV : Hid (∀ W v, Below w1.heap.size w1 W → v < n → W.cell? ⟨b, off + v, none⟩ = some (.int .i64 (D v))) := fun W v hW hv => by
    obtain ⟨b', off', e', _, h⟩ := (DR.out.below hW (Nat.le_refl _)) v (by rw [tab_len]; exact hv)
    injection e' with e'
    injection e' with e1 e2
    subst e1 e2
    rw [tab_at _ _ _ hv] at h
    exact h
  clear CD DR n1 n2 n3 n4
  by_cases hneg : D f < 0
  · have E := PN.out hneg
    clear PN PS IT DL DS I0 IS NX OB CT CV
    go_wp2
    go_ret2
    exact ⟨none, 0, by rw [E]; rfl, by rw [E]; exact ReadsV.nil _ _, K1.out⟩
  obtain ⟨m, hm, hpt⟩ := DS.out (by first | exact hneg | omega)
  have E := Lib.hid (PS.out (by first | exact hneg | omega))
  have IT := Lib.hid (IT.out m hm)
  have HPT := Lib.hid hpt
  have hmn : m ≤ n := by have := (DL.out f).2; omega
  clear PN PS DS hpt
  go_wp2_with fail
  refine (CT.out _ K1.out).mono ?_
  rintro e w2 ⟨tv, ad, rfl, M2, K2⟩
  have M2 := Lib.hid M2
  have D2 := Lib.hid (K1.out.trans (K2.mono K1.out.size))
  have CV : Hid (∀ W v, Below w2.heap.size w2 W → v < n → W.cell? ⟨b, off + v, none⟩ = some (.int .i64 (D v))) := fun W v hW hv => CV.out W v (K2.trans (hW.mono K2.size)) hv
  have O0 : Hid (OwnI (w2.alloc (.cells #[.int .i64 (f : Nat)] 3)) w2.heap.size (.slice (some ⟨w2.heap.size, 0, none⟩) 1 1) (tab 1 (fun j => (it j : Int)))) := by
    show OwnI _ _ _ _
    have h := World.ownsRow_lit w2 (e := 3) (size := 1) (base := w2.heap.size) #[.int .i64 (f : Nat)] 1 (Nat.le_refl _) (by unfold maxLen; omega) rfl
    have e1 : tab 1 (fun j => (it j : Int)) = [(f : Int)] := by show [(it 0 : Int)] = _; rw [I0.out]
    unfold OwnI
    rw [e1]
    exact h
  have S0 : Hid (Below w2.heap.size w2 (w2.alloc (.cells #[.int .i64 (f : Nat)] 3))) := (Below.refl _ _).alloc (Nat.le_refl _) _
  have WG : Hid (∀ W, Below w2.heap.size w2 W → Below w.heap.size w W) := fun W hW => D2.out.trans (hW.mono D2.out.size)
  clear K2 K1 CT hneg c0 D2
  go_wp2_with fail
  go_loopg [11, 10] m (fun gg q pv wr => ∃ j : Nat, gg = m - j ∧ j ≤ m ∧ q = .int .i64 (it j : Nat) ∧ Hid (OwnI wr w2.heap.size pv (tab (j + 1) (fun i => (it i : Int)))) ∧ Hid (Below w2.heap.size w2 wr))
  case atStart => exact ⟨0, rfl, by omega, by rw [I0.out], O0, S0⟩
  case round =>
    clear O0 S0
    obtain ⟨wo, rfl⟩ : ∃ wo, wo = wr := ⟨_, rfl⟩
    obtain ⟨j, hgg, hj, rfl, OW, BB⟩ := hrel
    obtain ⟨hvn, hvd⟩ := IT.out j hj
    have ISj := Lib.hid (IS.out j)
    obtain ⟨v, hv⟩ : ∃ v, it j = v := ⟨_, rfl⟩
    rw [hv] at hvn hvd ISj ⊢
    have HGG := Lib.hid hgg
    have c0 := CV.out _ v BB.out hvn
    clear hv hgg
    by_cases hjm : j < m
    · obtain ⟨x1, x2, -, x4⟩ := NX.out v (m - j - 1) (by rw [hvd]; congr 1; omega)
      have HX2 := Lib.hid x2
      have HX4 := Lib.hid x4
      have hsz := BB.out.size
      have hdp : 0 < D v := by rw [hvd]; omega
      have hwd : IntKind.i64.wrap (D v - 1) = D v - 1 := by have := (DL.out v).2; rw [IntKind.wrap_i64]; omega
      have HVD := Lib.hid hvd
      clear x2 x4 hvd
      go_wp2_with fail
      go_loopw [12] (fun q wr => ∃ u : Nat, u ≤ nx v ∧ q = .int .i64 (u : Nat) ∧ Hid (Below w2.heap.size w2 wr) ∧ Hid (OwnI wr w2.heap.size u10 (tab (j + 1) (fun i => (it i : Int))))) (fun q _ => n - (intOf q).toNat)
      case atStart => exact ⟨0, by omega, rfl, BB, OW⟩
      case round =>
        clear BB OW c0
        obtain ⟨u, hu, rfl, BB, OW⟩ := hrel
        have hun : u < n := by omega
        have M3 := M2.out.below BB.out
        obtain ⟨tg, tc, rfl, c1⟩ := M3.cell hvn
        have c2 := M3.get hvn hun
        have c3 := CV.out _ v BB.out hvn
        have c4 := CV.out _ u BB.out hun
        have B2 := Lib.hid BB.out.drew
        have O2 : Hid (OwnI wr.drew w2.heap.size u10 (tab (j + 1) (fun i => (it i : Int)))) := OW.out
        have hsz := BB.out.size
        by_cases huc : u < nx v
        · have ho := HX4.out u huc
          rw [OB.out] at ho
          clear HX2 HX4 OB M3 OW BB CV
          generalize hdu : D u = du at *
          generalize hdv : D v = dv at *
          generalize T v u = z at *
          generalize ad v = av at *
          cases z
          · clear ho hdu hdv
            go_wp2
            go_region
            generalize wr.drew = wd at *
            go_wp2
            go_roundw
            case rel => exact ⟨u + 1, by omega, by go_num, B2, O2⟩
            case measure => simp [intOf]; omega
          · rw [Bool.true_and, decide_eq_false_iff_not] at ho
            have hne : (du != dv - 1) = true := by simpa using ho
            clear ho hdu hdv
            go_wp2
            go_region
            generalize wr.drew = wd at *
            go_wp2
            go_roundw
            case rel => exact ⟨u + 1, by omega, by go_num, B2, O2⟩
            case measure => simp [intOf]; omega
        · have eu : u = nx v := by omega
          have ho := HX2.out
          rw [OB.out, ← eu, Bool.and_eq_true, decide_eq_true_eq] at ho
          obtain ⟨ho1, ho2⟩ := ho
          rw [ho1] at c2
          have hne : (D u != D v - 1) = false := by simp [ho2]
          have htl : (tab (j + 1) (fun i => (it i : Int))).length = j + 1 := tab_len _ _
          have HTS : Hid (tab (j + 1 + 1) (fun i => (it i : Int)) = tab (j + 1) (fun i => (it i : Int)) ++ [(u : Int)]) := by
            show _ = _
            rw [tab_snoc, ISj.out, eu]
          have HUI : Hid (it (j + 1) = u) := by show _ = _; rw [ISj.out, eu]
          have HJM := Lib.hid hjm
          have hszd : w2.heap.size ≤ wr.drew.heap.size := hsz
          clear HX2 HX4 OB M3 OW BB CV eu ho1 ho2 huc hu x1 ISj
          generalize D u = du at *
          generalize D v = dv at *
          generalize ad v = av at *
          generalize hTB : tab (j + 1) (fun i => (it i : Int)) = TB at *
          clear hTB
          go_wp2
          go_region
          generalize wr.drew = wd at *
          go_wp2_with (at_builtin; go_loud (refine wpList_int rfl (.tmp 71) (.tmp 73) rfl w2.heap.size u10 TB (u : Int) rfl (O2.out.alloc _) wd.heap.size rfl (cell_new1 _ _ _) (by omega) (by rw [World.size_alloc]; omega) ?_); intro v' w6 ho6 hb6; have O6 : Hid (OwnI w6 w2.heap.size v' (tab (j + 1 + 1) (fun i => (it i : Int)))) := (by show OwnI _ _ _ _; rw [HTS.out]; exact ho6); have B6 := Lib.hid ((B2.out.alloc hszd _).trans hb6); clear ho6 hb6)
          go_roundg (m - (j + 1))
          case rel => exact ⟨j + 1, rfl, by have := HJM.out; omega, by rw [HUI.out], O6, B6⟩
          case measure => have h1 := HGG.out; have h2 := HJM.out; omega
    · obtain rfl : j = m := by omega
      have hdz : ¬ 0 < D v := by rw [hvd]; omega
      have FIN : Hid (∃ A c, u10 = .slice A PT.length c ∧ ReadsV wo A PT) := by
        have ho := OW.out
        rw [← HPT.out] at ho
        obtain ⟨A, c, e1, h1⟩ := ReadsV.own ho
        exact ⟨A, c, e1, h1⟩
      have BF := Lib.hid (WG.out _ BB.out)
      have hdz2 : decide (0 < D v) = false := decide_eq_false hdz
      clear OW BB IS IT DL hvd ISj HGG hjm NX OB CV
      obtain ⟨A, c, e1, R1⟩ := FIN.out
      subst e1
      have R1 := Lib.hid R1
      go_wp2
      go_ret2
      first
        | exact ⟨A, ⟨c, by rw [E.out]; rfl⟩, by rw [E.out]; exact R1.out, BF.out⟩
        | exact ⟨A, c, by rw [E.out]; rfl, by rw [E.out]; exact R1.out, BF.out⟩
set_option maxHeartbeats 4000000 in
set_option maxRecDepth 100000 in
theorem paths_law (A : Option Addr) (L : List Row) (c : Nat) (f t : Int) (w : World) (hr : RowsW w A L c) :
    Calls Try.prog 7 #[.slice A L.length c, .int .i64 f, .int .i64 t] w fun e w' => e = .returned (.bool true) ∧ Below w.heap.size w w' := by
  have CF := Lib.hid (few_any A L c w hr)
  have CX : Hid (∀ W, Calls Try.prog 11 #[] W (VPost W.heap.size W (.bool true))) := alive_any
  have HR : Hid (∀ W, Below w.heap.size w W → L.length ≤ 12 → (∀ v, v < L.length → (rA L v).zs.length ≤ 20) → GraphR W A L.length (fun i => (rA L i).A) (fun i => (rA L i).zs) (fun i => (rA L i).cap)) := fun W hW h1 h2 => graph_rows (hr.below hW) h1 h2
  clear hr
  go_enter Try.func7, Try.ntmps7
  go_wp2_with fail
  refine CF.out.mono ?_
  rintro e x1 ⟨⟨b, rfl, hb⟩, D1⟩
  have D1 := Lib.hid D1
  clear CF
  cases b
  · clear hb HR
    go_wp2_with fail
    refine (CX.out _).mono ?_
    rintro e x2 ⟨rfl, K⟩
    have D2 := Lib.hid (D1.out.trans (K.mono D1.out.size))
    clear K
    go_wp2
    go_ret
    exact ⟨rfl, D2.out⟩
  obtain ⟨h1, h2⟩ := hb rfl
  have HG : Hid (∀ W, Below w.heap.size w W → GraphR W A L.length (fun i => (rA L i).A) (fun i => (rA L i).zs) (fun i => (rA L i).cap)) := fun W hW => HR.out W hW h1 h2
  have C1 : Hid (∀ W, Below w.heap.size w W → Calls Try.prog 29 #[.slice A L.length c, .int .i64 f, .int .i64 t] W (PthPost W.heap.size W (pathS (fun i => (rA L i).zs) L.length f t))) := fun W hW => path_any _ _ _ _ _ _ f t W (HG.out W hW)
  have C2 : Hid (∀ W, Below w.heap.size w W → Calls Try.prog 30 #[.slice A L.length c, .int .i64 f, .int .i64 t] W (PthPost W.heap.size W (pathS (fun i => (rA L i).zs) L.length f t))) := fun W hW => rpath_any _ _ _ _ _ _ f t W (HG.out W hW)
  have hpl : (pathS (fun i => (rA L i).zs) L.length f t).1.length ≤ 1000 := by
    unfold pathS
    split
    · split
      · exact Nat.zero_le _
      · show (pthV _ _ _ _).length ≤ 1000
        unfold pthV
        rw [tab_len]
        have := (dst_le (fun i => (rA L i).zs) L.length t.toNat f.toNat).2
        omega
    · exact Nat.zero_le _
  have CS : Hid (∀ A B (zs : List Int) c cb W, zs.length ≤ 1000 → ReadsV W A zs → ReadsV W B zs → Calls Try.prog 22 #[.slice A zs.length c, .slice B zs.length cb] W (VPost W.heap.size W (.bool true))) := fun A B zs c cb W h3 ra rb => by
    have h := same_any A B zs zs c cb W ra rb (by omega)
    rw [decide_eq_true rfl] at h
    exact h
  have HPL := Lib.hid hpl
  clear HR HG h2 hb hpl h1
  unfold PthPost at *
  generalize pathS (fun i => (rA L i).zs) L.length f t = PO at *
  obtain ⟨PL, pb⟩ := PO
  dsimp only at *
  have hbb : (pb == pb) = true := by simp
  go_wp2_with fail
  refine (C1.out _ D1.out).mono ?_
  rintro e x2 ⟨A2, c2, rfl, R2, K⟩
  have D2 := Lib.hid (D1.out.trans (K.mono D1.out.size))
  have R2 := Lib.hid R2
  clear K C1
  go_wp2_with fail
  refine (C2.out _ D2.out).mono ?_
  rintro e x3 ⟨A3, c3, rfl, R3, K⟩
  have D3 := Lib.hid (D2.out.trans (K.mono D2.out.size))
  have CS3 := Lib.hid (CS.out A2 A3 PL c2 c3 x3 HPL.out (R2.out.below K (Nat.le_refl _)) R3)
  clear K C2 R2 R3 CS
  go_wp2_with fail
  refine CS3.out.mono ?_
  rintro e x4 ⟨rfl, K⟩
  have D4 := Lib.hid (D3.out.trans (K.mono D3.out.size))
  clear K CS3
  go_wp2_with fail
  refine (CX.out _).mono ?_
  rintro e x8 ⟨rfl, K⟩
  have D8 := Lib.hid (D4.out.trans (K.mono D4.out.size))
  clear K CX
  go_wp2
  go_ret
  exact ⟨rfl, D8.out⟩
end Go.Proofs.Ytdfljeonoallfaa
