/- Graphs: Components and Bottom of the reference. -/
import Derived.Test.YtdfljeonoallfaaTD
import Derived.Test.YtdfljeonoallfaaGC
namespace Go.Proofs.Ytdfljeonoallfaa
open Go.RowKit Go.Deep

theorem cmp_hit {R : Nat → List Int} {n v : Nat} (h : cmpV R n v < v) : mutB R n (cmpV R n v) v = true := by
  unfold cmpV at h ⊢
  cases hf : (List.range v).find? fun u => mutB R n u v with
  | none => rw [hf] at h; exact absurd h (by simp)
  | some x =>
    have hx := List.find?_some hf
    exact hx
set_option maxHeartbeats 4000000 in
set_option maxRecDepth 100000 in
theorem rcomponents_any (gA : Option Addr) (n gc : Nat) (RA : Nat → Option Addr) (RL : Nat → List Int) (RK : Nat → Nat) (w : World) (GR : GraphR w gA n RA RL RK) :
    Calls Try.prog 24 #[.slice gA n gc] w (IsPost w.heap.size w (tab n (fun v => (cmpV RL n v : Int)))) := by
  have hn := GR.hn
  have CP := Lib.hid (paths_any gA n gc RA RL RK w GR)
  have MB : Hid (∀ u v, mutB RL n u v = (warN (tabB RL) n u v && warN (tabB RL) n v u)) := fun _ _ => rfl
  have CS : Hid (∀ v, v < n → cmpV RL n v ≤ v ∧ ∀ i, i < cmpV RL n v → mutB RL n i v = false) := fun v hv => ⟨(cmp_spec (R := RL) hv).1, (cmp_spec (R := RL) hv).2.2.2⟩
  have CH := Lib.hid (fun v => cmp_hit (R := RL) (n := n) (v := v))
  clear GR
  unfold IsPost
  generalize mutB RL n = mu at *
  generalize cmpV RL n = cm at *
  generalize warN (tabB RL) n = P at *
  go_enter Try.func24, Try.ntmps24
  go_wp2_with fail
  refine CP.out.mono ?_
  rintro e w1 ⟨pv, ad, rfl, M1, K1⟩
  have M1 := Lib.hid M1
  have K1 := Lib.hid K1
  have O0 : Hid (OwnI w1 w1.heap.size (.slice none 0 0) (tab 0 (fun v => (cm v : Int)))) := OwnI.nil _ _
  have B0 : Hid (Below w1.heap.size w1 w1) := Below.refl _ _
  clear CP
  go_wp2_with fail
  go_loopw [5, 4] (fun q ov wr => ∃ k : Nat, k ≤ n ∧ q = .int .i64 (k : Nat) ∧ Hid (OwnI wr w1.heap.size ov (tab k (fun v => (cm v : Int)))) ∧ Hid (Below w1.heap.size w1 wr)) (fun q _ _ => n - (intOf q).toNat)
  case atStart => exact ⟨0, by omega, rfl, O0, B0⟩
  case round =>
    clear O0 B0
    obtain ⟨wo, rfl⟩ : ∃ wo, wo = wr := ⟨_, rfl⟩
    obtain ⟨k, hk, rfl, OW, BB⟩ := hrel
    by_cases hlt : k < n
    · obtain ⟨hck, hno⟩ := CS.out k hlt
      have HNO := Lib.hid hno
      have HCH := Lib.hid (CH.out k)
      have hcn : cm k < n := by omega
      have MR := Lib.hid (M1.out.below BB.out)
      clear hno
      go_wp2_with fail
      go_loopw [6] (fun q wr => ∃ u : Nat, u ≤ cm k ∧ q = .int .i64 (u : Nat) ∧ Hid (wo = wr)) (fun q _ => n - (intOf q).toNat)
      case atStart => exact ⟨0, by omega, rfl, rfl⟩
      case round =>
        obtain ⟨u, hu, rfl, HW⟩ := hrel
        have hw := HW.out
        subst hw
        by_cases huk : u < k
        · obtain ⟨g, c, rfl, c1⟩ := MR.out.cell (show u < n by omega)
          obtain ⟨g', c', e', c2⟩ := MR.out.cell hlt
          simp only [Value.slice.injEq, Option.some.injEq, Addr.mk.injEq, and_true, true_and] at e'
          obtain ⟨rfl, rfl⟩ := e'
          have c3 := MR.out.get (show u < n by omega) hlt
          have c4 := MR.out.get hlt (show u < n by omega)
          have hun : u < n := by omega
          by_cases huc : u < cm k
          · have hm := HNO.out u huc
            rw [MB.out] at hm
            clear HNO HCH MB CS CH
            generalize P u k = z1 at *
            generalize P k u = z2 at *
            generalize ad u = au at *
            generalize ad k = ak at *
            cases z1
            · clear hm
              go_wp2
              go_roundw
              case rel => exact ⟨u + 1, by omega, by go_num, by first | exact HW | exact True.intro⟩
              case measure => simp [intOf]; omega
            · have hm : z2 = false := hm
              subst hm
              go_wp2
              go_roundw
              case rel => exact ⟨u + 1, by omega, by go_num, by first | exact HW | exact True.intro⟩
              case measure => simp [intOf]; omega
          · have eu : u = cm k := by omega
            have hm := HCH.out (by omega)
            rw [MB.out, ← eu, Bool.and_eq_true] at hm
            obtain ⟨m1, m2⟩ := hm
            rw [m1] at c3
            rw [m2] at c4
            have O1 : Hid (OwnI (wo.alloc (.cells #[.int .i64 (u : Nat)] 3)) w1.heap.size u4 (tab k (fun v => (cm v : Int)))) := OW.out.alloc _
            have hsz := BB.out.size
            have htl : (tab k (fun v => (cm v : Int))).length = k := tab_len _ _
            have HTS : Hid (tab (k + 1) (fun v => (cm v : Int)) = tab k (fun v => (cm v : Int)) ++ [(u : Int)]) := by show _ = _; rw [tab_snoc, ← eu]
            clear HNO HCH MB CS CH m1 m2 eu huc OW
            generalize tab k (fun v => (cm v : Int)) = TB at *
            go_wp2_with (at_builtin; go_loud (refine wpList_int rfl (.tmp 39) (.tmp 41) rfl w1.heap.size u4 TB (u : Int) rfl O1.out wo.heap.size rfl (cell_new1 _ _ _) (by omega) (by rw [World.size_alloc]; omega) ?_); intro v' w6 ho6 hb6; have O6 : Hid (OwnI w6 w1.heap.size v' (tab (k + 1) (fun v => (cm v : Int)))) := (by show OwnI _ _ _ _; rw [HTS.out]; exact ho6); have B6 := Lib.hid ((BB.out.alloc hsz _).trans hb6); clear ho6 hb6)
            go_roundw
            case rel => exact ⟨k + 1, by omega, by go_num, O6, B6⟩
            case measure => simp [intOf]; omega
        · have eu : u = k := by omega
          have ec : cm k = k := by omega
          have O1 : Hid (OwnI (wo.alloc (.cells #[.int .i64 (u : Nat)] 3)) w1.heap.size u4 (tab k (fun v => (cm v : Int)))) := OW.out.alloc _
          have hsz := BB.out.size
          have htl : (tab k (fun v => (cm v : Int))).length = k := tab_len _ _
          have HTS : Hid (tab (k + 1) (fun v => (cm v : Int)) = tab k (fun v => (cm v : Int)) ++ [(u : Int)]) := by show _ = _; rw [tab_snoc, ec, eu]
          clear HNO HCH MB CS CH eu ec OW
          generalize tab k (fun v => (cm v : Int)) = TB at *
          go_wp2_with (at_builtin; go_loud (refine wpList_int rfl (.tmp 39) (.tmp 41) rfl w1.heap.size u4 TB (u : Int) rfl O1.out wo.heap.size rfl (cell_new1 _ _ _) (by omega) (by rw [World.size_alloc]; omega) ?_); intro v' w6 ho6 hb6; have O6 : Hid (OwnI w6 w1.heap.size v' (tab (k + 1) (fun v => (cm v : Int)))) := (by show OwnI _ _ _ _; rw [HTS.out]; exact ho6); have B6 := Lib.hid ((BB.out.alloc hsz _).trans hb6); clear ho6 hb6)
          go_roundw
          case rel => exact ⟨k + 1, by omega, by go_num, O6, B6⟩
          case measure => simp [intOf]; omega
    · obtain rfl : k = n := by omega
      obtain ⟨A, c, e1, R1⟩ := ReadsV.own OW.out
      subst e1
      have R1 := Lib.hid R1
      have B2 := Lib.hid (K1.out.trans (BB.out.mono K1.out.size))
      clear OW BB MB CS CH
      go_wp2
      go_ret
      exact ⟨_, _, rfl, R1.out, B2.out⟩
theorem lev_step (R : Nat → List Int) (n u v : Nat) : levB R n (u + 1) v = (levB R n u v || (warN (tabB R) n v u && !decide (cmpV R n u = v))) := by
  unfold levB anyN
  rw [List.range_succ, List.any_append, Bool.or_assoc]
  simp
set_option maxHeartbeats 4000000 in
set_option maxRecDepth 100000 in
theorem rbottom_any (gA : Option Addr) (n gc : Nat) (RA : Nat → Option Addr) (RL : Nat → List Int) (RK : Nat → Nat) (w : World) (GR : GraphR w gA n RA RL RK) :
    Calls Try.prog 26 #[.slice gA n gc] w (IsPost w.heap.size w (botV RL n)) := by
  have hn := GR.hn
  have CP := Lib.hid (paths_any gA n gc RA RL RK w GR)
  have CC : Hid (∀ W, Below w.heap.size w W → Calls Try.prog 24 #[.slice gA n gc] W (IsPost W.heap.size W (tab n (fun v => (cmpV RL n v : Int))))) := fun W hW => rcomponents_any gA n gc RA RL RK W (GR.below hW)
  have L0 : Hid (∀ v, levB RL n 0 v = !decide (cmpV RL n v = v)) := fun v => by show _ = _; unfold levB anyN; simp
  have LS := Lib.hid (lev_step RL n)
  have BV : Hid (botV RL n = pickI (fun v => !levB RL n n v) n) := by
    show _ = _
    unfold botV pickI
    congr 1
    refine List.filter_congr fun v hv => ?_
    exact (lev_lef (List.mem_range.1 hv)).symm
  clear GR
  unfold IsPost at *
  generalize botV RL n = bot at *
  generalize levB RL n = lv at *
  generalize cmpV RL n = cm at *
  generalize warN (tabB RL) n = P at *
  go_enter Try.func26, Try.ntmps26
  go_wp2_with fail
  refine CP.out.mono ?_
  rintro e w1 ⟨pv, ad, rfl, M1, K1⟩
  have M1 := Lib.hid M1
  have K1 := Lib.hid K1
  clear CP
  go_wp2_with fail
  refine (CC.out _ K1.out).mono ?_
  rintro e w2 ⟨cA, cc, rfl, RC, K2⟩
  rw [tab_len]
  have RC := Lib.hid RC
  have K2 := Lib.hid K2
  have M2 := Lib.hid (M1.out.below K2.out)
  have CV : Hid (∀ W v, Below w2.heap.size w2 W → v < n → ∃ b off, cA = some ⟨b, off, none⟩ ∧ W.cell? ⟨b, off + v, none⟩ = some (.int .i64 (cm v : Nat))) := fun W v hW hv => by
    obtain ⟨b, off, e, _, h⟩ := (RC.out.below hW (Nat.le_refl _)) v (by rw [tab_len]; exact hv)
    rw [tab_at _ _ _ hv] at h
    exact ⟨b, off, e, h⟩
  have WG : Hid (∀ W, Below w2.heap.size w2 W → Below w.heap.size w W) := fun W hW => K1.out.trans ((K2.out.trans (hW.mono K2.out.size)).mono K1.out.size)
  have O0 : Hid (OwnI w2 w2.heap.size (.slice none 0 0) (pickI (fun v => !lv n v) 0)) := OwnI.nil _ _
  have B0 : Hid (Below w2.heap.size w2 w2) := Below.refl _ _
  clear CC RC K1 K2 M1
  go_wp2_with fail
  go_loopw [6, 5] (fun q ov wr => ∃ k : Nat, k ≤ n ∧ q = .int .i64 (k : Nat) ∧ Hid (OwnI wr w2.heap.size ov (pickI (fun v => !lv n v) k)) ∧ Hid (Below w2.heap.size w2 wr)) (fun q _ _ => n - (intOf q).toNat)
  case atStart => exact ⟨0, by omega, rfl, O0, B0⟩
  case round =>
    clear O0 B0
    obtain ⟨wo, rfl⟩ : ∃ wo, wo = wr := ⟨_, rfl⟩
    obtain ⟨k, hk, rfl, OW, BB⟩ := hrel
    by_cases hlt : k < n
    · obtain ⟨b, off, rfl, c0⟩ := CV.out _ k BB.out hlt
      have MR := Lib.hid (M2.out.below BB.out)
      have H0 := L0.out k
      have CVk : Hid (∀ v, v < n → wo.cell? ⟨b, off + v, none⟩ = some (.int .i64 (cm v : Nat))) := fun v hv => by
        obtain ⟨b', off', e', h⟩ := CV.out _ v BB.out hv
        injection e' with e'
        injection e' with e1 e2
        subst e1 e2
        exact h
      have LS0 : Hid (((((cm k : Nat) : Int) != (k : Int))) = lv 0 k) := by
        show _ = _
        rw [H0, bne]
        congr 1
        rw [Bool.eq_iff_iff, beq_iff_eq, decide_eq_true_eq]
        omega
      have hls := LS0.out
      clear H0
      go_wp2_with fail
      go_loopw [8, 7] (fun q lq wr => ∃ u : Nat, u ≤ n ∧ q = .int .i64 (u : Nat) ∧ lq = .bool (lv u k) ∧ Hid (wo = wr)) (fun q _ _ => n - (intOf q).toNat)
      case atStart => exact ⟨0, by omega, rfl, by first | rfl | rw [hls] | simp [hls], rfl⟩
      case round =>
        clear hls LS0
        obtain ⟨u, hu, rfl, rfl, HW⟩ := hrel
        have hw := HW.out
        subst hw
        by_cases hun : u < n
        · obtain ⟨g, c, rfl, c1⟩ := MR.out.cell hlt
          have c3 := MR.out.get hlt hun
          have c4 := CVk.out u hun
          have LSu := LS.out u k
          generalize P k u = z1 at *
          generalize ad k = ak at *
          generalize lv u k = l1 at *
          cases l1
          · cases z1
            · have E : Hid (lv (u + 1) k = false) := by show _ = _; rw [LSu]; simp
              clear LSu
              go_wp2
              go_roundw
              case rel => exact ⟨u + 1, by omega, by go_num, by rw [E.out], by first | exact HW | exact True.intro⟩
              case measure => simp [intOf]; omega
            · have E : Hid ((((cm u : Nat) : Int) != (k : Int)) = lv (u + 1) k) := by
                show _ = _
                rw [LSu, bne, Bool.false_or, Bool.true_and]
                congr 1
                rw [Bool.eq_iff_iff, beq_iff_eq, decide_eq_true_eq]
                omega
              have he := E.out
              clear LSu
              go_wp2
              go_roundw
              case rel => exact ⟨u + 1, by omega, by go_num, by first | rw [he] | simp [he] | simp [← E.out], by first | exact HW | exact True.intro⟩
              case measure => simp [intOf]; omega
          · have E : Hid (lv (u + 1) k = true) := by show _ = _; rw [LSu]; simp
            clear LSu
            go_wp2
            go_roundw
            case rel => exact ⟨u + 1, by omega, by go_num, by rw [E.out], by first | exact HW | exact True.intro⟩
            case measure => simp [intOf]; omega
        · obtain rfl : u = n := by omega
          have PY := Lib.hid (pickI_yes (fun v => !lv u v) k)
          have PN := Lib.hid (pickI_no (fun v => !lv u v) k)
          have hpl := pickI_len (fun v => !lv u v) k
          have hsz := BB.out.size
          cases hz : lv u k
          · have PYi := Lib.hid (PY.out (by simp [hz]))
            clear PY PN hz LS CV CVk L0
            generalize pickI (fun v => !lv u v) k = P0 at *
            go_wp2_with (at_builtin; go_loud (refine wpList_int rfl (.tmp 51) (.tmp 53) rfl w2.heap.size u5 P0 (k : Int) rfl (OW.out.alloc _) wo.heap.size rfl (cell_new1 _ _ _) (by omega) (by rw [World.size_alloc]; omega) ?_); intro v' w6 ho6 hb6; have O6 : Hid (OwnI w6 w2.heap.size v' (pickI (fun v => !lv u v) (k + 1))) := (by show OwnI _ _ _ _; rw [PYi.out]; exact ho6); have B6 := Lib.hid ((BB.out.alloc hsz _).trans hb6); clear ho6 hb6)
            go_roundw
            case rel => exact ⟨k + 1, by omega, by go_num, O6, B6⟩
            case measure => simp [intOf]; omega
          · have O6 : Hid (OwnI wo w2.heap.size u5 (pickI (fun v => !lv u v) (k + 1))) := by
              show OwnI _ _ _ _
              rw [PN.out (by simp [hz])]; exact OW.out
            clear PY PN hz LS CV CVk L0
            go_wp2
            go_roundw
            case rel => exact ⟨k + 1, by omega, by go_num, O6, BB⟩
            case measure => simp [intOf]; omega
    · obtain rfl : k = n := by omega
      have ho := OW.out
      rw [← BV.out] at ho
      obtain ⟨A, c, e1, R1⟩ := ReadsV.own ho
      subst e1
      have R1 := Lib.hid R1
      have B2 := Lib.hid (WG.out _ BB.out)
      clear OW BB LS L0 CV ho BV
      go_wp2
      go_ret
      exact ⟨_, _, rfl, R1.out, B2.out⟩
end Go.Proofs.Ytdfljeonoallfaa
