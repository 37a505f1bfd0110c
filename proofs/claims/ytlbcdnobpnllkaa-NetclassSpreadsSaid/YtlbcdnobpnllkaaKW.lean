/- Classes of nets: what implies what. -/
import Derived.Test.YtlbcdnobpnllkaaKL
import Derived.Test.YtlbcdnobpnllkaaMF
import Derived.Deep.RegionHeld3
import Derived.Deep.RegionWith
namespace Go.Proofs.Ytlbcdnobpnllkaa
open Go.RowKit Go.Deep

theorem small_yes (n : NetV) (w : World) (hr : NetW w n) (hs : smallN n = true) :
    Calls Try.prog 5 #[(.agg #[.string n.nm, .slice n.PA n.ps.length n.pc, .slice n.TA n.ts.length n.tc])] w fun e w' => e = .returned (.tuple #[(.agg #[.string n.nm, .slice n.PA n.ps.length n.pc, .slice n.TA n.ts.length n.tc]), .bool true]) ∧ Below w.heap.size w w' :=
  (small_any n w hr).mono fun e w' ⟨h, hb⟩ => ⟨by rw [h, if_pos hs], hb⟩
theorem small_no (n : NetV) (w : World) (hr : NetW w n) (hs : smallN n = false) :
    Calls Try.prog 5 #[(.agg #[.string n.nm, .slice n.PA n.ps.length n.pc, .slice n.TA n.ts.length n.tc])] w fun e w' => e = .returned (.tuple #[.agg #[.string ⟨#[]⟩, .slice none 0 0, .slice none 0 0], .bool false]) ∧ Below w.heap.size w w' :=
  (small_any n w hr).mono fun e w' ⟨h, hb⟩ => ⟨by rw [h, if_neg (by rw [hs]; decide)], hb⟩
theorem class_parts {n : NetV} {b : Bool} (h : (okN n && plainN n && ordinaryN n && b) = true) : (okN n && plainN n && ordinaryN n) = true ∧ okN n = true ∧ b = true := by
  rw [Bool.and_eq_true] at h
  have h1 := h.1
  rw [Bool.and_eq_true, Bool.and_eq_true] at h1
  exact ⟨h.1, h1.1.1, h.2⟩
theorem one_target {m : Nat} {l : List (Int × Int)} (h : arcsE m l = 0) (hl : l.length = 1) {p q : Int} (hp : 0 < weightV l p) (hq : 0 < weightV l q) : p = q := by
  have a := (targets_weight h).2 hp
  have b := (targets_weight h).2 hq
  unfold targetsV at a b
  match l, hl with
  | [x], _ =>
    simp at a b
    rw [a, b]
theorem sm_fc {n : NetV} (h : smN n = true) : fcN n = true := by
  obtain ⟨h0, hok, hv⟩ := class_parts (show (okN n && plainN n && ordinaryN n && smV n) = true from h)
  show (okN n && plainN n && ordinaryN n && relV n eqL) = true
  rw [h0, Bool.true_and, rel_iff]
  intro i j hi hj hc
  exfalso
  obtain ⟨x, h1, h2⟩ := comB_iff.1 hc
  rw [cons_ok hok] at h1 h2
  obtain ⟨t, ht, e, f1⟩ := pick_ex.1 h1
  rw [e, pick_mem ht] at h2
  unfold smV at hv
  have hs := nanyB_iff.1 hv t ht
  unfold smF at hs
  have hs := of_decide_eq_false hs
  obtain ⟨_, _, _, _, _, h6⟩ := okN_parts hok
  obtain ⟨_, _, _, _, _, a1, _, _⟩ := transE_parts (h6 t ht)
  unfold conF at f1 h2
  have := one_target a1 (by omega) (of_decide_eq_true f1) (of_decide_eq_true h2)
  omega
theorem mg_fc {n : NetV} (h : mgN n = true) : fcN n = true := by
  obtain ⟨h0, hok, hv⟩ := class_parts (show (okN n && plainN n && ordinaryN n && mgV n) = true from h)
  show (okN n && plainN n && ordinaryN n && relV n eqL) = true
  rw [h0, Bool.true_and, rel_iff]
  intro i j hi hj hc
  obtain ⟨x, h1, h2⟩ := comB_iff.1 hc
  unfold mgV at hv
  have one : ∀ p : Nat, p < n.ps.length → (consumersN n p).length = 1 := fun p hp => by
    have hs := nanyB_iff.1 hv p hp
    unfold mgF at hs
    rw [Bool.or_eq_false_iff] at hs
    have := of_decide_eq_false hs.2
    omega
  have single : ∀ {l : List Int} {x : Int}, l.length = 1 → x ∈ l → l = [x] := fun {l} {x} hl hx => by
    match l, hl with
    | [y], _ =>
      simp at hx
      rw [hx]
  unfold eqL
  rw [single (one i hi) h1, single (one j (by omega)) h2]
  exact decide_eq_true rfl
theorem fc_as {n : NetV} (h : fcN n = true) : asN n = true := by
  obtain ⟨h0, hok, hv⟩ := class_parts (show (okN n && plainN n && ordinaryN n && relV n eqL) = true from h)
  show (okN n && plainN n && ordinaryN n && relV n asR) = true
  rw [h0, Bool.true_and, rel_iff]
  intro i j hi hj hc
  have e := rel_iff.1 hv i j hi hj hc
  unfold eqL at e
  have e := of_decide_eq_true e
  unfold asR
  rw [Bool.or_eq_true, amoB_iff]
  exact Or.inl fun x hx => by rw [← e]; exact hx
theorem st_co {n : NetV} (h : stN n = true) : coN n = true := by
  unfold stN at h
  rw [Bool.and_eq_true] at h
  obtain ⟨hok, hv⟩ := h
  have hn := nod_pos hok
  unfold coN
  rw [hok, Bool.true_and, con_iff n hn]
  rw [str_one n hn, one_iff hn] at hv
  intro j hj
  have := (cmp_zero hj).1 (hv j hj)
  exact rch_mono (fun a b e => both_edge.2 (Or.inl e)) this.2
set_option maxHeartbeats 16000000 in
set_option maxRecDepth 1000000 in
theorem implies_law (n : NetV) (w : World) (hn : NetW w n) :
    Calls Try.prog 3 #[(.agg #[.string n.nm, .slice n.PA n.ps.length n.pc, .slice n.TA n.ts.length n.tc])] w fun e w' => e = .returned (.bool true) ∧ Below w.heap.size w w' := by
  have B0 : Hid (Below w.heap.size w (w.alloc (.cells #[.string n.nm, .slice n.PA n.ps.length n.pc, .slice n.TA n.ts.length n.tc] 25))) := (Below.refl _ _).alloc (Nat.le_refl _) _
  cases hs : smallN n
  · have SM := Lib.hid (fun W (hW : Below w.heap.size w W) => small_no n W (hn.below hW (Nat.le_refl _)) hs)
    go_enter Try.func3, Try.ntmps3
    go_wp2_with fail
    refine (SM.out _ B0.out).mono ?_
    rintro e w1 ⟨rfl, K⟩
    have B1 : Below w.heap.size w w1 := B0.out.trans (K.mono B0.out.size)
    have BX := Lib.hid (B1.alloc B1.size (.cells #[.string ⟨#[]⟩, .slice none 0 0, .slice none 0 0] 25))
    clear B1 K
    go_wp2_with fail
    refine (alive_any _).mono ?_
    rintro e w2 ⟨rfl, K⟩
    have B2 := Lib.hid (BX.out.trans (K.mono BX.out.size))
    clear K
    go_wp2
    go_ret
    exact ⟨rfl, B2.out⟩
  have hR := Lib.hid (small_ok hn hs)
  have SM := Lib.hid (fun W (hW : Below w.heap.size w W) => small_yes n W (hn.below hW (Nat.le_refl _)) hs)
  clear hs
  go_enter Try.func3, Try.ntmps3
  go_wp2_with fail
  refine (SM.out _ B0.out).mono ?_
  rintro e w1 ⟨rfl, K⟩
  have B1 : Below w.heap.size w w1 := B0.out.trans (K.mono B0.out.size)
  go_upto_region 10 with fail
  obtain ⟨w2, hw2⟩ : ∃ w2, w2 = w1.alloc (.cells #[.string n.nm, .slice n.PA n.ps.length n.pc, .slice n.TA n.ts.length n.tc] 25) := ⟨_, rfl⟩
  have BW : Hid (Below w.heap.size w w2) := by rw [hw2]; exact B1.alloc B1.size _
  have N0 : Hid (NBox w2 w1.heap.size n) := by show NBox _ _ _; rw [hw2]; exact NBox.new w1 n
  have S0 : Hid (w1.heap.size < w2.heap.size) := by show _ < _; rw [hw2, World.size_alloc]; omega
  have CN : Hid (∀ W, Below w2.heap.size w2 W → NetR W n) := fun W hW => (hR.out.below BW.out (Nat.le_refl _)).below hW (Nat.le_refl _)
  have Csm : Hid (∀ W, Below w2.heap.size w2 W → Calls Try.prog 8 #[(.agg #[.string n.nm, .slice n.PA n.ps.length n.pc, .slice n.TA n.ts.length n.tc])] W (VPost W.heap.size W (.bool (smN n)))) := fun W hW => smN_any n W (CN.out W hW)
  have Cmg : Hid (∀ W, Below w2.heap.size w2 W → Calls Try.prog 9 #[(.agg #[.string n.nm, .slice n.PA n.ps.length n.pc, .slice n.TA n.ts.length n.tc])] W (VPost W.heap.size W (.bool (mgN n)))) := fun W hW => mgN_any n W (CN.out W hW)
  have Cfc : Hid (∀ W, Below w2.heap.size w2 W → Calls Try.prog 7 #[(.agg #[.string n.nm, .slice n.PA n.ps.length n.pc, .slice n.TA n.ts.length n.tc])] W (VPost W.heap.size W (.bool (fcN n)))) := fun W hW => fcN_any n W (CN.out W hW)
  have Cas : Hid (∀ W, Below w2.heap.size w2 W → Calls Try.prog 10 #[(.agg #[.string n.nm, .slice n.PA n.ps.length n.pc, .slice n.TA n.ts.length n.tc])] W (VPost W.heap.size W (.bool (asN n)))) := fun W hW => asN_any n W (CN.out W hW)
  have Cst : Hid (∀ W, Below w2.heap.size w2 W → Calls Try.prog 11 #[(.agg #[.string n.nm, .slice n.PA n.ps.length n.pc, .slice n.TA n.ts.length n.tc])] W (VPost W.heap.size W (.bool (stN n)))) := fun W hW => stN_any n W (CN.out W hW)
  have Cco : Hid (∀ W, Below w2.heap.size w2 W → Calls Try.prog 12 #[(.agg #[.string n.nm, .slice n.PA n.ps.length n.pc, .slice n.TA n.ts.length n.tc])] W (VPost W.heap.size W (.bool (coN n)))) := fun W hW => coN_any n W (CN.out W hW)
  have F1 : Hid (smN n = true ∨ mgN n = true → fcN n = true) := fun h => h.elim sm_fc mg_fc
  have F2 : Hid (fcN n = true → asN n = true) := fc_as
  have F3 : Hid (stN n = true → coN n = true) := st_co
  rw [← hw2]
  clear hw2 B1 K hR SM B0 CN
  generalize w1.heap.size = x at *
  generalize smN n = zsm at *
  generalize mgN n = zmg at *
  generalize fcN n = zfc at *
  generalize asN n = zas at *
  generalize stN n = zst at *
  generalize coN n = zco at *
  have B0 : Hid (Below w2.heap.size w2 w2) := Below.refl _ _
  obtain ⟨c0, c1, c2⟩ := N0.out
  cases zsm
  · cases zmg
    · cases zfc
      · cases zas
        · cases zst
          · cases zco
            · clear F1 F2 F3
              go_wp2_with fail
              refine (Cfc.out _ B0.out).mono ?_
              rintro e x1 ⟨rfl, K⟩
              have N1 := Lib.hid (N0.out.below K S0.out)
              have B1 := Lib.hid (B0.out.trans (K.mono B0.out.size))
              have S1 : Hid (x < x1.heap.size) := Nat.lt_of_lt_of_le S0.out K.size
              clear K N0 B0 S0 Cfc c0 c1 c2
              obtain ⟨c0, c1, c2⟩ := N1.out
              go_wp2_with fail
              refine (Csm.out _ B1.out).mono ?_
              rintro e x2 ⟨rfl, K⟩
              have N2 := Lib.hid (N1.out.below K S1.out)
              have B2 := Lib.hid (B1.out.trans (K.mono B1.out.size))
              have S2 : Hid (x < x2.heap.size) := Nat.lt_of_lt_of_le S1.out K.size
              clear K N1 B1 S1 Csm c0 c1 c2
              obtain ⟨c0, c1, c2⟩ := N2.out
              go_wp2_with fail
              refine (Cmg.out _ B2.out).mono ?_
              rintro e x3 ⟨rfl, K⟩
              have N3 := Lib.hid (N2.out.below K S2.out)
              have B3 := Lib.hid (B2.out.trans (K.mono B2.out.size))
              have S3 : Hid (x < x3.heap.size) := Nat.lt_of_lt_of_le S2.out K.size
              clear K N2 B2 S2 Cmg c0 c1 c2
              obtain ⟨c0, c1, c2⟩ := N3.out
              go_wp2_with fail
              refine (Cst.out _ B3.out).mono ?_
              rintro e x4 ⟨rfl, K⟩
              have N4 := Lib.hid (N3.out.below K S3.out)
              have B4 := Lib.hid (B3.out.trans (K.mono B3.out.size))
              have S4 : Hid (x < x4.heap.size) := Nat.lt_of_lt_of_le S3.out K.size
              clear K N3 B3 S3 Cst c0 c1 c2
              obtain ⟨c0, c1, c2⟩ := N4.out
              go_wp2_with fail
              refine (alive_any _).mono ?_
              rintro e w9 ⟨rfl, K⟩
              have B9 := Lib.hid (B4.out.trans (K.mono B4.out.size))
              clear K N4 B4 S4 c0 c1 c2
              go_wp2
              go_ret
              exact ⟨rfl, BW.out.trans (B9.out.mono BW.out.size)⟩
            · clear F1 F2 F3
              go_wp2_with fail
              refine (Cfc.out _ B0.out).mono ?_
              rintro e x1 ⟨rfl, K⟩
              have N1 := Lib.hid (N0.out.below K S0.out)
              have B1 := Lib.hid (B0.out.trans (K.mono B0.out.size))
              have S1 : Hid (x < x1.heap.size) := Nat.lt_of_lt_of_le S0.out K.size
              clear K N0 B0 S0 Cfc c0 c1 c2
              obtain ⟨c0, c1, c2⟩ := N1.out
              go_wp2_with fail
              refine (Csm.out _ B1.out).mono ?_
              rintro e x2 ⟨rfl, K⟩
              have N2 := Lib.hid (N1.out.below K S1.out)
              have B2 := Lib.hid (B1.out.trans (K.mono B1.out.size))
              have S2 : Hid (x < x2.heap.size) := Nat.lt_of_lt_of_le S1.out K.size
              clear K N1 B1 S1 Csm c0 c1 c2
              obtain ⟨c0, c1, c2⟩ := N2.out
              go_wp2_with fail
              refine (Cmg.out _ B2.out).mono ?_
              rintro e x3 ⟨rfl, K⟩
              have N3 := Lib.hid (N2.out.below K S2.out)
              have B3 := Lib.hid (B2.out.trans (K.mono B2.out.size))
              have S3 : Hid (x < x3.heap.size) := Nat.lt_of_lt_of_le S2.out K.size
              clear K N2 B2 S2 Cmg c0 c1 c2
              obtain ⟨c0, c1, c2⟩ := N3.out
              go_wp2_with fail
              refine (Cst.out _ B3.out).mono ?_
              rintro e x4 ⟨rfl, K⟩
              have N4 := Lib.hid (N3.out.below K S3.out)
              have B4 := Lib.hid (B3.out.trans (K.mono B3.out.size))
              have S4 : Hid (x < x4.heap.size) := Nat.lt_of_lt_of_le S3.out K.size
              clear K N3 B3 S3 Cst c0 c1 c2
              obtain ⟨c0, c1, c2⟩ := N4.out
              go_wp2_with fail
              refine (alive_any _).mono ?_
              rintro e w9 ⟨rfl, K⟩
              have B9 := Lib.hid (B4.out.trans (K.mono B4.out.size))
              clear K N4 B4 S4 c0 c1 c2
              go_wp2
              go_ret
              exact ⟨rfl, BW.out.trans (B9.out.mono BW.out.size)⟩
          · cases zco
            · exact absurd (F3.out (by simp)) (by simp)
            · clear F1 F2 F3
              go_wp2_with fail
              refine (Cfc.out _ B0.out).mono ?_
              rintro e x1 ⟨rfl, K⟩
              have N1 := Lib.hid (N0.out.below K S0.out)
              have B1 := Lib.hid (B0.out.trans (K.mono B0.out.size))
              have S1 : Hid (x < x1.heap.size) := Nat.lt_of_lt_of_le S0.out K.size
              clear K N0 B0 S0 Cfc c0 c1 c2
              obtain ⟨c0, c1, c2⟩ := N1.out
              go_wp2_with fail
              refine (Csm.out _ B1.out).mono ?_
              rintro e x2 ⟨rfl, K⟩
              have N2 := Lib.hid (N1.out.below K S1.out)
              have B2 := Lib.hid (B1.out.trans (K.mono B1.out.size))
              have S2 : Hid (x < x2.heap.size) := Nat.lt_of_lt_of_le S1.out K.size
              clear K N1 B1 S1 Csm c0 c1 c2
              obtain ⟨c0, c1, c2⟩ := N2.out
              go_wp2_with fail
              refine (Cmg.out _ B2.out).mono ?_
              rintro e x3 ⟨rfl, K⟩
              have N3 := Lib.hid (N2.out.below K S2.out)
              have B3 := Lib.hid (B2.out.trans (K.mono B2.out.size))
              have S3 : Hid (x < x3.heap.size) := Nat.lt_of_lt_of_le S2.out K.size
              clear K N2 B2 S2 Cmg c0 c1 c2
              obtain ⟨c0, c1, c2⟩ := N3.out
              go_wp2_with fail
              refine (Cst.out _ B3.out).mono ?_
              rintro e x4 ⟨rfl, K⟩
              have N4 := Lib.hid (N3.out.below K S3.out)
              have B4 := Lib.hid (B3.out.trans (K.mono B3.out.size))
              have S4 : Hid (x < x4.heap.size) := Nat.lt_of_lt_of_le S3.out K.size
              clear K N3 B3 S3 Cst c0 c1 c2
              obtain ⟨c0, c1, c2⟩ := N4.out
              go_wp2_with fail
              refine (Cco.out _ B4.out).mono ?_
              rintro e x5 ⟨rfl, K⟩
              have N5 := Lib.hid (N4.out.below K S4.out)
              have B5 := Lib.hid (B4.out.trans (K.mono B4.out.size))
              have S5 : Hid (x < x5.heap.size) := Nat.lt_of_lt_of_le S4.out K.size
              clear K N4 B4 S4 Cco c0 c1 c2
              obtain ⟨c0, c1, c2⟩ := N5.out
              go_wp2_with fail
              refine (alive_any _).mono ?_
              rintro e w9 ⟨rfl, K⟩
              have B9 := Lib.hid (B5.out.trans (K.mono B5.out.size))
              clear K N5 B5 S5 c0 c1 c2
              go_wp2
              go_ret
              exact ⟨rfl, BW.out.trans (B9.out.mono BW.out.size)⟩
        · cases zst
          · cases zco
            · clear F1 F2 F3
              go_wp2_with fail
              refine (Cfc.out _ B0.out).mono ?_
              rintro e x1 ⟨rfl, K⟩
              have N1 := Lib.hid (N0.out.below K S0.out)
              have B1 := Lib.hid (B0.out.trans (K.mono B0.out.size))
              have S1 : Hid (x < x1.heap.size) := Nat.lt_of_lt_of_le S0.out K.size
              clear K N0 B0 S0 Cfc c0 c1 c2
              obtain ⟨c0, c1, c2⟩ := N1.out
              go_wp2_with fail
              refine (Csm.out _ B1.out).mono ?_
              rintro e x2 ⟨rfl, K⟩
              have N2 := Lib.hid (N1.out.below K S1.out)
              have B2 := Lib.hid (B1.out.trans (K.mono B1.out.size))
              have S2 : Hid (x < x2.heap.size) := Nat.lt_of_lt_of_le S1.out K.size
              clear K N1 B1 S1 Csm c0 c1 c2
              obtain ⟨c0, c1, c2⟩ := N2.out
              go_wp2_with fail
              refine (Cmg.out _ B2.out).mono ?_
              rintro e x3 ⟨rfl, K⟩
              have N3 := Lib.hid (N2.out.below K S2.out)
              have B3 := Lib.hid (B2.out.trans (K.mono B2.out.size))
              have S3 : Hid (x < x3.heap.size) := Nat.lt_of_lt_of_le S2.out K.size
              clear K N2 B2 S2 Cmg c0 c1 c2
              obtain ⟨c0, c1, c2⟩ := N3.out
              go_wp2_with fail
              refine (Cst.out _ B3.out).mono ?_
              rintro e x4 ⟨rfl, K⟩
              have N4 := Lib.hid (N3.out.below K S3.out)
              have B4 := Lib.hid (B3.out.trans (K.mono B3.out.size))
              have S4 : Hid (x < x4.heap.size) := Nat.lt_of_lt_of_le S3.out K.size
              clear K N3 B3 S3 Cst c0 c1 c2
              obtain ⟨c0, c1, c2⟩ := N4.out
              go_wp2_with fail
              refine (alive_any _).mono ?_
              rintro e w9 ⟨rfl, K⟩
              have B9 := Lib.hid (B4.out.trans (K.mono B4.out.size))
              clear K N4 B4 S4 c0 c1 c2
              go_wp2
              go_ret
              exact ⟨rfl, BW.out.trans (B9.out.mono BW.out.size)⟩
            · clear F1 F2 F3
              go_wp2_with fail
              refine (Cfc.out _ B0.out).mono ?_
              rintro e x1 ⟨rfl, K⟩
              have N1 := Lib.hid (N0.out.below K S0.out)
              have B1 := Lib.hid (B0.out.trans (K.mono B0.out.size))
              have S1 : Hid (x < x1.heap.size) := Nat.lt_of_lt_of_le S0.out K.size
              clear K N0 B0 S0 Cfc c0 c1 c2
              obtain ⟨c0, c1, c2⟩ := N1.out
              go_wp2_with fail
              refine (Csm.out _ B1.out).mono ?_
              rintro e x2 ⟨rfl, K⟩
              have N2 := Lib.hid (N1.out.below K S1.out)
              have B2 := Lib.hid (B1.out.trans (K.mono B1.out.size))
              have S2 : Hid (x < x2.heap.size) := Nat.lt_of_lt_of_le S1.out K.size
              clear K N1 B1 S1 Csm c0 c1 c2
              obtain ⟨c0, c1, c2⟩ := N2.out
              go_wp2_with fail
              refine (Cmg.out _ B2.out).mono ?_
              rintro e x3 ⟨rfl, K⟩
              have N3 := Lib.hid (N2.out.below K S2.out)
              have B3 := Lib.hid (B2.out.trans (K.mono B2.out.size))
              have S3 : Hid (x < x3.heap.size) := Nat.lt_of_lt_of_le S2.out K.size
              clear K N2 B2 S2 Cmg c0 c1 c2
              obtain ⟨c0, c1, c2⟩ := N3.out
              go_wp2_with fail
              refine (Cst.out _ B3.out).mono ?_
              rintro e x4 ⟨rfl, K⟩
              have N4 := Lib.hid (N3.out.below K S3.out)
              have B4 := Lib.hid (B3.out.trans (K.mono B3.out.size))
              have S4 : Hid (x < x4.heap.size) := Nat.lt_of_lt_of_le S3.out K.size
              clear K N3 B3 S3 Cst c0 c1 c2
              obtain ⟨c0, c1, c2⟩ := N4.out
              go_wp2_with fail
              refine (alive_any _).mono ?_
              rintro e w9 ⟨rfl, K⟩
              have B9 := Lib.hid (B4.out.trans (K.mono B4.out.size))
              clear K N4 B4 S4 c0 c1 c2
              go_wp2
              go_ret
              exact ⟨rfl, BW.out.trans (B9.out.mono BW.out.size)⟩
          · cases zco
            · exact absurd (F3.out (by simp)) (by simp)
            · clear F1 F2 F3
              go_wp2_with fail
              refine (Cfc.out _ B0.out).mono ?_
              rintro e x1 ⟨rfl, K⟩
              have N1 := Lib.hid (N0.out.below K S0.out)
              have B1 := Lib.hid (B0.out.trans (K.mono B0.out.size))
              have S1 : Hid (x < x1.heap.size) := Nat.lt_of_lt_of_le S0.out K.size
              clear K N0 B0 S0 Cfc c0 c1 c2
              obtain ⟨c0, c1, c2⟩ := N1.out
              go_wp2_with fail
              refine (Csm.out _ B1.out).mono ?_
              rintro e x2 ⟨rfl, K⟩
              have N2 := Lib.hid (N1.out.below K S1.out)
              have B2 := Lib.hid (B1.out.trans (K.mono B1.out.size))
              have S2 : Hid (x < x2.heap.size) := Nat.lt_of_lt_of_le S1.out K.size
              clear K N1 B1 S1 Csm c0 c1 c2
              obtain ⟨c0, c1, c2⟩ := N2.out
              go_wp2_with fail
              refine (Cmg.out _ B2.out).mono ?_
              rintro e x3 ⟨rfl, K⟩
              have N3 := Lib.hid (N2.out.below K S2.out)
              have B3 := Lib.hid (B2.out.trans (K.mono B2.out.size))
              have S3 : Hid (x < x3.heap.size) := Nat.lt_of_lt_of_le S2.out K.size
              clear K N2 B2 S2 Cmg c0 c1 c2
              obtain ⟨c0, c1, c2⟩ := N3.out
              go_wp2_with fail
              refine (Cst.out _ B3.out).mono ?_
              rintro e x4 ⟨rfl, K⟩
              have N4 := Lib.hid (N3.out.below K S3.out)
              have B4 := Lib.hid (B3.out.trans (K.mono B3.out.size))
              have S4 : Hid (x < x4.heap.size) := Nat.lt_of_lt_of_le S3.out K.size
              clear K N3 B3 S3 Cst c0 c1 c2
              obtain ⟨c0, c1, c2⟩ := N4.out
              go_wp2_with fail
              refine (Cco.out _ B4.out).mono ?_
              rintro e x5 ⟨rfl, K⟩
              have N5 := Lib.hid (N4.out.below K S4.out)
              have B5 := Lib.hid (B4.out.trans (K.mono B4.out.size))
              have S5 : Hid (x < x5.heap.size) := Nat.lt_of_lt_of_le S4.out K.size
              clear K N4 B4 S4 Cco c0 c1 c2
              obtain ⟨c0, c1, c2⟩ := N5.out
              go_wp2_with fail
              refine (alive_any _).mono ?_
              rintro e w9 ⟨rfl, K⟩
              have B9 := Lib.hid (B5.out.trans (K.mono B5.out.size))
              clear K N5 B5 S5 c0 c1 c2
              go_wp2
              go_ret
              exact ⟨rfl, BW.out.trans (B9.out.mono BW.out.size)⟩
      · cases zas
        · cases zst
          · cases zco
            · exact absurd (F2.out (by simp)) (by simp)
            · exact absurd (F2.out (by simp)) (by simp)
          · cases zco
            · exact absurd (F2.out (by simp)) (by simp)
            · exact absurd (F2.out (by simp)) (by simp)
        · cases zst
          · cases zco
            · clear F1 F2 F3
              go_wp2_with fail
              refine (Cfc.out _ B0.out).mono ?_
              rintro e x1 ⟨rfl, K⟩
              have N1 := Lib.hid (N0.out.below K S0.out)
              have B1 := Lib.hid (B0.out.trans (K.mono B0.out.size))
              have S1 : Hid (x < x1.heap.size) := Nat.lt_of_lt_of_le S0.out K.size
              clear K N0 B0 S0 Cfc c0 c1 c2
              obtain ⟨c0, c1, c2⟩ := N1.out
              go_wp2_with fail
              refine (Csm.out _ B1.out).mono ?_
              rintro e x2 ⟨rfl, K⟩
              have N2 := Lib.hid (N1.out.below K S1.out)
              have B2 := Lib.hid (B1.out.trans (K.mono B1.out.size))
              have S2 : Hid (x < x2.heap.size) := Nat.lt_of_lt_of_le S1.out K.size
              clear K N1 B1 S1 Csm c0 c1 c2
              obtain ⟨c0, c1, c2⟩ := N2.out
              go_wp2_with fail
              refine (Cmg.out _ B2.out).mono ?_
              rintro e x3 ⟨rfl, K⟩
              have N3 := Lib.hid (N2.out.below K S2.out)
              have B3 := Lib.hid (B2.out.trans (K.mono B2.out.size))
              have S3 : Hid (x < x3.heap.size) := Nat.lt_of_lt_of_le S2.out K.size
              clear K N2 B2 S2 Cmg c0 c1 c2
              obtain ⟨c0, c1, c2⟩ := N3.out
              go_wp2_with fail
              refine (Cas.out _ B3.out).mono ?_
              rintro e x4 ⟨rfl, K⟩
              have N4 := Lib.hid (N3.out.below K S3.out)
              have B4 := Lib.hid (B3.out.trans (K.mono B3.out.size))
              have S4 : Hid (x < x4.heap.size) := Nat.lt_of_lt_of_le S3.out K.size
              clear K N3 B3 S3 Cas c0 c1 c2
              obtain ⟨c0, c1, c2⟩ := N4.out
              go_wp2_with fail
              refine (Cst.out _ B4.out).mono ?_
              rintro e x5 ⟨rfl, K⟩
              have N5 := Lib.hid (N4.out.below K S4.out)
              have B5 := Lib.hid (B4.out.trans (K.mono B4.out.size))
              have S5 : Hid (x < x5.heap.size) := Nat.lt_of_lt_of_le S4.out K.size
              clear K N4 B4 S4 Cst c0 c1 c2
              obtain ⟨c0, c1, c2⟩ := N5.out
              go_wp2_with fail
              refine (alive_any _).mono ?_
              rintro e w9 ⟨rfl, K⟩
              have B9 := Lib.hid (B5.out.trans (K.mono B5.out.size))
              clear K N5 B5 S5 c0 c1 c2
              go_wp2
              go_ret
              exact ⟨rfl, BW.out.trans (B9.out.mono BW.out.size)⟩
            · clear F1 F2 F3
              go_wp2_with fail
              refine (Cfc.out _ B0.out).mono ?_
              rintro e x1 ⟨rfl, K⟩
              have N1 := Lib.hid (N0.out.below K S0.out)
              have B1 := Lib.hid (B0.out.trans (K.mono B0.out.size))
              have S1 : Hid (x < x1.heap.size) := Nat.lt_of_lt_of_le S0.out K.size
              clear K N0 B0 S0 Cfc c0 c1 c2
              obtain ⟨c0, c1, c2⟩ := N1.out
              go_wp2_with fail
              refine (Csm.out _ B1.out).mono ?_
              rintro e x2 ⟨rfl, K⟩
              have N2 := Lib.hid (N1.out.below K S1.out)
              have B2 := Lib.hid (B1.out.trans (K.mono B1.out.size))
              have S2 : Hid (x < x2.heap.size) := Nat.lt_of_lt_of_le S1.out K.size
              clear K N1 B1 S1 Csm c0 c1 c2
              obtain ⟨c0, c1, c2⟩ := N2.out
              go_wp2_with fail
              refine (Cmg.out _ B2.out).mono ?_
              rintro e x3 ⟨rfl, K⟩
              have N3 := Lib.hid (N2.out.below K S2.out)
              have B3 := Lib.hid (B2.out.trans (K.mono B2.out.size))
              have S3 : Hid (x < x3.heap.size) := Nat.lt_of_lt_of_le S2.out K.size
              clear K N2 B2 S2 Cmg c0 c1 c2
              obtain ⟨c0, c1, c2⟩ := N3.out
              go_wp2_with fail
              refine (Cas.out _ B3.out).mono ?_
              rintro e x4 ⟨rfl, K⟩
              have N4 := Lib.hid (N3.out.below K S3.out)
              have B4 := Lib.hid (B3.out.trans (K.mono B3.out.size))
              have S4 : Hid (x < x4.heap.size) := Nat.lt_of_lt_of_le S3.out K.size
              clear K N3 B3 S3 Cas c0 c1 c2
              obtain ⟨c0, c1, c2⟩ := N4.out
              go_wp2_with fail
              refine (Cst.out _ B4.out).mono ?_
              rintro e x5 ⟨rfl, K⟩
              have N5 := Lib.hid (N4.out.below K S4.out)
              have B5 := Lib.hid (B4.out.trans (K.mono B4.out.size))
              have S5 : Hid (x < x5.heap.size) := Nat.lt_of_lt_of_le S4.out K.size
              clear K N4 B4 S4 Cst c0 c1 c2
              obtain ⟨c0, c1, c2⟩ := N5.out
              go_wp2_with fail
              refine (alive_any _).mono ?_
              rintro e w9 ⟨rfl, K⟩
              have B9 := Lib.hid (B5.out.trans (K.mono B5.out.size))
              clear K N5 B5 S5 c0 c1 c2
              go_wp2
              go_ret
              exact ⟨rfl, BW.out.trans (B9.out.mono BW.out.size)⟩
          · cases zco
            · exact absurd (F3.out (by simp)) (by simp)
            · clear F1 F2 F3
              go_wp2_with fail
              refine (Cfc.out _ B0.out).mono ?_
              rintro e x1 ⟨rfl, K⟩
              have N1 := Lib.hid (N0.out.below K S0.out)
              have B1 := Lib.hid (B0.out.trans (K.mono B0.out.size))
              have S1 : Hid (x < x1.heap.size) := Nat.lt_of_lt_of_le S0.out K.size
              clear K N0 B0 S0 Cfc c0 c1 c2
              obtain ⟨c0, c1, c2⟩ := N1.out
              go_wp2_with fail
              refine (Csm.out _ B1.out).mono ?_
              rintro e x2 ⟨rfl, K⟩
              have N2 := Lib.hid (N1.out.below K S1.out)
              have B2 := Lib.hid (B1.out.trans (K.mono B1.out.size))
              have S2 : Hid (x < x2.heap.size) := Nat.lt_of_lt_of_le S1.out K.size
              clear K N1 B1 S1 Csm c0 c1 c2
              obtain ⟨c0, c1, c2⟩ := N2.out
              go_wp2_with fail
              refine (Cmg.out _ B2.out).mono ?_
              rintro e x3 ⟨rfl, K⟩
              have N3 := Lib.hid (N2.out.below K S2.out)
              have B3 := Lib.hid (B2.out.trans (K.mono B2.out.size))
              have S3 : Hid (x < x3.heap.size) := Nat.lt_of_lt_of_le S2.out K.size
              clear K N2 B2 S2 Cmg c0 c1 c2
              obtain ⟨c0, c1, c2⟩ := N3.out
              go_wp2_with fail
              refine (Cas.out _ B3.out).mono ?_
              rintro e x4 ⟨rfl, K⟩
              have N4 := Lib.hid (N3.out.below K S3.out)
              have B4 := Lib.hid (B3.out.trans (K.mono B3.out.size))
              have S4 : Hid (x < x4.heap.size) := Nat.lt_of_lt_of_le S3.out K.size
              clear K N3 B3 S3 Cas c0 c1 c2
              obtain ⟨c0, c1, c2⟩ := N4.out
              go_wp2_with fail
              refine (Cst.out _ B4.out).mono ?_
              rintro e x5 ⟨rfl, K⟩
              have N5 := Lib.hid (N4.out.below K S4.out)
              have B5 := Lib.hid (B4.out.trans (K.mono B4.out.size))
              have S5 : Hid (x < x5.heap.size) := Nat.lt_of_lt_of_le S4.out K.size
              clear K N4 B4 S4 Cst c0 c1 c2
              obtain ⟨c0, c1, c2⟩ := N5.out
              go_wp2_with fail
              refine (Cco.out _ B5.out).mono ?_
              rintro e x6 ⟨rfl, K⟩
              have N6 := Lib.hid (N5.out.below K S5.out)
              have B6 := Lib.hid (B5.out.trans (K.mono B5.out.size))
              have S6 : Hid (x < x6.heap.size) := Nat.lt_of_lt_of_le S5.out K.size
              clear K N5 B5 S5 Cco c0 c1 c2
              obtain ⟨c0, c1, c2⟩ := N6.out
              go_wp2_with fail
              refine (alive_any _).mono ?_
              rintro e w9 ⟨rfl, K⟩
              have B9 := Lib.hid (B6.out.trans (K.mono B6.out.size))
              clear K N6 B6 S6 c0 c1 c2
              go_wp2
              go_ret
              exact ⟨rfl, BW.out.trans (B9.out.mono BW.out.size)⟩
    · cases zfc
      · cases zas
        · cases zst
          · cases zco
            · exact absurd (F1.out (by simp)) (by simp)
            · exact absurd (F1.out (by simp)) (by simp)
          · cases zco
            · exact absurd (F1.out (by simp)) (by simp)
            · exact absurd (F1.out (by simp)) (by simp)
        · cases zst
          · cases zco
            · exact absurd (F1.out (by simp)) (by simp)
            · exact absurd (F1.out (by simp)) (by simp)
          · cases zco
            · exact absurd (F1.out (by simp)) (by simp)
            · exact absurd (F1.out (by simp)) (by simp)
      · cases zas
        · cases zst
          · cases zco
            · exact absurd (F2.out (by simp)) (by simp)
            · exact absurd (F2.out (by simp)) (by simp)
          · cases zco
            · exact absurd (F2.out (by simp)) (by simp)
            · exact absurd (F2.out (by simp)) (by simp)
        · cases zst
          · cases zco
            · clear F1 F2 F3
              go_wp2_with fail
              refine (Cfc.out _ B0.out).mono ?_
              rintro e x1 ⟨rfl, K⟩
              have N1 := Lib.hid (N0.out.below K S0.out)
              have B1 := Lib.hid (B0.out.trans (K.mono B0.out.size))
              have S1 : Hid (x < x1.heap.size) := Nat.lt_of_lt_of_le S0.out K.size
              clear K N0 B0 S0 Cfc c0 c1 c2
              obtain ⟨c0, c1, c2⟩ := N1.out
              go_wp2_with fail
              refine (Csm.out _ B1.out).mono ?_
              rintro e x2 ⟨rfl, K⟩
              have N2 := Lib.hid (N1.out.below K S1.out)
              have B2 := Lib.hid (B1.out.trans (K.mono B1.out.size))
              have S2 : Hid (x < x2.heap.size) := Nat.lt_of_lt_of_le S1.out K.size
              clear K N1 B1 S1 Csm c0 c1 c2
              obtain ⟨c0, c1, c2⟩ := N2.out
              go_wp2_with fail
              refine (Cmg.out _ B2.out).mono ?_
              rintro e x3 ⟨rfl, K⟩
              have N3 := Lib.hid (N2.out.below K S2.out)
              have B3 := Lib.hid (B2.out.trans (K.mono B2.out.size))
              have S3 : Hid (x < x3.heap.size) := Nat.lt_of_lt_of_le S2.out K.size
              clear K N2 B2 S2 Cmg c0 c1 c2
              obtain ⟨c0, c1, c2⟩ := N3.out
              go_wp2_with fail
              refine (Cas.out _ B3.out).mono ?_
              rintro e x4 ⟨rfl, K⟩
              have N4 := Lib.hid (N3.out.below K S3.out)
              have B4 := Lib.hid (B3.out.trans (K.mono B3.out.size))
              have S4 : Hid (x < x4.heap.size) := Nat.lt_of_lt_of_le S3.out K.size
              clear K N3 B3 S3 Cas c0 c1 c2
              obtain ⟨c0, c1, c2⟩ := N4.out
              go_wp2_with fail
              refine (Cst.out _ B4.out).mono ?_
              rintro e x5 ⟨rfl, K⟩
              have N5 := Lib.hid (N4.out.below K S4.out)
              have B5 := Lib.hid (B4.out.trans (K.mono B4.out.size))
              have S5 : Hid (x < x5.heap.size) := Nat.lt_of_lt_of_le S4.out K.size
              clear K N4 B4 S4 Cst c0 c1 c2
              obtain ⟨c0, c1, c2⟩ := N5.out
              go_wp2_with fail
              refine (alive_any _).mono ?_
              rintro e w9 ⟨rfl, K⟩
              have B9 := Lib.hid (B5.out.trans (K.mono B5.out.size))
              clear K N5 B5 S5 c0 c1 c2
              go_wp2
              go_ret
              exact ⟨rfl, BW.out.trans (B9.out.mono BW.out.size)⟩
            · clear F1 F2 F3
              go_wp2_with fail
              refine (Cfc.out _ B0.out).mono ?_
              rintro e x1 ⟨rfl, K⟩
              have N1 := Lib.hid (N0.out.below K S0.out)
              have B1 := Lib.hid (B0.out.trans (K.mono B0.out.size))
              have S1 : Hid (x < x1.heap.size) := Nat.lt_of_lt_of_le S0.out K.size
              clear K N0 B0 S0 Cfc c0 c1 c2
              obtain ⟨c0, c1, c2⟩ := N1.out
              go_wp2_with fail
              refine (Csm.out _ B1.out).mono ?_
              rintro e x2 ⟨rfl, K⟩
              have N2 := Lib.hid (N1.out.below K S1.out)
              have B2 := Lib.hid (B1.out.trans (K.mono B1.out.size))
              have S2 : Hid (x < x2.heap.size) := Nat.lt_of_lt_of_le S1.out K.size
              clear K N1 B1 S1 Csm c0 c1 c2
              obtain ⟨c0, c1, c2⟩ := N2.out
              go_wp2_with fail
              refine (Cmg.out _ B2.out).mono ?_
              rintro e x3 ⟨rfl, K⟩
              have N3 := Lib.hid (N2.out.below K S2.out)
              have B3 := Lib.hid (B2.out.trans (K.mono B2.out.size))
              have S3 : Hid (x < x3.heap.size) := Nat.lt_of_lt_of_le S2.out K.size
              clear K N2 B2 S2 Cmg c0 c1 c2
              obtain ⟨c0, c1, c2⟩ := N3.out
              go_wp2_with fail
              refine (Cas.out _ B3.out).mono ?_
              rintro e x4 ⟨rfl, K⟩
              have N4 := Lib.hid (N3.out.below K S3.out)
              have B4 := Lib.hid (B3.out.trans (K.mono B3.out.size))
              have S4 : Hid (x < x4.heap.size) := Nat.lt_of_lt_of_le S3.out K.size
              clear K N3 B3 S3 Cas c0 c1 c2
              obtain ⟨c0, c1, c2⟩ := N4.out
              go_wp2_with fail
              refine (Cst.out _ B4.out).mono ?_
              rintro e x5 ⟨rfl, K⟩
              have N5 := Lib.hid (N4.out.below K S4.out)
              have B5 := Lib.hid (B4.out.trans (K.mono B4.out.size))
              have S5 : Hid (x < x5.heap.size) := Nat.lt_of_lt_of_le S4.out K.size
              clear K N4 B4 S4 Cst c0 c1 c2
              obtain ⟨c0, c1, c2⟩ := N5.out
              go_wp2_with fail
              refine (alive_any _).mono ?_
              rintro e w9 ⟨rfl, K⟩
              have B9 := Lib.hid (B5.out.trans (K.mono B5.out.size))
              clear K N5 B5 S5 c0 c1 c2
              go_wp2
              go_ret
              exact ⟨rfl, BW.out.trans (B9.out.mono BW.out.size)⟩
          · cases zco
            · exact absurd (F3.out (by simp)) (by simp)
            · clear F1 F2 F3
              go_wp2_with fail
              refine (Cfc.out _ B0.out).mono ?_
              rintro e x1 ⟨rfl, K⟩
              have N1 := Lib.hid (N0.out.below K S0.out)
              have B1 := Lib.hid (B0.out.trans (K.mono B0.out.size))
              have S1 : Hid (x < x1.heap.size) := Nat.lt_of_lt_of_le S0.out K.size
              clear K N0 B0 S0 Cfc c0 c1 c2
              obtain ⟨c0, c1, c2⟩ := N1.out
              go_wp2_with fail
              refine (Csm.out _ B1.out).mono ?_
              rintro e x2 ⟨rfl, K⟩
              have N2 := Lib.hid (N1.out.below K S1.out)
              have B2 := Lib.hid (B1.out.trans (K.mono B1.out.size))
              have S2 : Hid (x < x2.heap.size) := Nat.lt_of_lt_of_le S1.out K.size
              clear K N1 B1 S1 Csm c0 c1 c2
              obtain ⟨c0, c1, c2⟩ := N2.out
              go_wp2_with fail
              refine (Cmg.out _ B2.out).mono ?_
              rintro e x3 ⟨rfl, K⟩
              have N3 := Lib.hid (N2.out.below K S2.out)
              have B3 := Lib.hid (B2.out.trans (K.mono B2.out.size))
              have S3 : Hid (x < x3.heap.size) := Nat.lt_of_lt_of_le S2.out K.size
              clear K N2 B2 S2 Cmg c0 c1 c2
              obtain ⟨c0, c1, c2⟩ := N3.out
              go_wp2_with fail
              refine (Cas.out _ B3.out).mono ?_
              rintro e x4 ⟨rfl, K⟩
              have N4 := Lib.hid (N3.out.below K S3.out)
              have B4 := Lib.hid (B3.out.trans (K.mono B3.out.size))
              have S4 : Hid (x < x4.heap.size) := Nat.lt_of_lt_of_le S3.out K.size
              clear K N3 B3 S3 Cas c0 c1 c2
              obtain ⟨c0, c1, c2⟩ := N4.out
              go_wp2_with fail
              refine (Cst.out _ B4.out).mono ?_
              rintro e x5 ⟨rfl, K⟩
              have N5 := Lib.hid (N4.out.below K S4.out)
              have B5 := Lib.hid (B4.out.trans (K.mono B4.out.size))
              have S5 : Hid (x < x5.heap.size) := Nat.lt_of_lt_of_le S4.out K.size
              clear K N4 B4 S4 Cst c0 c1 c2
              obtain ⟨c0, c1, c2⟩ := N5.out
              go_wp2_with fail
              refine (Cco.out _ B5.out).mono ?_
              rintro e x6 ⟨rfl, K⟩
              have N6 := Lib.hid (N5.out.below K S5.out)
              have B6 := Lib.hid (B5.out.trans (K.mono B5.out.size))
              have S6 : Hid (x < x6.heap.size) := Nat.lt_of_lt_of_le S5.out K.size
              clear K N5 B5 S5 Cco c0 c1 c2
              obtain ⟨c0, c1, c2⟩ := N6.out
              go_wp2_with fail
              refine (alive_any _).mono ?_
              rintro e w9 ⟨rfl, K⟩
              have B9 := Lib.hid (B6.out.trans (K.mono B6.out.size))
              clear K N6 B6 S6 c0 c1 c2
              go_wp2
              go_ret
              exact ⟨rfl, BW.out.trans (B9.out.mono BW.out.size)⟩
  · cases zmg
    · cases zfc
      · cases zas
        · cases zst
          · cases zco
            · exact absurd (F1.out (by simp)) (by simp)
            · exact absurd (F1.out (by simp)) (by simp)
          · cases zco
            · exact absurd (F1.out (by simp)) (by simp)
            · exact absurd (F1.out (by simp)) (by simp)
        · cases zst
          · cases zco
            · exact absurd (F1.out (by simp)) (by simp)
            · exact absurd (F1.out (by simp)) (by simp)
          · cases zco
            · exact absurd (F1.out (by simp)) (by simp)
            · exact absurd (F1.out (by simp)) (by simp)
      · cases zas
        · cases zst
          · cases zco
            · exact absurd (F2.out (by simp)) (by simp)
            · exact absurd (F2.out (by simp)) (by simp)
          · cases zco
            · exact absurd (F2.out (by simp)) (by simp)
            · exact absurd (F2.out (by simp)) (by simp)
        · cases zst
          · cases zco
            · clear F1 F2 F3
              go_wp2_with fail
              refine (Cfc.out _ B0.out).mono ?_
              rintro e x1 ⟨rfl, K⟩
              have N1 := Lib.hid (N0.out.below K S0.out)
              have B1 := Lib.hid (B0.out.trans (K.mono B0.out.size))
              have S1 : Hid (x < x1.heap.size) := Nat.lt_of_lt_of_le S0.out K.size
              clear K N0 B0 S0 Cfc c0 c1 c2
              obtain ⟨c0, c1, c2⟩ := N1.out
              go_wp2_with fail
              refine (Csm.out _ B1.out).mono ?_
              rintro e x2 ⟨rfl, K⟩
              have N2 := Lib.hid (N1.out.below K S1.out)
              have B2 := Lib.hid (B1.out.trans (K.mono B1.out.size))
              have S2 : Hid (x < x2.heap.size) := Nat.lt_of_lt_of_le S1.out K.size
              clear K N1 B1 S1 Csm c0 c1 c2
              obtain ⟨c0, c1, c2⟩ := N2.out
              go_wp2_with fail
              refine (Cas.out _ B2.out).mono ?_
              rintro e x3 ⟨rfl, K⟩
              have N3 := Lib.hid (N2.out.below K S2.out)
              have B3 := Lib.hid (B2.out.trans (K.mono B2.out.size))
              have S3 : Hid (x < x3.heap.size) := Nat.lt_of_lt_of_le S2.out K.size
              clear K N2 B2 S2 Cas c0 c1 c2
              obtain ⟨c0, c1, c2⟩ := N3.out
              go_wp2_with fail
              refine (Cst.out _ B3.out).mono ?_
              rintro e x4 ⟨rfl, K⟩
              have N4 := Lib.hid (N3.out.below K S3.out)
              have B4 := Lib.hid (B3.out.trans (K.mono B3.out.size))
              have S4 : Hid (x < x4.heap.size) := Nat.lt_of_lt_of_le S3.out K.size
              clear K N3 B3 S3 Cst c0 c1 c2
              obtain ⟨c0, c1, c2⟩ := N4.out
              go_wp2_with fail
              refine (alive_any _).mono ?_
              rintro e w9 ⟨rfl, K⟩
              have B9 := Lib.hid (B4.out.trans (K.mono B4.out.size))
              clear K N4 B4 S4 c0 c1 c2
              go_wp2
              go_ret
              exact ⟨rfl, BW.out.trans (B9.out.mono BW.out.size)⟩
            · clear F1 F2 F3
              go_wp2_with fail
              refine (Cfc.out _ B0.out).mono ?_
              rintro e x1 ⟨rfl, K⟩
              have N1 := Lib.hid (N0.out.below K S0.out)
              have B1 := Lib.hid (B0.out.trans (K.mono B0.out.size))
              have S1 : Hid (x < x1.heap.size) := Nat.lt_of_lt_of_le S0.out K.size
              clear K N0 B0 S0 Cfc c0 c1 c2
              obtain ⟨c0, c1, c2⟩ := N1.out
              go_wp2_with fail
              refine (Csm.out _ B1.out).mono ?_
              rintro e x2 ⟨rfl, K⟩
              have N2 := Lib.hid (N1.out.below K S1.out)
              have B2 := Lib.hid (B1.out.trans (K.mono B1.out.size))
              have S2 : Hid (x < x2.heap.size) := Nat.lt_of_lt_of_le S1.out K.size
              clear K N1 B1 S1 Csm c0 c1 c2
              obtain ⟨c0, c1, c2⟩ := N2.out
              go_wp2_with fail
              refine (Cas.out _ B2.out).mono ?_
              rintro e x3 ⟨rfl, K⟩
              have N3 := Lib.hid (N2.out.below K S2.out)
              have B3 := Lib.hid (B2.out.trans (K.mono B2.out.size))
              have S3 : Hid (x < x3.heap.size) := Nat.lt_of_lt_of_le S2.out K.size
              clear K N2 B2 S2 Cas c0 c1 c2
              obtain ⟨c0, c1, c2⟩ := N3.out
              go_wp2_with fail
              refine (Cst.out _ B3.out).mono ?_
              rintro e x4 ⟨rfl, K⟩
              have N4 := Lib.hid (N3.out.below K S3.out)
              have B4 := Lib.hid (B3.out.trans (K.mono B3.out.size))
              have S4 : Hid (x < x4.heap.size) := Nat.lt_of_lt_of_le S3.out K.size
              clear K N3 B3 S3 Cst c0 c1 c2
              obtain ⟨c0, c1, c2⟩ := N4.out
              go_wp2_with fail
              refine (alive_any _).mono ?_
              rintro e w9 ⟨rfl, K⟩
              have B9 := Lib.hid (B4.out.trans (K.mono B4.out.size))
              clear K N4 B4 S4 c0 c1 c2
              go_wp2
              go_ret
              exact ⟨rfl, BW.out.trans (B9.out.mono BW.out.size)⟩
          · cases zco
            · exact absurd (F3.out (by simp)) (by simp)
            · clear F1 F2 F3
              go_wp2_with fail
              refine (Cfc.out _ B0.out).mono ?_
              rintro e x1 ⟨rfl, K⟩
              have N1 := Lib.hid (N0.out.below K S0.out)
              have B1 := Lib.hid (B0.out.trans (K.mono B0.out.size))
              have S1 : Hid (x < x1.heap.size) := Nat.lt_of_lt_of_le S0.out K.size
              clear K N0 B0 S0 Cfc c0 c1 c2
              obtain ⟨c0, c1, c2⟩ := N1.out
              go_wp2_with fail
              refine (Csm.out _ B1.out).mono ?_
              rintro e x2 ⟨rfl, K⟩
              have N2 := Lib.hid (N1.out.below K S1.out)
              have B2 := Lib.hid (B1.out.trans (K.mono B1.out.size))
              have S2 : Hid (x < x2.heap.size) := Nat.lt_of_lt_of_le S1.out K.size
              clear K N1 B1 S1 Csm c0 c1 c2
              obtain ⟨c0, c1, c2⟩ := N2.out
              go_wp2_with fail
              refine (Cas.out _ B2.out).mono ?_
              rintro e x3 ⟨rfl, K⟩
              have N3 := Lib.hid (N2.out.below K S2.out)
              have B3 := Lib.hid (B2.out.trans (K.mono B2.out.size))
              have S3 : Hid (x < x3.heap.size) := Nat.lt_of_lt_of_le S2.out K.size
              clear K N2 B2 S2 Cas c0 c1 c2
              obtain ⟨c0, c1, c2⟩ := N3.out
              go_wp2_with fail
              refine (Cst.out _ B3.out).mono ?_
              rintro e x4 ⟨rfl, K⟩
              have N4 := Lib.hid (N3.out.below K S3.out)
              have B4 := Lib.hid (B3.out.trans (K.mono B3.out.size))
              have S4 : Hid (x < x4.heap.size) := Nat.lt_of_lt_of_le S3.out K.size
              clear K N3 B3 S3 Cst c0 c1 c2
              obtain ⟨c0, c1, c2⟩ := N4.out
              go_wp2_with fail
              refine (Cco.out _ B4.out).mono ?_
              rintro e x5 ⟨rfl, K⟩
              have N5 := Lib.hid (N4.out.below K S4.out)
              have B5 := Lib.hid (B4.out.trans (K.mono B4.out.size))
              have S5 : Hid (x < x5.heap.size) := Nat.lt_of_lt_of_le S4.out K.size
              clear K N4 B4 S4 Cco c0 c1 c2
              obtain ⟨c0, c1, c2⟩ := N5.out
              go_wp2_with fail
              refine (alive_any _).mono ?_
              rintro e w9 ⟨rfl, K⟩
              have B9 := Lib.hid (B5.out.trans (K.mono B5.out.size))
              clear K N5 B5 S5 c0 c1 c2
              go_wp2
              go_ret
              exact ⟨rfl, BW.out.trans (B9.out.mono BW.out.size)⟩
    · cases zfc
      · cases zas
        · cases zst
          · cases zco
            · exact absurd (F1.out (by simp)) (by simp)
            · exact absurd (F1.out (by simp)) (by simp)
          · cases zco
            · exact absurd (F1.out (by simp)) (by simp)
            · exact absurd (F1.out (by simp)) (by simp)
        · cases zst
          · cases zco
            · exact absurd (F1.out (by simp)) (by simp)
            · exact absurd (F1.out (by simp)) (by simp)
          · cases zco
            · exact absurd (F1.out (by simp)) (by simp)
            · exact absurd (F1.out (by simp)) (by simp)
      · cases zas
        · cases zst
          · cases zco
            · exact absurd (F2.out (by simp)) (by simp)
            · exact absurd (F2.out (by simp)) (by simp)
          · cases zco
            · exact absurd (F2.out (by simp)) (by simp)
            · exact absurd (F2.out (by simp)) (by simp)
        · cases zst
          · cases zco
            · clear F1 F2 F3
              go_wp2_with fail
              refine (Cfc.out _ B0.out).mono ?_
              rintro e x1 ⟨rfl, K⟩
              have N1 := Lib.hid (N0.out.below K S0.out)
              have B1 := Lib.hid (B0.out.trans (K.mono B0.out.size))
              have S1 : Hid (x < x1.heap.size) := Nat.lt_of_lt_of_le S0.out K.size
              clear K N0 B0 S0 Cfc c0 c1 c2
              obtain ⟨c0, c1, c2⟩ := N1.out
              go_wp2_with fail
              refine (Csm.out _ B1.out).mono ?_
              rintro e x2 ⟨rfl, K⟩
              have N2 := Lib.hid (N1.out.below K S1.out)
              have B2 := Lib.hid (B1.out.trans (K.mono B1.out.size))
              have S2 : Hid (x < x2.heap.size) := Nat.lt_of_lt_of_le S1.out K.size
              clear K N1 B1 S1 Csm c0 c1 c2
              obtain ⟨c0, c1, c2⟩ := N2.out
              go_wp2_with fail
              refine (Cas.out _ B2.out).mono ?_
              rintro e x3 ⟨rfl, K⟩
              have N3 := Lib.hid (N2.out.below K S2.out)
              have B3 := Lib.hid (B2.out.trans (K.mono B2.out.size))
              have S3 : Hid (x < x3.heap.size) := Nat.lt_of_lt_of_le S2.out K.size
              clear K N2 B2 S2 Cas c0 c1 c2
              obtain ⟨c0, c1, c2⟩ := N3.out
              go_wp2_with fail
              refine (Cst.out _ B3.out).mono ?_
              rintro e x4 ⟨rfl, K⟩
              have N4 := Lib.hid (N3.out.below K S3.out)
              have B4 := Lib.hid (B3.out.trans (K.mono B3.out.size))
              have S4 : Hid (x < x4.heap.size) := Nat.lt_of_lt_of_le S3.out K.size
              clear K N3 B3 S3 Cst c0 c1 c2
              obtain ⟨c0, c1, c2⟩ := N4.out
              go_wp2_with fail
              refine (alive_any _).mono ?_
              rintro e w9 ⟨rfl, K⟩
              have B9 := Lib.hid (B4.out.trans (K.mono B4.out.size))
              clear K N4 B4 S4 c0 c1 c2
              go_wp2
              go_ret
              exact ⟨rfl, BW.out.trans (B9.out.mono BW.out.size)⟩
            · clear F1 F2 F3
              go_wp2_with fail
              refine (Cfc.out _ B0.out).mono ?_
              rintro e x1 ⟨rfl, K⟩
              have N1 := Lib.hid (N0.out.below K S0.out)
              have B1 := Lib.hid (B0.out.trans (K.mono B0.out.size))
              have S1 : Hid (x < x1.heap.size) := Nat.lt_of_lt_of_le S0.out K.size
              clear K N0 B0 S0 Cfc c0 c1 c2
              obtain ⟨c0, c1, c2⟩ := N1.out
              go_wp2_with fail
              refine (Csm.out _ B1.out).mono ?_
              rintro e x2 ⟨rfl, K⟩
              have N2 := Lib.hid (N1.out.below K S1.out)
              have B2 := Lib.hid (B1.out.trans (K.mono B1.out.size))
              have S2 : Hid (x < x2.heap.size) := Nat.lt_of_lt_of_le S1.out K.size
              clear K N1 B1 S1 Csm c0 c1 c2
              obtain ⟨c0, c1, c2⟩ := N2.out
              go_wp2_with fail
              refine (Cas.out _ B2.out).mono ?_
              rintro e x3 ⟨rfl, K⟩
              have N3 := Lib.hid (N2.out.below K S2.out)
              have B3 := Lib.hid (B2.out.trans (K.mono B2.out.size))
              have S3 : Hid (x < x3.heap.size) := Nat.lt_of_lt_of_le S2.out K.size
              clear K N2 B2 S2 Cas c0 c1 c2
              obtain ⟨c0, c1, c2⟩ := N3.out
              go_wp2_with fail
              refine (Cst.out _ B3.out).mono ?_
              rintro e x4 ⟨rfl, K⟩
              have N4 := Lib.hid (N3.out.below K S3.out)
              have B4 := Lib.hid (B3.out.trans (K.mono B3.out.size))
              have S4 : Hid (x < x4.heap.size) := Nat.lt_of_lt_of_le S3.out K.size
              clear K N3 B3 S3 Cst c0 c1 c2
              obtain ⟨c0, c1, c2⟩ := N4.out
              go_wp2_with fail
              refine (alive_any _).mono ?_
              rintro e w9 ⟨rfl, K⟩
              have B9 := Lib.hid (B4.out.trans (K.mono B4.out.size))
              clear K N4 B4 S4 c0 c1 c2
              go_wp2
              go_ret
              exact ⟨rfl, BW.out.trans (B9.out.mono BW.out.size)⟩
          · cases zco
            · exact absurd (F3.out (by simp)) (by simp)
            · clear F1 F2 F3
              go_wp2_with fail
              refine (Cfc.out _ B0.out).mono ?_
              rintro e x1 ⟨rfl, K⟩
              have N1 := Lib.hid (N0.out.below K S0.out)
              have B1 := Lib.hid (B0.out.trans (K.mono B0.out.size))
              have S1 : Hid (x < x1.heap.size) := Nat.lt_of_lt_of_le S0.out K.size
              clear K N0 B0 S0 Cfc c0 c1 c2
              obtain ⟨c0, c1, c2⟩ := N1.out
              go_wp2_with fail
              refine (Csm.out _ B1.out).mono ?_
              rintro e x2 ⟨rfl, K⟩
              have N2 := Lib.hid (N1.out.below K S1.out)
              have B2 := Lib.hid (B1.out.trans (K.mono B1.out.size))
              have S2 : Hid (x < x2.heap.size) := Nat.lt_of_lt_of_le S1.out K.size
              clear K N1 B1 S1 Csm c0 c1 c2
              obtain ⟨c0, c1, c2⟩ := N2.out
              go_wp2_with fail
              refine (Cas.out _ B2.out).mono ?_
              rintro e x3 ⟨rfl, K⟩
              have N3 := Lib.hid (N2.out.below K S2.out)
              have B3 := Lib.hid (B2.out.trans (K.mono B2.out.size))
              have S3 : Hid (x < x3.heap.size) := Nat.lt_of_lt_of_le S2.out K.size
              clear K N2 B2 S2 Cas c0 c1 c2
              obtain ⟨c0, c1, c2⟩ := N3.out
              go_wp2_with fail
              refine (Cst.out _ B3.out).mono ?_
              rintro e x4 ⟨rfl, K⟩
              have N4 := Lib.hid (N3.out.below K S3.out)
              have B4 := Lib.hid (B3.out.trans (K.mono B3.out.size))
              have S4 : Hid (x < x4.heap.size) := Nat.lt_of_lt_of_le S3.out K.size
              clear K N3 B3 S3 Cst c0 c1 c2
              obtain ⟨c0, c1, c2⟩ := N4.out
              go_wp2_with fail
              refine (Cco.out _ B4.out).mono ?_
              rintro e x5 ⟨rfl, K⟩
              have N5 := Lib.hid (N4.out.below K S4.out)
              have B5 := Lib.hid (B4.out.trans (K.mono B4.out.size))
              have S5 : Hid (x < x5.heap.size) := Nat.lt_of_lt_of_le S4.out K.size
              clear K N4 B4 S4 Cco c0 c1 c2
              obtain ⟨c0, c1, c2⟩ := N5.out
              go_wp2_with fail
              refine (alive_any _).mono ?_
              rintro e w9 ⟨rfl, K⟩
              have B9 := Lib.hid (B5.out.trans (K.mono B5.out.size))
              clear K N5 B5 S5 c0 c1 c2
              go_wp2
              go_ret
              exact ⟨rfl, BW.out.trans (B9.out.mono BW.out.size)⟩
end Go.Proofs.Ytlbcdnobpnllkaa
