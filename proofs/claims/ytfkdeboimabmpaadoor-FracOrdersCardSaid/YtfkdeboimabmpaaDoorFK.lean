/- The reference's comparison and the law on the order. -/
import Derived.Test.YtfkdeboimabmpaaDoorFJ
namespace Go.Proofs.YtfkdeboimabmpaaDoor
open Go.RowKit

theorem pair_cases (x1 y1 x2 y2 : Int) (h : ¬ (x1 = x2 ∧ y1 = y2)) : (x1 == x2) = false ∨ ((x1 == x2) = true ∧ (y1 == y2) = false) := by
  by_cases h1 : x1 = x2
  · exact .inr ⟨by simp [h1], by simp; exact fun h2 => h ⟨h1, h2⟩⟩
  · exact .inl (by simp [h1])
set_option maxHeartbeats 4000000 in
set_option maxRecDepth 1000000 in
theorem rCmp_any (x1 y1 x2 y2 : Int) (w : World) (h1 : I64 x1) (h2 : I64 y1) (h3 : I64 x2) (h4 : I64 y2) :
    Calls Tryd.prog 16 #[.agg #[.int .i64 x1, .int .i64 y1], .agg #[.int .i64 x2, .int .i64 y2]] w fun e w' => e = .returned (cmpV x1 y1 x2 y2) ∧ Below w.heap.size w w' := by
  have HV1 := Lib.hid (fun w => refValid_any x1 y1 w h1.1 h1.2 h2.1 h2.2)
  have HV2 := Lib.hid (fun w => refValid_any x2 y2 w h3.1 h3.2 h4.1 h4.2)
  have HS1 := Lib.hid (fun w => size_any x1 w h1.1 h1.2)
  have HS2 := Lib.hid (fun w => size_any x2 w h3.1 h3.2)
  have HR : Hid (I64 x1 ∧ I64 y1 ∧ I64 x2 ∧ I64 y2) := ⟨h1, h2, h3, h4⟩
  have T1 := Lib.hid (two_start x1 y1 x2 y2 w)
  have K1 : Hid (Below w.heap.size w ((w.alloc (.cells #[.int .i64 x1, .int .i64 y1] 23)).alloc (.cells #[.int .i64 x2, .int .i64 y2] 23))) :=
    ((Below.refl _ _).alloc (Nat.le_refl _) _).alloc (by first | (simp; done) | (simp; omega)) _
  have HN1 := Lib.hid (@cmpV_no1 x1 y1 x2 y2)
  have HN2 := Lib.hid (@cmpV_no2 x1 y1 x2 y2)
  have HYS := Lib.hid (@cmpV_yes x1 y1 x2 y2)
  have HOC := Lib.hid (order_cases x1 y1 x2 y2)
  have HVO1 := Lib.hid (@valid_out x1 y1)
  have HVO2 := Lib.hid (@valid_out x2 y2)
  have HEQ : Hid (x1 = x2 ∧ y1 = y2 → crossV (x1 * y2) (x2 * y1) = 0) := by rintro ⟨rfl, rfl⟩; exact cross_eq _
  clear h1 h2 h3 h4
  generalize cmpV x1 y1 x2 y2 = V at *
  generalize crossV (x1 * y2) (x2 * y1) = c at *
  generalize validB x1 y1 = v1 at *
  generalize validB x2 y2 = v2 at *
  go_enter Tryd.func16, Tryd.ntmps16
  go_wp2_with fail
  go_at_call 12
  refine (HV1.out _).mono ?_
  rintro _ w1 ⟨rfl, hb⟩
  have T2 := Lib.hid (T1.out.below hb)
  have K2 := Lib.hid (K1.out.trans (hb.mono (Nat.le_trans (Nat.le_add_right _ 2) T1.out.2.2.2.2)))
  clear hb T1 K1
  obtain ⟨C1, C2, C3, C4, _⟩ := T2.out
  cases v1 with
  | false =>
    have HE := Lib.hid (HN1.out rfl)
    go_wp2_with fail
    go_ret2
    exact ⟨by rw [HE.out]; rfl, K2.out⟩
  | true =>
    replace HYS := Lib.hid (HYS.out rfl)
    replace HOC := Lib.hid (HOC.out rfl)
    replace HVO1 := Lib.hid (HVO1.out rfl)
    clear HN1
    go_wp2_with fail
    go_at_call 12
    refine (HV2.out _).mono ?_
    rintro _ w2 ⟨rfl, hb⟩
    have T3 := Lib.hid (T2.out.below hb)
    have K3 := Lib.hid (K2.out.trans (hb.mono (Nat.le_trans (Nat.le_add_right _ 2) T2.out.2.2.2.2)))
    clear hb T2 K2 C1 C2 C3 C4
    obtain ⟨C1, C2, C3, C4, _⟩ := T3.out
    cases v2 with
    | false =>
      have HE := Lib.hid (HN2.out rfl)
      go_wp2_with fail
      go_ret2
      exact ⟨by rw [HE.out]; rfl, K3.out⟩
    | true =>
      have HE := Lib.hid (HYS.out rfl)
      replace HOC := Lib.hid (HOC.out rfl)
      replace HVO2 := Lib.hid (HVO2.out rfl)
      clear HYS HN2 HV1 HV2
      by_cases heq : x1 = x2 ∧ y1 = y2
      · have hc : Hid (c = 0) := HEQ.out heq
        obtain ⟨rfl, rfl⟩ := heq
        go_wp2_with fail
        go_ret2
        exact ⟨by rw [HE.out, hc.out]; rfl, K3.out⟩
      · obtain ⟨O1, O2, O3, O4⟩ := HOC.out heq
        have HO1 := Lib.hid O1
        have HO2 := Lib.hid O2
        have HO3 := Lib.hid O3
        have HO4 := Lib.hid O4
        have HPC := Lib.hid (pair_cases x1 y1 x2 y2 heq)
        clear O1 O2 O3 O4 heq HEQ HOC
        obtain ⟨d1, hd1⟩ : ∃ d : Nat, y1 = (d : Int) := ⟨y1.toNat, by have := HVO1.out.1; omega⟩
        obtain ⟨d2, hd2⟩ : ∃ d : Nat, y2 = (d : Int) := ⟨y2.toNat, by have := HVO2.out.1; omega⟩
        subst hd1
        subst hd2
        have HT1 : Hid (∀ w, Calls Tryd.prog 26 #[.int .u64 (x1.natAbs : Int), .int .u64 (d2 : Int)] w fun e w' => e = .returned (.agg #[.int .u64 (hI (x1.natAbs * d2)), .int .u64 (lI (x1.natAbs * d2))]) ∧ Below w.heap.size w w') :=
          fun w => times_w x1.natAbs d2 w (by have := HR.out.1; unfold I64 at this; omega) (by have := HR.out.2.2.2; unfold I64 at this; omega)
        have HT2 : Hid (∀ w, Calls Tryd.prog 26 #[.int .u64 (x2.natAbs : Int), .int .u64 (d1 : Int)] w fun e w' => e = .returned (.agg #[.int .u64 (hI (x2.natAbs * d1)), .int .u64 (lI (x2.natAbs * d1))]) ∧ Below w.heap.size w w') :=
          fun w => times_w x2.natAbs d1 w (by have := HR.out.2.2.1; unfold I64 at this; omega) (by have := HR.out.2.1; unfold I64 at this; omega)
        have c1 : IntKind.u64.wrap (d1 : Int) = (d1 : Int) := by have := HR.out.2.1; unfold I64 at this; rw [IntKind.wrap_u64]; omega
        have c2 : IntKind.u64.wrap (d2 : Int) = (d2 : Int) := by have := HR.out.2.2.2; unfold I64 at this; rw [IntKind.wrap_u64]; omega
        obtain ⟨b, hbl⟩ : ∃ b, decide (x1.natAbs * d2 < x2.natAbs * d1) = b := ⟨_, rfl⟩
        have HL : Hid (∀ w, Calls Tryd.prog 25 #[.agg #[.int .u64 (hI (x1.natAbs * d2)), .int .u64 (lI (x1.natAbs * d2))], .agg #[.int .u64 (hI (x2.natAbs * d1)), .int .u64 (lI (x2.natAbs * d1))]] w fun e w' => e = .returned (.bool b) ∧ Below w.heap.size w w') :=
          fun w => less_w _ _ b w hbl (tim_lt _ _ (by have := HR.out.1; unfold I64 at this; omega) (by have := HR.out.2.2.2; unfold I64 at this; omega)) (tim_lt _ _ (by have := HR.out.2.2.1; unfold I64 at this; omega) (by have := HR.out.2.1; unfold I64 at this; omega))
        simp only [Int.natAbs_natCast] at HO3 HO4
        have HB3 : Hid (¬ x1 < 0 → ¬ x2 < 0 → c = if b then -1 else 1) := fun p q => by rw [HO3.out (by omega) (by omega), ← hbl]; simp
        have HB4 : Hid (x1 < 0 → x2 < 0 → c = if b then 1 else -1) := fun p q => by rw [HO4.out (by omega) (by omega), ← hbl]; simp
        clear HO3 HO4 hbl HVO1 HVO2
        generalize hI (x1.natAbs * d2) = p1 at *
        generalize lI (x1.natAbs * d2) = p2 at *
        generalize hI (x2.natAbs * d1) = p3 at *
        generalize lI (x2.natAbs * d1) = p4 at *
        generalize (x1.natAbs : Int) = n1 at *
        generalize (x2.natAbs : Int) = n2 at *
        rcases HPC.out with q1 | ⟨q1, q2⟩
        all_goals
          by_cases s1 : x1 < 0 <;> by_cases s2 : x2 < 0
          · have e1 : decide (x1 < 0) = true := decide_eq_true s1
            have e2 : decide (x2 < 0) = true := decide_eq_true s2
            have HC : Hid (c = if b then 1 else -1) := HB4.out (by omega) (by omega)
            go_wp2_with fail
            go_region_held3 (fun w' => w'.cell? ⟨w.heap.size, 0, none⟩ = some (.int .i64 x1) ∧ w'.cell? ⟨w.heap.size, 1, none⟩ = some (.int .i64 (d1 : Int)) ∧ w'.cell? ⟨w.heap.size + 1, 0, none⟩ = some (.int .i64 x2) ∧ w'.cell? ⟨w.heap.size + 1, 1, none⟩ = some (.int .i64 (d2 : Int)) ∧ Hid (Below w.heap.size w w'))
              (first
                | exact ⟨C1, C2, C3, C4, K3.out.drew⟩
                | (go_split_ands
                   refine ⟨(hb.cell ?_).trans ?_, (hb.cell ?_).trans ?_, (hb.cell ?_).trans ?_, (hb.cell ?_).trans ?_, ?_⟩
                   · exact World.block_lt_of_cell? _ ⟨w.heap.size, 0, none⟩ (by assumption)
                   · assumption
                   · exact World.block_lt_of_cell? _ ⟨w.heap.size, 0, none⟩ (by assumption)
                   · assumption
                   · exact World.block_lt_of_cell? _ ⟨w.heap.size + 1, 0, none⟩ (by assumption)
                   · assumption
                   · exact World.block_lt_of_cell? _ ⟨w.heap.size + 1, 0, none⟩ (by assumption)
                   · assumption
                   · exact Below.trans (Hid.out (by assumption)) (hb.mono (Nat.le_of_lt (World.block_lt_of_cell? _ ⟨w.heap.size, 0, none⟩ (by assumption)))))
                | go_keep)
              (first
                | (go_at_call_of 19 (Value.int IntKind.i64 x1); refine (HS1.out _).mono ?_; rintro _ _ ⟨rfl, rfl⟩)
                | (go_at_call_of 19 (Value.int IntKind.i64 x2); refine (HS2.out _).mono ?_; rintro _ _ ⟨rfl, rfl⟩)
                | (go_at_call_of 26 (Value.int IntKind.u64 n1); refine (HT1.out _).mono ?_; rintro _ w4 ⟨rfl, hb⟩)
                | (go_at_call_of 26 (Value.int IntKind.u64 n2); refine (HT2.out _).mono ?_; rintro _ w4 ⟨rfl, hb⟩)
                | (go_at_call 25; refine (HL.out _).mono ?_; rintro _ w4 ⟨rfl, hb⟩))
            rename_i hHeld
            obtain ⟨E1, E2, E3, E4, K9⟩ := hHeld
            cases b with
            | false =>
              go_wp2_with fail
              go_ret2
              exact ⟨by rw [HE.out, HC.out]; rfl, K9.out⟩
            | true =>
              go_wp2_with fail
              go_ret2
              exact ⟨by rw [HE.out, HC.out]; rfl, K9.out⟩
          · have e1 : decide (x1 < 0) = true := decide_eq_true s1
            have e2 : decide (x2 < 0) = false := decide_eq_false s2
            have HC : Hid (c = -1) := HO1.out (by omega) (by omega)
            go_wp2_with fail
            go_ret2
            exact ⟨by rw [HE.out, HC.out]; rfl, K3.out⟩
          · have e1 : decide (x1 < 0) = false := decide_eq_false s1
            have e2 : decide (x2 < 0) = true := decide_eq_true s2
            have HC : Hid (c = 1) := HO2.out (by omega) (by omega)
            go_wp2_with fail
            go_ret2
            exact ⟨by rw [HE.out, HC.out]; rfl, K3.out⟩
          · have e1 : decide (x1 < 0) = false := decide_eq_false s1
            have e2 : decide (x2 < 0) = false := decide_eq_false s2
            have HC : Hid (c = if b then -1 else 1) := HB3.out (by omega) (by omega)
            go_wp2_with fail
            go_region_held3 (fun w' => w'.cell? ⟨w.heap.size, 0, none⟩ = some (.int .i64 x1) ∧ w'.cell? ⟨w.heap.size, 1, none⟩ = some (.int .i64 (d1 : Int)) ∧ w'.cell? ⟨w.heap.size + 1, 0, none⟩ = some (.int .i64 x2) ∧ w'.cell? ⟨w.heap.size + 1, 1, none⟩ = some (.int .i64 (d2 : Int)) ∧ Hid (Below w.heap.size w w'))
              (first
                | exact ⟨C1, C2, C3, C4, K3.out.drew⟩
                | (go_split_ands
                   refine ⟨(hb.cell ?_).trans ?_, (hb.cell ?_).trans ?_, (hb.cell ?_).trans ?_, (hb.cell ?_).trans ?_, ?_⟩
                   · exact World.block_lt_of_cell? _ ⟨w.heap.size, 0, none⟩ (by assumption)
                   · assumption
                   · exact World.block_lt_of_cell? _ ⟨w.heap.size, 0, none⟩ (by assumption)
                   · assumption
                   · exact World.block_lt_of_cell? _ ⟨w.heap.size + 1, 0, none⟩ (by assumption)
                   · assumption
                   · exact World.block_lt_of_cell? _ ⟨w.heap.size + 1, 0, none⟩ (by assumption)
                   · assumption
                   · exact Below.trans (Hid.out (by assumption)) (hb.mono (Nat.le_of_lt (World.block_lt_of_cell? _ ⟨w.heap.size, 0, none⟩ (by assumption)))))
                | go_keep)
              (first
                | (go_at_call_of 19 (Value.int IntKind.i64 x1); refine (HS1.out _).mono ?_; rintro _ _ ⟨rfl, rfl⟩)
                | (go_at_call_of 19 (Value.int IntKind.i64 x2); refine (HS2.out _).mono ?_; rintro _ _ ⟨rfl, rfl⟩)
                | (go_at_call_of 26 (Value.int IntKind.u64 n1); refine (HT1.out _).mono ?_; rintro _ w4 ⟨rfl, hb⟩)
                | (go_at_call_of 26 (Value.int IntKind.u64 n2); refine (HT2.out _).mono ?_; rintro _ w4 ⟨rfl, hb⟩)
                | (go_at_call 25; refine (HL.out _).mono ?_; rintro _ w4 ⟨rfl, hb⟩))
            rename_i hHeld
            obtain ⟨E1, E2, E3, E4, K9⟩ := hHeld
            cases b with
            | false =>
              go_wp2_with fail
              go_ret2
              exact ⟨by rw [HE.out, HC.out]; rfl, K9.out⟩
            | true =>
              go_wp2_with fail
              go_ret2
              exact ⟨by rw [HE.out, HC.out]; rfl, K9.out⟩
set_option maxHeartbeats 4000000 in
set_option maxRecDepth 1000000 in
theorem orders_law (x1 y1 x2 y2 : Int) (w : World) (h1 : I64 x1) (h2 : I64 y1) (h3 : I64 x2) (h4 : I64 y2) (hT : TabP w.heap.size w) :
    Calls Tryd.prog 5 #[.agg #[.int .i64 x1, .int .i64 y1], .agg #[.int .i64 x2, .int .i64 y2]] w fun e w' => e = .returned (.bool true) ∧ Below w.heap.size w w' := by
  have HT := Lib.hid hT
  have HC := Lib.hid (fun w => fCmp_any x1 y1 x2 y2 w h1 h2 h3 h4)
  have HR := Lib.hid (fun w => rCmp_any x1 y1 x2 y2 w h1 h2 h3 h4)
  have T1 := Lib.hid (two_start x1 y1 x2 y2 w)
  have K1 : Hid (Below w.heap.size w ((w.alloc (.cells #[.int .i64 x1, .int .i64 y1] 23)).alloc (.cells #[.int .i64 x2, .int .i64 y2] 23))) :=
    ((Below.refl _ _).alloc (Nat.le_refl _) _).alloc (by first | (simp; done) | (simp; omega)) _
  obtain ⟨c, e, hV⟩ : ∃ c e : Int, cmpV x1 y1 x2 y2 = .tuple #[.int .i64 c, .int .i64 e] := by
    unfold cmpV
    split
    · exact ⟨_, _, rfl⟩
    · exact ⟨_, _, rfl⟩
  rw [hV] at HC HR
  clear hV h1 h2 h3 h4 hT
  go_enter Tryd.func5, Tryd.ntmps5
  go_wp2_with fail
  go_at_call 15
  refine (HC.out _).mono ?_
  rintro _ w1 ⟨rfl, hb⟩
  have T2 := Lib.hid (T1.out.below hb)
  have K2 := Lib.hid (K1.out.trans (hb.mono (Nat.le_trans (Nat.le_add_right _ 2) T1.out.2.2.2.2)))
  clear hb T1 K1
  obtain ⟨C1, C2, C3, C4, _⟩ := T2.out
  go_wp2_with fail
  go_at_call 16
  refine (HR.out _).mono ?_
  rintro _ w2 ⟨rfl, hb⟩
  have K3 := Lib.hid (K2.out.trans (hb.mono (Nat.le_trans (Nat.le_add_right _ 2) T2.out.2.2.2.2)))
  clear hb T2 K2 C1 C2 C3 C4
  go_wp2_with fail
  go_at_call 9
  refine (example_any _ (HT.out.next K3.out K3.out.size)).mono ?_
  rintro _ w4 ⟨rfl, hb⟩
  have K4 := Lib.hid (K3.out.trans (hb.mono K3.out.size))
  clear hb
  go_wp2_with fail
  go_ret
  exact ⟨rfl, K4.out⟩
end Go.Proofs.YtfkdeboimabmpaaDoor
