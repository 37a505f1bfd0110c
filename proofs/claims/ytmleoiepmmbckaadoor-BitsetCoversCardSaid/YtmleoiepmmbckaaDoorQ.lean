/- The law on coverings, walked. -/
import Derived.Test.YtmleoiepmmbckaaDoorL
import Derived.Test.YtmleoiepmmbckaaDoorJ
namespace Go.Proofs.YtmleoiepmmbckaaDoor
open Go.RowKit Go.Shelf Go.Sort

def anyP (x : Nat) (L : List U64) : Bool := L.any fun m => subV m.1 x
def anyQ (x : Nat) (L : List U64) : Bool := L.any fun m => ((m.1 : Nat) : Int) == (x : Int)
theorem anyP_snoc (x : Nat) (L : List U64) (y : U64) : anyP x (L ++ [y]) = (anyP x L || subV y.1 x) := by simp [anyP]
theorem anyQ_snoc (x : Nat) (L : List U64) (y : U64) : anyQ x (L ++ [y]) = (anyQ x L || (((y.1 : Nat) : Int) == (x : Int))) := by simp [anyQ]
theorem covers_facts (l : List U64) : (∀ x ∈ l, anyP x.1 (minU l) = true) ∧ (∀ x ∈ minU l, anyQ x.1 l = true) ∧ (minU l).length ≤ l.length ∧
    ∀ (j k : Nat) (x y : U64), j ≠ k → (minU l)[j]? = some x → (minU l)[k]? = some y → (((x.1 &&& y.1 : Nat) : Int) == ((x.1 : Nat) : Int)) = false := by
  obtain ⟨h1, h2, h3, h4⟩ := minU_spec l
  refine ⟨fun x hx => ?_, fun x hx => ?_, h3, fun j k x y hjk hx hy => ?_⟩
  · obtain ⟨k, hk, hkx⟩ := h4 x hx
    exact List.any_eq_true.2 ⟨k, hk, hkx⟩
  · exact List.any_eq_true.2 ⟨x, ((h2 x).1 hx).1, by simp⟩
  · rw [beq_eq_false_iff_ne]
    intro e
    have hand : x.1 &&& y.1 = x.1 := by omega
    have hsub : subV x.1 y.1 = true := by rw [sub_and _ _ x.2 y.2]; exact decide_eq_true hand
    have hxy : x = y := ((h2 y).1 (List.mem_of_getElem? hy)).2 x ((h2 x).1 (List.mem_of_getElem? hx)).1 hsub
    subst hxy
    obtain ⟨j1, j2⟩ := List.getElem?_eq_some_iff.1 hx
    obtain ⟨k1, k2⟩ := List.getElem?_eq_some_iff.1 hy
    rcases Nat.lt_or_gt_of_ne hjk with h | h
    · have := List.pairwise_iff_getElem.1 h1 j k j1 k1 h
      rw [j2, k2] at this
      exact ltU_irrefl _ this
    · have := List.pairwise_iff_getElem.1 h1 k j k1 j1 h
      rw [j2, k2] at this
      exact ltU_irrefl _ this
set_option maxHeartbeats 4000000 in
set_option maxRecDepth 2000000 in
theorem covers_law (A : Option Addr) (l : List U64) (c : Nat) (w : World) (hr : Reads w A (vV l)) (hl : l.length * 8 ≤ 140737488351232) (hT : Tab w) :
    Calls Tryd.prog 9 #[.slice A l.length c] w (BoolPost w.heap.size w true) := by
  have LV := Lib.hid (lives_any w hT)
  have RA := Lib.hid hr
  have CM := Lib.hid (fun w hr => minimal_any A l c w hr hl)
  have CS : Hid (∀ (a b : U64) w, Calls Tryd.prog 27 #[.int .u64 ((a.1 : Nat) : Int), .int .u64 ((b.1 : Nat) : Int)] w fun e w' => e = .returned (.bool (subV a.1 b.1)) ∧ w' = w) := fun a b w => (subset_any a.1 b.1 w a.2 b.2).mono fun _ _ ⟨h1, h2⟩ => ⟨h1, h2.symm⟩
  obtain ⟨F1, F2, F3, F4⟩ := covers_facts l
  have F1 := Lib.hid F1
  have F2 := Lib.hid F2
  have F4 := Lib.hid F4
  clear hr
  generalize minU l = M at *
  have HV : Hid ((vV M).length = M.length) := vV_len M
  generalize hn : l.length = n at *
  have HN := Lib.hid hn
  clear hn
  generalize hm : M.length = m at *
  have HM := Lib.hid hm
  clear hm
  have HW := Lib.hid hT.2
  clear hT
  go_enter Tryd.func9, Tryd.ntmps9
  go_wp2_with fail
  refine LV.out.mono ?_
  rintro e w1 ⟨rfl, B1⟩
  have B1 := Lib.hid B1
  by_cases h40 : (40 : Int) < (n : Int)
  · go_wp2
    go_ret
    exact ⟨rfl, B1.out⟩
  have hn40 : n ≤ 40 := by omega
  go_wp2_with fail
  refine (CM.out w1 (RA.out.below B1.out (Nat.le_refl _))).mono ?_
  rintro e w2 ⟨A2, c2, rfl, R2, B2⟩
  rw [HV.out]
  have B2 : Hid (Below w.heap.size w w2) := B1.out.trans (B2.mono B1.out.size)
  have R2 := Lib.hid R2
  have RA2 := Lib.hid (RA.out.below B2.out (Nat.le_refl _))
  clear CM RA B1 HV
  generalize hg2 : w2.heap.size = g2 at *
  have HG2 := Lib.hid hg2
  clear hg2
  go_wp2_with fail
  go_loopw [4] (fun q wr => ∃ i : Nat, i ≤ n ∧ q = .int .i64 i ∧ Hid (Below g2 w2 wr)) (fun q _ => n - (intOf q).toNat)
  case atStart => exact ⟨0, by omega, rfl, Below.refl _ _⟩
  case round =>
    obtain ⟨i, hi, rfl, B⟩ := hrel
    by_cases hlt : i < n
    · obtain ⟨x, hx⟩ := get_of_lt (L := l) (k := i) (by rw [HN.out]; exact hlt)
      have HF := Lib.hid (F1.out x (List.mem_of_getElem? hx))
      have HX := Lib.hid hx
      clear hx
      go_wp2_with fail
      go_loopw [5, 6] (fun f q wr => ∃ (k : Nat) (bb : Bool), k ≤ m ∧ q = .int .i64 k ∧ f = .bool bb ∧ Hid (bb = anyP x.1 (M.take k)) ∧ Hid (Below g2 w2 wr)) (fun _ q _ => m - (intOf q).toNat)
      case atStart => exact ⟨0, false, by omega, rfl, rfl, rfl, B⟩
      case round =>
        clear B
        obtain ⟨k, bb, hk, rfl, rfl, HBB, B⟩ := hrel
        by_cases hlt2 : k < m
        · obtain ⟨y, hy⟩ := get_of_lt (L := M) (k := k) (by rw [HM.out]; exact hlt2)
          obtain ⟨ba, oa, e1, hc1⟩ := (R2.out.below B.out (by rw [HG2.out]; exact Nat.le_refl _)).at_ (vV_at hy)
          subst e1
          obtain ⟨bb2, ob, e2, hc2⟩ := (RA2.out.below B.out (by rw [HG2.out]; exact Nat.le_refl _)).at_ (vV_at HX.out)
          subst e2
          have D := Lib.hid (CS.out y x)
          have HB2 : Hid ((bb || subV y.1 x.1) = anyP x.1 (M.take (k + 1))) := by show _ = _; rw [take_snoc hy, anyP_snoc, HBB.out]
          clear hy HBB
          generalize subV y.1 x.1 = v at *
          obtain ⟨x, hx64⟩ := x
          obtain ⟨y, hy64⟩ := y
          dsimp only at *
          cases bb
          · go_wp2_with fail
            go_quiet ((go_at_call 27; exact Calls.quiet_of_same (D.out _)))
            go_wp2
            go_roundw
            case rel => exact ⟨k + 1, v, by omega, by go_num, rfl, by show _ = _; rw [← HB2.out]; rfl, below_drewN B.out _⟩
            case measure => simp [intOf]; omega
          · go_wp2_with fail
            go_quiet ((go_at_call 27; exact Calls.quiet_of_same (D.out _)))
            go_wp2
            go_roundw
            case rel => exact ⟨k + 1, true, by omega, by go_num, rfl, by show _ = _; rw [← HB2.out]; rfl, below_drewN B.out _⟩
            case measure => simp [intOf]; omega
        · obtain rfl : k = m := by omega
          have hbb : bb = true := by rw [HBB.out, ← HM.out, List.take_length]; exact HF.out
          clear HBB
          subst hbb
          go_wp2
          go_roundw
          case rel => exact ⟨i + 1, by omega, by go_num, B⟩
          case measure => simp [intOf]; omega
    · go_wp2_with fail
      clear hlt
      go_loopw [7] (fun q wr => ∃ i : Nat, i ≤ m ∧ q = .int .i64 i ∧ Hid (Below g2 w2 wr)) (fun q _ => m - (intOf q).toNat)
      case atStart => exact ⟨0, by omega, rfl, B⟩
      case round =>
        clear B
        obtain ⟨i2, hi2, rfl, B⟩ := hrel
        by_cases hlt : i2 < m
        · obtain ⟨x, hx⟩ := get_of_lt (L := M) (k := i2) (by rw [HM.out]; exact hlt)
          have HF := Lib.hid (F2.out x (List.mem_of_getElem? hx))
          have HX := Lib.hid hx
          clear hx
          go_wp2_with fail
          go_loopw [8, 9] (fun f q wr => ∃ (k : Nat) (bb : Bool), k ≤ n ∧ q = .int .i64 k ∧ f = .bool bb ∧ Hid (bb = anyQ x.1 (l.take k)) ∧ Hid (Below g2 w2 wr)) (fun _ q _ => n - (intOf q).toNat)
          case atStart => exact ⟨0, false, by omega, rfl, rfl, rfl, B⟩
          case round =>
            clear B
            obtain ⟨k, bb, hk, rfl, rfl, HBB, B⟩ := hrel
            by_cases hlt2 : k < n
            · obtain ⟨y, hy⟩ := get_of_lt (L := l) (k := k) (by rw [HN.out]; exact hlt2)
              obtain ⟨ba, oa, e1, hc1⟩ := (R2.out.below B.out (by rw [HG2.out]; exact Nat.le_refl _)).at_ (vV_at HX.out)
              subst e1
              obtain ⟨bb2, ob, e2, hc2⟩ := (RA2.out.below B.out (by rw [HG2.out]; exact Nat.le_refl _)).at_ (vV_at hy)
              subst e2
              have HB2 : Hid ((bb || (((y.1 : Nat) : Int) == ((x.1 : Nat) : Int))) = anyQ x.1 (l.take (k + 1))) := by show _ = _; rw [take_snoc hy, anyQ_snoc, HBB.out]
              clear hy HBB
              obtain ⟨x, hx64⟩ := x
              obtain ⟨y, hy64⟩ := y
              dsimp only at *
              cases bb
              · cases hv : ((y : Int) == (x : Int))
                · rw [hv] at HB2
                  go_wp2_with fail
                  go_quiet (fail)
                  go_wp2
                  go_roundw
                  case rel => exact ⟨k + 1, false, by omega, by go_num, rfl, by show _ = _; rw [← HB2.out]; rfl, below_drewN B.out _⟩
                  case measure => simp [intOf]; omega
                · rw [hv] at HB2
                  go_wp2_with fail
                  go_quiet (fail)
                  go_wp2
                  go_roundw
                  case rel => exact ⟨k + 1, true, by omega, by go_num, rfl, by show _ = _; rw [← HB2.out]; rfl, below_drewN B.out _⟩
                  case measure => simp [intOf]; omega
              · go_wp2_with fail
                go_quiet (fail)
                go_wp2
                go_roundw
                case rel => exact ⟨k + 1, true, by omega, by go_num, rfl, by show _ = _; rw [← HB2.out]; rfl, below_drewN B.out _⟩
                case measure => simp [intOf]; omega
            · obtain rfl : k = n := by omega
              have hbb : bb = true := by rw [HBB.out, ← HN.out, List.take_length]; exact HF.out
              clear HBB
              subst hbb
              go_wp2_with fail
              go_loopw [10] (fun q wr => ∃ j : Nat, j ≤ m ∧ q = .int .i64 j ∧ Hid (Below g2 w2 wr)) (fun q _ => m - (intOf q).toNat)
              case atStart => exact ⟨0, by omega, rfl, B⟩
              case round =>
                clear B
                obtain ⟨j, hj, rfl, B⟩ := hrel
                by_cases hlt3 : j < m
                · obtain ⟨y, hy⟩ := get_of_lt (L := M) (k := j) (by rw [HM.out]; exact hlt3)
                  obtain ⟨ba, oa, e1, hc1⟩ := (R2.out.below B.out (by rw [HG2.out]; exact Nat.le_refl _)).at_ (vV_at HX.out)
                  subst e1
                  obtain ⟨bb2, ob, e2, hc2⟩ := (R2.out.below B.out (by rw [HG2.out]; exact Nat.le_refl _)).at_ (vV_at hy)
                  cases e2
                  by_cases hji : j = i2
                  · subst hji
                    clear hy
                    go_wp2_with fail
                    go_quiet (fail)
                    go_wp2
                    go_roundw
                    case rel => exact ⟨j + 1, by omega, by go_num, below_drewN B.out _⟩
                    case measure => simp [intOf]; omega
                  · have hf := F4.out j i2 y x hji hy HX.out
                    have hk := bits_and_u64_nat y.1 x.1 y.2 x.2
                    have hne : ((j : Int) != (i2 : Int)) = true := by simp; omega
                    clear hy
                    obtain ⟨x, hx64⟩ := x
                    obtain ⟨y, hy64⟩ := y
                    dsimp only at *
                    generalize y &&& x = yx at *
                    go_wp2_with fail
                    go_quiet (fail)
                    go_wp2
                    go_roundw
                    case rel => exact ⟨j + 1, by omega, by go_num, below_drewN B.out _⟩
                    case measure => simp [intOf]; omega
                · go_wp2
                  go_roundw
                  case rel => exact ⟨i2 + 1, by omega, by go_num, B⟩
                  case measure => simp [intOf]; omega
        · go_wp2
          go_ret
          exact ⟨rfl, B2.out.trans (B.out.mono (by have := B2.out.size; rw [HG2.out] at this; exact this))⟩
end Go.Proofs.YtmleoiepmmbckaaDoor
