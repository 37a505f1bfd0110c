/- Event logs: Text of the reference. -/
import Derived.Test.YtgjgohnomophnaaDoorTM
namespace Go.Proofs.YtgjgohnomophnaaDoor
open Go.RowKit

theorem tpost_of {g : Nat} {w W : World} {r : Txt × Int × Nat} {T : Txt} {e : Int} {k : Nat} (h : r = (T, e, k)) (hb : Below g w W) : TPost g w r (.returned (.tuple #[.string ⟨T.toArray⟩, .agg #[.int .i64 e, .int .i64 (k : Int)]])) W := by
  subst h
  exact ⟨rfl, hb⟩
theorem field_fault (a b : Int) (w : World) : (Instr.field 27 (.agg #[.int .i64 a, .int .i64 b]) 0).run Tryd.prog w = .ok (.int .i64 a) w := by kernel_rfl
set_option maxHeartbeats 4000000 in
set_option maxRecDepth 100000 in
theorem rtext_log (A : Option Addr) (L : List Row) (c : Nat) (w : World) (hr : ReadsL w A L) (hf : FewP L) :
    Calls Tryd.prog 12 #[.slice A L.length c] w (TPost w.heap.size w (textV (rowsL L))) := by
  have hl := hf.1
  have hfd := field_fault
  have HX := Lib.hid hf.str
  have HT := Lib.hid (fun j => @FewP.txt L hf j)
  have HS := Lib.hid (txtK_step L)
  have CK : Hid (∀ W, Below w.heap.size w W → Calls Tryd.prog 16 #[.slice A L.length c] W (FPost W.heap.size W (chkL (rowsL L)))) := fun W h => rcheck_log A L c W (hr.below h (Nat.le_refl _)) (by omega) (fun j i _ _ => Nat.le_trans (hf.str j i) (by decide))
  have H80 : Hid (∀ j, j < L.length → (rA L j).zs.length ≤ 80) := fun j hj => (hf.2.1 j hj).1
  have hB0 : Below w.heap.size w (w.alloc (.cells #[.int .i64 0, .int .i64 0] 27)) := (Below.refl _ _).alloc (Nat.le_refl _) _
  have hF0 := FBx.new w 0 0
  have HB : Hid ((chkL (rowsL L)).1 ≠ 0 → textV (rowsL L) = ([], (chkL (rowsL L)).1, (chkL (rowsL L)).2)) := fun h => by unfold textV; rw [if_pos h]
  have HG : Hid (¬ (chkL (rowsL L)).1 ≠ 0 → textV (rowsL L) = (txtK (rowsL L) L.length, 0, 0)) := fun h => by unfold textV; rw [if_neg h, rowsL_len]
  generalize textV (rowsL L) = RES at *
  generalize chkL (rowsL L) = ck at *
  obtain ⟨E, K⟩ := ck
  dsimp only at HB HG
  clear hf
  by_cases hE : E ≠ 0
  · have EQ := Lib.hid (HB.out hE)
    have eE : (E == 0) = false := by simpa using hE
    clear HB HG HT HS HX H80 hr
    go_enter Tryd.func12, Tryd.ntmps12
    go_wp2_with fail
    refine (CK.out _ hB0).mono ?_
    rintro e w2 ⟨rfl, k2⟩
    unfold flt
    have B2 := hB0.trans (k2.mono hB0.size)
    go_wp2_with fail
    refine (CK.out _ B2).mono ?_
    rintro e w3 ⟨rfl, k3⟩
    unfold flt
    have kk : KeepOn (fun _ => True) (w.alloc (.cells #[.int .i64 0, .int .i64 0] 27)) w3 := (KeepOn.of_below _ k2).trans (KeepOn.of_below _ k3)
    have F2 := hF0.keep kk trivial
    have a0 := F2.c0
    have a1 := F2.fr
    have a2 := (F2.set0 E).c1
    have a3 := (F2.set0 E).fr 1
    have r0 := ((F2.set0 E).set1 (K : Int)).c0
    have r1 := ((F2.set0 E).set1 (K : Int)).c1
    have B3 := Lib.hid (B2.trans (k3.mono B2.size))
    clear k2 k3 kk F2 B2 CK
    go_wp2
    exact bodyPost_ret (v := .tuple #[.string ⟨[].toArray⟩, .agg #[.int .i64 E, .int .i64 (K : Int)]]) (by simp [results, Tryd.results12, go_sem, r0, r1]) rfl (tpost_of EQ.out (below2 B3.out))
  · have EQ := Lib.hid (HG.out hE)
    obtain rfl : E = 0 := by simpa using hE
    clear HB HG hE
    go_enter Tryd.func12, Tryd.ntmps12
    go_wp2_with fail
    refine (CK.out _ hB0).mono ?_
    rintro e w2 ⟨rfl, k2⟩
    unfold flt
    have B2 := hB0.trans (k2.mono hB0.size)
    have F2 := hF0.keep (KeepOn.of_below (fun _ => True) k2) trivial
    have RA := Lib.hid (hr.below B2 (Nat.le_refl _))
    have a0 := F2.c0
    have a1 := F2.fr
    have a2 := (F2.set0 0).c1
    have a3 := (F2.set0 0).fr 1
    have r0 := ((F2.set0 0).set1 0).c0
    have r1 := ((F2.set0 0).set1 0).c1
    replace B2 := Lib.hid B2
    clear k2 hF0 hB0 CK hr F2
    have T0 : Hid (Value.string ⟨#[]⟩ = .string ⟨(txtK (rowsL L) 0).toArray⟩) := rfl
    generalize txtK (rowsL L) = tx at *
    go_wp2
    go_loop [4, 5] (fun p q => ∃ j : Nat, j ≤ L.length ∧ p = .string ⟨(tx j).toArray⟩ ∧ q = .int .i64 j) (fun _ q => L.length - (intOf q).toNat)
    case atStart => exact ⟨0, Nat.zero_le _, T0.out, rfl⟩
    case round =>
      obtain ⟨j, hj, rfl, rfl⟩ := hrel
      have hTj := HT.out j hj
      by_cases hlt : j < L.length
      · obtain ⟨bo, oo, rfl, hx1⟩ := RA.out.1.at j hlt
        have OK := RA.out.2 _ (rA_mem hlt)
        have h80 := H80.out j hlt
        have hS := HS.out j
        have hxs := HX.out j
        generalize rA L j = r at *
        obtain ⟨xA, xs, xc⟩ := r
        dsimp only at *
        have R2 := Lib.hid OK.1
        have hWL := Lib.hid (wK_len hxs)
        replace hS := Lib.hid hS
        replace hxs := Lib.hid hxs
        clear OK
        generalize tx j = X at *
        by_cases hz : xs.length = 0
        · have hrow : Hid (tx (j + 1) = (X ++ [45]) ++ [10]) := by
            show _ = _
            rw [hS.out]; unfold rowT; rw [if_pos hz]
          have ez : ((xs.length : Int) == 0) = true := by simpa using hz
          have HC1 := Lib.hid (cat_bytes X [45])
          have HC2 := Lib.hid (cat_bytes (X ++ [45]) [10])
          obtain rfl : xs = [] := List.eq_nil_of_length_eq_zero hz
          clear hz ez
          go_wp2
          all_goals first
            | (exfalso; simp at *; omega)
            | skip
          go_loop [4, 6] (fun p q => p = .string (⟨X.toArray⟩ ++ ⟨#[45]⟩) ∧ q = .int .i64 0) (fun _ _ => 0)
          case atStart => exact ⟨rfl, rfl⟩
          case round =>
            obtain ⟨rfl, rfl⟩ := hrel
            go_wp2
            all_goals first
              | (exfalso; simp at *; omega)
              | skip
            go_round
            case rel => exact ⟨j + 1, by omega, by rw [hrow.out, ← HC2.out, ← HC1.out], by go_num⟩
            case measure => simp [intOf]; omega
        · have ez : ((xs.length : Int) == 0) = false := by simpa using hz
          have hrow : Hid (tx (j + 1) = (X ++ wK xs xs.length) ++ [10]) := by
            show _ = _
            rw [hS.out]; unfold rowT; rw [if_neg hz]
          have HW0 : Hid (wK xs 0 = []) := rfl
          have HW1 : Hid (wK xs 1 = atS xs 0) := wK_zero xs
          have HWS : Hid (∀ k, k ≠ 0 → wK xs (k + 1) = (wK xs k ++ [32]) ++ atS xs k) := fun k => wK_succ xs
          generalize wK xs = wx at *
          go_wp2
          go_loop [4, 6] (fun p q => ∃ k : Nat, k ≤ xs.length ∧ p = .string ⟨(X ++ wx k).toArray⟩ ∧ q = .int .i64 k) (fun _ q => xs.length - (intOf q).toNat)
          case atStart => exact ⟨0, Nat.zero_le _, by rw [HW0.out, List.append_nil], rfl⟩
          case round =>
            obtain ⟨k, hk, rfl, rfl⟩ := hrel
            have hwl := hWL.out k
            by_cases hkl : k < xs.length
            · obtain ⟨b1, o1, rfl, h1⟩ := at_of_reads R2.out k hkl
              have hyl := hxs.out k
              by_cases hk0 : k = 0
              · subst hk0
                have HN : Hid (wx 1 = atS xs 0) := HW1.out
                have h1 : w2.cell? ⟨b1, o1, none⟩ = some (.string ⟨(atS xs 0).toArray⟩) := h1
                rw [HW0.out, List.append_nil]
                generalize atS xs 0 = y at *
                have HC := Lib.hid (cat_bytes X y)
                go_wp2
                all_goals first
                  | (exfalso; simp at *; omega)
                  | skip
                go_round
                case rel => exact ⟨1, by omega, by rw [HN.out, ← HC.out], by go_num⟩
                case measure => simp [intOf]; omega
              · have HN := Lib.hid (HWS.out k hk0)
                have p0 : (0 : Int) < k := by omega
                generalize atS xs k = y at *
                generalize wx k = Y at *
                have HC1 := Lib.hid (cat_bytes (X ++ Y) [32])
                have HC2 := Lib.hid (cat_bytes ((X ++ Y) ++ [32]) y)
                clear hk0
                go_wp2
                all_goals first
                  | (exfalso; simp at *; omega)
                  | skip
                go_round
                case rel => exact ⟨k + 1, by omega, by rw [HN.out, ← List.append_assoc, ← List.append_assoc, ← HC2.out, ← HC1.out], by go_num⟩
                case measure => simp [intOf]; omega
            · obtain rfl : k = xs.length := by omega
              have HC := Lib.hid (cat_bytes (X ++ wx xs.length) [10])
              generalize wx xs.length = Y at *
              go_wp2
              all_goals first
                | (exfalso; simp at *; omega)
                | skip
              go_round
              case rel => exact ⟨j + 1, by omega, by rw [hrow.out, ← HC.out], by go_num⟩
              case measure => simp [intOf]; omega
      · obtain rfl : j = L.length := by omega
        go_wp2
        exact bodyPost_ret (v := .tuple #[.string ⟨(tx L.length).toArray⟩, .agg #[.int .i64 0, .int .i64 0]]) (by simp [results, Tryd.results12, go_sem, r0, r1]) rfl (tpost_of (k := 0) EQ.out (below2 B2.out))
end Go.Proofs.YtgjgohnomophnaaDoor
