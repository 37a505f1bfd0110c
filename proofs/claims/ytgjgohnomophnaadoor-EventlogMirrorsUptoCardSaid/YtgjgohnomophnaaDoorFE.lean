/- Event logs: the size that a law asks of a log. -/
import Derived.Test.YtgjgohnomophnaaDoorEX
namespace Go.Proofs.YtgjgohnomophnaaDoor
open Go.RowKit

def totL (R : List (List Txt)) : Nat → Nat
  | 0 => 0
  | k + 1 => totL R k + (R[k]?.getD []).length
def okRow (L : List Row) (j : Nat) : Prop := (rA L j).zs.length ≤ 80 ∧ ∀ i, i < (rA L j).zs.length → (atS (rA L j).zs i).length ≤ 40
def FewP (L : List Row) : Prop := L.length ≤ 80 ∧ (∀ j, j < L.length → okRow L j) ∧ totL (rowsL L) L.length ≤ 400
def FewPost (P : Prop) (e : Ending) : Prop := ∃ b, e = .returned (.bool b) ∧ (b = true → P)
theorem few_no (P : Prop) : FewPost P (.returned (.bool false)) := ⟨false, rfl, fun h => by cases h⟩
theorem few_yes {P : Prop} (h : P) : FewPost P (.returned (.bool true)) := ⟨true, rfl, fun _ => h⟩
set_option maxHeartbeats 4000000 in
set_option maxRecDepth 100000 in
theorem few_any (A : Option Addr) (L : List Row) (c : Nat) (w : World) (hc : CellsL w A L) (hl : L.length ≤ 9223372036854775807) (hr : ∀ r ∈ L, ReadsS w r.A r.zs ∧ r.zs.length ≤ 9223372036854775807) :
    Calls Tryd.prog 9 #[.slice A L.length c] w fun e w' => FewPost (FewP L) e ∧ w = w' := by
  have RA := Lib.hid hc
  have RR := Lib.hid (fun j (hj : j < L.length) => hr _ (rA_mem hj))
  have HS : Hid (∀ j, totL (rowsL L) (j + 1) = totL (rowsL L) j + (rA L j).zs.length) := fun j => by
    show _ = _
    rw [totL, rows_at]
  have HF : Hid (L.length ≤ 80 → (∀ j, j < L.length → okRow L j) → totL (rowsL L) L.length ≤ 400 → FewP L) := fun h1 h2 h3 => ⟨h1, h2, h3⟩
  have HK : Hid (∀ j, (rA L j).zs.length ≤ 80 → (∀ i, i < (rA L j).zs.length → (atS (rA L j).zs i).length ≤ 40) → okRow L j) := fun j h1 h2 => ⟨h1, h2⟩
  have H0 : totL (rowsL L) 0 = 0 := rfl
  generalize FewP L = FP at *
  generalize totL (rowsL L) = tt at *
  generalize okRow L = ok at *
  clear hc hr
  go_enter Tryd.func9, Tryd.ntmps9
  go_wp2
  go_loop [3, 4] (fun p q => ∃ j : Nat, j ≤ L.length ∧ j ≤ 81 ∧ p = .int .i64 (tt j : Nat) ∧ tt j ≤ j * 80 ∧ q = .int .i64 j ∧ Hid (∀ i, i < j → ok i)) (fun _ q => 81 - (intOf q).toNat)
  case atStart => exact ⟨0, Nat.zero_le _, by omega, by rw [H0]; rfl, by omega, rfl, fun i hi => absurd hi (by omega)⟩
  case round =>
    obtain ⟨j, hj, hj2, rfl, htj, rfl, HOK⟩ := hrel
    by_cases hlt : j < L.length
    · by_cases h81 : j < 81
      · obtain ⟨bo, oo, rfl, hx⟩ := RA.out.at j hlt
        have RJ := RR.out j hlt
        have hS := HS.out j
        have HKj := HK.out j
        generalize rA L j = r at *
        obtain ⟨xA, xs, xc⟩ := r
        dsimp only at *
        have R2 := Lib.hid RJ.1
        have hxl := RJ.2
        clear RJ
        replace hS := Lib.hid hS
        replace HKj := Lib.hid HKj
        by_cases hlen : xs.length ≤ 80
        · go_wp2
          go_loop [5] (fun q => ∃ k : Nat, k ≤ xs.length ∧ q = .int .i64 k ∧ Hid (∀ i, i < k → (atS xs i).length ≤ 40)) (fun q => xs.length - (intOf q).toNat)
          case atStart => exact ⟨0, Nat.zero_le _, rfl, fun i hi => absurd hi (by omega)⟩
          case round =>
            obtain ⟨k, hk, rfl, HM⟩ := hrel
            by_cases hkl : k < xs.length
            · have hk81 : k < 81 := by omega
              obtain ⟨b1, o1, rfl, h1⟩ := at_of_reads R2.out k hkl
              by_cases h40 : (atS xs k).length ≤ 40
              · have HM1 : Hid (∀ i, i < k + 1 → (atS xs i).length ≤ 40) := fun i hi => by
                  by_cases e : i = k
                  · rw [e]; exact h40
                  · exact HM.out i (by omega)
                generalize atS xs k = x at *
                have e4 : ((40 : Int) < (x.length : Int)) = False := by simp; omega
                go_wp2
                go_round
                case rel => exact ⟨k + 1, by omega, by go_num, HM1.out⟩
                case measure => simp [intOf]; omega
              · generalize atS xs k = x at *
                have e4 : ((40 : Int) < (x.length : Int)) = True := by simp; omega
                go_wp2
                go_ret
                exact ⟨few_no _, rfl⟩
            · obtain rfl : k = xs.length := by omega
              have e8 : ((80 : Int) < (xs.length : Int)) = False := by simp; omega
              have hok := Lib.hid (HKj.out hlen HM.out)
              have HOK1 : Hid (∀ i, i < j + 1 → ok i) := fun i hi => by
                by_cases e : i = j
                · rw [e]; exact hok.out
                · exact HOK.out i (by omega)
              have ht2 : tt j + xs.length ≤ 100000 := by omega
              go_wp2
              go_round
              case rel => exact ⟨j + 1, by omega, by omega, by rw [hS.out]; go_num, by rw [hS.out]; omega, by go_num, HOK1.out⟩
              case measure => simp [intOf]; omega
        · have e8 : ((80 : Int) < (xs.length : Int)) = True := by simp; omega
          go_wp2
          go_loop [5] (fun q => ∃ k : Nat, k ≤ 81 ∧ q = .int .i64 k) (fun q => 81 - (intOf q).toNat)
          case atStart => exact ⟨0, by omega, rfl⟩
          case round =>
            obtain ⟨k, hk, rfl⟩ := hrel
            by_cases hk81 : k < 81
            · have hkl : k < xs.length := by omega
              obtain ⟨b1, o1, rfl, h1⟩ := at_of_reads R2.out k hkl
              generalize atS xs k = x at *
              by_cases h40 : x.length ≤ 40
              · have e4 : ((40 : Int) < (x.length : Int)) = False := by simp; omega
                go_wp2
                go_round
                case rel => exact ⟨k + 1, by omega, by go_num⟩
                case measure => simp [intOf]; omega
              · have e4 : ((40 : Int) < (x.length : Int)) = True := by simp; omega
                go_wp2
                go_ret
                exact ⟨few_no _, rfl⟩
            · obtain rfl : k = 81 := by omega
              go_wp2
              all_goals
                go_ret
                exact ⟨few_no _, rfl⟩
      · obtain rfl : j = 81 := by omega
        have e8 : ((L.length : Int) ≤ 80) = False := by simp; omega
        go_wp2
        go_ret
        exact ⟨few_no _, rfl⟩
    · obtain rfl : j = L.length := by omega
      by_cases h8 : L.length ≤ 80
      · have e8 : ((L.length : Int) ≤ 80) = True := by simp; omega
        by_cases h4 : tt L.length ≤ 400
        · have e4 : (((tt L.length : Nat) : Int) ≤ 400) = True := by simp; omega
          have G := Lib.hid (HF.out h8 HOK.out h4)
          go_wp2
          go_ret
          exact ⟨few_yes G.out, rfl⟩
        · have e4 : (((tt L.length : Nat) : Int) ≤ 400) = False := by simp; omega
          go_wp2
          go_ret
          exact ⟨few_no _, rfl⟩
      · have e8 : ((L.length : Int) ≤ 80) = False := by simp; omega
        go_wp2
        go_ret
        exact ⟨few_no _, rfl⟩
end Go.Proofs.YtgjgohnomophnaaDoor
