/- Event logs: Follows and Relation of both. -/
import Derived.Test.YtgjgohnomophnaaDoorES
namespace Go.Proofs.YtgjgohnomophnaaDoor
open Go.RowKit

/-- how often b follows a among the first k of a trace -/
def folR (r : List Txt) (a b : Txt) : Nat → Nat
  | 0 => 0
  | 1 => 0
  | m + 2 => folR r a b (m + 1) + (if atS r m = a ∧ atS r (m + 1) = b then 1 else 0)
def folL (R : List (List Txt)) (a b : Txt) : Nat → Nat
  | 0 => 0
  | j + 1 => folL R a b j + folR (R[j]?.getD []) a b (R[j]?.getD []).length
def folV (R : List (List Txt)) (a b : Txt) : Nat := folL R a b R.length
theorem folR_le (r : List Txt) (a b : Txt) : ∀ k, folR r a b k ≤ k
  | 0 => Nat.le_refl _
  | 1 => Nat.zero_le _
  | m + 2 => by
    have h := folR_le r a b (m + 1)
    rw [folR]
    split <;> omega
theorem folR_yes {r : List Txt} {a b : Txt} {m : Nat} (h1 : atS r m = a) (h2 : atS r (m + 1) = b) : folR r a b (m + 2) = folR r a b (m + 1) + 1 := by rw [folR, if_pos ⟨h1, h2⟩]
theorem folR_no1 {r : List Txt} {a b : Txt} {m : Nat} (h1 : atS r m ≠ a) : folR r a b (m + 2) = folR r a b (m + 1) := by rw [folR, if_neg fun h => h1 h.1, Nat.add_zero]
theorem folR_no2 {r : List Txt} {a b : Txt} {m : Nat} (h1 : atS r (m + 1) ≠ b) : folR r a b (m + 2) = folR r a b (m + 1) := by rw [folR, if_neg fun h => h1 h.2, Nat.add_zero]
theorem folR_exit {r : List Txt} {a b : Txt} {m : Nat} (h : m + 1 ≤ r.length ∨ m = 0) (h2 : ¬ m + 1 < r.length) : folR r a b (m + 1) = folR r a b r.length := by
  rcases h with h | rfl
  · rw [show r.length = m + 1 by omega]
  · have : r.length = 0 ∨ r.length = 1 := by omega
    rcases this with e | e <;> rw [e] <;> rfl
theorem folL_le (R : List (List Txt)) (a b : Txt) (B : Nat) (hB : ∀ j : Nat, (R[j]?.getD ([] : List Txt)).length ≤ B) : ∀ k, folL R a b k ≤ k * B
  | 0 => Nat.zero_le _
  | k + 1 => by
    have h := folL_le R a b B hB k
    have h2 := folR_le (R[k]?.getD []) a b (R[k]?.getD []).length
    have h3 := hB k
    rw [folL, Nat.add_mul]
    omega
theorem ret_i {a b : Int} (h : a = b) : Ending.returned (.int .i64 a) = .returned (.int .i64 b) := by rw [h]
def relV (x y : Nat) : Int := if 0 < x then (if 0 < y then 3 else 1) else (if 0 < y then 2 else 0)

set_option maxHeartbeats 4000000 in
set_option maxRecDepth 100000 in
theorem follows_any (A : Option Addr) (L : List Row) (c : Nat) (a b : Txt) (w : World) (hr : ReadsL w A L) (hl : L.length ≤ 1000) :
    Calls Tryd.prog 30 #[.slice A L.length c, .string ⟨a.toArray⟩, .string ⟨b.toArray⟩] w fun e w' => e = .returned (.int .i64 (folV (rowsL L) a b : Nat)) ∧ w = w' := by
  have RA := Lib.hid hr
  have HL := Lib.hid (folL_le (rowsL L) a b 100000 fun j => by
    rw [rows_at]
    by_cases h : j < L.length
    · exact (hr.2 _ (rA_mem h)).2
    · unfold rA; rw [List.getElem?_eq_none (by omega)]; simp)
  have HS : Hid (∀ j, folL (rowsL L) a b (j + 1) = folL (rowsL L) a b j + folR (rA L j).zs a b (rA L j).zs.length) := fun j => by
    show _ = _
    rw [folL, rows_at]
  have HV : Hid (folL (rowsL L) a b L.length = folV (rowsL L) a b) := by show _ = _; unfold folV; rw [rowsL_len]
  generalize folV (rowsL L) a b = V at *
  generalize folL (rowsL L) a b = fl at *
  clear hr
  go_enter Tryd.func30, Tryd.ntmps30
  go_wp2
  go_loop [7, 13] (fun p q => ∃ j : Nat, j ≤ L.length ∧ p = .int .i64 (fl j : Nat) ∧ q = .int .i64 j) (fun _ q => L.length - (intOf q).toNat)
  case atStart =>
    have h0 : fl 0 = 0 := by have := HL.out 0; omega
    exact ⟨0, Nat.zero_le _, by rw [h0]; rfl, rfl⟩
  case round =>
    obtain ⟨j, hj, rfl, rfl⟩ := hrel
    by_cases hlt : j < L.length
    · obtain ⟨bo, oo, rfl, hx⟩ := RA.out.1.at j hlt
      have OK := RA.out.2 _ (rA_mem hlt)
      have hS := HS.out j
      have hB1 := HL.out j
      have hB : fl j ≤ 100000000 := Nat.le_trans hB1 (by have := Nat.mul_le_mul_right 100000 (show j ≤ 1000 by omega); omega)
      clear hB1
      generalize rA L j = r at *
      obtain ⟨xA, xs, xc⟩ := r
      dsimp only at *
      have R2 := Lib.hid OK.1
      have hxl : xs.length ≤ 100000 := OK.2
      replace hS := Lib.hid hS
      have HR := Lib.hid (folR_le xs a b)
      have HY := Lib.hid (fun m => @folR_yes xs a b m)
      have HN1 := Lib.hid (fun m => @folR_no1 xs a b m)
      have HN2 := Lib.hid (fun m => @folR_no2 xs a b m)
      have HX := Lib.hid (fun m => @folR_exit xs a b m)
      have HF0 : Hid (folR xs a b 1 = 0) := rfl
      clear OK
      generalize folR xs a b = fr at *
      go_wp2
      go_loop [7, 10] (fun p q => ∃ m : Nat, (m + 1 ≤ xs.length ∨ m = 0) ∧ p = .int .i64 ((fl j + fr (m + 1) : Nat) : Int) ∧ q = .int .i64 ((m : Int) + 1)) (fun _ q => xs.length + 1 - (intOf q).toNat)
      case atStart => exact ⟨0, .inr rfl, by rw [HF0.out]; rfl, rfl⟩
      case round =>
        obtain ⟨m, hm, rfl, rfl⟩ := hrel
        have hfr := HR.out (m + 1)
        have hml : m ≤ 100000 := by omega
        have hb2 : fl j + fr (m + 1) ≤ 200000001 := by omega
        by_cases hlt2 : m + 1 < xs.length
        · obtain ⟨b1, o1, rfl, h1⟩ := at_of_reads R2.out m (by omega)
          obtain ⟨b2, o2, e2, h2⟩ := at_of_reads R2.out (m + 1) hlt2
          cases e2
          have hlt3 : m < xs.length := by omega
          have q2 : w.cell? ⟨b1, o1 + (m + 1), none⟩ = some (.string ⟨(atS xs (m + 1)).toArray⟩) := h2
          have G1 := Lib.hid (HY.out m)
          have G2 := Lib.hid (HN1.out m)
          have G3 := Lib.hid (HN2.out m)
          generalize atS xs m = x at *
          generalize atS xs (m + 1) = y at *
          clear h2
          by_cases z1 : x = a
          · have z1e : (x == a) = true := by simpa using z1
            by_cases z2 : y = b
            · have z2e : (y == b) = true := by simpa using z2
              have G := Lib.hid (G1.out z1 z2)
              clear z1 z2 G1 G2 G3
              go_wp2
              go_round
              case rel => exact ⟨m + 1, by omega, by rw [G.out]; exact congrArg (Value.int .i64) (by omega), by go_num⟩
              case measure => simp [intOf]; omega
            · have z2e : (y == b) = false := by simpa using z2
              have G := Lib.hid (G3.out z2)
              clear z1 z2 G1 G2 G3
              go_wp2
              go_round
              case rel => exact ⟨m + 1, by omega, by rw [G.out], by go_num⟩
              case measure => simp [intOf]; omega
          · have z1e : (x == a) = false := by simpa using z1
            have G := Lib.hid (G2.out z1)
            clear z1 G1 G2 G3
            go_wp2
            go_round
            case rel => exact ⟨m + 1, by omega, by rw [G.out], by go_num⟩
            case measure => simp [intOf]; omega
        · have G := Lib.hid (HX.out m hm hlt2)
          go_wp2
          go_round
          case rel => exact ⟨j + 1, by omega, by rw [hS.out, ← G.out], by go_num⟩
          case measure => simp [intOf]; omega
    · obtain rfl : j = L.length := by omega
      go_wp2
      go_ret
      exact ⟨ret_i (by rw [HV.out]), rfl⟩

set_option maxHeartbeats 4000000 in
set_option maxRecDepth 100000 in
theorem rfollows_any (A : Option Addr) (L : List Row) (c : Nat) (a b : Txt) (w : World) (hr : ReadsL w A L) (hl : L.length ≤ 1000) :
    Calls Tryd.prog 31 #[.slice A L.length c, .string ⟨a.toArray⟩, .string ⟨b.toArray⟩] w fun e w' => e = .returned (.int .i64 (folV (rowsL L) a b : Nat)) ∧ w = w' := by
  have RA := Lib.hid hr
  have HL := Lib.hid (folL_le (rowsL L) a b 100000 fun j => by
    rw [rows_at]
    by_cases h : j < L.length
    · exact (hr.2 _ (rA_mem h)).2
    · unfold rA; rw [List.getElem?_eq_none (by omega)]; simp)
  have HS : Hid (∀ j, folL (rowsL L) a b (j + 1) = folL (rowsL L) a b j + folR (rA L j).zs a b (rA L j).zs.length) := fun j => by
    show _ = _
    rw [folL, rows_at]
  have HV : Hid (folL (rowsL L) a b L.length = folV (rowsL L) a b) := by show _ = _; unfold folV; rw [rowsL_len]
  generalize folV (rowsL L) a b = V at *
  generalize folL (rowsL L) a b = fl at *
  clear hr
  go_enter Tryd.func31, Tryd.ntmps31
  go_wp2
  go_loop [7, 8] (fun p q => ∃ j : Nat, j ≤ L.length ∧ p = .int .i64 (fl j : Nat) ∧ q = .int .i64 j) (fun _ q => L.length - (intOf q).toNat)
  case atStart =>
    have h0 : fl 0 = 0 := by have := HL.out 0; omega
    exact ⟨0, Nat.zero_le _, by rw [h0]; rfl, rfl⟩
  case round =>
    obtain ⟨j, hj, rfl, rfl⟩ := hrel
    by_cases hlt : j < L.length
    · obtain ⟨bo, oo, rfl, hx⟩ := RA.out.1.at j hlt
      have OK := RA.out.2 _ (rA_mem hlt)
      have hS := HS.out j
      have hB1 := HL.out j
      have hB : fl j ≤ 100000000 := Nat.le_trans hB1 (by have := Nat.mul_le_mul_right 100000 (show j ≤ 1000 by omega); omega)
      clear hB1
      generalize rA L j = r at *
      obtain ⟨xA, xs, xc⟩ := r
      dsimp only at *
      have R2 := Lib.hid OK.1
      have hxl : xs.length ≤ 100000 := OK.2
      replace hS := Lib.hid hS
      have HR := Lib.hid (folR_le xs a b)
      have HY := Lib.hid (fun m => @folR_yes xs a b m)
      have HN1 := Lib.hid (fun m => @folR_no1 xs a b m)
      have HN2 := Lib.hid (fun m => @folR_no2 xs a b m)
      have HX := Lib.hid (fun m => @folR_exit xs a b m)
      have HF0 : Hid (folR xs a b 1 = 0) := rfl
      clear OK
      generalize folR xs a b = fr at *
      go_wp2
      go_loop [7, 9] (fun p q => ∃ m : Nat, (m + 1 ≤ xs.length ∨ m = 0) ∧ p = .int .i64 ((fl j + fr (m + 1) : Nat) : Int) ∧ q = .int .i64 ((m : Int) + 1)) (fun _ q => xs.length + 1 - (intOf q).toNat)
      case atStart => exact ⟨0, .inr rfl, by rw [HF0.out]; rfl, rfl⟩
      case round =>
        obtain ⟨m, hm, rfl, rfl⟩ := hrel
        have hfr := HR.out (m + 1)
        have hml : m ≤ 100000 := by omega
        have hb2 : fl j + fr (m + 1) ≤ 200000001 := by omega
        by_cases hlt2 : m + 1 < xs.length
        · obtain ⟨b1, o1, rfl, h1⟩ := at_of_reads R2.out m (by omega)
          obtain ⟨b2, o2, e2, h2⟩ := at_of_reads R2.out (m + 1) hlt2
          cases e2
          have hlt3 : m < xs.length := by omega
          have q2 : w.cell? ⟨b1, o1 + (m + 1), none⟩ = some (.string ⟨(atS xs (m + 1)).toArray⟩) := h2
          have G1 := Lib.hid (HY.out m)
          have G2 := Lib.hid (HN1.out m)
          have G3 := Lib.hid (HN2.out m)
          generalize atS xs m = x at *
          generalize atS xs (m + 1) = y at *
          clear h2
          by_cases z1 : x = a
          · have z1e : (x == a) = true := by simpa using z1
            by_cases z2 : y = b
            · have z2e : (y == b) = true := by simpa using z2
              have G := Lib.hid (G1.out z1 z2)
              clear z1 z2 G1 G2 G3
              go_wp2
              go_round
              case rel => exact ⟨m + 1, by omega, by rw [G.out]; exact congrArg (Value.int .i64) (by omega), by go_num⟩
              case measure => simp [intOf]; omega
            · have z2e : (y == b) = false := by simpa using z2
              have G := Lib.hid (G3.out z2)
              clear z1 z2 G1 G2 G3
              go_wp2
              go_round
              case rel => exact ⟨m + 1, by omega, by rw [G.out], by go_num⟩
              case measure => simp [intOf]; omega
          · have z1e : (x == a) = false := by simpa using z1
            have G := Lib.hid (G2.out z1)
            clear z1 G1 G2 G3
            go_wp2
            go_round
            case rel => exact ⟨m + 1, by omega, by rw [G.out], by go_num⟩
            case measure => simp [intOf]; omega
        · have G := Lib.hid (HX.out m hm hlt2)
          go_wp2
          go_round
          case rel => exact ⟨j + 1, by omega, by rw [hS.out, ← G.out], by go_num⟩
          case measure => simp [intOf]; omega
    · obtain rfl : j = L.length := by omega
      go_wp2
      go_ret
      exact ⟨ret_i (by rw [HV.out]), rfl⟩

set_option maxHeartbeats 1000000 in
theorem relation_any (A : Option Addr) (L : List Row) (c : Nat) (a b : Txt) (w : World) (hr : ReadsL w A L) (hl : L.length ≤ 1000) :
    Calls Tryd.prog 32 #[.slice A L.length c, .string ⟨a.toArray⟩, .string ⟨b.toArray⟩] w fun e w' => e = .returned (.int .i64 (relV (folV (rowsL L) a b) (folV (rowsL L) b a))) ∧ w = w' := by
  have C1 := Lib.hid (follows_any A L c a b w hr hl)
  have C2 := Lib.hid (follows_any A L c b a w hr hl)
  clear hr
  generalize folV (rowsL L) a b = x at *
  generalize folV (rowsL L) b a = y at *
  by_cases hx : 0 < x
  · have ex : ((0 : Int) < (x : Int)) = True := by simp; omega
    by_cases hy : 0 < y
    · have ey : ((0 : Int) < (y : Int)) = True := by simp; omega
      have E : Hid (3 = relV x y) := by show _ = _; unfold relV; rw [if_pos hx, if_pos hy]
      go_enter Tryd.func32, Tryd.ntmps32
      go_wp2_with fail
      refine C1.out.mono ?_
      rintro e w1 ⟨rfl, rfl⟩
      go_wp2_with fail
      refine C2.out.mono ?_
      rintro e w1 ⟨rfl, rfl⟩
      go_wp2
      go_ret
      exact ⟨ret_i E.out, rfl⟩
    · have ey : ((0 : Int) < (y : Int)) = False := by simp; omega
      have E : Hid (1 = relV x y) := by show _ = _; unfold relV; rw [if_pos hx, if_neg hy]
      go_enter Tryd.func32, Tryd.ntmps32
      go_wp2_with fail
      refine C1.out.mono ?_
      rintro e w1 ⟨rfl, rfl⟩
      go_wp2_with fail
      refine C2.out.mono ?_
      rintro e w1 ⟨rfl, rfl⟩
      go_wp2
      go_ret
      exact ⟨ret_i E.out, rfl⟩
  · have ex : ((0 : Int) < (x : Int)) = False := by simp; omega
    by_cases hy : 0 < y
    · have ey : ((0 : Int) < (y : Int)) = True := by simp; omega
      have E : Hid (2 = relV x y) := by show _ = _; unfold relV; rw [if_neg hx, if_pos hy]
      go_enter Tryd.func32, Tryd.ntmps32
      go_wp2_with fail
      refine C1.out.mono ?_
      rintro e w1 ⟨rfl, rfl⟩
      go_wp2_with fail
      refine C2.out.mono ?_
      rintro e w1 ⟨rfl, rfl⟩
      go_wp2
      go_ret
      exact ⟨ret_i E.out, rfl⟩
    · have ey : ((0 : Int) < (y : Int)) = False := by simp; omega
      have E : Hid (0 = relV x y) := by show _ = _; unfold relV; rw [if_neg hx, if_neg hy]
      go_enter Tryd.func32, Tryd.ntmps32
      go_wp2_with fail
      refine C1.out.mono ?_
      rintro e w1 ⟨rfl, rfl⟩
      go_wp2_with fail
      refine C2.out.mono ?_
      rintro e w1 ⟨rfl, rfl⟩
      go_wp2
      go_ret
      exact ⟨ret_i E.out, rfl⟩

set_option maxHeartbeats 1000000 in
theorem rrelation_any (A : Option Addr) (L : List Row) (c : Nat) (a b : Txt) (w : World) (hr : ReadsL w A L) (hl : L.length ≤ 1000) :
    Calls Tryd.prog 33 #[.slice A L.length c, .string ⟨a.toArray⟩, .string ⟨b.toArray⟩] w fun e w' => e = .returned (.int .i64 (relV (folV (rowsL L) a b) (folV (rowsL L) b a))) ∧ w = w' := by
  have C1 := Lib.hid (rfollows_any A L c a b w hr hl)
  have C2 := Lib.hid (rfollows_any A L c b a w hr hl)
  clear hr
  generalize folV (rowsL L) a b = x at *
  generalize folV (rowsL L) b a = y at *
  by_cases hx : 0 < x
  · have ex : ((0 : Int) < (x : Int)) = True := by simp; omega
    by_cases hy : 0 < y
    · have ey : ((0 : Int) < (y : Int)) = True := by simp; omega
      have E : Hid (3 = relV x y) := by show _ = _; unfold relV; rw [if_pos hx, if_pos hy]
      go_enter Tryd.func33, Tryd.ntmps33
      go_wp2_with fail
      refine C1.out.mono ?_
      rintro e w1 ⟨rfl, rfl⟩
      go_wp2_with fail
      refine C2.out.mono ?_
      rintro e w1 ⟨rfl, rfl⟩
      go_wp2
      go_ret
      exact ⟨ret_i E.out, rfl⟩
    · have ey : ((0 : Int) < (y : Int)) = False := by simp; omega
      have E : Hid (1 = relV x y) := by show _ = _; unfold relV; rw [if_pos hx, if_neg hy]
      go_enter Tryd.func33, Tryd.ntmps33
      go_wp2_with fail
      refine C1.out.mono ?_
      rintro e w1 ⟨rfl, rfl⟩
      go_wp2_with fail
      refine C2.out.mono ?_
      rintro e w1 ⟨rfl, rfl⟩
      go_wp2
      go_ret
      exact ⟨ret_i E.out, rfl⟩
  · have ex : ((0 : Int) < (x : Int)) = False := by simp; omega
    by_cases hy : 0 < y
    · have ey : ((0 : Int) < (y : Int)) = True := by simp; omega
      have E : Hid (2 = relV x y) := by show _ = _; unfold relV; rw [if_neg hx, if_pos hy]
      go_enter Tryd.func33, Tryd.ntmps33
      go_wp2_with fail
      refine C1.out.mono ?_
      rintro e w1 ⟨rfl, rfl⟩
      go_wp2_with fail
      refine C2.out.mono ?_
      rintro e w1 ⟨rfl, rfl⟩
      go_wp2
      go_ret
      exact ⟨ret_i E.out, rfl⟩
    · have ey : ((0 : Int) < (y : Int)) = False := by simp; omega
      have E : Hid (0 = relV x y) := by show _ = _; unfold relV; rw [if_neg hx, if_neg hy]
      go_enter Tryd.func33, Tryd.ntmps33
      go_wp2_with fail
      refine C1.out.mono ?_
      rintro e w1 ⟨rfl, rfl⟩
      go_wp2_with fail
      refine C2.out.mono ?_
      rintro e w1 ⟨rfl, rfl⟩
      go_wp2
      go_ret
      exact ⟨ret_i E.out, rfl⟩
end Go.Proofs.YtgjgohnomophnaaDoor
