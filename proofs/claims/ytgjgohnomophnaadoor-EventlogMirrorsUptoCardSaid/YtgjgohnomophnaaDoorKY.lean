/- Event logs: the key of a trace. -/
import Derived.Test.YtgjgohnomophnaaDoorJN
import Derived.Test.YtgjgohnomophnaaDoorShelfC
namespace Go.Proofs.YtgjgohnomophnaaDoor
open Go.RowKit

def keyT (xs : List Txt) : Nat → Txt
  | 0 => []
  | k + 1 => ((keyT xs k ++ Lib.decDigits (atS xs k).length) ++ [32]) ++ atS xs k
def keyV (xs : List Txt) : Txt := keyT xs xs.length
theorem dig2 {n : Nat} (h : n < 100) : (Lib.decDigits n).length ≤ 2 := by
  have : ∀ k : Fin 100, (Lib.decDigits k.val).length ≤ 2 := by decide +kernel
  exact this ⟨n, h⟩
theorem keyT_len {xs : List Txt} (hs : ∀ i, (atS xs i).length ≤ 40) : ∀ k, (keyT xs k).length ≤ 43 * k
  | 0 => Nat.zero_le _
  | k + 1 => by
    have h := keyT_len hs k
    have h1 := hs k
    have h2 := dig2 (n := (atS xs k).length) (by omega)
    rw [keyT, List.length_append, List.length_append, List.length_append, List.length_singleton]
    omega
theorem key_cells (xs : List Txt) (k : Nat) : Lib.byteCells (keyT xs (k + 1)) = ((Lib.byteCells (keyT xs k) ++ Lib.strCells ⟨(Lib.decDigits (atS xs k).length).toArray⟩) ++ [.int .u8 32]) ++ Lib.strCells ⟨(atS xs k).toArray⟩ := by
  rw [keyT, Lib.byteCells_append, Lib.byteCells_append, Lib.byteCells_append]
  rfl
set_option maxHeartbeats 4000000 in
set_option maxRecDepth 100000 in
theorem key_any (A : Option Addr) (xs : List Txt) (c : Nat) (w : World) (R : ReadsS w A xs) (hl : xs.length ≤ 80) (hs : ∀ i, (atS xs i).length ≤ 40) :
    Calls Tryd.prog 45 #[.slice A xs.length c] w fun e w' => e = .returned (.string ⟨(keyV xs).toArray⟩) ∧ Below w.heap.size w w' := by
  have RA := Lib.hid R
  have HX := Lib.hid hs
  have HL := Lib.hid (keyT_len hs)
  have HC := Lib.hid (key_cells xs)
  have HV : Hid (keyV xs = keyT xs xs.length) := rfl
  have HK0 : Hid (Lib.byteCells (keyT xs 0) = []) := rfl
  have T := Lib.hid (fun bs s W h hl hB => text_law w.heap.size w.heap.size bs s W h hl hB)
  have Y := Lib.hid (fun bs s W h hl hB => byte_law w.heap.size w.heap.size bs s W h hl hB)
  have S := Lib.hid (fun l W h hB => Tryd.Builder_String_any w.heap.size w.heap.size l W h hB)
  have I := Lib.hid (fun n h W => Tryd.strconv_Itoa_small n h W)
  have F0 : Hid (Lib.IsBuilder 49 5 w.heap.size w.heap.size [] (w.alloc (.cells #[.pointer none, .slice none 0 0] 49))) := Lib.fresh_isBuilder 49 5 w
  have D0 : Hid (Below w.heap.size w (w.alloc (.cells #[.pointer none, .slice none 0 0] 49))) := (Below.refl _ _).alloc (Nat.le_refl _) _
  clear R hs
  generalize keyV xs = V at *
  go_enter Tryd.func45, Tryd.ntmps45
  go_wp2
  go_loopg [8] xs.length (fun gg q wr => ∃ k : Nat, gg = xs.length - k ∧ k ≤ xs.length ∧ q = .int .i64 k ∧ Hid (Lib.IsBuilder 49 5 w.heap.size w.heap.size (Lib.byteCells (keyT xs k)) wr) ∧ Hid (Below w.heap.size w wr))
  case atStart => exact ⟨0, rfl, Nat.zero_le _, rfl, by rw [HK0.out]; exact F0.out, D0.out⟩
  case round =>
    obtain ⟨k, hgg, hk, rfl, O, B⟩ := hrel
    have gs := B.out.size
    have hbl : (Lib.byteCells (keyT xs k)).length = (keyT xs k).length := Lib.byteCells_length _
    have hkl := HL.out k
    by_cases hlt : k < xs.length
    · obtain ⟨b, off, rfl, h1⟩ := at_of_reads RA.out k hlt
      have hb : b < w.heap.size := by
        obtain ⟨_, _, e, h, _⟩ := RA.out k hlt
        cases e; exact h
      have q1 := (B.out.cell (p := ⟨b, off + k, none⟩) hb).trans h1
      have hC := Lib.hid (HC.out k)
      have hy := HX.out k
      generalize Lib.byteCells (keyT xs k) = bs at *
      generalize atS xs k = y at *
      have CI := Lib.hid (I.out y.length (by omega) wr)
      have hd := dig2 (n := y.length) (by omega)
      have CT := Lib.hid (T.out bs ⟨(Lib.decDigits y.length).toArray⟩ wr O.out (by rw [hbl, bytes_size]; omega) gs)
      generalize Lib.decDigits y.length = dd at *
      go_wp2_with fail
      refine CI.out.mono ?_
      rintro e w2 ⟨rfl, rfl⟩
      go_wp2_with fail
      refine CT.out.mono ?_
      rintro e w3 ⟨rfl, F3, K3⟩
      have B3 : Hid (Below w.heap.size w w3) := B.out.trans K3
      have CY := Lib.hid (Y.out _ 32 w3 (.inr F3) (by rw [List.length_append, hbl, Lib.strCells_length, bytes_size]; omega) B3.out.size)
      clear F3 K3 CT CI
      go_wp2_with fail
      refine CY.out.mono ?_
      rintro e w4 ⟨rfl, F4, K4⟩
      have B4 : Hid (Below w.heap.size w w4) := B3.out.trans K4
      have CT := Lib.hid (T.out _ ⟨y.toArray⟩ w4 (.inr F4) (by rw [List.length_append, List.length_append, hbl, Lib.strCells_length, bytes_size, bytes_size]; simp; omega) B4.out.size)
      rw [← hC.out] at CT
      clear F4 K4 CY
      go_wp2_with fail
      refine CT.out.mono ?_
      rintro e w5 ⟨rfl, F5, K5⟩
      have B5 : Hid (Below w.heap.size w w5) := B4.out.trans K5
      have O5 : Hid (Lib.IsBuilder 49 5 w.heap.size w.heap.size (Lib.byteCells (keyT xs (k + 1))) w5) := .inr F5
      clear F5 K5 CT
      go_wp2
      go_roundg (xs.length - (k + 1))
      case rel => exact ⟨k + 1, rfl, by omega, by go_num, O5.out, B5.out⟩
      case measure => omega
    · obtain rfl : k = xs.length := by omega
      have CS := Lib.hid (S.out _ wr O.out gs)
      rw [← HV.out] at CS
      go_wp2_with fail
      refine CS.out.mono ?_
      rintro e w4 ⟨rfl, K4⟩
      have B4 : Hid (Below w.heap.size w w4) := B.out.trans K4
      clear K4
      go_wp2
      go_ret
      exact ⟨rfl, B4.out⟩
end Go.Proofs.YtgjgohnomophnaaDoor
