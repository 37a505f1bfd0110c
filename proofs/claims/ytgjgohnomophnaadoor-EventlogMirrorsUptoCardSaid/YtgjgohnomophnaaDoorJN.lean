/- Event logs: strings.Join at one blank. -/
import Derived.Test.YtgjgohnomophnaaDoorTG
import Derived.Test.YtgjgohnomophnaaDoorRT
namespace Go.Proofs.YtgjgohnomophnaaDoor
open Go.RowKit

theorem bytes_size (x : List UInt8) : (⟨x.toArray⟩ : ByteArray).size = x.length := by show x.toArray.size = _; simp
theorem builder_below {w w' : World} {B b : Nat} {bs : List Value} (h : Lib.IsBuilder 49 5 B b bs w) (hb : Below w.heap.size w w') : Lib.IsBuilder 49 5 B b bs w' := by
  have key : ∀ p, Lib.BuilderAt 49 5 B b p bs w → Lib.BuilderAt 49 5 B b p bs w' := fun p h => by
    have hlt := h.lt
    obtain ⟨hB, v, hbk, hown, hne⟩ := h
    exact ⟨hB, v, (hb.block b hlt).trans hbk, own_below hown hb (Nat.le_refl _), hne⟩
  rcases h with h | h
  · exact .inl (key _ h)
  · exact .inr (key _ h)
theorem wK_cells (xs : List Txt) {k : Nat} (h : k ≠ 0) : Lib.byteCells (wK xs (k + 1)) = (Lib.byteCells (wK xs k) ++ Lib.strCells ⟨#[32]⟩) ++ Lib.strCells ⟨(atS xs k).toArray⟩ := by
  rw [wK_succ xs h, Lib.byteCells_append, Lib.byteCells_append]
  rfl
set_option maxHeartbeats 4000000 in
set_option maxRecDepth 100000 in
theorem join_law (A : Option Addr) (xs : List Txt) (c : Nat) (w : World) (R : ReadsS w A xs) (hl : xs.length ≤ 80) (hc : xs.length ≤ c) (hs : ∀ i, (atS xs i).length ≤ 40) :
    Calls Tryd.prog 35 #[.slice A xs.length c, .string ⟨#[32]⟩] w fun e w' => e = .returned (.string ⟨(wK xs xs.length).toArray⟩) ∧ Below w.heap.size w w' := by
  by_cases h0 : xs.length = 0
  · obtain rfl : xs = [] := List.eq_nil_of_length_eq_zero h0
    clear h0
    have E : Hid (wK [] 0 = []) := rfl
    go_enter Tryd.func35, Tryd.ntmps35
    go_wp2
    go_ret
    exact ⟨rfl, Below.refl _ _⟩
  have l0 : 0 < xs.length := by omega
  obtain ⟨b, off, rfl, hb, q0⟩ := R 0 l0
  have q0 : w.cell? ⟨b, off, none⟩ = some (.string ⟨(atS xs 0).toArray⟩) := q0
  have E1 : Hid (wK xs 1 = atS xs 0) := wK_zero xs
  by_cases h1 : xs.length = 1
  · have e0 : ((xs.length : Int) == 0) = false := by rw [beq_eq_false_iff_ne]; omega
    have e1 : ((xs.length : Int) == 1) = true := by simp; omega
    rw [show wK xs xs.length = atS xs 0 by rw [h1]; exact E1.out]
    clear h1 h0 R
    go_enter Tryd.func35, Tryd.ntmps35
    go_wp2
    go_ret
    exact ⟨rfl, Below.refl _ _⟩
  have RD : Hid (∀ k, k < xs.length → w.cell? ⟨b, off + k, none⟩ = some (.string ⟨(atS xs k).toArray⟩)) := fun k hk => by
    obtain ⟨b', off', e, _, h⟩ := R k hk
    cases e
    exact h
  have HS := Lib.hid hs
  have T := Lib.hid (fun bs s W h hl hB => text_law w.heap.size w.heap.size bs s W h hl hB)
  have GR := Lib.hid (fun n W hbk hBw hn => Tryd.Builder_Grow_fresh w.heap.size w.heap.size n W (Nat.le_refl _) hbk hBw hn)
  have S := Lib.hid (fun l W h hB => Tryd.Builder_String_any w.heap.size w.heap.size l W h hB)
  have D0 : Hid (Below w.heap.size w (w.alloc (.cells #[.pointer none, .slice none 0 0] 49))) := (Below.refl _ _).alloc (Nat.le_refl _) _
  have HWL := Lib.hid (wK_len hs)
  have HWS := Lib.hid (fun k => @wK_cells xs k)
  have HW1 : Hid (Lib.byteCells (wK xs 1) = Lib.strCells ⟨(atS xs 0).toArray⟩) := by show _ = _; rw [E1.out]; rfl
  obtain ⟨m, hm⟩ : ∃ m, xs.length = m + 1 := ⟨xs.length - 1, by omega⟩
  have hm1 : 1 ≤ m := by omega
  have hm2 : m ≤ 79 := by omega
  rw [hm]
  rw [hm] at RD hc
  clear R hs h0 h1 hl l0 hm q0
  have q0 : w.cell? ⟨b, off, none⟩ = some (.string ⟨(atS xs 0).toArray⟩) := RD.out 0 (by omega)
  have e0 : ((m : Int) + 1 == 0) = false := by rw [beq_eq_false_iff_ne]; omega
  have e1 : ((m : Int) + 1 == 1) = false := by rw [beq_eq_false_iff_ne]; omega
  have eq2 : 2 ≤ (9223372036854775807 : Int) / (m : Int) := Int.le_ediv_of_mul_le (by omega) (by omega)
  have eqf : ((9223372036854775807 : Int) / (m : Int) ≤ 1) = False := by rw [eq_iff_iff, iff_false]; omega
  clear eq2
  go_enter Tryd.func35, Tryd.ntmps35
  go_wp2_with fail
  go_loop [5, 41] (fun p q => ∃ k nn : Nat, k ≤ m + 1 ∧ p = .int .i64 (nn : Nat) ∧ nn ≤ 80 + 40 * k ∧ q = .int .i64 k) (fun _ q => m + 1 - (intOf q).toNat)
  case atStart => exact ⟨0, m, by omega, rfl, by omega, rfl⟩
  case round =>
    obtain ⟨k, nn, hk, rfl, hnn, rfl⟩ := hrel
    by_cases hlt : k < m + 1
    · have q1 := RD.out k hlt
      have hy := HS.out k
      generalize atS xs k = y at *
      have e3 : ((9223372036854775807 : Int) - (nn : Int) < (y.length : Int)) = False := by rw [eq_iff_iff, iff_false]; omega
      go_wp2
      go_round
      case rel => exact ⟨k + 1, nn + y.length, by omega, by go_num, by omega, by go_num⟩
      case measure => simp [intOf]; omega
    · obtain rfl : k = m + 1 := by omega
      have FR : (w.alloc (.cells #[.pointer none, .slice none 0 0] 49)).heap[w.heap.size]? = some (.cells #[.pointer none, .slice none 0 0] 49 (0, 0)) := World.alloc_heap_new w _
      have CG := Lib.hid (GR.out nn _ FR (by rw [World.size_alloc]; omega) (by omega))
      go_wp2_with fail
      refine CG.out.mono ?_
      rintro e w2 ⟨rfl, F2, K2⟩
      have B2 : Hid (Below w.heap.size w w2) := D0.out.trans K2
      have s2 := B2.out.size
      have q2 := (B2.out.cell (p := ⟨b, off, none⟩) hb).trans q0
      have hy := HS.out 0
      have CT := Lib.hid (T.out [] ⟨(atS xs 0).toArray⟩ w2 (.inr F2) (by rw [bytes_size]; simp; omega) s2)
      rw [List.nil_append, ← HW1.out] at CT
      generalize atS xs 0 = x0 at *
      clear F2 K2 CG FR
      go_wp2_with fail
      refine CT.out.mono ?_
      rintro e w3 ⟨rfl, F3, K3⟩
      have B3 : Hid (Below w.heap.size w w3) := B2.out.trans K3
      have O3 : Hid (Lib.IsBuilder 49 5 w.heap.size w.heap.size (Lib.byteCells (wK xs 1)) w3) := .inr F3
      clear F3 K3 CT q2 q0 s2 HW1 E1
      go_wp2_with fail
      go_loopg [65] m (fun gg q wr => ∃ k : Nat, gg = m - k ∧ k ≤ m ∧ q = .int .i64 k ∧ Hid (Lib.IsBuilder 49 5 w.heap.size w.heap.size (Lib.byteCells (wK xs (k + 1))) wr) ∧ Hid (Below w.heap.size w wr))
      case atStart => exact ⟨0, rfl, Nat.zero_le _, rfl, O3.out, B3.out⟩
      case round =>
        obtain ⟨k, hgg, hk, rfl, O, B⟩ := hrel
        have gs := B.out.size
        have hbl : (Lib.byteCells (wK xs (k + 1))).length = (wK xs (k + 1)).length := Lib.byteCells_length _
        have hwl := HWL.out (k + 1)
        by_cases hkm : k < m
        · have q1 := RD.out (k + 1) (by omega)
          rw [show off + (k + 1) = off + 1 + k by omega] at q1
          have HQ := Lib.hid (fun W (h : Below w.heap.size w W) => (h.cell (p := ⟨b, off + 1 + k, none⟩) hb).trans q1)
          have hy := HS.out (k + 1)
          have HC := Lib.hid (HWS.out (k + 1) (by omega))
          have CT := Lib.hid (T.out _ ⟨#[32]⟩ wr O.out (by rw [hbl]; show _ + 1 ≤ _; omega) gs)
          have q2 := HQ.out wr B.out
          clear q1
          generalize atS xs (k + 1) = y at *
          go_wp2_with fail
          refine CT.out.mono ?_
          rintro e w4 ⟨rfl, F4, K4⟩
          have B4 : Hid (Below w.heap.size w w4) := B.out.trans K4
          have q3 := HQ.out w4 B4.out
          have CT2 := Lib.hid (T.out _ ⟨y.toArray⟩ w4 (.inr F4) (by rw [List.length_append, hbl, bytes_size]; show _ + 1 + _ ≤ _; omega) B4.out.size)
          rw [← HC.out] at CT2
          clear F4 K4 CT
          go_wp2_with fail
          refine CT2.out.mono ?_
          rintro e w5 ⟨rfl, F5, K5⟩
          have B5 : Hid (Below w.heap.size w w5) := B4.out.trans K5
          have O5 : Hid (Lib.IsBuilder 49 5 w.heap.size w.heap.size (Lib.byteCells (wK xs (k + 1 + 1))) w5) := .inr F5
          clear F5 K5 CT2
          go_wp2
          go_roundg (m - (k + 1))
          case rel => exact ⟨k + 1, rfl, by omega, by go_num, O5.out, B5.out⟩
          case measure => omega
        · obtain rfl : k = m := by omega
          have CS := Lib.hid (S.out _ wr O.out gs)
          go_wp2_with fail
          refine CS.out.mono ?_
          rintro e w4 ⟨rfl, K4⟩
          have B4 : Hid (Below w.heap.size w w4) := B.out.trans K4
          clear K4
          go_wp2
          go_ret
          exact ⟨rfl, B4.out⟩
end Go.Proofs.YtgjgohnomophnaaDoor
