/- Event logs: the trace of a line. -/
import Derived.Test.YtgjgohnomophnaaDoorEM
namespace Go.Proofs.YtgjgohnomophnaaDoor
open Go.RowKit

theorem ret_tr {a b : Value} {x y : Int} (h : a = b) (k : x = y) : Ending.returned (.tuple #[a, .int .i64 x]) = .returned (.tuple #[b, .int .i64 y]) := by rw [h, k]
set_option maxHeartbeats 4000000 in
set_option maxRecDepth 100000 in
theorem trace_any (A : Option Addr) (ws : List Txt) (c : Nat) (w : World) (R : ReadsS w A ws) (hn : ws ≠ []) (hl : ws.length ≤ 100000) (hx : ∀ j, j < ws.length → (atS ws j).length ≤ 100000) :
    Calls Tryd.prog 42 #[.slice A ws.length c] w fun e w' => e = .returned (.tuple #[trV A ws c, .int .i64 (trE ws)]) ∧ Below w.heap.size w w' := by
  have l0 : 0 < ws.length := List.length_pos_iff.2 hn
  obtain ⟨b, off, rfl, hb, q0⟩ := R 0 l0
  have RD : Hid (∀ k, k < ws.length → w.cell? ⟨b, off + k, none⟩ = some (.string ⟨(atS ws k).toArray⟩)) := fun k hk => by
    obtain ⟨b', off', e, _, h⟩ := R k hk
    cases e
    exact h
  have HX := Lib.hid hx
  have CN : Hid (∀ (x : Txt) (_ : x.length ≤ 100000) (W : World), Calls Tryd.prog 13 #[.string ⟨x.toArray⟩] W fun e w' => e = .returned (.bool (nmB x)) ∧ Below W.heap.size W w') := fun x h W => name_any ⟨x.toArray⟩ W (by unfold maxLen; simp [ByteArray.size]; omega)
  by_cases hd : ws = [[45]]
  · subst hd
    have q0 : w.cell? ⟨b, off, none⟩ = some (.string ⟨#[45]⟩) := q0
    have E : Hid (Value.slice none 0 0 = trV (some ⟨b, off, none⟩) [[45]] c) := rfl
    clear RD R
    generalize trV (some ⟨b, off, none⟩) [[45]] c = V at *
    go_enter Tryd.func42, Tryd.ntmps42
    go_wp2
    go_ret2
    exact ⟨ret_tr E.out rfl, Below.refl _ _⟩
  · have HBad : Hid (∀ j, j < ws.length → nmB (atS ws j) = false → Value.slice none 0 0 = trV (some ⟨b, off, none⟩) ws c ∧ 11 = trE ws) := fun j hj h => by
      have e := trE_bad hd j hj h
      exact ⟨(trV_nil (.inr (by rw [e]; decide))).symm, e.symm⟩
    have HLong : Hid ((∀ j, j < ws.length → nmB (atS ws j) = true) → 64 < ws.length → Value.slice none 0 0 = trV (some ⟨b, off, none⟩) ws c ∧ 2 = trE ws) := fun h h2 => by
      have e := trE_long hd h h2
      exact ⟨(trV_nil (.inr (by rw [e]; decide))).symm, e.symm⟩
    have HOk : Hid ((∀ j, j < ws.length → nmB (atS ws j) = true) → ¬ 64 < ws.length → Value.slice (some ⟨b, off, none⟩) ws.length c = trV (some ⟨b, off, none⟩) ws c ∧ 0 = trE ws) := fun h h2 => by
      have e := trE_ok hd h h2
      exact ⟨(trV_ok hd e).symm, e.symm⟩
    have HD : Hid (ws.length = 1 → atS ws 0 ≠ [45]) := fun h h2 => hd (one_dash h h2)
    have q0 : w.cell? ⟨b, off, none⟩ = some (.string ⟨(atS ws 0).toArray⟩) := q0
    clear R hn hx
    generalize trV (some ⟨b, off, none⟩) ws c = V at *
    generalize trE ws = S at *
    generalize hg : w.heap.size = g at *
    have HG := Lib.hid hg
    clear hg hd
    by_cases h1 : ws.length = 1
    · have hz := HD.out h1
      have e0 : (atS ws 0 == [45]) = false := by simpa using hz
      have e1 : ((ws.length : Int) == 1) = true := by simp; omega
      clear hz h1
      go_enter Tryd.func42, Tryd.ntmps42
      go_wp2
      go_loopg [17] ws.length (fun gg q wr => ∃ k : Nat, gg = ws.length - k ∧ k ≤ ws.length ∧ q = .int .i64 k ∧ Hid (∀ j, j < k → nmB (atS ws j) = true) ∧ Hid (Below g w wr))
      case atStart => exact ⟨0, rfl, Nat.zero_le _, rfl, fun j hj => absurd hj (by omega), Below.refl _ _⟩
      case round =>
        obtain ⟨k, hgg, hk, rfl, HA, B1⟩ := hrel
        have gs := B1.out.size
        rw [HG.out] at gs
        by_cases hlt : k < ws.length
        · have q1 : wr.cell? ⟨b, off + k, none⟩ = some (.string ⟨(atS ws k).toArray⟩) := (B1.out.cell (p := ⟨b, off + k, none⟩) hb).trans (RD.out k hlt)
          have C := CN.out (atS ws k) (HX.out k hlt) wr
          have H11 := Lib.hid (HBad.out k hlt)
          by_cases hnm : nmB (atS ws k) = true
          · rw [hnm] at C
            have C := Lib.hid C
            have HA1 : Hid (∀ j, j < k + 1 → nmB (atS ws j) = true) := fun j hj => by
              by_cases e : j = k
              · rw [e]; exact hnm
              · exact HA.out j (by omega)
            clear hnm H11
            generalize atS ws k = x at *
            go_wp2_with fail
            refine C.out.mono ?_
            rintro e w1 ⟨rfl, K⟩
            have B2 : Hid (Below g w w1) := B1.out.trans (K.mono gs)
            clear K C
            go_wp2
            go_roundg (ws.length - (k + 1))
            case rel => exact ⟨k + 1, rfl, by omega, by go_num, HA1.out, B2.out⟩
            case measure => omega
          · have hnm : nmB (atS ws k) = false := by simpa using hnm
            rw [hnm] at C
            have C := Lib.hid C
            have E := Lib.hid (H11.out hnm)
            clear hnm H11
            generalize atS ws k = x at *
            go_wp2_with fail
            refine C.out.mono ?_
            rintro e w1 ⟨rfl, K⟩
            have B2 : Hid (Below g w w1) := B1.out.trans (K.mono gs)
            clear K C
            go_wp2
            go_ret2
            exact ⟨ret_tr E.out.1 E.out.2, B2.out⟩
        · obtain rfl : k = ws.length := by omega
          by_cases h64 : 64 < ws.length
          · have E := Lib.hid (HLong.out HA.out h64)
            have e64 : ((64 : Int) < (ws.length : Int)) = True := by simp; omega
            go_wp2
            go_ret2
            exact ⟨ret_tr E.out.1 E.out.2, B1.out⟩
          · have E := Lib.hid (HOk.out HA.out h64)
            have e64 : ((64 : Int) < (ws.length : Int)) = False := by simp; omega
            go_wp2
            go_ret2
            exact ⟨ret_tr E.out.1 E.out.2, B1.out⟩
    · have e1 : ((ws.length : Int) == 1) = false := by simp; omega
      go_enter Tryd.func42, Tryd.ntmps42
      go_wp2
      go_loopg [17] ws.length (fun gg q wr => ∃ k : Nat, gg = ws.length - k ∧ k ≤ ws.length ∧ q = .int .i64 k ∧ Hid (∀ j, j < k → nmB (atS ws j) = true) ∧ Hid (Below g w wr))
      case atStart => exact ⟨0, rfl, Nat.zero_le _, rfl, fun j hj => absurd hj (by omega), Below.refl _ _⟩
      case round =>
        obtain ⟨k, hgg, hk, rfl, HA, B1⟩ := hrel
        have gs := B1.out.size
        rw [HG.out] at gs
        by_cases hlt : k < ws.length
        · have q1 : wr.cell? ⟨b, off + k, none⟩ = some (.string ⟨(atS ws k).toArray⟩) := (B1.out.cell (p := ⟨b, off + k, none⟩) hb).trans (RD.out k hlt)
          have C := CN.out (atS ws k) (HX.out k hlt) wr
          have H11 := Lib.hid (HBad.out k hlt)
          by_cases hnm : nmB (atS ws k) = true
          · rw [hnm] at C
            have C := Lib.hid C
            have HA1 : Hid (∀ j, j < k + 1 → nmB (atS ws j) = true) := fun j hj => by
              by_cases e : j = k
              · rw [e]; exact hnm
              · exact HA.out j (by omega)
            clear hnm H11
            generalize atS ws k = x at *
            go_wp2_with fail
            refine C.out.mono ?_
            rintro e w1 ⟨rfl, K⟩
            have B2 : Hid (Below g w w1) := B1.out.trans (K.mono gs)
            clear K C
            go_wp2
            go_roundg (ws.length - (k + 1))
            case rel => exact ⟨k + 1, rfl, by omega, by go_num, HA1.out, B2.out⟩
            case measure => omega
          · have hnm : nmB (atS ws k) = false := by simpa using hnm
            rw [hnm] at C
            have C := Lib.hid C
            have E := Lib.hid (H11.out hnm)
            clear hnm H11
            generalize atS ws k = x at *
            go_wp2_with fail
            refine C.out.mono ?_
            rintro e w1 ⟨rfl, K⟩
            have B2 : Hid (Below g w w1) := B1.out.trans (K.mono gs)
            clear K C
            go_wp2
            go_ret2
            exact ⟨ret_tr E.out.1 E.out.2, B2.out⟩
        · obtain rfl : k = ws.length := by omega
          by_cases h64 : 64 < ws.length
          · have E := Lib.hid (HLong.out HA.out h64)
            have e64 : ((64 : Int) < (ws.length : Int)) = True := by simp; omega
            go_wp2
            go_ret2
            exact ⟨ret_tr E.out.1 E.out.2, B1.out⟩
          · have E := Lib.hid (HOk.out HA.out h64)
            have e64 : ((64 : Int) < (ws.length : Int)) = False := by simp; omega
            go_wp2
            go_ret2
            exact ⟨ret_tr E.out.1 E.out.2, B1.out⟩
end Go.Proofs.YtgjgohnomophnaaDoor
