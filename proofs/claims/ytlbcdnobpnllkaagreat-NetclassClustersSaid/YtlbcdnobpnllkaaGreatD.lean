/- Places and transitions by their names. -/
import Derived.Test.YtlbcdnobpnllkaaGreatB
import Derived.Test.YtlbcdnobpnllkaaGreatC
namespace Go.Proofs.YtlbcdnobpnllkaaGreat
open Go.RowKit

theorem clos_place (nm s : ByteArray) (ini cap : Int) (b : Nat) (w : World) (hc : w.cell? ⟨b, 0, none⟩ = some (.string s)) :
    Calls Tryz.prog 126 #[.agg #[.string nm, .int .i64 ini, .int .i64 cap], .pointer (some ⟨b, 0, none⟩)] w fun e w' => e = .returned (.bool (eqS nm s)) ∧ Below w.heap.size w w' := by
  generalize hS : eqS nm s = S
  have HS := Lib.hid hS
  clear hS
  have hb : b < w.heap.size := World.block_lt_of_cell? w ⟨b, 0, none⟩ hc
  go_enter Tryz.func126, Tryz.ntmps126
  go_wp2
  go_ret
  exact ⟨ret_b HS.out, (Below.refl _ _).alloc (Nat.le_refl _) _⟩

set_option maxHeartbeats 1000000 in
theorem indexP_any (A : Option Addr) (ps : List PlaceV) (c : Nat) (s : ByteArray) (b : Nat) (w : World) (hr : ReadsP w A ps) (hl : ps.length ≤ maxLen) (hc : w.cell? ⟨b, 0, none⟩ = some (.string s)) :
    Calls Tryz.prog 120 #[.slice A ps.length c, .func (.func 126) #[] #[.pointer (some ⟨b, 0, none⟩)]] w fun e w' => e = .returned (.int .i64 (placeI ps ps.length s)) ∧ Below w.heap.size w w' := by
  unfold maxLen at hl
  have hb : b < w.heap.size := World.block_lt_of_cell? w ⟨b, 0, none⟩ hc
  generalize hS : placeI ps ps.length s = S
  have HS := Lib.hid hS
  clear hS
  have HR := Lib.hid hr
  have HC := Lib.hid hc
  clear hr hc
  generalize hg : w.heap.size = g at *
  have HG := Lib.hid hg
  clear hg
  generalize hn : ps.length = n at *
  have HN := Lib.hid hn
  clear hn
  go_enter Tryz.func120, Tryz.ntmps120
  go_wp2
  go_loopw [8] (fun q wr => ∃ k : Nat, k ≤ n ∧ q = .int .i64 k ∧ Hid (Below g w wr) ∧ Hid (∀ j, j < k → eqS (pA ps j).nm s = false)) (fun q _ => n - (intOf q).toNat)
  case atStart => exact ⟨0, by omega, rfl, Below.refl _ _, fun j hj => absurd hj (by omega)⟩
  case round =>
    obtain ⟨k, hk, rfl, HB, HM⟩ := hrel
    by_cases hlt : k < n
    · obtain ⟨b0, off, rfl, _, hc0, hc1, hc2⟩ := (HR.out.below HB.out (by rw [HG.out]; exact Nat.le_refl _)) k (by rw [HN.out]; exact hlt)
      have HT : Hid (eqS (pA ps k).nm s = true → k = S) := by
        intro h
        rw [← HS.out]
        exact (firstI_at hlt HM.out h).symm
      have HF : Hid (eqS (pA ps k).nm s = false → ∀ j, j < k + 1 → eqS (pA ps j).nm s = false) := fun h j hj => by
        by_cases e : j < k
        · exact HM.out j e
        · obtain rfl : j = k := by omega
          exact h
      have C := Lib.hid (fun W h => clos_place (pA ps k).nm s (pA ps k).ini (pA ps k).cap b W h)
      clear HM
      generalize (pA ps k).nm = nm at *
      generalize (pA ps k).ini = ini at *
      generalize (pA ps k).cap = cap at *
      generalize eqS nm s = t at *
      have HCW : Hid (wr.cell? ⟨b, 0, none⟩ = some (.string s)) := (HB.out.cell (p := ⟨b, 0, none⟩) hb).trans HC.out
      have HBk : Hid (∀ w2, Below wr.heap.size wr w2 → Below g w w2) := fun w2 h => HB.out.trans (h.mono (by have := HB.out.size; rw [HG.out] at this; exact this))
      cases t
      · have HF2 := Lib.hid (HF.out rfl)
        go_wp2_with fail
        refine (C.out _ HCW.out).mono ?_
        rintro e w2 ⟨rfl, K⟩
        have K2 := Lib.hid (HBk.out _ K)
        clear K
        go_wp2
        go_roundw
        case rel => exact ⟨k + 1, by omega, by go_num, K2, HF2⟩
        case measure => simp [intOf]; omega
      · have HT2 := Lib.hid (HT.out rfl)
        go_wp2_with fail
        refine (C.out _ HCW.out).mono ?_
        rintro e w2 ⟨rfl, K⟩
        have K2 := Lib.hid (HBk.out _ K)
        clear K
        go_wp2
        go_ret
        exact ⟨ret_i HT2.out, K2.out⟩
    · have E : Hid (-1 = S) := by
        show _ = _
        rw [← HS.out]
        refine (firstI_none fun j hj => HM.out j (by omega)).symm
      go_wp2
      go_ret
      exact ⟨ret_i E.out, HB.out⟩

theorem placeNamed_any (A : Option Addr) (ps : List PlaceV) (c : Nat) (s : ByteArray) (w : World) (hr : ReadsP w A ps) (hl : ps.length ≤ maxLen) :
    Calls Tryz.prog 111 #[.slice A ps.length c, .string s] w fun e w' => e = .returned (.int .i64 (placeI ps ps.length s)) ∧ Below w.heap.size w w' := by
  have hmf : ∀ (fn : Fn) (first cap : Array Value) (w : World), (Instr.makeFunc fn first cap).run Tryz.prog w = .ok (.func fn first cap) w := fun _ _ _ _ => rfl
  have B0 : Hid (Below w.heap.size w (w.alloc (.cells #[.string s] 9))) := (Below.refl _ _).alloc (Nat.le_refl _) _
  have C := Lib.hid (indexP_any A ps c s w.heap.size _ (hr.below B0.out (Nat.le_refl _)) hl (by simp))
  generalize placeI ps ps.length s = S at *
  go_enter Tryz.func111, Tryz.ntmps111
  go_wp2_with fail
  refine C.out.mono ?_
  rintro e w2 ⟨rfl, K⟩
  have K2 := Lib.hid (B0.out.trans (K.mono (by rw [World.size_alloc]; omega)))
  clear K
  go_wp2
  go_ret
  exact ⟨rfl, K2.out⟩
theorem clos_trans (nm s : ByteArray) (a1 a2 a3 : ArcsV) (prio : Int) (b : Nat) (w : World) (hc : w.cell? ⟨b, 0, none⟩ = some (.string s)) :
    Calls Tryz.prog 127 #[.agg #[.string nm, .slice a1.A a1.l.length a1.c, .slice a2.A a2.l.length a2.c, .slice a3.A a3.l.length a3.c, .int .i64 prio], .pointer (some ⟨b, 0, none⟩)] w fun e w' => e = .returned (.bool (eqS nm s)) ∧ Below w.heap.size w w' := by
  generalize hS : eqS nm s = S
  have HS := Lib.hid hS
  clear hS
  have hb : b < w.heap.size := World.block_lt_of_cell? w ⟨b, 0, none⟩ hc
  go_enter Tryz.func127, Tryz.ntmps127
  go_wp2
  go_ret
  exact ⟨ret_b HS.out, (Below.refl _ _).alloc (Nat.le_refl _) _⟩

set_option maxHeartbeats 1000000 in
theorem indexT_any (A : Option Addr) (ts : List TransV) (c : Nat) (s : ByteArray) (b : Nat) (w : World) (hr : ReadsT w A ts) (hl : ts.length ≤ maxLen) (hc : w.cell? ⟨b, 0, none⟩ = some (.string s)) :
    Calls Tryz.prog 99 #[.slice A ts.length c, .func (.func 127) #[] #[.pointer (some ⟨b, 0, none⟩)]] w fun e w' => e = .returned (.int .i64 (transI ts ts.length s)) ∧ Below w.heap.size w w' := by
  unfold maxLen at hl
  have hb : b < w.heap.size := World.block_lt_of_cell? w ⟨b, 0, none⟩ hc
  generalize hS : transI ts ts.length s = S
  have HS := Lib.hid hS
  clear hS
  have HR := Lib.hid hr
  have HC := Lib.hid hc
  clear hr hc
  generalize hg : w.heap.size = g at *
  have HG := Lib.hid hg
  clear hg
  generalize hn : ts.length = n at *
  have HN := Lib.hid hn
  clear hn
  go_enter Tryz.func99, Tryz.ntmps99
  go_wp2
  go_loopw [8] (fun q wr => ∃ k : Nat, k ≤ n ∧ q = .int .i64 k ∧ Hid (Below g w wr) ∧ Hid (∀ j, j < k → eqS (tA ts j).nm s = false)) (fun q _ => n - (intOf q).toNat)
  case atStart => exact ⟨0, by omega, rfl, Below.refl _ _, fun j hj => absurd hj (by omega)⟩
  case round =>
    obtain ⟨k, hk, rfl, HB, HM⟩ := hrel
    by_cases hlt : k < n
    · obtain ⟨b0, off, rfl, _, hc0, hc1, hc2, hc3, hc4, _, _, _⟩ := (HR.out.below HB.out (by rw [HG.out]; exact Nat.le_refl _)) k (by rw [HN.out]; exact hlt)
      have HT : Hid (eqS (tA ts k).nm s = true → k = S) := by
        intro h
        rw [← HS.out]
        exact (firstI_at hlt HM.out h).symm
      have HF : Hid (eqS (tA ts k).nm s = false → ∀ j, j < k + 1 → eqS (tA ts j).nm s = false) := fun h j hj => by
        by_cases e : j < k
        · exact HM.out j e
        · obtain rfl : j = k := by omega
          exact h
      have C := Lib.hid (fun W h => clos_trans (tA ts k).nm s (tA ts k).pre (tA ts k).post (tA ts k).inh (tA ts k).prio b W h)
      clear HM
      generalize (tA ts k).nm = nm at *
      generalize (tA ts k).pre = a1 at *
      generalize (tA ts k).post = a2 at *
      generalize (tA ts k).inh = a3 at *
      generalize (tA ts k).prio = prio at *
      generalize eqS nm s = t at *
      have HCW : Hid (wr.cell? ⟨b, 0, none⟩ = some (.string s)) := (HB.out.cell (p := ⟨b, 0, none⟩) hb).trans HC.out
      have HBk : Hid (∀ w2, Below wr.heap.size wr w2 → Below g w w2) := fun w2 h => HB.out.trans (h.mono (by have := HB.out.size; rw [HG.out] at this; exact this))
      cases t
      · have HF2 := Lib.hid (HF.out rfl)
        go_wp2_with fail
        refine (C.out _ HCW.out).mono ?_
        rintro e w2 ⟨rfl, K⟩
        have K2 := Lib.hid (HBk.out _ K)
        clear K
        go_wp2
        go_roundw
        case rel => exact ⟨k + 1, by omega, by go_num, K2, HF2⟩
        case measure => simp [intOf]; omega
      · have HT2 := Lib.hid (HT.out rfl)
        go_wp2_with fail
        refine (C.out _ HCW.out).mono ?_
        rintro e w2 ⟨rfl, K⟩
        have K2 := Lib.hid (HBk.out _ K)
        clear K
        go_wp2
        go_ret
        exact ⟨ret_i HT2.out, K2.out⟩
    · have E : Hid (-1 = S) := by
        show _ = _
        rw [← HS.out]
        refine (firstI_none fun j hj => HM.out j (by omega)).symm
      go_wp2
      go_ret
      exact ⟨ret_i E.out, HB.out⟩

theorem transNamed_any (A : Option Addr) (ts : List TransV) (c : Nat) (s : ByteArray) (w : World) (hr : ReadsT w A ts) (hl : ts.length ≤ maxLen) :
    Calls Tryz.prog 112 #[.slice A ts.length c, .string s] w fun e w' => e = .returned (.int .i64 (transI ts ts.length s)) ∧ Below w.heap.size w w' := by
  have hmf : ∀ (fn : Fn) (first cap : Array Value) (w : World), (Instr.makeFunc fn first cap).run Tryz.prog w = .ok (.func fn first cap) w := fun _ _ _ _ => rfl
  have B0 : Hid (Below w.heap.size w (w.alloc (.cells #[.string s] 9))) := (Below.refl _ _).alloc (Nat.le_refl _) _
  have C := Lib.hid (indexT_any A ts c s w.heap.size _ (hr.below B0.out (Nat.le_refl _)) hl (by simp))
  generalize transI ts ts.length s = S at *
  go_enter Tryz.func112, Tryz.ntmps112
  go_wp2_with fail
  refine C.out.mono ?_
  rintro e w2 ⟨rfl, K⟩
  have K2 := Lib.hid (B0.out.trans (K.mono (by rw [World.size_alloc]; omega)))
  clear K
  go_wp2
  go_ret
  exact ⟨rfl, K2.out⟩
end Go.Proofs.YtlbcdnobpnllkaaGreat
