/- Siphons: the links, by the program; what is closed. -/
import Derived.Test.YtjibpkaanaphcaaDoorSI
import Derived.Test.YtjibpkaanaphcaaDoorBtC
import Derived.Test.YtjibpkaanaphcaaDoorMF
namespace Go.Proofs.YtjibpkaanaphcaaDoor
open Go.RowKit

theorem cellA {w : World} {b i : Nat} {v : Value} (h : w.cell? ⟨b, i, none⟩ = some v) (ob : Obj) : (w.alloc ob).cell? ⟨b, i, none⟩ = some v :=
  (((Below.refl _ _).alloc (Nat.le_refl _) _).cell (p := ⟨b, i, none⟩) (World.block_lt_of_cell? _ _ h)).trans h
theorem keepc {w w' : World} {b o : Nat} {v : Value} (h : w.cell? ⟨b, o, none⟩ = some v) (hb : Below w.heap.size w w') : w'.cell? ⟨b, o, none⟩ = some v :=
  (hb.cell (p := ⟨b, o, none⟩) (World.block_lt_of_cell? w ⟨b, o, none⟩ h)).trans h
def LinkR (w : World) (A : Option Addr) (N : Nat) (a b : Nat → Nat) : Prop := ∀ t, t < N → ∃ g o, A = some ⟨g, o, none⟩ ∧ w.cell? ⟨g, o + t * 2, none⟩ = some (.int .u64 (a t : Nat)) ∧ w.cell? ⟨g, o + t * 2 + 1, none⟩ = some (.int .u64 (b t : Nat))
theorem LinkR.below {w w' : World} {A : Option Addr} {N : Nat} {a b : Nat → Nat} (h : LinkR w A N a b) (hb : Below w.heap.size w w') : LinkR w' A N a b := fun t ht => by
  obtain ⟨g, o, e, h1, h2⟩ := h t ht
  exact ⟨g, o, e, keepc h1 hb, keepc h2 hb⟩
theorem bits_and_nat (a b : Nat) (ha : a < 18446744073709551616) (hb : b < 18446744073709551616) : bits .and .u64 (a : Int) (b : Int) = ((a &&& b : Nat) : Int) := by
  have hx : a &&& b < 18446744073709551616 := Bt.and_lt ha
  have h1 : (BitVec.ofInt 64 (a : Int)).toNat = a := by
    rw [BitVec.ofInt_natCast, BitVec.toNat_ofNat]; exact Nat.mod_eq_of_lt (by omega)
  have h2 : (BitVec.ofInt 64 (b : Int)).toNat = b := by
    rw [BitVec.ofInt_natCast, BitVec.toNat_ofNat]; exact Nat.mod_eq_of_lt (by omega)
  show IntKind.u64.wrap ((BitVec.ofInt 64 (a : Int) &&& BitVec.ofInt 64 (b : Int)).toNat : Int) = _
  rw [BitVec.toNat_and, h1, h2, IntKind.wrap_u64]
  generalize a &&& b = c at *
  omega

set_option maxHeartbeats 2000000 in
set_option maxRecDepth 100000 in
theorem violated_any (a b s : Nat) (w : World) (ha : a < 18446744073709551616) (hb : b < 18446744073709551616) (hs : s < 18446744073709551616) :
    Calls Tryd.prog 38 #[.agg #[.int .u64 (a : Nat), .int .u64 (b : Nat)], .int .u64 (s : Nat)] w (VPost w.heap.size w (.bool (violB a b s))) := by
  have K1 := bits_and_nat a s ha hs
  have K2 := bits_and_nat b s hb hs
  have B0 : Hid (Below w.heap.size w (w.alloc (.cells #[.int .u64 (a : Nat), .int .u64 (b : Nat)] 71))) := (Below.refl _ _).alloc (Nat.le_refl _) _
  have E : Hid (violB a b s = ((a &&& s != 0) && (b &&& s == 0))) := rfl
  generalize violB a b s = v at *
  by_cases h1 : a &&& s = 0
  · have z1 : (((a &&& s : Nat) : Int) != 0) = false := by rw [h1]; rfl
    have E2 : Hid (v = false) := by show _ = _; rw [E.out, h1]; rfl
    rw [← K1] at z1
    clear K1
    go_enter Tryd.func38, Tryd.ntmps38
    go_wp2
    go_ret
    exact ⟨by rw [E2.out]; rfl, B0.out⟩
  · have z1 : (((a &&& s : Nat) : Int) != 0) = true := by simpa using h1
    rw [← K1] at z1
    by_cases h2 : b &&& s = 0
    · have z2 : (((b &&& s : Nat) : Int) == 0) = true := by rw [h2]; rfl
      have E2 : Hid (v = true) := by show _ = _; rw [E.out, h2]; simp [h1]
      rw [← K2] at z2
      clear K1 K2
      go_enter Tryd.func38, Tryd.ntmps38
      go_wp2
      go_ret
      exact ⟨by rw [E2.out]; rfl, B0.out⟩
    · have z2 : (((b &&& s : Nat) : Int) == 0) = false := by simpa using h2
      have E2 : Hid (v = false) := by show _ = _; rw [E.out]; simp [h2]
      rw [← K2] at z2
      clear K1 K2
      go_enter Tryd.func38, Tryd.ntmps38
      go_wp2
      go_ret
      exact ⟨by rw [E2.out]; rfl, B0.out⟩

set_option maxHeartbeats 2000000 in
set_option maxRecDepth 100000 in
theorem closedL_any (A : Option Addr) (N c : Nat) (a b : Nat → Nat) (s : Nat) (w : World) (hL : LinkR w A N a b) (hN : N ≤ 1000) (ha : ∀ t, a t < 18446744073709551616) (hb : ∀ t, b t < 18446744073709551616) (hs : s < 18446744073709551616) :
    Calls Tryd.prog 50 #[.slice A N c, .int .u64 (s : Nat)] w (VPost w.heap.size w (.bool (!anyB (fun t => violB (a t) (b t) s) N))) := by
  have CV : Hid (∀ t W, Calls Tryd.prog 38 #[.agg #[.int .u64 (a t : Nat), .int .u64 (b t : Nat)], .int .u64 (s : Nat)] W (VPost W.heap.size W (.bool (violB (a t) (b t) s)))) := fun t W => violated_any _ _ _ W (ha t) (hb t) hs
  have HY : Hid (∀ k, k < N → violB (a k) (b k) s = true → anyB (fun t => violB (a t) (b t) s) N = true) := fun k hk h => anyB_yes hk h
  have HN : Hid ((∀ k, k < N → violB (a k) (b k) s = false) → anyB (fun t => violB (a t) (b t) s) N = false) := fun h => anyB_no h
  have HL := Lib.hid hL
  clear hL ha hb
  generalize anyB (fun t => violB (a t) (b t) s) N = S at *
  go_enter Tryd.func50, Tryd.ntmps50
  go_wp2
  go_loopw [9] (fun q wr => ∃ k : Nat, k ≤ N ∧ q = .int .i64 k ∧ Hid (Below w.heap.size w wr) ∧ Hid (∀ j, j < k → violB (a j) (b j) s = false)) (fun q _ => N - (intOf q).toNat)
  case atStart => exact ⟨0, by omega, rfl, Below.refl _ _, fun j hj => absurd hj (by omega)⟩
  case round =>
    obtain ⟨k, hk, rfl, BB, HM⟩ := hrel
    by_cases hlt : k < N
    · obtain ⟨g, o, e, h1, h2⟩ := HL.out.below BB.out k hlt
      subst e
      have C := CV.out k
      have HF : Hid (violB (a k) (b k) s = false → ∀ j, j < k + 1 → violB (a j) (b j) s = false) := fun h j hj => by
        by_cases e : j < k
        · exact HM.out j e
        · obtain rfl : j = k := by omega
          exact h
      have HT := Lib.hid (HY.out k hlt)
      clear HM
      generalize violB (a k) (b k) s = v at *
      generalize a k = ak at *
      generalize b k = bk at *
      have C := Lib.hid C
      have Dx0 := Lib.hid (BB.out.alloc BB.out.size (.cells #[.int .u64 (ak : Nat), .int .u64 (bk : Nat)] 71))
      go_wp2_with fail
      refine (C.out _).mono ?_
      rintro e w2 ⟨rfl, K⟩
      have K2 := Lib.hid (Dx0.out.trans (K.mono Dx0.out.size))
      clear K
      cases v
      · have HF2 := Lib.hid (HF.out rfl)
        go_wp2
        go_roundw
        case rel => exact ⟨k + 1, by omega, by go_num, K2, HF2⟩
        case measure => simp [intOf]; omega
      · have HT2 := Lib.hid (HT.out rfl)
        go_wp2
        go_ret
        exact ⟨by rw [HT2.out]; rfl, K2.out⟩
    · have E := Lib.hid (HN.out (fun j hj => HM.out j (by omega)))
      clear HM
      go_wp2
      go_ret
      exact ⟨by rw [E.out]; rfl, BB.out⟩
end Go.Proofs.YtjibpkaanaphcaaDoor
