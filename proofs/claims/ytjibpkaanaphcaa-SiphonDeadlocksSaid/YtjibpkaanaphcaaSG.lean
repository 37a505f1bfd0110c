/- The greatest siphon and trap, by the program. -/
import Derived.Test.YtjibpkaanaphcaaSD
import Derived.WalkMore
namespace Go.Proofs.Ytjibpkaanaphcaa
open Go.RowKit

theorem LinkR.below' {w w' : World} {A : Option Addr} {N : Nat} {a b : Nat → Nat} (h : LinkR w A N a b) (hb : Below w.heap.size w w') : LinkR w' A N a b := h.below hb
theorem andNot_u64 (a b : Nat) (ha : a < 18446744073709551616) (hb : b < 18446744073709551616) : bits .andNot .u64 (a : Int) (b : Int) = ((Bt.mB a b : Nat) : Int) := Bt.bits_andNot_nat a b ha hb

set_option maxHeartbeats 800000 in
set_option maxRecDepth 100000 in
theorem greatest_any (n : NetV) (b : Bool) (A : Option Addr) (c s : Nat) (w : World) (hL : LinkR w A n.ts.length (trgS n b) (ndS n b)) (hN : n.ts.length ≤ 1000) (hs : s < 18446744073709551616) :
    Calls Try.prog 30 #[.slice A n.ts.length c, .int .u64 (s : Nat)] w (VPost w.heap.size w (.int .u64 (grS n b s : Nat))) := by
  have CV : Hid (∀ t (r : Nat) W, r < 18446744073709551616 → Calls Try.prog 42 #[.agg #[.int .u64 (trgS n b t : Nat), .int .u64 (ndS n b t : Nat)], .int .u64 (r : Nat)] W (VPost W.heap.size W (.bool (violF n b r t)))) := fun t r W hr => violated_any _ _ _ W (trg_lt n b t) (nd_lt n b t) hr
  have G0 : Hid (OnWay n b s s) := OnWay.start n b s
  have GD : Hid (∀ (r t : Nat), OnWay n b s r → r < 18446744073709551616 → t < n.ts.length → violF n b r t = true → OnWay n b s (Bt.mB r (trgS n b t)) ∧ Bt.card (Bt.mB r (trgS n b t)) < Bt.card r ∧ Bt.mB r (trgS n b t) < 18446744073709551616) := fun r t h hr ht hv => by
    obtain ⟨⟨i, h1, h2⟩, h3⟩ := viol_iff.1 hv
    exact ⟨h.drop hr ht h3, mB_less hr (trg_lt n b t) h1 h2, mB_lt' hr (trg_lt n b t)⟩
  have GE : Hid (∀ (r : Nat), OnWay n b s r → (∀ t, t < n.ts.length → violF n b r t = false) → r = grS n b s) := fun r h hc => grS_eq hs (h.done (closed_iff.2 hc))
  have KM : Hid (∀ (r t : Nat), r < 18446744073709551616 → bits .andNot .u64 (r : Int) (trgS n b t : Int) = ((Bt.mB r (trgS n b t) : Nat) : Int)) := fun r t hr => andNot_u64 _ _ hr (trg_lt n b t)
  have HL := Lib.hid hL
  clear hL
  generalize grS n b s = R at *
  generalize trgS n b = ta at *
  generalize ndS n b = na at *
  generalize n.ts.length = N at *
  go_enter Try.func30, Try.ntmps30
  go_wp2_with fail
  go_step3
  go_wp2_with fail
  go_step3
  go_wp2_with fail
  go_loopw [1] (fun p wr => ∃ r : Nat, p = .int .u64 (r : Int) ∧ r < 18446744073709551616 ∧ Hid (OnWay n b s r) ∧ Hid (Below w.heap.size w wr)) (fun p _ => Bt.card (intOf p).toNat)
  case atStart => exact ⟨s, rfl, hs, G0, Below.refl _ _⟩
  case round =>
    obtain ⟨r, rfl, hr, HO, BB⟩ := hrel
    obtain ⟨wo, rfl⟩ : ∃ wo, wo = wr := ⟨_, rfl⟩
    go_wp2_with fail
    go_loopw [1, 9] (fun p q wr => ∃ k : Nat, k ≤ N ∧ p = .int .u64 (r : Int) ∧ q = .int .i64 k ∧ Hid (Below w.heap.size w wr) ∧ Hid (∀ j, j < k → violF n b r j = false)) (fun _ q _ => N - (intOf q).toNat)
    case atStart => exact ⟨0, by omega, rfl, rfl, BB, fun j hj => absurd hj (by omega)⟩
    case round =>
      clear BB
      obtain ⟨k, hk, rfl, rfl, BB, HM⟩ := hrel
      by_cases hlt : k < N
      · obtain ⟨g, o, e, h1, h2⟩ := (HL.out.below' BB.out) k hlt
        subst e
        have C := Lib.hid (fun W => CV.out k r W hr)
        have HF : Hid (violF n b r k = false → ∀ j, j < k + 1 → violF n b r j = false) := fun h j hj => by
          by_cases e : j < k
          · exact HM.out j e
          · obtain rfl : j = k := by omega
            exact h
        have GDk := Lib.hid (GD.out r k HO.out hr hlt)
        have KMk := KM.out r k hr
        clear HM
        generalize violF n b r k = v at *
        generalize ta k = ak at *
        generalize na k = bk at *
        have Dx0 := Lib.hid (BB.out.alloc BB.out.size (.cells #[.int .u64 (ak : Nat), .int .u64 (bk : Nat)] 65))
        have c0 : (wr.alloc (.cells #[.int .u64 (ak : Nat), .int .u64 (bk : Nat)] 65)).cell? ⟨wr.heap.size, 0, none⟩ = some (.int .u64 (ak : Nat)) := by simp
        go_wp2_with fail
        refine (C.out _).mono ?_
        rintro e w2 ⟨rfl, K⟩
        have c0 := keepc c0 K
        have K2 := Lib.hid (Dx0.out.trans (K.mono Dx0.out.size))
        clear K
        cases v
        · have HF2 := Lib.hid (HF.out rfl)
          go_wp2
          go_roundw
          case rel => exact ⟨k + 1, by omega, rfl, by go_num, K2, HF2⟩
          case measure => simp [intOf]; omega
        · obtain ⟨g1, g2, g3⟩ := GDk.out rfl
          have G1 := Lib.hid g1
          have G2 := Lib.hid g2
          clear g1 g2 GDk
          go_wp2
          go_roundw
          case rel => exact ⟨_, by first | rfl | rw [KMk], g3, G1, K2⟩
          case measure => (first | exact G2.out | (simp only [intOf, Int.toNat_natCast]; exact G2.out))
      · have E := Lib.hid (GE.out r HO.out (fun j hj => HM.out j (by omega)))
        clear HM
        go_wp2
        rw [Exit.noGoto_ret]
        go_ret
        exact ⟨by first | (rw [← E.out]; rfl) | rw [← E.out], BB.out⟩
end Go.Proofs.Ytjibpkaanaphcaa
