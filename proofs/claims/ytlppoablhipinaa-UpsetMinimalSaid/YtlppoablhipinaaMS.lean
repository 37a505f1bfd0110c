/- The comparison leaves the world as it was, but for draws: what a sort asks of it. -/
import Derived.Test.YtlppoablhipinaaME
namespace Go.Proofs.Ytlppoablhipinaa
open Go.RowKit

def DrN (w w' : World) : Prop := ∃ q, w' = w.drewN q
theorem DrN.refl (w : World) : DrN w w := ⟨0, rfl⟩
theorem DrN.drew {w w' : World} (h : DrN w w') : DrN w w'.drew := by
  obtain ⟨q, rfl⟩ := h
  exact ⟨q + 1, rfl⟩
theorem DrN.below {w w' : World} (h : DrN w w') (B : Nat) : Below B w w' := by
  obtain ⟨q, rfl⟩ := h
  exact below_drewN (Below.refl B w) q
set_option maxHeartbeats 1000000 in
theorem cmpx_law (A B : Option Addr) (a b : List Int) (ca cb : Nat) (w : World) (ra : ReadsV w A a) (rb : ReadsV w B b) (hl : a.length * 8 ≤ 140737488351232) (hm : b.length * 8 ≤ 140737488351232) :
    Calls Try.prog 33 #[.slice A a.length ca, .slice B b.length cb] w fun e w' => e = .returned (.int .i64 (cmpL a b)) ∧ DrN w w' := by
  have L1 : Hid (∀ k, k < a.length → k < b.length → (∀ j, j < k → at0 a j = at0 b j) → at0 a k < at0 b k → cmpL a b = -1) := fun k => cmpL_lt a b k
  have L2 : Hid (∀ k, k < a.length → k < b.length → (∀ j, j < k → at0 a j = at0 b j) → at0 b k < at0 a k → cmpL a b = 1) := fun k => cmpL_gt a b k
  have L3 : Hid ((∀ j, j < a.length → j < b.length → at0 a j = at0 b j) → cmpL a b = if a.length < b.length then -1 else if b.length < a.length then 1 else 0) := cmpL_end a b
  have RA := Lib.hid ra
  have RB := Lib.hid rb
  clear ra rb
  generalize cmpL a b = S at *
  generalize hg : w.heap.size = g at *
  have HG := Lib.hid hg
  clear hg
  generalize hn : a.length = n at *
  have HN := Lib.hid hn
  clear hn
  generalize hm' : b.length = m at *
  have HM := Lib.hid hm'
  clear hm'
  obtain ⟨z, hz⟩ : ∃ z : Nat, z = min n m := ⟨_, rfl⟩
  have hmin : min (n : Int) (m : Int) = (z : Int) := by omega
  have hz1 : z ≤ n := by omega
  have hz2 : z ≤ m := by omega
  have hz3 : z = n ∨ z = m := by omega
  clear hz
  have C := Lib.hid (fun x y W => Try.cmp_Compare_int x y W)
  go_enter Try.func33, Try.ntmps33
  go_wp2_with fail
  go_loopw [12] (fun q wr => ∃ k : Nat, k ≤ z ∧ q = .int .i64 k ∧ Hid (∀ j, j < k → at0 a j = at0 b j) ∧ Hid (DrN w wr)) (fun q _ => z - (intOf q).toNat)
  case atStart => exact ⟨0, by omega, rfl, fun j hj => absurd hj (by omega), DrN.refl _⟩
  case round =>
    obtain ⟨k, hk, rfl, HE, BB⟩ := hrel
    by_cases hlt : k < z
    · obtain ⟨ba, oa, e1, hx⟩ := at_of_reads (RA.out.below (BB.out.below g) (by rw [HG.out]; exact Nat.le_refl _)) k (by rw [HN.out]; omega)
      subst e1
      obtain ⟨bb, ob, e2, hy⟩ := at_of_reads (RB.out.below (BB.out.below g) (by rw [HG.out]; exact Nat.le_refl _)) k (by rw [HM.out]; omega)
      subst e2
      have G1 := Lib.hid (L1.out k (by omega) (by omega) HE.out)
      have G2 := Lib.hid (L2.out k (by omega) (by omega) HE.out)
      have G3 : Hid (at0 a k = at0 b k → ∀ j, j < k + 1 → at0 a j = at0 b j) := fun h j hj => by
        by_cases e : j < k
        · exact HE.out j e
        · obtain rfl : j = k := by omega
          exact h
      generalize at0 a k = x at *
      generalize at0 b k = y at *
      clear L1 L2 HE
      have l1 : k < n := by omega
      have l2 : k < m := by omega
      rcases Int.lt_trichotomy x y with h | h | h
      · have E := Lib.hid (G1.out h)
        have c1 : Lib.compareInt x y = -1 := by unfold Lib.compareInt; rw [if_pos h]
        have C1 : Hid (∀ W, Calls Try.prog 51 #[.int .i64 x, .int .i64 y] W fun e w' => e = .returned (.int .i64 (-1)) ∧ w' = W) := fun W => by rw [← c1]; exact C.out x y W
        clear G1 G2 G3 c1
        go_wp2_with fail
        go_region_held3 (fun w' => w'.cell? ⟨ba, oa + k, none⟩ = some (.int .i64 x) ∧ w'.cell? ⟨bb, ob + k, none⟩ = some (.int .i64 y)) (go_keep)
          ((go_at_call 51; refine (C1.out _).mono ?_; rintro _ _ ⟨rfl, rfl⟩))
        go_wp2
        go_ret
        exact ⟨by rw [E.out]; rfl, BB.out.drew⟩
      · subst h
        have c1 : Lib.compareInt x x = 0 := by unfold Lib.compareInt; simp
        have C1 : Hid (∀ W, Calls Try.prog 51 #[.int .i64 x, .int .i64 x] W fun e w' => e = .returned (.int .i64 0) ∧ w' = W) := fun W => by rw [← c1]; exact C.out x x W
        have E := Lib.hid (G3.out rfl)
        clear G1 G2 G3 c1
        go_wp2_with fail
        go_region_held3 (fun w' => w'.cell? ⟨ba, oa + k, none⟩ = some (.int .i64 x) ∧ w'.cell? ⟨bb, ob + k, none⟩ = some (.int .i64 x)) (go_keep)
          ((go_at_call 51; refine (C1.out _).mono ?_; rintro _ _ ⟨rfl, rfl⟩))
        rename_i hHeld
        clear hHeld
        have B2 : Hid (DrN w wr.drew) := BB.out.drew
        go_wp2
        go_roundw
        case rel => exact ⟨k + 1, by omega, by go_num, E, B2⟩
        case measure => simp [intOf]; omega
      · have E := Lib.hid (G2.out h)
        have c1 : Lib.compareInt x y = 1 := by unfold Lib.compareInt; rw [if_neg (by omega), if_pos h]
        have C1 : Hid (∀ W, Calls Try.prog 51 #[.int .i64 x, .int .i64 y] W fun e w' => e = .returned (.int .i64 1) ∧ w' = W) := fun W => by rw [← c1]; exact C.out x y W
        clear G1 G2 G3 c1
        go_wp2_with fail
        go_region_held3 (fun w' => w'.cell? ⟨ba, oa + k, none⟩ = some (.int .i64 x) ∧ w'.cell? ⟨bb, ob + k, none⟩ = some (.int .i64 y)) (go_keep)
          ((go_at_call 51; refine (C1.out _).mono ?_; rintro _ _ ⟨rfl, rfl⟩))
        go_wp2
        go_ret
        exact ⟨by rw [E.out]; rfl, BB.out.drew⟩
    · have E : Hid (S = Lib.compareInt n m) := by
        show _ = _
        rw [L3.out fun j h1 h2 => HE.out j (by omega)]
        unfold Lib.compareInt
        by_cases h1 : n < m
        · have h1' : (n : Int) < m := by omega
          rw [if_pos h1, if_pos h1']
        · have h1' : ¬ (n : Int) < m := by omega
          rw [if_neg h1, if_neg h1']
          by_cases h2 : m < n
          · have h2' : (n : Int) > m := by omega
            rw [if_pos h2, if_pos h2']
          · have h2' : ¬ (n : Int) > m := by omega
            rw [if_neg h2, if_neg h2']
      have C1 := Lib.hid (C.out (n : Int) (m : Int))
      go_wp2_with fail
      refine (C1.out _).mono ?_
      rintro e w' ⟨rfl, rfl⟩
      go_wp2
      go_ret
      exact ⟨by rw [E.out]; rfl, BB.out⟩
end Go.Proofs.Ytlppoablhipinaa
