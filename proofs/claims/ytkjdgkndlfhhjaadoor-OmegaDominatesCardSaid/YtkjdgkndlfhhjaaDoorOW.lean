/- The order of the reference. -/
import Derived.Test.YtkjdgkndlfhhjaaDoorOV
namespace Go.Proofs.YtkjdgkndlfhhjaaDoor
open Go.RowKit

theorem more_lt {x y : Int} (hx : okW x = true) (hy : okW y = true) (h : x ≠ y) : (moreB y x = true ∧ keyI y < keyI x) ∨ (moreB y x = false ∧ keyI x < keyI y) := by
  have h1 := more_key hy hx
  have e : keyI x ≠ keyI y := fun e => by
    have a1 := ok_iff.1 hx
    have a2 := ok_iff.1 hy
    unfold keyI at e
    split at e <;> split at e <;> omega
  cases hm : moreB y x
  · have := h1.1 hm
    exact .inr ⟨rfl, by omega⟩
  · refine .inl ⟨rfl, ?_⟩
    by_cases h2 : keyI y < keyI x
    · exact h2
    · rw [h1.2 (by omega)] at hm
      cases hm
set_option maxHeartbeats 4000000 in
theorem before_law (A B : Option Addr) (a b : List Int) (ca cb : Nat) (w : World) (ra : ReadsV w A a) (rb : ReadsV w B b) (hab : b.length = a.length) (hl : a.length ≤ 17592186043904) (va : valW a = true) (vb : valW b = true) :
    Calls Tryd.prog 24 #[.slice A a.length ca, .slice B b.length cb] w (BPost w.heap.size w (befW a b)) := by
  have KL : Hid (∀ k, k < a.length → (∀ j, j < k → at0 a j = at0 b j) → keyI (at0 b k) < keyI (at0 a k) → befW a b = true) := fun k hk he h => by
    have h1 : cmpL (keyW b) (keyW a) = -1 := cmpL_lt _ _ k (by rw [key_len]; omega) (by rw [key_len]; exact hk) (fun j hj => by rw [key_at a j (by omega), key_at b j (by omega), he j hj]) (by rw [key_at a k hk, key_at b k (by omega)]; exact h)
    unfold befW
    rw [h1]
    rfl
  have KG : Hid (∀ k, k < a.length → (∀ j, j < k → at0 a j = at0 b j) → keyI (at0 a k) < keyI (at0 b k) → befW a b = false) := fun k hk he h => by
    have h1 : cmpL (keyW b) (keyW a) = 1 := cmpL_gt _ _ k (by rw [key_len]; omega) (by rw [key_len]; exact hk) (fun j hj => by rw [key_at a j (by omega), key_at b j (by omega), he j hj]) (by rw [key_at a k hk, key_at b k (by omega)]; exact h)
    unfold befW
    rw [h1]
    rfl
  have KE : Hid ((∀ j, j < a.length → at0 a j = at0 b j) → befW a b = false) := fun h => by
    have e : a = b := list_ext hab.symm h
    unfold befW
    rw [e, cmpL_refl]
    rfl
  have VA : Hid (∀ k, k < a.length → okW (at0 a k) = true) := fun k hk => val_at va k hk
  have VB : Hid (∀ k, k < a.length → okW (at0 b k) = true) := fun k hk => val_at vb k (by omega)
  have RA := Lib.hid ra
  have RB := Lib.hid rb
  clear ra rb va vb
  unfold BPost
  generalize befW a b = S at *
  rw [hab]
  have HAB := Lib.hid hab
  clear hab
  generalize hg : w.heap.size = g at *
  have HG := Lib.hid hg
  clear hg
  generalize hn : a.length = n at *
  have HN := Lib.hid hn
  clear hn
  have CM : Hid (∀ x y W, Calls Tryd.prog 35 #[.int .i64 x, .int .i64 y] W fun e w' => e = .returned (.bool (moreB x y)) ∧ W = w') := rmore_law
  go_enter Tryd.func24, Tryd.ntmps24
  go_wp2_with fail
  go_loopw [5] (fun q wr => ∃ k : Nat, k ≤ n ∧ q = .int .i64 k ∧ Hid (∀ j, j < k → at0 a j = at0 b j) ∧ Hid (Below g w wr)) (fun q _ => n - (intOf q).toNat)
  case atStart => exact ⟨0, by omega, rfl, fun j hj => absurd hj (by omega), Below.refl _ _⟩
  case round =>
    obtain ⟨k, hk, rfl, HE, BB⟩ := hrel
    by_cases hlt : k < n
    · obtain ⟨ba, oa, e1, hx⟩ := at_of_reads (RA.out.below BB.out (by rw [HG.out]; exact Nat.le_refl _)) k (by rw [HN.out]; exact hlt)
      obtain ⟨bb, ob, e2, hy⟩ := at_of_reads (RB.out.below BB.out (by rw [HG.out]; exact Nat.le_refl _)) k (by rw [HAB.out]; exact hlt)
      subst e1 e2
      have h3 := Lib.hid (more_lt (VA.out k hlt) (VB.out k hlt))
      have L1 := Lib.hid (KL.out k hlt HE.out)
      have L2 := Lib.hid (KG.out k hlt HE.out)
      have HE2 : Hid (at0 a k = at0 b k → ∀ j, j < k + 1 → at0 a j = at0 b j) := fun h j hj => by
        by_cases e : j < k
        · exact HE.out j e
        · obtain rfl : j = k := by omega
          exact h
      generalize at0 a k = x at *
      generalize at0 b k = y at *
      by_cases hxy : x = y
      · have HE3 := Lib.hid (HE2.out hxy)
        subst hxy
        clear HE2 L1 L2 h3
        go_wp2_with fail
        go_quiet (fail)
        go_wp2
        go_roundw
        case rel => exact ⟨k + 1, by omega, by go_num, HE3, below_drewN BB.out _⟩
        case measure => simp [intOf]; omega
      · have hb : (x != y) = true := by simpa using hxy
        have CMk := fun W => CM.out y x W
        have ES : Hid (S = moreB y x) := by
          show _ = _
          rcases h3.out hxy with ⟨c1, c2⟩ | ⟨c1, c2⟩
          · rw [c1]; exact L1.out c2
          · rw [c1]; exact L2.out c2
        generalize moreB y x = mv at *
        have CMk := Lib.hid CMk
        clear HE2 L1 L2 h3 hxy CM
        go_wp2_with fail
        go_quiet (fail)
        have hx2 : (wr.drew).cell? ⟨ba, oa + k, none⟩ = some (.int .i64 x) := hx
        have hy2 : (wr.drew).cell? ⟨bb, ob + k, none⟩ = some (.int .i64 y) := hy
        go_wp2_with fail
        go_region_held3 (fun w' => w'.cell? ⟨ba, oa + k, none⟩ = some (.int .i64 x) ∧ w'.cell? ⟨bb, ob + k, none⟩ = some (.int .i64 y)) (go_keep)
          ((go_at_call 35; refine (CMk.out _).mono ?_; rintro _ _ ⟨rfl, rfl⟩))
        go_wp2
        go_ret
        exact ⟨by rw [ES.out]; rfl, below_drewN BB.out _⟩
    · obtain rfl : k = n := by omega
      have E := Lib.hid (KE.out HE.out)
      go_wp2
      go_ret
      exact ⟨by rw [E.out]; rfl, BB.out⟩
end Go.Proofs.YtkjdgkndlfhhjaaDoor
