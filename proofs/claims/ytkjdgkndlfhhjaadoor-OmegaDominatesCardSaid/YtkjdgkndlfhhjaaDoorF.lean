/- Acceleration. -/
import Derived.Test.YtkjdgkndlfhhjaaDoorE
namespace Go.Proofs.YtkjdgkndlfhhjaaDoor
open Go.RowKit

set_option maxHeartbeats 4000000 in
set_option maxRecDepth 100000 in
theorem acc_law (A B : Option Addr) (a b : List Int) (ca cb : Nat) (w : World) (ra : ReadsV w A a) (rb : ReadsV w B b) (hl : a.length * 8 ≤ 140737488351232) (hm : b.length * 8 ≤ 140737488351232) :
    Calls Tryd.prog 11 #[.slice A a.length ca, .slice B b.length cb] w (IsPost w.heap.size w (accM a b)) := by
  have C := Lib.hid (clone_law2 B b cb w rb hm)
  have M := Lib.hid (fun W (h : Below w.heap.size w W) => leq_law A B a b ca cb W (ra.below h (Nat.le_refl _)) (rb.below h (Nat.le_refl _)) hl hm)
  cases hq : leqW a b
  · have E : Hid (accM a b = b) := by show _ = _; unfold accM; rw [if_neg (by rw [hq]; decide)]
    rw [hq] at M
    rw [E.out]
    clear ra rb E hq hl
    generalize hn : b.length = n at *
    have HN := Lib.hid hn
    clear hn
    generalize a.length = m at *
    go_enter Tryd.func11, Tryd.ntmps11
    go_wp2_with fail
    refine C.out.mono ?_
    rintro e w1 ⟨A2, c2, rfl, O1, B1⟩
    go_wp2_with fail
    refine (M.out w1 B1.out).mono ?_
    rintro e w2 ⟨rfl, K⟩
    have hs := B1.out.size
    have B2 : Hid (Below w.heap.size w w2) := B1.out.trans (K.mono hs)
    have O2 := Lib.hid (own_below O1.out K (Nat.le_refl _))
    clear K
    go_wp2_with fail
    go_ret
    have h := O2.out
    rw [← HN.out, tab_self] at h
    obtain ⟨A3, c3, e3, R3⟩ := ReadsV.own h
    injection e3 with e4 _ e6
    refine ⟨A3, c3, ?_, R3, B2.out⟩
    rw [HN.out, ← e4, ← e6]
    rfl
  obtain ⟨hlen, _, _, _⟩ := leqW_of hq
  have E : Hid (accM a b = accS a b) := by show _ = _; unfold accM; rw [if_pos hq]
  rw [hq] at M
  have RA := Lib.hid ra
  have RB := Lib.hid rb
  clear ra rb hq hl
  rw [hlen] at M ⊢
  have HL := Lib.hid hlen
  clear hlen
  generalize hn : b.length = n at *
  have HN := Lib.hid hn
  clear hn
  go_enter Tryd.func11, Tryd.ntmps11
  go_wp2_with fail
  refine C.out.mono ?_
  rintro e w1 ⟨A2, c2, rfl, O1, B1⟩
  go_wp2_with fail
  refine (M.out w1 B1.out).mono ?_
  rintro e w2 ⟨rfl, K⟩
  have hs1 := B1.out.size
  have B2 : Hid (Below w.heap.size w w2) := B1.out.trans (K.mono hs1)
  have O2 := Lib.hid (own_below O1.out K (Nat.le_refl _))
  clear K
  go_wp2_with fail
  go_loopw [16] (fun q wr => ∃ k : Nat, k ≤ n ∧ q = .int .i64 k ∧ Hid (wr.ownsRow w.heap.size 3 1 (.slice A2 n c2) n ((tab n fun j => if j < k then (if at0 a j = at0 b j then at0 b j else -1) else at0 b j).map (Value.int .i64))) ∧ Hid (Below w.heap.size w wr)) (fun q _ => n - (intOf q).toNat)
  case atStart => exact ⟨0, by omega, rfl, by show World.ownsRow _ _ _ _ _ _ _; rw [tab_none]; exact O2.out, B2⟩
  case round =>
    obtain ⟨k, hk, rfl, O, BB⟩ := hrel
    by_cases hlt : k < n
    · obtain ⟨gg, hA2, hgg, _⟩ := ownsRow_block O.out (by omega)
      subst hA2
      obtain ⟨ba, oa, e1, hx⟩ := at_of_reads (RA.out.below BB.out (Nat.le_refl _)) k (by rw [HL.out]; exact hlt)
      subst e1
      obtain ⟨bb, ob, e2, hy⟩ := at_of_reads (RB.out.below BB.out (Nat.le_refl _)) k (by rw [HN.out]; exact hlt)
      subst e2
      have HS := Lib.hid (tab_set n k (fun j => if at0 a j = at0 b j then at0 b j else -1) (at0 b))
      have HU : Hid (at0 a k = at0 b k → (tab n fun j => if j < k then (if at0 a j = at0 b j then at0 b j else -1) else at0 b j) = tab n fun j => if j < k + 1 then (if at0 a j = at0 b j then at0 b j else -1) else at0 b j) := fun h => tab_congr fun j _ => by
        by_cases e : j < k
        · have e3 : j < k + 1 := by omega
          rw [if_pos e, if_pos e3]
        · rw [if_neg e]
          by_cases e2 : j < k + 1
          · obtain rfl : j = k := by omega
            rw [if_pos e2, if_pos h]
          · rw [if_neg e2]
      generalize hxa : at0 a k = x at *
      generalize hyb : at0 b k = y at *
      have HXA := Lib.hid hxa
      have HYB := Lib.hid hyb
      clear hxa hyb
      by_cases hxy : x = y
      · have EU := Lib.hid (HU.out hxy)
        have n1 : (x != y) = false := by simpa using hxy
        clear HU
        subst hxy
        go_wp2_with fail
        go_region_held3 (fun w' => w'.cell? ⟨ba, oa + k, none⟩ = some (.int .i64 x) ∧ w'.cell? ⟨bb, ob + k, none⟩ = some (.int .i64 x)) (first | exact ⟨hx, hy⟩ | go_keep)
          (fail)
        go_wp2_with fail
        go_roundw
        case rel => exact ⟨k + 1, by omega, by go_num, by show World.ownsRow _ _ _ _ _ _ _; rw [← EU.out]; exact own_below O.out (Below.refl _ _).drew (Nat.le_refl _), BB.out.drew⟩
        case measure => simp [intOf]; omega
      · have n1 : (x != y) = true := by simpa using hxy
        have N3 := Lib.hid (show (if x = y then y else (-1 : Int)) = -1 from if_neg hxy)
        have hz := own_cell O.out k (by rw [tab_len]; exact hlt)
        generalize at0 (tab n fun j => if j < k then (if at0 a j = at0 b j then at0 b j else -1) else at0 b j) k = z at hz
        have fx := O.out.frozenAt k
        clear hxy HU
        go_wp2_with fail
        go_region_held3 (fun w' => w'.cell? ⟨ba, oa + k, none⟩ = some (.int .i64 x) ∧ w'.cell? ⟨bb, ob + k, none⟩ = some (.int .i64 y)) (first | exact ⟨hx, hy⟩ | go_keep)
          (fail)
        have O3 : Hid (wr.drew.ownsRow w.heap.size 3 1 (.slice (some ⟨gg, 0, none⟩) n c2) n ((tab n fun j => if j < k then (if at0 a j = at0 b j then at0 b j else -1) else at0 b j).map (Value.int .i64))) := own_below O.out (Below.refl _ _).drew (Nat.le_refl _)
        have B3 : Hid (Below w.heap.size w wr.drew) := BB.out.drew
        go_wp2_with fail
        go_roundw
        case rel =>
          refine ⟨k + 1, by omega, by go_num, ?_, B3.out.setCell hgg _⟩
          show World.ownsRow _ _ _ _ _ _ _
          rw [← HS.out, N3.out]
          exact own_put O3.out k _
        case measure => simp [intOf]; omega
    · obtain rfl : k = n := by omega
      have O4 : Hid (wr.ownsRow w.heap.size 3 1 (.slice A2 k c2) k ((accS a b).map (Value.int .i64))) := by
        show World.ownsRow _ _ _ _ _ _ _
        have h := O.out
        rw [tab_all] at h
        unfold accS
        rw [HN.out]
        exact h
      go_wp2
      go_ret
      obtain ⟨A3, c3, e3, R3⟩ := ReadsV.own O4.out
      injection e3 with e4 _ e6
      refine ⟨A3, c3, ?_, by rw [E.out]; exact R3, BB.out⟩
      rw [E.out, show (accS a b).length = k from (tab_len _ _).trans HN.out, ← e4, ← e6]
      rfl

end Go.Proofs.YtkjdgkndlfhhjaaDoor
