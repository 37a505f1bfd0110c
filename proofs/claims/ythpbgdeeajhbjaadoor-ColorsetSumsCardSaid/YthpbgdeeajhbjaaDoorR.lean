/- Contracts of Add and Sub. -/
import Derived.Test.YthpbgdeeajhbjaaDoorQ
import Derived.StillTailTactics
namespace Go.Proofs.YthpbgdeeajhbjaaDoor
open Go.RowKit

set_option maxHeartbeats 1000000 in
theorem add_law (A B : Option Addr) (a b : List Int) (ca cb : Nat) (w : World) (ra : ReadsV w A a) (rb : ReadsV w B b) (hl : a.length * 8 ≤ 140737488351232) (hm : b.length * 8 ≤ 140737488351232) :
    Calls Tryd.prog 21 #[.slice A a.length ca, .slice B b.length cb] w (IsPost w.heap.size w (addM a b)) := by
  have C := Lib.hid (sum_law A B a b ca cb w.heap.size (w.alloc (.cells #[.slice B b.length cb] 34)) (ra.alloc _) (rb.alloc _) (by rw [World.cell?_alloc_new]; rfl) hl hm)
  clear ra rb
  generalize a.length = n at *
  generalize b.length = m at *
  go_enter Tryd.func21, Tryd.ntmps21
  go_wp2_with fail
  refine C.out.mono ?_
  rintro e w1 ⟨A2, c2, rfl, R, B1⟩
  go_wp2
  go_ret
  exact ⟨A2, c2, rfl, R, ((Below.refl _ _).alloc (Nat.le_refl _) _).trans (B1.mono (by simp))⟩

set_option maxHeartbeats 4000000 in
set_option maxRecDepth 100000 in
theorem sub_law (A B : Option Addr) (a b : List Int) (ca cb : Nat) (w : World) (ra : ReadsV w A a) (rb : ReadsV w B b) (hl : a.length * 8 ≤ 140737488351232) (hm : b.length * 8 ≤ 140737488351232) :
    Calls Tryd.prog 25 #[.slice A a.length ca, .slice B b.length cb] w (IsPost w.heap.size w (subM a b)) := by
  have C := Lib.hid (leq_law B A b a cb ca w rb ra hm hl)
  cases h : leqM b a
  · have E : Hid (subM a b = []) := by show _ = _; unfold subM; rw [if_neg (by rw [h]; decide)]
    rw [h] at C
    rw [E.out]
    clear ra rb h E
    generalize a.length = n at *
    generalize b.length = m at *
    go_enter Tryd.func25, Tryd.ntmps25
    go_wp2_with fail
    refine C.out.mono ?_
    rintro e w1 ⟨rfl, B1⟩
    go_wp2
    go_ret
    exact ⟨none, 0, rfl, ReadsV.nil _ _, B1⟩
  obtain ⟨hlen, h1, h2, hle⟩ := leqM_of h
  have E : Hid (subM a b = subS a b) := by show _ = _; unfold subM; rw [if_pos h]
  rw [h] at C
  have KA := Lib.hid (multi_iff.1 h2)
  have KB := Lib.hid (multi_iff.1 h1)
  have RA := Lib.hid ra
  have RB := Lib.hid rb
  have HL := Lib.hid hlen
  clear ra rb h h1 h2 hle hm
  rw [hlen] at C ⊢
  clear hlen
  obtain ⟨i0, hi, hz0, hz1, hz2⟩ := info_parts infoI
  have HI := Lib.hid hi
  have HZ0 := Lib.hid hz0
  have HZ1 := Lib.hid hz1
  have HZ2 := Lib.hid hz2
  clear hi hz0 hz1 hz2
  generalize hn : a.length = n at *
  have HN := Lib.hid hn
  clear hn
  generalize hg : w.heap.size = g at *
  have HG := Lib.hid hg
  clear hg
  go_enter Tryd.func25, Tryd.ntmps25
  go_wp2_with fail
  refine C.out.mono ?_
  rintro e w1 ⟨rfl, B1'⟩
  have B1 := Lib.hid B1'
  clear B1'
  have hs1 := B1.out.size
  rw [HG.out] at hs1
  go_wp2_with (at_make; refine wpList_make_full _ rfl _ _ 34 rfl w1.heap.size 3 i0 (.int .i64 0) 1 Tryd.underlying34 HI.out HZ0.out HZ1.out .i64 .i64 _ _ n rfl rfl rfl rfl (by rw [HZ2.out]; omega) (by unfold maxLen; omega) (Nat.le_refl _) ?_; intro w2 hown2 hgrow2)
  have O2 : Hid (w2.ownsRow w1.heap.size 3 1 (.slice (some ⟨w1.heap.size, 0, none⟩) n n) n ((tab n fun j => if j < 0 then at0 a j - at0 b j else 0).map (Value.int .i64))) := by
    show World.ownsRow _ _ _ _ _ _ _
    rw [tab_none]
    have h : w2.ownsRow w1.heap.size 3 1 (.slice (some ⟨w1.heap.size, 0, none⟩) n n) n (madeCells #[.int .i64 0] (n * 1)).toList := hown2
    rw [toList_madeCells_one, Nat.mul_one] at h
    have e : (tab n fun _ => 0).map (Value.int .i64) = List.replicate n (.int .i64 0) := by
      unfold tab
      rw [List.map_map]
      exact List.map_const'.trans (by rw [List.length_range])
    rw [e]
    exact h
  have B2 : Hid (Below g w w2) := B1.out.grown hgrow2 hs1 (fun _ h => by cases h)
  clear hown2 hgrow2
  go_wp2_with fail
  go_loopw [16] (fun q wr => ∃ k : Nat, k ≤ n ∧ q = .int .i64 k ∧ Hid (wr.ownsRow w1.heap.size 3 1 (.slice (some ⟨w1.heap.size, 0, none⟩) n n) n ((tab n fun j => if j < k then at0 a j - at0 b j else 0).map (Value.int .i64))) ∧ Hid (Below g w wr)) (fun q _ => n - (intOf q).toNat)
  case atStart => exact ⟨0, by omega, rfl, O2, B2⟩
  case round =>
    obtain ⟨k, hk, rfl, O, BB⟩ := hrel
    by_cases hlt : k < n
    · obtain ⟨ba, oa, e1, hx⟩ := at_of_reads (RA.out.below BB.out (by rw [HG.out]; exact Nat.le_refl _)) k (by rw [HN.out]; exact hlt)
      subst e1
      obtain ⟨bb, ob, e2, hy⟩ := at_of_reads (RB.out.below BB.out (by rw [HG.out]; exact Nat.le_refl _)) k (by rw [HL.out]; exact hlt)
      subst e2
      have hz := own_cell O.out k (by rw [tab_len]; exact hlt)
      have fx := O.out.frozenAt k
      have b1 := KA.out k hlt
      have b2 := KB.out k (by rw [HL.out]; exact hlt)
      have HS := Lib.hid (tab_set n k (fun j => at0 a j - at0 b j) (fun _ => 0))
      generalize hxa : at0 a k = x at b1 hx
      generalize hyb : at0 b k = y at b2 hy
      generalize at0 (tab n fun j => if j < k then at0 a j - at0 b j else 0) k = z at hz
      have HX := Lib.hid hxa
      have HY := Lib.hid hyb
      clear hxa hyb
      go_wp2_with fail
      go_still_tail 12, (by kernel_rfl)
      change wpList _ _ _ _ _ wr.drew
      have O3 : Hid (wr.drew.ownsRow w1.heap.size 3 1 (.slice (some ⟨w1.heap.size, 0, none⟩) n n) n ((tab n fun j => if j < k then at0 a j - at0 b j else 0).map (Value.int .i64))) := own_below O.out (Below.refl _ _).drew (Nat.le_refl _)
      have B3 : Hid (Below g w wr.drew) := BB.out.drew
      clear hx hy hz fx O BB
      generalize wr.drew = w3 at *
      have hz := own_cell O3.out k (by rw [tab_len]; exact hlt)
      have fx := O3.out.frozenAt k
      generalize at0 (tab n fun j => if j < k then at0 a j - at0 b j else 0) k = z at hz
      go_wp2
      go_roundw
      case rel =>
        refine ⟨k + 1, by omega, by go_num, ?_, B3.out.setCell hs1 _⟩
        show World.ownsRow _ _ _ _ _ _ _
        rw [← HS.out, ← HX.out, ← HY.out]
        exact own_put O3.out k _
      case measure => simp [intOf]; omega
    · obtain rfl : k = n := by omega
      have O2 : Hid (wr.ownsRow w1.heap.size 3 1 (.slice (some ⟨w1.heap.size, 0, none⟩) k k) k ((subS a b).map (Value.int .i64))) := by
        show World.ownsRow _ _ _ _ _ _ _
        have h := O.out
        rw [tab_all] at h
        unfold subS
        rw [HN.out]
        exact h
      go_wp2
      go_ret
      obtain ⟨A3, c3, e3, R3⟩ := ReadsV.own O2.out
      injection e3 with e4 _ e6
      refine ⟨A3, c3, ?_, by rw [E.out]; exact R3, BB.out⟩
      rw [E.out, show (subS a b).length = k from (tab_len _ _).trans HN.out, ← e4, ← e6]
      rfl
end Go.Proofs.YthpbgdeeajhbjaaDoor
