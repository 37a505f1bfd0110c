/- Contracts of the sum of two multisets. -/
import Derived.Test.YthpbgdeeajhbjaaDoorP
namespace Go.Proofs.YthpbgdeeajhbjaaDoor
open Go.RowKit

theorem addM_no {a b : List Int} (h : ¬ (multiB a = true ∧ multiB b = true ∧ a.length = b.length ∧ multiB (addS a b) = true)) : addM a b = [] := if_neg h
theorem addM_yes {a b : List Int} (h : multiB a = true ∧ multiB b = true ∧ a.length = b.length ∧ multiB (addS a b) = true) : addM a b = addS a b := if_pos h
theorem ownsRow_block {w : World} {base : Nat} {e : TypeId} {A : Option Addr} {n c : Nat} {xs : List Value} (h : w.ownsRow base e 1 (.slice A n c) n xs) (hn : 0 < n) : ∃ g, A = some ⟨g, 0, none⟩ ∧ base ≤ g ∧ w.frozen? ⟨g, 0, none⟩ = w.frozen? ⟨g, 0, none⟩ := by
  rcases h.2 with ⟨h1, h2⟩ | ⟨g, cap, cur, h1, h2, _⟩
  · injection h1; omega
  · injection h1 with e1
    exact ⟨g, e1, h2, rfl⟩
theorem clone_law2 (A : Option Addr) (a : List Int) (ca : Nat) (w : World) (ra : ReadsV w A a) (hl : a.length * 8 ≤ 140737488351232) :
    Calls Tryd.prog 50 #[.slice A a.length ca] w fun e w' => ∃ A2 c2, e = .returned (.slice A2 a.length c2) ∧ Hid (w'.ownsRow w.heap.size 3 1 (.slice A2 a.length c2) a.length ((tab a.length fun j => if j < 0 then 0 else at0 a j).map (Value.int .i64))) ∧ Hid (Below w.heap.size w w') := by
  refine (clone_law A a ca w ra hl).mono ?_
  rintro e w1 ⟨v, rfl, hown, hb⟩
  obtain ⟨A2, c2, rfl, R2⟩ := ReadsV.own hown
  refine ⟨A2, c2, rfl, ?_, hb⟩
  show World.ownsRow _ _ _ _ _ _ _
  rw [tab_none, tab_self]
  exact hown

set_option maxHeartbeats 4000000 in
set_option maxRecDepth 100000 in
theorem sum_law (A B : Option Addr) (a b : List Int) (ca cb M : Nat) (w : World) (ra : ReadsV w A a) (rb : ReadsV w B b) (hM : w.cell? ⟨M, 0, none⟩ = some (.slice B b.length cb)) (hl : a.length * 8 ≤ 140737488351232) (hm : b.length * 8 ≤ 140737488351232) :
    Calls Tryd.prog 35 #[.slice A a.length ca, .slice (some ⟨M, 0, none⟩) 1 1] w (IsPost w.heap.size w (addM a b)) := by
  have M1 := Lib.hid (multi_law A a ca w ra hl)
  have hMs := World.block_lt_of_cell? w ⟨M, 0, none⟩ (by rw [hM])
  cases h1 : multiB a
  · have E : Hid (addM a b = []) := addM_no fun h => by rw [h1] at h; exact absurd h.1 (by decide)
    rw [h1] at M1
    rw [E.out]
    clear ra rb h1 E
    generalize a.length = n at *
    generalize b.length = m at *
    go_enter Tryd.func35, Tryd.ntmps35
    go_wp2_with fail
    refine M1.out.mono ?_
    rintro e w1 ⟨rfl, rfl⟩
    go_wp2_with fail
    go_ret
    exact ⟨none, 0, rfl, ReadsV.nil _ _, Below.refl _ _⟩
  rw [h1] at M1
  have C := Lib.hid (clone_law2 A a ca w ra hl)
  have M2 := Lib.hid (fun W (h : Below w.heap.size w W) => multi_law B b cb W (rb.below h (Nat.le_refl _)) hm)
  have M3 := Lib.hid (fun A2 c2 W (h : ReadsV W A2 (addS a b)) => multi_law A2 (addS a b) c2 W h (by rw [show (addS a b).length = a.length from tab_len _ _]; exact hl))
  have RB := Lib.hid rb
  have HM := Lib.hid hM
  by_cases hlen : a.length = b.length
  rotate_left
  · rw [addM_no fun h => hlen h.2.2.1]
    clear ra rb h1 M2 M3
    clear hM
    generalize a.length = n at *
    generalize b.length = m at *
    have h2 : ((m : Int) != (n : Int)) = true := by simp; omega
    go_enter Tryd.func35, Tryd.ntmps35
    go_wp2_with fail
    refine M1.out.mono ?_
    rintro e w1 ⟨rfl, rfl⟩
    go_wp2_with fail
    refine C.out.mono ?_
    rintro e w1 ⟨A2, c2, rfl, O1, B1⟩
    have hc : w1.cell? ⟨M, 0, none⟩ = some (.slice B m cb) := (B1.out.cell hMs).trans HM.out
    go_wp2_with fail
    refine wp_loop_rounds 1 ?_
    rw [rounds_succ]
    go_wp2_with fail
    go_ret
    exact ⟨none, 0, rfl, ReadsV.nil _ _, B1.out⟩
  cases h2 : multiB b
  · rw [addM_no fun h => by rw [h2] at h; exact absurd h.2.1 (by decide)]
    rw [h2, ← hlen] at M2
    rw [← hlen] at HM
    clear ra rb h1 h2 M3 RB hM hlen hm
    generalize a.length = n at *
    go_enter Tryd.func35, Tryd.ntmps35
    go_wp2_with fail
    refine M1.out.mono ?_
    rintro e w1 ⟨rfl, rfl⟩
    go_wp2_with fail
    refine C.out.mono ?_
    rintro e w1 ⟨A2, c2, rfl, O1, B1⟩
    have hc : w1.cell? ⟨M, 0, none⟩ = some (.slice B n cb) := (B1.out.cell hMs).trans HM.out
    go_wp2_with fail
    refine wp_loop_rounds 1 ?_
    rw [rounds_succ]
    go_wp2_with fail
    refine (M2.out w1 B1.out).mono ?_
    rintro e w2 ⟨rfl, rfl⟩
    go_wp2_with fail
    go_ret
    exact ⟨none, 0, rfl, ReadsV.nil _ _, B1.out⟩
  have KA := Lib.hid (multi_iff.1 h1)
  have KB := Lib.hid (multi_iff.1 h2)
  have EY : Hid (multiB (addS a b) = true → addM a b = addS a b) := fun h => addM_yes ⟨h1, h2, hlen, h⟩
  have EN : Hid (multiB (addS a b) = false → addM a b = []) := fun h => addM_no fun h' => by rw [h] at h'; exact absurd h'.2.2.2 (by decide)
  rw [h2, ← hlen] at M2
  rw [← hlen] at HM
  have HL := Lib.hid hlen
  clear ra rb h1 h2 hM hlen hm
  rw [show (addS a b).length = a.length from tab_len _ _] at M3
  generalize hn : a.length = n at *
  have HN := Lib.hid hn
  clear hn
  go_enter Tryd.func35, Tryd.ntmps35
  go_wp2_with fail
  refine M1.out.mono ?_
  rintro e w1 ⟨rfl, rfl⟩
  go_wp2_with fail
  refine C.out.mono ?_
  rintro e w1 ⟨A2, c2, rfl, O1, B1⟩
  have hc : w1.cell? ⟨M, 0, none⟩ = some (.slice B n cb) := (B1.out.cell hMs).trans HM.out
  go_wp2_with fail
  refine wp_loop_rounds 2 ?_
  rw [rounds_succ]
  go_wp2_with fail
  refine (M2.out w1 B1.out).mono ?_
  rintro e w2 ⟨rfl, rfl⟩
  go_wp2_with fail
  go_loopw [33] (fun q wr => ∃ k : Nat, k ≤ n ∧ q = .int .i64 k ∧ Hid (wr.ownsRow w.heap.size 3 1 (.slice A2 n c2) n ((tab n fun j => if j < k then at0 a j + at0 b j else at0 a j).map (Value.int .i64))) ∧ Hid (Below w.heap.size w wr)) (fun q _ => n - (intOf q).toNat)
  case atStart => exact ⟨0, by omega, rfl, by show World.ownsRow _ _ _ _ _ _ _; rw [tab_none]; have h := O1.out; rw [tab_none] at h; exact h, B1⟩
  case round =>
    obtain ⟨k, hk, rfl, O, BB⟩ := hrel
    by_cases hlt : k < n
    · obtain ⟨gg, hA2, hgg, _⟩ := ownsRow_block O.out (by omega)
      subst hA2
      obtain ⟨bb, ob, e2, hy⟩ := at_of_reads (RB.out.below BB.out (Nat.le_refl _)) k (by rw [← HL.out]; exact hlt)
      subst e2
      have hx := own_cell O.out k (by rw [tab_len]; exact hlt)
      rw [tab_at_set n k _ _ hlt] at hx
      have fx := O.out.frozenAt k
      have b1 := KA.out k hlt
      have b2 := KB.out k (by rw [← HL.out]; exact hlt)
      have HS := Lib.hid (tab_set n k (fun j => at0 a j + at0 b j) (at0 a))
      generalize hxa : at0 a k = x at b1 hx
      generalize hyb : at0 b k = y at b2 hy
      have HX := Lib.hid hxa
      have HY := Lib.hid hyb
      clear hxa hyb
      go_wp2
      go_roundw
      case rel =>
        refine ⟨k + 1, by omega, by go_num, ?_, BB.out.setCell hgg _⟩
        show World.ownsRow _ _ _ _ _ _ _
        rw [← HS.out, ← HX.out, ← HY.out]
        exact own_put O.out k _
      case measure => simp [intOf]; omega
    · obtain rfl : k = n := by omega
      have O2 : Hid (wr.ownsRow w.heap.size 3 1 (.slice A2 k c2) k ((addS a b).map (Value.int .i64))) := by
        show World.ownsRow _ _ _ _ _ _ _
        have h := O.out
        rw [tab_all] at h
        unfold addS
        rw [HN.out]
        exact h
      have R2 : Hid (ReadsV wr A2 (addS a b)) := by
        obtain ⟨A3, c3, e3, R3⟩ := ReadsV.own O2.out
        injection e3 with e4
        rw [e4]
        exact R3
      have C3 := Lib.hid (M3.out A2 c2 wr R2.out)
      clear O
      cases h3 : multiB (addS a b)
      · rw [h3] at C3
        have E := Lib.hid (EN.out h3)
        clear h3
        go_wp2_with fail
        refine C3.out.mono ?_
        rintro e w2 ⟨rfl, rfl⟩
        go_wp2_with fail
        go_ret
        exact ⟨none, 0, by rw [E.out]; rfl, by rw [E.out]; exact ReadsV.nil _ _, BB.out⟩
      · rw [h3] at C3
        have E := Lib.hid (EY.out h3)
        clear h3
        go_wp2_with fail
        refine C3.out.mono ?_
        rintro e w2 ⟨rfl, rfl⟩
        go_wp2_with fail
        rw [rounds_succ]
        go_wp2_with fail
        go_ret
        refine ⟨A2, c2, ?_, by rw [E.out]; exact R2.out, BB.out⟩
        rw [E.out, show (addS a b).length = k from (tab_len _ _).trans HN.out]
        rfl
end Go.Proofs.YthpbgdeeajhbjaaDoor
