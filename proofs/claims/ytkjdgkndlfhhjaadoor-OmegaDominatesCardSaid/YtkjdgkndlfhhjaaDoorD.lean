/- The order of extended markings, by the program and by the reference. -/
import Derived.Test.YtkjdgkndlfhhjaaDoorC
namespace Go.Proofs.YtkjdgkndlfhhjaaDoor
open Go.RowKit

set_option maxHeartbeats 1000000 in
theorem mvalid_law (A : Option Addr) (zs : List Int) (cap : Nat) (w : World) (hr : ReadsV w A zs) (hl : zs.length * 8 ≤ 140737488351232) :
    Calls Tryd.prog 32 #[.slice A zs.length cap, .int .i64 zs.length] w fun e w' => e = .returned (.bool (natW zs)) ∧ w = w' := by
  generalize hS : natW zs = S
  have HS := Lib.hid hS
  clear hS
  have HR := Lib.hid hr
  clear hr
  generalize hn : zs.length = n at *
  have HN := Lib.hid hn
  clear hn
  have e0 : (n != n) = false := by simp
  have e1 : ((n : Int) != (n : Int)) = false := by simp
  go_enter Tryd.func32, Tryd.ntmps32
  go_wp2
  go_loop [11] (fun q => ∃ k : Nat, k ≤ n ∧ q = .int .i64 k ∧ Hid (∀ j, j < k → NatP (at0 zs j))) (fun q => n - (intOf q).toNat)
  case atStart => exact ⟨0, by omega, rfl, fun j hj => absurd hj (by omega)⟩
  case round =>
    obtain ⟨k, hk, rfl, HM⟩ := hrel
    by_cases hlt : k < n
    · obtain ⟨b, off, rfl, hcx⟩ := at_of_reads HR.out k (by rw [HN.out]; exact hlt)
      have HF : Hid (¬ (NatP (at0 zs k)) → false = S) := by
        intro h
        rw [← HS.out]
        unfold natW
        exact (all_no k (by rw [HN.out]; exact hlt) (by rw [decide_eq_false_iff_not]; exact h)).symm
      have HT : Hid (NatP (at0 zs k) → ∀ j, j < k + 1 → NatP (at0 zs j)) := fun h j hj => by
        by_cases e : j < k
        · exact HM.out j e
        · obtain rfl : j = k := by omega
          exact h
      clear HM
      generalize at0 zs k = z at *
      unfold NatP at HF HT
      by_cases z1 : z < 0
      · have G := Lib.hid (HF.out (by omega))
        clear HT HF
        go_wp2
        go_ret
        exact ⟨ret_b G.out, rfl⟩
      · have z4 : 0 ≤ z := by omega
        by_cases z3 : 1048576 < z
        · have G := Lib.hid (HF.out (by omega))
          clear HT HF
          go_wp2
          go_ret
          exact ⟨ret_b G.out, rfl⟩
        · have z5 : z ≤ 1048576 := by omega
          clear z1 z3
          have G := Lib.hid (HT.out (by omega))
          clear HT HF
          go_wp2
          go_round
          case rel => exact ⟨k + 1, by omega, by go_num, G⟩
          case measure => simp [intOf]; omega
    · have E : Hid (true = S) := by
        show _ = _
        rw [← HS.out]
        unfold natW
        refine (all_iff.2 fun j hj => ?_).symm
        have := HM.out j (by rw [HN.out] at hj; omega)
        exact decide_eq_true this
      go_wp2
      go_ret
      exact ⟨ret_b E.out, rfl⟩

theorem rmore_law (x y : Int) (w : World) : Calls Tryd.prog 35 #[.int .i64 x, .int .i64 y] w fun e w' => e = .returned (.bool (moreB x y)) ∧ w = w' := by
  by_cases h1 : x = -1
  · have e1 : (x == -1) = true := by simpa using h1
    by_cases h2 : y = -1
    · have E : moreB x y = false := more_iff.2 (.inl h2)
      rw [E]
      have e2 : (y != -1) = false := by simpa using h2
      clear E h1 h2
      go_enter Tryd.func35, Tryd.ntmps35
      go_wp2
      go_ret
      exact ⟨rfl, rfl⟩
    · have E : moreB x y = true := more_yes.2 ⟨h2, .inl h1⟩
      rw [E]
      have e2 : (y != -1) = true := by simpa using h2
      clear E h1 h2
      go_enter Tryd.func35, Tryd.ntmps35
      go_wp2
      go_ret
      exact ⟨rfl, rfl⟩
  have e1 : (x == -1) = false := by simpa using h1
  by_cases h2 : y = -1
  · have E : moreB x y = false := more_iff.2 (.inl h2)
    rw [E]
    have e2 : (y == -1) = true := by simpa using h2
    clear E h1 h2
    go_enter Tryd.func35, Tryd.ntmps35
    go_wp2
    go_ret
    exact ⟨rfl, rfl⟩
  have e2 : (y == -1) = false := by simpa using h2
  by_cases h3 : y < x
  · have E : moreB x y = true := more_yes.2 ⟨h2, .inr h3⟩
    rw [E]
    clear E h1 h2
    go_enter Tryd.func35, Tryd.ntmps35
    go_wp2
    go_ret
    exact ⟨rfl, rfl⟩
  · have E : moreB x y = false := more_iff.2 (.inr ⟨h1, by omega⟩)
    rw [E]
    have h4 : x ≤ y := by omega
    clear E h1 h2 h3
    go_enter Tryd.func35, Tryd.ntmps35
    go_wp2
    go_ret
    exact ⟨ret_b (decide_eq_false (by omega)), rfl⟩

def belW (a b : List Int) : Bool := (List.range a.length).all fun k => !moreB (at0 a k) (at0 b k)
theorem leqW_eq (a b : List Int) : leqW a b = (decide (a.length = b.length) && valW a && valW b && belW a b) := rfl
theorem bel_yes {a b : List Int} (h : ∀ k, k < a.length → moreB (at0 a k) (at0 b k) = false) : belW a b = true := by
  unfold belW
  rw [List.all_eq_true]
  intro k hk
  simp [h k (List.mem_range.1 hk)]
theorem bel_no {a b : List Int} (k : Nat) (hk : k < a.length) (h : moreB (at0 a k) (at0 b k) = true) : belW a b = false := by
  unfold belW
  rw [List.all_eq_false]
  exact ⟨k, List.mem_range.2 hk, by simp [h]⟩

theorem below_ne (A B : Option Addr) (n m ca cb : Nat) (w : World) (h : n ≠ m) :
    Calls Tryd.prog 20 #[.slice A n ca, .slice B m cb] w (BPost w.heap.size w false) := by
  have h1 : (n != m) = true := by simpa using h
  have h2 : ((n : Int) != (m : Int)) = true := by simp; omega
  go_enter Tryd.func20, Tryd.ntmps20
  go_wp2_with fail
  go_ret
  exact ⟨rfl, Below.refl _ _⟩

set_option maxHeartbeats 2000000 in
theorem below_law (A B : Option Addr) (a b : List Int) (ca cb : Nat) (w : World) (ra : ReadsV w A a) (rb : ReadsV w B b) (hlen : a.length = b.length) (hl : a.length * 8 ≤ 140737488351232) :
    Calls Tryd.prog 20 #[.slice A a.length ca, .slice B b.length cb] w (BPost w.heap.size w (belW a b)) := by
  rw [← hlen]
  generalize hP : belW a b = P
  have HP := Lib.hid hP
  clear hP
  have RA := Lib.hid ra
  have RB := Lib.hid rb
  generalize hg : w.heap.size = g at *
  have HG := Lib.hid hg
  clear hg
  have HL := Lib.hid hlen
  clear hlen
  generalize hn : a.length = n at *
  have HN := Lib.hid hn
  clear hn
  have C := Lib.hid (fun x y W => compare_law x y W)
  go_enter Tryd.func20, Tryd.ntmps20
  go_wp2_with fail
  go_loopw [13] (fun q wr => ∃ k : Nat, k ≤ n ∧ q = .int .i64 k ∧ Hid (Below g w wr) ∧ Hid (∀ j, j < k → moreB (at0 a j) (at0 b j) = false)) (fun q _ => n - (intOf q).toNat)
  case atStart => exact ⟨0, by omega, rfl, Below.refl _ _, fun j hj => absurd hj (by omega)⟩
  case round =>
    obtain ⟨k, hk, rfl, B1, HT⟩ := hrel
    by_cases hlt : k < n
    · obtain ⟨ba, oa, e1, hx⟩ := at_of_reads (RA.out.below B1.out (by rw [HG.out]; exact Nat.le_refl _)) k (by rw [HN.out]; exact hlt)
      subst e1
      obtain ⟨bb, ob, e2, hy⟩ := at_of_reads (RB.out.below B1.out (by rw [HG.out]; exact Nat.le_refl _)) k (by rw [← HL.out]; exact hlt)
      subst e2
      have HX : Hid (moreB (at0 a k) (at0 b k) = true → P = false) := fun h => HP.out.symm.trans (bel_no k (by rw [HN.out]; exact hlt) h)
      have HY : Hid (moreB (at0 a k) (at0 b k) = false → ∀ j, j < k + 1 → moreB (at0 a j) (at0 b j) = false) := fun h j hj => by
        by_cases e : j < k
        · exact HT.out j e
        · obtain rfl : j = k := by omega
          exact h
      generalize at0 a k = x at *
      generalize at0 b k = y at *
      have C1 := Lib.hid (C.out x y)
      rw [cmp_more] at HX HY
      generalize cmpW x y = c at *
      by_cases hc : 0 < c
      · have E := Lib.hid (HX.out (decide_eq_true hc))
        go_wp2_with fail
        go_region_held3 (fun w' => w'.cell? ⟨ba, oa + k, none⟩ = some (.int .i64 x) ∧ w'.cell? ⟨bb, ob + k, none⟩ = some (.int .i64 y)) (first | exact ⟨hx, hy⟩ | go_keep)
          (first
            | (go_at_call 19; refine (C1.out _).mono ?_; rintro e w2 ⟨rfl, rfl⟩))
        go_wp2
        go_ret
        exact ⟨by rw [E.out]; rfl, B1.out.drew⟩
      · have hc' : c ≤ 0 := by omega
        have E := Lib.hid (HY.out (decide_eq_false hc))
        clear hc
        go_wp2_with fail
        go_region_held3 (fun w' => w'.cell? ⟨ba, oa + k, none⟩ = some (.int .i64 x) ∧ w'.cell? ⟨bb, ob + k, none⟩ = some (.int .i64 y)) (first | exact ⟨hx, hy⟩ | go_keep)
          (first
            | (go_at_call 19; refine (C1.out _).mono ?_; rintro e w2 ⟨rfl, rfl⟩))
        go_wp2
        go_roundw
        case rel => exact ⟨k + 1, by omega, by go_num, B1.out.drew, E⟩
        case measure => simp [intOf]; omega
    · have E : Hid (P = true) := by
        refine HP.out.symm.trans (bel_yes fun j hj => HT.out j ?_)
        rw [HN.out] at hj
        omega
      go_wp2
      go_ret
      exact ⟨by rw [E.out]; rfl, B1.out⟩

theorem leq_law (A B : Option Addr) (a b : List Int) (ca cb : Nat) (w : World) (ra : ReadsV w A a) (rb : ReadsV w B b) (hl : a.length * 8 ≤ 140737488351232) (hm : b.length * 8 ≤ 140737488351232) :
    Calls Tryd.prog 10 #[.slice A a.length ca, .slice B b.length cb] w (BPost w.heap.size w (leqW a b)) := by
  have M1 := Lib.hid (valid_law A a ca w ra hl)
  have M2 := Lib.hid (valid_law B b cb w rb hm)
  have M3 : Hid (Calls Tryd.prog 20 #[.slice A a.length ca, .slice B b.length cb] w (BPost w.heap.size w (decide (a.length = b.length) && belW a b))) := by
    by_cases h : a.length = b.length
    · rw [decide_eq_true h, Bool.true_and]
      exact below_law A B a b ca cb w ra rb h hl
    · rw [decide_eq_false h, Bool.false_and]
      exact below_ne A B a.length b.length ca cb w h
  rw [leqW_eq]
  have e0 : ∀ p q r s : Bool, (p && q && r && s) = (q && (r && (p && s))) := by decide
  rw [e0]
  clear e0 ra rb
  generalize (decide (a.length = b.length) && belW a b) = P at *
  generalize a.length = n at *
  generalize b.length = m at *
  cases h1 : valW a
  · rw [h1] at M1
    go_enter Tryd.func10, Tryd.ntmps10
    go_wp2_with fail
    refine M1.out.mono ?_
    rintro e w1 ⟨rfl, rfl⟩
    go_wp2_with fail
    go_ret
    exact ⟨rfl, Below.refl _ _⟩
  rw [h1] at M1
  cases h2 : valW b
  · rw [h2] at M2
    go_enter Tryd.func10, Tryd.ntmps10
    go_wp2_with fail
    refine M1.out.mono ?_
    rintro e w1 ⟨rfl, rfl⟩
    go_wp2_with fail
    refine M2.out.mono ?_
    rintro e w1 ⟨rfl, rfl⟩
    go_wp2_with fail
    go_ret
    exact ⟨rfl, Below.refl _ _⟩
  rw [h2] at M2
  go_enter Tryd.func10, Tryd.ntmps10
  go_wp2_with fail
  refine M1.out.mono ?_
  rintro e w1 ⟨rfl, rfl⟩
  go_wp2_with fail
  refine M2.out.mono ?_
  rintro e w1 ⟨rfl, rfl⟩
  go_wp2_with fail
  refine M3.out.mono ?_
  rintro e w1 ⟨rfl, K⟩
  go_wp2_with fail
  go_ret
  exact ⟨rfl, K⟩

set_option maxHeartbeats 2000000 in
theorem rleq_law (A B : Option Addr) (a b : List Int) (ca cb : Nat) (w : World) (ra : ReadsV w A a) (rb : ReadsV w B b) (hl : a.length * 8 ≤ 140737488351232) (hm : b.length * 8 ≤ 140737488351232) :
    Calls Tryd.prog 23 #[.slice A a.length ca, .slice B b.length cb] w (BPost w.heap.size w (leqW a b)) := by
  by_cases hlen : a.length = b.length
  rotate_left
  · have M1 := Lib.hid (rvalid_ne A a.length b.length ca w hlen)
    rw [leqW_no fun h => hlen h.1]
    clear ra rb
    generalize a.length = n at *
    generalize b.length = m at *
    go_enter Tryd.func23, Tryd.ntmps23
    go_wp2_with fail
    refine M1.out.mono ?_
    rintro e w1 ⟨rfl, rfl⟩
    go_wp2_with fail
    go_ret
    exact ⟨rfl, Below.refl _ _⟩
  have M1 := Lib.hid (rvalid_law A a ca w ra hl)
  have M2 := Lib.hid (rvalid_law B b cb w rb hm)
  rw [← hlen] at M2 ⊢
  cases h1 : valW a
  · rw [leqW_no fun h => by rw [h1] at h; exact absurd h.2.1 (by decide)]
    rw [h1] at M1
    clear ra rb hlen
    generalize a.length = n at *
    go_enter Tryd.func23, Tryd.ntmps23
    go_wp2_with fail
    refine M1.out.mono ?_
    rintro e w1 ⟨rfl, rfl⟩
    go_wp2_with fail
    go_ret
    exact ⟨rfl, Below.refl _ _⟩
  rw [h1] at M1
  cases h2 : valW b
  · rw [leqW_no fun h => by rw [h2] at h; exact absurd h.2.2 (by decide)]
    rw [h2] at M2
    clear ra rb hlen
    generalize a.length = n at *
    go_enter Tryd.func23, Tryd.ntmps23
    go_wp2_with fail
    refine M1.out.mono ?_
    rintro e w1 ⟨rfl, rfl⟩
    go_wp2_with fail
    refine M2.out.mono ?_
    rintro e w1 ⟨rfl, rfl⟩
    go_wp2_with fail
    go_ret
    exact ⟨rfl, Below.refl _ _⟩
  rw [h2] at M2
  have HP' : leqW a b = belW a b := by rw [leqW_eq, h1, h2, decide_eq_true hlen]; rfl
  rw [HP']
  clear HP' h1 h2 hm
  generalize hP : belW a b = P
  have HP := Lib.hid hP
  clear hP
  have RA := Lib.hid ra
  have RB := Lib.hid rb
  clear ra rb
  generalize hg : w.heap.size = g at *
  have HG := Lib.hid hg
  clear hg
  have HL := Lib.hid hlen
  clear hlen
  generalize hn : a.length = n at *
  have HN := Lib.hid hn
  clear hn
  have C := Lib.hid (fun x y W => rmore_law x y W)
  go_enter Tryd.func23, Tryd.ntmps23
  go_wp2_with fail
  refine M1.out.mono ?_
  rintro e w1 ⟨rfl, rfl⟩
  go_wp2_with fail
  refine M2.out.mono ?_
  rintro e w1 ⟨rfl, rfl⟩
  go_wp2_with fail
  go_loopw [5] (fun q wr => ∃ k : Nat, k ≤ n ∧ q = .int .i64 k ∧ Hid (Below g w wr) ∧ Hid (∀ j, j < k → moreB (at0 a j) (at0 b j) = false)) (fun q _ => n - (intOf q).toNat)
  case atStart => exact ⟨0, by omega, rfl, Below.refl _ _, fun j hj => absurd hj (by omega)⟩
  case round =>
    obtain ⟨k, hk, rfl, B1, HT⟩ := hrel
    by_cases hlt : k < n
    · obtain ⟨ba, oa, e1, hx⟩ := at_of_reads (RA.out.below B1.out (by rw [HG.out]; exact Nat.le_refl _)) k (by rw [HN.out]; exact hlt)
      subst e1
      obtain ⟨bb, ob, e2, hy⟩ := at_of_reads (RB.out.below B1.out (by rw [HG.out]; exact Nat.le_refl _)) k (by rw [← HL.out]; exact hlt)
      subst e2
      have HX : Hid (moreB (at0 a k) (at0 b k) = true → P = false) := fun h => HP.out.symm.trans (bel_no k (by rw [HN.out]; exact hlt) h)
      have HY : Hid (moreB (at0 a k) (at0 b k) = false → ∀ j, j < k + 1 → moreB (at0 a j) (at0 b j) = false) := fun h j hj => by
        by_cases e : j < k
        · exact HT.out j e
        · obtain rfl : j = k := by omega
          exact h
      generalize at0 a k = x at *
      generalize at0 b k = y at *
      have C1 := Lib.hid (C.out x y)
      generalize moreB x y = c at *
      cases c
      · have E := Lib.hid (HY.out rfl)
        go_wp2_with fail
        go_region_held3 (fun w' => w'.cell? ⟨ba, oa + k, none⟩ = some (.int .i64 x) ∧ w'.cell? ⟨bb, ob + k, none⟩ = some (.int .i64 y)) (first | exact ⟨hx, hy⟩ | go_keep)
          (first
            | (go_at_call 35; refine (C1.out _).mono ?_; rintro e w2 ⟨rfl, rfl⟩))
        go_wp2
        go_roundw
        case rel => exact ⟨k + 1, by omega, by go_num, B1.out.drew, E⟩
        case measure => simp [intOf]; omega
      · have E := Lib.hid (HX.out rfl)
        go_wp2_with fail
        go_region_held3 (fun w' => w'.cell? ⟨ba, oa + k, none⟩ = some (.int .i64 x) ∧ w'.cell? ⟨bb, ob + k, none⟩ = some (.int .i64 y)) (first | exact ⟨hx, hy⟩ | go_keep)
          (first
            | (go_at_call 35; refine (C1.out _).mono ?_; rintro e w2 ⟨rfl, rfl⟩))
        go_wp2
        go_ret
        exact ⟨by rw [E.out]; rfl, B1.out.drew⟩
    · have E : Hid (P = true) := by
        refine HP.out.symm.trans (bel_yes fun j hj => HT.out j ?_)
        rw [HN.out] at hj
        omega
      go_wp2
      go_ret
      exact ⟨by rw [E.out]; rfl, B1.out⟩
end Go.Proofs.YtkjdgkndlfhhjaaDoor
