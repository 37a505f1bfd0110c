/- Bounded natural solutions: equal vectors. -/
import Derived.Test.YtneediihponfiaaNS
namespace Go.Proofs.Ytneediihponfiaa
open Go.RowKit

def sameL (a b : List Int) : Bool := decide (a.length = b.length) && allB a.length fun k => decide (at0 a k = at0 b k)
theorem sameL_iff {a b : List Int} : sameL a b = true ↔ a = b := by
  unfold sameL
  rw [Bool.and_eq_true, decide_eq_true_eq, allB_iff]
  constructor
  · rintro ⟨hl, h⟩
    exact list_ext hl fun k hk => of_decide_eq_true (h k hk)
  · rintro rfl
    exact ⟨rfl, fun k _ => by simp⟩

def EqP (x y : Int) : Prop := x = y
set_option maxHeartbeats 1000000 in
theorem same_law_eq (A B : Option Addr) (a b : List Int) (ca cb : Nat) (w : World) (ra : ReadsV w A a) (rb : ReadsV w B b) (hl : a.length ≤ 9223372036854775807) (hab : b.length = a.length) :
    Calls Try.prog 15 #[.slice A a.length ca, .slice B b.length cb] w (BPost w.heap.size w (sameL a b)) := by
  generalize hS : sameL a b = S
  have HS := Lib.hid hS
  clear hS
  have RA := Lib.hid ra
  have RB := Lib.hid rb
  clear ra rb
  generalize hg : w.heap.size = g at *
  have HG := Lib.hid hg
  clear hg
  have HB := Lib.hid hab
  rw [hab]
  clear hab
  generalize hn : a.length = n at *
  have HN := Lib.hid hn
  clear hn
  have e1 : ((n : Int) != (n : Int)) = false := by simp
  go_enter Try.func15, Try.ntmps15
  go_wp2_with fail
  go_loopw [5] (fun q wr => ∃ k : Nat, k ≤ n ∧ q = .int .i64 k ∧ Hid (∀ j, j < k → EqP (at0 a j) (at0 b j)) ∧ Hid (Below g w wr)) (fun q _ => n - (intOf q).toNat)
  case atStart => exact ⟨0, by omega, rfl, fun j hj => absurd hj (by omega), Below.refl _ _⟩
  case round =>
    obtain ⟨k, hk, rfl, HM, B1⟩ := hrel
    by_cases hlt : k < n
    · obtain ⟨ba, oa, e1, hx⟩ := at_of_reads (RA.out.below B1.out (by rw [HG.out]; exact Nat.le_refl _)) k (by rw [HN.out]; exact hlt)
      subst e1
      obtain ⟨bb, ob, e2, hy⟩ := at_of_reads (RB.out.below B1.out (by rw [HG.out]; exact Nat.le_refl _)) k (by rw [HB.out]; exact hlt)
      subst e2
      have HF : Hid (¬ (EqP (at0 a k) (at0 b k)) → S = false) := by
        intro h
        rw [← HS.out]
        unfold sameL
        rw [allB_no k (by rw [HN.out]; exact hlt) (by rw [decide_eq_false_iff_not]; exact h), Bool.and_false]
      have HT : Hid (EqP (at0 a k) (at0 b k) → ∀ j, j < k + 1 → EqP (at0 a j) (at0 b j)) := fun h j hj => by
        by_cases e : j < k
        · exact HM.out j e
        · obtain rfl : j = k := by omega
          exact h
      clear HM
      generalize at0 a k = x at *
      generalize at0 b k = y at *
      by_cases z1 : EqP x y
      · have G := Lib.hid (HT.out z1)
        clear HT HF
        unfold EqP at z1
        subst z1
        have z2 : (x != x) = false := by simp
        go_wp2_with fail
        go_quiet (fail)
        go_wp2
        go_roundw
        case rel => exact ⟨k + 1, by omega, by go_num, G, below_drewN B1.out _⟩
        case measure => simp [intOf]; omega
      · have G := Lib.hid (HF.out z1)
        clear HT HF
        unfold EqP at z1
        have z2 : (x != y) = true := by simpa using z1
        go_wp2_with fail
        go_quiet (fail)
        go_wp2
        go_ret
        exact ⟨ret_b G.out.symm, below_drewN B1.out _⟩
    · have E : Hid (S = true) := by
        show _ = _
        rw [← HS.out]
        unfold sameL
        rw [Bool.and_eq_true]
        exact ⟨by rw [decide_eq_true_eq, HN.out, HB.out], allB_yes fun j hj => by
          have := HM.out j (by rw [HN.out] at hj; omega)
          exact decide_eq_true this⟩
      go_wp2
      go_ret
      exact ⟨ret_b E.out.symm, B1.out⟩
theorem same_law_ne (A B : Option Addr) (a b : List Int) (ca cb : Nat) (w : World) (hab : b.length ≠ a.length) :
    Calls Try.prog 15 #[.slice A a.length ca, .slice B b.length cb] w (BPost w.heap.size w (sameL a b)) := by
  have E : sameL a b = false := by
    unfold sameL
    rw [decide_eq_false (fun e => hab e.symm), Bool.false_and]
  rw [E]
  have h2 : ((a.length : Int) != (b.length : Int)) = true := by simp; omega
  generalize a.length = n at *
  generalize b.length = m at *
  go_enter Try.func15, Try.ntmps15
  go_wp2
  go_ret
  exact ⟨rfl, Below.refl _ _⟩
theorem same_law (A B : Option Addr) (a b : List Int) (ca cb : Nat) (w : World) (ra : ReadsV w A a) (rb : ReadsV w B b) (hl : a.length ≤ 9223372036854775807) :
    Calls Try.prog 15 #[.slice A a.length ca, .slice B b.length cb] w (BPost w.heap.size w (sameL a b)) := by
  by_cases h : b.length = a.length
  · exact same_law_eq A B a b ca cb w ra rb hl h
  · exact same_law_ne A B a b ca cb w h
end Go.Proofs.Ytneediihponfiaa
