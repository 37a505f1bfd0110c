/- Contracts: validity of markings and equality of lists. -/
import Derived.Test.YtpfkkjgklhcejaaMF
namespace Go.Proofs.Ytpfkkjgklhcejaa
open Go.RowKit

def BPost (g : Nat) (w : World) (v : Bool) (e : Ending) (w' : World) : Prop := e = .returned (.bool v) ∧ Below g w w'
def allB (n : Nat) (p : Nat → Bool) : Bool := (List.range n).all p
theorem allB_no {n : Nat} {p : Nat → Bool} (k : Nat) (hk : k < n) (h : p k = false) : allB n p = false := by
  unfold allB
  rw [List.all_eq_false]
  exact ⟨k, List.mem_range.2 hk, by simp [h]⟩
theorem allB_yes {n : Nat} {p : Nat → Bool} (h : ∀ k, k < n → p k = true) : allB n p = true := by
  unfold allB
  rw [List.all_eq_true]
  exact fun k hk => h k (List.mem_range.1 hk)
theorem allB_iff {n : Nat} {p : Nat → Bool} : allB n p = true ↔ ∀ k, k < n → p k = true := by
  unfold allB
  rw [List.all_eq_true]
  exact ⟨fun h k hk => h k (List.mem_range.2 hk), fun h k hk => h k (List.mem_range.1 hk)⟩
def NatP (x : Int) : Prop := 0 ≤ x ∧ x ≤ 1048576
instance (x : Int) : Decidable (NatP x) := by unfold NatP; infer_instance
def natL (a : List Int) : Bool := allB a.length fun k => decide (NatP (at0 a k))
def validL (a : List Int) (n : Int) : Bool := decide ((a.length : Int) = n) && natL a
def leqL (a b : List Int) : Bool := decide (a.length = b.length) && allB a.length fun k => decide (at0 a k ≤ at0 b k)
def sameL (a b : List Int) : Bool := decide (a.length = b.length) && allB a.length fun k => decide (at0 a k = at0 b k)
theorem list_ext {a b : List Int} (hl : a.length = b.length) (h : ∀ k, k < a.length → at0 a k = at0 b k) : a = b := by
  apply List.ext_getElem hl
  intro i h1 h2
  have := h i h1
  simpa [at0, h1, h2] using this
theorem sameL_iff {a b : List Int} : sameL a b = true ↔ a = b := by
  unfold sameL
  rw [Bool.and_eq_true, decide_eq_true_eq, allB_iff]
  constructor
  · rintro ⟨hl, h⟩
    exact list_ext hl fun k hk => of_decide_eq_true (h k hk)
  · rintro rfl
    exact ⟨rfl, fun k _ => by simp⟩

def EqP (x y : Int) : Prop := x = y
set_option maxHeartbeats 1000000 in
theorem valid_law (A : Option Addr) (zs : List Int) (cap : Nat) (w : World) (hr : ReadsV w A zs) (hl : zs.length ≤ 9223372036854775807) :
    Calls Try.prog 71 #[.slice A zs.length cap, .int .i64 zs.length] w fun e w' => e = .returned (.bool (natL zs)) ∧ w = w' := by
  generalize hS : natL zs = S
  have HS := Lib.hid hS
  clear hS
  have HR := Lib.hid hr
  clear hr
  generalize hn : zs.length = n at *
  have HN := Lib.hid hn
  clear hn
  have e0 : (n != n) = false := by simp
  have e2 : (n == n) = true := by simp
  have e1 : ((n : Int) != (n : Int)) = false := by simp
  have e3 : ((n : Int) == (n : Int)) = true := by simp
  go_enter Try.func71, Try.ntmps71
  go_wp2
  go_loop [11] (fun q => ∃ k : Nat, k ≤ n ∧ q = .int .i64 k ∧ Hid (∀ j, j < k → NatP (at0 zs j))) (fun q => n - (intOf q).toNat)
  case atStart => exact ⟨0, by omega, rfl, fun j hj => absurd hj (by omega)⟩
  case round =>
    obtain ⟨k, hk, rfl, HM⟩ := hrel
    by_cases hlt : k < n
    · obtain ⟨b, off, rfl, hcx⟩ := at_of_reads HR.out k (by rw [HN.out]; exact hlt)
      have HF : Hid (¬ (NatP (at0 zs k)) → false = S) := by
        intro h
        rw [← HS.out]
        exact (allB_no k (by rw [HN.out]; exact hlt) (by rw [decide_eq_false_iff_not]; exact h)).symm
      have HT : Hid (NatP (at0 zs k) → ∀ j, j < k + 1 → NatP (at0 zs j)) := fun h j hj => by
        by_cases e : j < k
        · exact HM.out j e
        · obtain rfl : j = k := by omega
          exact h
      clear HM
      generalize at0 zs k = z at *
      unfold NatP at HF HT
      by_cases z1 : z < 0
      · have G := Lib.hid (HF.out (by omega))
        clear HT HF
        go_wp2
        go_ret
        exact ⟨ret_b G.out, rfl⟩
      · have z4 : 0 ≤ z := by omega
        by_cases z3 : 1048576 < z
        · have G := Lib.hid (HF.out (by omega))
          clear HT HF
          go_wp2
          go_ret
          exact ⟨ret_b G.out, rfl⟩
        · have z5 : z ≤ 1048576 := by omega
          clear z1 z3
          have G := Lib.hid (HT.out (by omega))
          clear HT HF
          go_wp2
          go_round
          case rel => exact ⟨k + 1, by omega, by go_num, G⟩
          case measure => simp [intOf]; omega
    · have E : Hid (true = S) := by
        show _ = _
        rw [← HS.out]
        refine (allB_yes fun j hj => ?_).symm
        have := HM.out j (by rw [HN.out] at hj; omega)
        exact decide_eq_true this
      go_wp2
      go_ret
      exact ⟨ret_b E.out, rfl⟩
theorem valid_law_ne (A : Option Addr) (n : Nat) (m : Int) (cap : Nat) (w : World) (h : (n : Int) ≠ m) :
    Calls Try.prog 71 #[.slice A n cap, .int .i64 m] w fun e w' => e = .returned (.bool false) ∧ w = w' := by
  have h2 : ((n : Int) != m) = true := by simpa using h
  go_enter Try.func71, Try.ntmps71
  go_wp2
  go_ret
  exact ⟨rfl, rfl⟩
theorem validn_law (A : Option Addr) (zs : List Int) (n : Int) (cap : Nat) (w : World) (hr : ReadsV w A zs) (hl : zs.length ≤ 9223372036854775807) :
    Calls Try.prog 71 #[.slice A zs.length cap, .int .i64 n] w fun e w' => e = .returned (.bool (validL zs n)) ∧ w = w' := by
  by_cases h : (zs.length : Int) = n
  · subst h
    unfold validL
    rw [decide_eq_true rfl, Bool.true_and]
    exact valid_law A zs cap w hr hl
  · unfold validL
    rw [decide_eq_false h, Bool.false_and]
    exact valid_law_ne A _ n cap w h
set_option maxHeartbeats 1000000 in
theorem rvalid_law (A : Option Addr) (zs : List Int) (cap : Nat) (w : World) (hr : ReadsV w A zs) (hl : zs.length ≤ 9223372036854775807) :
    Calls Try.prog 34 #[.slice A zs.length cap, .int .i64 zs.length] w fun e w' => e = .returned (.bool (natL zs)) ∧ w = w' := by
  generalize hS : natL zs = S
  have HS := Lib.hid hS
  clear hS
  have HR := Lib.hid hr
  clear hr
  generalize hn : zs.length = n at *
  have HN := Lib.hid hn
  clear hn
  have e0 : (n != n) = false := by simp
  have e2 : (n == n) = true := by simp
  have e1 : ((n : Int) != (n : Int)) = false := by simp
  have e3 : ((n : Int) == (n : Int)) = true := by simp
  go_enter Try.func34, Try.ntmps34
  go_wp2
  go_loop [5] (fun q => ∃ k : Nat, k ≤ n ∧ q = .int .i64 k ∧ Hid (∀ j, j < k → NatP (at0 zs j))) (fun q => n - (intOf q).toNat)
  case atStart => exact ⟨0, by omega, rfl, fun j hj => absurd hj (by omega)⟩
  case round =>
    obtain ⟨k, hk, rfl, HM⟩ := hrel
    by_cases hlt : k < n
    · obtain ⟨b, off, rfl, hcx⟩ := at_of_reads HR.out k (by rw [HN.out]; exact hlt)
      have HF : Hid (¬ (NatP (at0 zs k)) → false = S) := by
        intro h
        rw [← HS.out]
        exact (allB_no k (by rw [HN.out]; exact hlt) (by rw [decide_eq_false_iff_not]; exact h)).symm
      have HT : Hid (NatP (at0 zs k) → ∀ j, j < k + 1 → NatP (at0 zs j)) := fun h j hj => by
        by_cases e : j < k
        · exact HM.out j e
        · obtain rfl : j = k := by omega
          exact h
      clear HM
      generalize at0 zs k = z at *
      unfold NatP at HF HT
      by_cases z1 : z < 0
      · have G := Lib.hid (HF.out (by omega))
        clear HT HF
        go_wp2
        go_ret
        exact ⟨ret_b G.out, rfl⟩
      · have z4 : 0 ≤ z := by omega
        by_cases z3 : 1048576 < z
        · have G := Lib.hid (HF.out (by omega))
          clear HT HF
          go_wp2
          go_ret
          exact ⟨ret_b G.out, rfl⟩
        · have z5 : z ≤ 1048576 := by omega
          clear z1 z3
          have G := Lib.hid (HT.out (by omega))
          clear HT HF
          go_wp2
          go_round
          case rel => exact ⟨k + 1, by omega, by go_num, G⟩
          case measure => simp [intOf]; omega
    · have E : Hid (true = S) := by
        show _ = _
        rw [← HS.out]
        refine (allB_yes fun j hj => ?_).symm
        have := HM.out j (by rw [HN.out] at hj; omega)
        exact decide_eq_true this
      go_wp2
      go_ret
      exact ⟨ret_b E.out, rfl⟩
set_option maxHeartbeats 1000000 in
theorem rvalid_law_ne (A : Option Addr) (zs : List Int) (m : Int) (cap : Nat) (w : World) (hr : ReadsV w A zs) (hl : zs.length ≤ 9223372036854775807) (h : (zs.length : Int) ≠ m) :
    Calls Try.prog 34 #[.slice A zs.length cap, .int .i64 m] w fun e w' => e = .returned (.bool false) ∧ w = w' := by
  have HR := Lib.hid hr
  clear hr
  generalize hn : zs.length = n at *
  have HN := Lib.hid hn
  clear hn
  have e3 : ((n : Int) == m) = false := by simpa using h
  go_enter Try.func34, Try.ntmps34
  go_wp2
  go_loop [5] (fun q => ∃ k : Nat, k ≤ n ∧ q = .int .i64 k) (fun q => n - (intOf q).toNat)
  case atStart => exact ⟨0, by omega, rfl⟩
  case round =>
    obtain ⟨k, hk, rfl⟩ := hrel
    by_cases hlt : k < n
    · obtain ⟨b, off, rfl, hcx⟩ := at_of_reads HR.out k (by rw [HN.out]; exact hlt)
      generalize at0 zs k = z at *
      by_cases z1 : z < 0
      · go_wp2
        go_ret
        exact ⟨rfl, rfl⟩
      · have z4 : 0 ≤ z := by omega
        by_cases z3 : 1048576 < z
        · go_wp2
          go_ret
          exact ⟨rfl, rfl⟩
        · have z5 : z ≤ 1048576 := by omega
          clear z1 z3
          go_wp2
          go_round
          case rel => exact ⟨k + 1, by omega, by go_num⟩
          case measure => simp [intOf]; omega
    · go_wp2
      go_ret
      exact ⟨rfl, rfl⟩
theorem rvalidn_law (A : Option Addr) (zs : List Int) (n : Int) (cap : Nat) (w : World) (hr : ReadsV w A zs) (hl : zs.length ≤ 9223372036854775807) :
    Calls Try.prog 34 #[.slice A zs.length cap, .int .i64 n] w fun e w' => e = .returned (.bool (validL zs n)) ∧ w = w' := by
  by_cases h : (zs.length : Int) = n
  · subst h
    unfold validL
    rw [decide_eq_true rfl, Bool.true_and]
    exact rvalid_law A zs cap w hr hl
  · unfold validL
    rw [decide_eq_false h, Bool.false_and]
    exact rvalid_law_ne A zs n cap w hr hl h
set_option maxHeartbeats 1000000 in
theorem same_law_eq (A B : Option Addr) (a b : List Int) (ca cb : Nat) (w : World) (ra : ReadsV w A a) (rb : ReadsV w B b) (hl : a.length ≤ 9223372036854775807) (hab : b.length = a.length) :
    Calls Try.prog 14 #[.slice A a.length ca, .slice B b.length cb] w (BPost w.heap.size w (sameL a b)) := by
  generalize hS : sameL a b = S
  have HS := Lib.hid hS
  clear hS
  have RA := Lib.hid ra
  have RB := Lib.hid rb
  clear ra rb
  generalize hg : w.heap.size = g at *
  have HG := Lib.hid hg
  clear hg
  have HB := Lib.hid hab
  rw [hab]
  clear hab
  generalize hn : a.length = n at *
  have HN := Lib.hid hn
  clear hn
  have e1 : ((n : Int) != (n : Int)) = false := by simp
  go_enter Try.func14, Try.ntmps14
  go_wp2_with fail
  go_loopw [5] (fun q wr => ∃ k : Nat, k ≤ n ∧ q = .int .i64 k ∧ Hid (∀ j, j < k → EqP (at0 a j) (at0 b j)) ∧ Hid (Below g w wr)) (fun q _ => n - (intOf q).toNat)
  case atStart => exact ⟨0, by omega, rfl, fun j hj => absurd hj (by omega), Below.refl _ _⟩
  case round =>
    obtain ⟨k, hk, rfl, HM, B1⟩ := hrel
    by_cases hlt : k < n
    · obtain ⟨ba, oa, e1, hx⟩ := at_of_reads (RA.out.below B1.out (by rw [HG.out]; exact Nat.le_refl _)) k (by rw [HN.out]; exact hlt)
      subst e1
      obtain ⟨bb, ob, e2, hy⟩ := at_of_reads (RB.out.below B1.out (by rw [HG.out]; exact Nat.le_refl _)) k (by rw [HB.out]; exact hlt)
      subst e2
      have HF : Hid (¬ (EqP (at0 a k) (at0 b k)) → S = false) := by
        intro h
        rw [← HS.out]
        unfold sameL
        rw [allB_no k (by rw [HN.out]; exact hlt) (by rw [decide_eq_false_iff_not]; exact h), Bool.and_false]
      have HT : Hid (EqP (at0 a k) (at0 b k) → ∀ j, j < k + 1 → EqP (at0 a j) (at0 b j)) := fun h j hj => by
        by_cases e : j < k
        · exact HM.out j e
        · obtain rfl : j = k := by omega
          exact h
      clear HM
      generalize at0 a k = x at *
      generalize at0 b k = y at *
      by_cases z1 : EqP x y
      · have G := Lib.hid (HT.out z1)
        clear HT HF
        unfold EqP at z1
        subst z1
        have z2 : (x != x) = false := by simp
        go_wp2_with fail
        go_quiet (fail)
        go_wp2
        go_roundw
        case rel => exact ⟨k + 1, by omega, by go_num, G, below_drewN B1.out _⟩
        case measure => simp [intOf]; omega
      · have G := Lib.hid (HF.out z1)
        clear HT HF
        unfold EqP at z1
        have z2 : (x != y) = true := by simpa using z1
        go_wp2_with fail
        go_quiet (fail)
        go_wp2
        go_ret
        exact ⟨ret_b G.out.symm, below_drewN B1.out _⟩
    · have E : Hid (S = true) := by
        show _ = _
        rw [← HS.out]
        unfold sameL
        rw [Bool.and_eq_true]
        exact ⟨by rw [decide_eq_true_eq, HN.out, HB.out], allB_yes fun j hj => by
          have := HM.out j (by rw [HN.out] at hj; omega)
          exact decide_eq_true this⟩
      go_wp2
      go_ret
      exact ⟨ret_b E.out.symm, B1.out⟩
theorem same_law_ne (A B : Option Addr) (a b : List Int) (ca cb : Nat) (w : World) (hab : b.length ≠ a.length) :
    Calls Try.prog 14 #[.slice A a.length ca, .slice B b.length cb] w (BPost w.heap.size w (sameL a b)) := by
  have E : sameL a b = false := by
    unfold sameL
    rw [decide_eq_false (fun e => hab e.symm), Bool.false_and]
  rw [E]
  have h2 : ((a.length : Int) != (b.length : Int)) = true := by simp; omega
  generalize a.length = n at *
  generalize b.length = m at *
  go_enter Try.func14, Try.ntmps14
  go_wp2
  go_ret
  exact ⟨rfl, Below.refl _ _⟩
theorem same_law (A B : Option Addr) (a b : List Int) (ca cb : Nat) (w : World) (ra : ReadsV w A a) (rb : ReadsV w B b) (hl : a.length ≤ 9223372036854775807) :
    Calls Try.prog 14 #[.slice A a.length ca, .slice B b.length cb] w (BPost w.heap.size w (sameL a b)) := by
  by_cases h : b.length = a.length
  · exact same_law_eq A B a b ca cb w ra rb hl h
  · exact same_law_ne A B a b ca cb w h
end Go.Proofs.Ytpfkkjgklhcejaa
