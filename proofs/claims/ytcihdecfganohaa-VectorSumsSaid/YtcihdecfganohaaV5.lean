/- Comparisons and products of vectors. -/
import Derived.Test.YtcihdecfganohaaV4
namespace Go.Proofs.Ytcihdecfganohaa
open Go.RowKit

theorem ret_b {a b : Bool} (h : a = b) : Ending.returned (.bool a) = .returned (.bool b) := by rw [h]
def BPost (g : Nat) (w : World) (v : Bool) (e : Ending) (w' : World) : Prop := e = .returned (.bool v) ∧ Below g w w'
def IPost (g : Nat) (w : World) (v : Int) (e : Ending) (w' : World) : Prop := e = .returned (.int .i64 v) ∧ Below g w w'
def DPost (g : Nat) (w : World) (v : Int × Int) (e : Ending) (w' : World) : Prop := e = .returned (.tuple #[.int .i64 v.1, .int .i64 v.2]) ∧ Below g w w'

set_option maxHeartbeats 1000000 in
theorem leq_law (A B : Option Addr) (a b : List Int) (ca cb : Nat) (w : World) (ra : ReadsV w A a) (rb : ReadsV w B b) (hl : a.length ≤ 100) :
    Calls Try.prog 23 #[.slice A a.length ca, .slice B b.length cb] w (BPost w.heap.size w (leqV a b)) := by
  by_cases hlen : a.length = b.length
  · rw [← hlen]
    have HL := Lib.hid hlen
    clear hlen
    generalize hP : leqV a b = P
    have HP := Lib.hid hP
    clear hP
    have RA := Lib.hid ra
    have RB := Lib.hid rb
    clear ra rb
    generalize hg : w.heap.size = g at *
    have HG := Lib.hid hg
    clear hg
    generalize hn : a.length = n at *
    have HN := Lib.hid hn
    clear hn
    go_enter Try.func23, Try.ntmps23
    go_wp2_with fail
    go_loopw [13] (fun q wr => ∃ k : Nat, k ≤ n ∧ q = .int .i64 k ∧ Hid (Below g w wr) ∧ Hid (∀ j, j < k → at0 a j ≤ at0 b j)) (fun q _ => n - (intOf q).toNat)
    case atStart => exact ⟨0, by omega, rfl, Below.refl _ _, fun j hj => absurd hj (by omega)⟩
    case round =>
      obtain ⟨k, hk, rfl, B1, HT⟩ := hrel
      by_cases hlt : k < n
      · obtain ⟨ba, oa, e1, hx⟩ := at_of_reads (RA.out.below B1.out (by rw [HG.out]; exact Nat.le_refl _)) k (by rw [HN.out]; exact hlt)
        subst e1
        obtain ⟨bb, ob, e2, hy⟩ := at_of_reads (RB.out.below B1.out (by rw [HG.out]; exact Nat.le_refl _)) k (by rw [← HL.out]; exact hlt)
        subst e2
        have HX : Hid (at0 b k < at0 a k → P = false) := fun h => HP.out.symm.trans (leqV_no k (by rw [HN.out]; exact hlt) h)
        have HY : Hid (at0 a k ≤ at0 b k → ∀ j, j < k + 1 → at0 a j ≤ at0 b j) := fun h j hj => by
          by_cases e : j < k
          · exact HT.out j e
          · obtain rfl : j = k := by omega
            exact h
        generalize at0 a k = x at *
        generalize at0 b k = y at *
        by_cases hxy : y < x
        · have E := Lib.hid (HX.out hxy)
          go_wp2_with fail
          go_quiet (fail)
          go_wp2
          go_ret
          exact ⟨by rw [E.out]; rfl, below_drewN B1.out _⟩
        · have hxy' : x ≤ y := by omega
          have HE := Lib.hid (HY.out hxy')
          clear hxy
          go_wp2_with fail
          go_quiet (fail)
          go_wp2
          go_roundw
          case rel => exact ⟨k + 1, by omega, by go_num, below_drewN B1.out _, HE⟩
          case measure => simp [intOf]; omega
      · have E : Hid (P = true) := by
          refine HP.out.symm.trans (leqV_yes (by rw [HN.out]; exact HL.out) fun j hj => HT.out j ?_)
          rw [HN.out] at hj
          omega
        go_wp2
        go_ret
        exact ⟨by rw [E.out]; rfl, B1.out⟩
  · rw [leqV_len hlen]
    clear ra rb
    generalize a.length = n at *
    generalize b.length = m at *
    have h1 : (n != m) = true := by simpa using hlen
    have h2 : ((n : Int) != (m : Int)) = true := by simp; omega
    go_enter Try.func23, Try.ntmps23
    go_wp2_with fail
    go_ret
    exact ⟨rfl, Below.refl _ _⟩

set_option maxHeartbeats 1000000 in
theorem rleq_law (A B : Option Addr) (a b : List Int) (ca cb : Nat) (w : World) (ra : ReadsV w A a) (rb : ReadsV w B b) (hl : a.length ≤ 100) :
    Calls Try.prog 24 #[.slice A a.length ca, .slice B b.length cb] w (BPost w.heap.size w (leqV a b)) := by
  by_cases hlen : a.length = b.length
  · rw [← hlen]
    have HL := Lib.hid hlen
    clear hlen
    generalize hP : leqV a b = P
    have HP := Lib.hid hP
    clear hP
    have RA := Lib.hid ra
    have RB := Lib.hid rb
    clear ra rb
    generalize hg : w.heap.size = g at *
    have HG := Lib.hid hg
    clear hg
    generalize hn : a.length = n at *
    have HN := Lib.hid hn
    clear hn
    go_enter Try.func24, Try.ntmps24
    go_wp2_with fail
    go_loopw [5] (fun q wr => ∃ k : Nat, k ≤ n ∧ q = .int .i64 k ∧ Hid (Below g w wr) ∧ Hid (∀ j, j < k → at0 a j ≤ at0 b j)) (fun q _ => n - (intOf q).toNat)
    case atStart => exact ⟨0, by omega, rfl, Below.refl _ _, fun j hj => absurd hj (by omega)⟩
    case round =>
      obtain ⟨k, hk, rfl, B1, HT⟩ := hrel
      by_cases hlt : k < n
      · obtain ⟨ba, oa, e1, hx⟩ := at_of_reads (RA.out.below B1.out (by rw [HG.out]; exact Nat.le_refl _)) k (by rw [HN.out]; exact hlt)
        subst e1
        obtain ⟨bb, ob, e2, hy⟩ := at_of_reads (RB.out.below B1.out (by rw [HG.out]; exact Nat.le_refl _)) k (by rw [← HL.out]; exact hlt)
        subst e2
        have HX : Hid (at0 b k < at0 a k → P = false) := fun h => HP.out.symm.trans (leqV_no k (by rw [HN.out]; exact hlt) h)
        have HY : Hid (at0 a k ≤ at0 b k → ∀ j, j < k + 1 → at0 a j ≤ at0 b j) := fun h j hj => by
          by_cases e : j < k
          · exact HT.out j e
          · obtain rfl : j = k := by omega
            exact h
        generalize at0 a k = x at *
        generalize at0 b k = y at *
        by_cases hxy : y < x
        · have E := Lib.hid (HX.out hxy)
          go_wp2_with fail
          go_quiet (fail)
          go_wp2
          go_ret
          exact ⟨by rw [E.out]; rfl, below_drewN B1.out _⟩
        · have hxy' : x ≤ y := by omega
          have HE := Lib.hid (HY.out hxy')
          clear hxy
          go_wp2_with fail
          go_quiet (fail)
          go_wp2
          go_roundw
          case rel => exact ⟨k + 1, by omega, by go_num, below_drewN B1.out _, HE⟩
          case measure => simp [intOf]; omega
      · have E : Hid (P = true) := by
          refine HP.out.symm.trans (leqV_yes (by rw [HN.out]; exact HL.out) fun j hj => HT.out j ?_)
          rw [HN.out] at hj
          omega
        go_wp2
        go_ret
        exact ⟨by rw [E.out]; rfl, B1.out⟩
  · rw [leqV_len hlen]
    clear ra rb
    generalize a.length = n at *
    generalize b.length = m at *
    have h1 : (n != m) = true := by simpa using hlen
    have h2 : ((n : Int) != (m : Int)) = true := by simp; omega
    go_enter Try.func24, Try.ntmps24
    go_wp2_with fail
    go_ret
    exact ⟨rfl, Below.refl _ _⟩

set_option maxHeartbeats 2000000 in
theorem dot_law (A B : Option Addr) (a b : List Int) (ca cb : Nat) (w : World) (ia : In64 a) (ib : In64 b) (ra : ReadsV w A a) (rb : ReadsV w B b) (hl : a.length ≤ 100) :
    Calls Try.prog 16 #[.slice A a.length ca, .slice B b.length cb] w (DPost w.heap.size w (dotV a b)) := by
  by_cases hlen : a.length = b.length
  · rw [← hlen]
    have HL := Lib.hid hlen
    clear hlen
    generalize hP : dotV a b = P
    have HP := Lib.hid hP
    clear hP
    have RA := Lib.hid ra
    have RB := Lib.hid rb
    clear ra rb
    generalize hg : w.heap.size = g at *
    have HG := Lib.hid hg
    clear hg
    generalize hn : a.length = n at *
    have HN := Lib.hid hn
    clear hn
    go_enter Try.func16, Try.ntmps16
    go_wp2_with fail
    go_loopw [6, 17] (fun v q wr => ∃ (k : Nat) (s : Int), k ≤ n ∧ q = .int .i64 k ∧ v = .int .i64 s ∧ Hid (s = dotS a b k ∧ -9223372036854775808 ≤ s ∧ s ≤ 9223372036854775807) ∧ Hid (Below g w wr) ∧ Hid (∀ j, j < k → dotO a b j = true)) (fun _ q _ => n - (intOf q).toNat)
    case atStart => exact ⟨0, 0, by omega, rfl, rfl, ⟨rfl, by omega, by omega⟩, Below.refl _ _, fun j hj => absurd hj (by omega)⟩
    case round =>
      obtain ⟨k, s, hk, rfl, rfl, HS, B1, HT⟩ := hrel
      by_cases hlt : k < n
      · have hs := B1.out.size
        rw [HG.out] at hs
        obtain ⟨ba, oa, e1, hx⟩ := at_of_reads (RA.out.below B1.out (by rw [HG.out]; exact Nat.le_refl _)) k (by rw [HN.out]; exact hlt)
        subst e1
        have lx := World.block_lt_of_cell? wr ⟨ba, oa + k, none⟩ hx
        obtain ⟨bb, ob, e2, hy⟩ := at_of_reads (RB.out.below B1.out (by rw [HG.out]; exact Nat.le_refl _)) k (by rw [← HL.out]; exact hlt)
        subst e2
        have ly := World.block_lt_of_cell? wr ⟨bb, ob + k, none⟩ hy
        have hp := fitV_in (at0 a k * at0 b k)
        have C1 : Hid (∀ W, Calls Try.prog 38 #[.int .i64 (at0 a k), .int .i64 (at0 b k)] W fun e w' => e = .returned (.tuple #[.int .i64 (fitV (at0 a k * at0 b k)), .bool (fits (at0 a k * at0 b k))]) ∧ Below W.heap.size W w') := mul_any _ _ (ia.at k).1 (ia.at k).2 (ib.at k).1 (ib.at k).2
        have C2 : Hid (∀ W, Calls Try.prog 35 #[.int .i64 s, .int .i64 (fitV (at0 a k * at0 b k))] W fun e w' => e = .returned (.tuple #[.int .i64 (fitV (s + fitV (at0 a k * at0 b k))), .bool (fits (s + fitV (at0 a k * at0 b k)))]) ∧ Below W.heap.size W w') := fun W => (add_any _ _ HS.out.2.1 HS.out.2.2 hp.1 hp.2 W).mono fun _ _ ⟨h1, h2⟩ => ⟨h1, h2 ▸ Below.refl _ _⟩
        have HF : Hid (fits (at0 a k * at0 b k) = true → dotS a b (k + 1) = s + fitV (at0 a k * at0 b k)) := fun h => by rw [fitV_of h, HS.out.1]; rfl
        have HX1 : Hid (fits (at0 a k * at0 b k) = false → P = (0, 3)) := fun h => HP.out.symm.trans (dotV_no k (by rw [HN.out]; exact HL.out) (by rw [HN.out]; exact hlt) (by unfold dotO; rw [h]; rfl))
        have HX2 : Hid (fits (at0 a k * at0 b k) = true → fits (s + fitV (at0 a k * at0 b k)) = false → P = (0, 3)) := fun h1 h => HP.out.symm.trans (dotV_no k (by rw [HN.out]; exact HL.out) (by rw [HN.out]; exact hlt) (by unfold dotO; rw [HF.out h1, h]; simp))
        have HY : Hid (fits (at0 a k * at0 b k) = true → fits (s + fitV (at0 a k * at0 b k)) = true → ∀ j, j < k + 1 → dotO a b j = true) := fun h1 h2 j hj => by
          by_cases e : j < k
          · exact HT.out j e
          · obtain rfl : j = k := by omega
            unfold dotO
            rw [HF.out h1, h1, h2]
            rfl
        clear HT hp
        generalize fits (at0 a k * at0 b k) = t1 at *
        generalize fitV (at0 a k * at0 b k) = p at *
        generalize at0 a k = x at *
        generalize at0 b k = y at *
        cases t1
        · have E := Lib.hid (HX1.out rfl)
          go_wp2_with fail
          go_region_held3 (fun w' => w'.cell? ⟨ba, oa + k, none⟩ = some (.int .i64 x) ∧ w'.cell? ⟨bb, ob + k, none⟩ = some (.int .i64 y))
            (first
              | go_keep
              | exact ⟨(K1.cell (p := ⟨ba, oa + k, none⟩) (by exact lx)).trans hx, (K1.cell (p := ⟨bb, ob + k, none⟩) (by exact ly)).trans hy⟩)
            (first
              | (go_at_call 38; refine (C1.out _).mono ?_; rintro e w1 ⟨rfl, K1⟩))
          have BB : Hid (Below g w w1) := B1.out.drew.trans (K1.mono hs)
          clear K1
          go_wp2
          go_ret2
          exact ⟨by rw [E.out]; rfl, BB.out⟩
        · have HF2 := Lib.hid (HF.out rfl)
          have HS3 : Hid (fits (s + p) = true → fitV (s + p) = dotS a b (k + 1)) := fun h => (fitV_of h).trans HF2.out.symm
          have HR := Lib.hid (fitV_in (s + p))
          have HX3 := Lib.hid (HX2.out rfl)
          have HY3 := Lib.hid (HY.out rfl)
          clear HX2 HY HF HX1
          generalize fits (s + p) = t2 at *
          generalize fitV (s + p) = z at *
          cases t2
          · have E := Lib.hid (HX3.out rfl)
            go_wp2_with fail
            go_region_held3 (fun w' => w'.cell? ⟨ba, oa + k, none⟩ = some (.int .i64 x) ∧ w'.cell? ⟨bb, ob + k, none⟩ = some (.int .i64 y))
              (first
                | go_keep
                | exact ⟨(K1.cell (p := ⟨ba, oa + k, none⟩) (by exact lx)).trans hx, (K1.cell (p := ⟨bb, ob + k, none⟩) (by exact ly)).trans hy⟩)
              (first
                | (go_at_call 38; refine (C1.out _).mono ?_; rintro e w1 ⟨rfl, K1⟩))
            have BB : Hid (Below g w w1) := B1.out.drew.trans (K1.mono hs)
            have hs1 := BB.out.size
            rw [HG.out] at hs1
            clear K1
            go_wp2_with fail
            refine (C2.out _).mono ?_
            rintro e w2 ⟨rfl, K2⟩
            have B2 : Hid (Below g w w2) := BB.out.trans (K2.mono hs1)
            clear K2
            go_wp2
            go_ret2
            exact ⟨by rw [E.out]; rfl, B2.out⟩
          · have HE := Lib.hid (HY3.out rfl)
            have HS4 := Lib.hid (HS3.out rfl)
            go_wp2_with fail
            go_region_held3 (fun w' => w'.cell? ⟨ba, oa + k, none⟩ = some (.int .i64 x) ∧ w'.cell? ⟨bb, ob + k, none⟩ = some (.int .i64 y))
              (first
                | go_keep
                | exact ⟨(K1.cell (p := ⟨ba, oa + k, none⟩) (by exact lx)).trans hx, (K1.cell (p := ⟨bb, ob + k, none⟩) (by exact ly)).trans hy⟩)
              (first
                | (go_at_call 38; refine (C1.out _).mono ?_; rintro e w1 ⟨rfl, K1⟩))
            have BB : Hid (Below g w w1) := B1.out.drew.trans (K1.mono hs)
            have hs1 := BB.out.size
            rw [HG.out] at hs1
            clear K1
            go_wp2_with fail
            refine (C2.out _).mono ?_
            rintro e w2 ⟨rfl, K2⟩
            have B2 : Hid (Below g w w2) := BB.out.trans (K2.mono hs1)
            clear K2
            go_wp2
            go_roundw
            case rel => exact ⟨k + 1, z, by omega, by go_num, rfl, ⟨HS4.out, HR.out.1, HR.out.2⟩, B2, HE⟩
            case measure => simp [intOf]; omega
      · have E : Hid (P = (s, 0)) := by
          have h : ∀ j, j < a.length → dotO a b j = true := fun j hj => HT.out j (by rw [HN.out] at hj; omega)
          refine HP.out.symm.trans ((dotV_yes (by rw [HN.out]; exact HL.out) h).trans ?_)
          rw [HN.out, HS.out.1]
          obtain rfl : k = n := by omega
          rfl
        go_wp2
        go_ret2
        exact ⟨by rw [E.out]; rfl, B1.out⟩
  · rw [dotV_len hlen]
    clear ra rb
    generalize a.length = n at *
    generalize b.length = m at *
    have h1 : (n != m) = true := by simpa using hlen
    have h2 : ((n : Int) != (m : Int)) = true := by simp; omega
    go_enter Try.func16, Try.ntmps16
    go_wp2_with fail
    go_ret2
    exact ⟨rfl, Below.refl _ _⟩

set_option maxHeartbeats 2000000 in
theorem rdot_law (A B : Option Addr) (a b : List Int) (ca cb : Nat) (w : World) (ia : In64 a) (ib : In64 b) (ra : ReadsV w A a) (rb : ReadsV w B b) (hl : a.length ≤ 100) :
    Calls Try.prog 17 #[.slice A a.length ca, .slice B b.length cb] w (DPost w.heap.size w (dotV a b)) := by
  by_cases hlen : a.length = b.length
  · rw [← hlen]
    have HL := Lib.hid hlen
    clear hlen
    generalize hP : dotV a b = P
    have HP := Lib.hid hP
    clear hP
    have RA := Lib.hid ra
    have RB := Lib.hid rb
    clear ra rb
    generalize hg : w.heap.size = g at *
    have HG := Lib.hid hg
    clear hg
    generalize hn : a.length = n at *
    have HN := Lib.hid hn
    clear hn
    go_enter Try.func17, Try.ntmps17
    go_wp2_with fail
    go_loopw [6, 7] (fun v q wr => ∃ (k : Nat) (s : Int), k ≤ n ∧ q = .int .i64 k ∧ v = .int .i64 s ∧ Hid (s = dotS a b k ∧ -9223372036854775808 ≤ s ∧ s ≤ 9223372036854775807) ∧ Hid (Below g w wr) ∧ Hid (∀ j, j < k → dotO a b j = true)) (fun _ q _ => n - (intOf q).toNat)
    case atStart => exact ⟨0, 0, by omega, rfl, rfl, ⟨rfl, by omega, by omega⟩, Below.refl _ _, fun j hj => absurd hj (by omega)⟩
    case round =>
      obtain ⟨k, s, hk, rfl, rfl, HS, B1, HT⟩ := hrel
      by_cases hlt : k < n
      · have hs := B1.out.size
        rw [HG.out] at hs
        obtain ⟨ba, oa, e1, hx⟩ := at_of_reads (RA.out.below B1.out (by rw [HG.out]; exact Nat.le_refl _)) k (by rw [HN.out]; exact hlt)
        subst e1
        have lx := World.block_lt_of_cell? wr ⟨ba, oa + k, none⟩ hx
        obtain ⟨bb, ob, e2, hy⟩ := at_of_reads (RB.out.below B1.out (by rw [HG.out]; exact Nat.le_refl _)) k (by rw [← HL.out]; exact hlt)
        subst e2
        have ly := World.block_lt_of_cell? wr ⟨bb, ob + k, none⟩ hy
        have hp := fitV_in (at0 a k * at0 b k)
        have C1 : Hid (∀ W, Calls Try.prog 39 #[.int .i64 (at0 a k), .int .i64 (at0 b k)] W fun e w' => e = .returned (.tuple #[.int .i64 (fitV (at0 a k * at0 b k)), .bool (fits (at0 a k * at0 b k))]) ∧ Below W.heap.size W w') := rmul_any _ _ (ia.at k).1 (ia.at k).2 (ib.at k).1 (ib.at k).2
        have C2 : Hid (∀ W, Calls Try.prog 40 #[.int .i64 s, .int .i64 (fitV (at0 a k * at0 b k))] W fun e w' => e = .returned (.tuple #[.int .i64 (fitV (s + fitV (at0 a k * at0 b k))), .bool (fits (s + fitV (at0 a k * at0 b k)))]) ∧ Below W.heap.size W w') := radd_any _ _ HS.out.2.1 HS.out.2.2 hp.1 hp.2
        have HF : Hid (fits (at0 a k * at0 b k) = true → dotS a b (k + 1) = s + fitV (at0 a k * at0 b k)) := fun h => by rw [fitV_of h, HS.out.1]; rfl
        have HX1 : Hid (fits (at0 a k * at0 b k) = false → P = (0, 3)) := fun h => HP.out.symm.trans (dotV_no k (by rw [HN.out]; exact HL.out) (by rw [HN.out]; exact hlt) (by unfold dotO; rw [h]; rfl))
        have HX2 : Hid (fits (at0 a k * at0 b k) = true → fits (s + fitV (at0 a k * at0 b k)) = false → P = (0, 3)) := fun h1 h => HP.out.symm.trans (dotV_no k (by rw [HN.out]; exact HL.out) (by rw [HN.out]; exact hlt) (by unfold dotO; rw [HF.out h1, h]; simp))
        have HY : Hid (fits (at0 a k * at0 b k) = true → fits (s + fitV (at0 a k * at0 b k)) = true → ∀ j, j < k + 1 → dotO a b j = true) := fun h1 h2 j hj => by
          by_cases e : j < k
          · exact HT.out j e
          · obtain rfl : j = k := by omega
            unfold dotO
            rw [HF.out h1, h1, h2]
            rfl
        clear HT hp
        generalize fits (at0 a k * at0 b k) = t1 at *
        generalize fitV (at0 a k * at0 b k) = p at *
        generalize at0 a k = x at *
        generalize at0 b k = y at *
        cases t1
        · have E := Lib.hid (HX1.out rfl)
          go_wp2_with fail
          go_region_held3 (fun w' => w'.cell? ⟨ba, oa + k, none⟩ = some (.int .i64 x) ∧ w'.cell? ⟨bb, ob + k, none⟩ = some (.int .i64 y))
            (first
              | go_keep
              | exact ⟨(K1.cell (p := ⟨ba, oa + k, none⟩) (by exact lx)).trans hx, (K1.cell (p := ⟨bb, ob + k, none⟩) (by exact ly)).trans hy⟩)
            (first
              | (go_at_call 39; refine (C1.out _).mono ?_; rintro e w1 ⟨rfl, K1⟩))
          have BB : Hid (Below g w w1) := B1.out.drew.trans (K1.mono hs)
          clear K1
          go_wp2
          go_ret2
          exact ⟨by rw [E.out]; rfl, BB.out⟩
        · have HF2 := Lib.hid (HF.out rfl)
          have HS3 : Hid (fits (s + p) = true → fitV (s + p) = dotS a b (k + 1)) := fun h => (fitV_of h).trans HF2.out.symm
          have HR := Lib.hid (fitV_in (s + p))
          have HX3 := Lib.hid (HX2.out rfl)
          have HY3 := Lib.hid (HY.out rfl)
          clear HX2 HY HF HX1
          generalize fits (s + p) = t2 at *
          generalize fitV (s + p) = z at *
          cases t2
          · have E := Lib.hid (HX3.out rfl)
            go_wp2_with fail
            go_region_held3 (fun w' => w'.cell? ⟨ba, oa + k, none⟩ = some (.int .i64 x) ∧ w'.cell? ⟨bb, ob + k, none⟩ = some (.int .i64 y))
              (first
                | go_keep
                | exact ⟨(K1.cell (p := ⟨ba, oa + k, none⟩) (by exact lx)).trans hx, (K1.cell (p := ⟨bb, ob + k, none⟩) (by exact ly)).trans hy⟩)
              (first
                | (go_at_call 39; refine (C1.out _).mono ?_; rintro e w1 ⟨rfl, K1⟩))
            have BB : Hid (Below g w w1) := B1.out.drew.trans (K1.mono hs)
            have hs1 := BB.out.size
            rw [HG.out] at hs1
            clear K1
            go_wp2_with fail
            refine (C2.out _).mono ?_
            rintro e w2 ⟨rfl, K2⟩
            have B2 : Hid (Below g w w2) := BB.out.trans (K2.mono hs1)
            clear K2
            go_wp2
            go_ret2
            exact ⟨by rw [E.out]; rfl, B2.out⟩
          · have HE := Lib.hid (HY3.out rfl)
            have HS4 := Lib.hid (HS3.out rfl)
            go_wp2_with fail
            go_region_held3 (fun w' => w'.cell? ⟨ba, oa + k, none⟩ = some (.int .i64 x) ∧ w'.cell? ⟨bb, ob + k, none⟩ = some (.int .i64 y))
              (first
                | go_keep
                | exact ⟨(K1.cell (p := ⟨ba, oa + k, none⟩) (by exact lx)).trans hx, (K1.cell (p := ⟨bb, ob + k, none⟩) (by exact ly)).trans hy⟩)
              (first
                | (go_at_call 39; refine (C1.out _).mono ?_; rintro e w1 ⟨rfl, K1⟩))
            have BB : Hid (Below g w w1) := B1.out.drew.trans (K1.mono hs)
            have hs1 := BB.out.size
            rw [HG.out] at hs1
            clear K1
            go_wp2_with fail
            refine (C2.out _).mono ?_
            rintro e w2 ⟨rfl, K2⟩
            have B2 : Hid (Below g w w2) := BB.out.trans (K2.mono hs1)
            clear K2
            go_wp2
            go_roundw
            case rel => exact ⟨k + 1, z, by omega, by go_num, rfl, ⟨HS4.out, HR.out.1, HR.out.2⟩, B2, HE⟩
            case measure => simp [intOf]; omega
      · have E : Hid (P = (s, 0)) := by
          have h : ∀ j, j < a.length → dotO a b j = true := fun j hj => HT.out j (by rw [HN.out] at hj; omega)
          refine HP.out.symm.trans ((dotV_yes (by rw [HN.out]; exact HL.out) h).trans ?_)
          rw [HN.out, HS.out.1]
          obtain rfl : k = n := by omega
          rfl
        go_wp2
        go_ret2
        exact ⟨by rw [E.out]; rfl, B1.out⟩
  · rw [dotV_len hlen]
    clear ra rb
    generalize a.length = n at *
    generalize b.length = m at *
    have h1 : (n != m) = true := by simpa using hlen
    have h2 : ((n : Int) != (m : Int)) = true := by simp; omega
    go_enter Try.func17, Try.ntmps17
    go_wp2_with fail
    go_ret2
    exact ⟨rfl, Below.refl _ _⟩
end Go.Proofs.Ytcihdecfganohaa
