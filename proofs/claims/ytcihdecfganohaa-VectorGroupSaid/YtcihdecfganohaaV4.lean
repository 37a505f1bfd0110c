/- The reference's sums, differences, multiples and combinations of vectors. -/
import Derived.Test.YtcihdecfganohaaV3
namespace Go.Proofs.Ytcihdecfganohaa
open Go.RowKit

theorem one_cells (x : Int) : ∀ u ∈ [Value.int .i64 x], u.oneCell' = true := by simp [Value.oneCell']

set_option maxHeartbeats 2000000 in
theorem rsub_law (A B : Option Addr) (a b : List Int) (ca cb : Nat) (w : World) (ia : In64 a) (ib : In64 b) (ra : ReadsV w A a) (rb : ReadsV w B b) (hl : a.length ≤ 100) :
    Calls Try.prog 15 #[.slice A a.length ca, .slice B b.length cb] w (VecPost w.heap.size w (subV a b)) := by
  by_cases hlen : a.length = b.length
  · have e0 : pairF a b (subE a b) = trF a.length (subE a b) := by unfold pairF; rw [if_pos hlen]
    show Calls _ _ _ _ (VecPost _ _ (pairF a b (subE a b)))
    rw [e0, ← hlen]
    clear e0
    have HL := Lib.hid hlen
    clear hlen
    obtain ⟨i0, hi, hz0, hz1, hz2⟩ := info_parts info64
    have HI := Lib.hid hi
    have HZ0 := Lib.hid hz0
    have HZ1 := Lib.hid hz1
    have HZ2 := Lib.hid hz2
    clear hi hz0 hz1 hz2
    generalize hP : trF a.length (subE a b) = P
    have HP := Lib.hid hP
    clear hP
    have RA := Lib.hid ra
    clear ra
    have RB := Lib.hid rb
    clear rb
    generalize hg : w.heap.size = g at *
    have HG := Lib.hid hg
    clear hg
    generalize hn : a.length = n at *
    have HN := Lib.hid hn
    clear hn
    go_enter Try.func15, Try.ntmps15
    go_wp2_with fail
    go_loopw [6, 7] (fun v q wr => ∃ k : Nat, k ≤ n ∧ q = .int .i64 k ∧ Hid (wr.ownsRow g 2 1 v k ((headL (subE a b) k).map (Value.int .i64))) ∧ Hid (Below g w wr) ∧ Hid (∀ jj, jj < k → (subE a b jj).2 = true)) (fun _ q _ => n - (intOf q).toNat)
    case atStart => exact ⟨0, by omega, rfl, World.ownsRow_nil _ _ _ _, Below.refl _ _, fun jj hj => absurd hj (by omega)⟩
    case round =>
      obtain ⟨k, hk, rfl, O, B1, HT⟩ := hrel
      by_cases hlt : k < n
      · have hs := B1.out.size
        rw [HG.out] at hs
        obtain ⟨ba, oa, e1, hx⟩ := at_of_reads (RA.out.below B1.out (by rw [HG.out]; exact Nat.le_refl _)) k (by rw [HN.out]; exact hlt)
        subst e1
        have lx := World.block_lt_of_cell? wr ⟨ba, oa + k, none⟩ hx
        obtain ⟨bb, ob, e2, hy⟩ := at_of_reads (RB.out.below B1.out (by rw [HG.out]; exact Nat.le_refl _)) k (by rw [← HL.out]; exact hlt)
        subst e2
        have ly := World.block_lt_of_cell? wr ⟨bb, ob + k, none⟩ hy
        have HX : Hid ((subE a b k).2 = false → P = ([], 3)) := fun h => HP.out.symm.trans (trF_no k hlt h)
        have HY : Hid ((subE a b k).2 = true → ∀ jj, jj < k + 1 → (subE a b jj).2 = true) := fun h jj hj => by
          by_cases e : jj < k
          · exact HT.out jj e
          · obtain rfl : jj = k := by omega
            exact h
        have HZ : Hid (headL (subE a b) (k + 1) = headL (subE a b) k ++ [(subE a b k).1]) := headL_snoc _ k
        have b1 : k + 1 ≤ maxLen := by unfold maxLen; omega
        have b2 : (k + 1) * 8 ≤ 140737488355328 := by omega
        have b4 : Hid (∀ q, u6.ownBlock = some q → g ≤ q) := fun q e => (O.out.lt q e).1
        have C : Hid (∀ W, Calls Try.prog 37 #[.int .i64 (at0 a k), .int .i64 (at0 b k)] W fun e w' => e = .returned (.tuple #[.int .i64 (subE a b k).1, .bool (subE a b k).2]) ∧ Below W.heap.size W w') := rsub_any _ _ (ia.at k).1 (ia.at k).2 (ib.at k).1 (ib.at k).2
        clear HT
        generalize (subE a b k).1 = z at *
        generalize (subE a b k).2 = t at *
        generalize at0 a k = x at *
        generalize at0 b k = y at *
        cases t
        · have E := Lib.hid (HX.out rfl)
          go_wp2_with fail
          go_region_held3 (fun w' => w'.cell? ⟨ba, oa + k, none⟩ = some (.int .i64 x) ∧ w'.cell? ⟨bb, ob + k, none⟩ = some (.int .i64 y))
            (first
              | go_keep
              | exact ⟨(K1.cell (p := ⟨ba, oa + k, none⟩) (by exact lx)).trans hx, (K1.cell (p := ⟨bb, ob + k, none⟩) (by exact ly)).trans hy⟩)
            (first
              | (go_at_call 37; refine (C.out _).mono ?_; rintro e w1 ⟨rfl, K1⟩))
          have BB : Hid (Below g w w1) := B1.out.drew.trans (K1.mono hs)
          clear K1
          go_wp2
          go_ret2
          exact ⟨none, 0, by rw [E.out]; rfl, by rw [E.out]; exact ReadsV.nil _ _, BB.out⟩
        · have HE := Lib.hid (HY.out rfl)
          go_wp2_with fail
          go_region_held3 (fun w' => w'.cell? ⟨ba, oa + k, none⟩ = some (.int .i64 x) ∧ w'.cell? ⟨bb, ob + k, none⟩ = some (.int .i64 y))
            (first
              | go_keep
              | exact ⟨(K1.cell (p := ⟨ba, oa + k, none⟩) (by exact lx)).trans hx, (K1.cell (p := ⟨bb, ob + k, none⟩) (by exact ly)).trans hy⟩)
            (first
              | (go_at_call 37; refine (C.out _).mono ?_; rintro e w1 ⟨rfl, K1⟩))
          have BB : Hid (Below g w w1) := B1.out.drew.trans (K1.mono hs)
          have OO := Lib.hid (own_below (w := wr.drew) O.out.drew K1 (Nat.le_refl _))
          clear K1
          have b3 : g ≤ (w1.alloc (.cells #[.int .i64 z] 2)).heap.size := by rw [World.size_alloc]; have := BB.out.size; rw [HG.out] at this; omega
          have BA : Hid (Below g w (w1.alloc (.cells #[.int .i64 z] 2))) := BB.out.alloc (by have := BB.out.size; rw [HG.out] at this; exact this) _
          go_wp2_with (at_builtin; (refine wpList_append_own _ rfl (.tmp 35) (.tmp 37) 22 rfl g 2 i0 (.int .i64 0) 1 8 Try.underlying22 HI.out HZ0.out HZ1.out HZ2.out rfl (by decide) u6 k _ rfl (OO.out.alloc _) ⟨w1.heap.size, 0, none⟩ 1 1 [.int .i64 z] rfl rfl (cell_one_new _ _ _) (one_cells z) b1 b2 b3 ?_); intro v' w5 hown' hgrow _)
          have O5 : Hid (w5.ownsRow g 2 1 v' (k + 1) ((headL (subE a b) (k + 1)).map (Value.int .i64))) := by
            show World.ownsRow _ _ _ _ _ _ _
            rw [HZ.out, List.map_append]
            exact hown'
          have B5 : Hid (Below g w w5) := BA.out.grown hgrow b3 b4.out
          clear hown' hgrow
          go_wp2
          go_roundw
          case rel => exact ⟨k + 1, by omega, by go_num, O5, B5, HE⟩
          case measure => simp [intOf]; omega
      · have E : Hid (P = (headL (subE a b) n, 0)) := by
          have h : ∀ jj, jj < n → (subE a b jj).2 = true := fun jj hj => HT.out jj (by omega)
          exact HP.out.symm.trans (trF_yes h)
        obtain rfl : k = n := by omega
        obtain ⟨A2, c2, h1, h2⟩ := ReadsV.own O.out
        rw [headL_len] at h1
        subst h1
        go_wp2
        go_ret2
        refine ⟨A2, c2, ?_, by rw [E.out]; exact h2, B1.out⟩
        rw [E.out]
        show _ = Ending.returned (.tuple #[.slice _ (headL (subE a b) k).length _, .int .i64 0])
        rw [headL_len]
        rfl
  · have e0 : pairF a b (subE a b) = ([], 2) := by unfold pairF; rw [if_neg hlen]
    show Calls _ _ _ _ (VecPost _ _ (pairF a b (subE a b)))
    rw [e0]
    clear e0 ra rb
    generalize a.length = n at *
    generalize b.length = m at *
    have h1 : (n != m) = true := by simpa using hlen
    have h2 : ((n : Int) != (m : Int)) = true := by simp; omega
    go_enter Try.func15, Try.ntmps15
    go_wp2_with fail
    go_ret2
    exact ⟨none, 0, rfl, ReadsV.nil _ _, Below.refl _ _⟩

set_option maxHeartbeats 2000000 in
theorem rscl_law (A : Option Addr) (a : List Int) (ca : Nat) (s : Int) (w : World) (ia : In64 a) (ra : ReadsV w A a) (hl : a.length ≤ 100) (s1 : -9223372036854775808 ≤ s) (s2 : s ≤ 9223372036854775807) :
    Calls Try.prog 20 #[.slice A a.length ca, .int .i64 s] w (VecPost w.heap.size w (sclV a s)) := by
  show Calls _ _ _ _ (VecPost _ _ (trF a.length (sclE a s)))
  obtain ⟨i0, hi, hz0, hz1, hz2⟩ := info_parts info64
  have HI := Lib.hid hi
  have HZ0 := Lib.hid hz0
  have HZ1 := Lib.hid hz1
  have HZ2 := Lib.hid hz2
  clear hi hz0 hz1 hz2
  generalize hP : trF a.length (sclE a s) = P
  have HP := Lib.hid hP
  clear hP
  have RA := Lib.hid ra
  clear ra
  generalize hg : w.heap.size = g at *
  have HG := Lib.hid hg
  clear hg
  generalize hn : a.length = n at *
  have HN := Lib.hid hn
  clear hn
  go_enter Try.func20, Try.ntmps20
  go_wp2_with fail
  go_loopw [6, 7] (fun v q wr => ∃ k : Nat, k ≤ n ∧ q = .int .i64 k ∧ Hid (wr.ownsRow g 2 1 v k ((headL (sclE a s) k).map (Value.int .i64))) ∧ Hid (Below g w wr) ∧ Hid (∀ jj, jj < k → (sclE a s jj).2 = true)) (fun _ q _ => n - (intOf q).toNat)
  case atStart => exact ⟨0, by omega, rfl, World.ownsRow_nil _ _ _ _, Below.refl _ _, fun jj hj => absurd hj (by omega)⟩
  case round =>
    obtain ⟨k, hk, rfl, O, B1, HT⟩ := hrel
    by_cases hlt : k < n
    · have hs := B1.out.size
      rw [HG.out] at hs
      obtain ⟨ba, oa, e1, hx⟩ := at_of_reads (RA.out.below B1.out (by rw [HG.out]; exact Nat.le_refl _)) k (by rw [HN.out]; exact hlt)
      subst e1
      have lx := World.block_lt_of_cell? wr ⟨ba, oa + k, none⟩ hx
      have HX : Hid ((sclE a s k).2 = false → P = ([], 3)) := fun h => HP.out.symm.trans (trF_no k hlt h)
      have HY : Hid ((sclE a s k).2 = true → ∀ jj, jj < k + 1 → (sclE a s jj).2 = true) := fun h jj hj => by
        by_cases e : jj < k
        · exact HT.out jj e
        · obtain rfl : jj = k := by omega
          exact h
      have HZ : Hid (headL (sclE a s) (k + 1) = headL (sclE a s) k ++ [(sclE a s k).1]) := headL_snoc _ k
      have b1 : k + 1 ≤ maxLen := by unfold maxLen; omega
      have b2 : (k + 1) * 8 ≤ 140737488355328 := by omega
      have b4 : Hid (∀ q, u6.ownBlock = some q → g ≤ q) := fun q e => (O.out.lt q e).1
      have C : Hid (∀ W, Calls Try.prog 39 #[.int .i64 (at0 a k), .int .i64 s] W fun e w' => e = .returned (.tuple #[.int .i64 (sclE a s k).1, .bool (sclE a s k).2]) ∧ Below W.heap.size W w') := rmul_any _ _ (ia.at k).1 (ia.at k).2 s1 s2
      clear HT
      generalize (sclE a s k).1 = z at *
      generalize (sclE a s k).2 = t at *
      generalize at0 a k = x at *
      cases t
      · have E := Lib.hid (HX.out rfl)
        go_wp2_with fail
        refine (C.out _).mono ?_
        rintro e w1 ⟨rfl, K1⟩
        have BB : Hid (Below g w w1) := B1.out.trans (K1.mono hs)
        clear K1
        go_wp2
        go_ret2
        exact ⟨none, 0, by rw [E.out]; rfl, by rw [E.out]; exact ReadsV.nil _ _, BB.out⟩
      · have HE := Lib.hid (HY.out rfl)
        go_wp2_with fail
        refine (C.out _).mono ?_
        rintro e w1 ⟨rfl, K1⟩
        have BB : Hid (Below g w w1) := B1.out.trans (K1.mono hs)
        have OO := Lib.hid (own_below O.out K1 (Nat.le_refl _))
        clear K1
        have b3 : g ≤ (w1.alloc (.cells #[.int .i64 z] 2)).heap.size := by rw [World.size_alloc]; have := BB.out.size; rw [HG.out] at this; omega
        have BA : Hid (Below g w (w1.alloc (.cells #[.int .i64 z] 2))) := BB.out.alloc (by have := BB.out.size; rw [HG.out] at this; exact this) _
        go_wp2_with (at_builtin; (refine wpList_append_own _ rfl (.tmp 27) (.tmp 29) 22 rfl g 2 i0 (.int .i64 0) 1 8 Try.underlying22 HI.out HZ0.out HZ1.out HZ2.out rfl (by decide) u6 k _ rfl (OO.out.alloc _) ⟨w1.heap.size, 0, none⟩ 1 1 [.int .i64 z] rfl rfl (cell_one_new _ _ _) (one_cells z) b1 b2 b3 ?_); intro v' w5 hown' hgrow _)
        have O5 : Hid (w5.ownsRow g 2 1 v' (k + 1) ((headL (sclE a s) (k + 1)).map (Value.int .i64))) := by
          show World.ownsRow _ _ _ _ _ _ _
          rw [HZ.out, List.map_append]
          exact hown'
        have B5 : Hid (Below g w w5) := BA.out.grown hgrow b3 b4.out
        clear hown' hgrow
        go_wp2
        go_roundw
        case rel => exact ⟨k + 1, by omega, by go_num, O5, B5, HE⟩
        case measure => simp [intOf]; omega
    · have E : Hid (P = (headL (sclE a s) n, 0)) := by
        have h : ∀ jj, jj < n → (sclE a s jj).2 = true := fun jj hj => HT.out jj (by omega)
        exact HP.out.symm.trans (trF_yes h)
      obtain rfl : k = n := by omega
      obtain ⟨A2, c2, h1, h2⟩ := ReadsV.own O.out
      rw [headL_len] at h1
      subst h1
      go_wp2
      go_ret2
      refine ⟨A2, c2, ?_, by rw [E.out]; exact h2, B1.out⟩
      rw [E.out]
      show _ = Ending.returned (.tuple #[.slice _ (headL (sclE a s) k).length _, .int .i64 0])
      rw [headL_len]
      rfl

set_option maxHeartbeats 2000000 in
theorem rcmb_raw (A B : Option Addr) (a b : List Int) (ca cb : Nat) (i j : Int) (w : World) (ia : In64 a) (ib : In64 b) (ra : ReadsV w A a) (rb : ReadsV w B b) (hl : a.length ≤ 100) (i1 : -9223372036854775808 ≤ i) (i2 : i ≤ 9223372036854775807) (j1 : -9223372036854775808 ≤ j) (j2 : j ≤ 9223372036854775807) :
    Calls Try.prog 22 #[.slice A a.length ca, .int .i64 i, .slice B b.length cb, .int .i64 j] w (VecPost w.heap.size w (pairF a b (rcmE a i b j))) := by
  by_cases hlen : a.length = b.length
  · have e0 : pairF a b (rcmE a i b j) = trF a.length (rcmE a i b j) := by unfold pairF; rw [if_pos hlen]
    show Calls _ _ _ _ (VecPost _ _ (pairF a b (rcmE a i b j)))
    rw [e0, ← hlen]
    clear e0
    have HL := Lib.hid hlen
    clear hlen
    obtain ⟨i0, hi, hz0, hz1, hz2⟩ := info_parts info64
    have HI := Lib.hid hi
    have HZ0 := Lib.hid hz0
    have HZ1 := Lib.hid hz1
    have HZ2 := Lib.hid hz2
    clear hi hz0 hz1 hz2
    generalize hP : trF a.length (rcmE a i b j) = P
    have HP := Lib.hid hP
    clear hP
    have RA := Lib.hid ra
    clear ra
    have RB := Lib.hid rb
    clear rb
    generalize hg : w.heap.size = g at *
    have HG := Lib.hid hg
    clear hg
    generalize hn : a.length = n at *
    have HN := Lib.hid hn
    clear hn
    go_enter Try.func22, Try.ntmps22
    go_wp2_with fail
    go_loopw [10, 11] (fun v q wr => ∃ k : Nat, k ≤ n ∧ q = .int .i64 k ∧ Hid (wr.ownsRow g 2 1 v k ((headL (rcmE a i b j) k).map (Value.int .i64))) ∧ Hid (Below g w wr) ∧ Hid (∀ jj, jj < k → (rcmE a i b j jj).2 = true)) (fun _ q _ => n - (intOf q).toNat)
    case atStart => exact ⟨0, by omega, rfl, World.ownsRow_nil _ _ _ _, Below.refl _ _, fun jj hj => absurd hj (by omega)⟩
    case round =>
      obtain ⟨k, hk, rfl, O, B1, HT⟩ := hrel
      by_cases hlt : k < n
      · have hs := B1.out.size
        rw [HG.out] at hs
        obtain ⟨ba, oa, e1, hx⟩ := at_of_reads (RA.out.below B1.out (by rw [HG.out]; exact Nat.le_refl _)) k (by rw [HN.out]; exact hlt)
        subst e1
        have lx := World.block_lt_of_cell? wr ⟨ba, oa + k, none⟩ hx
        obtain ⟨bb, ob, e2, hy⟩ := at_of_reads (RB.out.below B1.out (by rw [HG.out]; exact Nat.le_refl _)) k (by rw [← HL.out]; exact hlt)
        subst e2
        have ly := World.block_lt_of_cell? wr ⟨bb, ob + k, none⟩ hy
        have HX : Hid ((rcmE a i b j k).2 = false → P = ([], 3)) := fun h => HP.out.symm.trans (trF_no k hlt h)
        have HY : Hid ((rcmE a i b j k).2 = true → ∀ jj, jj < k + 1 → (rcmE a i b j jj).2 = true) := fun h jj hj => by
          by_cases e : jj < k
          · exact HT.out jj e
          · obtain rfl : jj = k := by omega
            exact h
        have HZ : Hid (headL (rcmE a i b j) (k + 1) = headL (rcmE a i b j) k ++ [(rcmE a i b j k).1]) := headL_snoc _ k
        have b1 : k + 1 ≤ maxLen := by unfold maxLen; omega
        have b2 : (k + 1) * 8 ≤ 140737488355328 := by omega
        have b4 : Hid (∀ q, u10.ownBlock = some q → g ≤ q) := fun q e => (O.out.lt q e).1
        have hp := fitV_in (at0 a k * i)
        have hq := fitV_in (at0 b k * j)
        have C1 : Hid (∀ W, Calls Try.prog 39 #[.int .i64 (at0 a k), .int .i64 i] W fun e w' => e = .returned (.tuple #[.int .i64 (fitV (at0 a k * i)), .bool (fits (at0 a k * i))]) ∧ Below W.heap.size W w') := rmul_any _ _ (ia.at k).1 (ia.at k).2 i1 i2
        have C2 : Hid (∀ W, Calls Try.prog 39 #[.int .i64 (at0 b k), .int .i64 j] W fun e w' => e = .returned (.tuple #[.int .i64 (fitV (at0 b k * j)), .bool (fits (at0 b k * j))]) ∧ Below W.heap.size W w') := rmul_any _ _ (ib.at k).1 (ib.at k).2 j1 j2
        have C3 : Hid (∀ W, Calls Try.prog 40 #[.int .i64 (fitV (at0 a k * i)), .int .i64 (fitV (at0 b k * j))] W fun e w' => e = .returned (.tuple #[.int .i64 (rcmE a i b j k).1, .bool (fits (fitV (at0 a k * i) + fitV (at0 b k * j)))]) ∧ Below W.heap.size W w') := radd_any _ _ hp.1 hp.2 hq.1 hq.2
        have HB : Hid ((rcmE a i b j k).2 = (fits (at0 a k * i) && fits (at0 b k * j) && fits (fitV (at0 a k * i) + fitV (at0 b k * j)))) := rfl
        clear HT hp hq
        generalize (rcmE a i b j k).1 = z at *
        generalize (rcmE a i b j k).2 = t at *
        generalize fits (fitV (at0 a k * i) + fitV (at0 b k * j)) = t3 at *
        generalize fitV (at0 a k * i) = p at *
        generalize fitV (at0 b k * j) = q at *
        generalize fits (at0 a k * i) = t1 at *
        generalize fits (at0 b k * j) = t2 at *
        generalize at0 a k = x at *
        generalize at0 b k = y at *
        cases t1
        · have E := Lib.hid (HX.out (HB.out.trans rfl))
          go_wp2_with fail
          refine (C1.out _).mono ?_
          rintro e w1 ⟨rfl, K1⟩
          have hy1 : w1.cell? ⟨bb, ob + k, none⟩ = some (.int .i64 y) := (K1.cell (p := ⟨bb, ob + k, none⟩) (by exact ly)).trans hy
          have BB1 : Hid (Below g w w1) := B1.out.trans (K1.mono hs)
          have OO1 := Lib.hid (own_below O.out K1 (Nat.le_refl _))
          clear K1
          have hs1 := BB1.out.size
          rw [HG.out] at hs1
          go_wp2_with fail
          refine (C2.out _).mono ?_
          rintro e w2 ⟨rfl, K2⟩
          have BB2 : Hid (Below g w w2) := BB1.out.trans (K2.mono hs1)
          have OO2 := Lib.hid (own_below OO1.out K2 (Nat.le_refl _))
          clear K2
          have hs2 := BB2.out.size
          rw [HG.out] at hs2
          go_wp2_with fail
          refine (C3.out _).mono ?_
          rintro e w3 ⟨rfl, K3⟩
          have BB : Hid (Below g w w3) := BB2.out.trans (K3.mono hs2)
          have OO := Lib.hid (own_below OO2.out K3 (Nat.le_refl _))
          clear K3 hy1 hs1 hs2
          go_wp2
          go_ret2
          exact ⟨none, 0, by rw [E.out]; rfl, by rw [E.out]; exact ReadsV.nil _ _, BB.out⟩
        cases t2
        · have E := Lib.hid (HX.out (HB.out.trans rfl))
          go_wp2_with fail
          refine (C1.out _).mono ?_
          rintro e w1 ⟨rfl, K1⟩
          have hy1 : w1.cell? ⟨bb, ob + k, none⟩ = some (.int .i64 y) := (K1.cell (p := ⟨bb, ob + k, none⟩) (by exact ly)).trans hy
          have BB1 : Hid (Below g w w1) := B1.out.trans (K1.mono hs)
          have OO1 := Lib.hid (own_below O.out K1 (Nat.le_refl _))
          clear K1
          have hs1 := BB1.out.size
          rw [HG.out] at hs1
          go_wp2_with fail
          refine (C2.out _).mono ?_
          rintro e w2 ⟨rfl, K2⟩
          have BB2 : Hid (Below g w w2) := BB1.out.trans (K2.mono hs1)
          have OO2 := Lib.hid (own_below OO1.out K2 (Nat.le_refl _))
          clear K2
          have hs2 := BB2.out.size
          rw [HG.out] at hs2
          go_wp2_with fail
          refine (C3.out _).mono ?_
          rintro e w3 ⟨rfl, K3⟩
          have BB : Hid (Below g w w3) := BB2.out.trans (K3.mono hs2)
          have OO := Lib.hid (own_below OO2.out K3 (Nat.le_refl _))
          clear K3 hy1 hs1 hs2
          go_wp2
          go_ret2
          exact ⟨none, 0, by rw [E.out]; rfl, by rw [E.out]; exact ReadsV.nil _ _, BB.out⟩
        cases t3
        · have E := Lib.hid (HX.out (HB.out.trans rfl))
          go_wp2_with fail
          refine (C1.out _).mono ?_
          rintro e w1 ⟨rfl, K1⟩
          have hy1 : w1.cell? ⟨bb, ob + k, none⟩ = some (.int .i64 y) := (K1.cell (p := ⟨bb, ob + k, none⟩) (by exact ly)).trans hy
          have BB1 : Hid (Below g w w1) := B1.out.trans (K1.mono hs)
          have OO1 := Lib.hid (own_below O.out K1 (Nat.le_refl _))
          clear K1
          have hs1 := BB1.out.size
          rw [HG.out] at hs1
          go_wp2_with fail
          refine (C2.out _).mono ?_
          rintro e w2 ⟨rfl, K2⟩
          have BB2 : Hid (Below g w w2) := BB1.out.trans (K2.mono hs1)
          have OO2 := Lib.hid (own_below OO1.out K2 (Nat.le_refl _))
          clear K2
          have hs2 := BB2.out.size
          rw [HG.out] at hs2
          go_wp2_with fail
          refine (C3.out _).mono ?_
          rintro e w3 ⟨rfl, K3⟩
          have BB : Hid (Below g w w3) := BB2.out.trans (K3.mono hs2)
          have OO := Lib.hid (own_below OO2.out K3 (Nat.le_refl _))
          clear K3 hy1 hs1 hs2
          go_wp2
          go_ret2
          exact ⟨none, 0, by rw [E.out]; rfl, by rw [E.out]; exact ReadsV.nil _ _, BB.out⟩
        · have HE := Lib.hid (HY.out (HB.out.trans rfl))
          go_wp2_with fail
          refine (C1.out _).mono ?_
          rintro e w1 ⟨rfl, K1⟩
          have hy1 : w1.cell? ⟨bb, ob + k, none⟩ = some (.int .i64 y) := (K1.cell (p := ⟨bb, ob + k, none⟩) (by exact ly)).trans hy
          have BB1 : Hid (Below g w w1) := B1.out.trans (K1.mono hs)
          have OO1 := Lib.hid (own_below O.out K1 (Nat.le_refl _))
          clear K1
          have hs1 := BB1.out.size
          rw [HG.out] at hs1
          go_wp2_with fail
          refine (C2.out _).mono ?_
          rintro e w2 ⟨rfl, K2⟩
          have BB2 : Hid (Below g w w2) := BB1.out.trans (K2.mono hs1)
          have OO2 := Lib.hid (own_below OO1.out K2 (Nat.le_refl _))
          clear K2
          have hs2 := BB2.out.size
          rw [HG.out] at hs2
          go_wp2_with fail
          refine (C3.out _).mono ?_
          rintro e w3 ⟨rfl, K3⟩
          have BB : Hid (Below g w w3) := BB2.out.trans (K3.mono hs2)
          have OO := Lib.hid (own_below OO2.out K3 (Nat.le_refl _))
          clear K3 hy1 hs1 hs2
          have b3 : g ≤ (w3.alloc (.cells #[.int .i64 z] 2)).heap.size := by rw [World.size_alloc]; have := BB.out.size; rw [HG.out] at this; omega
          have BA : Hid (Below g w (w3.alloc (.cells #[.int .i64 z] 2))) := BB.out.alloc (by have := BB.out.size; rw [HG.out] at this; exact this) _
          go_wp2_with (at_builtin; (refine wpList_append_own _ rfl (.tmp 63) (.tmp 65) 22 rfl g 2 i0 (.int .i64 0) 1 8 Try.underlying22 HI.out HZ0.out HZ1.out HZ2.out rfl (by decide) u10 k _ rfl (OO.out.alloc _) ⟨w3.heap.size, 0, none⟩ 1 1 [.int .i64 z] rfl rfl (cell_one_new _ _ _) (one_cells z) b1 b2 b3 ?_); intro v' w5 hown' hgrow _)
          have O5 : Hid (w5.ownsRow g 2 1 v' (k + 1) ((headL (rcmE a i b j) (k + 1)).map (Value.int .i64))) := by
            show World.ownsRow _ _ _ _ _ _ _
            rw [HZ.out, List.map_append]
            exact hown'
          have B5 : Hid (Below g w w5) := BA.out.grown hgrow b3 b4.out
          clear hown' hgrow
          go_wp2
          go_roundw
          case rel => exact ⟨k + 1, by omega, by go_num, O5, B5, HE⟩
          case measure => simp [intOf]; omega
      · have E : Hid (P = (headL (rcmE a i b j) n, 0)) := by
          have h : ∀ jj, jj < n → (rcmE a i b j jj).2 = true := fun jj hj => HT.out jj (by omega)
          exact HP.out.symm.trans (trF_yes h)
        obtain rfl : k = n := by omega
        obtain ⟨A2, c2, h1, h2⟩ := ReadsV.own O.out
        rw [headL_len] at h1
        subst h1
        go_wp2
        go_ret2
        refine ⟨A2, c2, ?_, by rw [E.out]; exact h2, B1.out⟩
        rw [E.out]
        show _ = Ending.returned (.tuple #[.slice _ (headL (rcmE a i b j) k).length _, .int .i64 0])
        rw [headL_len]
        rfl
  · have e0 : pairF a b (rcmE a i b j) = ([], 2) := by unfold pairF; rw [if_neg hlen]
    show Calls _ _ _ _ (VecPost _ _ (pairF a b (rcmE a i b j)))
    rw [e0]
    clear e0 ra rb
    generalize a.length = n at *
    generalize b.length = m at *
    have h1 : (n != m) = true := by simpa using hlen
    have h2 : ((n : Int) != (m : Int)) = true := by simp; omega
    go_enter Try.func22, Try.ntmps22
    go_wp2_with fail
    go_ret2
    exact ⟨none, 0, rfl, ReadsV.nil _ _, Below.refl _ _⟩

theorem rcmb_law (A B : Option Addr) (a b : List Int) (ca cb : Nat) (i j : Int) (w : World) (ia : In64 a) (ib : In64 b) (ra : ReadsV w A a) (rb : ReadsV w B b) (hl : a.length ≤ 100) (i1 : -9223372036854775808 ≤ i) (i2 : i ≤ 9223372036854775807) (j1 : -9223372036854775808 ≤ j) (j2 : j ≤ 9223372036854775807) :
    Calls Try.prog 22 #[.slice A a.length ca, .int .i64 i, .slice B b.length cb, .int .i64 j] w (VecPost w.heap.size w (cmbV a i b j)) := by
  rw [← rcm_eq]
  exact rcmb_raw A B a b ca cb i j w ia ib ra rb hl i1 i2 j1 j2
theorem radd_law (A B : Option Addr) (a b : List Int) (ca cb : Nat) (w : World) (ia : In64 a) (ib : In64 b) (ra : ReadsV w A a) (rb : ReadsV w B b) (hl : a.length ≤ 100) :
    Calls Try.prog 13 #[.slice A a.length ca, .slice B b.length cb] w (VecPost w.heap.size w (addV a b)) := by
  have C := Lib.hid (rcmb_law A B a b ca cb 1 1 w ia ib ra rb hl (by omega) (by omega) (by omega) (by omega))
  rw [radd_eq a b ia ib] at C
  clear ra rb
  generalize addV a b = P at *
  generalize a.length = n at *
  generalize b.length = m at *
  go_enter Try.func13, Try.ntmps13
  go_wp2_with fail
  refine C.out.mono ?_
  rintro e w1 ⟨A1, c1, rfl, hr, hb⟩
  have hb := Lib.hid hb
  have hr := Lib.hid hr
  go_wp2
  go_ret2
  exact ⟨A1, c1, rfl, hr.out, hb.out⟩
end Go.Proofs.Ytcihdecfganohaa
