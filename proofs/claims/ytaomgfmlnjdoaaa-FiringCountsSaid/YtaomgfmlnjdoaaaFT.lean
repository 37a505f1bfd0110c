/- Enabled, May, List, Dead: the reference. -/
import Derived.Test.YtaomgfmlnjdoaaaFS
namespace Go.Proofs.Ytaomgfmlnjdoaaa
open Go.RowKit

theorem mayT_mem (n : NetV) (m : List Int) (t : Int) : mayT n m t = (goodN n m && decide (t ∈ firesV n m)) := by
  unfold mayT
  congr 1
  rw [Bool.eq_iff_iff, decide_eq_true_eq, mem_fires, Bool.and_eq_true, inT_iff]
  exact and_assoc

set_option maxHeartbeats 2000000 in
set_option maxRecDepth 100000 in
theorem renT_any (n : NetV) (A : Option Addr) (m : List Int) (c : Nat) (t : Int) (w : World) (hr : NetR w n) (hm : ReadsV w A m) (hl : m.length ≤ 9223372036854775807) :
    Calls Try.prog 12 #[.agg #[.string n.nm, .slice n.PA n.ps.length n.pc, .slice n.TA n.ts.length n.tc], .slice A m.length c, .int .i64 t] w (VPost w.heap.size w (.bool (enT n m t))) := by
  have CG : Hid (∀ W, Below w.heap.size w W → Calls Try.prog 37 #[.agg #[.string n.nm, .slice n.PA n.ps.length n.pc, .slice n.TA n.ts.length n.tc], .slice A m.length c] W (VPost W.heap.size W (.bool (goodN n m)))) := fun W hW => good_any n A m c W (hr.below hW (Nat.le_refl _)) (hm.below hW (Nat.le_refl _)) hl
  have B0 : Hid (Below w.heap.size w (w.alloc (.cells #[.string n.nm, .slice n.PA n.ps.length n.pc, .slice n.TA n.ts.length n.tc] 25))) := ((Below.refl _ _).alloc (Nat.le_refl _) _)
  have HD : enT n m t = (goodN n m && (inT n t && readyB n m t.toNat)) := rfl
  rw [HD]
  clear HD
  cases hg : goodN n m
  · rw [Bool.false_and]
    rw [hg] at CG
    clear hr hm hg
    go_enter Try.func12, Try.ntmps12
    go_wp2_with fail
    refine (CG.out _ B0.out).mono ?_
    rintro e w1 ⟨rfl, K⟩
    have b0_0 : w1.cell? ⟨w.heap.size, 0, none⟩ = some (.string n.nm) := by rw [K.cell (by simp [go_sem] <;> omega)]; simp [go_sem]
    have b0_1 : w1.cell? ⟨w.heap.size, 1, none⟩ = some (.slice n.PA n.ps.length n.pc) := by rw [K.cell (by simp [go_sem] <;> omega)]; simp [go_sem]
    have b0_2 : w1.cell? ⟨w.heap.size, 2, none⟩ = some (.slice n.TA n.ts.length n.tc) := by rw [K.cell (by simp [go_sem] <;> omega)]; simp [go_sem]
    have Bw1 := Lib.hid (B0.out.trans (K.mono (by simp [go_sem] <;> omega)))
    have hs1 : w.heap.size + 1 ≤ w1.heap.size := by have := K.size; (try simp [go_sem] at this); omega
    clear K
    go_wp2
    go_ret
    exact ⟨rfl, Bw1.out⟩
  · rw [Bool.true_and]
    rw [hg] at CG
    by_cases h1 : 0 ≤ t
    · by_cases h2 : t < (n.ts.length : Int)
      · rw [inT_iff.2 ⟨h1, h2⟩, Bool.true_and]
        obtain ⟨k, rfl⟩ : ∃ k : Nat, t = k := ⟨t.toNat, by omega⟩
        rw [Int.toNat_natCast]
        have CM : Hid (∀ W, Below w.heap.size w W → Calls Try.prog 38 #[.agg #[.string n.nm, .slice n.PA n.ps.length n.pc, .slice n.TA n.ts.length n.tc], .slice A m.length c, .int .i64 k] W (VPost W.heap.size W (.bool (readyB n m k)))) := fun W hW => ready_any n A m c k W (hr.below hW (Nat.le_refl _)) (hm.below hW (Nat.le_refl _)) hg (by omega)
        have h3 : k < n.ts.length := by omega
        clear hr hm hg h1 h2
        generalize readyB n m k = b at *
        go_enter Try.func12, Try.ntmps12
        go_wp2_with fail
        refine (CG.out _ B0.out).mono ?_
        rintro e w1 ⟨rfl, K⟩
        have b0_0 : w1.cell? ⟨w.heap.size, 0, none⟩ = some (.string n.nm) := by rw [K.cell (by simp [go_sem] <;> omega)]; simp [go_sem]
        have b0_1 : w1.cell? ⟨w.heap.size, 1, none⟩ = some (.slice n.PA n.ps.length n.pc) := by rw [K.cell (by simp [go_sem] <;> omega)]; simp [go_sem]
        have b0_2 : w1.cell? ⟨w.heap.size, 2, none⟩ = some (.slice n.TA n.ts.length n.tc) := by rw [K.cell (by simp [go_sem] <;> omega)]; simp [go_sem]
        have Bw1 := Lib.hid (B0.out.trans (K.mono (by simp [go_sem] <;> omega)))
        have hs1 : w.heap.size + 1 ≤ w1.heap.size := by have := K.size; (try simp [go_sem] at this); omega
        clear K
        go_wp2_with fail
        refine (CM.out _ Bw1.out).mono ?_
        rintro e w2 ⟨rfl, K⟩
        have b0_0 : w2.cell? ⟨w.heap.size, 0, none⟩ = some (.string n.nm) := by rw [K.cell (by show w.heap.size < _; omega)]; exact b0_0
        have b0_1 : w2.cell? ⟨w.heap.size, 1, none⟩ = some (.slice n.PA n.ps.length n.pc) := by rw [K.cell (by show w.heap.size < _; omega)]; exact b0_1
        have b0_2 : w2.cell? ⟨w.heap.size, 2, none⟩ = some (.slice n.TA n.ts.length n.tc) := by rw [K.cell (by show w.heap.size < _; omega)]; exact b0_2
        have Bw2 := Lib.hid (Bw1.out.trans (K.mono Bw1.out.size))
        have hs2 : w.heap.size + 1 ≤ w2.heap.size := by have := K.size; (try simp [go_sem] at this); omega
        clear K
        go_wp2
        go_ret
        exact ⟨rfl, Bw2.out⟩
      · have E : inT n t = false := by unfold inT; rw [decide_eq_false h2]; simp
        rw [E, Bool.false_and]
        clear hr hm hg E
        go_enter Try.func12, Try.ntmps12
        go_wp2_with fail
        refine (CG.out _ B0.out).mono ?_
        rintro e w1 ⟨rfl, K⟩
        have b0_0 : w1.cell? ⟨w.heap.size, 0, none⟩ = some (.string n.nm) := by rw [K.cell (by simp [go_sem] <;> omega)]; simp [go_sem]
        have b0_1 : w1.cell? ⟨w.heap.size, 1, none⟩ = some (.slice n.PA n.ps.length n.pc) := by rw [K.cell (by simp [go_sem] <;> omega)]; simp [go_sem]
        have b0_2 : w1.cell? ⟨w.heap.size, 2, none⟩ = some (.slice n.TA n.ts.length n.tc) := by rw [K.cell (by simp [go_sem] <;> omega)]; simp [go_sem]
        have Bw1 := Lib.hid (B0.out.trans (K.mono (by simp [go_sem] <;> omega)))
        have hs1 : w.heap.size + 1 ≤ w1.heap.size := by have := K.size; (try simp [go_sem] at this); omega
        clear K
        go_wp2
        go_ret
        exact ⟨rfl, Bw1.out⟩
    · have E : inT n t = false := by unfold inT; rw [decide_eq_false h1]; simp
      rw [E, Bool.false_and]
      clear hr hm hg E
      go_enter Try.func12, Try.ntmps12
      go_wp2_with fail
      refine (CG.out _ B0.out).mono ?_
      rintro e w1 ⟨rfl, K⟩
      have b0_0 : w1.cell? ⟨w.heap.size, 0, none⟩ = some (.string n.nm) := by rw [K.cell (by simp [go_sem] <;> omega)]; simp [go_sem]
      have b0_1 : w1.cell? ⟨w.heap.size, 1, none⟩ = some (.slice n.PA n.ps.length n.pc) := by rw [K.cell (by simp [go_sem] <;> omega)]; simp [go_sem]
      have b0_2 : w1.cell? ⟨w.heap.size, 2, none⟩ = some (.slice n.TA n.ts.length n.tc) := by rw [K.cell (by simp [go_sem] <;> omega)]; simp [go_sem]
      have Bw1 := Lib.hid (B0.out.trans (K.mono (by simp [go_sem] <;> omega)))
      have hs1 : w.heap.size + 1 ≤ w1.heap.size := by have := K.size; (try simp [go_sem] at this); omega
      clear K
      go_wp2
      go_ret
      exact ⟨rfl, Bw1.out⟩

set_option maxHeartbeats 2000000 in
set_option maxRecDepth 100000 in
theorem rmayT_any (n : NetV) (A : Option Addr) (m : List Int) (c : Nat) (t : Int) (w : World) (hr : NetR w n) (hm : ReadsV w A m) (hl : m.length ≤ 9223372036854775807) :
    Calls Try.prog 14 #[.agg #[.string n.nm, .slice n.PA n.ps.length n.pc, .slice n.TA n.ts.length n.tc], .slice A m.length c, .int .i64 t] w (VPost w.heap.size w (.bool (mayT n m t))) := by
  rw [mayT_mem]
  have htl : n.ts.length ≤ 1000 := hr.okt.1
  have CG : Hid (∀ W, Below w.heap.size w W → Calls Try.prog 37 #[.agg #[.string n.nm, .slice n.PA n.ps.length n.pc, .slice n.TA n.ts.length n.tc], .slice A m.length c] W (VPost W.heap.size W (.bool (goodN n m)))) := fun W hW => good_any n A m c W (hr.below hW (Nat.le_refl _)) (hm.below hW (Nat.le_refl _)) hl
  have B0 : Hid (Below w.heap.size w (w.alloc (.cells #[.string n.nm, .slice n.PA n.ps.length n.pc, .slice n.TA n.ts.length n.tc] 25))) := ((Below.refl _ _).alloc (Nat.le_refl _) _)
  cases hg : goodN n m
  · rw [Bool.false_and]
    rw [hg] at CG
    clear hr hm hg
    go_enter Try.func14, Try.ntmps14
    go_wp2_with fail
    refine (CG.out _ B0.out).mono ?_
    rintro e w1 ⟨rfl, K⟩
    have b0_0 : w1.cell? ⟨w.heap.size, 0, none⟩ = some (.string n.nm) := by rw [K.cell (by simp [go_sem] <;> omega)]; simp [go_sem]
    have b0_1 : w1.cell? ⟨w.heap.size, 1, none⟩ = some (.slice n.PA n.ps.length n.pc) := by rw [K.cell (by simp [go_sem] <;> omega)]; simp [go_sem]
    have b0_2 : w1.cell? ⟨w.heap.size, 2, none⟩ = some (.slice n.TA n.ts.length n.tc) := by rw [K.cell (by simp [go_sem] <;> omega)]; simp [go_sem]
    have Bw1 := Lib.hid (B0.out.trans (K.mono (by simp [go_sem] <;> omega)))
    have hs1 : w.heap.size + 1 ≤ w1.heap.size := by have := K.size; (try simp [go_sem] at this); omega
    clear K
    go_wp2
    go_ret
    exact ⟨rfl, Bw1.out⟩
  · rw [Bool.true_and]
    rw [hg] at CG
    have CF : Hid (∀ W, Below w.heap.size w W → Calls Try.prog 41 #[.agg #[.string n.nm, .slice n.PA n.ps.length n.pc, .slice n.TA n.ts.length n.tc], .slice A m.length c] W (IsPost W.heap.size W (firesV n m))) := fun W hW => fires_any n A m c W (hr.below hW (Nat.le_refl _)) (hm.below hW (Nat.le_refl _)) hg
    have FL := Lib.hid (fires_len (n := n) (m := m))
    clear hr hm hg
    have HH : Hid (∀ A2 c2 W, ReadsV W A2 (firesV n m) → Calls Try.prog 40 #[.slice A2 (firesV n m).length c2, .int .i64 t] W (VPost W.heap.size W (.bool (decide (t ∈ firesV n m))))) := fun A2 c2 W h => has_any A2 (firesV n m) c2 t W h (Nat.le_trans FL.out htl)
    generalize firesV n m = L at *
    generalize decide (t ∈ L) = b at *
    go_enter Try.func14, Try.ntmps14
    go_wp2_with fail
    refine (CG.out _ B0.out).mono ?_
    rintro e w1 ⟨rfl, K⟩
    have b0_0 : w1.cell? ⟨w.heap.size, 0, none⟩ = some (.string n.nm) := by rw [K.cell (by simp [go_sem] <;> omega)]; simp [go_sem]
    have b0_1 : w1.cell? ⟨w.heap.size, 1, none⟩ = some (.slice n.PA n.ps.length n.pc) := by rw [K.cell (by simp [go_sem] <;> omega)]; simp [go_sem]
    have b0_2 : w1.cell? ⟨w.heap.size, 2, none⟩ = some (.slice n.TA n.ts.length n.tc) := by rw [K.cell (by simp [go_sem] <;> omega)]; simp [go_sem]
    have Bw1 := Lib.hid (B0.out.trans (K.mono (by simp [go_sem] <;> omega)))
    have hs1 : w.heap.size + 1 ≤ w1.heap.size := by have := K.size; (try simp [go_sem] at this); omega
    clear K
    go_wp2_with fail
    refine (CF.out _ Bw1.out).mono ?_
    rintro e w2 ⟨A2, c2, rfl, R2, K⟩
    have R2 := Lib.hid R2
    have b0_0 : w2.cell? ⟨w.heap.size, 0, none⟩ = some (.string n.nm) := by rw [K.cell (by show w.heap.size < _; omega)]; exact b0_0
    have b0_1 : w2.cell? ⟨w.heap.size, 1, none⟩ = some (.slice n.PA n.ps.length n.pc) := by rw [K.cell (by show w.heap.size < _; omega)]; exact b0_1
    have b0_2 : w2.cell? ⟨w.heap.size, 2, none⟩ = some (.slice n.TA n.ts.length n.tc) := by rw [K.cell (by show w.heap.size < _; omega)]; exact b0_2
    have Bw2 := Lib.hid (Bw1.out.trans (K.mono Bw1.out.size))
    have hs2 : w.heap.size + 1 ≤ w2.heap.size := by have := K.size; (try simp [go_sem] at this); omega
    clear K
    go_wp2_with fail
    refine (HH.out A2 c2 _ R2.out).mono ?_
    rintro e w3 ⟨rfl, K⟩
    have b0_0 : w3.cell? ⟨w.heap.size, 0, none⟩ = some (.string n.nm) := by rw [K.cell (by show w.heap.size < _; omega)]; exact b0_0
    have b0_1 : w3.cell? ⟨w.heap.size, 1, none⟩ = some (.slice n.PA n.ps.length n.pc) := by rw [K.cell (by show w.heap.size < _; omega)]; exact b0_1
    have b0_2 : w3.cell? ⟨w.heap.size, 2, none⟩ = some (.slice n.TA n.ts.length n.tc) := by rw [K.cell (by show w.heap.size < _; omega)]; exact b0_2
    have Bw3 := Lib.hid (Bw2.out.trans (K.mono Bw2.out.size))
    have hs3 : w.heap.size + 1 ≤ w3.heap.size := by have := K.size; (try simp [go_sem] at this); omega
    clear K
    go_wp2
    go_ret
    exact ⟨rfl, Bw3.out⟩

set_option maxHeartbeats 2000000 in
set_option maxRecDepth 100000 in
theorem rlist_any (n : NetV) (A : Option Addr) (m : List Int) (c : Nat) (w : World) (hr : NetR w n) (hm : ReadsV w A m) (hl : m.length ≤ 9223372036854775807) :
    Calls Try.prog 17 #[.agg #[.string n.nm, .slice n.PA n.ps.length n.pc, .slice n.TA n.ts.length n.tc], .slice A m.length c] w (IsPost w.heap.size w (listL n m)) := by
  have CG : Hid (∀ W, Below w.heap.size w W → Calls Try.prog 37 #[.agg #[.string n.nm, .slice n.PA n.ps.length n.pc, .slice n.TA n.ts.length n.tc], .slice A m.length c] W (VPost W.heap.size W (.bool (goodN n m)))) := fun W hW => good_any n A m c W (hr.below hW (Nat.le_refl _)) (hm.below hW (Nat.le_refl _)) hl
  have B0 : Hid (Below w.heap.size w (w.alloc (.cells #[.string n.nm, .slice n.PA n.ps.length n.pc, .slice n.TA n.ts.length n.tc] 25))) := ((Below.refl _ _).alloc (Nat.le_refl _) _)
  unfold listL
  cases hg : goodN n m
  · rw [if_neg (by simp)]
    rw [hg] at CG
    clear hr hm hg
    go_enter Try.func17, Try.ntmps17
    go_wp2_with fail
    refine (CG.out _ B0.out).mono ?_
    rintro e w1 ⟨rfl, K⟩
    have b0_0 : w1.cell? ⟨w.heap.size, 0, none⟩ = some (.string n.nm) := by rw [K.cell (by simp [go_sem] <;> omega)]; simp [go_sem]
    have b0_1 : w1.cell? ⟨w.heap.size, 1, none⟩ = some (.slice n.PA n.ps.length n.pc) := by rw [K.cell (by simp [go_sem] <;> omega)]; simp [go_sem]
    have b0_2 : w1.cell? ⟨w.heap.size, 2, none⟩ = some (.slice n.TA n.ts.length n.tc) := by rw [K.cell (by simp [go_sem] <;> omega)]; simp [go_sem]
    have Bw1 := Lib.hid (B0.out.trans (K.mono (by simp [go_sem] <;> omega)))
    have hs1 : w.heap.size + 1 ≤ w1.heap.size := by have := K.size; (try simp [go_sem] at this); omega
    clear K
    go_wp2
    go_ret
    exact ⟨none, 0, rfl, ReadsV.nil _ _, Bw1.out⟩
  · rw [if_pos rfl]
    rw [hg] at CG
    have CF : Hid (∀ W, Below w.heap.size w W → Calls Try.prog 41 #[.agg #[.string n.nm, .slice n.PA n.ps.length n.pc, .slice n.TA n.ts.length n.tc], .slice A m.length c] W (IsPost W.heap.size W (firesV n m))) := fun W hW => fires_any n A m c W (hr.below hW (Nat.le_refl _)) (hm.below hW (Nat.le_refl _)) hg
    clear hr hm hg
    go_enter Try.func17, Try.ntmps17
    go_wp2_with fail
    refine (CG.out _ B0.out).mono ?_
    rintro e w1 ⟨rfl, K⟩
    have b0_0 : w1.cell? ⟨w.heap.size, 0, none⟩ = some (.string n.nm) := by rw [K.cell (by simp [go_sem] <;> omega)]; simp [go_sem]
    have b0_1 : w1.cell? ⟨w.heap.size, 1, none⟩ = some (.slice n.PA n.ps.length n.pc) := by rw [K.cell (by simp [go_sem] <;> omega)]; simp [go_sem]
    have b0_2 : w1.cell? ⟨w.heap.size, 2, none⟩ = some (.slice n.TA n.ts.length n.tc) := by rw [K.cell (by simp [go_sem] <;> omega)]; simp [go_sem]
    have Bw1 := Lib.hid (B0.out.trans (K.mono (by simp [go_sem] <;> omega)))
    have hs1 : w.heap.size + 1 ≤ w1.heap.size := by have := K.size; (try simp [go_sem] at this); omega
    clear K
    go_wp2_with fail
    refine (CF.out _ Bw1.out).mono ?_
    rintro e w2 ⟨A2, c2, rfl, R2, K⟩
    have R2 := Lib.hid R2
    have b0_0 : w2.cell? ⟨w.heap.size, 0, none⟩ = some (.string n.nm) := by rw [K.cell (by show w.heap.size < _; omega)]; exact b0_0
    have b0_1 : w2.cell? ⟨w.heap.size, 1, none⟩ = some (.slice n.PA n.ps.length n.pc) := by rw [K.cell (by show w.heap.size < _; omega)]; exact b0_1
    have b0_2 : w2.cell? ⟨w.heap.size, 2, none⟩ = some (.slice n.TA n.ts.length n.tc) := by rw [K.cell (by show w.heap.size < _; omega)]; exact b0_2
    have Bw2 := Lib.hid (Bw1.out.trans (K.mono Bw1.out.size))
    have hs2 : w.heap.size + 1 ≤ w2.heap.size := by have := K.size; (try simp [go_sem] at this); omega
    clear K
    go_wp2
    go_ret
    exact ⟨A2, c2, rfl, R2.out, Bw2.out⟩

set_option maxHeartbeats 2000000 in
set_option maxRecDepth 100000 in
theorem rdead_any (n : NetV) (A : Option Addr) (m : List Int) (c : Nat) (w : World) (hr : NetR w n) (hm : ReadsV w A m) (hl : m.length ≤ 9223372036854775807) :
    Calls Try.prog 19 #[.agg #[.string n.nm, .slice n.PA n.ps.length n.pc, .slice n.TA n.ts.length n.tc], .slice A m.length c] w (VPost w.heap.size w (.bool (deadB n m))) := by
  have CG : Hid (∀ W, Below w.heap.size w W → Calls Try.prog 37 #[.agg #[.string n.nm, .slice n.PA n.ps.length n.pc, .slice n.TA n.ts.length n.tc], .slice A m.length c] W (VPost W.heap.size W (.bool (goodN n m)))) := fun W hW => good_any n A m c W (hr.below hW (Nat.le_refl _)) (hm.below hW (Nat.le_refl _)) hl
  have B0 : Hid (Below w.heap.size w (w.alloc (.cells #[.string n.nm, .slice n.PA n.ps.length n.pc, .slice n.TA n.ts.length n.tc] 25))) := ((Below.refl _ _).alloc (Nat.le_refl _) _)
  have HD : deadB n m = (goodN n m && decide ((firesV n m).length = 0)) := rfl
  rw [HD]
  clear HD
  cases hg : goodN n m
  · rw [Bool.false_and]
    rw [hg] at CG
    clear hr hm hg
    go_enter Try.func19, Try.ntmps19
    go_wp2_with fail
    refine (CG.out _ B0.out).mono ?_
    rintro e w1 ⟨rfl, K⟩
    have b0_0 : w1.cell? ⟨w.heap.size, 0, none⟩ = some (.string n.nm) := by rw [K.cell (by simp [go_sem] <;> omega)]; simp [go_sem]
    have b0_1 : w1.cell? ⟨w.heap.size, 1, none⟩ = some (.slice n.PA n.ps.length n.pc) := by rw [K.cell (by simp [go_sem] <;> omega)]; simp [go_sem]
    have b0_2 : w1.cell? ⟨w.heap.size, 2, none⟩ = some (.slice n.TA n.ts.length n.tc) := by rw [K.cell (by simp [go_sem] <;> omega)]; simp [go_sem]
    have Bw1 := Lib.hid (B0.out.trans (K.mono (by simp [go_sem] <;> omega)))
    have hs1 : w.heap.size + 1 ≤ w1.heap.size := by have := K.size; (try simp [go_sem] at this); omega
    clear K
    go_wp2
    go_ret
    exact ⟨rfl, Bw1.out⟩
  · rw [Bool.true_and]
    rw [hg] at CG
    have CF : Hid (∀ W, Below w.heap.size w W → Calls Try.prog 41 #[.agg #[.string n.nm, .slice n.PA n.ps.length n.pc, .slice n.TA n.ts.length n.tc], .slice A m.length c] W (IsPost W.heap.size W (firesV n m))) := fun W hW => fires_any n A m c W (hr.below hW (Nat.le_refl _)) (hm.below hW (Nat.le_refl _)) hg
    clear hr hm hg
    generalize firesV n m = L at *
    go_enter Try.func19, Try.ntmps19
    go_wp2_with fail
    refine (CG.out _ B0.out).mono ?_
    rintro e w1 ⟨rfl, K⟩
    have b0_0 : w1.cell? ⟨w.heap.size, 0, none⟩ = some (.string n.nm) := by rw [K.cell (by simp [go_sem] <;> omega)]; simp [go_sem]
    have b0_1 : w1.cell? ⟨w.heap.size, 1, none⟩ = some (.slice n.PA n.ps.length n.pc) := by rw [K.cell (by simp [go_sem] <;> omega)]; simp [go_sem]
    have b0_2 : w1.cell? ⟨w.heap.size, 2, none⟩ = some (.slice n.TA n.ts.length n.tc) := by rw [K.cell (by simp [go_sem] <;> omega)]; simp [go_sem]
    have Bw1 := Lib.hid (B0.out.trans (K.mono (by simp [go_sem] <;> omega)))
    have hs1 : w.heap.size + 1 ≤ w1.heap.size := by have := K.size; (try simp [go_sem] at this); omega
    clear K
    go_wp2_with fail
    refine (CF.out _ Bw1.out).mono ?_
    rintro e w2 ⟨A2, c2, rfl, R2, K⟩
    have b0_0 : w2.cell? ⟨w.heap.size, 0, none⟩ = some (.string n.nm) := by rw [K.cell (by show w.heap.size < _; omega)]; exact b0_0
    have b0_1 : w2.cell? ⟨w.heap.size, 1, none⟩ = some (.slice n.PA n.ps.length n.pc) := by rw [K.cell (by show w.heap.size < _; omega)]; exact b0_1
    have b0_2 : w2.cell? ⟨w.heap.size, 2, none⟩ = some (.slice n.TA n.ts.length n.tc) := by rw [K.cell (by show w.heap.size < _; omega)]; exact b0_2
    have Bw2 := Lib.hid (Bw1.out.trans (K.mono Bw1.out.size))
    have hs2 : w.heap.size + 1 ≤ w2.heap.size := by have := K.size; (try simp [go_sem] at this); omega
    clear K
    clear R2 CF
    generalize L.length = k at *
    by_cases hk : k = 0
    · subst hk
      go_wp2
      go_ret
      exact ⟨rfl, Bw2.out⟩
    · have z1 : ((k : Int) == 0) = false := by simpa using hk
      have z2 : decide (k = 0) = false := by simpa using hk
      have z3 := Lib.hid z2
      clear z2
      go_wp2
      go_ret
      exact ⟨by rw [z3.out]; rfl, Bw2.out⟩
end Go.Proofs.Ytaomgfmlnjdoaaa
