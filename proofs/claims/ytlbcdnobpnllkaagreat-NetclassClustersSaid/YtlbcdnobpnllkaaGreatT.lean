/- Plain and ordinary nets. -/
import Derived.Test.YtlbcdnobpnllkaaGreatS
namespace Go.Proofs.YtlbcdnobpnllkaaGreat
open Go.RowKit

def anyB (f : Nat → Bool) (n : Nat) : Bool := decide (0 ≤ firstI f n 0)
theorem anyB_yes {f : Nat → Bool} {n k : Nat} (hk : k < n) (ht : f k = true) : anyB f n = true := by
  unfold anyB
  rcases firstI_cases f n with ⟨_, h⟩ | ⟨m, _, e, _, _⟩
  · rw [h k hk] at ht; cases ht
  · rw [e]; simp
theorem anyB_no {f : Nat → Bool} {n : Nat} (h : ∀ j, j < n → f j = false) : anyB f n = false := by
  unfold anyB
  rw [firstI_none h]
  decide
def oneF (l : List (Int × Int)) (j : Nat) : Bool := decide (aW l j ≠ 1)
def spF (ts : List TransV) (j : Nat) : Bool := decide (0 < (tA ts j).inh.l.length ∨ (tA ts j).prio ≠ 0)
def limF (ps : List PlaceV) (j : Nat) : Bool := decide ((pA ps j).cap ≠ 0)
def heavyV (l : List (Int × Int)) : Bool := anyB (oneF l) l.length
def hvF (ts : List TransV) (j : Nat) : Bool := heavyV (tA ts j).pre.l || heavyV (tA ts j).post.l
def plainN (n : NetV) : Bool := okN n && (!anyB (spF n.ts) n.ts.length && !anyB (limF n.ps) n.ps.length)
def ordinaryN (n : NetV) : Bool := okN n && !anyB (hvF n.ts) n.ts.length

theorem clos_heavy (p u : Int) (w : World) :
    Calls Tryz.prog 96 #[.agg #[.int .i64 p, .int .i64 u]] w (VPost w.heap.size w (.bool (decide (u ≠ 1)))) := by
  by_cases q : u = 1
  · have q2 : decide (u ≠ 1) = false := by simpa using q
    rw [q2]
    subst q
    go_enter Tryz.func96, Tryz.ntmps96
    go_wp2
    go_ret
    exact ⟨rfl, (Below.refl _ _).alloc (Nat.le_refl _) _⟩
  · have q2 : decide (u ≠ 1) = true := by simpa using q
    have q3 : (u != 1) = true := by simpa using q
    rw [q2]
    clear q q2
    go_enter Tryz.func96, Tryz.ntmps96
    go_wp2
    go_ret
    exact ⟨rfl, (Below.refl _ _).alloc (Nat.le_refl _) _⟩
theorem clos_lim (nm : ByteArray) (ini cap : Int) (w : World) :
    Calls Tryz.prog 94 #[.agg #[.string nm, .int .i64 ini, .int .i64 cap]] w (VPost w.heap.size w (.bool (decide (cap ≠ 0)))) := by
  by_cases q : cap = 0
  · have q2 : decide (cap ≠ 0) = false := by simpa using q
    rw [q2]
    subst q
    go_enter Tryz.func94, Tryz.ntmps94
    go_wp2
    go_ret
    exact ⟨rfl, (Below.refl _ _).alloc (Nat.le_refl _) _⟩
  · have q2 : decide (cap ≠ 0) = true := by simpa using q
    have q3 : (cap != 0) = true := by simpa using q
    rw [q2]
    clear q q2
    go_enter Tryz.func94, Tryz.ntmps94
    go_wp2
    go_ret
    exact ⟨rfl, (Below.refl _ _).alloc (Nat.le_refl _) _⟩

theorem clos_sp (nm : ByteArray) (a1 a2 a3 : ArcsV) (prio : Int) (w : World) :
    Calls Tryz.prog 93 #[(.agg #[.string nm, .slice a1.A a1.l.length a1.c, .slice a2.A a2.l.length a2.c, .slice a3.A a3.l.length a3.c, .int .i64 prio])] w (VPost w.heap.size w (.bool (decide (0 < a3.l.length ∨ prio ≠ 0)))) := by
  generalize a3.l.length = m
  by_cases q1 : 0 < m
  · have q2 : decide (0 < m ∨ prio ≠ 0) = true := by simp [q1]
    have q3 : decide (0 < m) = true := by simpa using q1
    rw [q2]
    clear q2
    go_enter Tryz.func93, Tryz.ntmps93
    go_wp2
    go_ret
    exact ⟨rfl, (Below.refl _ _).alloc (Nat.le_refl _) _⟩
  · obtain rfl : m = 0 := by omega
    by_cases q : prio = 0
    · have q2 : decide (0 < 0 ∨ prio ≠ 0) = false := by simpa using q
      rw [q2]
      subst q
      go_enter Tryz.func93, Tryz.ntmps93
      go_wp2
      go_ret
      exact ⟨rfl, (Below.refl _ _).alloc (Nat.le_refl _) _⟩
    · have q2 : decide (0 < 0 ∨ prio ≠ 0) = true := by simpa using q
      have q3 : (prio != 0) = true := by simpa using q
      rw [q2]
      clear q q2
      go_enter Tryz.func93, Tryz.ntmps93
      go_wp2
      go_ret
      exact ⟨rfl, (Below.refl _ _).alloc (Nat.le_refl _) _⟩

set_option maxHeartbeats 2000000 in
theorem heavyA_index (A : Option Addr) (l : List (Int × Int)) (c : Nat) (w : World) (hr : ReadsA w A l) (hl : l.length ≤ 1000) :
    Calls Tryz.prog 121 #[.slice A l.length c, .func (.func 96) #[] #[]] w (VPost w.heap.size w (.int .i64 (firstI (oneF l) l.length 0))) := by
  have hD : ∀ k, k < l.length → (∀ j, j < k → oneF l j = false) → oneF l k = true → (k : Int) = firstI (oneF l) l.length 0 := fun k h1 h2 h3 => (firstI_at h1 h2 h3).symm
  have hN : (∀ j, j < l.length → oneF l j = false) → -1 = firstI (oneF l) l.length 0 := fun h => (firstI_none h).symm
  generalize firstI (oneF l) l.length 0 = S at *
  have HD := Lib.hid hD
  have HNo := Lib.hid hN
  have HR := Lib.hid hr
  clear hr hD hN
  generalize hg : w.heap.size = g at *
  have HG := Lib.hid hg
  clear hg
  generalize hn : l.length = n at *
  have HN := Lib.hid hn
  clear hn
  go_enter Tryz.func121, Tryz.ntmps121
  go_wp2
  go_loopw [8] (fun q wr => ∃ k : Nat, k ≤ n ∧ q = .int .i64 k ∧ Hid (Below g w wr) ∧ Hid (∀ j, j < k → oneF l j = false)) (fun q _ => n - (intOf q).toNat)
  case atStart => exact ⟨0, by omega, rfl, Below.refl _ _, fun j hj => absurd hj (by omega)⟩
  case round =>
    obtain ⟨k, hk, rfl, HB, HM⟩ := hrel
    have HBk : Hid (∀ w2, Below wr.heap.size wr w2 → Below g w w2) := fun w2 h => HB.out.trans (h.mono (by have := HB.out.size; rw [HG.out] at this; exact this))
    by_cases hlt : k < n
    · obtain ⟨b0, off, rfl, hb0, hc0, hc1⟩ := (HR.out.below HB.out (by rw [HG.out]; exact Nat.le_refl _)) k (by rw [HN.out]; exact hlt)
      have HT := Lib.hid (HD.out k hlt HM.out)
      have HF : Hid (oneF l k = false → ∀ j, j < k + 1 → oneF l j = false) := upto_snoc HM.out
      have C := clos_heavy (aP l k) (aW l k) wr
      clear HM
      have HQ : Hid (oneF l k = decide (aW l k ≠ 1)) := rfl
      generalize aP l k = x at *
      generalize aW l k = u at *
      generalize decide (u ≠ 1) = t at *
      replace C := Lib.hid C
      cases t
      · have HF2 := Lib.hid (HF.out (HQ.out.trans rfl))
        go_wp2_with fail
        refine C.out.mono ?_
        rintro e w2 ⟨rfl, K⟩
        have K2 := Lib.hid (HBk.out _ K)
        clear K
        go_wp2
        go_roundw
        case rel => exact ⟨k + 1, by omega, by go_num, K2, HF2⟩
        case measure => simp [intOf]; omega
      · have HT2 := Lib.hid (HT.out (HQ.out.trans rfl))
        go_wp2_with fail
        refine C.out.mono ?_
        rintro e w2 ⟨rfl, K⟩
        have K2 := Lib.hid (HBk.out _ K)
        clear K
        go_wp2
        go_ret
        exact ⟨ret_i HT2.out, K2.out⟩
    · have E := Lib.hid (HNo.out (fun j hj => HM.out j (by omega)))
      clear HM
      go_wp2
      go_ret
      exact ⟨ret_i E.out, HB.out⟩

theorem heavyA_contains (A : Option Addr) (l : List (Int × Int)) (c : Nat) (w : World) (hr : ReadsA w A l) (hl : l.length ≤ 1000) :
    Calls Tryz.prog 98 #[.slice A l.length c, .func (.func 96) #[] #[]] w (VPost w.heap.size w (.bool (anyB (oneF l) l.length))) := by
  have C := heavyA_index A l c w hr hl 
  unfold anyB
  generalize firstI (oneF l) l.length 0 = S at *
  generalize l.length = n at *
  clear hr
  replace C := Lib.hid C
  go_enter Tryz.func98, Tryz.ntmps98
  go_wp2_with fail
  refine C.out.mono ?_
  rintro e w2 ⟨rfl, K⟩
  have K2 := Lib.hid K
  clear K
  by_cases q : 0 ≤ S
  · have q2 : decide (0 ≤ S) = true := by simpa using q
    have q3 := Lib.hid q2
    go_wp2
    go_ret
    exact ⟨ret_b q3.out.symm, K2.out⟩
  · have q2 : decide (0 ≤ S) = false := by simpa using q
    have q3 := Lib.hid q2
    go_wp2
    go_ret
    exact ⟨ret_b q3.out.symm, K2.out⟩

set_option maxHeartbeats 2000000 in
theorem limP_index (A : Option Addr) (l : List PlaceV) (c : Nat) (w : World) (hr : ReadsP w A l) (hl : l.length ≤ 1000) :
    Calls Tryz.prog 120 #[.slice A l.length c, .func (.func 94) #[] #[]] w (VPost w.heap.size w (.int .i64 (firstI (limF l) l.length 0))) := by
  have hD : ∀ k, k < l.length → (∀ j, j < k → limF l j = false) → limF l k = true → (k : Int) = firstI (limF l) l.length 0 := fun k h1 h2 h3 => (firstI_at h1 h2 h3).symm
  have hN : (∀ j, j < l.length → limF l j = false) → -1 = firstI (limF l) l.length 0 := fun h => (firstI_none h).symm
  generalize firstI (limF l) l.length 0 = S at *
  have HD := Lib.hid hD
  have HNo := Lib.hid hN
  have HR := Lib.hid hr
  clear hr hD hN
  generalize hg : w.heap.size = g at *
  have HG := Lib.hid hg
  clear hg
  generalize hn : l.length = n at *
  have HN := Lib.hid hn
  clear hn
  go_enter Tryz.func120, Tryz.ntmps120
  go_wp2
  go_loopw [8] (fun q wr => ∃ k : Nat, k ≤ n ∧ q = .int .i64 k ∧ Hid (Below g w wr) ∧ Hid (∀ j, j < k → limF l j = false)) (fun q _ => n - (intOf q).toNat)
  case atStart => exact ⟨0, by omega, rfl, Below.refl _ _, fun j hj => absurd hj (by omega)⟩
  case round =>
    obtain ⟨k, hk, rfl, HB, HM⟩ := hrel
    have HBk : Hid (∀ w2, Below wr.heap.size wr w2 → Below g w w2) := fun w2 h => HB.out.trans (h.mono (by have := HB.out.size; rw [HG.out] at this; exact this))
    by_cases hlt : k < n
    · obtain ⟨b0, off, rfl, hb0, hc0, hc1, hc2⟩ := (HR.out.below HB.out (by rw [HG.out]; exact Nat.le_refl _)) k (by rw [HN.out]; exact hlt)
      have HT := Lib.hid (HD.out k hlt HM.out)
      have HF : Hid (limF l k = false → ∀ j, j < k + 1 → limF l j = false) := upto_snoc HM.out
      have C := clos_lim (pA l k).nm (pA l k).ini (pA l k).cap wr
      clear HM
      have HQ : Hid (limF l k = decide ((pA l k).cap ≠ 0)) := rfl
      generalize (pA l k).nm = pn at *
      generalize (pA l k).ini = ini at *
      generalize (pA l k).cap = cap at *
      generalize decide (cap ≠ 0) = t at *
      replace C := Lib.hid C
      cases t
      · have HF2 := Lib.hid (HF.out (HQ.out.trans rfl))
        go_wp2_with fail
        refine C.out.mono ?_
        rintro e w2 ⟨rfl, K⟩
        have K2 := Lib.hid (HBk.out _ K)
        clear K
        go_wp2
        go_roundw
        case rel => exact ⟨k + 1, by omega, by go_num, K2, HF2⟩
        case measure => simp [intOf]; omega
      · have HT2 := Lib.hid (HT.out (HQ.out.trans rfl))
        go_wp2_with fail
        refine C.out.mono ?_
        rintro e w2 ⟨rfl, K⟩
        have K2 := Lib.hid (HBk.out _ K)
        clear K
        go_wp2
        go_ret
        exact ⟨ret_i HT2.out, K2.out⟩
    · have E := Lib.hid (HNo.out (fun j hj => HM.out j (by omega)))
      clear HM
      go_wp2
      go_ret
      exact ⟨ret_i E.out, HB.out⟩

theorem limP_contains (A : Option Addr) (l : List PlaceV) (c : Nat) (w : World) (hr : ReadsP w A l) (hl : l.length ≤ 1000) :
    Calls Tryz.prog 95 #[.slice A l.length c, .func (.func 94) #[] #[]] w (VPost w.heap.size w (.bool (anyB (limF l) l.length))) := by
  have C := limP_index A l c w hr hl 
  unfold anyB
  generalize firstI (limF l) l.length 0 = S at *
  generalize l.length = n at *
  clear hr
  replace C := Lib.hid C
  go_enter Tryz.func95, Tryz.ntmps95
  go_wp2_with fail
  refine C.out.mono ?_
  rintro e w2 ⟨rfl, K⟩
  have K2 := Lib.hid K
  clear K
  by_cases q : 0 ≤ S
  · have q2 : decide (0 ≤ S) = true := by simpa using q
    have q3 := Lib.hid q2
    go_wp2
    go_ret
    exact ⟨ret_b q3.out.symm, K2.out⟩
  · have q2 : decide (0 ≤ S) = false := by simpa using q
    have q3 := Lib.hid q2
    go_wp2
    go_ret
    exact ⟨ret_b q3.out.symm, K2.out⟩

set_option maxHeartbeats 2000000 in
theorem spT_index (A : Option Addr) (l : List TransV) (c : Nat) (w : World) (hr : ReadsT w A l) (hl : l.length ≤ 1000) :
    Calls Tryz.prog 99 #[.slice A l.length c, .func (.func 93) #[] #[]] w (VPost w.heap.size w (.int .i64 (firstI (spF l) l.length 0))) := by
  have hD : ∀ k, k < l.length → (∀ j, j < k → spF l j = false) → spF l k = true → (k : Int) = firstI (spF l) l.length 0 := fun k h1 h2 h3 => (firstI_at h1 h2 h3).symm
  have hN : (∀ j, j < l.length → spF l j = false) → -1 = firstI (spF l) l.length 0 := fun h => (firstI_none h).symm
  generalize firstI (spF l) l.length 0 = S at *
  have HD := Lib.hid hD
  have HNo := Lib.hid hN
  have HR := Lib.hid hr
  clear hr hD hN
  generalize hg : w.heap.size = g at *
  have HG := Lib.hid hg
  clear hg
  generalize hn : l.length = n at *
  have HN := Lib.hid hn
  clear hn
  go_enter Tryz.func99, Tryz.ntmps99
  go_wp2
  go_loopw [8] (fun q wr => ∃ k : Nat, k ≤ n ∧ q = .int .i64 k ∧ Hid (Below g w wr) ∧ Hid (∀ j, j < k → spF l j = false)) (fun q _ => n - (intOf q).toNat)
  case atStart => exact ⟨0, by omega, rfl, Below.refl _ _, fun j hj => absurd hj (by omega)⟩
  case round =>
    obtain ⟨k, hk, rfl, HB, HM⟩ := hrel
    have HBk : Hid (∀ w2, Below wr.heap.size wr w2 → Below g w w2) := fun w2 h => HB.out.trans (h.mono (by have := HB.out.size; rw [HG.out] at this; exact this))
    by_cases hlt : k < n
    · obtain ⟨b0, off, rfl, hb0, hc0, hc1, hc2, hc3, hc4, r1, r2, r3⟩ := (HR.out.below HB.out (by rw [HG.out]; exact Nat.le_refl _)) k (by rw [HN.out]; exact hlt)
      have HT := Lib.hid (HD.out k hlt HM.out)
      have HF : Hid (spF l k = false → ∀ j, j < k + 1 → spF l j = false) := upto_snoc HM.out
      have C := clos_sp (tA l k).nm (tA l k).pre (tA l k).post (tA l k).inh (tA l k).prio wr
      clear HM
      clear r1 r2 r3
      have HQ : Hid (spF l k = decide (0 < (tA l k).inh.l.length ∨ (tA l k).prio ≠ 0)) := rfl
      generalize (tA l k).nm = tn at *
      generalize (tA l k).pre = a1 at *
      generalize (tA l k).post = a2 at *
      generalize (tA l k).inh = a3 at *
      generalize (tA l k).prio = prio at *
      generalize decide (0 < a3.l.length ∨ prio ≠ 0) = t at *
      replace C := Lib.hid C
      cases t
      · have HF2 := Lib.hid (HF.out (HQ.out.trans rfl))
        go_wp2_with fail
        refine C.out.mono ?_
        rintro e w2 ⟨rfl, K⟩
        have K2 := Lib.hid (HBk.out _ K)
        clear K
        go_wp2
        go_roundw
        case rel => exact ⟨k + 1, by omega, by go_num, K2, HF2⟩
        case measure => simp [intOf]; omega
      · have HT2 := Lib.hid (HT.out (HQ.out.trans rfl))
        go_wp2_with fail
        refine C.out.mono ?_
        rintro e w2 ⟨rfl, K⟩
        have K2 := Lib.hid (HBk.out _ K)
        clear K
        go_wp2
        go_ret
        exact ⟨ret_i HT2.out, K2.out⟩
    · have E := Lib.hid (HNo.out (fun j hj => HM.out j (by omega)))
      clear HM
      go_wp2
      go_ret
      exact ⟨ret_i E.out, HB.out⟩

theorem spT_contains (A : Option Addr) (l : List TransV) (c : Nat) (w : World) (hr : ReadsT w A l) (hl : l.length ≤ 1000) :
    Calls Tryz.prog 53 #[.slice A l.length c, .func (.func 93) #[] #[]] w (VPost w.heap.size w (.bool (anyB (spF l) l.length))) := by
  have C := spT_index A l c w hr hl 
  unfold anyB
  generalize firstI (spF l) l.length 0 = S at *
  generalize l.length = n at *
  clear hr
  replace C := Lib.hid C
  go_enter Tryz.func53, Tryz.ntmps53
  go_wp2_with fail
  refine C.out.mono ?_
  rintro e w2 ⟨rfl, K⟩
  have K2 := Lib.hid K
  clear K
  by_cases q : 0 ≤ S
  · have q2 : decide (0 ≤ S) = true := by simpa using q
    have q3 := Lib.hid q2
    go_wp2
    go_ret
    exact ⟨ret_b q3.out.symm, K2.out⟩
  · have q2 : decide (0 ≤ S) = false := by simpa using q
    have q3 := Lib.hid q2
    go_wp2
    go_ret
    exact ⟨ret_b q3.out.symm, K2.out⟩

set_option maxHeartbeats 2000000 in
theorem clos_ord (nm : ByteArray) (a1 a2 a3 : ArcsV) (prio : Int) (b : Nat) (w : World) (hc : w.cell? ⟨b, 0, none⟩ = some (.func (.func 96) #[] #[])) (r1 : ReadsA w a1.A a1.l) (r2 : ReadsA w a2.A a2.l) (h1 : a1.l.length ≤ 1000) (h2 : a2.l.length ≤ 1000) :
    Calls Tryz.prog 97 #[(.agg #[.string nm, .slice a1.A a1.l.length a1.c, .slice a2.A a2.l.length a2.c, .slice a3.A a3.l.length a3.c, .int .i64 prio]), .pointer (some ⟨b, 0, none⟩)] w (VPost w.heap.size w (.bool (heavyV a1.l || heavyV a2.l))) := by
  have hb : b < w.heap.size := World.block_lt_of_cell? w ⟨b, 0, none⟩ hc
  have B0 : Hid (Below w.heap.size w (w.alloc (.cells #[.string nm, .slice a1.A a1.l.length a1.c, .slice a2.A a2.l.length a2.c, .slice a3.A a3.l.length a3.c, .int .i64 prio] 43))) := (Below.refl _ _).alloc (Nat.le_refl _) _
  have C1 := fun W (hW : Below w.heap.size w W) => heavyA_contains a1.A a1.l a1.c W (r1.below hW (Nat.le_refl _)) h1
  have C2 := fun W (hW : Below w.heap.size w W) => heavyA_contains a2.A a2.l a2.c W (r2.below hW (Nat.le_refl _)) h2
  have e1 : anyB (oneF a1.l) a1.l.length = heavyV a1.l := rfl
  have e2 : anyB (oneF a2.l) a2.l.length = heavyV a2.l := rfl
  rw [e1] at C1
  rw [e2] at C2
  generalize heavyV a1.l = t1 at *
  generalize heavyV a2.l = t2 at *
  clear r1 r2 e1 e2
  replace C1 := Lib.hid C1
  replace C2 := Lib.hid C2
  cases t1
  · go_enter Tryz.func97, Tryz.ntmps97
    go_wp2_with fail
    refine (C1.out _ B0.out).mono ?_
    rintro e w1 ⟨rfl, K⟩
    have d2 : w1.cell? ⟨w.heap.size, 2, none⟩ = some (.slice a2.A a2.l.length a2.c) := by rw [K.cell (by simp)]; simp
    have db : w1.cell? ⟨b, 0, none⟩ = some (.func (.func 96) #[] #[]) := by rw [K.cell (by simp; omega), World.cell?_alloc_lt _ _ _ hb]; exact hc
    have K2 := Lib.hid (B0.out.trans (K.mono (by rw [World.size_alloc]; omega)))
    clear K
    go_wp2_with fail
    refine (C2.out _ K2.out).mono ?_
    rintro e w2 ⟨rfl, K⟩
    have K3 := Lib.hid (K2.out.trans (K.mono K2.out.size))
    clear K
    go_wp2
    go_ret
    exact ⟨by simp, K3.out⟩
  · go_enter Tryz.func97, Tryz.ntmps97
    go_wp2_with fail
    refine (C1.out _ B0.out).mono ?_
    rintro e w1 ⟨rfl, K⟩
    have K2 := Lib.hid (B0.out.trans (K.mono (by rw [World.size_alloc]; omega)))
    clear K
    go_wp2
    go_ret
    exact ⟨by simp, K2.out⟩

set_option maxHeartbeats 2000000 in
theorem ordT_index (A : Option Addr) (l : List TransV) (c : Nat) (b : Nat) (w : World) (hr : ReadsT w A l) (hl : l.length ≤ 1000) (hc : w.cell? ⟨b, 0, none⟩ = some (.func (.func 96) #[] #[])) (hz : ∀ j, (tA l j).pre.l.length ≤ 1000 ∧ (tA l j).post.l.length ≤ 1000) :
    Calls Tryz.prog 99 #[.slice A l.length c, .func (.func 97) #[] #[.pointer (some ⟨b, 0, none⟩)]] w (VPost w.heap.size w (.int .i64 (firstI (hvF l) l.length 0))) := by
  have hD : ∀ k, k < l.length → (∀ j, j < k → hvF l j = false) → hvF l k = true → (k : Int) = firstI (hvF l) l.length 0 := fun k h1 h2 h3 => (firstI_at h1 h2 h3).symm
  have hN : (∀ j, j < l.length → hvF l j = false) → -1 = firstI (hvF l) l.length 0 := fun h => (firstI_none h).symm
  generalize firstI (hvF l) l.length 0 = S at *
  have HD := Lib.hid hD
  have HNo := Lib.hid hN
  have HR := Lib.hid hr
  clear hr hD hN
  have hb : b < w.heap.size := World.block_lt_of_cell? w ⟨b, 0, none⟩ hc
  have HC := Lib.hid hc
  have HZ := Lib.hid hz
  clear hc hz
  generalize hg : w.heap.size = g at *
  have HG := Lib.hid hg
  clear hg
  generalize hn : l.length = n at *
  have HN := Lib.hid hn
  clear hn
  go_enter Tryz.func99, Tryz.ntmps99
  go_wp2
  go_loopw [8] (fun q wr => ∃ k : Nat, k ≤ n ∧ q = .int .i64 k ∧ Hid (Below g w wr) ∧ Hid (∀ j, j < k → hvF l j = false)) (fun q _ => n - (intOf q).toNat)
  case atStart => exact ⟨0, by omega, rfl, Below.refl _ _, fun j hj => absurd hj (by omega)⟩
  case round =>
    obtain ⟨k, hk, rfl, HB, HM⟩ := hrel
    have HBk : Hid (∀ w2, Below wr.heap.size wr w2 → Below g w w2) := fun w2 h => HB.out.trans (h.mono (by have := HB.out.size; rw [HG.out] at this; exact this))
    by_cases hlt : k < n
    · obtain ⟨b0, off, rfl, hb0, hc0, hc1, hc2, hc3, hc4, r1, r2, r3⟩ := (HR.out.below HB.out (by rw [HG.out]; exact Nat.le_refl _)) k (by rw [HN.out]; exact hlt)
      have HT := Lib.hid (HD.out k hlt HM.out)
      have HF : Hid (hvF l k = false → ∀ j, j < k + 1 → hvF l j = false) := upto_snoc HM.out
      have C := clos_ord (tA l k).nm (tA l k).pre (tA l k).post (tA l k).inh (tA l k).prio b wr ((HB.out.cell (p := ⟨b, 0, none⟩) hb).trans HC.out) r1 r2 (HZ.out k).1 (HZ.out k).2
      clear HM
      clear r1 r2 r3
      have HQ : Hid (hvF l k = (heavyV (tA l k).pre.l || heavyV (tA l k).post.l)) := rfl
      generalize (tA l k).nm = tn at *
      generalize (tA l k).pre = a1 at *
      generalize (tA l k).post = a2 at *
      generalize (tA l k).inh = a3 at *
      generalize (tA l k).prio = prio at *
      generalize (heavyV a1.l || heavyV a2.l) = t at *
      replace C := Lib.hid C
      cases t
      · have HF2 := Lib.hid (HF.out (HQ.out.trans rfl))
        go_wp2_with fail
        refine C.out.mono ?_
        rintro e w2 ⟨rfl, K⟩
        have K2 := Lib.hid (HBk.out _ K)
        clear K
        go_wp2
        go_roundw
        case rel => exact ⟨k + 1, by omega, by go_num, K2, HF2⟩
        case measure => simp [intOf]; omega
      · have HT2 := Lib.hid (HT.out (HQ.out.trans rfl))
        go_wp2_with fail
        refine C.out.mono ?_
        rintro e w2 ⟨rfl, K⟩
        have K2 := Lib.hid (HBk.out _ K)
        clear K
        go_wp2
        go_ret
        exact ⟨ret_i HT2.out, K2.out⟩
    · have E := Lib.hid (HNo.out (fun j hj => HM.out j (by omega)))
      clear HM
      go_wp2
      go_ret
      exact ⟨ret_i E.out, HB.out⟩

theorem ordT_contains (A : Option Addr) (l : List TransV) (c : Nat) (b : Nat) (w : World) (hr : ReadsT w A l) (hl : l.length ≤ 1000) (hc : w.cell? ⟨b, 0, none⟩ = some (.func (.func 96) #[] #[])) (hz : ∀ j, (tA l j).pre.l.length ≤ 1000 ∧ (tA l j).post.l.length ≤ 1000) :
    Calls Tryz.prog 53 #[.slice A l.length c, .func (.func 97) #[] #[.pointer (some ⟨b, 0, none⟩)]] w (VPost w.heap.size w (.bool (anyB (hvF l) l.length))) := by
  have C := ordT_index A l c b w hr hl hc hz 
  unfold anyB
  generalize firstI (hvF l) l.length 0 = S at *
  generalize l.length = n at *
  clear hr
  replace C := Lib.hid C
  go_enter Tryz.func53, Tryz.ntmps53
  go_wp2_with fail
  refine C.out.mono ?_
  rintro e w2 ⟨rfl, K⟩
  have K2 := Lib.hid K
  clear K
  by_cases q : 0 ≤ S
  · have q2 : decide (0 ≤ S) = true := by simpa using q
    have q3 := Lib.hid q2
    go_wp2
    go_ret
    exact ⟨ret_b q3.out.symm, K2.out⟩
  · have q2 : decide (0 ≤ S) = false := by simpa using q
    have q3 := Lib.hid q2
    go_wp2
    go_ret
    exact ⟨ret_b q3.out.symm, K2.out⟩
end Go.Proofs.YtlbcdnobpnllkaaGreat
