/- Contracts: the check of a net and a marking, the closures over arcs, by the program. -/
import Derived.Test.YtpfkkjgklhcejaaFM
namespace Go.Proofs.Ytpfkkjgklhcejaa
open Go.RowKit

def errN (n : NetV) (m : List Int) : Int := if (chkV n).1 ≠ 0 then (chkV n).1 else if validL m n.ps.length = true then 0 else 2
def goodN (n : NetV) (m : List Int) : Bool := okN n && validL m n.ps.length
theorem errN_zero {n : NetV} {m : List Int} : errN n m = 0 ↔ goodN n m = true := by
  unfold errN goodN okN
  by_cases h : (chkV n).1 = 0
  · rw [if_neg (by simpa using h), decide_eq_true h, Bool.true_and]
    cases validL m n.ps.length <;> simp
  · rw [if_pos h, decide_eq_false h]
    simp [h]
theorem validL_parts {m : List Int} {k : Int} (h : validL m k = true) : (m.length : Int) = k ∧ natL m = true := by
  unfold validL at h
  rw [Bool.and_eq_true, decide_eq_true_eq] at h
  exact h
def NRet (n : NetV) : Value := .agg #[.string n.nm, .slice n.PA n.ps.length n.pc, .slice n.TA n.ts.length n.tc]

set_option maxHeartbeats 2000000 in
set_option maxRecDepth 100000 in
theorem fcheck_any (n : NetV) (A : Option Addr) (m : List Int) (c : Nat) (w : World) (hr : NetR w n) (hm : ReadsV w A m) (hl : m.length ≤ 9223372036854775807) :
    Calls Try.prog 59 #[.agg #[.string n.nm, .slice n.PA n.ps.length n.pc, .slice n.TA n.ts.length n.tc], .slice A m.length c] w (VPost w.heap.size w (.int .i64 (errN n m))) := by
  have CV := fun W (hW : Below w.heap.size w W) => check_any n W (hr.below hW (Nat.le_refl _))
  have MV : Hid (∀ W, Below w.heap.size w W → Calls Try.prog 71 #[.slice A m.length c, .int .i64 n.ps.length] W fun e w' => e = .returned (.bool (validL m n.ps.length)) ∧ W = w') := fun W hW => validn_law A m n.ps.length c W (hm.below hW (Nat.le_refl _)) hl
  have hD : errN n m = if (chkV n).1 ≠ 0 then (chkV n).1 else if validL m n.ps.length = true then 0 else 2 := rfl
  have hps : n.ps.length ≤ 1000 := hr.okp.1
  generalize errN n m = S at *
  obtain ⟨nm, PA, ps, pc, TA, ts, tc⟩ := n
  clear hr hm
  dsimp only at *
  generalize chkV ⟨nm, PA, ps, pc, TA, ts, tc⟩ = cv at *
  obtain ⟨e0, e1⟩ := cv
  dsimp only at *
  generalize validL m ps.length = vb at *
  generalize m.length = ml at *
  generalize ps.length = pl at *
  generalize ts.length = tl at *
  replace CV := Lib.hid CV
  have B0 : Hid (Below w.heap.size w (w.alloc (.cells #[.string nm, .slice PA pl pc, .slice TA tl tc] 25))) := (Below.refl _ _).alloc (Nat.le_refl _) _
  by_cases h0 : e0 = 0
  · subst h0
    rw [if_neg (by simp)] at hD
    replace hD := Lib.hid hD
    go_enter Try.func59, Try.ntmps59
    go_wp2_with fail
    refine (CV.out _ B0.out).mono ?_
    rintro e w1 ⟨rfl, K⟩
    have c1 : w1.cell? ⟨w.heap.size, 1, none⟩ = some (.slice PA pl pc) := by rw [K.cell (by simp)]; simp
    have lz : w.heap.size < w1.heap.size := by have := K.size; simp at this; omega
    have K2 := Lib.hid (B0.out.trans (K.mono (by rw [World.size_alloc]; omega)))
    have K3 : Hid (Below w.heap.size w (w1.alloc (.cells #[.int .i64 0, .int .i64 e1] 57))) := K2.out.alloc (by omega) _
    clear K CV
    cases vb
    · have E : Hid (2 = S) := by show _ = _; rw [hD.out]; rfl
      clear hD
      go_wp2_with fail
      refine (MV.out _ K3.out).mono ?_
      rintro e w2 ⟨rfl, rfl⟩
      go_wp2
      go_ret
      exact ⟨ret_i E.out, K3.out⟩
    · have E : Hid (0 = S) := by show _ = _; rw [hD.out]; rfl
      clear hD
      go_wp2_with fail
      refine (MV.out _ K3.out).mono ?_
      rintro e w2 ⟨rfl, rfl⟩
      go_wp2
      go_ret
      exact ⟨ret_i E.out, K3.out⟩
  · have hz : (e0 != 0) = true := by simpa using h0
    rw [if_pos h0] at hD
    have E : Hid (e0 = S) := hD.symm
    clear hD h0
    go_enter Try.func59, Try.ntmps59
    go_wp2_with fail
    refine (CV.out _ B0.out).mono ?_
    rintro e w1 ⟨rfl, K⟩
    have K2 := Lib.hid (B0.out.trans (K.mono (by rw [World.size_alloc]; omega)))
    have lz : w.heap.size ≤ w1.heap.size := K2.out.size
    have K3 : Hid (Below w.heap.size w (w1.alloc (.cells #[.int .i64 e0, .int .i64 e1] 57))) := K2.out.alloc lz _
    clear K CV
    go_wp2
    go_ret
    exact ⟨ret_i E.out, K3.out⟩

def inT (n : NetV) (t : Int) : Bool := decide (0 ≤ t) && decide (t < n.ts.length)
theorem inT_iff {n : NetV} {t : Int} : inT n t = true ↔ 0 ≤ t ∧ t < n.ts.length := by unfold inT; simp
theorem fisTrans_any (n : NetV) (t : Int) (w : World) :
    Calls Try.prog 76 #[.agg #[.string n.nm, .slice n.PA n.ps.length n.pc, .slice n.TA n.ts.length n.tc], .int .i64 t] w (VPost w.heap.size w (.bool (inT n t))) := by
  have hD : inT n t = (decide (0 ≤ t) && decide (t < n.ts.length)) := rfl
  generalize inT n t = S at *
  obtain ⟨nm, PA, ps, pc, TA, ts, tc⟩ := n
  dsimp only at *
  generalize ps.length = pl at *
  generalize ts.length = tl at *
  have B0 : Hid (Below w.heap.size w (w.alloc (.cells #[.string nm, .slice PA pl pc, .slice TA tl tc] 25))) := (Below.refl _ _).alloc (Nat.le_refl _) _
  by_cases h1 : 0 ≤ t
  · by_cases h2 : t < (tl : Int)
    · have E : Hid (true = S) := by show _ = _; rw [hD, decide_eq_true h1, decide_eq_true h2]; rfl
      clear hD
      go_enter Try.func76, Try.ntmps76
      go_wp2
      go_ret
      exact ⟨ret_b E.out, B0.out⟩
    · have E : Hid (false = S) := by show _ = _; rw [hD, decide_eq_false h2, Bool.and_false]
      clear hD
      go_enter Try.func76, Try.ntmps76
      go_wp2
      go_ret
      exact ⟨ret_b E.out, B0.out⟩
  · have E : Hid (false = S) := by show _ = _; rw [hD, decide_eq_false h1]; rfl
    clear hD
    go_enter Try.func76, Try.ntmps76
    go_wp2
    go_ret
    exact ⟨ret_b E.out, B0.out⟩

set_option maxHeartbeats 1000000 in
theorem clos_low (p u : Int) (b : Nat) (A : Option Addr) (m : List Int) (c : Nat) (w : World) (hc : w.cell? ⟨b, 0, none⟩ = some (.slice A m.length c)) (hm : ReadsV w A m) (h0 : 0 ≤ p) (h1 : p < m.length) :
    Calls Try.prog 89 #[.agg #[.int .i64 p, .int .i64 u], .pointer (some ⟨b, 0, none⟩)] w (VPost w.heap.size w (.bool (decide (at0 m p.toNat < u)))) := by
  obtain ⟨k, rfl⟩ : ∃ k : Nat, p = k := ⟨p.toNat, by omega⟩
  have hk : k < m.length := by omega
  obtain ⟨ba, oa, e1, hx⟩ := at_of_reads hm k hk
  subst e1
  rw [Int.toNat_natCast]
  generalize at0 m k = x at *
  generalize m.length = ml at *
  have hlb := World.block_lt_of_cell? _ _ hc
  have hlx := World.block_lt_of_cell? _ _ hx
  dsimp only at hlb hlx
  clear hm
  have B0 : Hid (Below w.heap.size w (w.alloc (.cells #[.int .i64 (k : Int), .int .i64 u] 70))) := (Below.refl _ _).alloc (Nat.le_refl _) _
  by_cases q : x < u
  · have q2 : decide (x < u) = true := by simpa using q
    have q3 := Lib.hid q2
    go_enter Try.func89, Try.ntmps89
    go_wp2_with fail
    go_quiet (fail)
    go_wp2
    go_ret
    exact ⟨ret_b q3.out.symm, below_drewN B0.out _⟩
  · have q2 : decide (x < u) = false := by simpa using q
    have q3 := Lib.hid q2
    go_enter Try.func89, Try.ntmps89
    go_wp2_with fail
    go_quiet (fail)
    go_wp2
    go_ret
    exact ⟨ret_b q3.out.symm, below_drewN B0.out _⟩

set_option maxHeartbeats 1000000 in
theorem clos_inh (p u : Int) (b : Nat) (A : Option Addr) (m : List Int) (c : Nat) (w : World) (hc : w.cell? ⟨b, 0, none⟩ = some (.slice A m.length c)) (hm : ReadsV w A m) (h0 : 0 ≤ p) (h1 : p < m.length) :
    Calls Try.prog 90 #[.agg #[.int .i64 p, .int .i64 u], .pointer (some ⟨b, 0, none⟩)] w (VPost w.heap.size w (.bool (decide (u ≤ at0 m p.toNat)))) := by
  obtain ⟨k, rfl⟩ : ∃ k : Nat, p = k := ⟨p.toNat, by omega⟩
  have hk : k < m.length := by omega
  obtain ⟨ba, oa, e1, hx⟩ := at_of_reads hm k hk
  subst e1
  rw [Int.toNat_natCast]
  generalize at0 m k = x at *
  generalize m.length = ml at *
  have hlb := World.block_lt_of_cell? _ _ hc
  have hlx := World.block_lt_of_cell? _ _ hx
  dsimp only at hlb hlx
  clear hm
  have B0 : Hid (Below w.heap.size w (w.alloc (.cells #[.int .i64 (k : Int), .int .i64 u] 70))) := (Below.refl _ _).alloc (Nat.le_refl _) _
  by_cases q : u ≤ x
  · have q2 : decide (u ≤ x) = true := by simpa using q
    have q3 := Lib.hid q2
    go_enter Try.func90, Try.ntmps90
    go_wp2_with fail
    go_quiet (fail)
    go_wp2
    go_ret
    exact ⟨ret_b q3.out.symm, below_drewN B0.out _⟩
  · have q2 : decide (u ≤ x) = false := by simpa using q
    have q3 := Lib.hid q2
    go_enter Try.func90, Try.ntmps90
    go_wp2_with fail
    go_quiet (fail)
    go_wp2
    go_ret
    exact ⟨ret_b q3.out.symm, below_drewN B0.out _⟩

set_option maxHeartbeats 1000000 in
theorem low_index (A : Option Addr) (l : List (Int × Int)) (c b : Nat) (M : Option Addr) (m : List Int) (mc : Nat) (w : World) (hr : ReadsA w A l) (hl : l.length ≤ 1000)
    (hcb : w.cell? ⟨b, 0, none⟩ = some (.slice M m.length mc)) (hm : ReadsV w M m) (hp : ∀ j, j < l.length → 0 ≤ aP l j ∧ aP l j < m.length) :
    Calls Try.prog 91 #[.slice A l.length c, .func (.func 89) #[] #[.pointer (some ⟨b, 0, none⟩)]] w (VPost w.heap.size w (.int .i64 (firstI (lowF l m) l.length 0))) := by
  have hD : ∀ k, k < l.length → (∀ j, j < k → lowF l m j = false) → lowF l m k = true → (k : Int) = firstI (lowF l m) l.length 0 := fun k h1 h2 h3 => (firstI_at h1 h2 h3).symm
  have hN : (∀ j, j < l.length → lowF l m j = false) → -1 = firstI (lowF l m) l.length 0 := fun h => (firstI_none h).symm
  generalize firstI (lowF l m) l.length 0 = S at *
  have HD := Lib.hid hD
  have HNo := Lib.hid hN
  have HR := Lib.hid hr
  have HC : Hid (∀ k W, k < l.length → Below w.heap.size w W → Calls Try.prog 89 #[.agg #[.int .i64 (aP l k), .int .i64 (aW l k)], .pointer (some ⟨b, 0, none⟩)] W (VPost W.heap.size W (.bool (lowF l m k)))) := fun k W hk hW =>
    clos_low (aP l k) (aW l k) b M m mc W ((hW.cell (p := ⟨b, 0, none⟩) (World.block_lt_of_cell? w ⟨b, 0, none⟩ hcb)).trans hcb) (hm.below hW (Nat.le_refl _)) (hp k hk).1 (hp k hk).2
  clear hr hD hN hcb hm hp
  generalize hg : w.heap.size = g at *
  have HG := Lib.hid hg
  clear hg
  generalize hn : l.length = n at *
  have HN := Lib.hid hn
  clear hn
  go_enter Try.func91, Try.ntmps91
  go_wp2
  go_loopw [8] (fun q wr => ∃ k : Nat, k ≤ n ∧ q = .int .i64 k ∧ Hid (Below g w wr) ∧ Hid (∀ j, j < k → lowF l m j = false)) (fun q _ => n - (intOf q).toNat)
  case atStart => exact ⟨0, by omega, rfl, Below.refl _ _, fun j hj => absurd hj (by omega)⟩
  case round =>
    obtain ⟨k, hk, rfl, HB, HM⟩ := hrel
    have HBk : Hid (∀ w2, Below wr.heap.size wr w2 → Below g w w2) := fun w2 h => HB.out.trans (h.mono (by have := HB.out.size; rw [HG.out] at this; exact this))
    by_cases hlt : k < n
    · obtain ⟨b0, off, rfl, hb0, hc0, hc1⟩ := (HR.out.below HB.out (by rw [HG.out]; exact Nat.le_refl _)) k (by rw [HN.out]; exact hlt)
      have HT := Lib.hid (HD.out k hlt HM.out)
      have HF : Hid (lowF l m k = false → ∀ j, j < k + 1 → lowF l m j = false) := upto_snoc HM.out
      have C := HC.out k wr hlt HB.out
      clear HM
      generalize lowF l m k = t at *
      generalize aP l k = x at *
      generalize aW l k = u at *
      replace C := Lib.hid C
      cases t
      · have HF2 := Lib.hid (HF.out rfl)
        go_wp2_with fail
        refine C.out.mono ?_
        rintro e w2 ⟨rfl, K⟩
        have K2 := Lib.hid (HBk.out _ K)
        clear K
        go_wp2
        go_roundw
        case rel => exact ⟨k + 1, by omega, by go_num, K2, HF2⟩
        case measure => simp [intOf]; omega
      · have HT2 := Lib.hid (HT.out rfl)
        go_wp2_with fail
        refine C.out.mono ?_
        rintro e w2 ⟨rfl, K⟩
        have K2 := Lib.hid (HBk.out _ K)
        clear K
        go_wp2
        go_ret
        exact ⟨ret_i HT2.out, K2.out⟩
    · have E := Lib.hid (HNo.out (fun j hj => HM.out j (by omega)))
      clear HM
      go_wp2
      go_ret
      exact ⟨ret_i E.out, HB.out⟩
theorem low_contains (A : Option Addr) (l : List (Int × Int)) (c b : Nat) (M : Option Addr) (m : List Int) (mc : Nat) (w : World) (hr : ReadsA w A l) (hl : l.length ≤ 1000)
    (hcb : w.cell? ⟨b, 0, none⟩ = some (.slice M m.length mc)) (hm : ReadsV w M m) (hp : ∀ j, j < l.length → 0 ≤ aP l j ∧ aP l j < m.length) :
    Calls Try.prog 88 #[.slice A l.length c, .func (.func 89) #[] #[.pointer (some ⟨b, 0, none⟩)]] w (VPost w.heap.size w (.bool (anyB (lowF l m) l.length))) := by
  have C := low_index A l c b M m mc w hr hl hcb hm hp
  unfold anyB
  generalize firstI (lowF l m) l.length 0 = S at *
  generalize l.length = n at *
  clear hr hcb hm hp
  replace C := Lib.hid C
  go_enter Try.func88, Try.ntmps88
  go_wp2_with fail
  refine C.out.mono ?_
  rintro e w2 ⟨rfl, K⟩
  have K2 := Lib.hid K
  clear K
  by_cases q : 0 ≤ S
  · have q2 : decide (0 ≤ S) = true := by simpa using q
    have q3 := Lib.hid q2
    go_wp2
    go_ret
    exact ⟨ret_b q3.out.symm, K2.out⟩
  · have q2 : decide (0 ≤ S) = false := by simpa using q
    have q3 := Lib.hid q2
    go_wp2
    go_ret
    exact ⟨ret_b q3.out.symm, K2.out⟩

set_option maxHeartbeats 1000000 in
theorem inh_index (A : Option Addr) (l : List (Int × Int)) (c b : Nat) (M : Option Addr) (m : List Int) (mc : Nat) (w : World) (hr : ReadsA w A l) (hl : l.length ≤ 1000)
    (hcb : w.cell? ⟨b, 0, none⟩ = some (.slice M m.length mc)) (hm : ReadsV w M m) (hp : ∀ j, j < l.length → 0 ≤ aP l j ∧ aP l j < m.length) :
    Calls Try.prog 91 #[.slice A l.length c, .func (.func 90) #[] #[.pointer (some ⟨b, 0, none⟩)]] w (VPost w.heap.size w (.int .i64 (firstI (inhF l m) l.length 0))) := by
  have hD : ∀ k, k < l.length → (∀ j, j < k → inhF l m j = false) → inhF l m k = true → (k : Int) = firstI (inhF l m) l.length 0 := fun k h1 h2 h3 => (firstI_at h1 h2 h3).symm
  have hN : (∀ j, j < l.length → inhF l m j = false) → -1 = firstI (inhF l m) l.length 0 := fun h => (firstI_none h).symm
  generalize firstI (inhF l m) l.length 0 = S at *
  have HD := Lib.hid hD
  have HNo := Lib.hid hN
  have HR := Lib.hid hr
  have HC : Hid (∀ k W, k < l.length → Below w.heap.size w W → Calls Try.prog 90 #[.agg #[.int .i64 (aP l k), .int .i64 (aW l k)], .pointer (some ⟨b, 0, none⟩)] W (VPost W.heap.size W (.bool (inhF l m k)))) := fun k W hk hW =>
    clos_inh (aP l k) (aW l k) b M m mc W ((hW.cell (p := ⟨b, 0, none⟩) (World.block_lt_of_cell? w ⟨b, 0, none⟩ hcb)).trans hcb) (hm.below hW (Nat.le_refl _)) (hp k hk).1 (hp k hk).2
  clear hr hD hN hcb hm hp
  generalize hg : w.heap.size = g at *
  have HG := Lib.hid hg
  clear hg
  generalize hn : l.length = n at *
  have HN := Lib.hid hn
  clear hn
  go_enter Try.func91, Try.ntmps91
  go_wp2
  go_loopw [8] (fun q wr => ∃ k : Nat, k ≤ n ∧ q = .int .i64 k ∧ Hid (Below g w wr) ∧ Hid (∀ j, j < k → inhF l m j = false)) (fun q _ => n - (intOf q).toNat)
  case atStart => exact ⟨0, by omega, rfl, Below.refl _ _, fun j hj => absurd hj (by omega)⟩
  case round =>
    obtain ⟨k, hk, rfl, HB, HM⟩ := hrel
    have HBk : Hid (∀ w2, Below wr.heap.size wr w2 → Below g w w2) := fun w2 h => HB.out.trans (h.mono (by have := HB.out.size; rw [HG.out] at this; exact this))
    by_cases hlt : k < n
    · obtain ⟨b0, off, rfl, hb0, hc0, hc1⟩ := (HR.out.below HB.out (by rw [HG.out]; exact Nat.le_refl _)) k (by rw [HN.out]; exact hlt)
      have HT := Lib.hid (HD.out k hlt HM.out)
      have HF : Hid (inhF l m k = false → ∀ j, j < k + 1 → inhF l m j = false) := upto_snoc HM.out
      have C := HC.out k wr hlt HB.out
      clear HM
      generalize inhF l m k = t at *
      generalize aP l k = x at *
      generalize aW l k = u at *
      replace C := Lib.hid C
      cases t
      · have HF2 := Lib.hid (HF.out rfl)
        go_wp2_with fail
        refine C.out.mono ?_
        rintro e w2 ⟨rfl, K⟩
        have K2 := Lib.hid (HBk.out _ K)
        clear K
        go_wp2
        go_roundw
        case rel => exact ⟨k + 1, by omega, by go_num, K2, HF2⟩
        case measure => simp [intOf]; omega
      · have HT2 := Lib.hid (HT.out rfl)
        go_wp2_with fail
        refine C.out.mono ?_
        rintro e w2 ⟨rfl, K⟩
        have K2 := Lib.hid (HBk.out _ K)
        clear K
        go_wp2
        go_ret
        exact ⟨ret_i HT2.out, K2.out⟩
    · have E := Lib.hid (HNo.out (fun j hj => HM.out j (by omega)))
      clear HM
      go_wp2
      go_ret
      exact ⟨ret_i E.out, HB.out⟩
theorem inh_contains (A : Option Addr) (l : List (Int × Int)) (c b : Nat) (M : Option Addr) (m : List Int) (mc : Nat) (w : World) (hr : ReadsA w A l) (hl : l.length ≤ 1000)
    (hcb : w.cell? ⟨b, 0, none⟩ = some (.slice M m.length mc)) (hm : ReadsV w M m) (hp : ∀ j, j < l.length → 0 ≤ aP l j ∧ aP l j < m.length) :
    Calls Try.prog 88 #[.slice A l.length c, .func (.func 90) #[] #[.pointer (some ⟨b, 0, none⟩)]] w (VPost w.heap.size w (.bool (anyB (inhF l m) l.length))) := by
  have C := inh_index A l c b M m mc w hr hl hcb hm hp
  unfold anyB
  generalize firstI (inhF l m) l.length 0 = S at *
  generalize l.length = n at *
  clear hr hcb hm hp
  replace C := Lib.hid C
  go_enter Try.func88, Try.ntmps88
  go_wp2_with fail
  refine C.out.mono ?_
  rintro e w2 ⟨rfl, K⟩
  have K2 := Lib.hid K
  clear K
  by_cases q : 0 ≤ S
  · have q2 : decide (0 ≤ S) = true := by simpa using q
    have q3 := Lib.hid q2
    go_wp2
    go_ret
    exact ⟨ret_b q3.out.symm, K2.out⟩
  · have q2 : decide (0 ≤ S) = false := by simpa using q
    have q3 := Lib.hid q2
    go_wp2
    go_ret
    exact ⟨ret_b q3.out.symm, K2.out⟩
end Go.Proofs.Ytpfkkjgklhcejaa
