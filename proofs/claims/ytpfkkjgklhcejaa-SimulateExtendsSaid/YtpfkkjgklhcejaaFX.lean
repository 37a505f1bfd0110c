/- Fire, by the program and by the reference. -/
import Derived.Test.YtpfkkjgklhcejaaFW
namespace Go.Proofs.Ytpfkkjgklhcejaa
open Go.RowKit

def fireE (n : NetV) (m : List Int) (t : Int) : Int := if errN n m = 0 then errF n m t else errN n m
def fireL (n : NetV) (m : List Int) (t : Int) : List Int := if errN n m = 0 then listF n m t else []
theorem fire_err {n : NetV} {m : List Int} {t : Int} (h : errN n m ≠ 0) : fireE n m t = errN n m ∧ fireL n m t = [] := by
  unfold fireE fireL
  rw [if_neg h, if_neg h]
  exact ⟨rfl, rfl⟩
theorem fire_good {n : NetV} {m : List Int} {t : Int} (h : errN n m = 0) : fireE n m t = errF n m t ∧ fireL n m t = listF n m t := by
  unfold fireE fireL
  rw [if_pos h, if_pos h]
  exact ⟨rfl, rfl⟩
theorem errN_chk {n : NetV} {m : List Int} (h : (chkV n).1 ≠ 0) : errN n m = (chkV n).1 := by unfold errN; rw [if_pos h]
theorem errN_size {n : NetV} {m : List Int} (h : (chkV n).1 = 0) (h2 : validL m n.ps.length = false) : errN n m = 2 := by unfold errN; rw [if_neg (by simpa using h), if_neg (by rw [h2]; simp)]
theorem errN_ok {n : NetV} {m : List Int} (h : (chkV n).1 = 0) (h2 : validL m n.ps.length = true) : errN n m = 0 := by unfold errN; rw [if_neg (by simpa using h), if_pos h2]

set_option maxHeartbeats 2000000 in
set_option maxRecDepth 100000 in
theorem Fire_any (n : NetV) (A : Option Addr) (m : List Int) (c : Nat) (t : Int) (w : World) (hr : NetR w n) (hm : ReadsV w A m) (hl : m.length ≤ 9223372036854775807) :
    Calls Try.prog 45 #[.agg #[.string n.nm, .slice n.PA n.ps.length n.pc, .slice n.TA n.ts.length n.tc], .slice A m.length c, .int .i64 t] w (PairPost w.heap.size w (fireL n m t) (.int .i64 (fireE n m t))) := by
  have CK : Hid (∀ W, Below w.heap.size w W → Calls Try.prog 59 #[.agg #[.string n.nm, .slice n.PA n.ps.length n.pc, .slice n.TA n.ts.length n.tc], .slice A m.length c] W (VPost W.heap.size W (.int .i64 (errN n m)))) := fun W hW => fcheck_any n A m c W (hr.below hW (Nat.le_refl _)) (hm.below hW (Nat.le_refl _)) hl
  have B0 : Hid (Below w.heap.size w (w.alloc (.cells #[.string n.nm, .slice n.PA n.ps.length n.pc, .slice n.TA n.ts.length n.tc] 25))) := ((Below.refl _ _).alloc (Nat.le_refl _) _)
  by_cases h0 : errN n m = 0
  · have hg := errN_zero.1 h0
    rw [(fire_good (t := t) h0).1, (fire_good (t := t) h0).2]
    rw [h0] at CK
    have CF : Hid (∀ W, Below w.heap.size w W → Calls Try.prog 63 #[.agg #[.string n.nm, .slice n.PA n.ps.length n.pc, .slice n.TA n.ts.length n.tc], .slice A m.length c, .int .i64 t] W (PairPost W.heap.size W (listF n m t) (.int .i64 (errF n m t)))) := fun W hW => fire_any n A m c t W (hr.below hW (Nat.le_refl _)) (hm.below hW (Nat.le_refl _)) hg
    clear hr hm hg h0
    generalize listF n m t = L at *
    generalize errF n m t = E at *
    go_enter Try.func45, Try.ntmps45
    go_wp2_with fail
    refine (CK.out _ B0.out).mono ?_
    rintro e w1 ⟨rfl, K⟩
    have b0_0 : w1.cell? ⟨w.heap.size, 0, none⟩ = some (.string n.nm) := by rw [K.cell (by simp [go_sem] <;> omega)]; simp [go_sem]
    have b0_1 : w1.cell? ⟨w.heap.size, 1, none⟩ = some (.slice n.PA n.ps.length n.pc) := by rw [K.cell (by simp [go_sem] <;> omega)]; simp [go_sem]
    have b0_2 : w1.cell? ⟨w.heap.size, 2, none⟩ = some (.slice n.TA n.ts.length n.tc) := by rw [K.cell (by simp [go_sem] <;> omega)]; simp [go_sem]
    have Bw1 := Lib.hid (B0.out.trans (K.mono (by simp [go_sem] <;> omega)))
    have hs1 : w.heap.size + 1 ≤ w1.heap.size := by have := K.size; (try simp [go_sem] at this); omega
    clear K
    go_wp2_with fail
    refine (CF.out _ Bw1.out).mono ?_
    rintro e w2 ⟨A2, c2, rfl, R2, K⟩
    have R2 := Lib.hid R2
    have b0_0 : w2.cell? ⟨w.heap.size, 0, none⟩ = some (.string n.nm) := by rw [K.cell (by first | (show w.heap.size < _; omega) | (simp; omega))]; first | exact b0_0 | exact cellA b0_0 _
    have b0_1 : w2.cell? ⟨w.heap.size, 1, none⟩ = some (.slice n.PA n.ps.length n.pc) := by rw [K.cell (by first | (show w.heap.size < _; omega) | (simp; omega))]; first | exact b0_1 | exact cellA b0_1 _
    have b0_2 : w2.cell? ⟨w.heap.size, 2, none⟩ = some (.slice n.TA n.ts.length n.tc) := by rw [K.cell (by first | (show w.heap.size < _; omega) | (simp; omega))]; first | exact b0_2 | exact cellA b0_2 _
    have Bw2 := Lib.hid (Bw1.out.trans (K.mono Bw1.out.size))
    have hs2 : w.heap.size + 1 ≤ w2.heap.size := by have := K.size; (try simp [go_sem] at this); omega
    clear K
    go_wp2
    go_ret2
    exact ⟨A2, c2, rfl, R2.out, Bw2.out⟩
  · have z0 : (errN n m != 0) = true := by simpa using h0
    rw [(fire_err (t := t) h0).1, (fire_err (t := t) h0).2]
    clear hr hm h0
    generalize errN n m = E at *
    go_enter Try.func45, Try.ntmps45
    go_wp2_with fail
    refine (CK.out _ B0.out).mono ?_
    rintro e w1 ⟨rfl, K⟩
    have b0_0 : w1.cell? ⟨w.heap.size, 0, none⟩ = some (.string n.nm) := by rw [K.cell (by simp [go_sem] <;> omega)]; simp [go_sem]
    have b0_1 : w1.cell? ⟨w.heap.size, 1, none⟩ = some (.slice n.PA n.ps.length n.pc) := by rw [K.cell (by simp [go_sem] <;> omega)]; simp [go_sem]
    have b0_2 : w1.cell? ⟨w.heap.size, 2, none⟩ = some (.slice n.TA n.ts.length n.tc) := by rw [K.cell (by simp [go_sem] <;> omega)]; simp [go_sem]
    have Bw1 := Lib.hid (B0.out.trans (K.mono (by simp [go_sem] <;> omega)))
    have hs1 : w.heap.size + 1 ≤ w1.heap.size := by have := K.size; (try simp [go_sem] at this); omega
    clear K
    go_wp2
    go_ret2
    exact ⟨none, 0, rfl, ReadsV.nil _ _, Bw1.out⟩

set_option maxHeartbeats 8000000 in
set_option maxRecDepth 100000 in
theorem rFire_any (n : NetV) (A : Option Addr) (m : List Int) (c : Nat) (t : Int) (w : World) (hr : NetR w n) (hm : ReadsV w A m) (hl : m.length ≤ 9223372036854775807) :
    Calls Try.prog 36 #[.agg #[.string n.nm, .slice n.PA n.ps.length n.pc, .slice n.TA n.ts.length n.tc], .slice A m.length c, .int .i64 t] w (PairPost w.heap.size w (fireL n m t) (.int .i64 (fireE n m t))) := by
  have CK : Hid (∀ W, Below w.heap.size w W → Calls Try.prog 28 #[.agg #[.string n.nm, .slice n.PA n.ps.length n.pc, .slice n.TA n.ts.length n.tc]] W (FPost W.heap.size W (chkV n))) := fun W hW => rcheck_any n W (hr.below hW (Nat.le_refl _))
  have CV : Hid (∀ W, Below w.heap.size w W → Calls Try.prog 34 #[.slice A m.length c, .int .i64 n.ps.length] W (fun e w' => e = .returned (.bool (validL m n.ps.length)) ∧ Below W.heap.size W w')) := fun W hW => (rvalidn_law A m n.ps.length c W (hm.below hW (Nat.le_refl _)) hl).mono fun e w' h => ⟨h.1, by rw [← h.2]; exact Below.refl _ _⟩
  have B0 : Hid (Below w.heap.size w (w.alloc (.cells #[.string n.nm, .slice n.PA n.ps.length n.pc, .slice n.TA n.ts.length n.tc] 25))) := ((Below.refl _ _).alloc (Nat.le_refl _) _)
  by_cases h0 : (chkV n).1 = 0
  rotate_left
  · have E := errN_chk (m := m) h0
    have E2 := fire_err (n := n) (m := m) (t := t) (by rw [E]; exact h0)
    rw [E2.1, E2.2, E]
    clear hr hm CV E E2
    generalize chkV n = cv at *
    obtain ⟨e0, e1⟩ := cv
    dsimp only at *
    have z0 : (e0 != 0) = true := by simpa using h0
    clear h0
    go_enter Try.func36, Try.ntmps36
    go_wp2_with fail
    refine (CK.out _ B0.out).mono ?_
    rintro e w1 ⟨rfl, K⟩
    have b0_0 : w1.cell? ⟨w.heap.size, 0, none⟩ = some (.string n.nm) := by rw [K.cell (by simp [go_sem] <;> omega)]; simp [go_sem]
    have b0_1 : w1.cell? ⟨w.heap.size, 1, none⟩ = some (.slice n.PA n.ps.length n.pc) := by rw [K.cell (by simp [go_sem] <;> omega)]; simp [go_sem]
    have b0_2 : w1.cell? ⟨w.heap.size, 2, none⟩ = some (.slice n.TA n.ts.length n.tc) := by rw [K.cell (by simp [go_sem] <;> omega)]; simp [go_sem]
    have Bw1 := Lib.hid (B0.out.trans (K.mono (by simp [go_sem] <;> omega)))
    have hs1 : w.heap.size + 1 ≤ w1.heap.size := by have := K.size; (try simp [go_sem] at this); omega
    clear K
    have Bw1a := Lib.hid (Bw1.out.alloc Bw1.out.size (.cells #[.int .i64 e0, .int .i64 e1] 57))
    have lz1 : w.heap.size < w1.heap.size := by omega
    go_wp2_with fail
    (try go_quiet (fail))
    go_wp2
    go_ret2
    exact ⟨none, 0, rfl, ReadsV.nil _ _, by first | exact Bw1a.out | exact below_drewN Bw1a.out _⟩
  cases hv : validL m n.ps.length
  · have E := errN_size h0 hv
    have E2 := fire_err (n := n) (m := m) (t := t) (by rw [E]; decide)
    rw [E2.1, E2.2, E]
    rw [hv] at CV
    clear hr hm E E2 hv
    generalize chkV n = cv at *
    obtain ⟨e0, e1⟩ := cv
    dsimp only at *
    subst h0
    go_enter Try.func36, Try.ntmps36
    go_wp2_with fail
    refine (CK.out _ B0.out).mono ?_
    rintro e w1 ⟨rfl, K⟩
    have b0_0 : w1.cell? ⟨w.heap.size, 0, none⟩ = some (.string n.nm) := by rw [K.cell (by simp [go_sem] <;> omega)]; simp [go_sem]
    have b0_1 : w1.cell? ⟨w.heap.size, 1, none⟩ = some (.slice n.PA n.ps.length n.pc) := by rw [K.cell (by simp [go_sem] <;> omega)]; simp [go_sem]
    have b0_2 : w1.cell? ⟨w.heap.size, 2, none⟩ = some (.slice n.TA n.ts.length n.tc) := by rw [K.cell (by simp [go_sem] <;> omega)]; simp [go_sem]
    have Bw1 := Lib.hid (B0.out.trans (K.mono (by simp [go_sem] <;> omega)))
    have hs1 : w.heap.size + 1 ≤ w1.heap.size := by have := K.size; (try simp [go_sem] at this); omega
    clear K
    have Bw1a := Lib.hid (Bw1.out.alloc Bw1.out.size (.cells #[.int .i64 0, .int .i64 e1] 57))
    have lz1 : w.heap.size < w1.heap.size := by omega
    go_wp2_with fail
    refine (CV.out _ Bw1a.out).mono ?_
    rintro e w2 ⟨rfl, K⟩
    have b0_0 : w2.cell? ⟨w.heap.size, 0, none⟩ = some (.string n.nm) := by rw [K.cell (by first | (show w.heap.size < _; omega) | (simp; omega))]; first | exact b0_0 | exact cellA b0_0 _
    have b0_1 : w2.cell? ⟨w.heap.size, 1, none⟩ = some (.slice n.PA n.ps.length n.pc) := by rw [K.cell (by first | (show w.heap.size < _; omega) | (simp; omega))]; first | exact b0_1 | exact cellA b0_1 _
    have b0_2 : w2.cell? ⟨w.heap.size, 2, none⟩ = some (.slice n.TA n.ts.length n.tc) := by rw [K.cell (by first | (show w.heap.size < _; omega) | (simp; omega))]; first | exact b0_2 | exact cellA b0_2 _
    have Bw2 := Lib.hid (Bw1a.out.trans (K.mono Bw1a.out.size))
    have hs2 : w.heap.size + 1 ≤ w2.heap.size := by have := K.size; (try simp [go_sem] at this); omega
    clear K
    go_wp2
    go_ret2
    exact ⟨none, 0, rfl, ReadsV.nil _ _, Bw2.out⟩
  have E := errN_ok h0 hv
  have hg := errN_zero.1 E
  rw [(fire_good (t := t) E).1, (fire_good (t := t) E).2]
  rw [hv] at CV
  clear E hv
  by_cases h1 : 0 ≤ t
  rotate_left
  · have ht : inT n t = false := by unfold inT; rw [decide_eq_false h1]; rfl
    have z1 : decide (t < 0) = true := by simp; omega
    rw [(errF_in (m := m) ht).1, (errF_in (m := m) ht).2]
    clear hr hm hg
    generalize chkV n = cv at *
    obtain ⟨e0, e1⟩ := cv
    dsimp only at *
    subst h0
    go_enter Try.func36, Try.ntmps36
    go_wp2_with fail
    refine (CK.out _ B0.out).mono ?_
    rintro e w1 ⟨rfl, K⟩
    have b0_0 : w1.cell? ⟨w.heap.size, 0, none⟩ = some (.string n.nm) := by rw [K.cell (by simp [go_sem] <;> omega)]; simp [go_sem]
    have b0_1 : w1.cell? ⟨w.heap.size, 1, none⟩ = some (.slice n.PA n.ps.length n.pc) := by rw [K.cell (by simp [go_sem] <;> omega)]; simp [go_sem]
    have b0_2 : w1.cell? ⟨w.heap.size, 2, none⟩ = some (.slice n.TA n.ts.length n.tc) := by rw [K.cell (by simp [go_sem] <;> omega)]; simp [go_sem]
    have Bw1 := Lib.hid (B0.out.trans (K.mono (by simp [go_sem] <;> omega)))
    have hs1 : w.heap.size + 1 ≤ w1.heap.size := by have := K.size; (try simp [go_sem] at this); omega
    clear K
    have Bw1a := Lib.hid (Bw1.out.alloc Bw1.out.size (.cells #[.int .i64 0, .int .i64 e1] 57))
    have lz1 : w.heap.size < w1.heap.size := by omega
    go_wp2_with fail
    refine (CV.out _ Bw1a.out).mono ?_
    rintro e w2 ⟨rfl, K⟩
    have b0_0 : w2.cell? ⟨w.heap.size, 0, none⟩ = some (.string n.nm) := by rw [K.cell (by first | (show w.heap.size < _; omega) | (simp; omega))]; first | exact b0_0 | exact cellA b0_0 _
    have b0_1 : w2.cell? ⟨w.heap.size, 1, none⟩ = some (.slice n.PA n.ps.length n.pc) := by rw [K.cell (by first | (show w.heap.size < _; omega) | (simp; omega))]; first | exact b0_1 | exact cellA b0_1 _
    have b0_2 : w2.cell? ⟨w.heap.size, 2, none⟩ = some (.slice n.TA n.ts.length n.tc) := by rw [K.cell (by first | (show w.heap.size < _; omega) | (simp; omega))]; first | exact b0_2 | exact cellA b0_2 _
    have Bw2 := Lib.hid (Bw1a.out.trans (K.mono Bw1a.out.size))
    have hs2 : w.heap.size + 1 ≤ w2.heap.size := by have := K.size; (try simp [go_sem] at this); omega
    clear K
    go_wp2
    go_ret2
    exact ⟨none, 0, rfl, ReadsV.nil _ _, Bw2.out⟩
  by_cases h2 : t < (n.ts.length : Int)
  rotate_left
  · have ht : inT n t = false := by unfold inT; rw [decide_eq_false h2]; simp
    have z1 : decide (t < 0) = false := by simp; omega
    rw [(errF_in (m := m) ht).1, (errF_in (m := m) ht).2]
    clear hr hm hg
    generalize chkV n = cv at *
    obtain ⟨e0, e1⟩ := cv
    dsimp only at *
    subst h0
    go_enter Try.func36, Try.ntmps36
    go_wp2_with fail
    refine (CK.out _ B0.out).mono ?_
    rintro e w1 ⟨rfl, K⟩
    have b0_0 : w1.cell? ⟨w.heap.size, 0, none⟩ = some (.string n.nm) := by rw [K.cell (by simp [go_sem] <;> omega)]; simp [go_sem]
    have b0_1 : w1.cell? ⟨w.heap.size, 1, none⟩ = some (.slice n.PA n.ps.length n.pc) := by rw [K.cell (by simp [go_sem] <;> omega)]; simp [go_sem]
    have b0_2 : w1.cell? ⟨w.heap.size, 2, none⟩ = some (.slice n.TA n.ts.length n.tc) := by rw [K.cell (by simp [go_sem] <;> omega)]; simp [go_sem]
    have Bw1 := Lib.hid (B0.out.trans (K.mono (by simp [go_sem] <;> omega)))
    have hs1 : w.heap.size + 1 ≤ w1.heap.size := by have := K.size; (try simp [go_sem] at this); omega
    clear K
    have Bw1a := Lib.hid (Bw1.out.alloc Bw1.out.size (.cells #[.int .i64 0, .int .i64 e1] 57))
    have lz1 : w.heap.size < w1.heap.size := by omega
    go_wp2_with fail
    refine (CV.out _ Bw1a.out).mono ?_
    rintro e w2 ⟨rfl, K⟩
    have b0_0 : w2.cell? ⟨w.heap.size, 0, none⟩ = some (.string n.nm) := by rw [K.cell (by first | (show w.heap.size < _; omega) | (simp; omega))]; first | exact b0_0 | exact cellA b0_0 _
    have b0_1 : w2.cell? ⟨w.heap.size, 1, none⟩ = some (.slice n.PA n.ps.length n.pc) := by rw [K.cell (by first | (show w.heap.size < _; omega) | (simp; omega))]; first | exact b0_1 | exact cellA b0_1 _
    have b0_2 : w2.cell? ⟨w.heap.size, 2, none⟩ = some (.slice n.TA n.ts.length n.tc) := by rw [K.cell (by first | (show w.heap.size < _; omega) | (simp; omega))]; first | exact b0_2 | exact cellA b0_2 _
    have Bw2 := Lib.hid (Bw1a.out.trans (K.mono Bw1a.out.size))
    have hs2 : w.heap.size + 1 ≤ w2.heap.size := by have := K.size; (try simp [go_sem] at this); omega
    clear K
    go_wp2
    go_ret2
    exact ⟨none, 0, rfl, ReadsV.nil _ _, Bw2.out⟩
  have ht : inT n t = true := inT_iff.2 ⟨h1, h2⟩
  obtain ⟨k, rfl⟩ : ∃ k : Nat, t = k := ⟨t.toNat, by omega⟩
  have hk : k < n.ts.length := by omega
  have htl : n.ts.length ≤ 1000 := hr.okt.1
  have CF : Hid (∀ W, Below w.heap.size w W → Calls Try.prog 29 #[.agg #[.string n.nm, .slice n.PA n.ps.length n.pc, .slice n.TA n.ts.length n.tc], .slice A m.length c] W (IsPost W.heap.size W (firesV n m))) := fun W hW => fires_any n A m c W (hr.below hW (Nat.le_refl _)) (hm.below hW (Nat.le_refl _)) hg
  have FL := Lib.hid (fires_len (n := n) (m := m))
  have HH : Hid (∀ A2 c2 W, ReadsV W A2 (firesV n m) → Calls Try.prog 54 #[.slice A2 (firesV n m).length c2, .int .i64 (k : Nat)] W (VPost W.heap.size W (.bool (decide ((k : Int) ∈ firesV n m))))) := fun A2 c2 W h => has_any A2 (firesV n m) c2 k W h (Nat.le_trans FL.out htl)
  have CA : Hid (∀ W, Below w.heap.size w W → Calls Try.prog 31 #[.agg #[.string n.nm, .slice n.PA n.ps.length n.pc, .slice n.TA n.ts.length n.tc], .slice A m.length c, .int .i64 k] W (PairPost W.heap.size W (aftR n m k) (.bool (!(overB n m k))))) := fun W hW => after_any n A m c k W (hr.below hW (Nat.le_refl _)) (hm.below hW (Nat.le_refl _)) hg hk
  have EM : decide ((k : Int) ∈ firesV n m) = mayB n m k := by
    rw [Bool.eq_iff_iff, decide_eq_true_eq, mem_fires, Int.toNat_natCast]
    exact ⟨fun h => h.2.2, fun h => ⟨by omega, by omega, h⟩⟩
  rw [EM] at HH
  have z1 : decide ((k : Int) < 0) = false := decide_eq_false (by omega)
  have hk1 : (k : Int) < (n.ts.length : Int) := by omega
  clear h1 h2 EM hr hm hg
  cases hmy : mayB n m k
  · have E := errF_may (m := m) ht (by rw [Int.toNat_natCast]; exact hmy)
    rw [E.1, E.2]
    rw [hmy] at HH
    clear E hmy ht CA
    generalize firesV n m = L at *
    generalize chkV n = cv at *
    obtain ⟨e0, e1⟩ := cv
    dsimp only at *
    subst h0
    go_enter Try.func36, Try.ntmps36
    go_wp2_with fail
    refine (CK.out _ B0.out).mono ?_
    rintro e w1 ⟨rfl, K⟩
    have b0_0 : w1.cell? ⟨w.heap.size, 0, none⟩ = some (.string n.nm) := by rw [K.cell (by simp [go_sem] <;> omega)]; simp [go_sem]
    have b0_1 : w1.cell? ⟨w.heap.size, 1, none⟩ = some (.slice n.PA n.ps.length n.pc) := by rw [K.cell (by simp [go_sem] <;> omega)]; simp [go_sem]
    have b0_2 : w1.cell? ⟨w.heap.size, 2, none⟩ = some (.slice n.TA n.ts.length n.tc) := by rw [K.cell (by simp [go_sem] <;> omega)]; simp [go_sem]
    have Bw1 := Lib.hid (B0.out.trans (K.mono (by simp [go_sem] <;> omega)))
    have hs1 : w.heap.size + 1 ≤ w1.heap.size := by have := K.size; (try simp [go_sem] at this); omega
    clear K
    have Bw1a := Lib.hid (Bw1.out.alloc Bw1.out.size (.cells #[.int .i64 0, .int .i64 e1] 57))
    have lz1 : w.heap.size < w1.heap.size := by omega
    go_wp2_with fail
    refine (CV.out _ Bw1a.out).mono ?_
    rintro e w2 ⟨rfl, K⟩
    have b0_0 : w2.cell? ⟨w.heap.size, 0, none⟩ = some (.string n.nm) := by rw [K.cell (by first | (show w.heap.size < _; omega) | (simp; omega))]; first | exact b0_0 | exact cellA b0_0 _
    have b0_1 : w2.cell? ⟨w.heap.size, 1, none⟩ = some (.slice n.PA n.ps.length n.pc) := by rw [K.cell (by first | (show w.heap.size < _; omega) | (simp; omega))]; first | exact b0_1 | exact cellA b0_1 _
    have b0_2 : w2.cell? ⟨w.heap.size, 2, none⟩ = some (.slice n.TA n.ts.length n.tc) := by rw [K.cell (by first | (show w.heap.size < _; omega) | (simp; omega))]; first | exact b0_2 | exact cellA b0_2 _
    have Bw2 := Lib.hid (Bw1a.out.trans (K.mono Bw1a.out.size))
    have hs2 : w.heap.size + 1 ≤ w2.heap.size := by have := K.size; (try simp [go_sem] at this); omega
    clear K
    go_wp2_with fail
    refine (CF.out _ Bw2.out).mono ?_
    rintro e w3 ⟨A2, c2, rfl, R2, K⟩
    have R2 := Lib.hid R2
    have b0_0 : w3.cell? ⟨w.heap.size, 0, none⟩ = some (.string n.nm) := by rw [K.cell (by first | (show w.heap.size < _; omega) | (simp; omega))]; first | exact b0_0 | exact cellA b0_0 _
    have b0_1 : w3.cell? ⟨w.heap.size, 1, none⟩ = some (.slice n.PA n.ps.length n.pc) := by rw [K.cell (by first | (show w.heap.size < _; omega) | (simp; omega))]; first | exact b0_1 | exact cellA b0_1 _
    have b0_2 : w3.cell? ⟨w.heap.size, 2, none⟩ = some (.slice n.TA n.ts.length n.tc) := by rw [K.cell (by first | (show w.heap.size < _; omega) | (simp; omega))]; first | exact b0_2 | exact cellA b0_2 _
    have Bw3 := Lib.hid (Bw2.out.trans (K.mono Bw2.out.size))
    have hs3 : w.heap.size + 1 ≤ w3.heap.size := by have := K.size; (try simp [go_sem] at this); omega
    clear K
    go_wp2_with fail
    refine (HH.out A2 c2 _ R2.out).mono ?_
    rintro e w4 ⟨rfl, K⟩
    have b0_0 : w4.cell? ⟨w.heap.size, 0, none⟩ = some (.string n.nm) := by rw [K.cell (by first | (show w.heap.size < _; omega) | (simp; omega))]; first | exact b0_0 | exact cellA b0_0 _
    have b0_1 : w4.cell? ⟨w.heap.size, 1, none⟩ = some (.slice n.PA n.ps.length n.pc) := by rw [K.cell (by first | (show w.heap.size < _; omega) | (simp; omega))]; first | exact b0_1 | exact cellA b0_1 _
    have b0_2 : w4.cell? ⟨w.heap.size, 2, none⟩ = some (.slice n.TA n.ts.length n.tc) := by rw [K.cell (by first | (show w.heap.size < _; omega) | (simp; omega))]; first | exact b0_2 | exact cellA b0_2 _
    have Bw4 := Lib.hid (Bw3.out.trans (K.mono Bw3.out.size))
    have hs4 : w.heap.size + 1 ≤ w4.heap.size := by have := K.size; (try simp [go_sem] at this); omega
    clear K
    go_wp2
    go_ret2
    exact ⟨none, 0, rfl, ReadsV.nil _ _, Bw4.out⟩
  rw [hmy] at HH
  cases hov : overB n m k
  · have E := errF_ok (m := m) ht (by rw [Int.toNat_natCast]; exact hmy) (by rw [Int.toNat_natCast]; exact hov)
    rw [E.1, E.2]
    have EA : aftR n m k = aftL n m k := by unfold aftR; rw [hov]; rfl
    rw [EA, hov] at CA
    rw [Int.toNat_natCast]
    clear E hmy ht hov EA
    generalize firesV n m = L at *
    generalize aftL n m k = AL at *
    generalize chkV n = cv at *
    obtain ⟨e0, e1⟩ := cv
    dsimp only at *
    subst h0
    go_enter Try.func36, Try.ntmps36
    go_wp2_with fail
    refine (CK.out _ B0.out).mono ?_
    rintro e w1 ⟨rfl, K⟩
    have b0_0 : w1.cell? ⟨w.heap.size, 0, none⟩ = some (.string n.nm) := by rw [K.cell (by simp [go_sem] <;> omega)]; simp [go_sem]
    have b0_1 : w1.cell? ⟨w.heap.size, 1, none⟩ = some (.slice n.PA n.ps.length n.pc) := by rw [K.cell (by simp [go_sem] <;> omega)]; simp [go_sem]
    have b0_2 : w1.cell? ⟨w.heap.size, 2, none⟩ = some (.slice n.TA n.ts.length n.tc) := by rw [K.cell (by simp [go_sem] <;> omega)]; simp [go_sem]
    have Bw1 := Lib.hid (B0.out.trans (K.mono (by simp [go_sem] <;> omega)))
    have hs1 : w.heap.size + 1 ≤ w1.heap.size := by have := K.size; (try simp [go_sem] at this); omega
    clear K
    have Bw1a := Lib.hid (Bw1.out.alloc Bw1.out.size (.cells #[.int .i64 0, .int .i64 e1] 57))
    have lz1 : w.heap.size < w1.heap.size := by omega
    go_wp2_with fail
    refine (CV.out _ Bw1a.out).mono ?_
    rintro e w2 ⟨rfl, K⟩
    have b0_0 : w2.cell? ⟨w.heap.size, 0, none⟩ = some (.string n.nm) := by rw [K.cell (by first | (show w.heap.size < _; omega) | (simp; omega))]; first | exact b0_0 | exact cellA b0_0 _
    have b0_1 : w2.cell? ⟨w.heap.size, 1, none⟩ = some (.slice n.PA n.ps.length n.pc) := by rw [K.cell (by first | (show w.heap.size < _; omega) | (simp; omega))]; first | exact b0_1 | exact cellA b0_1 _
    have b0_2 : w2.cell? ⟨w.heap.size, 2, none⟩ = some (.slice n.TA n.ts.length n.tc) := by rw [K.cell (by first | (show w.heap.size < _; omega) | (simp; omega))]; first | exact b0_2 | exact cellA b0_2 _
    have Bw2 := Lib.hid (Bw1a.out.trans (K.mono Bw1a.out.size))
    have hs2 : w.heap.size + 1 ≤ w2.heap.size := by have := K.size; (try simp [go_sem] at this); omega
    clear K
    go_wp2_with fail
    refine (CF.out _ Bw2.out).mono ?_
    rintro e w3 ⟨A2, c2, rfl, R2, K⟩
    have R2 := Lib.hid R2
    have b0_0 : w3.cell? ⟨w.heap.size, 0, none⟩ = some (.string n.nm) := by rw [K.cell (by first | (show w.heap.size < _; omega) | (simp; omega))]; first | exact b0_0 | exact cellA b0_0 _
    have b0_1 : w3.cell? ⟨w.heap.size, 1, none⟩ = some (.slice n.PA n.ps.length n.pc) := by rw [K.cell (by first | (show w.heap.size < _; omega) | (simp; omega))]; first | exact b0_1 | exact cellA b0_1 _
    have b0_2 : w3.cell? ⟨w.heap.size, 2, none⟩ = some (.slice n.TA n.ts.length n.tc) := by rw [K.cell (by first | (show w.heap.size < _; omega) | (simp; omega))]; first | exact b0_2 | exact cellA b0_2 _
    have Bw3 := Lib.hid (Bw2.out.trans (K.mono Bw2.out.size))
    have hs3 : w.heap.size + 1 ≤ w3.heap.size := by have := K.size; (try simp [go_sem] at this); omega
    clear K
    go_wp2_with fail
    refine (HH.out A2 c2 _ R2.out).mono ?_
    rintro e w4 ⟨rfl, K⟩
    have b0_0 : w4.cell? ⟨w.heap.size, 0, none⟩ = some (.string n.nm) := by rw [K.cell (by first | (show w.heap.size < _; omega) | (simp; omega))]; first | exact b0_0 | exact cellA b0_0 _
    have b0_1 : w4.cell? ⟨w.heap.size, 1, none⟩ = some (.slice n.PA n.ps.length n.pc) := by rw [K.cell (by first | (show w.heap.size < _; omega) | (simp; omega))]; first | exact b0_1 | exact cellA b0_1 _
    have b0_2 : w4.cell? ⟨w.heap.size, 2, none⟩ = some (.slice n.TA n.ts.length n.tc) := by rw [K.cell (by first | (show w.heap.size < _; omega) | (simp; omega))]; first | exact b0_2 | exact cellA b0_2 _
    have Bw4 := Lib.hid (Bw3.out.trans (K.mono Bw3.out.size))
    have hs4 : w.heap.size + 1 ≤ w4.heap.size := by have := K.size; (try simp [go_sem] at this); omega
    clear K
    go_wp2_with fail
    refine (CA.out _ Bw4.out).mono ?_
    rintro e w5 ⟨A3, c3, rfl, R3, K⟩
    have R3 := Lib.hid R3
    have b0_0 : w5.cell? ⟨w.heap.size, 0, none⟩ = some (.string n.nm) := by rw [K.cell (by first | (show w.heap.size < _; omega) | (simp; omega))]; first | exact b0_0 | exact cellA b0_0 _
    have b0_1 : w5.cell? ⟨w.heap.size, 1, none⟩ = some (.slice n.PA n.ps.length n.pc) := by rw [K.cell (by first | (show w.heap.size < _; omega) | (simp; omega))]; first | exact b0_1 | exact cellA b0_1 _
    have b0_2 : w5.cell? ⟨w.heap.size, 2, none⟩ = some (.slice n.TA n.ts.length n.tc) := by rw [K.cell (by first | (show w.heap.size < _; omega) | (simp; omega))]; first | exact b0_2 | exact cellA b0_2 _
    have Bw5 := Lib.hid (Bw4.out.trans (K.mono Bw4.out.size))
    have hs5 : w.heap.size + 1 ≤ w5.heap.size := by have := K.size; (try simp [go_sem] at this); omega
    clear K
    go_wp2
    go_ret2
    exact ⟨A3, c3, rfl, R3.out, Bw5.out⟩
  · have E := errF_over (m := m) ht (by rw [Int.toNat_natCast]; exact hmy) (by rw [Int.toNat_natCast]; exact hov)
    rw [E.1, E.2]
    have EA : aftR n m k = [] := by unfold aftR; rw [hov]; rfl
    rw [EA, hov] at CA
    clear E hmy ht hov EA
    generalize firesV n m = L at *
    generalize chkV n = cv at *
    obtain ⟨e0, e1⟩ := cv
    dsimp only at *
    subst h0
    go_enter Try.func36, Try.ntmps36
    go_wp2_with fail
    refine (CK.out _ B0.out).mono ?_
    rintro e w1 ⟨rfl, K⟩
    have b0_0 : w1.cell? ⟨w.heap.size, 0, none⟩ = some (.string n.nm) := by rw [K.cell (by simp [go_sem] <;> omega)]; simp [go_sem]
    have b0_1 : w1.cell? ⟨w.heap.size, 1, none⟩ = some (.slice n.PA n.ps.length n.pc) := by rw [K.cell (by simp [go_sem] <;> omega)]; simp [go_sem]
    have b0_2 : w1.cell? ⟨w.heap.size, 2, none⟩ = some (.slice n.TA n.ts.length n.tc) := by rw [K.cell (by simp [go_sem] <;> omega)]; simp [go_sem]
    have Bw1 := Lib.hid (B0.out.trans (K.mono (by simp [go_sem] <;> omega)))
    have hs1 : w.heap.size + 1 ≤ w1.heap.size := by have := K.size; (try simp [go_sem] at this); omega
    clear K
    have Bw1a := Lib.hid (Bw1.out.alloc Bw1.out.size (.cells #[.int .i64 0, .int .i64 e1] 57))
    have lz1 : w.heap.size < w1.heap.size := by omega
    go_wp2_with fail
    refine (CV.out _ Bw1a.out).mono ?_
    rintro e w2 ⟨rfl, K⟩
    have b0_0 : w2.cell? ⟨w.heap.size, 0, none⟩ = some (.string n.nm) := by rw [K.cell (by first | (show w.heap.size < _; omega) | (simp; omega))]; first | exact b0_0 | exact cellA b0_0 _
    have b0_1 : w2.cell? ⟨w.heap.size, 1, none⟩ = some (.slice n.PA n.ps.length n.pc) := by rw [K.cell (by first | (show w.heap.size < _; omega) | (simp; omega))]; first | exact b0_1 | exact cellA b0_1 _
    have b0_2 : w2.cell? ⟨w.heap.size, 2, none⟩ = some (.slice n.TA n.ts.length n.tc) := by rw [K.cell (by first | (show w.heap.size < _; omega) | (simp; omega))]; first | exact b0_2 | exact cellA b0_2 _
    have Bw2 := Lib.hid (Bw1a.out.trans (K.mono Bw1a.out.size))
    have hs2 : w.heap.size + 1 ≤ w2.heap.size := by have := K.size; (try simp [go_sem] at this); omega
    clear K
    go_wp2_with fail
    refine (CF.out _ Bw2.out).mono ?_
    rintro e w3 ⟨A2, c2, rfl, R2, K⟩
    have R2 := Lib.hid R2
    have b0_0 : w3.cell? ⟨w.heap.size, 0, none⟩ = some (.string n.nm) := by rw [K.cell (by first | (show w.heap.size < _; omega) | (simp; omega))]; first | exact b0_0 | exact cellA b0_0 _
    have b0_1 : w3.cell? ⟨w.heap.size, 1, none⟩ = some (.slice n.PA n.ps.length n.pc) := by rw [K.cell (by first | (show w.heap.size < _; omega) | (simp; omega))]; first | exact b0_1 | exact cellA b0_1 _
    have b0_2 : w3.cell? ⟨w.heap.size, 2, none⟩ = some (.slice n.TA n.ts.length n.tc) := by rw [K.cell (by first | (show w.heap.size < _; omega) | (simp; omega))]; first | exact b0_2 | exact cellA b0_2 _
    have Bw3 := Lib.hid (Bw2.out.trans (K.mono Bw2.out.size))
    have hs3 : w.heap.size + 1 ≤ w3.heap.size := by have := K.size; (try simp [go_sem] at this); omega
    clear K
    go_wp2_with fail
    refine (HH.out A2 c2 _ R2.out).mono ?_
    rintro e w4 ⟨rfl, K⟩
    have b0_0 : w4.cell? ⟨w.heap.size, 0, none⟩ = some (.string n.nm) := by rw [K.cell (by first | (show w.heap.size < _; omega) | (simp; omega))]; first | exact b0_0 | exact cellA b0_0 _
    have b0_1 : w4.cell? ⟨w.heap.size, 1, none⟩ = some (.slice n.PA n.ps.length n.pc) := by rw [K.cell (by first | (show w.heap.size < _; omega) | (simp; omega))]; first | exact b0_1 | exact cellA b0_1 _
    have b0_2 : w4.cell? ⟨w.heap.size, 2, none⟩ = some (.slice n.TA n.ts.length n.tc) := by rw [K.cell (by first | (show w.heap.size < _; omega) | (simp; omega))]; first | exact b0_2 | exact cellA b0_2 _
    have Bw4 := Lib.hid (Bw3.out.trans (K.mono Bw3.out.size))
    have hs4 : w.heap.size + 1 ≤ w4.heap.size := by have := K.size; (try simp [go_sem] at this); omega
    clear K
    go_wp2_with fail
    refine (CA.out _ Bw4.out).mono ?_
    rintro e w5 ⟨A3, c3, rfl, R3, K⟩
    have R3 := Lib.hid R3
    have b0_0 : w5.cell? ⟨w.heap.size, 0, none⟩ = some (.string n.nm) := by rw [K.cell (by first | (show w.heap.size < _; omega) | (simp; omega))]; first | exact b0_0 | exact cellA b0_0 _
    have b0_1 : w5.cell? ⟨w.heap.size, 1, none⟩ = some (.slice n.PA n.ps.length n.pc) := by rw [K.cell (by first | (show w.heap.size < _; omega) | (simp; omega))]; first | exact b0_1 | exact cellA b0_1 _
    have b0_2 : w5.cell? ⟨w.heap.size, 2, none⟩ = some (.slice n.TA n.ts.length n.tc) := by rw [K.cell (by first | (show w.heap.size < _; omega) | (simp; omega))]; first | exact b0_2 | exact cellA b0_2 _
    have Bw5 := Lib.hid (Bw4.out.trans (K.mono Bw4.out.size))
    have hs5 : w.heap.size + 1 ≤ w5.heap.size := by have := K.size; (try simp [go_sem] at this); omega
    clear K
    go_wp2
    go_ret2
    exact ⟨none, 0, rfl, ReadsV.nil _ _, Bw5.out⟩
end Go.Proofs.Ytpfkkjgklhcejaa
