/- Lists of transitions that may fire: the program. -/
import Derived.Test.YtpfkkjgklhcejaaFF
namespace Go.Proofs.Ytpfkkjgklhcejaa
open Go.RowKit

theorem IsPost.own {g : Nat} {w w' : World} {v : Value} {zs : List Int} (h : OwnI w' g v zs) (hb : Below g w w') : IsPost g w zs (.returned v) w' := by
  obtain ⟨A, c, e, hr⟩ := ReadsV.own h
  exact ⟨A, c, by rw [e], hr, hb⟩

set_option maxHeartbeats 2000000 in
set_option maxRecDepth 100000 in
theorem clos_active (n : NetV) (A : Option Addr) (m : List Int) (c : Nat) (t bn bm : Nat) (w : World) (hr : NetR w n) (hm : ReadsV w A m) (hok : goodN n m = true) (ht : t < n.ts.length) (n0 : w.cell? ⟨bn, 0, none⟩ = some (.string n.nm)) (n1 : w.cell? ⟨bn, 1, none⟩ = some (.slice n.PA n.ps.length n.pc)) (n2 : w.cell? ⟨bn, 2, none⟩ = some (.slice n.TA n.ts.length n.tc)) (m0 : w.cell? ⟨bm, 0, none⟩ = some (.slice A m.length c)) :
    Calls Try.prog 73 #[.int .i64 t, .pointer (some ⟨bn, 0, none⟩), .pointer (some ⟨bm, 0, none⟩)] w (VPost w.heap.size w (.bool (mayB n m t))) := by
  have C := Lib.hid (may_any n A m c t w hr hm hok ht)
  clear hr hm hok
  generalize mayB n m t = S at *
  go_enter Try.func73, Try.ntmps73
  go_wp2_with fail
  refine C.out.mono ?_
  rintro e w1 ⟨rfl, K⟩
  have K1 := Lib.hid K
  clear K C
  go_wp2
  go_ret
  exact ⟨rfl, K1.out⟩

set_option maxHeartbeats 4000000 in
set_option maxRecDepth 100000 in
theorem filter_any (n : NetV) (A : Option Addr) (m : List Int) (c : Nat) (bn bm : Nat) (w : World) (hr : NetR w n) (hm : ReadsV w A m) (hok : goodN n m = true) (n0 : w.cell? ⟨bn, 0, none⟩ = some (.string n.nm)) (n1 : w.cell? ⟨bn, 1, none⟩ = some (.slice n.PA n.ps.length n.pc)) (n2 : w.cell? ⟨bn, 2, none⟩ = some (.slice n.TA n.ts.length n.tc)) (m0 : w.cell? ⟨bm, 0, none⟩ = some (.slice A m.length c)) :
    Calls Try.prog 72 #[.agg #[.string n.nm, .slice n.PA n.ps.length n.pc, .slice n.TA n.ts.length n.tc], .func (.func 73) #[] #[.pointer (some ⟨bn, 0, none⟩), .pointer (some ⟨bm, 0, none⟩)]] w (IsPost w.heap.size w (firesV n m)) := by
  have CA : Hid (∀ W t, Below w.heap.size w W → t < n.ts.length → Calls Try.prog 73 #[.int .i64 (t : Nat), .pointer (some ⟨bn, 0, none⟩), .pointer (some ⟨bm, 0, none⟩)] W (VPost W.heap.size W (.bool (mayB n m t)))) := fun W t hW ht =>
    have L : ∀ {b i : Nat} {v : Value}, w.cell? ⟨b, i, none⟩ = some v → W.cell? ⟨b, i, none⟩ = some v := fun h => (hW.cell (World.block_lt_of_cell? w _ h)).trans h
    clos_active n A m c t bn bm W (hr.below hW (Nat.le_refl _)) (hm.below hW (Nat.le_refl _)) hok ht (L n0) (L n1) (L n2) (L m0)
  have FV : firesV n m = pickI (mayB n m) n.ts.length := rfl
  rw [FV]
  clear FV
  have htl : n.ts.length ≤ 1000 := hr.okt.1
  clear hr hm hok n0 n1 n2 m0
  generalize mayB n m = mf at *
  obtain ⟨nm, PA, ps, pc, TA, ts, tc⟩ := n
  dsimp only at *
  generalize ts.length = tl at *
  generalize ps.length = pl at *
  obtain ⟨g, hg⟩ : ∃ g, g = w.heap.size := ⟨_, rfl⟩
  have B0 : Hid (Below g w (w.alloc (.cells #[.string nm, .slice PA pl pc, .slice TA tl tc] 25))) := (Below.refl _ _).alloc (by rw [hg]; exact Nat.le_refl _) _
  have c2 : (w.alloc (.cells #[.string nm, .slice PA pl pc, .slice TA tl tc] 25)).cell? ⟨g, 2, none⟩ = some (.slice TA tl tc) := by rw [hg]; simp
  rw [← hg] at CA ⊢
  have HG := Lib.hid hg
  clear hg
  go_enter Try.func72, Try.ntmps72
  go_wp2_with fail
  go_loopw [5, 10] (fun p q wr => ∃ k : Nat, k ≤ tl ∧ q = .int .i64 k ∧ Hid (OwnI wr g p (pickI mf k)) ∧ Hid (Below g w wr)) (fun _ q _ => tl - (intOf q).toNat)
  case atStart => exact ⟨0, by omega, rfl, OwnI.nil _ _, B0⟩
  case round =>
    obtain ⟨k, hk, rfl, O, BB⟩ := hrel
    have hsz := BB.out.size
    rw [← HG.out] at hsz
    by_cases hlt : k < tl
    · have C := CA.out wr k BB.out hlt
      have PY : Hid (mf k = true → pickI mf (k + 1) = pickI mf k ++ [(k : Int)]) := pickI_yes mf k
      have PN : Hid (mf k = false → pickI mf (k + 1) = pickI mf k) := pickI_no mf k
      have hpl := pickI_len mf k
      generalize mf k = b at *
      cases b
      · have PN2 := Lib.hid (PN.out rfl)
        clear PN PY
        replace C := Lib.hid C
        go_wp2_with fail
        refine C.out.mono ?_
        rintro e w3 ⟨rfl, K⟩
        have O3 : Hid (OwnI w3 g u5 (pickI mf (k + 1))) := by
          show OwnI _ _ _ _
          rw [PN2.out]
          exact O.out.below K (Nat.le_refl _)
        have B3 := Lib.hid (BB.out.trans (K.mono hsz))
        clear K C
        go_wp2
        go_roundw
        case rel => exact ⟨k + 1, by omega, by go_num, O3, B3⟩
        case measure => simp [intOf]; omega
      · have PY2 := Lib.hid (PY.out rfl)
        clear PN PY
        replace C := Lib.hid C
        go_wp2_with fail
        refine C.out.mono ?_
        rintro e w3 ⟨rfl, K⟩
        have O3 := Lib.hid (O.out.below K (Nat.le_refl _))
        have B3 := Lib.hid (BB.out.trans (K.mono hsz))
        have hs3 := Nat.le_trans hsz K.size
        clear K C O
        go_wp2_with (at_builtin; refine wpList_int rfl (.tmp 16) (.tmp 18) rfl g _ (pickI mf k) k rfl (O3.out.alloc _) _ rfl (cell_new1 _ _ _) (by omega) (size_le_alloc hs3 _) ?_; intro v' w5 hown' hb')
        have O5 : Hid (OwnI w5 g v' (pickI mf (k + 1))) := by
          show OwnI _ _ _ _
          rw [PY2.out]
          exact hown'
        have B5 : Hid (Below g w w5) := (B3.out.alloc hs3 _).trans hb'
        clear hown' hb'
        go_wp2
        go_roundw
        case rel => exact ⟨k + 1, by omega, by go_num, O5, B5⟩
        case measure => simp [intOf]; omega
    · obtain rfl : k = tl := by omega
      go_wp2
      go_ret
      exact IsPost.own O.out BB.out

set_option maxHeartbeats 2000000 in
set_option maxRecDepth 100000 in
theorem active_any (n : NetV) (A : Option Addr) (m : List Int) (c : Nat) (w : World) (hr : NetR w n) (hm : ReadsV w A m) (hok : goodN n m = true) :
    Calls Try.prog 60 #[.agg #[.string n.nm, .slice n.PA n.ps.length n.pc, .slice n.TA n.ts.length n.tc], .slice A m.length c] w (IsPost w.heap.size w (firesV n m)) := by
  have B0 : Hid (Below w.heap.size w ((w.alloc (.cells #[.string n.nm, .slice n.PA n.ps.length n.pc, .slice n.TA n.ts.length n.tc] 25)).alloc (.cells #[.slice A m.length c] 26))) := (((Below.refl _ _).alloc (Nat.le_refl _) _).alloc (by simp) _)
  have C := Lib.hid (filter_any n A m c w.heap.size (w.heap.size + 1) ((w.alloc (.cells #[.string n.nm, .slice n.PA n.ps.length n.pc, .slice n.TA n.ts.length n.tc] 25)).alloc (.cells #[.slice A m.length c] 26)) (hr.below B0.out (Nat.le_refl _)) (hm.below B0.out (Nat.le_refl _)) hok (by simp [go_sem]) (by simp [go_sem]) (by simp [go_sem]) (by simp [go_sem]))
  clear hr hm hok
  go_enter Try.func60, Try.ntmps60
  go_wp2_with fail
  refine C.out.mono ?_
  rintro e w1 ⟨A2, c2, rfl, R2, K⟩
  have K1 := Lib.hid (B0.out.trans (K.mono (by simp; omega)))
  have R2 := Lib.hid R2
  clear K C
  go_wp2
  go_ret
  exact ⟨A2, c2, rfl, R2.out, K1.out⟩

set_option maxHeartbeats 2000000 in
set_option maxRecDepth 100000 in
theorem list_any (n : NetV) (A : Option Addr) (m : List Int) (c : Nat) (w : World) (hr : NetR w n) (hm : ReadsV w A m) (hl : m.length ≤ 9223372036854775807) :
    Calls Try.prog 43 #[.agg #[.string n.nm, .slice n.PA n.ps.length n.pc, .slice n.TA n.ts.length n.tc], .slice A m.length c] w (IsPost w.heap.size w (listL n m)) := by
  have CK : Hid (∀ W, Below w.heap.size w W → Calls Try.prog 59 #[.agg #[.string n.nm, .slice n.PA n.ps.length n.pc, .slice n.TA n.ts.length n.tc], .slice A m.length c] W (VPost W.heap.size W (.int .i64 (errN n m)))) := fun W hW => fcheck_any n A m c W (hr.below hW (Nat.le_refl _)) (hm.below hW (Nat.le_refl _)) hl
  have B0 : Hid (Below w.heap.size w (w.alloc (.cells #[.string n.nm, .slice n.PA n.ps.length n.pc, .slice n.TA n.ts.length n.tc] 25))) := ((Below.refl _ _).alloc (Nat.le_refl _) _)
  unfold listL
  by_cases h0 : errN n m = 0
  · have hg := errN_zero.1 h0
    rw [hg, if_pos rfl]
    rw [h0] at CK
    have CA : Hid (∀ W, Below w.heap.size w W → Calls Try.prog 60 #[.agg #[.string n.nm, .slice n.PA n.ps.length n.pc, .slice n.TA n.ts.length n.tc], .slice A m.length c] W (IsPost W.heap.size W (firesV n m))) := fun W hW => active_any n A m c W (hr.below hW (Nat.le_refl _)) (hm.below hW (Nat.le_refl _)) hg
    clear hr hm hg h0
    go_enter Try.func43, Try.ntmps43
    go_wp2_with fail
    refine (CK.out _ B0.out).mono ?_
    rintro e w1 ⟨rfl, K⟩
    have b0_0 : w1.cell? ⟨w.heap.size, 0, none⟩ = some (.string n.nm) := by rw [K.cell (by simp [go_sem] <;> omega)]; simp [go_sem]
    have b0_1 : w1.cell? ⟨w.heap.size, 1, none⟩ = some (.slice n.PA n.ps.length n.pc) := by rw [K.cell (by simp [go_sem] <;> omega)]; simp [go_sem]
    have b0_2 : w1.cell? ⟨w.heap.size, 2, none⟩ = some (.slice n.TA n.ts.length n.tc) := by rw [K.cell (by simp [go_sem] <;> omega)]; simp [go_sem]
    have Bw1 := Lib.hid (B0.out.trans (K.mono (by simp [go_sem] <;> omega)))
    have hs1 : w.heap.size + 1 ≤ w1.heap.size := by have := K.size; (try simp [go_sem] at this); omega
    clear K
    go_wp2_with fail
    refine (CA.out _ Bw1.out).mono ?_
    rintro e w2 ⟨A2, c2, rfl, R2, K⟩
    have R2 := Lib.hid R2
    have b0_0 : w2.cell? ⟨w.heap.size, 0, none⟩ = some (.string n.nm) := by rw [K.cell (by show w.heap.size < _; omega)]; exact b0_0
    have b0_1 : w2.cell? ⟨w.heap.size, 1, none⟩ = some (.slice n.PA n.ps.length n.pc) := by rw [K.cell (by show w.heap.size < _; omega)]; exact b0_1
    have b0_2 : w2.cell? ⟨w.heap.size, 2, none⟩ = some (.slice n.TA n.ts.length n.tc) := by rw [K.cell (by show w.heap.size < _; omega)]; exact b0_2
    have Bw2 := Lib.hid (Bw1.out.trans (K.mono Bw1.out.size))
    have hs2 : w.heap.size + 1 ≤ w2.heap.size := by have := K.size; (try simp [go_sem] at this); omega
    clear K
    go_wp2
    go_ret
    exact ⟨A2, c2, rfl, R2.out, Bw2.out⟩
  · have hg : goodN n m = false := by
      cases h : goodN n m
      · rfl
      · exact absurd (errN_zero.2 h) h0
    rw [hg, if_neg (by simp)]
    have z0 : (errN n m != 0) = true := by simpa using h0
    clear hr hm hg h0
    generalize errN n m = E at *
    go_enter Try.func43, Try.ntmps43
    go_wp2_with fail
    refine (CK.out _ B0.out).mono ?_
    rintro e w1 ⟨rfl, K⟩
    have b0_0 : w1.cell? ⟨w.heap.size, 0, none⟩ = some (.string n.nm) := by rw [K.cell (by simp [go_sem] <;> omega)]; simp [go_sem]
    have b0_1 : w1.cell? ⟨w.heap.size, 1, none⟩ = some (.slice n.PA n.ps.length n.pc) := by rw [K.cell (by simp [go_sem] <;> omega)]; simp [go_sem]
    have b0_2 : w1.cell? ⟨w.heap.size, 2, none⟩ = some (.slice n.TA n.ts.length n.tc) := by rw [K.cell (by simp [go_sem] <;> omega)]; simp [go_sem]
    have Bw1 := Lib.hid (B0.out.trans (K.mono (by simp [go_sem] <;> omega)))
    have hs1 : w.heap.size + 1 ≤ w1.heap.size := by have := K.size; (try simp [go_sem] at this); omega
    clear K
    go_wp2
    go_ret
    exact ⟨none, 0, rfl, ReadsV.nil _ _, Bw1.out⟩

end Go.Proofs.Ytpfkkjgklhcejaa
