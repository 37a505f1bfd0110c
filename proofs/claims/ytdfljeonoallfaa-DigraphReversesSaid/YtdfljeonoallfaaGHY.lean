/- heap.Push and heap.Pop on digraph's queue. -/
import Derived.Test.YtdfljeonoallfaaGHX
namespace Go.Proofs.Ytdfljeonoallfaa
open Go.RowKit Go.Deep

theorem SameH.congr {q q' q2 : Nat → Int} {m : Nat} (h : SameH q q' m) (e : ∀ k, k < m → q' k = q2 k) : SameH q q2 m :=
  ⟨fun x => by
    rw [← h.1 x]
    exact ⟨fun ⟨k, hk, hx⟩ => ⟨k, hk, by rw [e k hk]; exact hx⟩, fun ⟨k, hk, hx⟩ => ⟨k, hk, by rw [← e k hk]; exact hx⟩⟩,
   fun hi a b ha hb hab => h.2 hi a b ha hb (by rw [e a ha, e b hb]; exact hab)⟩
theorem SameH.trans {a b c : Nat → Int} {m : Nat} (h : SameH a b m) (k : SameH b c m) : SameH a c m := ⟨fun x => (k.1 x).trans (h.1 x), fun hi => k.2 (h.2 hi)⟩
theorem SameH.more {q q' : Nat → Int} {m : Nat} (h : SameH q q' m) (e : q' m = q m) : SameH q q' (m + 1) := by
  have M : ∀ (p : Nat → Int) (x : Int), (∃ k, k < m + 1 ∧ p k = x) ↔ (∃ k, k < m ∧ p k = x) ∨ p m = x := fun p x =>
    ⟨fun ⟨k, hk, hx⟩ => by
      by_cases c : k = m
      · right; rw [← c]; exact hx
      · left; exact ⟨k, by omega, hx⟩, fun h => by
      rcases h with ⟨k, hk, hx⟩ | hx
      · exact ⟨k, by omega, hx⟩
      · exact ⟨m, by omega, hx⟩⟩
  refine ⟨fun x => by rw [M, M, h.1 x, e], fun hi a b ha hb hab => ?_⟩
  have hi2 : ∀ a b, a < m → b < m → q a = q b → a = b := fun a b ha hb => hi a b (by omega) (by omega)
  have far : ∀ a, a < m → q' a ≠ q' m := fun a ha h2 => by
    obtain ⟨k, hk, hx⟩ := (h.1 (q' a)).1 ⟨a, ha, rfl⟩
    have := hi k m (by omega) (by omega) (by rw [hx, h2, e])
    omega
  by_cases ca : a = m
  · by_cases cb : b = m
    · rw [ca, cb]
    · exact absurd (by rw [← ca]; exact hab.symm) (far b (by omega))
  · by_cases cb : b = m
    · exact absurd (by rw [← cb]; exact hab) (far a (by omega))
    · exact h.2 hi2 a b (by omega) (by omega) hab
theorem own_shrink {w : World} {base g m c : Nat} {q : Nat → Int} (h : w.ownsRow base 3 1 (.slice (some ⟨g, 0, none⟩) (m + 1) c) (m + 1) ((tab (m + 1) q).map (Value.int .i64))) : w.ownsRow base 3 1 (.slice (some ⟨g, 0, none⟩) m c) m ((tab m q).map (Value.int .i64)) := by
  rcases h.2 with ⟨e, _⟩ | ⟨g', cap, cur, e, h1, h2, h3, h4, h5, h6⟩
  · cases e
  · injection e with e1 e2 e3
    injection e1 with e1
    injection e1 with e1
    subst e1 e3
    refine ⟨by simp [tab_len], Or.inr ⟨g, c, cur, rfl, h1, h2, by omega, h4, h5, ?_⟩⟩
    have h7 := congrArg (List.take m) h6
    rw [List.take_take, Nat.min_eq_left (by omega)] at h7
    rw [Nat.mul_one, h7]
    unfold tab
    rw [← List.map_take, ← List.map_take, List.take_range, Nat.min_eq_left (by omega)]
set_option maxHeartbeats 4000000 in
set_option maxRecDepth 100000 in
theorem hpush_any (Q base m : Nat) (hv : Value) (q : Nat → Int) (x : Int) (w : World) (H : HeapQ w Q base hv m q) (hOK : hOk q m) (hm : m < 100000) (hb : base ≤ w.heap.size) :
    Calls Try.prog 38 #[.iface 47 (.pointer (some ⟨Q, 0, none⟩)), .iface 3 (.int .i64 x)] w fun e w' => (∃ z, e = .returned z) ∧ ∃ g c q', HeapS w' Q base g (m + 1) c q' ∧ hOk q' (m + 1) ∧ SameH (fun k => if k = m then x else q k) q' (m + 1) ∧ KeepOn (fun k => k ≠ Q ∧ hv.ownBlock ≠ some k) w w' ∧ (hv.ownBlock = some g ∨ w.heap.size ≤ g) := by
  have M1 := meth_push ⟨Q, 0, none⟩ w
  have C1 := Lib.hid (qpush_any Q base m hv q x w H hm hb)
  have U1 := Lib.hid (hUp_push x hOK)
  clear H hOK
  go_enter Try.func38, Try.ntmps38
  go_wp2_with fail
  try simp only [M1, Result.andThen_ok]
  refine C1.out.mono ?_
  rintro e w1 ⟨⟨z, rfl⟩, g, c, H1, K1, N1⟩
  have M2 := meth_len Q _ w1 H1.cell
  have C2 := Lib.hid (hup_any Q base g (m + 1) c m _ w1 H1 U1.out (Nat.lt_succ_self m))
  have CL := Lib.hid (qlen_any (some ⟨g, 0, none⟩) (m + 1) c w1 (by omega))
  have H1 := Lib.hid H1
  have K1 := Lib.hid K1
  have N1 := Lib.hid N1
  clear M1 C1 U1
  go_wp2_with fail
  try simp only [M2, Result.andThen_ok]
  refine CL.out.mono ?_
  rintro e w2 ⟨rfl, rfl⟩
  clear M2 CL
  go_wp2_with fail
  refine C2.out.mono ?_
  rintro e w3 ⟨⟨z3, rfl⟩, q3, H3, O3, S3, K3⟩
  have H3 := Lib.hid H3
  have O3 := Lib.hid O3
  have S3 := Lib.hid S3
  have K4 : Hid (KeepOn (fun k => k ≠ Q ∧ hv.ownBlock ≠ some k) w w3) := ⟨K3.os.trans K1.out.os, K3.tape.trans K1.out.tape, K3.output.trans K1.out.output, Nat.le_trans K1.out.size K3.size, fun k hk hs => (K3.block k (Nat.lt_of_lt_of_le hk K1.out.size) (by
    rintro rfl
    rcases N1.out with h | h
    · exact hs.2 h
    · omega)).trans (K1.out.block k hk hs)⟩
  clear C2 H1 K1
  go_wp2_with fail
  go_end0
  exact ⟨⟨_, rfl⟩, g, c, q3, H3.out, O3.out, S3.out, K4.out, N1.out⟩
set_option maxHeartbeats 4000000 in
set_option maxRecDepth 100000 in
theorem hpop_any (Q base g m c : Nat) (q : Nat → Int) (w : World) (H : HeapS w Q base g (m + 1) c q) (hOK : hOk q (m + 1)) :
    Calls Try.prog 40 #[.iface 47 (.pointer (some ⟨Q, 0, none⟩))] w fun e w' => e = .returned (.iface 3 (.int .i64 (q 0))) ∧ ∃ q', HeapS w' Q base g m c q' ∧ hOk q' m ∧ SameH q (fun k => if k = m then q 0 else q' k) (m + 1) ∧ KeepOn (fun k => k ≠ Q ∧ k ≠ g) w w' := by
  have hm := H.hm
  have M1 := meth_len Q _ w H.cell
  have M2 := meth_swap Q _ w H.cell
  have CL := Lib.hid (qlen_any (some ⟨g, 0, none⟩) (m + 1) c w (by omega))
  have G1 := H.get (Nat.succ_pos m)
  have G2 := H.get (Nat.lt_succ_self m)
  have CS := Lib.hid (qswap_any g (m + 1) c 0 m (q 0) (q m) w (by omega) (by omega) (by omega) G1.1 G2.1 G1.2 G2.2)
  have H2 := Lib.hid (H.swap 0 m)
  have D2 := Lib.hid (hDn_pop hOK)
  have K2 : Hid (KeepOn (fun k => k ≠ Q ∧ k ≠ g) w ((w.setCell ⟨g, 0, none⟩ (.int .i64 (q m))).setCell ⟨g, m, none⟩ (.int .i64 (q 0))).drew) := ((KeepOn.set _ _ _ fun h => h.2 rfl).trans (KeepOn.set _ _ _ fun h => h.2 rfl)).trans (KeepOn.drew _)
  have S2 : Hid (SameH q (swpH q 0 m) (m + 1)) := (SameH.refl q (m + 1)).swap (Nat.succ_pos m) (Nat.lt_succ_self m)
  have E2 : Hid (swpH q 0 m m = q 0) := swpH_r q 0 m
  clear G1 G2 hOK H
  generalize swpH q 0 m = q2 at *
  generalize ((w.setCell ⟨g, 0, none⟩ (.int .i64 (q m))).setCell ⟨g, m, none⟩ (.int .i64 (q 0))).drew = w2 at *
  have C3 := Lib.hid (hdown_any Q base g (m + 1) c 0 m q2 w2 H2.out D2.out (Nat.succ_pos m) (Nat.le_succ m))
  clear D2 H2
  generalize q 0 = x at *
  generalize q m = y at *
  go_enter Try.func40, Try.ntmps40
  go_wp2_with fail
  try simp only [M1, Result.andThen_ok]
  refine CL.out.mono ?_
  rintro e w1 ⟨rfl, rfl⟩
  clear M1 CL
  go_wp2_with fail
  try simp only [M2, Result.andThen_ok]
  refine CS.out.mono ?_
  rintro e w3 ⟨⟨z, rfl⟩, rfl⟩
  clear M2 CS
  go_wp2_with fail
  refine C3.out.mono ?_
  rintro e w4 ⟨⟨z4, rfl⟩, q4, H4, O4, S4, F4, K4⟩
  have e4 : q4 m = x := (F4 m (Nat.le_refl _)).trans E2.out
  have hmc : m + 1 ≤ c := by
    rcases H4.own.2 with ⟨e, _⟩ | ⟨g', cap, cur, e, _, _, h, _⟩
    · cases e
    · injection e with _ _ e
      omega
  have M5 := meth_pop ⟨Q, 0, none⟩ w4
  have C5 := Lib.hid (qpop_any Q g m c (q4 m) w4 (by omega) hmc H4.cell H4.frz (H4.get (Nat.lt_succ_self m)).1)
  rw [e4] at C5
  have H5 : Hid (HeapS (w4.setCell ⟨Q, 0, none⟩ (.slice (some ⟨g, 0, none⟩) m c)) Q base g m c q4) := by
    refine ⟨?_, ?_, ?_, H4.lt, by omega⟩
    · simp [go_sem, H4.cell]
    · simp [go_sem, H4.frz]
    · have h := own_shrink H4.own
      exact own_block h fun g' e => by
        injection e with e
        rw [← e]
        exact blk_setCell_other _ _ _ _ (fun c => H4.lt c.symm)
  have S5 : Hid (SameH q (fun k => if k = m then x else q4 k) (m + 1)) := by
    show SameH _ _ _
    refine SameH.congr (q' := q4) ?_ fun k hk => by
      by_cases c : k = m
      · rw [if_pos c, c, e4]
      · rw [if_neg c]
    exact SameH.trans S2.out (SameH.more S4 (F4 m (Nat.le_refl _)))
  have O5 := Lib.hid O4
  have K5 : Hid (KeepOn (fun k => k ≠ Q ∧ k ≠ g) w1 (w4.setCell ⟨Q, 0, none⟩ (.slice (some ⟨g, 0, none⟩) m c))) := (K2.out.trans (K4.mono fun k _ h => h.2)).trans (KeepOn.set w4 ⟨Q, 0, none⟩ _ fun h => h.1 rfl)
  clear C3 S2 E2 K2 H4 O4 S4 F4 K4 e4 hmc
  go_wp2_with fail
  try simp only [M5, Result.andThen_ok]
  refine C5.out.mono ?_
  rintro e w5 ⟨rfl, rfl⟩
  clear M5 C5
  go_wp2_with fail
  go_ret
  exact ⟨rfl, q4, H5.out, O5.out, S5.out, K5.out⟩
end Go.Proofs.Ytdfljeonoallfaa
