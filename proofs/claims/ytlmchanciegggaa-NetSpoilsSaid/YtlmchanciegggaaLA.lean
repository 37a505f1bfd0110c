/- What the laws on nets share. -/
import Derived.Test.YtlmchanciegggaaMF
import Derived.Deep.RegionHeld3
namespace Go.Proofs.Ytlmchanciegggaa
open Go.RowKit

theorem small_yes (n : NetV) (w : World) (hr : NetW w n) (hs : smallN n = true) :
    Calls Try.prog 11 #[.agg #[.string n.nm, .slice n.PA n.ps.length n.pc, .slice n.TA n.ts.length n.tc]] w fun e w' => e = .returned (.tuple #[.agg #[.string n.nm, .slice n.PA n.ps.length n.pc, .slice n.TA n.ts.length n.tc], .bool true]) ∧ Below w.heap.size w w' :=
  (small_any n w hr).mono fun e w' ⟨h, hb⟩ => ⟨by rw [h, if_pos hs], hb⟩
theorem small_no (n : NetV) (w : World) (hr : NetW w n) (hs : smallN n = false) :
    Calls Try.prog 11 #[.agg #[.string n.nm, .slice n.PA n.ps.length n.pc, .slice n.TA n.ts.length n.tc]] w fun e w' => e = .returned (.tuple #[.agg #[.string ⟨#[]⟩, .slice none 0 0, .slice none 0 0], .bool false]) ∧ Below w.heap.size w w' :=
  (small_any n w hr).mono fun e w' ⟨h, hb⟩ => ⟨by rw [h, if_neg (by rw [hs]; decide)], hb⟩
theorem inputs_len {n : NetV} (h : OkT n.ts) (t : Int) : (inputsN n t).length ≤ 1000 := by
  unfold inputsN
  split
  · unfold targetsV; rw [List.length_map]; exact (h.2 _).2.1
  · exact Nat.zero_le _
theorem outputs_len {n : NetV} (h : OkT n.ts) (t : Int) : (outputsN n t).length ≤ 1000 := by
  unfold outputsN
  split
  · unfold targetsV; rw [List.length_map]; exact (h.2 _).2.2.1
  · exact Nat.zero_le _
theorem producers_len {n : NetV} (h : OkT n.ts) (p : Int) : (producersN n p).length ≤ 1000 := by
  unfold producersN
  split
  · exact Nat.le_trans (pickI_len _ _) h.1
  · exact Nat.zero_le _
theorem consumers_len {n : NetV} (h : OkT n.ts) (p : Int) : (consumersN n p).length ≤ 1000 := by
  unfold consumersN
  split
  · exact Nat.le_trans (pickI_len _ _) h.1
  · exact Nat.zero_le _

set_option maxHeartbeats 1000000 in
theorem ints_any (A B : Option Addr) (a : List Int) (ca cb : Nat) (w : World) (ra : ReadsV w A a) (rb : ReadsV w B a) (hl : a.length ≤ 1000) :
    Calls Try.prog 18 #[.slice A a.length ca, .slice B a.length cb] w (VPost w.heap.size w (.bool true)) := by
  have RA := Lib.hid ra
  have RB := Lib.hid rb
  clear ra rb
  generalize hg : w.heap.size = g at *
  have HG := Lib.hid hg
  clear hg
  generalize hn : a.length = n at *
  have HN := Lib.hid hn
  clear hn
  go_enter Try.func18, Try.ntmps18
  go_wp2_with fail
  go_loopw [5] (fun q wr => ∃ k : Nat, k ≤ n ∧ q = .int .i64 k ∧ Hid (Below g w wr)) (fun q _ => n - (intOf q).toNat)
  case atStart => exact ⟨0, by omega, rfl, Below.refl _ _⟩
  case round =>
    obtain ⟨k, hk, rfl, B1⟩ := hrel
    by_cases hlt : k < n
    · obtain ⟨ba, oa, e1, hx⟩ := at_of_reads (RA.out.below B1.out (by rw [HG.out]; exact Nat.le_refl _)) k (by rw [HN.out]; exact hlt)
      subst e1
      obtain ⟨bb, ob, e2, hy⟩ := at_of_reads (RB.out.below B1.out (by rw [HG.out]; exact Nat.le_refl _)) k (by rw [HN.out]; exact hlt)
      subst e2
      generalize at0 a k = x at *
      go_wp2_with fail
      go_quiet (fail)
      go_wp2
      go_roundw
      case rel => exact ⟨k + 1, by omega, by go_num, below_drewN B1.out _⟩
      case measure => simp [intOf]; omega
    · go_wp2
      go_ret
      exact ⟨rfl, B1.out⟩
end Go.Proofs.Ytlmchanciegggaa
