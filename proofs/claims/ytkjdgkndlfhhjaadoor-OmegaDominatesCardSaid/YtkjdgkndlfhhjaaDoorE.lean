/- Copies, finite elements, covering and acceleration. -/
import Derived.Test.YtkjdgkndlfhhjaaDoorD
namespace Go.Proofs.YtkjdgkndlfhhjaaDoor
open Go.RowKit

theorem one_cells (x : Int) : ∀ u ∈ [Value.int .i64 x], u.oneCell' = true := by simp [Value.oneCell']

set_option maxHeartbeats 2000000 in
theorem copy_law (A : Option Addr) (a : List Int) (ca : Nat) (w : World) (ra : ReadsV w A a) (hl : a.length * 8 ≤ 140737488351232) :
    Calls Tryd.prog 25 #[.slice A a.length ca] w fun e w' => ∃ A2 c2, e = .returned (.slice A2 a.length c2) ∧ Hid (w'.ownsRow w.heap.size 3 1 (.slice A2 a.length c2) a.length ((tab a.length (at0 a)).map (Value.int .i64))) ∧ Hid (Below w.heap.size w w') := by
  obtain ⟨i0, hi, hz0, hz1, hz2⟩ := info_parts infoI
  have HI := Lib.hid hi
  have HZ0 := Lib.hid hz0
  have HZ1 := Lib.hid hz1
  have HZ2 := Lib.hid hz2
  clear hi hz0 hz1 hz2
  have RA := Lib.hid ra
  clear ra
  generalize hg : w.heap.size = g at *
  have HG := Lib.hid hg
  clear hg
  generalize hn : a.length = n at *
  have HN := Lib.hid hn
  clear hn
  go_enter Tryd.func25, Tryd.ntmps25
  go_wp2_with fail
  go_loopw [3, 4] (fun v q wr => ∃ k : Nat, k ≤ n ∧ q = .int .i64 k ∧ Hid (wr.ownsRow g 3 1 v k ((tab k (at0 a)).map (Value.int .i64))) ∧ Hid (Below g w wr)) (fun _ q _ => n - (intOf q).toNat)
  case atStart => exact ⟨0, by omega, rfl, World.ownsRow_nil _ _ _ _, Below.refl _ _⟩
  case round =>
    obtain ⟨k, hk, rfl, O, B1⟩ := hrel
    by_cases hlt : k < n
    · have hs := B1.out.size
      rw [HG.out] at hs
      obtain ⟨ba, oa, e1, hx⟩ := at_of_reads (RA.out.below B1.out (by rw [HG.out]; exact Nat.le_refl _)) k (by rw [HN.out]; exact hlt)
      subst e1
      have HZ := Lib.hid (tab_snoc k (at0 a))
      generalize at0 a k = x at *
      have b1 : k + 1 ≤ maxLen := by unfold maxLen; omega
      have b2 : (k + 1) * 8 ≤ 140737488355328 := by omega
      have b3 : g ≤ (wr.alloc (.cells #[.int .i64 x] 3)).heap.size := by rw [World.size_alloc]; omega
      have b4 : Hid (∀ q, u3.ownBlock = some q → g ≤ q) := fun q e => (O.out.lt q e).1
      have BA : Hid (Below g w (wr.alloc (.cells #[.int .i64 x] 3))) := B1.out.alloc hs _
      go_wp2_with (at_builtin; (refine wpList_append_own _ rfl (.tmp 11) (.tmp 16) 28 rfl g 3 i0 (.int .i64 0) 1 8 Tryd.underlying28 HI.out HZ0.out HZ1.out HZ2.out rfl (by decide) u3 k _ rfl (O.out.alloc _) ⟨wr.heap.size, 0, none⟩ 1 1 [.int .i64 x] rfl rfl (cell_one_new _ _ _) (one_cells _) b1 b2 b3 ?_); intro v' w5 hown' hgrow _)
      have O5 : Hid (w5.ownsRow g 3 1 v' (k + 1) ((tab (k + 1) (at0 a)).map (Value.int .i64))) := by
        show World.ownsRow _ _ _ _ _ _ _
        rw [HZ.out, List.map_append]
        exact hown'
      have B5 : Hid (Below g w w5) := BA.out.grown hgrow b3 b4.out
      clear hown' hgrow
      go_wp2
      go_roundw
      case rel => exact ⟨k + 1, by omega, by go_num, O5, B5⟩
      case measure => simp [intOf]; omega
    · obtain rfl : k = n := by omega
      obtain ⟨A2, c2, h1, h2⟩ := ReadsV.own O.out
      rw [tab_len] at h1
      subst h1
      go_wp2
      go_ret
      exact ⟨A2, c2, rfl, O, B1⟩

theorem covers_law (A B : Option Addr) (a b : List Int) (ca cb : Nat) (w : World) (ra : ReadsV w A a) (rb : ReadsV w B b) (hl : a.length * 8 ≤ 140737488351232) (hm : b.length * 8 ≤ 140737488351232) :
    Calls Tryd.prog 13 #[.slice A a.length ca, .slice B b.length cb] w (BPost w.heap.size w (covW a b)) := by
  have M1 := Lib.hid (mvalid_law B b cb w rb hm)
  have M2 := Lib.hid (leq_law B A b a cb ca w rb ra hm hl)
  unfold covW
  clear ra rb
  generalize leqW b a = P at *
  generalize a.length = n at *
  generalize b.length = m at *
  cases h : natW b
  · rw [h] at M1
    go_enter Tryd.func13, Tryd.ntmps13
    go_wp2_with fail
    refine M1.out.mono ?_
    rintro e w1 ⟨rfl, rfl⟩
    go_wp2_with fail
    go_ret
    exact ⟨rfl, Below.refl _ _⟩
  · rw [h] at M1
    go_enter Tryd.func13, Tryd.ntmps13
    go_wp2_with fail
    refine M1.out.mono ?_
    rintro e w1 ⟨rfl, rfl⟩
    go_wp2_with fail
    refine M2.out.mono ?_
    rintro e w1 ⟨rfl, K⟩
    go_wp2_with fail
    go_ret
    exact ⟨rfl, K⟩

end Go.Proofs.YtkjdgkndlfhhjaaDoor
