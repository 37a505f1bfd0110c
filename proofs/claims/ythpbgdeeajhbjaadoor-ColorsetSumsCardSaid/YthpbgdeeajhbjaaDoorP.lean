/- Contracts of sums, differences and the order of multisets. -/
import Derived.Test.YthpbgdeeajhbjaaDoorSM
import Derived.OwnWalk
import Derived.Maps.AppendAt
import Derived.Deep.QuietTactic
import Derived.BigQuiet
import Derived.StillTailTactics
import Derived.LoopN
namespace Go.Proofs.YthpbgdeeajhbjaaDoor
open Go.RowKit

theorem infoI : (Tryd.prog.info? 3).map (fun i => (i.zero, i.size, i.bytes)) = some (some (.int .i64 0), 1, 8) := by kernel_rfl
def BPost (g : Nat) (w : World) (v : Bool) (e : Ending) (w' : World) : Prop := e = .returned (.bool v) ∧ Below g w w'
def IsPost (g : Nat) (w : World) (L : List Int) (e : Ending) (w' : World) : Prop := ∃ A c, e = .returned (.slice A L.length c) ∧ ReadsV w' A L ∧ Below g w w'

set_option maxHeartbeats 1000000 in
theorem multi_law (A : Option Addr) (zs : List Int) (cap : Nat) (w : World) (hr : ReadsV w A zs) (hl : zs.length * 8 ≤ 140737488351232) :
    Calls Tryd.prog 38 #[.slice A zs.length cap] w fun e w' => e = .returned (.bool (multiB zs)) ∧ w = w' := by
  generalize hS : multiB zs = S
  have HS := Lib.hid hS
  clear hS
  have HR := Lib.hid hr
  clear hr
  generalize hn : zs.length = n at *
  have HN := Lib.hid hn
  clear hn
  go_enter Tryd.func38, Tryd.ntmps38
  go_wp2
  go_loop [7] (fun q => ∃ k : Nat, k ≤ n ∧ q = .int .i64 k ∧ Hid (∀ j, j < k → 0 ≤ at0 zs j ∧ at0 zs j ≤ 1048576)) (fun q => n - (intOf q).toNat)
  case atStart => exact ⟨0, by omega, rfl, fun j hj => absurd hj (by omega)⟩
  case round =>
    obtain ⟨k, hk, rfl, HM⟩ := hrel
    by_cases hlt : k < n
    · obtain ⟨b, off, rfl, hcx⟩ := at_of_reads HR.out k (by rw [HN.out]; exact hlt)
      have HF : Hid (¬ (0 ≤ at0 zs k ∧ at0 zs k ≤ 1048576) → false = S) := by
        intro h
        rw [← HS.out, multi_no k (by rw [HN.out]; exact hlt) h]
      have HT : Hid (0 ≤ at0 zs k ∧ at0 zs k ≤ 1048576 → ∀ j, j < k + 1 → 0 ≤ at0 zs j ∧ at0 zs j ≤ 1048576) := fun h j hj => by
        by_cases e : j < k
        · exact HM.out j e
        · obtain rfl : j = k := by omega
          exact h
      clear HM
      generalize at0 zs k = z at *
      go_wp2
      all_goals first
        | (go_ret; exact ⟨ret_b (HF.out (by omega)), rfl⟩)
        | (have G := Lib.hid (HT.out (by omega))
           go_round
           case rel => exact ⟨k + 1, by omega, by go_num, G⟩
           case measure => simp [intOf]; omega)
    · have E : Hid (true = S) := by
        show _ = _
        rw [← HS.out]
        refine (multi_iff.2 fun j hj => HM.out j ?_).symm
        rw [HN.out] at hj
        omega
      go_wp2
      go_ret
      exact ⟨ret_b E.out, rfl⟩

/-- a copy in a row of its own -/
def OwnPost (g : Nat) (w : World) (L : List Int) (e : Ending) (w' : World) : Prop := ∃ v, e = .returned v ∧ w'.ownsRow g 3 1 v L.length (L.map (Value.int .i64)) ∧ Below g w w'
theorem clone_law (A : Option Addr) (a : List Int) (ca : Nat) (w : World) (ra : ReadsV w A a) (hl : a.length * 8 ≤ 140737488351232) :
    Calls Tryd.prog 50 #[.slice A a.length ca] w (OwnPost w.heap.size w a) := by
  have hq := fun (w : World) (n c : Nat) (a : Option Addr) => Lib.run_eql_slice_nil (P := Tryd.prog) w 34 3 a n c 0 0 Tryd.underlying34
  obtain ⟨i0, hi, hz0, hz1, hz2⟩ := info_parts infoI
  have HI := Lib.hid hi
  have HZ0 := Lib.hid hz0
  have HZ1 := Lib.hid hz1
  have HZ2 := Lib.hid hz2
  clear hi hz0 hz1 hz2
  cases A with
  | none =>
    obtain rfl : a = [] := by
      cases a with
      | nil => rfl
      | cons x r => obtain ⟨_, _, h, _⟩ := ra 0 (by simp); cases h
    go_enter Tryd.func50, Tryd.ntmps50
    go_wp2
    go_ret
    exact ⟨_, rfl, World.ownsRow_nil _ _ _ _, Below.refl _ _⟩
  | some p =>
    have HC : Hid (∀ j u, (a.map (Value.int .i64))[j]? = some u → (w.alloc (.cells #[] 3)).cell? (p.add j) = some u) := by
      intro j u hu
      have hj : j < a.length := by
        rcases Nat.lt_or_ge j a.length with h | h
        · exact h
        · rw [List.getElem?_eq_none (by simpa using h)] at hu; cases hu
      obtain ⟨b, off, h1, _, h2⟩ := (ra.alloc (.cells #[] 3)) j hj
      cases h1
      rw [Go.WideShapes.add_plain]
      rw [h2]
      rw [List.getElem?_map, List.getElem?_eq_getElem hj] at hu
      rw [← Option.some.inj hu]
      unfold at0
      rw [List.getElem?_eq_getElem hj]
      rfl
    have HO : Hid ((w.alloc (.cells #[] 3)).ownsRow w.heap.size 3 1 (.slice (some ⟨w.heap.size, 0, none⟩) 0 0) 0 []) := World.ownsRow_lit w #[] 0 (Nat.le_refl _) (by unfold maxLen; omega) rfl
    have H1 : Hid (∀ u ∈ a.map (Value.int .i64), u.oneCell' = true) := by
      intro u hu
      obtain ⟨x, _, rfl⟩ := List.mem_map.1 hu
      rfl
    have hL : (a.map (Value.int .i64)).length = a.length * 1 := by simp
    have HL := Lib.hid hL
    clear hL ra
    generalize hLL : a.map (Value.int .i64) = L at *
    have HLL := Lib.hid hLL
    clear hLL
    generalize hn : a.length = n at *
    have HN := Lib.hid hn
    clear hn
    have B0 : Hid (Below w.heap.size w (w.alloc (.cells #[] 3))) := (Below.refl _ _).alloc (Nat.le_refl _) _
    go_enter Tryd.func50, Tryd.ntmps50
    go_wp2_with (at_builtin; (refine wpList_append_own _ rfl (.tmp 5) (.tmp 6) 34 rfl w.heap.size 3 i0 (.int .i64 0) 1 8 Tryd.underlying34 HI.out HZ0.out HZ1.out HZ2.out rfl (by decide) (.slice (some ⟨w.heap.size, 0, none⟩) 0 0) 0 _ rfl HO.out p n ca L rfl HL.out HC.out H1.out (by unfold maxLen; omega) (by omega) (by rw [World.size_alloc]; omega) ?_); intro v' w5 hown' hgrow _)
    have B5 : Hid (Below w.heap.size w w5) := B0.out.grown hgrow (by rw [World.size_alloc]; omega) (fun q hq => by simp [Value.ownBlock] at hq; omega)
    have O5 : Hid (w5.ownsRow w.heap.size 3 1 v' n (a.map (Value.int .i64))) := by
      show World.ownsRow _ _ _ _ _ _ _
      rw [HLL.out]
      simpa using hown'
    clear hown' hgrow
    go_wp2
    go_ret
    exact ⟨_, rfl, by rw [HN.out]; exact O5.out, B5.out⟩

set_option maxHeartbeats 1000000 in
theorem same_law (A B : Option Addr) (a : List Int) (ca cb : Nat) (w : World) (ra : ReadsV w A a) (rb : ReadsV w B a) (hl : a.length * 8 ≤ 140737488351232) :
    Calls Tryd.prog 20 #[.slice A a.length ca, .slice B a.length cb] w (BPost w.heap.size w true) := by
  have RA := Lib.hid ra
  have RB := Lib.hid rb
  clear ra rb
  generalize hg : w.heap.size = g at *
  have HG := Lib.hid hg
  clear hg
  generalize hn : a.length = n at *
  have HN := Lib.hid hn
  clear hn
  go_enter Tryd.func20, Tryd.ntmps20
  go_wp2_with fail
  go_loopw [5] (fun q wr => ∃ k : Nat, k ≤ n ∧ q = .int .i64 k ∧ Hid (Below g w wr)) (fun q _ => n - (intOf q).toNat)
  case atStart => exact ⟨0, by omega, rfl, Below.refl _ _⟩
  case round =>
    obtain ⟨k, hk, rfl, B1⟩ := hrel
    by_cases hlt : k < n
    · obtain ⟨ba, oa, e1, hx⟩ := at_of_reads (RA.out.below B1.out (by rw [HG.out]; exact Nat.le_refl _)) k (by rw [HN.out]; exact hlt)
      subst e1
      obtain ⟨bb, ob, e2, hy⟩ := at_of_reads (RB.out.below B1.out (by rw [HG.out]; exact Nat.le_refl _)) k (by rw [HN.out]; exact hlt)
      subst e2
      generalize at0 a k = x at *
      go_wp2_with fail
      go_quiet (fail)
      go_wp2
      go_roundw
      case rel => exact ⟨k + 1, by omega, by go_num, below_drewN B1.out _⟩
      case measure => simp [intOf]; omega
    · go_wp2
      go_ret
      exact ⟨rfl, B1.out⟩

set_option maxHeartbeats 2000000 in
theorem leq_law (A B : Option Addr) (a b : List Int) (ca cb : Nat) (w : World) (ra : ReadsV w A a) (rb : ReadsV w B b) (hl : a.length * 8 ≤ 140737488351232) (hm : b.length * 8 ≤ 140737488351232) :
    Calls Tryd.prog 23 #[.slice A a.length ca, .slice B b.length cb] w (BPost w.heap.size w (leqM a b)) := by
  have M1 := Lib.hid (multi_law A a ca w ra hl)
  have M2 := Lib.hid (multi_law B b cb w rb hm)
  by_cases hlen : a.length = b.length
  rotate_left
  · rw [leqM_no fun h => hlen h.1]
    clear ra rb M1 M2
    generalize a.length = n at *
    generalize b.length = m at *
    have h1 : (n != m) = true := by simpa using hlen
    have h2 : ((n : Int) != (m : Int)) = true := by simp; omega
    go_enter Tryd.func23, Tryd.ntmps23
    go_wp2_with fail
    go_ret
    exact ⟨rfl, Below.refl _ _⟩
  rw [← hlen] at M2 ⊢
  cases h1 : multiB a
  · rw [leqM_no fun h => by rw [h1] at h; exact absurd h.2.1 (by decide)]
    rw [h1] at M1
    clear ra rb h1 hlen hm
    generalize a.length = n at *
    go_enter Tryd.func23, Tryd.ntmps23
    go_wp2_with fail
    refine M1.out.mono ?_
    rintro e w1 ⟨rfl, rfl⟩
    go_wp2_with fail
    go_ret
    exact ⟨rfl, Below.refl _ _⟩
  cases h2 : multiB b
  · rw [leqM_no fun h => by rw [h2] at h; exact absurd h.2.2 (by decide)]
    rw [h1] at M1
    rw [h2] at M2
    clear ra rb h1 h2 hlen hm
    generalize a.length = n at *
    go_enter Tryd.func23, Tryd.ntmps23
    go_wp2_with fail
    refine M1.out.mono ?_
    rintro e w1 ⟨rfl, rfl⟩
    go_wp2_with fail
    refine M2.out.mono ?_
    rintro e w1 ⟨rfl, rfl⟩
    go_wp2_with fail
    go_ret
    exact ⟨rfl, Below.refl _ _⟩
  · rw [h1] at M1
    rw [h2] at M2
    have H1 := Lib.hid h1
    have H2 := Lib.hid h2
    clear h1 h2
    generalize hP : leqM a b = P
    have HP := Lib.hid hP
    clear hP
    have RA := Lib.hid ra
    have RB := Lib.hid rb
    clear ra rb
    generalize hg : w.heap.size = g at *
    have HG := Lib.hid hg
    clear hg
    have HL := Lib.hid hlen
    clear hlen hm
    generalize hn : a.length = n at *
    have HN := Lib.hid hn
    clear hn
    go_enter Tryd.func23, Tryd.ntmps23
    go_wp2_with fail
    refine M1.out.mono ?_
    rintro e w1 ⟨rfl, rfl⟩
    go_wp2_with fail
    refine M2.out.mono ?_
    rintro e w1 ⟨rfl, rfl⟩
    go_wp2_with fail
    go_loopw [23] (fun q wr => ∃ k : Nat, k ≤ n ∧ q = .int .i64 k ∧ Hid (Below g w wr) ∧ Hid (∀ j, j < k → at0 a j ≤ at0 b j)) (fun q _ => n - (intOf q).toNat)
    case atStart => exact ⟨0, by omega, rfl, Below.refl _ _, fun j hj => absurd hj (by omega)⟩
    case round =>
      obtain ⟨k, hk, rfl, B1, HT⟩ := hrel
      by_cases hlt : k < n
      · obtain ⟨ba, oa, e1, hx⟩ := at_of_reads (RA.out.below B1.out (by rw [HG.out]; exact Nat.le_refl _)) k (by rw [HN.out]; exact hlt)
        subst e1
        obtain ⟨bb, ob, e2, hy⟩ := at_of_reads (RB.out.below B1.out (by rw [HG.out]; exact Nat.le_refl _)) k (by rw [← HL.out]; exact hlt)
        subst e2
        have HX : Hid (at0 b k < at0 a k → P = false) := fun h => HP.out.symm.trans (leqM_at k (by rw [HN.out]; exact hlt) h)
        have HY : Hid (at0 a k ≤ at0 b k → ∀ j, j < k + 1 → at0 a j ≤ at0 b j) := fun h j hj => by
          by_cases e : j < k
          · exact HT.out j e
          · obtain rfl : j = k := by omega
            exact h
        generalize at0 a k = x at *
        generalize at0 b k = y at *
        by_cases hxy : y < x
        · have E := Lib.hid (HX.out hxy)
          go_wp2_with fail
          go_quiet (fail)
          go_wp2
          go_ret
          exact ⟨by rw [E.out]; rfl, below_drewN B1.out _⟩
        · have hxy' : x ≤ y := by omega
          have HE := Lib.hid (HY.out hxy')
          clear hxy
          go_wp2_with fail
          go_quiet (fail)
          go_wp2
          go_roundw
          case rel => exact ⟨k + 1, by omega, by go_num, below_drewN B1.out _, HE⟩
          case measure => simp [intOf]; omega
      · have E : Hid (P = true) := by
          refine HP.out.symm.trans (leqM_yes (by rw [HN.out]; exact HL.out) H1.out H2.out fun j hj => HT.out j ?_)
          rw [HN.out] at hj
          omega
        go_wp2
        go_ret
        exact ⟨by rw [E.out]; rfl, B1.out⟩
end Go.Proofs.YthpbgdeeajhbjaaDoor
