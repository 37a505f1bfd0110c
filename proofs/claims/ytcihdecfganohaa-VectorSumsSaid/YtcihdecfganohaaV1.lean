/- The loop that computes a vector element by element, for each function that it is given. -/
import Derived.Test.YtcihdecfganohaaWalkC
import Derived.Test.YtcihdecfganohaaVMath
import Derived.WalkKit
import Derived.OwnWalk
import Derived.Maps.AppendAt
import Derived.Deep.RegionHeld3
import Derived.Outline
namespace Go.Proofs.Ytcihdecfganohaa
open Go.RowKit

theorem info64 : (Try.prog.info? 2).map (fun i => (i.zero, i.size, i.bytes)) = some (some (.int .i64 0), 1, 8) := by kernel_rfl
theorem info_parts {i0 : Option TypeInfo} {z : Option Value} {s b : Nat} (h : i0.map (fun i => (i.zero, i.size, i.bytes)) = some (z, s, b)) : ∃ i, i0 = some i ∧ i.zero = z ∧ i.size = s ∧ i.bytes = b := by
  cases i0 with
  | none => simp at h
  | some i => simp at h; exact ⟨i, rfl, h.1, h.2.1, h.2.2⟩
theorem own_below {w w' : World} {base : Nat} {e : TypeId} {size : Nat} {v : Value} {n : Nat} {xs : List Value} {B : Nat} (h : w.ownsRow base e size v n xs) (hb : Below B w w') (hB : w.heap.size ≤ B) : w'.ownsRow base e size v n xs := by
  refine ⟨h.1, ?_⟩
  rcases h.2 with h0 | ⟨g, cap, cur, h1, h2, h3, h4⟩
  · exact .inl h0
  · refine .inr ⟨g, cap, cur, h1, h2, ?_, h4⟩
    have hg : g < w.heap.size := (h.lt g (by rw [h1]; rfl)).2
    rw [hb.block g (by omega)]
    exact h3
theorem own_put {w : World} {base : Nat} {e : TypeId} {g n cap : Nat} {L : List Int} (h : w.ownsRow base e 1 (.slice (some ⟨g, 0, none⟩) n cap) n (L.map (Value.int .i64))) (i : Nat) (x : Int) :
    (w.setCell ⟨g, i, none⟩ (.int .i64 x)).ownsRow base e 1 (.slice (some ⟨g, 0, none⟩) n cap) n ((L.set i x).map (Value.int .i64)) := by
  rw [List.map_set]
  exact (h.stored i (.int .i64 x)).1
theorem own_cell {w : World} {base : Nat} {e : TypeId} {g n cap : Nat} {L : List Int} (h : w.ownsRow base e 1 (.slice (some ⟨g, 0, none⟩) n cap) n (L.map (Value.int .i64))) (i : Nat) (hi : i < L.length) :
    w.cell? ⟨g, i, none⟩ = some (.int .i64 (at0 L i)) := by
  have hl : L.length = n := by have := h.1; simpa using this
  rw [h.cellAt i (by omega)]
  simp [hi, at0]

/-- a vector in new memory and an error -/
def VecPost (g : Nat) (w : World) (P : List Int × Int) (e : Ending) (w' : World) : Prop :=
  ∃ A c, e = .returned (.tuple #[.slice A P.1.length c, .int .i64 P.2]) ∧ ReadsV w' A P.1 ∧ Below g w w'

set_option maxHeartbeats 2000000 in
set_option maxRecDepth 100000 in
theorem transform_pw (A : Option Addr) (n cap : Nat) (p1 p2 p3 : Value) (w : World) (hn : n ≤ 100) (el : Nat → Int × Bool)
    (hc : ∀ k W, k < n → Below w.heap.size w W → Calls Try.prog 50 #[.int .i64 k, p1, p2, p3] W fun e w' => e = .returned (.tuple #[.int .i64 (el k).1, .bool (el k).2]) ∧ Below W.heap.size W w') :
    Calls Try.prog 41 #[.slice A n cap, .func (.func 50) #[] #[p1, p2, p3]] w (VecPost w.heap.size w (trF n el)) := by
  generalize hP : trF n el = P
  have HP := Lib.hid hP
  clear hP
  generalize hg : w.heap.size = g at *
  have HG := Lib.hid hg
  clear hg
  have HC := Lib.hid hc
  clear hc
  obtain ⟨i0, hi, hz0, hz1, hz2⟩ := info_parts info64
  have HI := Lib.hid hi
  have HZ0 := Lib.hid hz0
  have HZ1 := Lib.hid hz1
  have HZ2 := Lib.hid hz2
  clear hi hz0 hz1 hz2
  go_enter Try.func41, Try.ntmps41
  go_wp2_with (at_make; refine wpList_make_full _ rfl _ _ 22 rfl w.heap.size 2 i0 (.int .i64 0) 1 Try.underlying22 HI.out HZ0.out HZ1.out .i64 .i64 _ _ n rfl rfl rfl rfl (by rw [HZ2.out]; omega) (by unfold maxLen; omega) (Nat.le_refl _) ?_; intro w1 hown1 hgrow1)
  have O1 : Hid (w1.ownsRow w.heap.size 2 1 (.slice (some ⟨w.heap.size, 0, none⟩) n n) n ((partL n el 0).map (Value.int .i64))) := by
    show World.ownsRow _ _ _ _ _ _ _
    rw [partL_zero]
    have h : w1.ownsRow w.heap.size 2 1 (.slice (some ⟨w.heap.size, 0, none⟩) n n) n (madeCells #[.int .i64 0] (n * 1)).toList := hown1
    rw [toList_madeCells_one, Nat.mul_one] at h
    rw [List.map_replicate]
    exact h
  have B1 : Hid (Below g w w1) := (Below.refl _ _).grown hgrow1 (by rw [HG.out]; exact Nat.le_refl _) (fun _ h => by cases h)
  clear hown1 hgrow1
  go_wp2_with fail
  go_loopw [15] (fun q wr => ∃ k : Nat, k ≤ n ∧ q = .int .i64 k ∧ Hid (wr.ownsRow w.heap.size 2 1 (.slice (some ⟨w.heap.size, 0, none⟩) n n) n ((partL n el k).map (Value.int .i64))) ∧ Hid (Below g w wr) ∧ Hid (∀ j, j < k → (el j).2 = true)) (fun q _ => n - (intOf q).toNat)
  case atStart => exact ⟨0, by omega, rfl, O1, B1, fun j hj => absurd hj (by omega)⟩
  case round =>
    obtain ⟨k, hk, rfl, O, B, HT⟩ := hrel
    by_cases hlt : k < n
    · have C := HC.out k wr hlt B.out
      have HX : Hid ((el k).2 = false → P = ([], 3)) := fun h => HP.out.symm.trans (trF_no k hlt h)
      have HY : Hid ((el k).2 = true → ∀ j, j < k + 1 → (el j).2 = true) := fun h j hj => by
        by_cases e : j < k
        · exact HT.out j e
        · obtain rfl : j = k := by omega
          exact h
      have HZ : Hid ((partL n el k).set k (el k).1 = partL n el (k + 1)) := partL_set n el k
      clear HT
      generalize (el k).1 = x at *
      generalize (el k).2 = b at *
      have C := Lib.hid C
      have hs := B.out.size
      rw [HG.out] at hs
      cases b
      · have E := Lib.hid (HX.out rfl)
        go_wp2_with fail
        refine C.out.mono ?_
        rintro e w2 ⟨rfl, K⟩
        go_wp2
        go_ret2
        exact ⟨none, 0, by rw [E.out]; rfl, by rw [E.out]; exact ReadsV.nil _ _, B.out.trans (K.mono hs)⟩
      · have HE := Lib.hid (HY.out rfl)
        go_wp2_with fail
        refine C.out.mono ?_
        rintro e w2 ⟨rfl, K⟩
        have O2 := Lib.hid (own_below O.out K (Nat.le_refl _))
        have B2 : Hid (Below g w w2) := B.out.trans (K.mono hs)
        have f2 := O2.out.frozenAt k
        have c2 := own_cell O2.out k (by rw [partL_len]; exact hlt)
        generalize at0 (partL n el k) k = y at c2
        clear K O B C
        go_wp2
        go_roundw
        case rel => exact ⟨k + 1, by omega, by go_num, by show World.ownsRow _ _ _ _ _ _ _; rw [← HZ.out]; exact own_put O2.out k x, B2.out.setCell (by rw [← HG.out]; exact Nat.le_refl _) _, HE⟩
        case measure => simp [intOf]; omega
    · obtain rfl : k = n := by omega
      have E : Hid (P = ((List.range k).map (fun j => (el j).1), 0)) := HP.out.symm.trans (trF_yes HT.out)
      go_wp2
      go_ret2
      have h := O.out
      rw [partL_all] at h
      obtain ⟨A2, c2, h1, h2⟩ := ReadsV.own h
      injection h1 with e1 _ e3
      subst e1 e3
      have e0 : ((List.range k).map fun j => (el j).1).length = k := by simp
      refine ⟨some ⟨w.heap.size, 0, none⟩, k, ?_, by rw [E.out]; exact h2, B.out⟩
      rw [E.out]
      show _ = Ending.returned (.tuple #[.slice _ ((List.range k).map fun j => (el j).1).length _, .int .i64 0])
      rw [e0]
      rfl

set_option maxHeartbeats 2000000 in
set_option maxRecDepth 100000 in
theorem transform_sc (A : Option Addr) (n cap : Nat) (p1 p2 : Value) (w : World) (hn : n ≤ 100) (el : Nat → Int × Bool)
    (hc : ∀ k W, k < n → Below w.heap.size w W → Calls Try.prog 42 #[.int .i64 k, p1, p2] W fun e w' => e = .returned (.tuple #[.int .i64 (el k).1, .bool (el k).2]) ∧ Below W.heap.size W w') :
    Calls Try.prog 41 #[.slice A n cap, .func (.func 42) #[] #[p1, p2]] w (VecPost w.heap.size w (trF n el)) := by
  generalize hP : trF n el = P
  have HP := Lib.hid hP
  clear hP
  generalize hg : w.heap.size = g at *
  have HG := Lib.hid hg
  clear hg
  have HC := Lib.hid hc
  clear hc
  obtain ⟨i0, hi, hz0, hz1, hz2⟩ := info_parts info64
  have HI := Lib.hid hi
  have HZ0 := Lib.hid hz0
  have HZ1 := Lib.hid hz1
  have HZ2 := Lib.hid hz2
  clear hi hz0 hz1 hz2
  go_enter Try.func41, Try.ntmps41
  go_wp2_with (at_make; refine wpList_make_full _ rfl _ _ 22 rfl w.heap.size 2 i0 (.int .i64 0) 1 Try.underlying22 HI.out HZ0.out HZ1.out .i64 .i64 _ _ n rfl rfl rfl rfl (by rw [HZ2.out]; omega) (by unfold maxLen; omega) (Nat.le_refl _) ?_; intro w1 hown1 hgrow1)
  have O1 : Hid (w1.ownsRow w.heap.size 2 1 (.slice (some ⟨w.heap.size, 0, none⟩) n n) n ((partL n el 0).map (Value.int .i64))) := by
    show World.ownsRow _ _ _ _ _ _ _
    rw [partL_zero]
    have h : w1.ownsRow w.heap.size 2 1 (.slice (some ⟨w.heap.size, 0, none⟩) n n) n (madeCells #[.int .i64 0] (n * 1)).toList := hown1
    rw [toList_madeCells_one, Nat.mul_one] at h
    rw [List.map_replicate]
    exact h
  have B1 : Hid (Below g w w1) := (Below.refl _ _).grown hgrow1 (by rw [HG.out]; exact Nat.le_refl _) (fun _ h => by cases h)
  clear hown1 hgrow1
  go_wp2_with fail
  go_loopw [15] (fun q wr => ∃ k : Nat, k ≤ n ∧ q = .int .i64 k ∧ Hid (wr.ownsRow w.heap.size 2 1 (.slice (some ⟨w.heap.size, 0, none⟩) n n) n ((partL n el k).map (Value.int .i64))) ∧ Hid (Below g w wr) ∧ Hid (∀ j, j < k → (el j).2 = true)) (fun q _ => n - (intOf q).toNat)
  case atStart => exact ⟨0, by omega, rfl, O1, B1, fun j hj => absurd hj (by omega)⟩
  case round =>
    obtain ⟨k, hk, rfl, O, B, HT⟩ := hrel
    by_cases hlt : k < n
    · have C := HC.out k wr hlt B.out
      have HX : Hid ((el k).2 = false → P = ([], 3)) := fun h => HP.out.symm.trans (trF_no k hlt h)
      have HY : Hid ((el k).2 = true → ∀ j, j < k + 1 → (el j).2 = true) := fun h j hj => by
        by_cases e : j < k
        · exact HT.out j e
        · obtain rfl : j = k := by omega
          exact h
      have HZ : Hid ((partL n el k).set k (el k).1 = partL n el (k + 1)) := partL_set n el k
      clear HT
      generalize (el k).1 = x at *
      generalize (el k).2 = b at *
      have C := Lib.hid C
      have hs := B.out.size
      rw [HG.out] at hs
      cases b
      · have E := Lib.hid (HX.out rfl)
        go_wp2_with fail
        refine C.out.mono ?_
        rintro e w2 ⟨rfl, K⟩
        go_wp2
        go_ret2
        exact ⟨none, 0, by rw [E.out]; rfl, by rw [E.out]; exact ReadsV.nil _ _, B.out.trans (K.mono hs)⟩
      · have HE := Lib.hid (HY.out rfl)
        go_wp2_with fail
        refine C.out.mono ?_
        rintro e w2 ⟨rfl, K⟩
        have O2 := Lib.hid (own_below O.out K (Nat.le_refl _))
        have B2 : Hid (Below g w w2) := B.out.trans (K.mono hs)
        have f2 := O2.out.frozenAt k
        have c2 := own_cell O2.out k (by rw [partL_len]; exact hlt)
        generalize at0 (partL n el k) k = y at c2
        clear K O B C
        go_wp2
        go_roundw
        case rel => exact ⟨k + 1, by omega, by go_num, by show World.ownsRow _ _ _ _ _ _ _; rw [← HZ.out]; exact own_put O2.out k x, B2.out.setCell (by rw [← HG.out]; exact Nat.le_refl _) _, HE⟩
        case measure => simp [intOf]; omega
    · obtain rfl : k = n := by omega
      have E : Hid (P = ((List.range k).map (fun j => (el j).1), 0)) := HP.out.symm.trans (trF_yes HT.out)
      go_wp2
      go_ret2
      have h := O.out
      rw [partL_all] at h
      obtain ⟨A2, c2, h1, h2⟩ := ReadsV.own h
      injection h1 with e1 _ e3
      subst e1 e3
      have e0 : ((List.range k).map fun j => (el j).1).length = k := by simp
      refine ⟨some ⟨w.heap.size, 0, none⟩, k, ?_, by rw [E.out]; exact h2, B.out⟩
      rw [E.out]
      show _ = Ending.returned (.tuple #[.slice _ ((List.range k).map fun j => (el j).1).length _, .int .i64 0])
      rw [e0]
      rfl

set_option maxHeartbeats 2000000 in
set_option maxRecDepth 100000 in
theorem transform_pr (A : Option Addr) (n cap : Nat) (p1 p2 : Value) (w : World) (hn : n ≤ 100) (el : Nat → Int × Bool)
    (hc : ∀ k W, k < n → Below w.heap.size w W → Calls Try.prog 48 #[.int .i64 k, p1, p2] W fun e w' => e = .returned (.tuple #[.int .i64 (el k).1, .bool (el k).2]) ∧ Below W.heap.size W w') :
    Calls Try.prog 41 #[.slice A n cap, .func (.func 48) #[] #[p1, p2]] w (VecPost w.heap.size w (trF n el)) := by
  generalize hP : trF n el = P
  have HP := Lib.hid hP
  clear hP
  generalize hg : w.heap.size = g at *
  have HG := Lib.hid hg
  clear hg
  have HC := Lib.hid hc
  clear hc
  obtain ⟨i0, hi, hz0, hz1, hz2⟩ := info_parts info64
  have HI := Lib.hid hi
  have HZ0 := Lib.hid hz0
  have HZ1 := Lib.hid hz1
  have HZ2 := Lib.hid hz2
  clear hi hz0 hz1 hz2
  go_enter Try.func41, Try.ntmps41
  go_wp2_with (at_make; refine wpList_make_full _ rfl _ _ 22 rfl w.heap.size 2 i0 (.int .i64 0) 1 Try.underlying22 HI.out HZ0.out HZ1.out .i64 .i64 _ _ n rfl rfl rfl rfl (by rw [HZ2.out]; omega) (by unfold maxLen; omega) (Nat.le_refl _) ?_; intro w1 hown1 hgrow1)
  have O1 : Hid (w1.ownsRow w.heap.size 2 1 (.slice (some ⟨w.heap.size, 0, none⟩) n n) n ((partL n el 0).map (Value.int .i64))) := by
    show World.ownsRow _ _ _ _ _ _ _
    rw [partL_zero]
    have h : w1.ownsRow w.heap.size 2 1 (.slice (some ⟨w.heap.size, 0, none⟩) n n) n (madeCells #[.int .i64 0] (n * 1)).toList := hown1
    rw [toList_madeCells_one, Nat.mul_one] at h
    rw [List.map_replicate]
    exact h
  have B1 : Hid (Below g w w1) := (Below.refl _ _).grown hgrow1 (by rw [HG.out]; exact Nat.le_refl _) (fun _ h => by cases h)
  clear hown1 hgrow1
  go_wp2_with fail
  go_loopw [15] (fun q wr => ∃ k : Nat, k ≤ n ∧ q = .int .i64 k ∧ Hid (wr.ownsRow w.heap.size 2 1 (.slice (some ⟨w.heap.size, 0, none⟩) n n) n ((partL n el k).map (Value.int .i64))) ∧ Hid (Below g w wr) ∧ Hid (∀ j, j < k → (el j).2 = true)) (fun q _ => n - (intOf q).toNat)
  case atStart => exact ⟨0, by omega, rfl, O1, B1, fun j hj => absurd hj (by omega)⟩
  case round =>
    obtain ⟨k, hk, rfl, O, B, HT⟩ := hrel
    by_cases hlt : k < n
    · have C := HC.out k wr hlt B.out
      have HX : Hid ((el k).2 = false → P = ([], 3)) := fun h => HP.out.symm.trans (trF_no k hlt h)
      have HY : Hid ((el k).2 = true → ∀ j, j < k + 1 → (el j).2 = true) := fun h j hj => by
        by_cases e : j < k
        · exact HT.out j e
        · obtain rfl : j = k := by omega
          exact h
      have HZ : Hid ((partL n el k).set k (el k).1 = partL n el (k + 1)) := partL_set n el k
      clear HT
      generalize (el k).1 = x at *
      generalize (el k).2 = b at *
      have C := Lib.hid C
      have hs := B.out.size
      rw [HG.out] at hs
      cases b
      · have E := Lib.hid (HX.out rfl)
        go_wp2_with fail
        refine C.out.mono ?_
        rintro e w2 ⟨rfl, K⟩
        go_wp2
        go_ret2
        exact ⟨none, 0, by rw [E.out]; rfl, by rw [E.out]; exact ReadsV.nil _ _, B.out.trans (K.mono hs)⟩
      · have HE := Lib.hid (HY.out rfl)
        go_wp2_with fail
        refine C.out.mono ?_
        rintro e w2 ⟨rfl, K⟩
        have O2 := Lib.hid (own_below O.out K (Nat.le_refl _))
        have B2 : Hid (Below g w w2) := B.out.trans (K.mono hs)
        have f2 := O2.out.frozenAt k
        have c2 := own_cell O2.out k (by rw [partL_len]; exact hlt)
        generalize at0 (partL n el k) k = y at c2
        clear K O B C
        go_wp2
        go_roundw
        case rel => exact ⟨k + 1, by omega, by go_num, by show World.ownsRow _ _ _ _ _ _ _; rw [← HZ.out]; exact own_put O2.out k x, B2.out.setCell (by rw [← HG.out]; exact Nat.le_refl _) _, HE⟩
        case measure => simp [intOf]; omega
    · obtain rfl : k = n := by omega
      have E : Hid (P = ((List.range k).map (fun j => (el j).1), 0)) := HP.out.symm.trans (trF_yes HT.out)
      go_wp2
      go_ret2
      have h := O.out
      rw [partL_all] at h
      obtain ⟨A2, c2, h1, h2⟩ := ReadsV.own h
      injection h1 with e1 _ e3
      subst e1 e3
      have e0 : ((List.range k).map fun j => (el j).1).length = k := by simp
      refine ⟨some ⟨w.heap.size, 0, none⟩, k, ?_, by rw [E.out]; exact h2, B.out⟩
      rw [E.out]
      show _ = Ending.returned (.tuple #[.slice _ ((List.range k).map fun j => (el j).1).length _, .int .i64 0])
      rw [e0]
      rfl
end Go.Proofs.Ytcihdecfganohaa
