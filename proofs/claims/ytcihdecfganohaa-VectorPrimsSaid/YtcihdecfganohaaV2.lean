/- The functions that compute one element of a vector. -/
import Derived.Test.YtcihdecfganohaaV1
import Derived.Deep.QuietTactic
import Derived.BigQuiet
namespace Go.Proofs.Ytcihdecfganohaa
open Go.RowKit

def ElPost (W : World) (p : Int × Bool) (e : Ending) (w' : World) : Prop := e = .returned (.tuple #[.int .i64 p.1, .bool p.2]) ∧ Below W.heap.size W w'

set_option maxHeartbeats 1000000 in
theorem pw_add (k n ca cb : Nat) (pO pA pB : Addr) (ba oa bb ob : Nat) (x y : Int) (W : World) (hk : k < n) (_hn : n ≤ 100)
    (x1 : -9223372036854775808 ≤ x) (x2 : x ≤ 9223372036854775807) (y1 : -9223372036854775808 ≤ y) (y2 : y ≤ 9223372036854775807)
    (hO : W.cell? pO = some (.func (.func 35) #[] #[])) (hA : W.cell? pA = some (.slice (some ⟨ba, oa, none⟩) n ca)) (hB : W.cell? pB = some (.slice (some ⟨bb, ob, none⟩) n cb))
    (hx : W.cell? ⟨ba, oa + k, none⟩ = some (.int .i64 x)) (hy : W.cell? ⟨bb, ob + k, none⟩ = some (.int .i64 y)) :
    Calls Try.prog 50 #[.int .i64 k, .pointer (some pO), .pointer (some pA), .pointer (some pB)] W (ElPost W (fitV (x + y), fits (x + y))) := by
  have C : Hid (∀ w, Calls Try.prog 35 #[.int .i64 x, .int .i64 y] w fun e w' => e = .returned (.tuple #[.int .i64 (fitV (x + y)), .bool (fits (x + y))]) ∧ w' = w) := fun w => (add_any x y x1 x2 y1 y2 w).mono fun _ _ ⟨h1, h2⟩ => ⟨h1, h2.symm⟩
  generalize fitV (x + y) = v at *
  generalize fits (x + y) = t at *
  go_enter Try.func50, Try.ntmps50
  go_wp2_with fail
  go_quiet ((go_at_call 35; exact Calls.quiet_of_same (C.out _)))
  go_wp2
  go_ret2
  exact ⟨rfl, below_drewN (Below.refl _ _) _⟩

set_option maxHeartbeats 1000000 in
theorem pw_sub (k n ca cb : Nat) (pO pA pB : Addr) (ba oa bb ob : Nat) (x y : Int) (W : World) (hk : k < n) (_hn : n ≤ 100)
    (x1 : -9223372036854775808 ≤ x) (x2 : x ≤ 9223372036854775807) (y1 : -9223372036854775808 ≤ y) (y2 : y ≤ 9223372036854775807)
    (hO : W.cell? pO = some (.func (.func 36) #[] #[])) (hA : W.cell? pA = some (.slice (some ⟨ba, oa, none⟩) n ca)) (hB : W.cell? pB = some (.slice (some ⟨bb, ob, none⟩) n cb))
    (hx : W.cell? ⟨ba, oa + k, none⟩ = some (.int .i64 x)) (hy : W.cell? ⟨bb, ob + k, none⟩ = some (.int .i64 y)) :
    Calls Try.prog 50 #[.int .i64 k, .pointer (some pO), .pointer (some pA), .pointer (some pB)] W (ElPost W (fitV (x - y), fits (x - y))) := by
  have C : Hid (∀ w, Calls Try.prog 36 #[.int .i64 x, .int .i64 y] w fun e w' => e = .returned (.tuple #[.int .i64 (fitV (x - y)), .bool (fits (x - y))]) ∧ w' = w) := fun w => (sub_any x y x1 x2 y1 y2 w).mono fun _ _ ⟨h1, h2⟩ => ⟨h1, h2.symm⟩
  generalize fitV (x - y) = v at *
  generalize fits (x - y) = t at *
  go_enter Try.func50, Try.ntmps50
  go_wp2_with fail
  go_quiet ((go_at_call 36; exact Calls.quiet_of_same (C.out _)))
  go_wp2
  go_ret2
  exact ⟨rfl, below_drewN (Below.refl _ _) _⟩

set_option maxHeartbeats 1000000 in
theorem cmb_any (i j x y : Int) (pI pJ : Addr) (W : World)
    (i1 : -9223372036854775808 ≤ i) (i2 : i ≤ 9223372036854775807) (j1 : -9223372036854775808 ≤ j) (j2 : j ≤ 9223372036854775807)
    (x1 : -9223372036854775808 ≤ x) (x2 : x ≤ 9223372036854775807) (y1 : -9223372036854775808 ≤ y) (y2 : y ≤ 9223372036854775807)
    (hI : W.cell? pI = some (.int .i64 i)) (hJ : W.cell? pJ = some (.int .i64 j)) (lJ : pJ.block < W.heap.size) :
    Calls Try.prog 43 #[.int .i64 x, .int .i64 y, .pointer (some pI), .pointer (some pJ)] W (ElPost W (cmbP (i * x) (j * y))) := by
  have C1 := Lib.hid (mul_any i x i1 i2 x1 x2)
  have C2 := Lib.hid (mul_any j y j1 j2 y1 y2)
  have HP : Hid (cmbP (i * x) (j * y) = if fits (i * x) && fits (j * y) then (fitV (i * x + j * y), fits (i * x + j * y)) else (0, false)) := rfl
  have hp := fitV_in (i * x)
  have hq := fitV_in (j * y)
  have C3 := Lib.hid (add_any (fitV (i * x)) (fitV (j * y)) hp.1 hp.2 hq.1 hq.2)
  have HF : Hid (fits (i * x) = true → fits (j * y) = true → fitV (i * x) + fitV (j * y) = i * x + j * y) := fun h1 h2 => by rw [fitV_of h1, fitV_of h2]
  clear hp hq
  generalize cmbP (i * x) (j * y) = P at *
  generalize i * x = p at *
  generalize j * y = q at *
  generalize fitV p = fp at *
  generalize fitV q = fq at *
  generalize fits p = tp at *
  generalize fits q = tq at *
  cases tp <;> cases tq
  · have E : Hid (P = (0, false)) := HP.out
    go_enter Try.func43, Try.ntmps43
    go_wp2_with fail
    refine (C1.out _).mono ?_
    rintro e w1 ⟨rfl, K1⟩
    have hJ1 : w1.cell? pJ = some (.int .i64 j) := (K1.cell lJ).trans hJ
    have K1 := Lib.hid K1
    go_wp2_with fail
    refine (C2.out _).mono ?_
    rintro e w2 ⟨rfl, K2⟩
    go_wp2
    go_ret2
    exact ⟨by rw [E.out]; rfl, K1.out.trans (K2.mono K1.out.size)⟩
  · have E : Hid (P = (0, false)) := HP.out
    go_enter Try.func43, Try.ntmps43
    go_wp2_with fail
    refine (C1.out _).mono ?_
    rintro e w1 ⟨rfl, K1⟩
    have hJ1 : w1.cell? pJ = some (.int .i64 j) := (K1.cell lJ).trans hJ
    have K1 := Lib.hid K1
    go_wp2_with fail
    refine (C2.out _).mono ?_
    rintro e w2 ⟨rfl, K2⟩
    go_wp2
    go_ret2
    exact ⟨by rw [E.out]; rfl, K1.out.trans (K2.mono K1.out.size)⟩
  · have E : Hid (P = (0, false)) := HP.out
    go_enter Try.func43, Try.ntmps43
    go_wp2_with fail
    refine (C1.out _).mono ?_
    rintro e w1 ⟨rfl, K1⟩
    have hJ1 : w1.cell? pJ = some (.int .i64 j) := (K1.cell lJ).trans hJ
    have K1 := Lib.hid K1
    go_wp2_with fail
    refine (C2.out _).mono ?_
    rintro e w2 ⟨rfl, K2⟩
    go_wp2
    go_ret2
    exact ⟨by rw [E.out]; rfl, K1.out.trans (K2.mono K1.out.size)⟩
  · have E : Hid (P = (fitV (p + q), fits (p + q))) := HP.out
    rw [HF.out rfl rfl] at C3
    generalize fitV (p + q) = v at *
    generalize fits (p + q) = t at *
    go_enter Try.func43, Try.ntmps43
    go_wp2_with fail
    refine (C1.out _).mono ?_
    rintro e w1 ⟨rfl, K1⟩
    have hJ1 : w1.cell? pJ = some (.int .i64 j) := (K1.cell lJ).trans hJ
    have K1 := Lib.hid K1
    go_wp2_with fail
    refine (C2.out _).mono ?_
    rintro e w2 ⟨rfl, K2⟩
    have K2 := Lib.hid K2
    go_wp2_with fail
    refine (C3.out _).mono ?_
    rintro e w3 ⟨rfl, rfl⟩
    go_wp2
    go_ret2
    exact ⟨by rw [E.out]; rfl, K1.out.trans (K2.out.mono K1.out.size)⟩

set_option maxHeartbeats 1000000 in
theorem pw_cmb (k n ca cb : Nat) (i j : Int) (pO pA pB pI pJ : Addr) (ba oa bb ob : Nat) (x y : Int) (W : World) (hk : k < n) (_hn : n ≤ 100)
    (i1 : -9223372036854775808 ≤ i) (i2 : i ≤ 9223372036854775807) (j1 : -9223372036854775808 ≤ j) (j2 : j ≤ 9223372036854775807)
    (x1 : -9223372036854775808 ≤ x) (x2 : x ≤ 9223372036854775807) (y1 : -9223372036854775808 ≤ y) (y2 : y ≤ 9223372036854775807)
    (hI : W.cell? pI = some (.int .i64 i)) (hJ : W.cell? pJ = some (.int .i64 j)) (lJ : pJ.block < W.heap.size)
    (hO : W.cell? pO = some (.func (.func 43) #[] #[.pointer (some pI), .pointer (some pJ)])) (hA : W.cell? pA = some (.slice (some ⟨ba, oa, none⟩) n ca)) (hB : W.cell? pB = some (.slice (some ⟨bb, ob, none⟩) n cb))
    (hx : W.cell? ⟨ba, oa + k, none⟩ = some (.int .i64 x)) (hy : W.cell? ⟨bb, ob + k, none⟩ = some (.int .i64 y)) :
    Calls Try.prog 50 #[.int .i64 k, .pointer (some pO), .pointer (some pA), .pointer (some pB)] W (ElPost W (cmbP (i * x) (j * y))) := by
  have C : Hid (∀ w, w.cell? pI = some (.int .i64 i) → w.cell? pJ = some (.int .i64 j) → pJ.block < w.heap.size → Calls Try.prog 43 #[.int .i64 x, .int .i64 y, .pointer (some pI), .pointer (some pJ)] w (ElPost w (cmbP (i * x) (j * y)))) :=
    fun w g1 g2 g3 => cmb_any i j x y pI pJ w i1 i2 j1 j2 x1 x2 y1 y2 g1 g2 g3
  generalize cmbP (i * x) (j * y) = P at *
  go_enter Try.func50, Try.ntmps50
  go_wp2_with fail
  have lO := World.block_lt_of_cell? W pO hO
  have lA := World.block_lt_of_cell? W pA hA
  have lB := World.block_lt_of_cell? W pB hB
  have lI := World.block_lt_of_cell? W pI hI
  have lx := World.block_lt_of_cell? W ⟨ba, oa + k, none⟩ hx
  have ly := World.block_lt_of_cell? W ⟨bb, ob + k, none⟩ hy
  go_region_held3 (fun w' => w'.cell? pO = some (.func (.func 43) #[] #[.pointer (some pI), .pointer (some pJ)]) ∧ w'.cell? pA = some (.slice (some ⟨ba, oa, none⟩) n ca) ∧ w'.cell? pB = some (.slice (some ⟨bb, ob, none⟩) n cb) ∧ w'.cell? ⟨ba, oa + k, none⟩ = some (.int .i64 x) ∧ w'.cell? ⟨bb, ob + k, none⟩ = some (.int .i64 y))
    (first
      | go_keep
      | exact ⟨(K1.cell (by exact lO)).trans hO, (K1.cell (by exact lA)).trans hA, (K1.cell (by exact lB)).trans hB, (K1.cell (p := ⟨ba, oa + k, none⟩) (by exact lx)).trans hx, (K1.cell (p := ⟨bb, ob + k, none⟩) (by exact ly)).trans hy⟩)
    (first
      | (go_at_call 43; refine (C.out _ ?_ ?_ ?_).mono ?_; exact hI; exact hJ; exact lJ; rintro e w1 ⟨rfl, K1⟩))
  have KK : Below W.heap.size W w1 := (Below.refl _ _).drew.trans K1
  clear K1
  go_wp2
  go_ret2
  exact ⟨rfl, KK⟩

set_option maxHeartbeats 1000000 in
theorem scl_el (k n ca : Nat) (s : Int) (pA pS : Addr) (ba oa : Nat) (x : Int) (W : World) (hk : k < n) (_hn : n ≤ 100)
    (x1 : -9223372036854775808 ≤ x) (x2 : x ≤ 9223372036854775807) (s1 : -9223372036854775808 ≤ s) (s2 : s ≤ 9223372036854775807)
    (hS : W.cell? pS = some (.int .i64 s)) (hA : W.cell? pA = some (.slice (some ⟨ba, oa, none⟩) n ca)) (hx : W.cell? ⟨ba, oa + k, none⟩ = some (.int .i64 x)) :
    Calls Try.prog 42 #[.int .i64 k, .pointer (some pA), .pointer (some pS)] W (ElPost W (fitV (x * s), fits (x * s))) := by
  have C := Lib.hid (mul_any x s x1 x2 s1 s2)
  generalize fitV (x * s) = v at *
  generalize fits (x * s) = t at *
  have lS := World.block_lt_of_cell? W pS hS
  have lA := World.block_lt_of_cell? W pA hA
  have lx := World.block_lt_of_cell? W ⟨ba, oa + k, none⟩ hx
  go_enter Try.func42, Try.ntmps42
  go_wp2_with fail
  go_region_held3 (fun w' => w'.cell? pS = some (.int .i64 s) ∧ w'.cell? pA = some (.slice (some ⟨ba, oa, none⟩) n ca) ∧ w'.cell? ⟨ba, oa + k, none⟩ = some (.int .i64 x))
    (first
      | go_keep
      | exact ⟨(K1.cell (by exact lS)).trans hS, (K1.cell (by exact lA)).trans hA, (K1.cell (p := ⟨ba, oa + k, none⟩) (by exact lx)).trans hx⟩)
    (first
      | (go_at_call 38; refine (C.out _).mono ?_; rintro e w1 ⟨rfl, K1⟩))
  have KK : Below W.heap.size W w1 := (Below.refl _ _).drew.trans K1
  clear K1
  go_wp2
  go_ret2
  exact ⟨rfl, KK⟩

set_option maxHeartbeats 1000000 in
theorem prm_el (k n ca g : Nat) (pA pS : Addr) (ba oa : Nat) (x : Int) (W : World) (hk : k < n) (_hn : n ≤ 100)
    (x1 : -9223372036854775808 ≤ x) (x2 : x ≤ 9223372036854775807) (g1 : 1 ≤ g) (g2 : g ≤ 9223372036854775807)
    (hS : W.cell? pS = some (.int .i64 g)) (hA : W.cell? pA = some (.slice (some ⟨ba, oa, none⟩) n ca)) (hx : W.cell? ⟨ba, oa + k, none⟩ = some (.int .i64 x)) :
    Calls Try.prog 48 #[.int .i64 k, .pointer (some pA), .pointer (some pS)] W (ElPost W (x.tdiv g, true)) := by
  go_enter Try.func48, Try.ntmps48
  go_wp2_with fail
  go_quiet (fail)
  go_wp2
  go_ret2
  refine ⟨?_, below_drewN (Below.refl _ _) _⟩
  rfl
end Go.Proofs.Ytcihdecfganohaa
