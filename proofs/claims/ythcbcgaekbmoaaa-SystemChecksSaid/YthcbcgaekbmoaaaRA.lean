/- Regions: indices, comparisons, crossings, by the program and the reference. -/
import Derived.Test.YthcbcgaekbmoaaaRL
import Derived.Test.YthcbcgaekbmoaaaRK
import Derived.Test.YthcbcgaekbmoaaaShelf
import Derived.Test.YthcbcgaekbmoaaaBtC
import Derived.Deep.DeepCutAuto
import Derived.Deep.Cut
import Derived.Deep.CutBlock
import Derived.Deep.RegionWith
import Derived.WalkMore
import Derived.Deep.RegionHeld
import Derived.StillTailTactics
namespace Go.Proofs.Ythcbcgaekbmoaaa
open Go.RowKit

def cmp3 (x y : Int) : Int := Lib.compareInt x y
def or3 (a b c : Int) : Int := if a ≠ 0 then a else if b ≠ 0 then b else c
theorem or_lt (a b : EdgeV) : or3 (cmp3 a.f b.f) (or3 (cmp3 a.t b.t) (cmp3 a.o b.o) 0) 0 < 0 ↔ ltE a b = true := by
  unfold ltE or3 cmp3 Lib.compareInt
  rw [decide_eq_true_eq]
  repeat' split
  all_goals omega

set_option maxHeartbeats 2000000 in
set_option maxRecDepth 100000 in
theorem isIndex_any (i n : Int) (w : World) :
    Calls Try.prog 22 #[.int .i64 i, .int .i64 n] w (fun e w' => e = .returned (.bool (inR i n)) ∧ w = w') := by
  unfold inR
  by_cases h0 : 0 ≤ i
  · have z0 : decide (0 ≤ i) = true := decide_eq_true h0
    by_cases h1 : i < n
    · have z1 : decide (i < n) = true := decide_eq_true h1
      go_enter Try.func22, Try.ntmps22
      go_wp2
      go_ret
      exact ⟨by first | rfl | (rw [z0, z1]; rfl) | simp [z0, z1], rfl⟩
    · have z1 : decide (i < n) = false := decide_eq_false h1
      go_enter Try.func22, Try.ntmps22
      go_wp2
      go_ret
      exact ⟨by first | rfl | (rw [z0, z1]; rfl) | simp [z0, z1], rfl⟩
  · have z0 : decide (0 ≤ i) = false := decide_eq_false h0
    go_enter Try.func22, Try.ntmps22
    go_wp2
    go_ret
    exact ⟨by first | rfl | (rw [z0]; rfl) | simp [z0], rfl⟩

set_option maxHeartbeats 4000000 in
set_option maxRecDepth 100000 in
theorem or_any (g c : Nat) (x y z : Int) (w : World) (h0 : w.cell? ⟨g, 0, none⟩ = some (.int .i64 x)) (h1 : w.cell? ⟨g, 1, none⟩ = some (.int .i64 y)) (h2 : w.cell? ⟨g, 2, none⟩ = some (.int .i64 z)) :
    Calls Try.prog 40 #[.slice (some ⟨g, 0, none⟩) 3 c] w (VPost w.heap.size w (.int .i64 (or3 x (or3 y z 0) 0))) := by
  have H0 := Lib.hid h0
  have H1 := Lib.hid h1
  have H2 := Lib.hid h2
  clear h0 h1 h2
  have E : Hid (or3 x (or3 y z 0) 0 = if x ≠ 0 then x else if y ≠ 0 then y else if z ≠ 0 then z else 0) := by
    show _ = _
    unfold or3
    repeat' split
    all_goals omega
  generalize or3 x (or3 y z 0) 0 = R at *
  have EX : Hid (x ≠ 0 → R = x) := fun h => by rw [E.out, if_pos h]
  have EY : Hid (x = 0 → y ≠ 0 → R = y) := fun h h' => by rw [E.out, if_neg (by simpa using h), if_pos h']
  have EZ : Hid (x = 0 → y = 0 → R = z) := fun h h' => by
    rw [E.out, if_neg (by simpa using h), if_neg (by simpa using h')]
    split
    · rfl
    · omega
  clear E
  go_enter Try.func40, Try.ntmps40
  go_wp2_with fail
  go_loopw [8] (fun q wr => ∃ k : Nat, k ≤ 3 ∧ q = .int .i64 k ∧ Hid (Below w.heap.size w wr) ∧ Hid ((0 < k → x = 0) ∧ (1 < k → y = 0) ∧ (2 < k → z = 0))) (fun q _ => 3 - (intOf q).toNat)
  case atStart => exact ⟨0, by omega, rfl, Below.refl _ _, fun h => absurd h (by omega), fun h => absurd h (by omega), fun h => absurd h (by omega)⟩
  case round =>
    obtain ⟨k, hk, rfl, BB, HX⟩ := hrel
    have c0 := keepc H0.out BB.out
    have c1 := keepc H1.out BB.out
    have c2 := keepc H2.out BB.out
    by_cases hlt : k < 3
    · obtain ⟨v, hv, hvc⟩ : ∃ v : Int, (v = if k = 0 then x else if k = 1 then y else z) ∧ wr.cell? ⟨g, 0 + k, none⟩ = some (.int .i64 v) := by
        refine ⟨_, rfl, ?_⟩
        have : k = 0 ∨ k = 1 ∨ k = 2 := by omega
        rcases this with rfl | rfl | rfl
        · exact c0
        · exact c1
        · exact c2
      rw [Nat.zero_add] at hvc
      have HV := Lib.hid hv
      clear hv c0 c1 c2
      by_cases hz : v = 0
      · have z0 : (v != 0) = false := by simpa using hz
        have HF : Hid ((0 < k + 1 → x = 0) ∧ (1 < k + 1 → y = 0) ∧ (2 < k + 1 → z = 0)) := by
          have h1 := HX.out
          have h2 := HV.out
          have : k = 0 ∨ k = 1 ∨ k = 2 := by omega
          rcases this with rfl | rfl | rfl
          · rw [if_pos rfl] at h2
            exact ⟨fun _ => by omega, fun h => absurd h (by omega), fun h => absurd h (by omega)⟩
          · rw [if_neg (by omega), if_pos rfl] at h2
            exact ⟨fun _ => h1.1 (by omega), fun _ => by omega, fun h => absurd h (by omega)⟩
          · rw [if_neg (by omega), if_neg (by omega)] at h2
            exact ⟨fun _ => h1.1 (by omega), fun _ => h1.2.1 (by omega), fun _ => by omega⟩
        clear HX HV
        go_wp2
        go_roundw
        case rel => exact ⟨k + 1, by omega, by go_num, by first | exact BB | exact below_drewN BB.out _, HF⟩
        case measure => simp [intOf]; omega
      · have z0 : (v != 0) = true := by simpa using hz
        have ER : Hid (R = v) := by
          have h1 := HX.out
          have h2 := HV.out
          show R = v
          have : k = 0 ∨ k = 1 ∨ k = 2 := by omega
          rcases this with rfl | rfl | rfl
          · rw [if_pos rfl] at h2
            rw [EX.out (by omega), h2]
          · rw [if_neg (by omega), if_pos rfl] at h2
            rw [EY.out (h1.1 (by omega)) (by omega), h2]
          · rw [if_neg (by omega), if_neg (by omega)] at h2
            rw [EZ.out (h1.1 (by omega)) (h1.2.1 (by omega)), h2]
        clear HX HV EX EY EZ
        go_wp2
        go_ret
        exact ⟨by rw [ER.out]; rfl, BB.out⟩
    · obtain rfl : k = 3 := by omega
      have ER : Hid (R = 0) := by
        show R = 0
        have h1 := HX.out
        rw [EZ.out (h1.1 (by omega)) (h1.2.1 (by omega)), h1.2.2 (by omega)]
      clear HX EX EY EZ c0 c1 c2
      go_wp2
      go_ret
      exact ⟨by rw [ER.out]; rfl, BB.out⟩

end Go.Proofs.Ythcbcgaekbmoaaa
