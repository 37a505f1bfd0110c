/- The text of the example. -/
import Derived.Test.YthpbgdeeajhbjaaDoorE
import Derived.Test.YthpbgdeeajhbjaaDoorShelf
import Derived.LoopN
import Derived.Maps.AppendAt
import Derived.StillTactics
import Derived.OwnWalk
import Derived.Deep.RegionHeld3
import Derived.Deep.AppendLies
namespace Go.Proofs.YthpbgdeeajhbjaaDoor
open Go.RowKit Go.Maps Go.WideMaps

theorem infoS : (Tryd.prog.info? 9).map (fun i => (i.zero, i.size, i.bytes)) = some (some (.string ByteArray.empty), 1, 16) := by kernel_rfl
theorem info_parts {i0 : Option TypeInfo} {z : Option Value} {s b : Nat} (h : i0.map (fun i => (i.zero, i.size, i.bytes)) = some (z, s, b)) : ∃ i, i0 = some i ∧ i.zero = z ∧ i.size = s ∧ i.bytes = b := by
  cases i0 with
  | none => simp at h
  | some i => simp at h; exact ⟨i, rfl, h.1, h.2.1, h.2.2⟩

def sA : ByteArray := ⟨#[97]⟩
def sB : ByteArray := ⟨#[98]⟩
def sC : ByteArray := ⟨#[99]⟩
theorem check_ex : checkV sC [sA, sB] = 0 := by decide +kernel

set_option maxHeartbeats 4000000 in
set_option maxRecDepth 100000 in
theorem text_ex (bA bB : Nat) (c d : Nat) (w : World) (hS : ReadsS w ⟨bA, 0, none⟩ [sA, sB]) (hI : ReadsI w (some ⟨bB, 0, none⟩) [2, 1]) (hA : bA < w.heap.size) (hB : bB < w.heap.size) :
    Calls Tryd.prog 29 #[.agg #[.string sC, .slice (some ⟨bA, 0, none⟩) 2 c], .slice (some ⟨bB, 0, none⟩) 2 d] w fun e w' => e = .returned (.string ⟨#[50, 39, 97, 32, 43, 32, 49, 39, 98]⟩) ∧ Below w.heap.size w w' := by
  have C : Hid (∀ W, ReadsS W ⟨bA, 0, none⟩ [sA, sB] → bA < W.heap.size → Calls Tryd.prog 14 #[.agg #[.string sC, .slice (some ⟨bA, 0, none⟩) 2 c]] W fun e w' => e = .returned (.int .i64 0) ∧ Below W.heap.size W w') := by
    intro W h1 h2
    have := check_any sC ⟨bA, 0, none⟩ [sA, sB] c W (by decide) (by decide) h1 h2 (by decide)
    rw [check_ex] at this
    exact this
  have M : Hid (∀ W, ReadsI W (some ⟨bB, 0, none⟩) [2, 1] → Calls Tryd.prog 38 #[.slice (some ⟨bB, 0, none⟩) 2 d] W fun e w' => e = .returned (.bool true) ∧ W = w') := by
    intro W h1
    exact multi_any ⟨bB, 0, none⟩ [2, 1] d W h1 (by decide)
  have I2 : Hid (∀ W, Calls Tryd.prog 39 #[.int .i64 2] W fun e w' => e = .returned (.string ⟨#[50]⟩) ∧ w' = W) := by
    intro W
    have h := Tryd.strconv_Itoa_small 2 (by decide) W
    rw [show Lib.decDigits 2 = [50] from by decide +kernel] at h
    exact h
  have I1 : Hid (∀ W, Calls Tryd.prog 39 #[.int .i64 1] W fun e w' => e = .returned (.string ⟨#[49]⟩) ∧ w' = W) := by
    intro W
    have h := Tryd.strconv_Itoa_small 1 (by decide) W
    rw [show Lib.decDigits 1 = [49] from by decide +kernel] at h
    exact h
  obtain ⟨i0, hi, hz0, hz1, hz2⟩ := info_parts infoS
  have HI0 := Lib.hid hi
  have HZ0 := Lib.hid hz0
  have HZ1 := Lib.hid hz1
  have HZ2 := Lib.hid hz2
  clear hi hz0 hz1 hz2
  generalize hg : w.heap.size = g
  have HG := Lib.hid hg
  clear hg
  have HS := Lib.hid hS
  have HI := Lib.hid hI
  clear hS hI
  go_enter Tryd.func29, Tryd.ntmps29
  go_wp2_with fail
  refine (C.out _ (HS.out.below ((Below.refl g _).alloc (by rw [HG.out]; exact Nat.le_refl _) _) (by rw [← HG.out]; exact hA)) (by simp; omega)).mono ?_
  rintro e w1 ⟨rfl, K1⟩
  have D1 : Hid (Below g w w1) := by
    refine ((Below.refl g _).alloc (by rw [HG.out]; exact Nat.le_refl _) _).trans (K1.mono ?_)
    rw [World.size_alloc, HG.out]; omega
  have hsz : w.heap.size < w1.heap.size := by
    have := K1.size
    rw [World.size_alloc] at this
    omega
  have hc1 : w1.cell? ⟨w.heap.size, 1, none⟩ = some (.slice (some ⟨bA, 0, none⟩) 2 c) := by
    rw [K1.cell (by simp)]
    simp
  go_wp2_with fail
  refine (M.out w1 (fun k hk => ?_)).mono ?_
  · obtain ⟨p, hp, h⟩ := HI.out k hk
    cases hp
    refine ⟨_, rfl, ?_⟩
    rw [D1.out.cell (p := Addr.add ⟨bB, 0, none⟩ k) (by rw [← HG.out]; unfold Addr.add; split <;> exact hB)]
    exact h
  rintro e w2 ⟨rfl, rfl⟩
  have hi0 : w1.cell? ⟨bB, 0, none⟩ = some (.int .i64 2) := by
    obtain ⟨p, hp, h⟩ := HI.out 0 (by decide)
    cases hp
    rw [D1.out.cell (by rw [← HG.out]; exact hB)]
    exact h
  have hi1 : w1.cell? ⟨bB, 1, none⟩ = some (.int .i64 1) := by
    obtain ⟨p, hp, h⟩ := HI.out 1 (by decide)
    cases hp
    rw [D1.out.cell (p := ⟨bB, 1, none⟩) (by rw [← HG.out]; exact hB)]
    exact h
  have hs0 : w1.cell? ⟨bA, 0, none⟩ = some (.string ⟨#[97]⟩) := by
    rw [D1.out.cell (by rw [← HG.out]; exact hA)]
    exact HS.out 0 (by decide)
  have hs1 : w1.cell? ⟨bA, 1, none⟩ = some (.string ⟨#[98]⟩) := by
    rw [D1.out.cell (p := ⟨bA, 1, none⟩) (by rw [← HG.out]; exact hA)]
    exact HS.out 1 (by decide)
  clear K1
  go_wp2_with fail
  refine wp_loop_rounds 3 ?_
  rw [rounds_succ]
  go_wp2_with fail
  have O0 : Hid (w1.ownsRow w1.heap.size 9 1 (.slice none 0 0) 0 []) := World.ownsRow_nil _ _ _ _
  go_region_held3 (fun w' => w'.cell? ⟨w.heap.size, 1, none⟩ = some (.slice (some ⟨bA, 0, none⟩) 2 c) ∧ w'.cell? ⟨bB, 0, none⟩ = some (.int .i64 2) ∧ w'.cell? ⟨bB, 1, none⟩ = some (.int .i64 1) ∧ w'.cell? ⟨bA, 0, none⟩ = some (.string ⟨#[97]⟩) ∧ w'.cell? ⟨bA, 1, none⟩ = some (.string ⟨#[98]⟩))
    (first
      | go_keep
      | (go_split_ands
         refine ⟨?_, ?_, ?_, ?_, ?_⟩
         · (rw [hgrow.cell_far _ (by simp; omega) (by simp [Value.ownBlock])]; assumption)
         · (rw [hgrow.cell_far _ (by simp; omega) (by simp [Value.ownBlock])]; assumption)
         · (rw [hgrow.cell_far _ (by simp; omega) (by simp [Value.ownBlock])]; assumption)
         · (rw [hgrow.cell_far _ (by simp; omega) (by simp [Value.ownBlock])]; assumption)
         · (rw [hgrow.cell_far _ (by simp; omega) (by simp [Value.ownBlock])]; assumption)))
    (first
      | (go_at_call 39; refine (I2.out _).mono ?_; rintro e w' ⟨rfl, rfl⟩)
      | (refine step_append_lies _ (by rfl) _ _ _ (by rfl) w1.heap.size 9 i0 _ 1 16 Tryd.underlying24 HI0.out HZ0.out HZ1.out HZ2.out rfl (by omega) (.slice none 0 0) 0 [] (by rfl) ((O0.out.alloc _).drew)
          ⟨w1.heap.size, 0, none⟩ 1 1 [_] (by rfl) (by rfl) (World.news_of_block (cs := #[_]) (t := 9) (fr := (0, 0)) (heap_alloc_new w1 _)) (by simp [Value.oneCell'])
          (by omega) (by decide) (by decide) (by simp) (w1.heap.size + 1) (by simp) ?_; intro gg cap w3 hown1 hgrow hat hlt))
  rename_i hHeld
  obtain ⟨jc1, ji0, ji1, js0, js1⟩ := hHeld
  obtain rfl : gg = w1.heap.size + 1 := by simpa [Value.ownBlock] using hat
  have D3 : Hid (Below g w w3) := by
    refine ((D1.out.alloc (by rw [← HG.out]; omega) _).drew).grown hgrow ?_ (fun j hj => ?_)
    · rw [← HG.out]
      show w.heap.size ≤ (World.alloc w1 _).heap.size
      rw [World.size_alloc]
      omega
    · simp [Value.ownBlock] at hj
  have O1 : Hid (w3.ownsRow w1.heap.size 9 1 (.slice (some ⟨w1.heap.size + 1, 0, none⟩) 1 cap) 1 [.string ⟨#[50, 39, 97]⟩]) := hown1
  clear hown1 hgrow hat hc1 hi0 hi1 hs0 hs1
  go_wp2_with fail
  rw [rounds_succ]
  go_wp2_with fail
  go_region_held3 (fun w' => w'.cell? ⟨w.heap.size, 1, none⟩ = some (.slice (some ⟨bA, 0, none⟩) 2 c) ∧ w'.cell? ⟨bB, 0, none⟩ = some (.int .i64 2) ∧ w'.cell? ⟨bB, 1, none⟩ = some (.int .i64 1) ∧ w'.cell? ⟨bA, 0, none⟩ = some (.string ⟨#[97]⟩) ∧ w'.cell? ⟨bA, 1, none⟩ = some (.string ⟨#[98]⟩))
    (first
      | go_keep
      | (go_split_ands
         refine ⟨?_, ?_, ?_, ?_, ?_⟩
         · (rw [hgrow.cell_far _ (by simp; omega) (by simp [Value.ownBlock]; omega)]; assumption)
         · (rw [hgrow.cell_far _ (by simp; omega) (by simp [Value.ownBlock]; omega)]; assumption)
         · (rw [hgrow.cell_far _ (by simp; omega) (by simp [Value.ownBlock]; omega)]; assumption)
         · (rw [hgrow.cell_far _ (by simp; omega) (by simp [Value.ownBlock]; omega)]; assumption)
         · (rw [hgrow.cell_far _ (by simp; omega) (by simp [Value.ownBlock]; omega)]; assumption)))
    (first
      | (go_at_call 39; refine (I1.out _).mono ?_; rintro e w' ⟨rfl, rfl⟩)
      | (refine step_append_lies _ (by rfl) _ _ _ (by rfl) w1.heap.size 9 i0 _ 1 16 Tryd.underlying24 HI0.out HZ0.out HZ1.out HZ2.out rfl (by omega) (.slice (some ⟨w1.heap.size + 1, 0, none⟩) 1 cap) 1 _ (by rfl) ((O1.out.alloc _).drew)
          ⟨w3.heap.size, 0, none⟩ 1 1 [_] (by rfl) (by rfl) (World.news_of_block (cs := #[_]) (t := 9) (fr := (0, 0)) (heap_alloc_new w3 _)) (by simp [Value.oneCell'])
          (by omega) (by decide) (by decide) (by simp; omega) (w3.heap.size + 1) (by simp) ?_; intro gg2 cap2 w4 hown2 hgrow hat hlt2))
  rename_i hHeld
  clear hHeld
  have D4 : Hid (Below g w w4) := by
    refine ((D3.out.alloc (by rw [← HG.out]; omega) _).drew).grown hgrow ?_ (fun j hj => ?_)
    · rw [← HG.out]
      show w.heap.size ≤ (World.alloc w3 _).heap.size
      rw [World.size_alloc]
      omega
    · simp [Value.ownBlock] at hj
      rw [← HG.out]
      omega
  have O2 : Hid (w4.ownsRow w1.heap.size 9 1 (.slice (some ⟨gg2, 0, none⟩) 2 cap2) 2 [.string ⟨#[50, 39, 97]⟩, .string ⟨#[49, 39, 98]⟩]) := hown2
  have J : Hid (Calls Tryd.prog 40 #[.slice (some ⟨gg2, 0, none⟩) 2 cap2, .string ⟨#[32, 43, 32]⟩] w4 fun e w' => e = .returned (.string ⟨#[50, 39, 97, 32, 43, 32, 49, 39, 98]⟩) ∧ Below w4.heap.size w4 w') := by
    have hcap : 2 ≤ cap2 := by
      rcases O2.out.2 with ⟨h, _⟩ | ⟨_, _, _, h, _, _, h2, _⟩
      · simp at h
      · simp at h
        omega
    have h := Tryd.strings_Join gg2 0 cap2 [⟨#[50, 39, 97]⟩, ⟨#[49, 39, 98]⟩] ⟨#[32, 43, 32]⟩ w4 (fun j x hx => ?_) hlt2 (by decide) hcap (by decide +kernel)
    · have e : (Lib.join ([(⟨#[50, 39, 97]⟩ : ByteArray), ⟨#[49, 39, 98]⟩].map (·.data.toList)) (⟨#[32, 43, 32]⟩ : ByteArray).data.toList) = [50, 39, 97, 32, 43, 32, 49, 39, 98] := by decide +kernel
      rw [e] at h
      exact h
    · rw [Nat.zero_add]
      match j, hx with
      | 0, hx => 
        rw [O2.out.cellAt 0 (by decide)]
        simp at hx
        subst hx
        rfl
      | 1, hx =>
        rw [O2.out.cellAt 1 (by decide)]
        simp at hx
        subst hx
        rfl
      | j + 2, hx => simp at hx
  clear hown2 hgrow hat O1
  go_wp2_with fail
  rw [rounds_succ]
  go_wp2_with fail
  refine J.out.mono ?_
  rintro e w5 ⟨rfl, K5⟩
  go_wp2
  go_ret
  exact ⟨rfl, D4.out.trans (K5.mono (by have := D4.out.size; rw [HG.out] at this; exact this))⟩

theorem shift_ex (nm : ByteArray) (a : Option Addr) (cap : Nat) (w : World) :
    Calls Tryd.prog 18 #[.agg #[.string nm, .slice a 2 cap], .int .i64 0, .int .i64 (-1)] w fun e w' => e = .returned (.int .i64 1) ∧ Below w.heap.size w w' := by
  go_enter Tryd.func18, Tryd.ntmps18
  go_wp2
  go_ret
  exact ⟨rfl, (Below.refl _ _).alloc (Nat.le_refl _) _⟩

theorem cells_1 (w : World) (cs : Array Value) (t : TypeId) (o2 o3 : Obj) (i : Nat) : (((w.alloc (.cells cs t)).alloc o2).alloc o3).cell? ⟨w.heap.size, i, none⟩ = cs[i]? := by
  have h1 : (⟨w.heap.size, i, none⟩ : Addr).block < ((w.alloc (.cells cs t)).alloc o2).heap.size := by simp; omega
  have h2 : (⟨w.heap.size, i, none⟩ : Addr).block < (w.alloc (.cells cs t)).heap.size := by simp
  rw [World.cell?_alloc_lt (h := h1), World.cell?_alloc_lt (h := h2), World.cell?_alloc_new]
theorem cells_2 (w : World) (cs : Array Value) (t : TypeId) (o1 o3 : Obj) (i : Nat) : (((w.alloc o1).alloc (.cells cs t)).alloc o3).cell? ⟨w.heap.size + 1, i, none⟩ = cs[i]? := by
  have h1 : (⟨w.heap.size + 1, i, none⟩ : Addr).block < ((w.alloc o1).alloc (.cells cs t)).heap.size := by simp
  rw [World.cell?_alloc_lt (h := h1), World.cell?_alloc_at _ _ _ i (by simp)]
theorem cells_3 (w : World) (cs : Array Value) (t : TypeId) (o1 o2 : Obj) (i : Nat) : (((w.alloc o1).alloc o2).alloc (.cells cs t)).cell? ⟨w.heap.size + 1 + 1, i, none⟩ = cs[i]? := by
  rw [World.cell?_alloc_at _ _ _ i (by simp)]

set_option maxHeartbeats 1000000 in
theorem example_any (w : World) :
    Calls Tryd.prog 12 #[] w fun e w' => e = .returned (.bool true) ∧ Below w.heap.size w w' := by
  go_enter Tryd.func12, Tryd.ntmps12
  go_wp2_with fail
  refine (text_ex w.heap.size (w.heap.size + 1 + 1) 2 2 _ (fun k hk => ?_) (fun k hk => ⟨_, rfl, ?_⟩) (by simp; omega) (by simp)).mono ?_
  · match k, hk with
    | 0, _ => exact (cells_1 _ _ _ _ _ 0).trans rfl
    | 1, _ => exact (cells_1 _ _ _ _ _ 1).trans rfl
    | k + 2, h => exact absurd h (by simp)
  · match k, hk with
    | 0, _ => exact (cells_3 _ _ _ _ _ 0).trans rfl
    | 1, _ => exact (cells_3 _ _ _ _ _ 1).trans rfl
    | k + 2, h => exact absurd h (by simp)
  rintro e w1 ⟨rfl, K1⟩
  have D1 : Below w.heap.size w w1 := by
    refine Below.trans ?_ (K1.mono (by simp; omega))
    exact (((Below.refl _ _).alloc (Nat.le_refl _) _).alloc (by simp) _).alloc (by simp; omega) _
  have hc0 : w1.cell? ⟨w.heap.size + 1, 0, none⟩ = some (.string ⟨#[99]⟩) := by
    rw [K1.cell (by simp)]
    exact (cells_2 _ _ _ _ _ 0).trans rfl
  have hc1 : w1.cell? ⟨w.heap.size + 1, 1, none⟩ = some (.slice (some ⟨w.heap.size, 0, none⟩) 2 2) := by
    rw [K1.cell (by simp)]
    exact (cells_2 _ _ _ _ _ 1).trans rfl
  clear K1
  go_wp2_with fail
  refine (shift_ex ⟨#[99]⟩ (some ⟨w.heap.size, 0, none⟩) 2 w1).mono ?_
  rintro e w2 ⟨rfl, K2⟩
  have D2 : Below w.heap.size w w2 := D1.trans (K2.mono D1.size)
  go_wp2_with fail
  go_ret
  exact ⟨rfl, D2⟩
end Go.Proofs.YthpbgdeeajhbjaaDoor
