/- Regions: comparisons of edges, signs, by the program and the reference. -/
import Derived.Test.YthcbcgaekbmoaaaRA
namespace Go.Proofs.Ythcbcgaekbmoaaa
open Go.RowKit

def cmpE (a b : EdgeV) : Int := or3 (cmp3 a.f b.f) (or3 (cmp3 a.t b.t) (cmp3 a.o b.o) 0) 0

set_option maxHeartbeats 4000000 in
set_option maxRecDepth 100000 in
theorem compareArcs_any (a b : EdgeV) (w : World) :
    Calls Try.prog 23 #[.agg #[.int .i64 a.f, .int .i64 a.t, .int .i64 a.o], .agg #[.int .i64 b.f, .int .i64 b.t, .int .i64 b.o]] w (VPost w.heap.size w (.int .i64 (cmpE a b))) := by
  have CC : Hid (∀ (x y : Int) W, Calls Try.prog 41 #[.int .i64 x, .int .i64 y] W (fun e w' => e = .returned (.int .i64 (cmp3 x y)) ∧ W = w')) := fun x y W => (Try.cmp_Compare_int x y W).mono fun _ _ ⟨h1, h2⟩ => ⟨h1, h2.symm⟩
  have B0 : Hid (Below w.heap.size w ((w.alloc (.cells #[.int .i64 a.f, .int .i64 a.t, .int .i64 a.o] 43)).alloc (.cells #[.int .i64 b.f, .int .i64 b.t, .int .i64 b.o] 43))) := ((Below.refl _ _).alloc (Nat.le_refl _) _).alloc (by simp) _
  have a0 : ((w.alloc (.cells #[.int .i64 a.f, .int .i64 a.t, .int .i64 a.o] 43)).alloc (.cells #[.int .i64 b.f, .int .i64 b.t, .int .i64 b.o] 43)).cell? ⟨w.heap.size, 0, none⟩ = some (.int .i64 a.f) := cellA (by simp) _
  have b0 : ((w.alloc (.cells #[.int .i64 a.f, .int .i64 a.t, .int .i64 a.o] 43)).alloc (.cells #[.int .i64 b.f, .int .i64 b.t, .int .i64 b.o] 43)).cell? ⟨w.heap.size + 1, 0, none⟩ = some (.int .i64 b.f) := by rw [← World.size_alloc w (.cells #[.int .i64 a.f, .int .i64 a.t, .int .i64 a.o] 43)]; simp
  have a1 : ((w.alloc (.cells #[.int .i64 a.f, .int .i64 a.t, .int .i64 a.o] 43)).alloc (.cells #[.int .i64 b.f, .int .i64 b.t, .int .i64 b.o] 43)).cell? ⟨w.heap.size, 1, none⟩ = some (.int .i64 a.t) := cellA (by simp) _
  have b1 : ((w.alloc (.cells #[.int .i64 a.f, .int .i64 a.t, .int .i64 a.o] 43)).alloc (.cells #[.int .i64 b.f, .int .i64 b.t, .int .i64 b.o] 43)).cell? ⟨w.heap.size + 1, 1, none⟩ = some (.int .i64 b.t) := by rw [← World.size_alloc w (.cells #[.int .i64 a.f, .int .i64 a.t, .int .i64 a.o] 43)]; simp
  have a2 : ((w.alloc (.cells #[.int .i64 a.f, .int .i64 a.t, .int .i64 a.o] 43)).alloc (.cells #[.int .i64 b.f, .int .i64 b.t, .int .i64 b.o] 43)).cell? ⟨w.heap.size, 2, none⟩ = some (.int .i64 a.o) := cellA (by simp) _
  have b2 : ((w.alloc (.cells #[.int .i64 a.f, .int .i64 a.t, .int .i64 a.o] 43)).alloc (.cells #[.int .i64 b.f, .int .i64 b.t, .int .i64 b.o] 43)).cell? ⟨w.heap.size + 1, 2, none⟩ = some (.int .i64 b.o) := by rw [← World.size_alloc w (.cells #[.int .i64 a.f, .int .i64 a.t, .int .i64 a.o] 43)]; simp
  unfold cmpE
  have C0 := Lib.hid (CC.out a.f b.f)
  have C1 := Lib.hid (CC.out a.t b.t)
  have C2 := Lib.hid (CC.out a.o b.o)
  clear CC
  generalize cmp3 a.f b.f = v0 at *
  generalize cmp3 a.t b.t = v1 at *
  generalize cmp3 a.o b.o = v2 at *
  go_enter Try.func23, Try.ntmps23
  go_upto_region 1 with fail
  refine wp_region_held_drew (S := fun w' => w'.cell? ⟨w.heap.size, 0, none⟩ = some (.int .i64 a.f) ∧ w'.cell? ⟨w.heap.size, 1, none⟩ = some (.int .i64 a.t) ∧ w'.cell? ⟨w.heap.size, 2, none⟩ = some (.int .i64 a.o) ∧ w'.cell? ⟨w.heap.size + 1, 0, none⟩ = some (.int .i64 b.f) ∧ w'.cell? ⟨w.heap.size + 1, 1, none⟩ = some (.int .i64 b.t) ∧ w'.cell? ⟨w.heap.size + 1, 2, none⟩ = some (.int .i64 b.o) ∧ Hid (Below w.heap.size w w')) (by kernel_rfl) ?_ (fun hHeld => ?_)
  · exact ⟨a0, a1, a2, b0, b1, b2, B0.out.drew⟩
  refine wpAnyH_take (oi := ⟨_, _, _, _, _, _⟩) (i := 0) (v := ?_) rfl (by kernel_rfl) (by kernel_rfl) (by kernel_rfl) (fun _ _ _ h => h) (Or.inl ⟨by rfl, ?ya0⟩) (by assumption) ?ra0
  case ya0 => (intro w hSw; (try dsimp only at hSw); go_simp; (try with_reducible rfl))
  try simp only [Act.put, List.setIfInBounds_toArray, List.set_cons_zero, List.set_cons_succ]
  refine wpAnyH_take (oi := ⟨_, _, _, _, _, _⟩) (i := 1) (v := ?_) rfl (by kernel_rfl) (by kernel_rfl) (by kernel_rfl) (fun _ _ _ h => h) (Or.inl ⟨by rfl, ?ya1⟩) (by assumption) ?ra1
  case ya1 => (intro w hSw; (try dsimp only at hSw); go_simp; (try with_reducible rfl))
  try simp only [Act.put, List.setIfInBounds_toArray, List.set_cons_zero, List.set_cons_succ]
  refine wpAnyH_take (oi := ⟨_, _, _, _, _, _⟩) (i := 2) (v := ?_) rfl (by kernel_rfl) (by kernel_rfl) (by kernel_rfl) (fun _ _ _ h => h) (Or.inl ⟨by rfl, ?ya2⟩) (by assumption) ?ra2
  case ya2 => (intro w hSw; (try dsimp only at hSw); go_simp; (try with_reducible rfl))
  try simp only [Act.put, List.setIfInBounds_toArray, List.set_cons_zero, List.set_cons_succ]
  refine wpAnyH_take (oi := ⟨_, _, _, _, _, _⟩) (i := 3) (v := ?_) rfl (by kernel_rfl) (by kernel_rfl) (by kernel_rfl) (fun _ _ _ h => h) (Or.inl ⟨by rfl, ?ya3⟩) (by assumption) ?ra3
  case ya3 => (intro w hSw; (try dsimp only at hSw); go_simp; (try with_reducible rfl))
  try simp only [Act.put, List.setIfInBounds_toArray, List.set_cons_zero, List.set_cons_succ]
  refine wpAnyH_take (oi := ⟨_, _, _, _, _, _⟩) (i := 5) (v := ?_) rfl (by kernel_rfl) (by kernel_rfl) (by kernel_rfl) (fun _ _ _ h => h) (Or.inl ⟨by rfl, ?ya5⟩) (by assumption) ?ra5
  case ya5 => (intro w hSw; (try dsimp only at hSw); go_simp; (try with_reducible rfl))
  try simp only [Act.put, List.setIfInBounds_toArray, List.set_cons_zero, List.set_cons_succ]
  refine wpAnyH_take (oi := ⟨_, _, _, _, _, _⟩) (i := 6) (v := ?_) rfl (by kernel_rfl) (by kernel_rfl) (by kernel_rfl) (fun _ _ _ h => h) (Or.inl ⟨by rfl, ?ya6⟩) (by assumption) ?ra6
  case ya6 => (intro w hSw; (try dsimp only at hSw); go_simp; (try with_reducible rfl))
  try simp only [Act.put, List.setIfInBounds_toArray, List.set_cons_zero, List.set_cons_succ]
  refine wpAnyH_take (oi := ⟨_, _, _, _, _, _⟩) (i := 7) (v := ?_) rfl (by kernel_rfl) (by kernel_rfl) (by kernel_rfl) (fun _ _ _ h => h) (Or.inl ⟨by rfl, ?ya7⟩) (by assumption) ?ra7
  case ya7 => (intro w hSw; (try dsimp only at hSw); go_simp; (try with_reducible rfl))
  try simp only [Act.put, List.setIfInBounds_toArray, List.set_cons_zero, List.set_cons_succ]
  refine wpAnyH_take (oi := ⟨_, _, _, _, _, _⟩) (i := 8) (v := ?_) rfl (by kernel_rfl) (by kernel_rfl) (by kernel_rfl) (fun _ _ _ h => h) (Or.inl ⟨by rfl, ?ya8⟩) (by assumption) ?ra8
  case ya8 => (intro w hSw; (try dsimp only at hSw); go_simp; (try with_reducible rfl))
  try simp only [Act.put, List.setIfInBounds_toArray, List.set_cons_zero, List.set_cons_succ]
  refine wpAnyH_take (oi := ⟨_, _, _, _, _, _⟩) (i := 10) (v := ?_) rfl (by kernel_rfl) (by kernel_rfl) (by kernel_rfl) (fun _ _ _ h => h) (Or.inl ⟨by rfl, ?ya10⟩) (by assumption) ?ra10
  case ya10 => (intro w hSw; (try dsimp only at hSw); go_simp; (try with_reducible rfl))
  try simp only [Act.put, List.setIfInBounds_toArray, List.set_cons_zero, List.set_cons_succ]
  refine wpAnyH_take (oi := ⟨_, _, _, _, _, _⟩) (i := 11) (v := ?_) rfl (by kernel_rfl) (by kernel_rfl) (by kernel_rfl) (fun _ _ _ h => h) (Or.inl ⟨by rfl, ?ya11⟩) (by assumption) ?ra11
  case ya11 => (intro w hSw; (try dsimp only at hSw); go_simp; (try with_reducible rfl))
  try simp only [Act.put, List.setIfInBounds_toArray, List.set_cons_zero, List.set_cons_succ]
  refine wpAnyH_take (oi := ⟨_, _, _, _, _, _⟩) (i := 12) (v := ?_) rfl (by kernel_rfl) (by kernel_rfl) (by kernel_rfl) (fun _ _ _ h => h) (Or.inl ⟨by rfl, ?ya12⟩) (by assumption) ?ra12
  case ya12 => (intro w hSw; (try dsimp only at hSw); go_simp; (try with_reducible rfl))
  try simp only [Act.put, List.setIfInBounds_toArray, List.set_cons_zero, List.set_cons_succ]
  refine wpAnyH_take (oi := ⟨_, _, _, _, _, _⟩) (i := 13) (v := ?_) rfl (by kernel_rfl) (by kernel_rfl) (by kernel_rfl) (fun _ _ _ h => h) (Or.inl ⟨by rfl, ?ya13⟩) (by assumption) ?ra13
  case ya13 => (intro w hSw; (try dsimp only at hSw); go_simp; (try with_reducible rfl))
  try simp only [Act.put, List.setIfInBounds_toArray, List.set_cons_zero, List.set_cons_succ]
  refine wpAnyH_ready (rs := [4]) (by kernel_rfl) (by simp) ?_
  refine AllReadyH.cons (o := ⟨_, _, _, _, _, _⟩) rfl (fun K hK => ?_) AllReadyH.nil
  go_simp
  go_at_call 41; refine (C0.out _).mono ?_; rintro e w3 ⟨rfl, rfl⟩; (try go_wp2_with fail)
  refine hK.out _ _ ?_ (fun hHeld2 => ?_)
  · exact hHeld
  clear hK K hHeld
  have hHeld := hHeld2
  clear hHeld2
  try simp only [Act.put, List.setIfInBounds_toArray, List.set_cons_zero, List.set_cons_succ]
  refine wpAnyH_ready (rs := [9]) (by kernel_rfl) (by simp) ?_
  refine AllReadyH.cons (o := ⟨_, _, _, _, _, _⟩) rfl (fun K hK => ?_) AllReadyH.nil
  go_simp
  go_at_call 41; refine (C1.out _).mono ?_; rintro e w4 ⟨rfl, rfl⟩; (try go_wp2_with fail)
  refine hK.out _ _ ?_ (fun hHeld2 => ?_)
  · exact hHeld
  clear hK K hHeld
  have hHeld := hHeld2
  clear hHeld2
  try simp only [Act.put, List.setIfInBounds_toArray, List.set_cons_zero, List.set_cons_succ]
  refine wpAnyH_ready (rs := [14]) (by kernel_rfl) (by simp) ?_
  refine AllReadyH.cons (o := ⟨_, _, _, _, _, _⟩) rfl (fun K hK => ?_) AllReadyH.nil
  go_simp
  go_at_call 41; refine (C2.out _).mono ?_; rintro e w5 ⟨rfl, rfl⟩; (try go_wp2_with fail)
  refine hK.out _ _ ?_ (fun hHeld2 => ?_)
  · exact hHeld
  clear hK K hHeld
  have hHeld := hHeld2
  clear hHeld2
  try simp only [Act.put, List.setIfInBounds_toArray, List.set_cons_zero, List.set_cons_succ]
  generalize ((w.alloc (.cells #[.int .i64 a.f, .int .i64 a.t, .int .i64 a.o] 43)).alloc (.cells #[.int .i64 b.f, .int .i64 b.t, .int .i64 b.o] 43)).drew = w4 at *
  refine wpAnyH_ready (rs := [15]) (by kernel_rfl) (by simp) ?_
  refine AllReadyH.cons (o := ⟨_, _, _, _, _, _⟩) rfl (fun K hK => ?_) AllReadyH.nil
  rw [if_pos (by rfl)]
  have LA : Below w4.heap.size w4 (w4.alloc (.cells #[.int .i64 v0, .int .i64 v1, .int .i64 v2] 3)) := (Below.refl _ _).alloc (Nat.le_refl _) _
  go_simp
  refine hK.out _ _ ?_ (fun hHeld2 => ?_)
  · obtain ⟨h1, h2, h3, h4, h5, h6, h7⟩ := hHeld; exact ⟨keepc h1 LA, keepc h2 LA, keepc h3 LA, keepc h4 LA, keepc h5 LA, keepc h6 LA, h7.out.trans (LA.mono h7.out.size)⟩
  clear hK K hHeld
  have hHeld := hHeld2
  clear hHeld2
  try simp only [Act.put, List.setIfInBounds_toArray, List.set_cons_zero, List.set_cons_succ]
  refine wpAnyH_ready (rs := [16]) (by kernel_rfl) (by simp) ?_
  refine AllReadyH.cons (o := ⟨_, _, _, _, _, _⟩) rfl (fun K hK => ?_) AllReadyH.nil
  go_simp
  go_at_call 40; refine (or_any w4.heap.size 3 v0 v1 v2 _ (by simp) (by simp) (by simp)).mono ?_; rintro e w6 ⟨rfl, K⟩; (try go_wp2_with fail)
  refine hK.out _ _ ?_ (fun hHeld2 => ?_)
  · obtain ⟨h1, h2, h3, h4, h5, h6, h7⟩ := hHeld; exact ⟨keepc h1 K, keepc h2 K, keepc h3 K, keepc h4 K, keepc h5 K, keepc h6 K, h7.out.trans (K.mono h7.out.size)⟩
  clear hK K hHeld
  have hHeld := hHeld2
  clear hHeld2
  try simp only [Act.put, List.setIfInBounds_toArray, List.set_cons_zero, List.set_cons_succ]
  refine wpAnyH_take (oi := ⟨_, _, _, _, _, _⟩) (i := 17) (v := ?_) rfl (by kernel_rfl) (by kernel_rfl) (by kernel_rfl) (fun _ _ _ h => h) (Or.inl ⟨by rfl, ?yb17⟩) (by assumption) ?rb17
  case yb17 => (intro w hSw; (try dsimp only at hSw); go_simp; (try with_reducible rfl))
  try simp only [Act.put, List.setIfInBounds_toArray, List.set_cons_zero, List.set_cons_succ]
  refine wpAnyH_done (by kernel_rfl) ?_ _
  obtain ⟨_, _, _, _, _, _, B9⟩ := hHeld
  go_wp2
  go_ret
  exact ⟨rfl, B9.out⟩

theorem take_one {L : List EdgeV} (h : 0 < L.length) : L.take 1 = [eA L 0] := by
  rw [eA_take h]; rfl
theorem sg_one (S : Nat) {L : List EdgeV} (h : 0 < L.length) : signZ S (L.take 1) = (crossZ S (eA L 0), true) := by rw [take_one h, sign_one]
theorem sg_step (S : Nat) {L : List EdgeV} {k : Nat} {c : Int} (h0 : 0 < k) (hk : k < L.length) (h : signZ S (L.take k) = (c, true)) : signZ S (L.take (k + 1)) = if crossZ S (eA L k) = c then (c, true) else (0, false) := by
  rw [eA_take hk]
  refine sign_snoc (fun e => ?_) h
  have := congrArg List.length e
  rw [List.length_take, List.length_nil] at this
  omega
theorem sg_dead (S : Nat) {L : List EdgeV} {k : Nat} (h : signZ S (L.take k) = (0, false)) : signZ S L = (0, false) := by
  have := sign_dead (S := S) (L := L.take k) (M := L.drop k) (by rw [h])
  rw [List.take_append_drop] at this
  exact this

end Go.Proofs.Ythcbcgaekbmoaaa
