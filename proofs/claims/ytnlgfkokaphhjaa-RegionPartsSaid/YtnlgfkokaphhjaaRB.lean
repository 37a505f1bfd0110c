/- Regions: comparisons of edges, signs, by the program and the reference. -/
import Derived.Test.YtnlgfkokaphhjaaRA
namespace Go.Proofs.Ytnlgfkokaphhjaa
open Go.RowKit

def cmpE (a b : EdgeV) : Int := or3 (cmp3 a.f b.f) (or3 (cmp3 a.t b.t) (cmp3 a.o b.o) 0) 0

set_option maxHeartbeats 4000000 in
set_option maxRecDepth 100000 in
theorem rcross_any (a : EdgeV) (S : Nat) (w : World) (hS : S < 18446744073709551616) :
    Calls Try.prog 45 #[.int .u64 (S : Nat), .agg #[.int .i64 a.f, .int .i64 a.t, .int .i64 a.o]] w (VPost w.heap.size w (.int .i64 (crossZ S a))) := by
  have CF : Hid (∀ W, Calls Try.prog 67 #[.int .u64 (S : Nat), .int .i64 a.f] W (fun e w' => e = .returned (.bool (Bt.hasV S a.f)) ∧ W = w')) := fun W => Bt.rhas_any S a.f W hS
  have CO : Hid (∀ W, Calls Try.prog 67 #[.int .u64 (S : Nat), .int .i64 a.o] W (fun e w' => e = .returned (.bool (Bt.hasV S a.o)) ∧ W = w')) := fun W => Bt.rhas_any S a.o W hS
  rw [cross_of]
  have B0 : Hid (Below w.heap.size w (w.alloc (.cells #[.int .i64 a.f, .int .i64 a.t, .int .i64 a.o] 45))) := (Below.refl _ _).alloc (Nat.le_refl _) _
  have q0 : (w.alloc (.cells #[.int .i64 a.f, .int .i64 a.t, .int .i64 a.o] 45)).cell? ⟨w.heap.size, 0, none⟩ = some (.int .i64 a.f) := by simp
  have q1 : (w.alloc (.cells #[.int .i64 a.f, .int .i64 a.t, .int .i64 a.o] 45)).cell? ⟨w.heap.size, 1, none⟩ = some (.int .i64 a.t) := by simp
  have q2 : (w.alloc (.cells #[.int .i64 a.f, .int .i64 a.t, .int .i64 a.o] 45)).cell? ⟨w.heap.size, 2, none⟩ = some (.int .i64 a.o) := by simp
  generalize Bt.hasV S a.f = x at *
  generalize Bt.hasV S a.o = y at *
  cases x
  · cases y
    · skip
      go_enter Try.func45, Try.ntmps45
      go_upto_region 1 with fail
      refine wp_region_held_drew (S := fun w' => w'.cell? ⟨w.heap.size, 0, none⟩ = some (.int .i64 a.f) ∧ w'.cell? ⟨w.heap.size, 2, none⟩ = some (.int .i64 a.o) ∧ Hid (Below w.heap.size w w')) (by kernel_rfl) ?_ (fun hHeld => ?_)
      · exact ⟨q0, q2, B0.out.drew⟩
      refine wpAnyH_take (oi := ⟨_, _, _, _, _, _⟩) (i := 0) (v := ?_) rfl (by kernel_rfl) (by kernel_rfl) (by kernel_rfl) (fun _ _ _ h => h) (Or.inl ⟨by rfl, ?yx00⟩) (by assumption) ?rx00
      case yx00 => (intro w hSw; (try dsimp only at hSw); go_simp; (try with_reducible rfl))
      try simp only [Act.put, List.setIfInBounds_toArray, List.set_cons_zero, List.set_cons_succ]
      refine wpAnyH_take (oi := ⟨_, _, _, _, _, _⟩) (i := 1) (v := ?_) rfl (by kernel_rfl) (by kernel_rfl) (by kernel_rfl) (fun _ _ _ h => h) (Or.inl ⟨by rfl, ?yx01⟩) (by assumption) ?rx01
      case yx01 => (intro w hSw; (try dsimp only at hSw); go_simp; (try with_reducible rfl))
      try simp only [Act.put, List.setIfInBounds_toArray, List.set_cons_zero, List.set_cons_succ]
      refine wpAnyH_take (oi := ⟨_, _, _, _, _, _⟩) (i := 2) (v := ?_) rfl (by kernel_rfl) (by kernel_rfl) (by kernel_rfl) (fun _ _ _ h => h) (Or.inl ⟨by rfl, ?yx02⟩) (by assumption) ?rx02
      case yx02 => (intro w hSw; (try dsimp only at hSw); go_simp; (try with_reducible rfl))
      try simp only [Act.put, List.setIfInBounds_toArray, List.set_cons_zero, List.set_cons_succ]
      refine wpAnyH_take (oi := ⟨_, _, _, _, _, _⟩) (i := 4) (v := ?_) rfl (by kernel_rfl) (by kernel_rfl) (by kernel_rfl) (fun _ _ _ h => h) (Or.inl ⟨by rfl, ?yx04⟩) (by assumption) ?rx04
      case yx04 => (intro w hSw; (try dsimp only at hSw); go_simp; (try with_reducible rfl))
      try simp only [Act.put, List.setIfInBounds_toArray, List.set_cons_zero, List.set_cons_succ]
      refine wpAnyH_take (oi := ⟨_, _, _, _, _, _⟩) (i := 5) (v := ?_) rfl (by kernel_rfl) (by kernel_rfl) (by kernel_rfl) (fun _ _ _ h => h) (Or.inl ⟨by rfl, ?yx05⟩) (by assumption) ?rx05
      case yx05 => (intro w hSw; (try dsimp only at hSw); go_simp; (try with_reducible rfl))
      try simp only [Act.put, List.setIfInBounds_toArray, List.set_cons_zero, List.set_cons_succ]
      refine wpAnyH_take (oi := ⟨_, _, _, _, _, _⟩) (i := 6) (v := ?_) rfl (by kernel_rfl) (by kernel_rfl) (by kernel_rfl) (fun _ _ _ h => h) (Or.inl ⟨by rfl, ?yx06⟩) (by assumption) ?rx06
      case yx06 => (intro w hSw; (try dsimp only at hSw); go_simp; (try with_reducible rfl))
      try simp only [Act.put, List.setIfInBounds_toArray, List.set_cons_zero, List.set_cons_succ]
      refine wpAnyH_ready (rs := [3]) (by kernel_rfl) (by simp) ?_
      refine AllReadyH.cons (o := ⟨_, _, _, _, _, _⟩) rfl (fun K hK => ?_) AllReadyH.nil
      go_simp
      go_at_call 67; refine (CF.out _).mono ?_; rintro e w3 ⟨rfl, rfl⟩; (try go_wp2_with fail)
      refine hK.out _ _ ?_ (fun hHeld2 => ?_)
      · exact hHeld
      clear hK K hHeld
      have hHeld := hHeld2
      clear hHeld2
      try simp only [Act.put, List.setIfInBounds_toArray, List.set_cons_zero, List.set_cons_succ]
      refine wpAnyH_ready (rs := [7]) (by kernel_rfl) (by simp) ?_
      refine AllReadyH.cons (o := ⟨_, _, _, _, _, _⟩) rfl (fun K hK => ?_) AllReadyH.nil
      go_simp
      go_at_call 67; refine (CO.out _).mono ?_; rintro e w4 ⟨rfl, rfl⟩; (try go_wp2_with fail)
      refine hK.out _ _ ?_ (fun hHeld2 => ?_)
      · exact hHeld
      clear hK K hHeld
      have hHeld := hHeld2
      clear hHeld2
      try simp only [Act.put, List.setIfInBounds_toArray, List.set_cons_zero, List.set_cons_succ]
      refine wpAnyH_take (oi := ⟨_, _, _, _, _, _⟩) (i := 8) (v := ?_) rfl (by kernel_rfl) (by kernel_rfl) (by kernel_rfl) (fun _ _ _ h => h) (Or.inl ⟨by rfl, ?yx08⟩) (by assumption) ?rx08
      case yx08 => (intro w hSw; (try dsimp only at hSw); go_simp; (try with_reducible rfl))
      try simp only [Act.put, List.setIfInBounds_toArray, List.set_cons_zero, List.set_cons_succ]
      refine wpAnyH_take (oi := ⟨_, _, _, _, _, _⟩) (i := 9) (v := ?_) rfl (by kernel_rfl) (by kernel_rfl) (by kernel_rfl) (fun _ _ _ h => h) (Or.inl ⟨by rfl, ?yx09⟩) (by assumption) ?rx09
      case yx09 => (intro w hSw; (try dsimp only at hSw); go_simp; (try with_reducible rfl))
      try simp only [Act.put, List.setIfInBounds_toArray, List.set_cons_zero, List.set_cons_succ]
      refine wpAnyH_done (by kernel_rfl) ?_ _
      have B9 := hHeld.2.2
      clear hHeld
      go_wp2
      go_ret
      exact ⟨rfl, B9.out⟩
    · skip
      go_enter Try.func45, Try.ntmps45
      go_upto_region 1 with fail
      refine wp_region_held_drew (S := fun w' => w'.cell? ⟨w.heap.size, 0, none⟩ = some (.int .i64 a.f) ∧ w'.cell? ⟨w.heap.size, 2, none⟩ = some (.int .i64 a.o) ∧ Hid (Below w.heap.size w w')) (by kernel_rfl) ?_ (fun hHeld => ?_)
      · exact ⟨q0, q2, B0.out.drew⟩
      refine wpAnyH_take (oi := ⟨_, _, _, _, _, _⟩) (i := 0) (v := ?_) rfl (by kernel_rfl) (by kernel_rfl) (by kernel_rfl) (fun _ _ _ h => h) (Or.inl ⟨by rfl, ?yx10⟩) (by assumption) ?rx10
      case yx10 => (intro w hSw; (try dsimp only at hSw); go_simp; (try with_reducible rfl))
      try simp only [Act.put, List.setIfInBounds_toArray, List.set_cons_zero, List.set_cons_succ]
      refine wpAnyH_take (oi := ⟨_, _, _, _, _, _⟩) (i := 1) (v := ?_) rfl (by kernel_rfl) (by kernel_rfl) (by kernel_rfl) (fun _ _ _ h => h) (Or.inl ⟨by rfl, ?yx11⟩) (by assumption) ?rx11
      case yx11 => (intro w hSw; (try dsimp only at hSw); go_simp; (try with_reducible rfl))
      try simp only [Act.put, List.setIfInBounds_toArray, List.set_cons_zero, List.set_cons_succ]
      refine wpAnyH_take (oi := ⟨_, _, _, _, _, _⟩) (i := 2) (v := ?_) rfl (by kernel_rfl) (by kernel_rfl) (by kernel_rfl) (fun _ _ _ h => h) (Or.inl ⟨by rfl, ?yx12⟩) (by assumption) ?rx12
      case yx12 => (intro w hSw; (try dsimp only at hSw); go_simp; (try with_reducible rfl))
      try simp only [Act.put, List.setIfInBounds_toArray, List.set_cons_zero, List.set_cons_succ]
      refine wpAnyH_take (oi := ⟨_, _, _, _, _, _⟩) (i := 4) (v := ?_) rfl (by kernel_rfl) (by kernel_rfl) (by kernel_rfl) (fun _ _ _ h => h) (Or.inl ⟨by rfl, ?yx14⟩) (by assumption) ?rx14
      case yx14 => (intro w hSw; (try dsimp only at hSw); go_simp; (try with_reducible rfl))
      try simp only [Act.put, List.setIfInBounds_toArray, List.set_cons_zero, List.set_cons_succ]
      refine wpAnyH_take (oi := ⟨_, _, _, _, _, _⟩) (i := 5) (v := ?_) rfl (by kernel_rfl) (by kernel_rfl) (by kernel_rfl) (fun _ _ _ h => h) (Or.inl ⟨by rfl, ?yx15⟩) (by assumption) ?rx15
      case yx15 => (intro w hSw; (try dsimp only at hSw); go_simp; (try with_reducible rfl))
      try simp only [Act.put, List.setIfInBounds_toArray, List.set_cons_zero, List.set_cons_succ]
      refine wpAnyH_take (oi := ⟨_, _, _, _, _, _⟩) (i := 6) (v := ?_) rfl (by kernel_rfl) (by kernel_rfl) (by kernel_rfl) (fun _ _ _ h => h) (Or.inl ⟨by rfl, ?yx16⟩) (by assumption) ?rx16
      case yx16 => (intro w hSw; (try dsimp only at hSw); go_simp; (try with_reducible rfl))
      try simp only [Act.put, List.setIfInBounds_toArray, List.set_cons_zero, List.set_cons_succ]
      refine wpAnyH_ready (rs := [3]) (by kernel_rfl) (by simp) ?_
      refine AllReadyH.cons (o := ⟨_, _, _, _, _, _⟩) rfl (fun K hK => ?_) AllReadyH.nil
      go_simp
      go_at_call 67; refine (CF.out _).mono ?_; rintro e w3 ⟨rfl, rfl⟩; (try go_wp2_with fail)
      refine hK.out _ _ ?_ (fun hHeld2 => ?_)
      · exact hHeld
      clear hK K hHeld
      have hHeld := hHeld2
      clear hHeld2
      try simp only [Act.put, List.setIfInBounds_toArray, List.set_cons_zero, List.set_cons_succ]
      refine wpAnyH_ready (rs := [7]) (by kernel_rfl) (by simp) ?_
      refine AllReadyH.cons (o := ⟨_, _, _, _, _, _⟩) rfl (fun K hK => ?_) AllReadyH.nil
      go_simp
      go_at_call 67; refine (CO.out _).mono ?_; rintro e w4 ⟨rfl, rfl⟩; (try go_wp2_with fail)
      refine hK.out _ _ ?_ (fun hHeld2 => ?_)
      · exact hHeld
      clear hK K hHeld
      have hHeld := hHeld2
      clear hHeld2
      try simp only [Act.put, List.setIfInBounds_toArray, List.set_cons_zero, List.set_cons_succ]
      refine wpAnyH_take (oi := ⟨_, _, _, _, _, _⟩) (i := 8) (v := ?_) rfl (by kernel_rfl) (by kernel_rfl) (by kernel_rfl) (fun _ _ _ h => h) (Or.inl ⟨by rfl, ?yx18⟩) (by assumption) ?rx18
      case yx18 => (intro w hSw; (try dsimp only at hSw); go_simp; (try with_reducible rfl))
      try simp only [Act.put, List.setIfInBounds_toArray, List.set_cons_zero, List.set_cons_succ]
      refine wpAnyH_take (oi := ⟨_, _, _, _, _, _⟩) (i := 9) (v := ?_) rfl (by kernel_rfl) (by kernel_rfl) (by kernel_rfl) (fun _ _ _ h => h) (Or.inl ⟨by rfl, ?yx19⟩) (by assumption) ?rx19
      case yx19 => (intro w hSw; (try dsimp only at hSw); go_simp; (try with_reducible rfl))
      try simp only [Act.put, List.setIfInBounds_toArray, List.set_cons_zero, List.set_cons_succ]
      refine wpAnyH_done (by kernel_rfl) ?_ _
      have B9 := hHeld.2.2
      clear hHeld
      go_wp2
      go_ret
      exact ⟨rfl, B9.out⟩
  · cases y
    · skip
      go_enter Try.func45, Try.ntmps45
      go_upto_region 1 with fail
      refine wp_region_held_drew (S := fun w' => w'.cell? ⟨w.heap.size, 0, none⟩ = some (.int .i64 a.f) ∧ w'.cell? ⟨w.heap.size, 2, none⟩ = some (.int .i64 a.o) ∧ Hid (Below w.heap.size w w')) (by kernel_rfl) ?_ (fun hHeld => ?_)
      · exact ⟨q0, q2, B0.out.drew⟩
      refine wpAnyH_take (oi := ⟨_, _, _, _, _, _⟩) (i := 0) (v := ?_) rfl (by kernel_rfl) (by kernel_rfl) (by kernel_rfl) (fun _ _ _ h => h) (Or.inl ⟨by rfl, ?yx20⟩) (by assumption) ?rx20
      case yx20 => (intro w hSw; (try dsimp only at hSw); go_simp; (try with_reducible rfl))
      try simp only [Act.put, List.setIfInBounds_toArray, List.set_cons_zero, List.set_cons_succ]
      refine wpAnyH_take (oi := ⟨_, _, _, _, _, _⟩) (i := 1) (v := ?_) rfl (by kernel_rfl) (by kernel_rfl) (by kernel_rfl) (fun _ _ _ h => h) (Or.inl ⟨by rfl, ?yx21⟩) (by assumption) ?rx21
      case yx21 => (intro w hSw; (try dsimp only at hSw); go_simp; (try with_reducible rfl))
      try simp only [Act.put, List.setIfInBounds_toArray, List.set_cons_zero, List.set_cons_succ]
      refine wpAnyH_take (oi := ⟨_, _, _, _, _, _⟩) (i := 2) (v := ?_) rfl (by kernel_rfl) (by kernel_rfl) (by kernel_rfl) (fun _ _ _ h => h) (Or.inl ⟨by rfl, ?yx22⟩) (by assumption) ?rx22
      case yx22 => (intro w hSw; (try dsimp only at hSw); go_simp; (try with_reducible rfl))
      try simp only [Act.put, List.setIfInBounds_toArray, List.set_cons_zero, List.set_cons_succ]
      refine wpAnyH_take (oi := ⟨_, _, _, _, _, _⟩) (i := 4) (v := ?_) rfl (by kernel_rfl) (by kernel_rfl) (by kernel_rfl) (fun _ _ _ h => h) (Or.inl ⟨by rfl, ?yx24⟩) (by assumption) ?rx24
      case yx24 => (intro w hSw; (try dsimp only at hSw); go_simp; (try with_reducible rfl))
      try simp only [Act.put, List.setIfInBounds_toArray, List.set_cons_zero, List.set_cons_succ]
      refine wpAnyH_take (oi := ⟨_, _, _, _, _, _⟩) (i := 5) (v := ?_) rfl (by kernel_rfl) (by kernel_rfl) (by kernel_rfl) (fun _ _ _ h => h) (Or.inl ⟨by rfl, ?yx25⟩) (by assumption) ?rx25
      case yx25 => (intro w hSw; (try dsimp only at hSw); go_simp; (try with_reducible rfl))
      try simp only [Act.put, List.setIfInBounds_toArray, List.set_cons_zero, List.set_cons_succ]
      refine wpAnyH_take (oi := ⟨_, _, _, _, _, _⟩) (i := 6) (v := ?_) rfl (by kernel_rfl) (by kernel_rfl) (by kernel_rfl) (fun _ _ _ h => h) (Or.inl ⟨by rfl, ?yx26⟩) (by assumption) ?rx26
      case yx26 => (intro w hSw; (try dsimp only at hSw); go_simp; (try with_reducible rfl))
      try simp only [Act.put, List.setIfInBounds_toArray, List.set_cons_zero, List.set_cons_succ]
      refine wpAnyH_ready (rs := [3]) (by kernel_rfl) (by simp) ?_
      refine AllReadyH.cons (o := ⟨_, _, _, _, _, _⟩) rfl (fun K hK => ?_) AllReadyH.nil
      go_simp
      go_at_call 67; refine (CF.out _).mono ?_; rintro e w3 ⟨rfl, rfl⟩; (try go_wp2_with fail)
      refine hK.out _ _ ?_ (fun hHeld2 => ?_)
      · exact hHeld
      clear hK K hHeld
      have hHeld := hHeld2
      clear hHeld2
      try simp only [Act.put, List.setIfInBounds_toArray, List.set_cons_zero, List.set_cons_succ]
      refine wpAnyH_ready (rs := [7]) (by kernel_rfl) (by simp) ?_
      refine AllReadyH.cons (o := ⟨_, _, _, _, _, _⟩) rfl (fun K hK => ?_) AllReadyH.nil
      go_simp
      go_at_call 67; refine (CO.out _).mono ?_; rintro e w4 ⟨rfl, rfl⟩; (try go_wp2_with fail)
      refine hK.out _ _ ?_ (fun hHeld2 => ?_)
      · exact hHeld
      clear hK K hHeld
      have hHeld := hHeld2
      clear hHeld2
      try simp only [Act.put, List.setIfInBounds_toArray, List.set_cons_zero, List.set_cons_succ]
      refine wpAnyH_take (oi := ⟨_, _, _, _, _, _⟩) (i := 8) (v := ?_) rfl (by kernel_rfl) (by kernel_rfl) (by kernel_rfl) (fun _ _ _ h => h) (Or.inl ⟨by rfl, ?yx28⟩) (by assumption) ?rx28
      case yx28 => (intro w hSw; (try dsimp only at hSw); go_simp; (try with_reducible rfl))
      try simp only [Act.put, List.setIfInBounds_toArray, List.set_cons_zero, List.set_cons_succ]
      refine wpAnyH_take (oi := ⟨_, _, _, _, _, _⟩) (i := 9) (v := ?_) rfl (by kernel_rfl) (by kernel_rfl) (by kernel_rfl) (fun _ _ _ h => h) (Or.inl ⟨by rfl, ?yx29⟩) (by assumption) ?rx29
      case yx29 => (intro w hSw; (try dsimp only at hSw); go_simp; (try with_reducible rfl))
      try simp only [Act.put, List.setIfInBounds_toArray, List.set_cons_zero, List.set_cons_succ]
      refine wpAnyH_done (by kernel_rfl) ?_ _
      have B9 := hHeld.2.2
      clear hHeld
      go_wp2
      go_ret
      exact ⟨rfl, B9.out⟩
    · skip
      go_enter Try.func45, Try.ntmps45
      go_upto_region 1 with fail
      refine wp_region_held_drew (S := fun w' => w'.cell? ⟨w.heap.size, 0, none⟩ = some (.int .i64 a.f) ∧ w'.cell? ⟨w.heap.size, 2, none⟩ = some (.int .i64 a.o) ∧ Hid (Below w.heap.size w w')) (by kernel_rfl) ?_ (fun hHeld => ?_)
      · exact ⟨q0, q2, B0.out.drew⟩
      refine wpAnyH_take (oi := ⟨_, _, _, _, _, _⟩) (i := 0) (v := ?_) rfl (by kernel_rfl) (by kernel_rfl) (by kernel_rfl) (fun _ _ _ h => h) (Or.inl ⟨by rfl, ?yx30⟩) (by assumption) ?rx30
      case yx30 => (intro w hSw; (try dsimp only at hSw); go_simp; (try with_reducible rfl))
      try simp only [Act.put, List.setIfInBounds_toArray, List.set_cons_zero, List.set_cons_succ]
      refine wpAnyH_take (oi := ⟨_, _, _, _, _, _⟩) (i := 1) (v := ?_) rfl (by kernel_rfl) (by kernel_rfl) (by kernel_rfl) (fun _ _ _ h => h) (Or.inl ⟨by rfl, ?yx31⟩) (by assumption) ?rx31
      case yx31 => (intro w hSw; (try dsimp only at hSw); go_simp; (try with_reducible rfl))
      try simp only [Act.put, List.setIfInBounds_toArray, List.set_cons_zero, List.set_cons_succ]
      refine wpAnyH_take (oi := ⟨_, _, _, _, _, _⟩) (i := 2) (v := ?_) rfl (by kernel_rfl) (by kernel_rfl) (by kernel_rfl) (fun _ _ _ h => h) (Or.inl ⟨by rfl, ?yx32⟩) (by assumption) ?rx32
      case yx32 => (intro w hSw; (try dsimp only at hSw); go_simp; (try with_reducible rfl))
      try simp only [Act.put, List.setIfInBounds_toArray, List.set_cons_zero, List.set_cons_succ]
      refine wpAnyH_take (oi := ⟨_, _, _, _, _, _⟩) (i := 4) (v := ?_) rfl (by kernel_rfl) (by kernel_rfl) (by kernel_rfl) (fun _ _ _ h => h) (Or.inl ⟨by rfl, ?yx34⟩) (by assumption) ?rx34
      case yx34 => (intro w hSw; (try dsimp only at hSw); go_simp; (try with_reducible rfl))
      try simp only [Act.put, List.setIfInBounds_toArray, List.set_cons_zero, List.set_cons_succ]
      refine wpAnyH_take (oi := ⟨_, _, _, _, _, _⟩) (i := 5) (v := ?_) rfl (by kernel_rfl) (by kernel_rfl) (by kernel_rfl) (fun _ _ _ h => h) (Or.inl ⟨by rfl, ?yx35⟩) (by assumption) ?rx35
      case yx35 => (intro w hSw; (try dsimp only at hSw); go_simp; (try with_reducible rfl))
      try simp only [Act.put, List.setIfInBounds_toArray, List.set_cons_zero, List.set_cons_succ]
      refine wpAnyH_take (oi := ⟨_, _, _, _, _, _⟩) (i := 6) (v := ?_) rfl (by kernel_rfl) (by kernel_rfl) (by kernel_rfl) (fun _ _ _ h => h) (Or.inl ⟨by rfl, ?yx36⟩) (by assumption) ?rx36
      case yx36 => (intro w hSw; (try dsimp only at hSw); go_simp; (try with_reducible rfl))
      try simp only [Act.put, List.setIfInBounds_toArray, List.set_cons_zero, List.set_cons_succ]
      refine wpAnyH_ready (rs := [3]) (by kernel_rfl) (by simp) ?_
      refine AllReadyH.cons (o := ⟨_, _, _, _, _, _⟩) rfl (fun K hK => ?_) AllReadyH.nil
      go_simp
      go_at_call 67; refine (CF.out _).mono ?_; rintro e w3 ⟨rfl, rfl⟩; (try go_wp2_with fail)
      refine hK.out _ _ ?_ (fun hHeld2 => ?_)
      · exact hHeld
      clear hK K hHeld
      have hHeld := hHeld2
      clear hHeld2
      try simp only [Act.put, List.setIfInBounds_toArray, List.set_cons_zero, List.set_cons_succ]
      refine wpAnyH_ready (rs := [7]) (by kernel_rfl) (by simp) ?_
      refine AllReadyH.cons (o := ⟨_, _, _, _, _, _⟩) rfl (fun K hK => ?_) AllReadyH.nil
      go_simp
      go_at_call 67; refine (CO.out _).mono ?_; rintro e w4 ⟨rfl, rfl⟩; (try go_wp2_with fail)
      refine hK.out _ _ ?_ (fun hHeld2 => ?_)
      · exact hHeld
      clear hK K hHeld
      have hHeld := hHeld2
      clear hHeld2
      try simp only [Act.put, List.setIfInBounds_toArray, List.set_cons_zero, List.set_cons_succ]
      refine wpAnyH_take (oi := ⟨_, _, _, _, _, _⟩) (i := 8) (v := ?_) rfl (by kernel_rfl) (by kernel_rfl) (by kernel_rfl) (fun _ _ _ h => h) (Or.inl ⟨by rfl, ?yx38⟩) (by assumption) ?rx38
      case yx38 => (intro w hSw; (try dsimp only at hSw); go_simp; (try with_reducible rfl))
      try simp only [Act.put, List.setIfInBounds_toArray, List.set_cons_zero, List.set_cons_succ]
      refine wpAnyH_take (oi := ⟨_, _, _, _, _, _⟩) (i := 9) (v := ?_) rfl (by kernel_rfl) (by kernel_rfl) (by kernel_rfl) (fun _ _ _ h => h) (Or.inl ⟨by rfl, ?yx39⟩) (by assumption) ?rx39
      case yx39 => (intro w hSw; (try dsimp only at hSw); go_simp; (try with_reducible rfl))
      try simp only [Act.put, List.setIfInBounds_toArray, List.set_cons_zero, List.set_cons_succ]
      refine wpAnyH_done (by kernel_rfl) ?_ _
      have B9 := hHeld.2.2
      clear hHeld
      go_wp2
      go_ret
      exact ⟨rfl, B9.out⟩

set_option maxHeartbeats 4000000 in
set_option maxRecDepth 100000 in
theorem compareArcs_any (a b : EdgeV) (w : World) :
    Calls Try.prog 49 #[.agg #[.int .i64 a.f, .int .i64 a.t, .int .i64 a.o], .agg #[.int .i64 b.f, .int .i64 b.t, .int .i64 b.o]] w (VPost w.heap.size w (.int .i64 (cmpE a b))) := by
  have CC : Hid (∀ (x y : Int) W, Calls Try.prog 57 #[.int .i64 x, .int .i64 y] W (fun e w' => e = .returned (.int .i64 (cmp3 x y)) ∧ W = w')) := fun x y W => (Try.cmp_Compare_int x y W).mono fun _ _ ⟨h1, h2⟩ => ⟨h1, h2.symm⟩
  have B0 : Hid (Below w.heap.size w ((w.alloc (.cells #[.int .i64 a.f, .int .i64 a.t, .int .i64 a.o] 45)).alloc (.cells #[.int .i64 b.f, .int .i64 b.t, .int .i64 b.o] 45))) := ((Below.refl _ _).alloc (Nat.le_refl _) _).alloc (by simp) _
  have a0 : ((w.alloc (.cells #[.int .i64 a.f, .int .i64 a.t, .int .i64 a.o] 45)).alloc (.cells #[.int .i64 b.f, .int .i64 b.t, .int .i64 b.o] 45)).cell? ⟨w.heap.size, 0, none⟩ = some (.int .i64 a.f) := cellA (by simp) _
  have b0 : ((w.alloc (.cells #[.int .i64 a.f, .int .i64 a.t, .int .i64 a.o] 45)).alloc (.cells #[.int .i64 b.f, .int .i64 b.t, .int .i64 b.o] 45)).cell? ⟨w.heap.size + 1, 0, none⟩ = some (.int .i64 b.f) := by rw [← World.size_alloc w (.cells #[.int .i64 a.f, .int .i64 a.t, .int .i64 a.o] 45)]; simp
  have a1 : ((w.alloc (.cells #[.int .i64 a.f, .int .i64 a.t, .int .i64 a.o] 45)).alloc (.cells #[.int .i64 b.f, .int .i64 b.t, .int .i64 b.o] 45)).cell? ⟨w.heap.size, 1, none⟩ = some (.int .i64 a.t) := cellA (by simp) _
  have b1 : ((w.alloc (.cells #[.int .i64 a.f, .int .i64 a.t, .int .i64 a.o] 45)).alloc (.cells #[.int .i64 b.f, .int .i64 b.t, .int .i64 b.o] 45)).cell? ⟨w.heap.size + 1, 1, none⟩ = some (.int .i64 b.t) := by rw [← World.size_alloc w (.cells #[.int .i64 a.f, .int .i64 a.t, .int .i64 a.o] 45)]; simp
  have a2 : ((w.alloc (.cells #[.int .i64 a.f, .int .i64 a.t, .int .i64 a.o] 45)).alloc (.cells #[.int .i64 b.f, .int .i64 b.t, .int .i64 b.o] 45)).cell? ⟨w.heap.size, 2, none⟩ = some (.int .i64 a.o) := cellA (by simp) _
  have b2 : ((w.alloc (.cells #[.int .i64 a.f, .int .i64 a.t, .int .i64 a.o] 45)).alloc (.cells #[.int .i64 b.f, .int .i64 b.t, .int .i64 b.o] 45)).cell? ⟨w.heap.size + 1, 2, none⟩ = some (.int .i64 b.o) := by rw [← World.size_alloc w (.cells #[.int .i64 a.f, .int .i64 a.t, .int .i64 a.o] 45)]; simp
  unfold cmpE
  have C0 := Lib.hid (CC.out a.f b.f)
  have C1 := Lib.hid (CC.out a.t b.t)
  have C2 := Lib.hid (CC.out a.o b.o)
  clear CC
  generalize cmp3 a.f b.f = v0 at *
  generalize cmp3 a.t b.t = v1 at *
  generalize cmp3 a.o b.o = v2 at *
  go_enter Try.func49, Try.ntmps49
  go_upto_region 1 with fail
  refine wp_region_held_drew (S := fun w' => w'.cell? ⟨w.heap.size, 0, none⟩ = some (.int .i64 a.f) ∧ w'.cell? ⟨w.heap.size, 1, none⟩ = some (.int .i64 a.t) ∧ w'.cell? ⟨w.heap.size, 2, none⟩ = some (.int .i64 a.o) ∧ w'.cell? ⟨w.heap.size + 1, 0, none⟩ = some (.int .i64 b.f) ∧ w'.cell? ⟨w.heap.size + 1, 1, none⟩ = some (.int .i64 b.t) ∧ w'.cell? ⟨w.heap.size + 1, 2, none⟩ = some (.int .i64 b.o) ∧ Hid (Below w.heap.size w w')) (by kernel_rfl) ?_ (fun hHeld => ?_)
  · exact ⟨a0, a1, a2, b0, b1, b2, B0.out.drew⟩
  refine wpAnyH_take (oi := ⟨_, _, _, _, _, _⟩) (i := 0) (v := ?_) rfl (by kernel_rfl) (by kernel_rfl) (by kernel_rfl) (fun _ _ _ h => h) (Or.inl ⟨by rfl, ?ya0⟩) (by assumption) ?ra0
  case ya0 => (intro w hSw; (try dsimp only at hSw); go_simp; (try with_reducible rfl))
  try simp only [Act.put, List.setIfInBounds_toArray, List.set_cons_zero, List.set_cons_succ]
  refine wpAnyH_take (oi := ⟨_, _, _, _, _, _⟩) (i := 1) (v := ?_) rfl (by kernel_rfl) (by kernel_rfl) (by kernel_rfl) (fun _ _ _ h => h) (Or.inl ⟨by rfl, ?ya1⟩) (by assumption) ?ra1
  case ya1 => (intro w hSw; (try dsimp only at hSw); go_simp; (try with_reducible rfl))
  try simp only [Act.put, List.setIfInBounds_toArray, List.set_cons_zero, List.set_cons_succ]
  refine wpAnyH_take (oi := ⟨_, _, _, _, _, _⟩) (i := 2) (v := ?_) rfl (by kernel_rfl) (by kernel_rfl) (by kernel_rfl) (fun _ _ _ h => h) (Or.inl ⟨by rfl, ?ya2⟩) (by assumption) ?ra2
  case ya2 => (intro w hSw; (try dsimp only at hSw); go_simp; (try with_reducible rfl))
  try simp only [Act.put, List.setIfInBounds_toArray, List.set_cons_zero, List.set_cons_succ]
  refine wpAnyH_take (oi := ⟨_, _, _, _, _, _⟩) (i := 3) (v := ?_) rfl (by kernel_rfl) (by kernel_rfl) (by kernel_rfl) (fun _ _ _ h => h) (Or.inl ⟨by rfl, ?ya3⟩) (by assumption) ?ra3
  case ya3 => (intro w hSw; (try dsimp only at hSw); go_simp; (try with_reducible rfl))
  try simp only [Act.put, List.setIfInBounds_toArray, List.set_cons_zero, List.set_cons_succ]
  refine wpAnyH_take (oi := ⟨_, _, _, _, _, _⟩) (i := 5) (v := ?_) rfl (by kernel_rfl) (by kernel_rfl) (by kernel_rfl) (fun _ _ _ h => h) (Or.inl ⟨by rfl, ?ya5⟩) (by assumption) ?ra5
  case ya5 => (intro w hSw; (try dsimp only at hSw); go_simp; (try with_reducible rfl))
  try simp only [Act.put, List.setIfInBounds_toArray, List.set_cons_zero, List.set_cons_succ]
  refine wpAnyH_take (oi := ⟨_, _, _, _, _, _⟩) (i := 6) (v := ?_) rfl (by kernel_rfl) (by kernel_rfl) (by kernel_rfl) (fun _ _ _ h => h) (Or.inl ⟨by rfl, ?ya6⟩) (by assumption) ?ra6
  case ya6 => (intro w hSw; (try dsimp only at hSw); go_simp; (try with_reducible rfl))
  try simp only [Act.put, List.setIfInBounds_toArray, List.set_cons_zero, List.set_cons_succ]
  refine wpAnyH_take (oi := ⟨_, _, _, _, _, _⟩) (i := 7) (v := ?_) rfl (by kernel_rfl) (by kernel_rfl) (by kernel_rfl) (fun _ _ _ h => h) (Or.inl ⟨by rfl, ?ya7⟩) (by assumption) ?ra7
  case ya7 => (intro w hSw; (try dsimp only at hSw); go_simp; (try with_reducible rfl))
  try simp only [Act.put, List.setIfInBounds_toArray, List.set_cons_zero, List.set_cons_succ]
  refine wpAnyH_take (oi := ⟨_, _, _, _, _, _⟩) (i := 8) (v := ?_) rfl (by kernel_rfl) (by kernel_rfl) (by kernel_rfl) (fun _ _ _ h => h) (Or.inl ⟨by rfl, ?ya8⟩) (by assumption) ?ra8
  case ya8 => (intro w hSw; (try dsimp only at hSw); go_simp; (try with_reducible rfl))
  try simp only [Act.put, List.setIfInBounds_toArray, List.set_cons_zero, List.set_cons_succ]
  refine wpAnyH_take (oi := ⟨_, _, _, _, _, _⟩) (i := 10) (v := ?_) rfl (by kernel_rfl) (by kernel_rfl) (by kernel_rfl) (fun _ _ _ h => h) (Or.inl ⟨by rfl, ?ya10⟩) (by assumption) ?ra10
  case ya10 => (intro w hSw; (try dsimp only at hSw); go_simp; (try with_reducible rfl))
  try simp only [Act.put, List.setIfInBounds_toArray, List.set_cons_zero, List.set_cons_succ]
  refine wpAnyH_take (oi := ⟨_, _, _, _, _, _⟩) (i := 11) (v := ?_) rfl (by kernel_rfl) (by kernel_rfl) (by kernel_rfl) (fun _ _ _ h => h) (Or.inl ⟨by rfl, ?ya11⟩) (by assumption) ?ra11
  case ya11 => (intro w hSw; (try dsimp only at hSw); go_simp; (try with_reducible rfl))
  try simp only [Act.put, List.setIfInBounds_toArray, List.set_cons_zero, List.set_cons_succ]
  refine wpAnyH_take (oi := ⟨_, _, _, _, _, _⟩) (i := 12) (v := ?_) rfl (by kernel_rfl) (by kernel_rfl) (by kernel_rfl) (fun _ _ _ h => h) (Or.inl ⟨by rfl, ?ya12⟩) (by assumption) ?ra12
  case ya12 => (intro w hSw; (try dsimp only at hSw); go_simp; (try with_reducible rfl))
  try simp only [Act.put, List.setIfInBounds_toArray, List.set_cons_zero, List.set_cons_succ]
  refine wpAnyH_take (oi := ⟨_, _, _, _, _, _⟩) (i := 13) (v := ?_) rfl (by kernel_rfl) (by kernel_rfl) (by kernel_rfl) (fun _ _ _ h => h) (Or.inl ⟨by rfl, ?ya13⟩) (by assumption) ?ra13
  case ya13 => (intro w hSw; (try dsimp only at hSw); go_simp; (try with_reducible rfl))
  try simp only [Act.put, List.setIfInBounds_toArray, List.set_cons_zero, List.set_cons_succ]
  refine wpAnyH_ready (rs := [4]) (by kernel_rfl) (by simp) ?_
  refine AllReadyH.cons (o := ⟨_, _, _, _, _, _⟩) rfl (fun K hK => ?_) AllReadyH.nil
  go_simp
  go_at_call 57; refine (C0.out _).mono ?_; rintro e w3 ⟨rfl, rfl⟩; (try go_wp2_with fail)
  refine hK.out _ _ ?_ (fun hHeld2 => ?_)
  · exact hHeld
  clear hK K hHeld
  have hHeld := hHeld2
  clear hHeld2
  try simp only [Act.put, List.setIfInBounds_toArray, List.set_cons_zero, List.set_cons_succ]
  refine wpAnyH_ready (rs := [9]) (by kernel_rfl) (by simp) ?_
  refine AllReadyH.cons (o := ⟨_, _, _, _, _, _⟩) rfl (fun K hK => ?_) AllReadyH.nil
  go_simp
  go_at_call 57; refine (C1.out _).mono ?_; rintro e w4 ⟨rfl, rfl⟩; (try go_wp2_with fail)
  refine hK.out _ _ ?_ (fun hHeld2 => ?_)
  · exact hHeld
  clear hK K hHeld
  have hHeld := hHeld2
  clear hHeld2
  try simp only [Act.put, List.setIfInBounds_toArray, List.set_cons_zero, List.set_cons_succ]
  refine wpAnyH_ready (rs := [14]) (by kernel_rfl) (by simp) ?_
  refine AllReadyH.cons (o := ⟨_, _, _, _, _, _⟩) rfl (fun K hK => ?_) AllReadyH.nil
  go_simp
  go_at_call 57; refine (C2.out _).mono ?_; rintro e w5 ⟨rfl, rfl⟩; (try go_wp2_with fail)
  refine hK.out _ _ ?_ (fun hHeld2 => ?_)
  · exact hHeld
  clear hK K hHeld
  have hHeld := hHeld2
  clear hHeld2
  try simp only [Act.put, List.setIfInBounds_toArray, List.set_cons_zero, List.set_cons_succ]
  generalize ((w.alloc (.cells #[.int .i64 a.f, .int .i64 a.t, .int .i64 a.o] 45)).alloc (.cells #[.int .i64 b.f, .int .i64 b.t, .int .i64 b.o] 45)).drew = w4 at *
  refine wpAnyH_ready (rs := [15]) (by kernel_rfl) (by simp) ?_
  refine AllReadyH.cons (o := ⟨_, _, _, _, _, _⟩) rfl (fun K hK => ?_) AllReadyH.nil
  rw [if_pos (by rfl)]
  have LA : Below w4.heap.size w4 (w4.alloc (.cells #[.int .i64 v0, .int .i64 v1, .int .i64 v2] 3)) := (Below.refl _ _).alloc (Nat.le_refl _) _
  go_simp
  refine hK.out _ _ ?_ (fun hHeld2 => ?_)
  · obtain ⟨h1, h2, h3, h4, h5, h6, h7⟩ := hHeld; exact ⟨keepc h1 LA, keepc h2 LA, keepc h3 LA, keepc h4 LA, keepc h5 LA, keepc h6 LA, h7.out.trans (LA.mono h7.out.size)⟩
  clear hK K hHeld
  have hHeld := hHeld2
  clear hHeld2
  try simp only [Act.put, List.setIfInBounds_toArray, List.set_cons_zero, List.set_cons_succ]
  refine wpAnyH_ready (rs := [16]) (by kernel_rfl) (by simp) ?_
  refine AllReadyH.cons (o := ⟨_, _, _, _, _, _⟩) rfl (fun K hK => ?_) AllReadyH.nil
  go_simp
  go_at_call 56; refine (or_any w4.heap.size 3 v0 v1 v2 _ (by simp) (by simp) (by simp)).mono ?_; rintro e w6 ⟨rfl, K⟩; (try go_wp2_with fail)
  refine hK.out _ _ ?_ (fun hHeld2 => ?_)
  · obtain ⟨h1, h2, h3, h4, h5, h6, h7⟩ := hHeld; exact ⟨keepc h1 K, keepc h2 K, keepc h3 K, keepc h4 K, keepc h5 K, keepc h6 K, h7.out.trans (K.mono h7.out.size)⟩
  clear hK K hHeld
  have hHeld := hHeld2
  clear hHeld2
  try simp only [Act.put, List.setIfInBounds_toArray, List.set_cons_zero, List.set_cons_succ]
  refine wpAnyH_take (oi := ⟨_, _, _, _, _, _⟩) (i := 17) (v := ?_) rfl (by kernel_rfl) (by kernel_rfl) (by kernel_rfl) (fun _ _ _ h => h) (Or.inl ⟨by rfl, ?yb17⟩) (by assumption) ?rb17
  case yb17 => (intro w hSw; (try dsimp only at hSw); go_simp; (try with_reducible rfl))
  try simp only [Act.put, List.setIfInBounds_toArray, List.set_cons_zero, List.set_cons_succ]
  refine wpAnyH_done (by kernel_rfl) ?_ _
  obtain ⟨_, _, _, _, _, _, B9⟩ := hHeld
  go_wp2
  go_ret
  exact ⟨rfl, B9.out⟩

theorem take_one {L : List EdgeV} (h : 0 < L.length) : L.take 1 = [eA L 0] := by
  rw [eA_take h]; rfl
theorem sg_one (S : Nat) {L : List EdgeV} (h : 0 < L.length) : signZ S (L.take 1) = (crossZ S (eA L 0), true) := by rw [take_one h, sign_one]
theorem sg_step (S : Nat) {L : List EdgeV} {k : Nat} {c : Int} (h0 : 0 < k) (hk : k < L.length) (h : signZ S (L.take k) = (c, true)) : signZ S (L.take (k + 1)) = if crossZ S (eA L k) = c then (c, true) else (0, false) := by
  rw [eA_take hk]
  refine sign_snoc (fun e => ?_) h
  have := congrArg List.length e
  rw [List.length_take, List.length_nil] at this
  omega
theorem sg_dead (S : Nat) {L : List EdgeV} {k : Nat} (h : signZ S (L.take k) = (0, false)) : signZ S L = (0, false) := by
  have := sign_dead (S := S) (L := L.take k) (M := L.drop k) (by rw [h])
  rw [List.take_append_drop] at this
  exact this

set_option maxHeartbeats 4000000 in
set_option maxRecDepth 100000 in
theorem sign_any (A : Option Addr) (L : List EdgeV) (c S : Nat) (w : World) (hr : ReadsE w A L) (hl : L.length ≤ 1000) (hS : S < 18446744073709551616) :
    Calls Try.prog 28 #[.slice A L.length c, .int .u64 (S : Nat)] w (fun e w' => e = .returned (.tuple #[.int .i64 (signZ S L).1, .bool (signZ S L).2]) ∧ Below w.heap.size w w') := by
  have CC : Hid (∀ (a : EdgeV) W, Calls Try.prog 43 #[.agg #[.int .i64 a.f, .int .i64 a.t, .int .i64 a.o], .int .u64 (S : Nat)] W (VPost W.heap.size W (.int .i64 (crossZ S a)))) := fun a W => cross_any a S W hS
  have G1 : Hid (0 < L.length → signZ S (L.take 1) = (crossZ S (eA L 0), true)) := sg_one S
  have GS : Hid (∀ k c, 0 < k → k < L.length → signZ S (L.take k) = (c, true) → signZ S (L.take (k + 1)) = if crossZ S (eA L k) = c then (c, true) else (0, false)) := fun k c h0 hk h => sg_step S h0 hk h
  have GD : Hid (∀ k, signZ S (L.take k) = (0, false) → signZ S L = (0, false)) := fun k h => sg_dead S h
  have GE : Hid (signZ S (L.take L.length) = signZ S L) := by show _ = _; rw [List.take_length]
  have G0 : Hid (signZ S (L.take 0) = (0, true)) := rfl
  have HR := Lib.hid hr
  clear hr
  generalize hR : signZ S L = R at *
  clear hR
  generalize hsg : (fun k => signZ S (L.take k)) = sg at *
  have hsg' : ∀ k, signZ S (L.take k) = sg k := fun k => by rw [← hsg]
  simp only [hsg'] at *
  clear hsg hsg'
  obtain ⟨R1, R2⟩ := R
  dsimp only
  go_enter Try.func28, Try.ntmps28
  go_wp2_with fail
  (try go_step3)
  (try go_wp2_with fail)
  (try go_step3)
  (try go_wp2_with fail)
  go_loopw [6, 7, 13] (fun p p2 q wr => ∃ (k : Nat) (cm : Int), k ≤ L.length ∧ q = .int .i64 k ∧ p = .int .i64 cm ∧ p2 = .bool true ∧ Hid (sg k = (cm, true)) ∧ Hid (Below w.heap.size w wr)) (fun _ _ q _ => L.length - (intOf q).toNat)
  case atStart => exact ⟨0, 0, by omega, rfl, rfl, rfl, G0, Below.refl _ _⟩
  case round =>
    obtain ⟨k, cm, hk, rfl, rfl, rfl, HG, BB⟩ := hrel
    by_cases hlt : k < L.length
    · obtain ⟨b, off, eA', hb, c0, c1, c2⟩ := (HR.out.below BB.out (Nat.le_refl _)) k hlt
      subst eA'
      have C := CC.out (eA L k)
      have GSk := Lib.hid (fun h0 => GS.out k cm h0 hlt HG.out)
      have GDk := Lib.hid (GD.out (k + 1))
      have G1' : Hid (k = 0 → sg 1 = (crossZ S (eA L k), true)) := fun h => by rw [h]; exact G1.out (by omega)
      clear GS GD G1
      generalize eA L k = x at *
      generalize crossZ S x = v at *
      have C := Lib.hid C
      have Dx0 := Lib.hid (BB.out.alloc BB.out.size (.cells #[.int .i64 x.f, .int .i64 x.t, .int .i64 x.o] 45))
      go_wp2_with fail
      refine (C.out _).mono ?_
      rintro e w2 ⟨rfl, K⟩
      have K2 := Lib.hid (Dx0.out.trans (K.mono Dx0.out.size))
      clear K
      by_cases h0 : k = 0
      · subst h0
        have E := Lib.hid (G1'.out rfl)
        clear GSk GDk G1'
        go_wp2
        go_roundw
        case rel => exact ⟨1, v, by omega, by go_num, rfl, rfl, E, K2⟩
        case measure => simp [intOf]; omega
      · have z0 : ((k : Int) == 0) = false := by simpa using h0
        have hpos : 0 < k := by omega
        have E0 := GSk.out hpos
        clear GSk G1'
        by_cases hv : v = cm
        · have z1 : (v != cm) = false := by simpa using hv
          rw [if_pos hv] at E0
          have E := Lib.hid E0
          clear E0 GDk
          go_wp2
          go_roundw
          case rel => exact ⟨k + 1, cm, by omega, by go_num, rfl, rfl, E, K2⟩
          case measure => simp [intOf]; omega
        · have z1 : (v != cm) = true := by simpa using hv
          rw [if_neg hv] at E0
          have E := Lib.hid (GDk.out E0)
          clear E0 GDk
          go_wp2
          (try rw [Exit.noGoto_ret])
          (try go_ret2)
          have E1 := E.out
          injection E1 with e1 e2
          exact ⟨by rw [e1, e2]; rfl, K2.out⟩
    · obtain rfl : k = L.length := by omega
      have E := Lib.hid (GE.out.symm.trans HG.out)
      clear HG GS GD G1 GE G0
      go_wp2
      (try rw [Exit.noGoto_ret])
      (try go_ret2)
      have E1 := E.out
      injection E1 with e1 e2
      exact ⟨by rw [e1, e2]; rfl, BB.out⟩
end Go.Proofs.Ytnlgfkokaphhjaa
