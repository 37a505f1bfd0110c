/- The laws on regions: complements. -/
import Derived.Test.YtnlgfkokaphhjaaRKN
namespace Go.Proofs.Ytnlgfkokaphhjaa
open Go.RowKit

set_option maxHeartbeats 8000000 in
set_option maxRecDepth 100000 in
theorem comp_law (s : SysV) (S : Nat) (w : World) (hr : SysW w s) (hS : S < 18446744073709551616) :
    Calls Try.prog 7 #[.agg #[.int .i64 s.st, .slice s.EA s.el s.ec, .slice s.AA s.ar.length s.ac], .int .u64 (S : Nat)] w fun e w' => e = .returned (.bool true) ∧ Below w.heap.size w w' := by
  have CL : Hid (∀ W, Calls Try.prog 10 #[.agg #[.int .i64 s.st, .slice s.EA s.el s.ec, .slice s.AA s.ar.length s.ac]] W (VPost W.heap.size W (.bool (largeS s)))) := large_any s
  have CX : Hid (∀ W, Calls Try.prog 11 #[] W (VPost W.heap.size W (.bool true))) := example_any
  have B0 : Hid (Below w.heap.size w (w.alloc (.cells #[.int .i64 s.st, .slice s.EA s.el s.ec, .slice s.AA s.ar.length s.ac] 25))) := (Below.refl _ _).alloc (Nat.le_refl _) _
  have q0 : (w.alloc (.cells #[.int .i64 s.st, .slice s.EA s.el s.ec, .slice s.AA s.ar.length s.ac] 25)).cell? ⟨w.heap.size, 0, none⟩ = some (.int .i64 s.st) := by simp
  have q1 : (w.alloc (.cells #[.int .i64 s.st, .slice s.EA s.el s.ec, .slice s.AA s.ar.length s.ac] 25)).cell? ⟨w.heap.size, 1, none⟩ = some (.slice s.EA s.el s.ec) := by simp
  have q2 : (w.alloc (.cells #[.int .i64 s.st, .slice s.EA s.el s.ec, .slice s.AA s.ar.length s.ac] 25)).cell? ⟨w.heap.size, 2, none⟩ = some (.slice s.AA s.ar.length s.ac) := by simp
  cases hl : largeS s
  rotate_left
  · rw [hl] at CL
    clear hl q0 q1 q2 hr hS
    go_enter Try.func7, Try.ntmps7
    go_wp2_with fail
    refine (CL.out _).mono ?_
    rintro e x1 ⟨rfl, K⟩
    have D1 := Lib.hid (B0.out.trans (K.mono B0.out.size))
    clear K
    go_wp2_with fail
    refine (CX.out _).mono ?_
    rintro e x2 ⟨rfl, K⟩
    have D2 := Lib.hid (D1.out.trans (K.mono D1.out.size))
    clear K
    go_wp2
    go_ret
    exact ⟨rfl, D2.out⟩
  have hs := small_of hr hl
  rw [hl] at CL
  clear hl hr
  have CIa : Hid (∀ W, Below w.heap.size w W → Calls Try.prog 14 #[.agg #[.int .i64 s.st, .slice s.EA s.el s.ec, .slice s.AA s.ar.length s.ac], .int .u64 (S : Nat)] W (VPost W.heap.size W (.bool (isRg s S)))) := fun W hW => Is_any s S W (hs.below hW (Nat.le_refl _)) hS
  cases h1 : isRg s S
  · rw [h1] at CIa
    clear h1 hs hS
    go_enter Try.func7, Try.ntmps7
    go_wp2_with fail
    refine (CL.out _).mono ?_
    rintro e x1 ⟨rfl, K⟩
    have q0 := keepc q0 K
    have q1 := keepc q1 K
    have q2 := keepc q2 K
    have D1 := Lib.hid (B0.out.trans (K.mono B0.out.size))
    clear K B0
    go_wp2_with fail
    refine (CIa.out _ D1.out).mono ?_
    rintro e x2 ⟨rfl, K⟩
    have D2 := Lib.hid (D1.out.trans (K.mono D1.out.size))
    clear K D1
    go_wp2_with fail
    refine (CX.out _).mono ?_
    rintro e x3 ⟨rfl, K⟩
    have D9 := Lib.hid (D2.out.trans (K.mono D2.out.size))
    clear K
    go_wp2
    go_ret
    exact ⟨rfl, D9.out⟩
  rw [h1] at CIa
  obtain ⟨k1, k2, k3, k4⟩ := comp_ok hS h1
  have hA := allV_lt s.st
  have hok := ((good_iff hS).1 (rg_iff.1 h1).1).1
  obtain ⟨Ot, hOt⟩ : ∃ Ot, Ot = Bt.allV s.st - S := ⟨_, rfl⟩
  have hO : Ot < 18446744073709551616 := by omega
  have KV : IntKind.u64.wrap (((Bt.allV s.st : Nat) : Int) - (S : Int)) = (Ot : Int) := by rw [← Int.ofNat_sub k4, ← hOt]; exact Bt.wrap_nat _ hO
  rw [← hOt] at k1 k2 k3
  have CA : Hid (∀ W, Calls Try.prog 26 #[.int .i64 s.st] W (fun e w' => e = .returned (.int .u64 (Bt.allV s.st : Nat)) ∧ W = w')) := fun W => Bt.rall_any _ W (by have := okS_parts hok; omega) (by have := okS_parts hok; omega)
  have C1 : Hid (∀ W, Below w.heap.size w W → Calls Try.prog 14 #[.agg #[.int .i64 s.st, .slice s.EA s.el s.ec, .slice s.AA s.ar.length s.ac], .int .u64 (Ot : Nat)] W (VPost W.heap.size W (.bool true))) := fun W hW => by have h := Is_any s Ot W (hs.below hW (Nat.le_refl _)) hO; rw [k1] at h; exact h
  have C3 : Hid (∀ W, Below w.heap.size w W → Calls Try.prog 17 #[.agg #[.int .i64 s.st, .slice s.EA s.el s.ec, .slice s.AA s.ar.length s.ac], .int .u64 (S : Nat)] W (LPost W.heap.size W (wthL s S (-1)))) := fun W hW => pre_any s S W (hs.below hW (Nat.le_refl _)) hS
  have C4 : Hid (∀ W, Below w.heap.size w W → Calls Try.prog 19 #[.agg #[.int .i64 s.st, .slice s.EA s.el s.ec, .slice s.AA s.ar.length s.ac], .int .u64 (Ot : Nat)] W (LPost W.heap.size W (wthL s S (-1)))) := fun W hW => by rw [k2]; exact post_any s Ot W (hs.below hW (Nat.le_refl _)) hO
  have C5 : Hid (∀ W, Below w.heap.size w W → Calls Try.prog 19 #[.agg #[.int .i64 s.st, .slice s.EA s.el s.ec, .slice s.AA s.ar.length s.ac], .int .u64 (S : Nat)] W (LPost W.heap.size W (wthL s S 1))) := fun W hW => post_any s S W (hs.below hW (Nat.le_refl _)) hS
  have C6 : Hid (∀ W, Below w.heap.size w W → Calls Try.prog 17 #[.agg #[.int .i64 s.st, .slice s.EA s.el s.ec, .slice s.AA s.ar.length s.ac], .int .u64 (Ot : Nat)] W (LPost W.heap.size W (wthL s S 1))) := fun W hW => by rw [k3]; exact pre_any s Ot W (hs.below hW (Nat.le_refl _)) hO
  have I1 := Lib.hid (same_ints (wthL s S (-1)) (wthL_len hs.hel))
  have I2 := Lib.hid (same_ints (wthL s S 1) (wthL_len hs.hel))
  clear h1 hok hs hS k1 k2 k3 k4 hOt hO hA
  generalize wthL s S (-1) = L1 at *
  generalize wthL s S 1 = L2 at *
  generalize Bt.allV s.st = al at *
  go_enter Try.func7, Try.ntmps7
  go_wp2_with fail
  refine (CL.out _).mono ?_
  rintro e x1 ⟨rfl, K⟩
  have q0 := keepc q0 K
  have q1 := keepc q1 K
  have q2 := keepc q2 K
  have D1 := Lib.hid (B0.out.trans (K.mono B0.out.size))
  clear K B0
  go_wp2_with fail
  refine (CIa.out _ D1.out).mono ?_
  rintro e x2 ⟨rfl, K⟩
  have q0 := keepc q0 K
  have q1 := keepc q1 K
  have q2 := keepc q2 K
  have D2 := Lib.hid (D1.out.trans (K.mono D1.out.size))
  clear K D1
  go_wp2_with fail
  refine (CA.out _).mono ?_
  rintro e x3 ⟨rfl, rfl⟩
  go_upto_region 4 with fail
  refine wp_region_held_drew (S := fun w' => w'.cell? ⟨w.heap.size, 0, none⟩ = some (.int .i64 s.st) ∧ w'.cell? ⟨w.heap.size, 1, none⟩ = some (.slice s.EA s.el s.ec) ∧ w'.cell? ⟨w.heap.size, 2, none⟩ = some (.slice s.AA s.ar.length s.ac) ∧ Hid (Below w.heap.size w w')) (by kernel_rfl) ?_ (fun hHeld => ?_)
  · exact ⟨q0, q1, q2, D2.out.drew⟩
  refine wpAnyH_take (oi := ⟨_, _, _, _, _, _⟩) (i := 0) (v := ?_) rfl (by kernel_rfl) (by kernel_rfl) (by kernel_rfl) (fun _ _ _ h => h) (Or.inl ⟨by rfl, ?yb0⟩) (by assumption) ?rb0
  case yb0 => (intro w hSw; (try dsimp only at hSw); go_simp; (try with_reducible rfl))
  try simp only [Act.put, List.setIfInBounds_toArray, List.set_cons_zero, List.set_cons_succ]
  refine wpAnyH_take (oi := ⟨_, _, _, _, _, _⟩) (i := 1) (v := ?_) rfl (by kernel_rfl) (by kernel_rfl) (by kernel_rfl) (fun _ _ _ h => h) (Or.inl ⟨by rfl, ?yb1⟩) (by assumption) ?rb1
  case yb1 => (intro w hSw; (try dsimp only at hSw); go_simp; (try with_reducible rfl))
  try simp only [Act.put, List.setIfInBounds_toArray, List.set_cons_zero, List.set_cons_succ]
  refine wpAnyH_ready (rs := [2]) (by kernel_rfl) (by simp) ?_
  refine AllReadyH.cons (o := ⟨_, _, _, _, _, _⟩) rfl (fun K hK => ?_) AllReadyH.nil
  go_simp
  go_at_call 14; refine (C1.out _ hHeld.2.2.2.out).mono ?_; rintro e w4 ⟨rfl, K⟩; (try go_wp2_with fail)
  refine hK.out _ _ ?_ (fun hHeld2 => ?_)
  · exact ⟨keepc hHeld.1 K, keepc hHeld.2.1 K, keepc hHeld.2.2.1 K, hHeld.2.2.2.out.trans (K.mono hHeld.2.2.2.out.size)⟩
  clear hK K hHeld
  have hHeld := hHeld2
  clear hHeld2
  try simp only [Act.put, List.setIfInBounds_toArray, List.set_cons_zero, List.set_cons_succ]
  refine wpAnyH_take (oi := ⟨_, _, _, _, _, _⟩) (i := 3) (v := ?_) rfl (by kernel_rfl) (by kernel_rfl) (by kernel_rfl) (fun _ _ _ h => h) (Or.inl ⟨by rfl, ?yb3⟩) (by assumption) ?rb3
  case yb3 => (intro w hSw; (try dsimp only at hSw); go_simp; (try with_reducible rfl))
  try simp only [Act.put, List.setIfInBounds_toArray, List.set_cons_zero, List.set_cons_succ]
  refine wpAnyH_take (oi := ⟨_, _, _, _, _, _⟩) (i := 4) (v := ?_) rfl (by kernel_rfl) (by kernel_rfl) (by kernel_rfl) (fun _ _ _ h => h) (Or.inl ⟨by rfl, ?yb4⟩) (by assumption) ?rb4
  case yb4 => (intro w hSw; (try dsimp only at hSw); go_simp; (try with_reducible rfl))
  try simp only [Act.put, List.setIfInBounds_toArray, List.set_cons_zero, List.set_cons_succ]
  refine wpAnyH_take (oi := ⟨_, _, _, _, _, _⟩) (i := 5) (v := ?_) rfl (by kernel_rfl) (by kernel_rfl) (by kernel_rfl) (fun _ _ _ h => h) (Or.inl ⟨by rfl, ?yb5⟩) (by assumption) ?rb5
  case yb5 => (intro w hSw; (try dsimp only at hSw); go_simp; (try with_reducible rfl))
  try simp only [Act.put, List.setIfInBounds_toArray, List.set_cons_zero, List.set_cons_succ]
  refine wpAnyH_take (oi := ⟨_, _, _, _, _, _⟩) (i := 7) (v := ?_) rfl (by kernel_rfl) (by kernel_rfl) (by kernel_rfl) (fun _ _ _ h => h) (Or.inl ⟨by rfl, ?yb7⟩) (by assumption) ?rb7
  case yb7 => (intro w hSw; (try dsimp only at hSw); go_simp; (try with_reducible rfl))
  try simp only [Act.put, List.setIfInBounds_toArray, List.set_cons_zero, List.set_cons_succ]
  refine wpAnyH_take (oi := ⟨_, _, _, _, _, _⟩) (i := 8) (v := ?_) rfl (by kernel_rfl) (by kernel_rfl) (by kernel_rfl) (fun _ _ _ h => h) (Or.inl ⟨by rfl, ?yb8⟩) (by assumption) ?rb8
  case yb8 => (intro w hSw; (try dsimp only at hSw); go_simp; (try with_reducible rfl))
  try simp only [Act.put, List.setIfInBounds_toArray, List.set_cons_zero, List.set_cons_succ]
  refine wpAnyH_ready (rs := [6]) (by kernel_rfl) (by simp) ?_
  refine AllReadyH.cons (o := ⟨_, _, _, _, _, _⟩) rfl (fun K hK => ?_) AllReadyH.nil
  go_simp
  go_at_call 17; refine (C3.out _ hHeld.2.2.2.out).mono ?_; rintro e w6 ⟨A1, A1c, rfl, R1, K⟩; have R1 := Lib.hid R1; (try go_wp2_with fail)
  refine hK.out _ _ ?_ (fun hHeld2 => ?_)
  · exact ⟨keepc hHeld.1 K, keepc hHeld.2.1 K, keepc hHeld.2.2.1 K, hHeld.2.2.2.out.trans (K.mono hHeld.2.2.2.out.size)⟩
  clear hK K hHeld
  have hHeld := hHeld2
  clear hHeld2
  try simp only [Act.put, List.setIfInBounds_toArray, List.set_cons_zero, List.set_cons_succ]
  refine wpAnyH_ready (rs := [9]) (by kernel_rfl) (by simp) ?_
  refine AllReadyH.cons (o := ⟨_, _, _, _, _, _⟩) rfl (fun K hK => ?_) AllReadyH.nil
  go_simp
  go_at_call 19; refine (C4.out _ hHeld.2.2.2.out).mono ?_; rintro e w7 ⟨A2, A2c, rfl, R2, K⟩; have R2 := Lib.hid R2; have R1 := Lib.hid (R1.out.below K (Nat.le_refl _)); (try go_wp2_with fail)
  refine hK.out _ _ ?_ (fun hHeld2 => ?_)
  · exact ⟨keepc hHeld.1 K, keepc hHeld.2.1 K, keepc hHeld.2.2.1 K, hHeld.2.2.2.out.trans (K.mono hHeld.2.2.2.out.size)⟩
  clear hK K hHeld
  have hHeld := hHeld2
  clear hHeld2
  try simp only [Act.put, List.setIfInBounds_toArray, List.set_cons_zero, List.set_cons_succ]
  refine wpAnyH_ready (rs := [10]) (by kernel_rfl) (by simp) ?_
  refine AllReadyH.cons (o := ⟨_, _, _, _, _, _⟩) rfl (fun K hK => ?_) AllReadyH.nil
  go_simp
  go_at_call 16; refine (I1.out _ _ _ _ _ R1.out R2.out).mono ?_; rintro e w8 ⟨rfl, K⟩; (try go_wp2_with fail)
  refine hK.out _ _ ?_ (fun hHeld2 => ?_)
  · exact ⟨keepc hHeld.1 K, keepc hHeld.2.1 K, keepc hHeld.2.2.1 K, hHeld.2.2.2.out.trans (K.mono hHeld.2.2.2.out.size)⟩
  clear hK K hHeld
  have hHeld := hHeld2
  clear hHeld2
  try simp only [Act.put, List.setIfInBounds_toArray, List.set_cons_zero, List.set_cons_succ]
  refine wpAnyH_take (oi := ⟨_, _, _, _, _, _⟩) (i := 11) (v := ?_) rfl (by kernel_rfl) (by kernel_rfl) (by kernel_rfl) (fun _ _ _ h => h) (Or.inl ⟨by rfl, ?yb11⟩) (by assumption) ?rb11
  case yb11 => (intro w hSw; (try dsimp only at hSw); go_simp; (try with_reducible rfl))
  try simp only [Act.put, List.setIfInBounds_toArray, List.set_cons_zero, List.set_cons_succ]
  refine wpAnyH_take (oi := ⟨_, _, _, _, _, _⟩) (i := 12) (v := ?_) rfl (by kernel_rfl) (by kernel_rfl) (by kernel_rfl) (fun _ _ _ h => h) (Or.inl ⟨by rfl, ?yb12⟩) (by assumption) ?rb12
  case yb12 => (intro w hSw; (try dsimp only at hSw); go_simp; (try with_reducible rfl))
  try simp only [Act.put, List.setIfInBounds_toArray, List.set_cons_zero, List.set_cons_succ]
  refine wpAnyH_take (oi := ⟨_, _, _, _, _, _⟩) (i := 13) (v := ?_) rfl (by kernel_rfl) (by kernel_rfl) (by kernel_rfl) (fun _ _ _ h => h) (Or.inl ⟨by rfl, ?yb13⟩) (by assumption) ?rb13
  case yb13 => (intro w hSw; (try dsimp only at hSw); go_simp; (try with_reducible rfl))
  try simp only [Act.put, List.setIfInBounds_toArray, List.set_cons_zero, List.set_cons_succ]
  refine wpAnyH_take (oi := ⟨_, _, _, _, _, _⟩) (i := 14) (v := ?_) rfl (by kernel_rfl) (by kernel_rfl) (by kernel_rfl) (fun _ _ _ h => h) (Or.inl ⟨by rfl, ?yb14⟩) (by assumption) ?rb14
  case yb14 => (intro w hSw; (try dsimp only at hSw); go_simp; (try with_reducible rfl))
  try simp only [Act.put, List.setIfInBounds_toArray, List.set_cons_zero, List.set_cons_succ]
  refine wpAnyH_take (oi := ⟨_, _, _, _, _, _⟩) (i := 16) (v := ?_) rfl (by kernel_rfl) (by kernel_rfl) (by kernel_rfl) (fun _ _ _ h => h) (Or.inl ⟨by rfl, ?yb16⟩) (by assumption) ?rb16
  case yb16 => (intro w hSw; (try dsimp only at hSw); go_simp; (try with_reducible rfl))
  try simp only [Act.put, List.setIfInBounds_toArray, List.set_cons_zero, List.set_cons_succ]
  refine wpAnyH_take (oi := ⟨_, _, _, _, _, _⟩) (i := 17) (v := ?_) rfl (by kernel_rfl) (by kernel_rfl) (by kernel_rfl) (fun _ _ _ h => h) (Or.inl ⟨by rfl, ?yb17⟩) (by assumption) ?rb17
  case yb17 => (intro w hSw; (try dsimp only at hSw); go_simp; (try with_reducible rfl))
  try simp only [Act.put, List.setIfInBounds_toArray, List.set_cons_zero, List.set_cons_succ]
  refine wpAnyH_ready (rs := [15]) (by kernel_rfl) (by simp) ?_
  refine AllReadyH.cons (o := ⟨_, _, _, _, _, _⟩) rfl (fun K hK => ?_) AllReadyH.nil
  go_simp
  go_at_call 19; refine (C5.out _ hHeld.2.2.2.out).mono ?_; rintro e w9 ⟨A3, A3c, rfl, R3, K⟩; have R3 := Lib.hid R3; (try go_wp2_with fail)
  refine hK.out _ _ ?_ (fun hHeld2 => ?_)
  · exact ⟨keepc hHeld.1 K, keepc hHeld.2.1 K, keepc hHeld.2.2.1 K, hHeld.2.2.2.out.trans (K.mono hHeld.2.2.2.out.size)⟩
  clear hK K hHeld
  have hHeld := hHeld2
  clear hHeld2
  try simp only [Act.put, List.setIfInBounds_toArray, List.set_cons_zero, List.set_cons_succ]
  refine wpAnyH_ready (rs := [18]) (by kernel_rfl) (by simp) ?_
  refine AllReadyH.cons (o := ⟨_, _, _, _, _, _⟩) rfl (fun K hK => ?_) AllReadyH.nil
  go_simp
  go_at_call 17; refine (C6.out _ hHeld.2.2.2.out).mono ?_; rintro e w10 ⟨A4, A4c, rfl, R4, K⟩; have R4 := Lib.hid R4; have R3 := Lib.hid (R3.out.below K (Nat.le_refl _)); (try go_wp2_with fail)
  refine hK.out _ _ ?_ (fun hHeld2 => ?_)
  · exact ⟨keepc hHeld.1 K, keepc hHeld.2.1 K, keepc hHeld.2.2.1 K, hHeld.2.2.2.out.trans (K.mono hHeld.2.2.2.out.size)⟩
  clear hK K hHeld
  have hHeld := hHeld2
  clear hHeld2
  try simp only [Act.put, List.setIfInBounds_toArray, List.set_cons_zero, List.set_cons_succ]
  refine wpAnyH_ready (rs := [19]) (by kernel_rfl) (by simp) ?_
  refine AllReadyH.cons (o := ⟨_, _, _, _, _, _⟩) rfl (fun K hK => ?_) AllReadyH.nil
  go_simp
  go_at_call 16; refine (I2.out _ _ _ _ _ R3.out R4.out).mono ?_; rintro e w11 ⟨rfl, K⟩; (try go_wp2_with fail)
  refine hK.out _ _ ?_ (fun hHeld2 => ?_)
  · exact ⟨keepc hHeld.1 K, keepc hHeld.2.1 K, keepc hHeld.2.2.1 K, hHeld.2.2.2.out.trans (K.mono hHeld.2.2.2.out.size)⟩
  clear hK K hHeld
  have hHeld := hHeld2
  clear hHeld2
  try simp only [Act.put, List.setIfInBounds_toArray, List.set_cons_zero, List.set_cons_succ]
  refine wpAnyH_take (oi := ⟨_, _, _, _, _, _⟩) (i := 20) (v := ?_) rfl (by kernel_rfl) (by kernel_rfl) (by kernel_rfl) (fun _ _ _ h => h) (Or.inl ⟨by rfl, ?yb20⟩) (by assumption) ?rb20
  case yb20 => (intro w hSw; (try dsimp only at hSw); go_simp; (try with_reducible rfl))
  try simp only [Act.put, List.setIfInBounds_toArray, List.set_cons_zero, List.set_cons_succ]
  refine wpAnyH_take (oi := ⟨_, _, _, _, _, _⟩) (i := 21) (v := ?_) rfl (by kernel_rfl) (by kernel_rfl) (by kernel_rfl) (fun _ _ _ h => h) (Or.inl ⟨by rfl, ?yb21⟩) (by assumption) ?rb21
  case yb21 => (intro w hSw; (try dsimp only at hSw); go_simp; (try with_reducible rfl))
  try simp only [Act.put, List.setIfInBounds_toArray, List.set_cons_zero, List.set_cons_succ]
  refine wpAnyH_ready (rs := [22]) (by kernel_rfl) (by simp) ?_
  refine AllReadyH.cons (o := ⟨_, _, _, _, _, _⟩) rfl (fun K hK => ?_) AllReadyH.nil
  go_simp
  go_at_call 11; refine (CX.out _).mono ?_; rintro e w12 ⟨rfl, K⟩; (try go_wp2_with fail)
  refine hK.out _ _ ?_ (fun hHeld2 => ?_)
  · exact ⟨keepc hHeld.1 K, keepc hHeld.2.1 K, keepc hHeld.2.2.1 K, hHeld.2.2.2.out.trans (K.mono hHeld.2.2.2.out.size)⟩
  clear hK K hHeld
  have hHeld := hHeld2
  clear hHeld2
  try simp only [Act.put, List.setIfInBounds_toArray, List.set_cons_zero, List.set_cons_succ]
  refine wpAnyH_take (oi := ⟨_, _, _, _, _, _⟩) (i := 23) (v := ?_) rfl (by kernel_rfl) (by kernel_rfl) (by kernel_rfl) (fun _ _ _ h => h) (Or.inl ⟨by rfl, ?yb23⟩) (by assumption) ?rb23
  case yb23 => (intro w hSw; (try dsimp only at hSw); go_simp; (try with_reducible rfl))
  try simp only [Act.put, List.setIfInBounds_toArray, List.set_cons_zero, List.set_cons_succ]
  refine wpAnyH_take (oi := ⟨_, _, _, _, _, _⟩) (i := 24) (v := ?_) rfl (by kernel_rfl) (by kernel_rfl) (by kernel_rfl) (fun _ _ _ h => h) (Or.inl ⟨by rfl, ?yb24⟩) (by assumption) ?rb24
  case yb24 => (intro w hSw; (try dsimp only at hSw); go_simp; (try with_reducible rfl))
  try simp only [Act.put, List.setIfInBounds_toArray, List.set_cons_zero, List.set_cons_succ]
  refine wpAnyH_done (by kernel_rfl) ?_ _
  have B9 := hHeld.2.2.2
  clear hHeld
  go_wp2
  go_ret
  exact ⟨rfl, B9.out⟩
end Go.Proofs.Ytnlgfkokaphhjaa
