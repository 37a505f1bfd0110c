/- Bounded natural solutions: the laws on Check, Solve, Count and All. -/
import Derived.Test.YtneediihponfiaaNF
namespace Go.Proofs.Ytneediihponfiaa
open Go.RowKit

set_option maxHeartbeats 8000000 in
set_option maxRecDepth 100000 in
theorem checks_law (p : PV) (w : World) (hr : PW w p) :
    Calls Try.prog 3 #[.agg #[.slice p.A p.L.length p.ca, .slice p.B p.b.length p.cb, .slice p.U p.u.length p.cu]] w fun e w' => e = .returned (.bool true) ∧ Below w.heap.size w w' := by
  have CF : Hid (∀ W, Below w.heap.size w W → Calls Try.prog 9 #[.agg #[.slice p.A p.L.length p.ca, .slice p.B p.b.length p.cb, .slice p.U p.u.length p.cu]] W (VPost W.heap.size W (.bool (fewB p)))) := fun W hW => few_any p W (hr.below hW)
  have CX : Hid (∀ W, Calls Try.prog 10 #[] W (VPost W.heap.size W (.bool true))) := alive_any
  have B0 : Hid (Below w.heap.size w (w.alloc (.cells #[.slice p.A p.L.length p.ca, .slice p.B p.b.length p.cb, .slice p.U p.u.length p.cu] 25))) := (Below.refl _ _).alloc (Nat.le_refl _) _
  have q0 : (w.alloc (.cells #[.slice p.A p.L.length p.ca, .slice p.B p.b.length p.cb, .slice p.U p.u.length p.cu] 25)).cell? ⟨w.heap.size, 0, none⟩ = some (.slice p.A p.L.length p.ca) := by simp
  have q1 : (w.alloc (.cells #[.slice p.A p.L.length p.ca, .slice p.B p.b.length p.cb, .slice p.U p.u.length p.cu] 25)).cell? ⟨w.heap.size, 1, none⟩ = some (.slice p.B p.b.length p.cb) := by simp
  have q2 : (w.alloc (.cells #[.slice p.A p.L.length p.ca, .slice p.B p.b.length p.cb, .slice p.U p.u.length p.cu] 25)).cell? ⟨w.heap.size, 2, none⟩ = some (.slice p.U p.u.length p.cu) := by simp
  cases hf : fewB p
  · rw [hf] at CF
    clear hr hf
    go_enter Try.func3, Try.ntmps3
    go_wp2_with fail
    refine (CF.out _ B0.out).mono ?_
    rintro e x1 ⟨rfl, K⟩
    have q0 := keepc q0 K
    have q1 := keepc q1 K
    have q2 := keepc q2 K
    have Dx1 := Lib.hid (B0.out.trans (K.mono B0.out.size))
    clear K
    go_wp2_with fail
    refine (CX.out _).mono ?_
    rintro e x2 ⟨rfl, K⟩
    have q0 := keepc q0 K
    have q1 := keepc q1 K
    have q2 := keepc q2 K
    have Dx2 := Lib.hid (Dx1.out.trans (K.mono Dx1.out.size))
    clear K
    go_wp2
    go_ret
    exact ⟨rfl, Dx2.out⟩
  · rw [hf] at CF
    have fp := few_parts hf
    have hs : PR w p := hr.small fp.1
    have hl : lensOk p := ⟨by have := fp.2.1; omega, by have := fp.2.2.1; omega, by have := fp.2.2.2.1; omega⟩
    have C1 : Hid (∀ W, Below w.heap.size w W → Calls Try.prog 11 #[.slice p.A p.L.length p.ca, .slice p.B p.b.length p.cb, .slice p.U p.u.length p.cu] W (VPost W.heap.size W (.int .i64 (chkP p.L p.b p.u)))) := fun W hW => pcheck_any _ _ _ _ _ _ _ _ _ W (hs.below hW).rA hl.1 (hs.below hW).rB hl.2.1 (hs.below hW).rU hl.2.2
    have C2 : Hid (∀ W, Below w.heap.size w W → Calls Try.prog 12 #[.slice p.A p.L.length p.ca, .slice p.B p.b.length p.cb, .slice p.U p.u.length p.cu] W (fun e w' => e = .returned (.int .i64 (chkP p.L p.b p.u)) ∧ W = w')) := fun W hW => rcheck_any _ _ _ _ _ _ _ _ _ W (hs.below hW).rA hl.1 (hs.below hW).rB hl.2.1 (hs.below hW).rU hl.2.2
    clear hr hf fp hs hl
    generalize chkP p.L p.b p.u = E at *
    have z1 : (E == E) = true := by simp
    go_enter Try.func3, Try.ntmps3
    go_wp2_with fail
    refine (CF.out _ B0.out).mono ?_
    rintro e x1 ⟨rfl, K⟩
    have q0 := keepc q0 K
    have q1 := keepc q1 K
    have q2 := keepc q2 K
    have Dx1 := Lib.hid (B0.out.trans (K.mono B0.out.size))
    clear K
    go_upto_region 3 with fail
    refine wp_region_held_drew (S := fun w' => w'.cell? ⟨w.heap.size, 0, none⟩ = some (.slice p.A p.L.length p.ca) ∧ w'.cell? ⟨w.heap.size, 1, none⟩ = some (.slice p.B p.b.length p.cb) ∧ w'.cell? ⟨w.heap.size, 2, none⟩ = some (.slice p.U p.u.length p.cu) ∧ Hid (Below w.heap.size w w')) (by kernel_rfl) ?_ (fun hHeld => ?_)
    · exact ⟨q0, q1, q2, Dx1.out.drew⟩
    refine wpAnyH_take (oi := ⟨_, _, _, _, _, _⟩) (i := 0) (v := ?_) rfl (by kernel_rfl) (by kernel_rfl) (by kernel_rfl) (fun _ _ _ h => h) (Or.inl ⟨by rfl, ?yb0⟩) (by assumption) ?rb0
    case yb0 => (intro w hSw; (try dsimp only at hSw); go_simp; (try with_reducible rfl))
    try simp only [Act.put, List.setIfInBounds_toArray, List.set_cons_zero, List.set_cons_succ]
    refine wpAnyH_take (oi := ⟨_, _, _, _, _, _⟩) (i := 1) (v := ?_) rfl (by kernel_rfl) (by kernel_rfl) (by kernel_rfl) (fun _ _ _ h => h) (Or.inl ⟨by rfl, ?yb1⟩) (by assumption) ?rb1
    case yb1 => (intro w hSw; (try dsimp only at hSw); go_simp; (try with_reducible rfl))
    try simp only [Act.put, List.setIfInBounds_toArray, List.set_cons_zero, List.set_cons_succ]
    refine wpAnyH_take (oi := ⟨_, _, _, _, _, _⟩) (i := 2) (v := ?_) rfl (by kernel_rfl) (by kernel_rfl) (by kernel_rfl) (fun _ _ _ h => h) (Or.inl ⟨by rfl, ?yb2⟩) (by assumption) ?rb2
    case yb2 => (intro w hSw; (try dsimp only at hSw); go_simp; (try with_reducible rfl))
    try simp only [Act.put, List.setIfInBounds_toArray, List.set_cons_zero, List.set_cons_succ]
    refine wpAnyH_take (oi := ⟨_, _, _, _, _, _⟩) (i := 3) (v := ?_) rfl (by kernel_rfl) (by kernel_rfl) (by kernel_rfl) (fun _ _ _ h => h) (Or.inl ⟨by rfl, ?yb3⟩) (by assumption) ?rb3
    case yb3 => (intro w hSw; (try dsimp only at hSw); go_simp; (try with_reducible rfl))
    try simp only [Act.put, List.setIfInBounds_toArray, List.set_cons_zero, List.set_cons_succ]
    refine wpAnyH_take (oi := ⟨_, _, _, _, _, _⟩) (i := 4) (v := ?_) rfl (by kernel_rfl) (by kernel_rfl) (by kernel_rfl) (fun _ _ _ h => h) (Or.inl ⟨by rfl, ?yb4⟩) (by assumption) ?rb4
    case yb4 => (intro w hSw; (try dsimp only at hSw); go_simp; (try with_reducible rfl))
    try simp only [Act.put, List.setIfInBounds_toArray, List.set_cons_zero, List.set_cons_succ]
    refine wpAnyH_take (oi := ⟨_, _, _, _, _, _⟩) (i := 5) (v := ?_) rfl (by kernel_rfl) (by kernel_rfl) (by kernel_rfl) (fun _ _ _ h => h) (Or.inl ⟨by rfl, ?yb5⟩) (by assumption) ?rb5
    case yb5 => (intro w hSw; (try dsimp only at hSw); go_simp; (try with_reducible rfl))
    try simp only [Act.put, List.setIfInBounds_toArray, List.set_cons_zero, List.set_cons_succ]
    refine wpAnyH_take (oi := ⟨_, _, _, _, _, _⟩) (i := 7) (v := ?_) rfl (by kernel_rfl) (by kernel_rfl) (by kernel_rfl) (fun _ _ _ h => h) (Or.inl ⟨by rfl, ?yb7⟩) (by assumption) ?rb7
    case yb7 => (intro w hSw; (try dsimp only at hSw); go_simp; (try with_reducible rfl))
    try simp only [Act.put, List.setIfInBounds_toArray, List.set_cons_zero, List.set_cons_succ]
    refine wpAnyH_take (oi := ⟨_, _, _, _, _, _⟩) (i := 8) (v := ?_) rfl (by kernel_rfl) (by kernel_rfl) (by kernel_rfl) (fun _ _ _ h => h) (Or.inl ⟨by rfl, ?yb8⟩) (by assumption) ?rb8
    case yb8 => (intro w hSw; (try dsimp only at hSw); go_simp; (try with_reducible rfl))
    try simp only [Act.put, List.setIfInBounds_toArray, List.set_cons_zero, List.set_cons_succ]
    refine wpAnyH_take (oi := ⟨_, _, _, _, _, _⟩) (i := 9) (v := ?_) rfl (by kernel_rfl) (by kernel_rfl) (by kernel_rfl) (fun _ _ _ h => h) (Or.inl ⟨by rfl, ?yb9⟩) (by assumption) ?rb9
    case yb9 => (intro w hSw; (try dsimp only at hSw); go_simp; (try with_reducible rfl))
    try simp only [Act.put, List.setIfInBounds_toArray, List.set_cons_zero, List.set_cons_succ]
    refine wpAnyH_take (oi := ⟨_, _, _, _, _, _⟩) (i := 10) (v := ?_) rfl (by kernel_rfl) (by kernel_rfl) (by kernel_rfl) (fun _ _ _ h => h) (Or.inl ⟨by rfl, ?yb10⟩) (by assumption) ?rb10
    case yb10 => (intro w hSw; (try dsimp only at hSw); go_simp; (try with_reducible rfl))
    try simp only [Act.put, List.setIfInBounds_toArray, List.set_cons_zero, List.set_cons_succ]
    refine wpAnyH_take (oi := ⟨_, _, _, _, _, _⟩) (i := 11) (v := ?_) rfl (by kernel_rfl) (by kernel_rfl) (by kernel_rfl) (fun _ _ _ h => h) (Or.inl ⟨by rfl, ?yb11⟩) (by assumption) ?rb11
    case yb11 => (intro w hSw; (try dsimp only at hSw); go_simp; (try with_reducible rfl))
    try simp only [Act.put, List.setIfInBounds_toArray, List.set_cons_zero, List.set_cons_succ]
    refine wpAnyH_take (oi := ⟨_, _, _, _, _, _⟩) (i := 12) (v := ?_) rfl (by kernel_rfl) (by kernel_rfl) (by kernel_rfl) (fun _ _ _ h => h) (Or.inl ⟨by rfl, ?yb12⟩) (by assumption) ?rb12
    case yb12 => (intro w hSw; (try dsimp only at hSw); go_simp; (try with_reducible rfl))
    try simp only [Act.put, List.setIfInBounds_toArray, List.set_cons_zero, List.set_cons_succ]
    refine wpAnyH_ready (rs := [6]) (by kernel_rfl) (by simp) ?_
    refine AllReadyH.cons (o := ⟨_, _, _, _, _, _⟩) rfl (fun K hK => ?_) AllReadyH.nil
    go_simp
    go_at_call 11; refine (C1.out _ hHeld.2.2.2.out).mono ?_; rintro e w4 ⟨rfl, K⟩; (try go_wp2_with fail)
    refine hK.out _ _ ?_ (fun hHeld2 => ?_)
    · exact ⟨keepc hHeld.1 K, keepc hHeld.2.1 K, keepc hHeld.2.2.1 K, hHeld.2.2.2.out.trans (K.mono hHeld.2.2.2.out.size)⟩
    clear hK K hHeld
    have hHeld := hHeld2
    clear hHeld2
    try simp only [Act.put, List.setIfInBounds_toArray, List.set_cons_zero, List.set_cons_succ]
    refine wpAnyH_ready (rs := [13]) (by kernel_rfl) (by simp) ?_
    refine AllReadyH.cons (o := ⟨_, _, _, _, _, _⟩) rfl (fun K hK => ?_) AllReadyH.nil
    go_simp
    go_at_call 12; refine (C2.out _ hHeld.2.2.2.out).mono ?_; rintro e w5 ⟨rfl, rfl⟩; (try go_wp2_with fail)
    refine hK.out _ _ ?_ (fun hHeld2 => ?_)
    · exact hHeld
    clear hK K hHeld
    have hHeld := hHeld2
    clear hHeld2
    try simp only [Act.put, List.setIfInBounds_toArray, List.set_cons_zero, List.set_cons_succ]
    refine wpAnyH_take (oi := ⟨_, _, _, _, _, _⟩) (i := 14) (v := ?_) rfl (by kernel_rfl) (by kernel_rfl) (by kernel_rfl) (fun _ _ _ h => h) (Or.inl ⟨by rfl, ?yb14⟩) (by assumption) ?rb14
    case yb14 => (intro w hSw; (try dsimp only at hSw); go_simp; (try with_reducible rfl))
    try simp only [Act.put, List.setIfInBounds_toArray, List.set_cons_zero, List.set_cons_succ]
    refine wpAnyH_take (oi := ⟨_, _, _, _, _, _⟩) (i := 15) (v := ?_) rfl (by kernel_rfl) (by kernel_rfl) (by kernel_rfl) (fun _ _ _ h => h) (Or.inl ⟨by rfl, ?yb15⟩) (by assumption) ?rb15
    case yb15 => (intro w hSw; (try dsimp only at hSw); go_simp; (try with_reducible rfl))
    try simp only [Act.put, List.setIfInBounds_toArray, List.set_cons_zero, List.set_cons_succ]
    refine wpAnyH_ready (rs := [16]) (by kernel_rfl) (by simp) ?_
    refine AllReadyH.cons (o := ⟨_, _, _, _, _, _⟩) rfl (fun K hK => ?_) AllReadyH.nil
    go_simp
    go_at_call 10; refine (CX.out _).mono ?_; rintro e w6 ⟨rfl, K⟩; (try go_wp2_with fail)
    refine hK.out _ _ ?_ (fun hHeld2 => ?_)
    · exact ⟨keepc hHeld.1 K, keepc hHeld.2.1 K, keepc hHeld.2.2.1 K, hHeld.2.2.2.out.trans (K.mono hHeld.2.2.2.out.size)⟩
    clear hK K hHeld
    have hHeld := hHeld2
    clear hHeld2
    try simp only [Act.put, List.setIfInBounds_toArray, List.set_cons_zero, List.set_cons_succ]
    refine wpAnyH_take (oi := ⟨_, _, _, _, _, _⟩) (i := 17) (v := ?_) rfl (by kernel_rfl) (by kernel_rfl) (by kernel_rfl) (fun _ _ _ h => h) (Or.inl ⟨by rfl, ?yb17⟩) (by assumption) ?rb17
    case yb17 => (intro w hSw; (try dsimp only at hSw); go_simp; (try with_reducible rfl))
    try simp only [Act.put, List.setIfInBounds_toArray, List.set_cons_zero, List.set_cons_succ]
    refine wpAnyH_take (oi := ⟨_, _, _, _, _, _⟩) (i := 18) (v := ?_) rfl (by kernel_rfl) (by kernel_rfl) (by kernel_rfl) (fun _ _ _ h => h) (Or.inl ⟨by rfl, ?yb18⟩) (by assumption) ?rb18
    case yb18 => (intro w hSw; (try dsimp only at hSw); go_simp; (try with_reducible rfl))
    try simp only [Act.put, List.setIfInBounds_toArray, List.set_cons_zero, List.set_cons_succ]
    refine wpAnyH_done (by kernel_rfl) ?_ _
    have B9 := hHeld.2.2.2
    clear hHeld
    go_wp2
    go_ret
    exact ⟨rfl, B9.out⟩
set_option maxHeartbeats 8000000 in
set_option maxRecDepth 100000 in
theorem solves_law (p : PV) (w : World) (hr : PW w p) :
    Calls Try.prog 4 #[.agg #[.slice p.A p.L.length p.ca, .slice p.B p.b.length p.cb, .slice p.U p.u.length p.cu]] w fun e w' => e = .returned (.bool true) ∧ Below w.heap.size w w' := by
  have CF : Hid (∀ W, Below w.heap.size w W → Calls Try.prog 9 #[.agg #[.slice p.A p.L.length p.ca, .slice p.B p.b.length p.cb, .slice p.U p.u.length p.cu]] W (VPost W.heap.size W (.bool (fewB p)))) := fun W hW => few_any p W (hr.below hW)
  have CX : Hid (∀ W, Calls Try.prog 10 #[] W (VPost W.heap.size W (.bool true))) := alive_any
  have B0 : Hid (Below w.heap.size w (w.alloc (.cells #[.slice p.A p.L.length p.ca, .slice p.B p.b.length p.cb, .slice p.U p.u.length p.cu] 25))) := (Below.refl _ _).alloc (Nat.le_refl _) _
  have q0 : (w.alloc (.cells #[.slice p.A p.L.length p.ca, .slice p.B p.b.length p.cb, .slice p.U p.u.length p.cu] 25)).cell? ⟨w.heap.size, 0, none⟩ = some (.slice p.A p.L.length p.ca) := by simp
  have q1 : (w.alloc (.cells #[.slice p.A p.L.length p.ca, .slice p.B p.b.length p.cb, .slice p.U p.u.length p.cu] 25)).cell? ⟨w.heap.size, 1, none⟩ = some (.slice p.B p.b.length p.cb) := by simp
  have q2 : (w.alloc (.cells #[.slice p.A p.L.length p.ca, .slice p.B p.b.length p.cb, .slice p.U p.u.length p.cu] 25)).cell? ⟨w.heap.size, 2, none⟩ = some (.slice p.U p.u.length p.cu) := by simp
  cases hf : fewB p
  · rw [hf] at CF
    clear hr hf
    go_enter Try.func4, Try.ntmps4
    go_wp2_with fail
    refine (CF.out _ B0.out).mono ?_
    rintro e x1 ⟨rfl, K⟩
    have q0 := keepc q0 K
    have q1 := keepc q1 K
    have q2 := keepc q2 K
    have Dx1 := Lib.hid (B0.out.trans (K.mono B0.out.size))
    clear K
    go_wp2_with fail
    refine (CX.out _).mono ?_
    rintro e x2 ⟨rfl, K⟩
    have q0 := keepc q0 K
    have q1 := keepc q1 K
    have q2 := keepc q2 K
    have Dx2 := Lib.hid (Dx1.out.trans (K.mono Dx1.out.size))
    clear K
    go_wp2
    go_ret
    exact ⟨rfl, Dx2.out⟩
  · rw [hf] at CF
    have fp := few_parts hf
    have hs : PR w p := hr.small fp.1
    have hl : lensOk p := ⟨by have := fp.2.1; omega, by have := fp.2.2.1; omega, by have := fp.2.2.2.1; omega⟩
    have C1 : Hid (∀ W, Below w.heap.size w W → Calls Try.prog 13 #[.slice p.A p.L.length p.ca, .slice p.B p.b.length p.cb, .slice p.U p.u.length p.cu] W (SPost p W)) := fun W hW => solve_any p W (hs.below hW) hl
    have C2 : Hid (∀ W, Below w.heap.size w W → Calls Try.prog 14 #[.slice p.A p.L.length p.ca, .slice p.B p.b.length p.cb, .slice p.U p.u.length p.cu] W (SPost p W)) := fun W hW => rsolve_any p W (hs.below hW) hl
    have SL : (((solvV p).getD []).length : Nat) ≤ 9223372036854775807 := by
      unfold solvV
      split
      · cases h : (solT p.L p.b p.u).head? with
        | none => show (([] : List Int)).length ≤ _; simp
        | some x =>
          show x.length ≤ _
          have hm : x ∈ solT p.L p.b p.u := List.mem_of_head? h
          have hm := (mem_vecs _ _).1 (List.mem_filter.1 hm).1
          have := hl.2.2
          omega
      · show (([] : List Int)).length ≤ _; simp
    unfold SPost at C1 C2
    have CS : Hid (∀ A B c1 c2 W, ReadsV W A ((solvV p).getD []) → ReadsV W B ((solvV p).getD []) → Calls Try.prog 15 #[.slice A ((solvV p).getD []).length c1, .slice B ((solvV p).getD []).length c2] W (BPost W.heap.size W true)) := fun A B c1 c2 W h1 h2 => by
      have h := same_law A B _ _ c1 c2 W h1 h2 SL
      rw [sameL_iff.2 rfl] at h
      exact h
    clear hr hf fp hs hl SL
    generalize chkP p.L p.b p.u = E at *
    generalize (solvV p).isSome = b at *
    generalize (solvV p).getD [] = x at *
    have z1 : (E == E) = true := by simp
    have z2 : (b == b) = true := by simp
    go_enter Try.func4, Try.ntmps4
    go_wp2_with fail
    refine (CF.out _ B0.out).mono ?_
    rintro e x1 ⟨rfl, K⟩
    have q0 := keepc q0 K
    have q1 := keepc q1 K
    have q2 := keepc q2 K
    have Dx1 := Lib.hid (B0.out.trans (K.mono B0.out.size))
    clear K
    go_wp2_with fail
    refine (C1.out _ Dx1.out).mono ?_
    rintro e x2 ⟨A1, c1, rfl, R1, K⟩
    have R1 := Lib.hid R1
    have q0 := keepc q0 K
    have q1 := keepc q1 K
    have q2 := keepc q2 K
    have Dx2 := Lib.hid (Dx1.out.trans (K.mono Dx1.out.size))
    clear K
    go_wp2_with fail
    refine (C2.out _ Dx2.out).mono ?_
    rintro e x3 ⟨A2, c2, rfl, R2, K⟩
    have R2 := Lib.hid R2
    have q0 := keepc q0 K
    have q1 := keepc q1 K
    have q2 := keepc q2 K
    have R1 := Lib.hid (R1.out.below K (Nat.le_refl _))
    have Dx3 := Lib.hid (Dx2.out.trans (K.mono Dx2.out.size))
    clear K
    go_wp2_with fail
    refine (CS.out _ _ _ _ _ R1.out R2.out).mono ?_
    rintro e x4 ⟨rfl, K⟩
    have q0 := keepc q0 K
    have q1 := keepc q1 K
    have q2 := keepc q2 K
    have Dx4 := Lib.hid (Dx3.out.trans (K.mono Dx3.out.size))
    clear K
    go_wp2_with fail
    refine (CX.out _).mono ?_
    rintro e x5 ⟨rfl, K⟩
    have q0 := keepc q0 K
    have q1 := keepc q1 K
    have q2 := keepc q2 K
    have Dx5 := Lib.hid (Dx4.out.trans (K.mono Dx4.out.size))
    clear K
    go_wp2
    go_ret
    exact ⟨rfl, Dx5.out⟩
set_option maxHeartbeats 8000000 in
set_option maxRecDepth 100000 in
theorem counts_law (p : PV) (w : World) (hr : PW w p) :
    Calls Try.prog 5 #[.agg #[.slice p.A p.L.length p.ca, .slice p.B p.b.length p.cb, .slice p.U p.u.length p.cu]] w fun e w' => e = .returned (.bool true) ∧ Below w.heap.size w w' := by
  have CF : Hid (∀ W, Below w.heap.size w W → Calls Try.prog 9 #[.agg #[.slice p.A p.L.length p.ca, .slice p.B p.b.length p.cb, .slice p.U p.u.length p.cu]] W (VPost W.heap.size W (.bool (fewB p)))) := fun W hW => few_any p W (hr.below hW)
  have CX : Hid (∀ W, Calls Try.prog 10 #[] W (VPost W.heap.size W (.bool true))) := alive_any
  have B0 : Hid (Below w.heap.size w (w.alloc (.cells #[.slice p.A p.L.length p.ca, .slice p.B p.b.length p.cb, .slice p.U p.u.length p.cu] 25))) := (Below.refl _ _).alloc (Nat.le_refl _) _
  have q0 : (w.alloc (.cells #[.slice p.A p.L.length p.ca, .slice p.B p.b.length p.cb, .slice p.U p.u.length p.cu] 25)).cell? ⟨w.heap.size, 0, none⟩ = some (.slice p.A p.L.length p.ca) := by simp
  have q1 : (w.alloc (.cells #[.slice p.A p.L.length p.ca, .slice p.B p.b.length p.cb, .slice p.U p.u.length p.cu] 25)).cell? ⟨w.heap.size, 1, none⟩ = some (.slice p.B p.b.length p.cb) := by simp
  have q2 : (w.alloc (.cells #[.slice p.A p.L.length p.ca, .slice p.B p.b.length p.cb, .slice p.U p.u.length p.cu] 25)).cell? ⟨w.heap.size, 2, none⟩ = some (.slice p.U p.u.length p.cu) := by simp
  cases hf : fewB p
  · rw [hf] at CF
    clear hr hf
    go_enter Try.func5, Try.ntmps5
    go_wp2_with fail
    refine (CF.out _ B0.out).mono ?_
    rintro e x1 ⟨rfl, K⟩
    have q0 := keepc q0 K
    have q1 := keepc q1 K
    have q2 := keepc q2 K
    have Dx1 := Lib.hid (B0.out.trans (K.mono B0.out.size))
    clear K
    go_wp2_with fail
    refine (CX.out _).mono ?_
    rintro e x2 ⟨rfl, K⟩
    have q0 := keepc q0 K
    have q1 := keepc q1 K
    have q2 := keepc q2 K
    have Dx2 := Lib.hid (Dx1.out.trans (K.mono Dx1.out.size))
    clear K
    go_wp2
    go_ret
    exact ⟨rfl, Dx2.out⟩
  · rw [hf] at CF
    have fp := few_parts hf
    have hs : PR w p := hr.small fp.1
    have hl : lensOk p := ⟨by have := fp.2.1; omega, by have := fp.2.2.1; omega, by have := fp.2.2.2.1; omega⟩
    have C1 : Hid (∀ W, Below w.heap.size w W → Calls Try.prog 16 #[.slice p.A p.L.length p.ca, .slice p.B p.b.length p.cb, .slice p.U p.u.length p.cu] W (VPost W.heap.size W (cntE p))) := fun W hW => count_any p W (hs.below hW) hl
    have C2 : Hid (∀ W, Below w.heap.size w W → Calls Try.prog 17 #[.slice p.A p.L.length p.ca, .slice p.B p.b.length p.cb, .slice p.U p.u.length p.cu] W (VPost W.heap.size W (cntE p))) := fun W hW => rcount_any p W (hs.below hW) hl
    unfold cntE at C1 C2
    clear hr hf fp hs hl
    generalize (if chkP p.L p.b p.u = 0 then ((solT p.L p.b p.u).length : Int) else 0) = n at *
    generalize chkP p.L p.b p.u = E at *
    have z1 : (E == E) = true := by simp
    have z2 : (n == n) = true := by simp
    go_enter Try.func5, Try.ntmps5
    go_wp2_with fail
    refine (CF.out _ B0.out).mono ?_
    rintro e x1 ⟨rfl, K⟩
    have q0 := keepc q0 K
    have q1 := keepc q1 K
    have q2 := keepc q2 K
    have Dx1 := Lib.hid (B0.out.trans (K.mono B0.out.size))
    clear K
    go_wp2_with fail
    refine (C1.out _ Dx1.out).mono ?_
    rintro e x2 ⟨rfl, K⟩
    have q0 := keepc q0 K
    have q1 := keepc q1 K
    have q2 := keepc q2 K
    have Dx2 := Lib.hid (Dx1.out.trans (K.mono Dx1.out.size))
    clear K
    go_wp2_with fail
    refine (C2.out _ Dx2.out).mono ?_
    rintro e x3 ⟨rfl, K⟩
    have q0 := keepc q0 K
    have q1 := keepc q1 K
    have q2 := keepc q2 K
    have Dx3 := Lib.hid (Dx2.out.trans (K.mono Dx2.out.size))
    clear K
    go_wp2_with fail
    refine (CX.out _).mono ?_
    rintro e x4 ⟨rfl, K⟩
    have q0 := keepc q0 K
    have q1 := keepc q1 K
    have q2 := keepc q2 K
    have Dx4 := Lib.hid (Dx3.out.trans (K.mono Dx3.out.size))
    clear K
    go_wp2
    go_ret
    exact ⟨rfl, Dx4.out⟩
theorem allV_len (p : PV) (limit : Int) (hl : lensOk p) : ∀ x ∈ allV p limit, x.length ≤ 1000 := fun x hx => by
  unfold allV at hx
  split at hx
  · have hm := (mem_vecs _ _).1 (List.mem_filter.1 (List.mem_of_mem_take hx)).1
    have := hl.2.2
    omega
  · cases hx
theorem allV_few (p : PV) (limit : Int) : (allV p limit).length ≤ 1000 := by
  unfold allV
  by_cases h : allE p limit = 0
  · rw [if_pos h]
    unfold allE at h
    have hlim : limit ≤ 1000 := by
      by_cases hc : chkP p.L p.b p.u = 0
      · rw [if_pos hc] at h
        by_cases h2 : limit < 1 ∨ 1000 < limit
        · rw [if_pos h2] at h; cases h
        · omega
      · rw [if_neg hc] at h; exact absurd h hc
    rw [List.length_take]
    omega
  · rw [if_neg h]; simp
set_option maxHeartbeats 8000000 in
set_option maxRecDepth 100000 in
theorem alls_law (p : PV) (limit : Int) (w : World) (hr : PW w p) :
    Calls Try.prog 6 #[.agg #[.slice p.A p.L.length p.ca, .slice p.B p.b.length p.cb, .slice p.U p.u.length p.cu], .int .i64 limit] w fun e w' => e = .returned (.bool true) ∧ Below w.heap.size w w' := by
  have CF : Hid (∀ W, Below w.heap.size w W → Calls Try.prog 9 #[.agg #[.slice p.A p.L.length p.ca, .slice p.B p.b.length p.cb, .slice p.U p.u.length p.cu]] W (VPost W.heap.size W (.bool (fewB p)))) := fun W hW => few_any p W (hr.below hW)
  have CX : Hid (∀ W, Calls Try.prog 10 #[] W (VPost W.heap.size W (.bool true))) := alive_any
  have B0 : Hid (Below w.heap.size w (w.alloc (.cells #[.slice p.A p.L.length p.ca, .slice p.B p.b.length p.cb, .slice p.U p.u.length p.cu] 25))) := (Below.refl _ _).alloc (Nat.le_refl _) _
  have q0 : (w.alloc (.cells #[.slice p.A p.L.length p.ca, .slice p.B p.b.length p.cb, .slice p.U p.u.length p.cu] 25)).cell? ⟨w.heap.size, 0, none⟩ = some (.slice p.A p.L.length p.ca) := by simp
  have q1 : (w.alloc (.cells #[.slice p.A p.L.length p.ca, .slice p.B p.b.length p.cb, .slice p.U p.u.length p.cu] 25)).cell? ⟨w.heap.size, 1, none⟩ = some (.slice p.B p.b.length p.cb) := by simp
  have q2 : (w.alloc (.cells #[.slice p.A p.L.length p.ca, .slice p.B p.b.length p.cb, .slice p.U p.u.length p.cu] 25)).cell? ⟨w.heap.size, 2, none⟩ = some (.slice p.U p.u.length p.cu) := by simp
  cases hf : fewB p
  · rw [hf] at CF
    clear hr hf
    go_enter Try.func6, Try.ntmps6
    go_wp2_with fail
    refine (CF.out _ B0.out).mono ?_
    rintro e x1 ⟨rfl, K⟩
    have q0 := keepc q0 K
    have q1 := keepc q1 K
    have q2 := keepc q2 K
    have Dx1 := Lib.hid (B0.out.trans (K.mono B0.out.size))
    clear K
    go_wp2_with fail
    refine (CX.out _).mono ?_
    rintro e x2 ⟨rfl, K⟩
    have q0 := keepc q0 K
    have q1 := keepc q1 K
    have q2 := keepc q2 K
    have Dx2 := Lib.hid (Dx1.out.trans (K.mono Dx1.out.size))
    clear K
    go_wp2
    go_ret
    exact ⟨rfl, Dx2.out⟩
  · rw [hf] at CF
    have fp := few_parts hf
    have hs : PR w p := hr.small fp.1
    have hl : lensOk p := ⟨by have := fp.2.1; omega, by have := fp.2.2.1; omega, by have := fp.2.2.2.1; omega⟩
    have C1 : Hid (∀ W, Below w.heap.size w W → Calls Try.prog 18 #[.slice p.A p.L.length p.ca, .slice p.B p.b.length p.cb, .slice p.U p.u.length p.cu, .int .i64 limit] W (LPost2 W (allV p limit) (allE p limit))) := fun W hW => all_any p limit W (hs.below hW) hl
    have C2 : Hid (∀ W, Below w.heap.size w W → Calls Try.prog 19 #[.slice p.A p.L.length p.ca, .slice p.B p.b.length p.cb, .slice p.U p.u.length p.cu, .int .i64 limit] W (LPost2 W (allV p limit) (allE p limit))) := fun W hW => rall_any p limit W (hs.below hW) hl
    have AL := Lib.hid (allV_len p limit hl)
    have AN := Lib.hid (allV_few p limit)
    have CS : Hid (∀ x : List Int, x.length ≤ 1000 → ∀ A B c1 c2 W, ReadsV W A x → ReadsV W B x → Calls Try.prog 15 #[.slice A x.length c1, .slice B x.length c2] W (BPost W.heap.size W true)) := fun x hx A B c1 c2 W h1 h2 => by
      have h := same_law A B x x c1 c2 W h1 h2 (by omega)
      rw [sameL_iff.2 rfl] at h
      exact h
    unfold LPost2 at C1 C2
    clear hr hf fp hs hl
    generalize allE p limit = E at *
    generalize allV p limit = X at *
    have z1 : (E != E) = false := by simp
    go_enter Try.func6, Try.ntmps6
    go_wp2_with fail
    refine (CF.out _ B0.out).mono ?_
    rintro e x1 ⟨rfl, K⟩
    have q0 := keepc q0 K
    have q1 := keepc q1 K
    have q2 := keepc q2 K
    have Dx1 := Lib.hid (B0.out.trans (K.mono B0.out.size))
    clear K
    go_wp2_with fail
    refine (C1.out _ Dx1.out).mono ?_
    rintro e x2 ⟨A1, c1, L1, rfl, E1, R1, K⟩
    have R1 := Lib.hid R1
    have E1 := Lib.hid E1
    have q0 := keepc q0 K
    have q1 := keepc q1 K
    have q2 := keepc q2 K
    have Dx2 := Lib.hid (Dx1.out.trans (K.mono Dx1.out.size))
    clear K
    go_wp2_with fail
    refine (C2.out _ Dx2.out).mono ?_
    rintro e x3 ⟨A2, c2, L2, rfl, E2, R2, K⟩
    have R2 := Lib.hid R2
    have E2 := Lib.hid E2
    have q0 := keepc q0 K
    have q1 := keepc q1 K
    have q2 := keepc q2 K
    have R1 := Lib.hid (R1.out.below K (Nat.le_refl _))
    have Dx3 := Lib.hid (Dx2.out.trans (K.mono Dx2.out.size))
    clear K
    have hll : L2.length = L1.length := by rw [← rowsL_len L1, ← rowsL_len L2, E1.out, E2.out]
    have RW : Hid (∀ j, j < L1.length → (rA L1 j).zs = (rA L2 j).zs ∧ (rA L1 j).zs.length ≤ 1000) := fun j hj => by
      have e1 := rA_get hj
      have e2 := rA_get (L := L2) (j := j) (by omega)
      simp only [E1.out] at e1
      simp only [E2.out] at e2
      refine ⟨by rw [← e1, ← e2], ?_⟩
      rw [← e1]
      exact AL.out _ (List.getElem_mem _)
    have R1 := Lib.hid (fun W (hW : Below x3.heap.size x3 W) => R1.out.below hW (Nat.le_refl _))
    have R2 := Lib.hid (fun W (hW : Below x3.heap.size x3 W) => R2.out.below hW (Nat.le_refl _))
    have hL1 : L1.length ≤ 1000 := by rw [← rowsL_len, E1.out]; exact AN.out
    obtain ⟨n, hn⟩ : ∃ n, n = L1.length := ⟨_, rfl⟩
    rw [← hn] at hL1
    rw [hll, ← hn]
    have z2 : ((n : Int) != (n : Int)) = false := by simp
    rw [← hn] at RW
    have HN := Lib.hid hn
    have HLL := Lib.hid hll
    clear hn hll E1 E2 AL C1 C2 CF B0 Dx1 Dx2
    go_wp2_with fail
    go_loopw [9] (fun q wr => ∃ i : Nat, i ≤ n ∧ q = .int .i64 i ∧ Hid (Below x3.heap.size x3 wr)) (fun q _ => n - (intOf q).toNat)
    case atStart => exact ⟨0, Nat.zero_le _, rfl, Below.refl _ _⟩
    case round =>
      obtain ⟨i, hi, rfl, HB⟩ := hrel
      by_cases hlt : i < n
      · have l1 : i < L1.length := by rw [← HN.out]; exact hlt
        have l2 : i < L2.length := by rw [HLL.out, ← HN.out]; exact hlt
        have HBd := Lib.hid HB.out.drew
        obtain ⟨b1, o1, e1, h1⟩ := (R1.out _ HBd.out).1.at i l1
        obtain ⟨b2, o2, e2, h2⟩ := (R2.out _ HBd.out).1.at i l2
        have r1 := ((R1.out _ HBd.out).2 _ (rA_mem l1)).1
        have r2 := ((R2.out _ HBd.out).2 _ (rA_mem l2)).1
        obtain ⟨ez, hz⟩ := RW.out i hlt
        generalize rA L1 i = s1 at *
        generalize rA L2 i = s2 at *
        obtain ⟨a1, y1, d1⟩ := s1
        obtain ⟨a2, y2, d2⟩ := s2
        dsimp only at *
        subst ez
        have C := Lib.hid (CS.out y1 hz a1 a2 d1 d2)
        have r1 := Lib.hid r1
        have r2 := Lib.hid r2
        clear CS R1 R2 RW HN HLL l1 l2 hz
        subst e1
        subst e2
        go_upto_region 10 with fail
        refine wp_region_held_drew (S := fun w' => w'.cell? ⟨b1, o1 + i, none⟩ = some (.slice a1 y1.length d1) ∧ w'.cell? ⟨b2, o2 + i, none⟩ = some (.slice a2 y1.length d2) ∧ Hid (Below x3.heap.size x3 w') ∧ Hid (ReadsV w' a1 y1) ∧ Hid (ReadsV w' a2 y1)) (by kernel_rfl) ?_ (fun hHeld => ?_)
        · exact ⟨h1, h2, HBd, r1, r2⟩
        refine wpAnyH_take (oi := ⟨_, _, _, _, _, _⟩) (i := 0) (v := ?_) rfl (by kernel_rfl) (by kernel_rfl) (by kernel_rfl) (fun _ _ _ h => h) (Or.inl ⟨by rfl, ?yb0⟩) (by assumption) ?rb0
        case yb0 => (intro w hSw; (try dsimp only at hSw); go_simp; (try with_reducible rfl))
        try simp only [Act.put, List.setIfInBounds_toArray, List.set_cons_zero, List.set_cons_succ]
        refine wpAnyH_take (oi := ⟨_, _, _, _, _, _⟩) (i := 1) (v := ?_) rfl (by kernel_rfl) (by kernel_rfl) (by kernel_rfl) (fun _ _ _ h => h) (Or.inl ⟨by rfl, ?yb1⟩) (by assumption) ?rb1
        case yb1 => (intro w hSw; (try dsimp only at hSw); go_simp; (try with_reducible rfl))
        try simp only [Act.put, List.setIfInBounds_toArray, List.set_cons_zero, List.set_cons_succ]
        refine wpAnyH_take (oi := ⟨_, _, _, _, _, _⟩) (i := 2) (v := ?_) rfl (by kernel_rfl) (by kernel_rfl) (by kernel_rfl) (fun _ _ _ h => h) (Or.inl ⟨by rfl, ?yb2⟩) (by assumption) ?rb2
        case yb2 => (intro w hSw; (try dsimp only at hSw); go_simp; (try with_reducible rfl))
        try simp only [Act.put, List.setIfInBounds_toArray, List.set_cons_zero, List.set_cons_succ]
        refine wpAnyH_take (oi := ⟨_, _, _, _, _, _⟩) (i := 3) (v := ?_) rfl (by kernel_rfl) (by kernel_rfl) (by kernel_rfl) (fun _ _ _ h => h) (Or.inl ⟨by rfl, ?yb3⟩) (by assumption) ?rb3
        case yb3 => (intro w hSw; (try dsimp only at hSw); go_simp; (try with_reducible rfl))
        try simp only [Act.put, List.setIfInBounds_toArray, List.set_cons_zero, List.set_cons_succ]
        refine wpAnyH_take (oi := ⟨_, _, _, _, _, _⟩) (i := 4) (v := ?_) rfl (by kernel_rfl) (by kernel_rfl) (by kernel_rfl) (fun _ _ _ h => h) (Or.inl ⟨by rfl, ?yb4⟩) (by assumption) ?rb4
        case yb4 => (intro w hSw; (try dsimp only at hSw); go_simp; (try with_reducible rfl))
        try simp only [Act.put, List.setIfInBounds_toArray, List.set_cons_zero, List.set_cons_succ]
        refine wpAnyH_take (oi := ⟨_, _, _, _, _, _⟩) (i := 5) (v := ?_) rfl (by kernel_rfl) (by kernel_rfl) (by kernel_rfl) (fun _ _ _ h => h) (Or.inl ⟨by rfl, ?yb5⟩) (by assumption) ?rb5
        case yb5 => (intro w hSw; (try dsimp only at hSw); go_simp; (try with_reducible rfl))
        try simp only [Act.put, List.setIfInBounds_toArray, List.set_cons_zero, List.set_cons_succ]
        refine wpAnyH_take (oi := ⟨_, _, _, _, _, _⟩) (i := 6) (v := ?_) rfl (by kernel_rfl) (by kernel_rfl) (by kernel_rfl) (fun _ _ _ h => h) (Or.inl ⟨by rfl, ?yb6⟩) (by assumption) ?rb6
        case yb6 => (intro w hSw; (try dsimp only at hSw); go_simp; (try with_reducible rfl))
        try simp only [Act.put, List.setIfInBounds_toArray, List.set_cons_zero, List.set_cons_succ]
        refine wpAnyH_take (oi := ⟨_, _, _, _, _, _⟩) (i := 7) (v := ?_) rfl (by kernel_rfl) (by kernel_rfl) (by kernel_rfl) (fun _ _ _ h => h) (Or.inl ⟨by rfl, ?yb7⟩) (by assumption) ?rb7
        case yb7 => (intro w hSw; (try dsimp only at hSw); go_simp; (try with_reducible rfl))
        try simp only [Act.put, List.setIfInBounds_toArray, List.set_cons_zero, List.set_cons_succ]
        refine wpAnyH_ready (rs := [8]) (by kernel_rfl) (by simp) ?_
        refine AllReadyH.cons (o := ⟨_, _, _, _, _, _⟩) rfl (fun K hK => ?_) AllReadyH.nil
        go_simp
        go_at_call 15; refine (C.out _ hHeld.2.2.2.1.out hHeld.2.2.2.2.out).mono ?_; rintro e w6 ⟨rfl, K⟩; (try go_wp2_with fail)
        refine hK.out _ _ ?_ (fun hHeld2 => ?_)
        · exact ⟨keepc hHeld.1 K, keepc hHeld.2.1 K, hHeld.2.2.1.out.trans (K.mono hHeld.2.2.1.out.size), hHeld.2.2.2.1.out.below K (Nat.le_refl _), hHeld.2.2.2.2.out.below K (Nat.le_refl _)⟩
        clear hK K hHeld
        have hHeld := hHeld2
        clear hHeld2
        try simp only [Act.put, List.setIfInBounds_toArray, List.set_cons_zero, List.set_cons_succ]
        refine wpAnyH_take (oi := ⟨_, _, _, _, _, _⟩) (i := 9) (v := ?_) rfl (by kernel_rfl) (by kernel_rfl) (by kernel_rfl) (fun _ _ _ h => h) (Or.inl ⟨by rfl, ?yb9⟩) (by assumption) ?rb9
        case yb9 => (intro w hSw; (try dsimp only at hSw); go_simp; (try with_reducible rfl))
        try simp only [Act.put, List.setIfInBounds_toArray, List.set_cons_zero, List.set_cons_succ]
        refine wpAnyH_done (by kernel_rfl) ?_ _
        have B9 := hHeld.2.2.1
        clear hHeld
        go_wp2_with fail
        go_roundw
        case rel => exact ⟨i + 1, by omega, by go_num, B9⟩
        case measure => simp [intOf]; omega
      · have D3 := Lib.hid (Dx3.out.trans (HB.out.mono Dx3.out.size))
        go_wp2_with fail
        refine (CX.out _).mono ?_
        rintro e x5 ⟨rfl, K⟩
        have D5 := Lib.hid (D3.out.trans (K.mono D3.out.size))
        clear K
        go_wp2
        go_ret
        exact ⟨rfl, D5.out⟩
end Go.Proofs.Ytneediihponfiaa
