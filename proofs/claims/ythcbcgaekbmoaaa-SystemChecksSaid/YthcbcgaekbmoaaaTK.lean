/- The law Checks. -/
import Derived.Test.YthcbcgaekbmoaaaSW
import Derived.Test.YthcbcgaekbmoaaaSZ
import Derived.Test.YthcbcgaekbmoaaaTF
import Derived.Test.YthcbcgaekbmoaaaTH
namespace Go.Proofs.Ythcbcgaekbmoaaa
open Go.RowKit Go.Deep

theorem faultEql (a b c d : Int) (w : World) : (binOp .eql 30 (.agg #[.int .i64 a, .int .i64 b]) (.agg #[.int .i64 c, .int .i64 d])).run Try.prog w = .ok (.bool (a == c && b == d)) w := by
  have hS : Try.prog.underlying 30 = some (.struct (Try.prog.fieldsOf 30)) := by kernel_rfl
  have hp : Try.prog.stoodInHeld 30 = false := by kernel_rfl
  rw [run_eql_struct, show (10000 : Nat) = 9999 + 1 from rfl, run_equalIn_agg w 9999 30 _ _ hS hp]
  simp only [Program.fieldsOf, Try.underlying30]
  go_simp
  by_cases h1 : a = c <;> by_cases h2 : b = d <;> simp [h1, h2]
theorem checkV_any (s : SysV) (w : World) (hr : SysR w s) : Calls Try.prog 8 #[.agg #[.int .i64 s.st, .slice s.EA s.el s.ec, .slice s.AA s.ar.length s.ac]] w (VPost w.heap.size w (.agg #[.int .i64 (fltV s).1, .int .i64 (fltV s).2])) := by
  refine (check_at s w hr).mono ?_
  rintro e w' ⟨E, At, rfl, hv, K⟩
  rw [hv]
  exact ⟨rfl, K⟩
theorem rcheckV_any (s : SysV) (w : World) (hr : SysR w s) : Calls Try.prog 9 #[.agg #[.int .i64 s.st, .slice s.EA s.el s.ec, .slice s.AA s.ar.length s.ac]] w (VPost w.heap.size w (.agg #[.int .i64 (fltV s).1, .int .i64 (fltV s).2])) := by
  refine (rcheck_at s w hr).mono ?_
  rintro e w' ⟨E, At, rfl, hv, K⟩
  rw [hv]
  exact ⟨rfl, K⟩
set_option maxHeartbeats 8000000 in
set_option maxRecDepth 100000 in
theorem checks_law (s : SysV) (w : World) (hr : SysW w s) :
    Calls Try.prog 3 #[.agg #[.int .i64 s.st, .slice s.EA s.el s.ec, .slice s.AA s.ar.length s.ac]] w fun e w' => e = .returned (.bool true) ∧ Below w.heap.size w w' := by
  have CX : Hid (∀ W, Calls Try.prog 7 #[] W (VPost W.heap.size W (.bool true))) := alive_any
  have B0 : Hid (Below w.heap.size w (w.alloc (.cells #[.int .i64 s.st, .slice s.EA s.el s.ec, .slice s.AA s.ar.length s.ac] 25))) := (Below.refl _ _).alloc (Nat.le_refl _) _
  have CF := Lib.hid (few_any s _ (hr.below B0.out (Nat.le_refl _)))
  have q0 : (w.alloc (.cells #[.int .i64 s.st, .slice s.EA s.el s.ec, .slice s.AA s.ar.length s.ac] 25)).cell? ⟨w.heap.size, 0, none⟩ = some (.int .i64 s.st) := by simp
  have q1 : (w.alloc (.cells #[.int .i64 s.st, .slice s.EA s.el s.ec, .slice s.AA s.ar.length s.ac] 25)).cell? ⟨w.heap.size, 1, none⟩ = some (.slice s.EA s.el s.ec) := by simp
  have q2 : (w.alloc (.cells #[.int .i64 s.st, .slice s.EA s.el s.ec, .slice s.AA s.ar.length s.ac] 25)).cell? ⟨w.heap.size, 2, none⟩ = some (.slice s.AA s.ar.length s.ac) := by simp
  have HR := Lib.hid hr
  clear hr
  go_enter Try.func3, Try.ntmps3
  go_wp2_with fail
  refine CF.out.mono ?_
  rintro e x1 ⟨⟨b, rfl, hb⟩, K⟩
  have q0 := keepc q0 K
  have q1 := keepc q1 K
  have q2 := keepc q2 K
  have D1 := Lib.hid (B0.out.trans (K.mono B0.out.size))
  clear K B0 CF
  cases b
  · clear q0 q1 q2 HR hb 
    go_wp2_with fail
    refine (CX.out _).mono ?_
    rintro e x2 ⟨rfl, K⟩
    have D2 := Lib.hid (D1.out.trans (K.mono D1.out.size))
    clear K
    go_wp2
    go_ret
    exact ⟨rfl, D2.out⟩
  have hs : SysR w s := HR.out.small (by have := (hb rfl).1; omega) (by have := (hb rfl).2; omega)
  clear hb HR
  have C1 : Hid (∀ W, Below w.heap.size w W → Calls Try.prog 8 #[.agg #[.int .i64 s.st, .slice s.EA s.el s.ec, .slice s.AA s.ar.length s.ac]] W (VPost W.heap.size W (.agg #[.int .i64 (fltV s).1, .int .i64 (fltV s).2]))) := fun W hW => checkV_any s W (hs.below hW (Nat.le_refl _))
  have C2 : Hid (∀ W, Below w.heap.size w W → Calls Try.prog 9 #[.agg #[.int .i64 s.st, .slice s.EA s.el s.ec, .slice s.AA s.ar.length s.ac]] W (VPost W.heap.size W (.agg #[.int .i64 (fltV s).1, .int .i64 (fltV s).2]))) := fun W hW => rcheckV_any s W (hs.below hW (Nat.le_refl _))
  have C3 : Hid (∀ W, Below w.heap.size w W → Calls Try.prog 10 #[.agg #[.int .i64 s.st, .slice s.EA s.el s.ec, .slice s.AA s.ar.length s.ac]] W (VPost W.heap.size W (.bool (detV s)))) := fun W hW => det_any s W (hs.below hW (Nat.le_refl _))
  have C4 : Hid (∀ W, Below w.heap.size w W → Calls Try.prog 11 #[.agg #[.int .i64 s.st, .slice s.EA s.el s.ec, .slice s.AA s.ar.length s.ac]] W (VPost W.heap.size W (.bool (detV s)))) := fun W hW => rdet_any s W (hs.below hW (Nat.le_refl _))
  have C5 : Hid (∀ W, Below w.heap.size w W → Calls Try.prog 12 #[.agg #[.int .i64 s.st, .slice s.EA s.el s.ec, .slice s.AA s.ar.length s.ac]] W (VPost W.heap.size W (.bool (rchV s)))) := fun W hW => reachable_any s W (hs.below hW (Nat.le_refl _))
  have C6 : Hid (∀ W, Below w.heap.size w W → Calls Try.prog 13 #[.agg #[.int .i64 s.st, .slice s.EA s.el s.ec, .slice s.AA s.ar.length s.ac]] W (VPost W.heap.size W (.bool (rchV s)))) := fun W hW => rreachable_any s W (hs.below hW (Nat.le_refl _))
  clear hs
  generalize (fltV s).1 = fe at *
  generalize (fltV s).2 = fa at *
  generalize detV s = dv at *
  generalize rchV s = rv at *
  have z0 : ∀ W, (binOp .eql 30 (.agg #[.int .i64 fe, .int .i64 fa]) (.agg #[.int .i64 fe, .int .i64 fa])).run Try.prog W = .ok (.bool true) W := fun W => by rw [faultEql]; simp
  have z1 : (dv == dv) = true := by simp
  have z2 : (rv == rv) = true := by simp
  go_wp2_with fail
  refine wp_region_held_drew (S := fun w' => w'.cell? ⟨w.heap.size, 0, none⟩ = some (.int .i64 s.st) ∧ w'.cell? ⟨w.heap.size, 1, none⟩ = some (.slice s.EA s.el s.ec) ∧ w'.cell? ⟨w.heap.size, 2, none⟩ = some (.slice s.AA s.ar.length s.ac) ∧ Hid (Below w.heap.size w w')) (by kernel_rfl) ?_ (fun hHeld => ?_)
  · exact ⟨q0, q1, q2, D1.out.drew⟩
  refine wpAnyH_take (oi := ⟨_, _, _, _, _, _⟩) (i := 0) (v := ?_) rfl (by kernel_rfl) (by kernel_rfl) (by kernel_rfl) (fun _ _ _ h => h) (Or.inl ⟨by rfl, ?yx0⟩) (by assumption) ?rx0
  case yx0 => (intro w hSw; (try dsimp only at hSw); go_simp; (try with_reducible rfl))
  try simp only [Act.put, List.setIfInBounds_toArray, List.set_cons_zero, List.set_cons_succ]
  refine wpAnyH_take (oi := ⟨_, _, _, _, _, _⟩) (i := 2) (v := ?_) rfl (by kernel_rfl) (by kernel_rfl) (by kernel_rfl) (fun _ _ _ h => h) (Or.inl ⟨by rfl, ?yx2⟩) (by assumption) ?rx2
  case yx2 => (intro w hSw; (try dsimp only at hSw); go_simp; (try with_reducible rfl))
  try simp only [Act.put, List.setIfInBounds_toArray, List.set_cons_zero, List.set_cons_succ]
  refine wpAnyH_ready (rs := [1]) (by kernel_rfl) (by simp) ?_
  refine AllReadyH.cons (o := ⟨_, _, _, _, _, _⟩) rfl (fun K hK => ?_) AllReadyH.nil
  go_simp
  go_at_call 8; refine (C1.out _ hHeld.2.2.2.out).mono ?_; rintro e x2 ⟨rfl, K1⟩; (try go_wp2_with fail)
  refine hK.out _ _ ?_ (fun hHeld2 => ?_)
  · exact ⟨keepc hHeld.1 K1, keepc hHeld.2.1 K1, keepc hHeld.2.2.1 K1, Lib.hid (hHeld.2.2.2.out.trans (K1.mono hHeld.2.2.2.out.size))⟩
  clear hK K hHeld
  have hHeld := hHeld2
  clear hHeld2
  try simp only [Act.put, List.setIfInBounds_toArray, List.set_cons_zero, List.set_cons_succ]
  refine wpAnyH_ready (rs := [3]) (by kernel_rfl) (by simp) ?_
  refine AllReadyH.cons (o := ⟨_, _, _, _, _, _⟩) rfl (fun K hK => ?_) AllReadyH.nil
  go_simp
  go_at_call 9; refine (C2.out _ hHeld.2.2.2.out).mono ?_; rintro e x2 ⟨rfl, K1⟩; (try go_wp2_with fail)
  refine hK.out _ _ ?_ (fun hHeld2 => ?_)
  · exact ⟨keepc hHeld.1 K1, keepc hHeld.2.1 K1, keepc hHeld.2.2.1 K1, Lib.hid (hHeld.2.2.2.out.trans (K1.mono hHeld.2.2.2.out.size))⟩
  clear hK K hHeld
  have hHeld := hHeld2
  clear hHeld2
  try simp only [Act.put, List.setIfInBounds_toArray, List.set_cons_zero, List.set_cons_succ]
  refine wpAnyH_take (oi := ⟨_, _, _, _, _, _⟩) (i := 4) (v := ?_) rfl (by kernel_rfl) (by kernel_rfl) (by kernel_rfl) (fun _ _ _ h => h) (Or.inl ⟨by rfl, ?yx4⟩) (by assumption) ?rx4
  case yx4 => (intro w hSw; (try dsimp only at hSw); go_simp; (try with_reducible rfl))
  try simp only [Act.put, List.setIfInBounds_toArray, List.set_cons_zero, List.set_cons_succ]
  refine wpAnyH_take (oi := ⟨_, _, _, _, _, _⟩) (i := 5) (v := ?_) rfl (by kernel_rfl) (by kernel_rfl) (by kernel_rfl) (fun _ _ _ h => h) (Or.inl ⟨by rfl, ?yx5⟩) (by assumption) ?rx5
  case yx5 => (intro w hSw; (try dsimp only at hSw); go_simp; (try with_reducible rfl))
  try simp only [Act.put, List.setIfInBounds_toArray, List.set_cons_zero, List.set_cons_succ]
  refine wpAnyH_take (oi := ⟨_, _, _, _, _, _⟩) (i := 6) (v := ?_) rfl (by kernel_rfl) (by kernel_rfl) (by kernel_rfl) (fun _ _ _ h => h) (Or.inl ⟨by rfl, ?yx6⟩) (by assumption) ?rx6
  case yx6 => (intro w hSw; (try dsimp only at hSw); go_simp; (try with_reducible rfl))
  try simp only [Act.put, List.setIfInBounds_toArray, List.set_cons_zero, List.set_cons_succ]
  refine wpAnyH_take (oi := ⟨_, _, _, _, _, _⟩) (i := 8) (v := ?_) rfl (by kernel_rfl) (by kernel_rfl) (by kernel_rfl) (fun _ _ _ h => h) (Or.inl ⟨by rfl, ?yx8⟩) (by assumption) ?rx8
  case yx8 => (intro w hSw; (try dsimp only at hSw); go_simp; (try with_reducible rfl))
  try simp only [Act.put, List.setIfInBounds_toArray, List.set_cons_zero, List.set_cons_succ]
  refine wpAnyH_ready (rs := [7]) (by kernel_rfl) (by simp) ?_
  refine AllReadyH.cons (o := ⟨_, _, _, _, _, _⟩) rfl (fun K hK => ?_) AllReadyH.nil
  go_simp
  go_at_call 10; refine (C3.out _ hHeld.2.2.2.out).mono ?_; rintro e x2 ⟨rfl, K1⟩; (try go_wp2_with fail)
  refine hK.out _ _ ?_ (fun hHeld2 => ?_)
  · exact ⟨keepc hHeld.1 K1, keepc hHeld.2.1 K1, keepc hHeld.2.2.1 K1, Lib.hid (hHeld.2.2.2.out.trans (K1.mono hHeld.2.2.2.out.size))⟩
  clear hK K hHeld
  have hHeld := hHeld2
  clear hHeld2
  try simp only [Act.put, List.setIfInBounds_toArray, List.set_cons_zero, List.set_cons_succ]
  refine wpAnyH_ready (rs := [9]) (by kernel_rfl) (by simp) ?_
  refine AllReadyH.cons (o := ⟨_, _, _, _, _, _⟩) rfl (fun K hK => ?_) AllReadyH.nil
  go_simp
  go_at_call 11; refine (C4.out _ hHeld.2.2.2.out).mono ?_; rintro e x2 ⟨rfl, K1⟩; (try go_wp2_with fail)
  refine hK.out _ _ ?_ (fun hHeld2 => ?_)
  · exact ⟨keepc hHeld.1 K1, keepc hHeld.2.1 K1, keepc hHeld.2.2.1 K1, Lib.hid (hHeld.2.2.2.out.trans (K1.mono hHeld.2.2.2.out.size))⟩
  clear hK K hHeld
  have hHeld := hHeld2
  clear hHeld2
  try simp only [Act.put, List.setIfInBounds_toArray, List.set_cons_zero, List.set_cons_succ]
  refine wpAnyH_take (oi := ⟨_, _, _, _, _, _⟩) (i := 10) (v := ?_) rfl (by kernel_rfl) (by kernel_rfl) (by kernel_rfl) (fun _ _ _ h => h) (Or.inl ⟨by rfl, ?yx10⟩) (by assumption) ?rx10
  case yx10 => (intro w hSw; (try dsimp only at hSw); go_simp; (try with_reducible rfl))
  try simp only [Act.put, List.setIfInBounds_toArray, List.set_cons_zero, List.set_cons_succ]
  refine wpAnyH_take (oi := ⟨_, _, _, _, _, _⟩) (i := 11) (v := ?_) rfl (by kernel_rfl) (by kernel_rfl) (by kernel_rfl) (fun _ _ _ h => h) (Or.inl ⟨by rfl, ?yx11⟩) (by assumption) ?rx11
  case yx11 => (intro w hSw; (try dsimp only at hSw); go_simp; (try with_reducible rfl))
  try simp only [Act.put, List.setIfInBounds_toArray, List.set_cons_zero, List.set_cons_succ]
  refine wpAnyH_take (oi := ⟨_, _, _, _, _, _⟩) (i := 12) (v := ?_) rfl (by kernel_rfl) (by kernel_rfl) (by kernel_rfl) (fun _ _ _ h => h) (Or.inl ⟨by rfl, ?yx12⟩) (by assumption) ?rx12
  case yx12 => (intro w hSw; (try dsimp only at hSw); go_simp; (try with_reducible rfl))
  try simp only [Act.put, List.setIfInBounds_toArray, List.set_cons_zero, List.set_cons_succ]
  refine wpAnyH_take (oi := ⟨_, _, _, _, _, _⟩) (i := 13) (v := ?_) rfl (by kernel_rfl) (by kernel_rfl) (by kernel_rfl) (fun _ _ _ h => h) (Or.inl ⟨by rfl, ?yx13⟩) (by assumption) ?rx13
  case yx13 => (intro w hSw; (try dsimp only at hSw); go_simp; (try with_reducible rfl))
  try simp only [Act.put, List.setIfInBounds_toArray, List.set_cons_zero, List.set_cons_succ]
  refine wpAnyH_take (oi := ⟨_, _, _, _, _, _⟩) (i := 15) (v := ?_) rfl (by kernel_rfl) (by kernel_rfl) (by kernel_rfl) (fun _ _ _ h => h) (Or.inl ⟨by rfl, ?yx15⟩) (by assumption) ?rx15
  case yx15 => (intro w hSw; (try dsimp only at hSw); go_simp; (try with_reducible rfl))
  try simp only [Act.put, List.setIfInBounds_toArray, List.set_cons_zero, List.set_cons_succ]
  refine wpAnyH_ready (rs := [14]) (by kernel_rfl) (by simp) ?_
  refine AllReadyH.cons (o := ⟨_, _, _, _, _, _⟩) rfl (fun K hK => ?_) AllReadyH.nil
  go_simp
  go_at_call 12; refine (C5.out _ hHeld.2.2.2.out).mono ?_; rintro e x2 ⟨rfl, K1⟩; (try go_wp2_with fail)
  refine hK.out _ _ ?_ (fun hHeld2 => ?_)
  · exact ⟨keepc hHeld.1 K1, keepc hHeld.2.1 K1, keepc hHeld.2.2.1 K1, Lib.hid (hHeld.2.2.2.out.trans (K1.mono hHeld.2.2.2.out.size))⟩
  clear hK K hHeld
  have hHeld := hHeld2
  clear hHeld2
  try simp only [Act.put, List.setIfInBounds_toArray, List.set_cons_zero, List.set_cons_succ]
  refine wpAnyH_ready (rs := [16]) (by kernel_rfl) (by simp) ?_
  refine AllReadyH.cons (o := ⟨_, _, _, _, _, _⟩) rfl (fun K hK => ?_) AllReadyH.nil
  go_simp
  go_at_call 13; refine (C6.out _ hHeld.2.2.2.out).mono ?_; rintro e x2 ⟨rfl, K1⟩; (try go_wp2_with fail)
  refine hK.out _ _ ?_ (fun hHeld2 => ?_)
  · exact ⟨keepc hHeld.1 K1, keepc hHeld.2.1 K1, keepc hHeld.2.2.1 K1, Lib.hid (hHeld.2.2.2.out.trans (K1.mono hHeld.2.2.2.out.size))⟩
  clear hK K hHeld
  have hHeld := hHeld2
  clear hHeld2
  try simp only [Act.put, List.setIfInBounds_toArray, List.set_cons_zero, List.set_cons_succ]
  refine wpAnyH_take (oi := ⟨_, _, _, _, _, _⟩) (i := 17) (v := ?_) rfl (by kernel_rfl) (by kernel_rfl) (by kernel_rfl) (fun _ _ _ h => h) (Or.inl ⟨by rfl, ?yx17⟩) (by assumption) ?rx17
  case yx17 => (intro w hSw; (try dsimp only at hSw); go_simp; (try with_reducible rfl))
  try simp only [Act.put, List.setIfInBounds_toArray, List.set_cons_zero, List.set_cons_succ]
  refine wpAnyH_take (oi := ⟨_, _, _, _, _, _⟩) (i := 18) (v := ?_) rfl (by kernel_rfl) (by kernel_rfl) (by kernel_rfl) (fun _ _ _ h => h) (Or.inl ⟨by rfl, ?yx18⟩) (by assumption) ?rx18
  case yx18 => (intro w hSw; (try dsimp only at hSw); go_simp; (try with_reducible rfl))
  try simp only [Act.put, List.setIfInBounds_toArray, List.set_cons_zero, List.set_cons_succ]
  refine wpAnyH_take (oi := ⟨_, _, _, _, _, _⟩) (i := 19) (v := ?_) rfl (by kernel_rfl) (by kernel_rfl) (by kernel_rfl) (fun _ _ _ h => h) (Or.inl ⟨by rfl, ?yx19⟩) (by assumption) ?rx19
  case yx19 => (intro w hSw; (try dsimp only at hSw); go_simp; (try with_reducible rfl))
  try simp only [Act.put, List.setIfInBounds_toArray, List.set_cons_zero, List.set_cons_succ]
  refine wpAnyH_ready (rs := [20]) (by kernel_rfl) (by simp) ?_
  refine AllReadyH.cons (o := ⟨_, _, _, _, _, _⟩) rfl (fun K hK => ?_) AllReadyH.nil
  go_simp
  go_at_call 7; refine (CX.out _).mono ?_; rintro e x2 ⟨rfl, K1⟩; (try go_wp2_with fail)
  refine hK.out _ _ ?_ (fun hHeld2 => ?_)
  · exact ⟨keepc hHeld.1 K1, keepc hHeld.2.1 K1, keepc hHeld.2.2.1 K1, Lib.hid (hHeld.2.2.2.out.trans (K1.mono hHeld.2.2.2.out.size))⟩
  clear hK K hHeld
  have hHeld := hHeld2
  clear hHeld2
  try simp only [Act.put, List.setIfInBounds_toArray, List.set_cons_zero, List.set_cons_succ]
  refine wpAnyH_take (oi := ⟨_, _, _, _, _, _⟩) (i := 21) (v := ?_) rfl (by kernel_rfl) (by kernel_rfl) (by kernel_rfl) (fun _ _ _ h => h) (Or.inl ⟨by rfl, ?yx21⟩) (by assumption) ?rx21
  case yx21 => (intro w hSw; (try dsimp only at hSw); go_simp; (try with_reducible rfl))
  try simp only [Act.put, List.setIfInBounds_toArray, List.set_cons_zero, List.set_cons_succ]
  refine wpAnyH_take (oi := ⟨_, _, _, _, _, _⟩) (i := 22) (v := ?_) rfl (by kernel_rfl) (by kernel_rfl) (by kernel_rfl) (fun _ _ _ h => h) (Or.inl ⟨by rfl, ?yx22⟩) (by assumption) ?rx22
  case yx22 => (intro w hSw; (try dsimp only at hSw); go_simp; (try with_reducible rfl))
  try simp only [Act.put, List.setIfInBounds_toArray, List.set_cons_zero, List.set_cons_succ]
  refine wpAnyH_done (by kernel_rfl) ?_ _
  have D2 := hHeld.2.2.2
  go_wp2
  go_ret
  exact ⟨rfl, D2.out⟩
end Go.Proofs.Ythcbcgaekbmoaaa
