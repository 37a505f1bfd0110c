/- Bounded natural solutions: Solve. -/
import Derived.Test.YtneediihponfiaaNO
namespace Go.Proofs.Ytneediihponfiaa
open Go.RowKit
attribute [local go_sem] Oper.semAt_some

def solvV (p : PV) : Option (List Int) := if chkP p.L p.b p.u = 0 then (solT p.L p.b p.u).head? else none
def SPost (p : PV) (w : World) (e : Ending) (w' : World) : Prop := ∃ A c, e = .returned (.tuple #[.slice A ((solvV p).getD []).length c, .bool (solvV p).isSome, .int .i64 (chkP p.L p.b p.u)]) ∧ ReadsV w' A ((solvV p).getD []) ∧ Below w.heap.size w w'
theorem solv_bad {p : PV} (h : chkP p.L p.b p.u ≠ 0) : solvV p = none := if_neg h
theorem solv_fine {p : PV} (h : chkP p.L p.b p.u = 0) : solvV p = (solT p.L p.b p.u).head? := if_pos h
/-- the three results, each in its box -/
structure Box3 (W : World) (g : Nat) (v0 v1 v2 : Value) : Prop where
  b0 : Boxed W g 23 v0
  b1 : Boxed W (g + 1) 4 v1
  b2 : Boxed W (g + 1 + 1) 28 v2
theorem Box3.keep {S : Nat → Prop} {A B : World} {g : Nat} {v0 v1 v2 : Value} (h : Box3 A g v0 v1 v2) (k : KeepOn S A B) (h0 : S g) (h1 : S (g + 1)) (h2 : S (g + 1 + 1)) : Box3 B g v0 v1 v2 :=
  ⟨(k.block _ h.b0.lt h0).trans h.b0, (k.block _ h.b1.lt h1).trans h.b1, (k.block _ h.b2.lt h2).trans h.b2⟩
theorem Box3.below {A B : World} {g : Nat} {v0 v1 v2 : Value} (h : Box3 A g v0 v1 v2) (k : Below A.heap.size A B) : Box3 B g v0 v1 v2 := h.keep (KeepOn.of_below (fun _ => True) k) trivial trivial trivial
theorem Box3.set {A : World} {g : Nat} {v0 v1 v2 : Value} (h : Box3 A g v0 v1 v2) (u0 u1 u2 : Value) : Box3 (((A.setCell ⟨g, 0, none⟩ u0).setCell ⟨g + 1, 0, none⟩ u1).setCell ⟨g + 1 + 1, 0, none⟩ u2) g u0 u1 u2 :=
  ⟨((h.b0.set u0).other (by omega) u1).other (by omega) u2, ((h.b1.other (by omega) u0).set u1).other (by omega) u2, ((h.b2.other (by omega) u0).other (by omega) u1).set u2⟩
theorem box3_new (w : World) : Box3 (((w.alloc (.cells #[.slice none 0 0] 23)).alloc (.cells #[.bool false] 4)).alloc (.cells #[.int .i64 0] 28)) w.heap.size (.slice none 0 0) (.bool false) (.int .i64 0) := by
  have b0 := Boxed.new w 23 (.slice none 0 0)
  have b1 := Boxed.new (w.alloc (.cells #[.slice none 0 0] 23)) 4 (.bool false)
  rw [World.size_alloc] at b1
  have b2 := Boxed.new ((w.alloc (.cells #[.slice none 0 0] 23)).alloc (.cells #[.bool false] 4)) 28 (.int .i64 0)
  rw [World.size_alloc, World.size_alloc] at b2
  exact ⟨(b0.alloc _).alloc _, b1.alloc _, b2⟩
theorem set3_below {n : Nat} {w A : World} (h : Below n w A) {g : Nat} (hg : n ≤ g) (u0 u1 u2 : Value) : Below n w (((A.setCell ⟨g, 0, none⟩ u0).setCell ⟨g + 1, 0, none⟩ u1).setCell ⟨g + 1 + 1, 0, none⟩ u2) :=
  ((h.setCell (p := ⟨g, 0, none⟩) hg _).setCell (p := ⟨g + 1, 0, none⟩) (by show n ≤ g + 1; omega) _).setCell (p := ⟨g + 1 + 1, 0, none⟩) (by show n ≤ g + 1 + 1; omega) _
theorem set3_keep {S : Nat → Prop} (A : World) {g : Nat} (h0 : ¬ S g) (h1 : ¬ S (g + 1)) (h2 : ¬ S (g + 1 + 1)) (u0 u1 u2 : Value) : KeepOn S A (((A.setCell ⟨g, 0, none⟩ u0).setCell ⟨g + 1, 0, none⟩ u1).setCell ⟨g + 1 + 1, 0, none⟩ u2) :=
  (KeepOn.set A ⟨g, 0, none⟩ u0 h0).trans ((KeepOn.set _ ⟨g + 1, 0, none⟩ u1 h1).trans (KeepOn.set _ ⟨g + 1 + 1, 0, none⟩ u2 h2))
theorem set3_others (A : World) (g : Nat) (u0 u1 u2 : Value) : KeepsOthers A (((A.setCell ⟨g, 0, none⟩ u0).setCell ⟨g + 1, 0, none⟩ u1).setCell ⟨g + 1 + 1, 0, none⟩ u2) :=
  ((KeepsOthers.setCell A _ _).trans (KeepsOthers.setCell _ _ _)).trans (KeepsOthers.setCell _ _ _)
/-- an own row without its first blocks -/
theorem own_set3 {A : World} {base : Nat} {e : TypeId} {size n : Nat} {v : Value} {xs : List Value} (h : A.ownsRow base e size v n xs) {g : Nat} (hg : g + 1 + 1 < base) (u0 u1 u2 : Value) : (((A.setCell ⟨g, 0, none⟩ u0).setCell ⟨g + 1, 0, none⟩ u1).setCell ⟨g + 1 + 1, 0, none⟩ u2).ownsRow base e size v n xs :=
  (set3_keep (S := fun k => base ≤ k) A (by show ¬ base ≤ g; omega) (by show ¬ base ≤ g + 1; omega) (by show ¬ base ≤ g + 1 + 1; omega) u0 u1 u2).own h (fun k e => (h.lt k e).1)
set_option maxHeartbeats 8000000 in
set_option maxRecDepth 100000 in
theorem solve_bad (p : PV) (w : World) (hr : PR w p) (hl : lensOk p) (hc : chkP p.L p.b p.u ≠ 0) :
    Calls Try.prog 13 #[.slice p.A p.L.length p.ca, .slice p.B p.b.length p.cb, .slice p.U p.u.length p.cu] w (SPost p w) := by
  have CK : Hid (∀ W, Below w.heap.size w W → Calls Try.prog 11 #[.slice p.A p.L.length p.ca, .slice p.B p.b.length p.cb, .slice p.U p.u.length p.cu] W (VPost W.heap.size W (.int .i64 (chkP p.L p.b p.u)))) := fun W hW => pcheck_any _ _ _ _ _ _ _ _ _ W (hr.below hW).rA hl.1 (hr.below hW).rB hl.2.1 (hr.below hW).rU hl.2.2
  unfold SPost
  rw [solv_bad hc]
  generalize chkP p.L p.b p.u = E at *
  have hE : (E != 0) = true := by simpa using hc
  clear hr hl
  have b3 := box3_new w
  have k3 : Hid (Below w.heap.size w (((w.alloc (.cells #[.slice none 0 0] 23)).alloc (.cells #[.bool false] 4)).alloc (.cells #[.int .i64 0] 28))) := ((((Below.refl _ _).alloc (Nat.le_refl _) _).alloc (by simp) _).alloc (by simp; omega) _)
  go_enter Try.func13, Try.ntmps13
  go_wp2_with fail
  refine (CK.out _ k3.out).mono ?_
  rintro e x1 ⟨rfl, K⟩
  have b4 := b3.below K
  have K4 := Lib.hid (k3.out.trans (K.mono k3.out.size))
  have c0 := b4.b0.cell
  have c1 := b4.b1.cell
  have c2 := b4.b2.cell
  have f0 := b4.b0.frozen
  have f1 := b4.b1.frozen
  have f2 := b4.b2.frozen
  clear b3 k3 K
  go_wp2
  have B := b4.set (.slice none 0 0) (.bool false) (.int .i64 E)
  have d0 := B.b0.cell
  have d1 := B.b1.cell
  have d2 := B.b2.cell
  have g0 := B.b0.frozen
  have g1 := B.b1.frozen
  have g2 := B.b2.frozen
  exact bodyPost_ret (v := .tuple #[.slice none 0 0, .bool false, .int .i64 E]) (by simp [results, Try.results13, go_sem, d0, d1, d2]) rfl ⟨none, 0, rfl, ReadsV.nil _ _, set3_below K4.out (Nat.le_refl _) _ _ _⟩
set_option maxHeartbeats 8000000 in
set_option maxRecDepth 100000 in
theorem solve_ok (p : PV) (w : World) (hr : PR w p) (hl : lensOk p) (hc : chkP p.L p.b p.u = 0) :
    Calls Try.prog 13 #[.slice p.A p.L.length p.ca, .slice p.B p.b.length p.cb, .slice p.U p.u.length p.cu] w (SPost p w) := by
  have CK : Hid (∀ W, Below w.heap.size w W → Calls Try.prog 11 #[.slice p.A p.L.length p.ca, .slice p.B p.b.length p.cb, .slice p.U p.u.length p.cu] W (VPost W.heap.size W (.int .i64 (chkP p.L p.b p.u)))) := fun W hW => pcheck_any _ _ _ _ _ _ _ _ _ W (hr.below hW).rA hl.1 (hr.below hW).rB hl.2.1 (hr.below hW).rU hl.2.2
  have CE : Hid (∀ W, Calls Try.prog 26 #[.slice p.A p.L.length p.ca, .slice p.B p.b.length p.cb, .slice p.U p.u.length p.cu] W fun e w' => e = .returned (.func (.func 32) #[] #[.pointer (some ⟨W.heap.size + 1 + 1, 0, none⟩), .pointer (some ⟨W.heap.size + 1, 0, none⟩), .pointer (some ⟨W.heap.size, 0, none⟩)]) ∧ w' = ((W.alloc (.cells #[.slice p.A p.L.length p.ca] 22)).alloc (.cells #[.slice p.B p.b.length p.cb] 23)).alloc (.cells #[.slice p.U p.u.length p.cu] 23)) := solutions_any p
  unfold SPost
  rw [solv_fine hc, hc]
  rw [hc] at CK
  generalize hHD : (solT p.L p.b p.u).head? = HD
  have HHD := Lib.hid hHD
  clear hHD
  have D0 := chk0 hc
  have TL := solT_len D0
  clear hc
  have b3 := box3_new w
  have k3 : Hid (Below w.heap.size w (((w.alloc (.cells #[.slice none 0 0] 23)).alloc (.cells #[.bool false] 4)).alloc (.cells #[.int .i64 0] 28))) := ((((Below.refl _ _).alloc (Nat.le_refl _) _).alloc (by simp) _).alloc (by simp; omega) _)
  have z3 : (((w.alloc (.cells #[.slice none 0 0] 23)).alloc (.cells #[.bool false] 4)).alloc (.cells #[.int .i64 0] 28)).heap.size = w.heap.size + 3 := by simp
  refine (callsIn_wide (n := 6)).1 (callsIn_of_wp_marks Try.func13 rfl trivial ?_ rfl)
  simp only [Try.ntmps13, List.size_toArray, List.length_cons, List.length_nil, Nat.reduceAdd, Nat.reduceSub, Array.replicate_succ, Array.replicate_zero, List.push_toArray, List.append_toArray, List.nil_append, List.cons_append]
  refine wpIn_wide.2 ?_
  go_wp2_with fail
  refine (CK.out _ k3.out).mono ?_
  rintro e x1 ⟨rfl, K⟩
  have b4 := b3.below K
  have K4 := Lib.hid (k3.out.trans (K.mono k3.out.size))
  have s1 : w.heap.size + 3 ≤ x1.heap.size := by have := K.size; omega
  clear b3 k3 K CK z3
  go_wp2_with fail
  refine (CE.out _).mono ?_
  rintro e x3 ⟨rfl, rfl⟩
  go_wp2_with fail
  have LW := loopW p x1
  obtain ⟨wz, hwz⟩ : ∃ wz, wz = ((x1.alloc (.cells #[.slice p.A p.L.length p.ca] 22)).alloc (.cells #[.slice p.B p.b.length p.cb] 23)).alloc (.cells #[.slice p.U p.u.length p.cu] 23) := ⟨_, rfl⟩
  rw [← hwz] at LW ⊢
  have sz := LW.sz
  have bz := b4.below LW.k
  have kw : Below w.heap.size w wz := K4.out.trans (LW.k.mono K4.out.size)
  have la := LW.a
  have lb := LW.b
  have lu := LW.u
  have HSZ := Lib.hid sz
  clear hwz LW K4 CE b4 sz
  refine (wpIn_wide (n := 6)).1 ?_
  refine rangeFunc_scr (gf := 32) (lb := #[.pointer (some ⟨x1.heap.size + 1 + 1, 0, none⟩), .pointer (some ⟨x1.heap.size + 1, 0, none⟩), .pointer (some ⟨x1.heap.size, 0, none⟩)]) rfl (enters_of Try.func32 (by kernel_rfl) rfl)
    (sols_seq (6 - 1) w wz p hr D0 kw x1.heap.size (x1.heap.size + 1) (x1.heap.size + 1 + 1) la lb lu) (fun k h => by have := HSZ.out; rcases h with h | h | h <;> omega) (fun _ => rfl) (fun hi x A B h k => h.keep k)
    (fun hi pre W => pre = [] ∧ Box3 W w.heap.size (.slice none 0 0) (.bool false) (.int .i64 0) ∧ Below w.heap.size w W)
    (fun c pre W => c = .ret ∧ ∃ A cc x, pre = [x] ∧ Box3 W w.heap.size (.slice A x.length cc) (.bool true) (.int .i64 0) ∧ W.ownsRow (wz.heap.size + 2) 2 1 (.slice A x.length cc) x.length (x.map (Value.int .i64)) ∧ Below w.heap.size w W)
    (fun hi s A B hlo h k => by
      have sz := HSZ.out
      exact ⟨h.1, h.2.1.keep k (.inl (by omega)) (.inl (by omega)) (.inl (by omega)), h.2.2.trans (k.below h.2.2.size (fun i hi => .inl (by omega)))⟩)
    (fun c s A B h k => by
      obtain ⟨h0, A1, cc, x, h1, h2, h3, h4⟩ := h
      have sz := HSZ.out
      exact ⟨h0, A1, cc, x, h1, h2.keep k (.inl (by omega)) (.inl (by omega)) (.inl (by omega)), k.own h3 (fun g e => .inr (h3.lt g e).1), h4.trans (k.below h4.size (fun i hi => .inl (by omega)))⟩)
    (fun hi W1 h1 h2 k => by
      have sz := HSZ.out
      exact ⟨rfl, bz.keep (KeepOn.of_belowN (S := fun k => k < wz.heap.size) k (fun k h => h)) (by omega) (by omega) (by omega), kw.trans (k.mono kw.size)⟩) ?a1 ?assign ?body ?done ?stop
  case assign =>
    intro l x W K hK
    gi_wp2
    exact hK
  case body =>
    rintro l hi pre x W h1 h2 h3 ⟨rfl, b1, k1⟩ hs
    have xl := hs.2.1
    obtain ⟨XA, xc, exa, hrx⟩ := ReadsV.own hs.2.2
    rw [xl] at exa
    have CC : Hid (Calls Try.prog 27 #[.slice (some ⟨wz.heap.size + 2 + 1, 0, none⟩) p.u.length p.u.length] W fun e w' => ∃ A2 c2, e = .returned (.slice A2 x.length c2) ∧ w'.ownsRow W.heap.size 2 1 (.slice A2 x.length c2) x.length (x.map (Value.int .i64)) ∧ Below W.heap.size W w') := by
      have h := clone_w XA x xc W hrx (by rw [xl]; have := D0.u64; omega)
      rw [xl, ← exa] at h
      rw [xl]
      exact h
    clear exa hrx hs xl TL D0 la lb lu bz
    gi_wp2_with (refine ⟨trivial, ?_⟩; gi_at_call 27; refine (callsIn_wide.2 CC.out).mono ?_; rintro e w4 ⟨A2, c2, rfl, o2, K⟩; have b4 := b1.below K; have c0 := b4.b0.cell; have c1 := b4.b1.cell; have cc2 := b4.b2.cell; have f0 := b4.b0.frozen; have f1 := b4.b1.frozen; have f2 := b4.b2.frozen)
    have sz := HSZ.out
    refine ⟨(KeepOn.of_below _ K).trans (set3_keep _ ?_ ?_ ?_ _ _ _), rfl, A2, c2, x, rfl, b4.set _ _ _, own_set3 (own_mono o2 (by omega)) (by omega) _ _ _, set3_below (k1.trans (K.mono k1.size)) (Nat.le_refl _) _ _ _⟩
    all_goals (rintro (h | h); rcases h with h | h | h <;> omega; omega)
  case stop =>
    rintro D c pre W hD hpre ⟨rfl, A1, cc, x, rfl, b1, o1, k1⟩ hK
    have c0 := b1.b0.cell
    have c1 := b1.b1.cell
    have c2 := b1.b2.cell
    obtain ⟨t, ht⟩ := hpre
    have hT : HD = some x := by rw [← HHD.out, ← ht]; rfl
    have HT := Lib.hid hT
    clear hT ht
    gi_wp2
    have sz := HSZ.out
    refine ⟨by simp, .inl ⟨_, _, rfl, run_takeDeferred hK, ?_⟩⟩
    have d0 := cell_kept c0 (grownBy_putObj' _ D (.deferred none)) (fun r e => by cases e; exact ⟨_, hK, rfl⟩)
    have d1 := cell_kept c1 (grownBy_putObj' _ D (.deferred none)) (fun r e => by cases e; exact ⟨_, hK, rfl⟩)
    have d2 := cell_kept c2 (grownBy_putObj' _ D (.deferred none)) (fun r e => by cases e; exact ⟨_, hK, rfl⟩)
    obtain ⟨A9, c9, e9, hr9⟩ := ReadsV.own o1
    cases e9
    have RV9 : ReadsV (W.putObj D (.deferred none)) A1 x := fun j hj => by
      obtain ⟨b, off, q1, q2, q3⟩ := hr9 j hj
      exact ⟨b, off, q1, by simpa using q2, cell_kept q3 (grownBy_putObj' _ D _) (fun r e => by cases e; exact ⟨_, hK, rfl⟩)⟩
    exact ⟨.tuple #[.slice A1 x.length cc, .bool true, .int .i64 0], by simp [results, Try.f13, go_sem, d0, d1, d2], A1, cc, by rw [HT.out]; rfl, by rw [HT.out]; exact RV9, k1.trans (belowK_b (w := w) (Nat.le_refl _) W D _ _ (by omega) hK rfl rfl)⟩
  case done =>
    rintro D hi W hD h1 h2 ⟨hT, b1, k1⟩ hK
    have c0 := b1.b0.cell
    have c1 := b1.b1.cell
    have c2 := b1.b2.cell
    have f0 := b1.b0.frozen
    have f1 := b1.b1.frozen
    have f2 := b1.b2.frozen
    have hT2 : HD = none := by rw [← HHD.out, hT]; rfl
    have HT := Lib.hid hT2
    clear hT hT2
    go_wp2
    have sz := HSZ.out
    have B := b1.set (.slice none 0 0) (.bool false) (.int .i64 0)
    have k9 := set3_below k1 (Nat.le_refl _) (.slice none 0 0) (.bool false) (.int .i64 0)
    have hK' := (set3_others W w.heap.size (.slice none 0 0) (.bool false) (.int .i64 0)).same D _ hK rfl
    refine ⟨by simp, .inl ⟨_, _, rfl, run_takeDeferred hK', ?_⟩⟩
    have d0 := cell_kept B.b0.cell (grownBy_putObj' _ D (.deferred none)) (fun r e => by cases e; exact ⟨_, hK', rfl⟩)
    have d1 := cell_kept B.b1.cell (grownBy_putObj' _ D (.deferred none)) (fun r e => by cases e; exact ⟨_, hK', rfl⟩)
    have d2 := cell_kept B.b2.cell (grownBy_putObj' _ D (.deferred none)) (fun r e => by cases e; exact ⟨_, hK', rfl⟩)
    exact ⟨.tuple #[.slice none 0 0, .bool false, .int .i64 0], by simp [results, Try.f13, go_sem, d0, d1, d2], none, 0, by rw [HT.out]; rfl, by rw [HT.out]; exact ReadsV.nil _ _, k9.trans (belowK_b (w := w) (Nat.le_refl _) _ D _ _ (by omega) hK' rfl rfl)⟩
theorem solve_any (p : PV) (w : World) (hr : PR w p) (hl : lensOk p) :
    Calls Try.prog 13 #[.slice p.A p.L.length p.ca, .slice p.B p.b.length p.cb, .slice p.U p.u.length p.cu] w (SPost p w) := by
  by_cases hc : chkP p.L p.b p.u = 0
  · exact solve_ok p w hr hl hc
  · exact solve_bad p w hr hl hc
end Go.Proofs.Ytneediihponfiaa
