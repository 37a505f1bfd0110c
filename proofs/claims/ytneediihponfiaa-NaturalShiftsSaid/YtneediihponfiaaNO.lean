/- Bounded natural solutions: Count. -/
import Derived.Test.YtneediihponfiaaNI
namespace Go.Proofs.Ytneediihponfiaa
open Go.RowKit
attribute [local go_sem] Oper.semAt_some

def lensOk (p : PV) : Prop := p.L.length ≤ 1000 ∧ p.b.length ≤ 1000 ∧ p.u.length ≤ 1000
theorem solT_len {L : List Row} {b u : List Int} (D : Fine L b u) : (solT L b u).length ≤ 100000 := by
  have h1 : (solT L b u).length ≤ (vecs u).length := List.length_filter_le _ _
  rw [vecs_len] at h1
  have h2 := prod_prodN u (fun k hk => (withB_at D.ub k hk).1)
  have h3 := (prod_ok D.ub D.lim u.length (Nat.le_refl _)).2
  omega
/-- the world in which the loop begins: three boxes behind z -/
structure LoopW (p : PV) (z w : World) : Prop where
  sz : w.heap.size = z.heap.size + 3
  a : w.cell? ⟨z.heap.size, 0, none⟩ = some (.slice p.A p.L.length p.ca)
  b : w.cell? ⟨z.heap.size + 1, 0, none⟩ = some (.slice p.B p.b.length p.cb)
  u : w.cell? ⟨z.heap.size + 1 + 1, 0, none⟩ = some (.slice p.U p.u.length p.cu)
  k : Below z.heap.size z w
theorem loopW (p : PV) (z : World) : LoopW p z (((z.alloc (.cells #[.slice p.A p.L.length p.ca] 22)).alloc (.cells #[.slice p.B p.b.length p.cb] 23)).alloc (.cells #[.slice p.U p.u.length p.cu] 23)) := by
  obtain ⟨h1, h2, h3, h4, h5⟩ := three_boxes z (.slice p.A p.L.length p.ca) (.slice p.B p.b.length p.cb) (.slice p.U p.u.length p.cu) 22 23 23 _ rfl
  exact ⟨h4, h1, h2, h3, h5⟩
def cntE (p : PV) : Value := .tuple #[.int .i64 (if chkP p.L p.b p.u = 0 then ((solT p.L p.b p.u).length : Int) else 0), .int .i64 (chkP p.L p.b p.u)]
theorem cnt_bad {p : PV} (h : chkP p.L p.b p.u ≠ 0) : cntE p = .tuple #[.int .i64 0, .int .i64 (chkP p.L p.b p.u)] := by unfold cntE; rw [if_neg h]
theorem cnt_fine {p : PV} (h : chkP p.L p.b p.u = 0) : cntE p = .tuple #[.int .i64 ((solT p.L p.b p.u).length : Int), .int .i64 0] := by unfold cntE; rw [if_pos h, h]
set_option maxHeartbeats 8000000 in
set_option maxRecDepth 100000 in
theorem count_bad (p : PV) (w : World) (hr : PR w p) (hl : lensOk p) (hc : chkP p.L p.b p.u ≠ 0) :
    Calls Try.prog 16 #[.slice p.A p.L.length p.ca, .slice p.B p.b.length p.cb, .slice p.U p.u.length p.cu] w (VPost w.heap.size w (cntE p)) := by
  have CK : Hid (∀ W, Below w.heap.size w W → Calls Try.prog 11 #[.slice p.A p.L.length p.ca, .slice p.B p.b.length p.cb, .slice p.U p.u.length p.cu] W (VPost W.heap.size W (.int .i64 (chkP p.L p.b p.u)))) := fun W hW => pcheck_any _ _ _ _ _ _ _ _ _ W (hr.below hW).rA hl.1 (hr.below hW).rB hl.2.1 (hr.below hW).rU hl.2.2
  rw [cnt_bad hc]
  generalize chkP p.L p.b p.u = E at *
  have hE : (E != 0) = true := by simpa using hc
  clear hr hl
  go_enter Try.func16, Try.ntmps16
  go_wp2_with fail
  refine (CK.out _ (Below.refl _ _)).mono ?_
  rintro e x1 ⟨rfl, K⟩
  go_wp2
  go_ret2
  exact ⟨rfl, K⟩
set_option maxHeartbeats 8000000 in
set_option maxRecDepth 100000 in
theorem count_ok (p : PV) (w : World) (hr : PR w p) (hl : lensOk p) (hc : chkP p.L p.b p.u = 0) :
    Calls Try.prog 16 #[.slice p.A p.L.length p.ca, .slice p.B p.b.length p.cb, .slice p.U p.u.length p.cu] w (VPost w.heap.size w (cntE p)) := by
  have CK : Hid (∀ W, Below w.heap.size w W → Calls Try.prog 11 #[.slice p.A p.L.length p.ca, .slice p.B p.b.length p.cb, .slice p.U p.u.length p.cu] W (VPost W.heap.size W (.int .i64 (chkP p.L p.b p.u)))) := fun W hW => pcheck_any _ _ _ _ _ _ _ _ _ W (hr.below hW).rA hl.1 (hr.below hW).rB hl.2.1 (hr.below hW).rU hl.2.2
  have CE : Hid (∀ W, Calls Try.prog 26 #[.slice p.A p.L.length p.ca, .slice p.B p.b.length p.cb, .slice p.U p.u.length p.cu] W fun e w' => e = .returned (.func (.func 32) #[] #[.pointer (some ⟨W.heap.size + 1 + 1, 0, none⟩), .pointer (some ⟨W.heap.size + 1, 0, none⟩), .pointer (some ⟨W.heap.size, 0, none⟩)]) ∧ w' = ((W.alloc (.cells #[.slice p.A p.L.length p.ca] 22)).alloc (.cells #[.slice p.B p.b.length p.cb] 23)).alloc (.cells #[.slice p.U p.u.length p.cu] 23)) := solutions_any p
  rw [cnt_fine hc]
  rw [hc] at CK
  have D0 := chk0 hc
  have TL := solT_len D0
  clear hc
  refine (callsIn_wide (n := 6)).1 (callsIn_of_wp_marks Try.func16 rfl trivial ?_ rfl)
  simp only [Try.ntmps16, List.size_toArray, List.length_cons, List.length_nil, Nat.reduceAdd, Nat.reduceSub, Array.replicate_succ, Array.replicate_zero, List.push_toArray, List.append_toArray, List.nil_append, List.cons_append]
  refine wpIn_wide.2 ?_
  go_wp2_with fail
  refine (CK.out _ (Below.refl _ _)).mono ?_
  rintro e x1 ⟨rfl, K⟩
  have K := Lib.hid K
  clear CK
  go_wp2_with fail
  refine (CE.out _).mono ?_
  rintro e x3 ⟨rfl, rfl⟩
  go_wp2_with fail
  have LW := loopW p (x1.alloc (.cells #[.int .i64 0] 3))
  have bc : Boxed (((((x1.alloc (.cells #[.int .i64 0] 3)).alloc (.cells #[.slice p.A p.L.length p.ca] 22)).alloc (.cells #[.slice p.B p.b.length p.cb] 23)).alloc (.cells #[.slice p.U p.u.length p.cu] 23))) x1.heap.size 3 (.int .i64 0) := ((((Boxed.new x1 3 (.int .i64 0)).alloc _).alloc _).alloc _)
  obtain ⟨wz, hwz⟩ : ∃ wz, wz = (((x1.alloc (.cells #[.int .i64 0] 3)).alloc (.cells #[.slice p.A p.L.length p.ca] 22)).alloc (.cells #[.slice p.B p.b.length p.cb] 23)).alloc (.cells #[.slice p.U p.u.length p.cu] 23) := ⟨_, rfl⟩
  rw [← hwz] at LW bc
  have kz : Below x1.heap.size x1 wz := ((Below.refl _ _).alloc (Nat.le_refl _) _).trans (LW.k.mono (by simp))
  have sz : wz.heap.size = x1.heap.size + 1 + 3 := by rw [LW.sz, World.size_alloc]
  have la := LW.a
  have lb := LW.b
  have lu := LW.u
  simp only [World.size_alloc] at la lb lu
  rw [← hwz]
  (try simp only [World.size_alloc])
  have kw : Below w.heap.size w wz := K.out.trans (kz.mono K.out.size)
  have s1 := K.out.size
  clear hwz LW K kz CE
  refine (wpIn_wide (n := 6)).1 ?_
  refine rangeFunc_scr (gf := 32) (lb := #[.pointer (some ⟨x1.heap.size + 1 + 1 + 1, 0, none⟩), .pointer (some ⟨x1.heap.size + 1 + 1, 0, none⟩), .pointer (some ⟨x1.heap.size + 1, 0, none⟩)]) rfl (enters_of Try.func32 (by kernel_rfl) rfl)
    (sols_seq (6 - 1) w wz p hr D0 kw (x1.heap.size + 1) (x1.heap.size + 1 + 1) (x1.heap.size + 1 + 1 + 1) la lb lu) (fun k h => by rcases h with h | h | h <;> omega) (fun _ => rfl) (fun hi x A B h k => h.keep k)
    (fun hi pre W => Boxed W x1.heap.size 3 (.int .i64 (pre.length : Int)) ∧ Below w.heap.size w W) (fun _ _ _ => False)
    (fun hi s A B hlo h k => ⟨?_, h.2.trans (k.below h.2.size (fun i hi => .inl (by omega)))⟩) (fun _ _ _ _ h _ => h)
    (fun hi W1 h1 h2 k => ⟨?_, kw.trans (k.mono kw.size)⟩) ?a1 ?assign ?body ?done ?stop
  · exact (k.block _ h.1.lt (.inl (by omega))).trans h.1
  · exact (k.block _ (by omega)).trans bc
  case assign =>
    intro l x W K hK
    gi_wp2
    exact hK
  case body =>
    rintro l hi pre x W h1 h2 h3 ⟨b1, k1⟩ hs
    have hlen := h3.length_le
    rw [List.length_append, List.length_singleton] at hlen
    have hc := b1.cell
    have hf := b1.frozen
    have e1 : wrap64 ((pre.length : Int) + 1) = ((pre ++ [x]).length : Int) := by rw [List.length_append, List.length_singleton]; unfold wrap64; omega
    gi_wp2
    exact ⟨KeepOn.set _ _ _ (by rintro (h | h); rcases h with h | h | h <;> (simp at h <;> omega); simp at h <;> omega), by simpa using b1.set (.int .i64 ((pre ++ [x]).length : Int)), k1.setCell (p := ⟨x1.heap.size, 0, none⟩) (by show w.heap.size ≤ _; omega) _⟩
  case stop =>
    intro D c pre W _ _ h _
    exact h.elim
  case done =>
    rintro D hi W hD h1 h2 ⟨b1, k1⟩ hK
    have hc := b1.cell
    go_wp2
    refine ⟨by simp, .inl ⟨_, _, rfl, run_takeDeferred hK, ?_⟩⟩
    exact ⟨_, results_tmp2 rfl _ _ _, rfl, k1.trans (belowK_b (w := w) (Nat.le_refl _) W D _ _ (by omega) hK rfl rfl)⟩
theorem count_any (p : PV) (w : World) (hr : PR w p) (hl : lensOk p) :
    Calls Try.prog 16 #[.slice p.A p.L.length p.ca, .slice p.B p.b.length p.cb, .slice p.U p.u.length p.cu] w (VPost w.heap.size w (cntE p)) := by
  by_cases hc : chkP p.L p.b p.u = 0
  · exact count_ok p w hr hl hc
  · exact count_bad p w hr hl hc
end Go.Proofs.Ytneediihponfiaa
