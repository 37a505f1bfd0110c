/- Bounded natural solutions: the law that relates All, Solve and Count. -/
import Derived.Test.YtneediihponfiaaNG
namespace Go.Proofs.Ytneediihponfiaa
open Go.RowKit

theorem lex_diff : ∀ {x y : List Int}, x.length = y.length → LexLt x y → ∃ d, d < x.length ∧ (∀ j, j < d → at0 y j = at0 x j) ∧ at0 x d < at0 y d
  | [], _, _, h => h.elim
  | _ :: _, [], h, _ => by simp at h
  | a :: x, b :: y, hl, h => by
    rcases h with h | ⟨rfl, h⟩
    · exact ⟨0, by simp, fun j hj => absurd hj (by omega), h⟩
    · obtain ⟨d, h1, h2, h3⟩ := lex_diff (by simpa using hl) h
      refine ⟨d + 1, by simpa using h1, fun j hj => ?_, h3⟩
      cases j with
      | zero => rfl
      | succ j => exact h2 j (by omega)
theorem chk_of_fine {L : List Row} {b u : List Int} (D : Fine L b u) : chkP L b u = 0 := by
  unfold chkP
  rw [if_neg (by have := D.u1; have := D.u64; have := D.bl; have := D.L64; omega)]
  rw [if_neg (by rw [r1_no D.len]; simp), if_neg (by rw [D.bb, D.ub]; simp)]
  rw [if_neg (by rw [anyB_no (fun k hk => by unfold badR2; rw [D.row k hk]; rfl)]; simp), if_neg (by rw [anyB_no D.lim]; simp)]
def noneP (p : PV) : PV := ⟨none, [], 0, none, [], 0, p.U, p.u, p.cu⟩
theorem none_fine {p : PV} (D : Fine p.L p.b p.u) : Fine (noneP p).L (noneP p).b (noneP p).u :=
  ⟨D.u1, D.u64, rfl, Nat.zero_le _, fun i hi => absurd hi (by simp [noneP]), fun i hi => absurd hi (by simp [noneP]), by rfl, D.ub, D.lim⟩
theorem none_all (p : PV) : (solT (noneP p).L (noneP p).b (noneP p).u).length = prodN p.u := by
  unfold solT
  rw [List.filter_eq_self.2 (fun x _ => by rfl)]
  exact vecs_len _
theorem none_pr {w : World} {p : PV} (h : PR w p) : PR w (noneP p) := ⟨ReadsL.nil _ _, ReadsV.nil _ _, h.rU⟩
/-- what is known of the rows of the answer -/
structure RowF (p : PV) (x : List Int) : Prop where
  len : x.length = p.u.length
  bnd : ∀ k, k < p.u.length → 0 ≤ at0 x k ∧ at0 x k ≤ at0 p.u k
  is : isB p.L p.b x = true
theorem row_f {p : PV} {x : List Int} (h : x ∈ solT p.L p.b p.u) : RowF p x := by
  obtain ⟨h1, h2⟩ := List.mem_filter.1 h
  obtain ⟨h3, h4⟩ := (mem_vecs _ _).1 h1
  refine ⟨h3, fun k hk => ?_, h2⟩
  have := h4 k (by omega) hk
  unfold at0
  rw [List.getElem?_eq_getElem (by omega), List.getElem?_eq_getElem hk]
  exact this
theorem sol_asc (p : PV) : (solT p.L p.b p.u).Pairwise LexLt := (vecs_asc _).filter _
theorem rows_f {p : PV} {L : List Row} {n : Nat} (h : rowsL L = (solT p.L p.b p.u).take n) {j : Nat} (hj : j < L.length) : RowF p (rA L j).zs := by
  have e := rA_get hj
  simp only [h] at e
  rw [← e]
  exact row_f (List.mem_of_mem_take (List.getElem_mem _))
theorem rows_d {p : PV} {L : List Row} {n : Nat} (h : rowsL L = (solT p.L p.b p.u).take n) {j : Nat} (hj : j + 1 < L.length) : ∃ d, d < p.u.length ∧ (∀ i, i < d → at0 (rA L (j + 1)).zs i = at0 (rA L j).zs i) ∧ at0 (rA L j).zs d < at0 (rA L (j + 1)).zs d := by
  have f1 := rows_f h (j := j) (by omega)
  have f2 := rows_f h hj
  have hp : ((solT p.L p.b p.u).take n).Pairwise LexLt := (sol_asc p).sublist (List.take_sublist _ _)
  have e1 := rA_get (L := L) (j := j) (by omega)
  have e2 := rA_get hj
  simp only [h] at e1 e2
  have hlen : L.length = ((solT p.L p.b p.u).take n).length := by rw [← h, rowsL_len]
  have hlt := List.pairwise_iff_getElem.1 hp j (j + 1) (by omega) (by omega) (by omega)
  rw [e1, e2] at hlt
  obtain ⟨d, h1, h2, h3⟩ := lex_diff (by rw [f1.len, f2.len]) hlt
  exact ⟨d, by rw [← f1.len]; exact h1, h2, h3⟩
def lsB (i d k : Nat) : Bool := decide (i = 0) || decide (d < k)
theorem ls_mono {i d k : Nat} (h : lsB i d k = true) : lsB i d (k + 1) = true := by
  unfold lsB at *
  simp at *
  omega
theorem ls_end {i d k : Nat} (h : d < k) : lsB i d k = true := by
  unfold lsB
  simp
  omega
theorem ls_start (i d : Nat) : lsB i d 0 = ((i : Int) == 0) := by
  unfold lsB
  by_cases h : i = 0
  · subst h; rfl
  · have : ((i : Int) == 0) = false := by simp; omega
    rw [this]
    simp [h]
theorem ls_no {i d k : Nat} (h : lsB i d k = false) : i ≠ 0 ∧ k ≤ d := by
  unfold lsB at h
  simp at h
  exact ⟨h.1, h.2⟩
theorem ls_next {j d k : Nat} (h : k ≤ d) : lsB (j + 1) d (k + 1) = decide (k = d) := by
  unfold lsB
  by_cases e : k = d
  · subst e; simp
  · rw [decide_eq_false e, decide_eq_false (by omega), decide_eq_false (by omega)]
    rfl
set_option maxHeartbeats 8000000 in
set_option maxRecDepth 100000 in
theorem agrees_no (p : PV) (hno : fewB p = false ∨ chkP p.L p.b p.u ≠ 0) (w : World) (hr : PW w p) :
    Calls Try.prog 7 #[.agg #[.slice p.A p.L.length p.ca, .slice p.B p.b.length p.cb, .slice p.U p.u.length p.cu]] w fun e w' => e = .returned (.bool true) ∧ Below w.heap.size w w' := by
  have CF : Hid (∀ W, Below w.heap.size w W → Calls Try.prog 9 #[.agg #[.slice p.A p.L.length p.ca, .slice p.B p.b.length p.cb, .slice p.U p.u.length p.cu]] W (VPost W.heap.size W (.bool (fewB p)))) := fun W hW => few_any p W (hr.below hW)
  have CX : Hid (∀ W, Calls Try.prog 10 #[] W (VPost W.heap.size W (.bool true))) := alive_any
  have B0 : Hid (Below w.heap.size w (w.alloc (.cells #[.slice p.A p.L.length p.ca, .slice p.B p.b.length p.cb, .slice p.U p.u.length p.cu] 25))) := (Below.refl _ _).alloc (Nat.le_refl _) _
  have q0 : (w.alloc (.cells #[.slice p.A p.L.length p.ca, .slice p.B p.b.length p.cb, .slice p.U p.u.length p.cu] 25)).cell? ⟨w.heap.size, 0, none⟩ = some (.slice p.A p.L.length p.ca) := by simp
  have q1 : (w.alloc (.cells #[.slice p.A p.L.length p.ca, .slice p.B p.b.length p.cb, .slice p.U p.u.length p.cu] 25)).cell? ⟨w.heap.size, 1, none⟩ = some (.slice p.B p.b.length p.cb) := by simp
  have q2 : (w.alloc (.cells #[.slice p.A p.L.length p.ca, .slice p.B p.b.length p.cb, .slice p.U p.u.length p.cu] 25)).cell? ⟨w.heap.size, 2, none⟩ = some (.slice p.U p.u.length p.cu) := by simp
  cases hf : fewB p
  · rw [hf] at CF
    clear hr hf
    go_enter Try.func7, Try.ntmps7
    go_wp2_with fail
    refine (CF.out _ B0.out).mono ?_
    rintro e x1 ⟨rfl, K⟩
    have q0 := keepc q0 K
    have q1 := keepc q1 K
    have q2 := keepc q2 K
    have Dx1 := Lib.hid (B0.out.trans (K.mono B0.out.size))
    clear K
    go_wp2_with fail
    refine (CX.out _).mono ?_
    rintro e x2 ⟨rfl, K⟩
    have q0 := keepc q0 K
    have q1 := keepc q1 K
    have q2 := keepc q2 K
    have Dx2 := Lib.hid (Dx1.out.trans (K.mono Dx1.out.size))
    clear K
    go_wp2
    go_ret
    exact ⟨rfl, Dx2.out⟩
  · rw [hf] at CF
    have fp := few_parts hf
    have hs : PR w p := hr.small fp.1
    have hl : lensOk p := ⟨by have := fp.2.1; omega, by have := fp.2.2.1; omega, by have := fp.2.2.2.1; omega⟩
    have hc := hno.resolve_left (by simp [hf])
    have CK : Hid (∀ W, Below w.heap.size w W → Calls Try.prog 12 #[.slice p.A p.L.length p.ca, .slice p.B p.b.length p.cb, .slice p.U p.u.length p.cu] W (fun e w' => e = .returned (.int .i64 (chkP p.L p.b p.u)) ∧ W = w')) := fun W hW => rcheck_any _ _ _ _ _ _ _ _ _ W (hs.below hW).rA hl.1 (hs.below hW).rB hl.2.1 (hs.below hW).rU hl.2.2
    have z1 : (chkP p.L p.b p.u != 0) = true := by simpa using hc
    clear hr hf fp hs hl hc hno
    generalize chkP p.L p.b p.u = E at *
    go_enter Try.func7, Try.ntmps7
    go_wp2_with fail
    refine (CF.out _ B0.out).mono ?_
    rintro e x1 ⟨rfl, K⟩
    have q0 := keepc q0 K
    have q1 := keepc q1 K
    have q2 := keepc q2 K
    have Dx1 := Lib.hid (B0.out.trans (K.mono B0.out.size))
    clear K
    go_wp2_with fail
    refine (CK.out _ Dx1.out).mono ?_
    rintro e x2 ⟨rfl, rfl⟩
    go_wp2_with fail
    refine (CX.out _).mono ?_
    rintro e x3 ⟨rfl, K⟩
    have q0 := keepc q0 K
    have q1 := keepc q1 K
    have q2 := keepc q2 K
    have Dx3 := Lib.hid (Dx1.out.trans (K.mono Dx1.out.size))
    clear K
    go_wp2
    go_ret
    exact ⟨rfl, Dx3.out⟩
end Go.Proofs.Ytneediihponfiaa
