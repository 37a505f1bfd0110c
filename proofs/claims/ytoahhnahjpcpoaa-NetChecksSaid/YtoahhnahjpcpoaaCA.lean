/- The reference's incidence matrix; matrices are equal. -/
import Derived.Test.YtoahhnahjpcpoaaOA
import Derived.Maps.AppendAt
namespace Go.Proofs.Ytoahhnahjpcpoaa
open Go.RowKit

theorem oper_append_own_at {P : Program} (w : World) {o : Oper} {a : Act} {K : Act → World → Prop} {Q : Exit → Act → World → Prop} (s x : Operand) (t : TypeId)
    (ho : o.op = .call { callee := .builtin .append, args := #[s, x], argTypes := #[t, t] })
    (base : Nat) (e : TypeId) (i : TypeInfo) (z : Value) (size bytes : Nat) (ht : P.underlying t = some (.slice e)) (hi : P.info? e = some i) (hz : i.zero = some z)
    (hsize : i.size = size) (hby : i.bytes = bytes) (hzs : z.cells.size = size) (hsz : 0 < size)
    (v : Value) (n : Nat) (xs : List Value) (hs : a.eval s = v) (hown : w.ownsRow base e size v n xs)
    (ad : Addr) (m c : Nat) (news : List Value) (hx : a.eval x = .slice (some ad) m c) (hl : news.length = m * size) (hnews : ∀ j u, news[j]? = some u → w.cell? (ad.add j) = some u) (h1 : ∀ u ∈ news, u.oneCell' = true)
    (h63 : n + m ≤ maxLen) (hbytes : (n + m) * bytes ≤ 140737488355328) (hbase : base ≤ w.heap.size)
    (h : ∀ v' w', w'.ownsRow base e size v' (n + m) (xs ++ news) → w.grownBy w' v.ownBlock → K (a.put o.dst v') w') : Oper.wp P o a w K Q := by
  obtain ⟨v', w', hr, h2, h3, _, _⟩ := run_append_own_at (P := P) w base t o.type e i z size bytes ht hi hz hsize hby hzs hsz v n xs hown ad m c news hl hnews h1 h63 hbytes hbase
  unfold Oper.wp execOp
  simp only [ho, resolve, invoke, builtin, Sem.run_bind, Sem.run_pure, Result.andThen_ok, List.map_toArray, List.map_cons, List.map_nil, hs, hx, hr]
  exact h v' w' h2 h3

def RowsOk (w : World) (vs : List Value) (k T : Nat) (M : Nat → Nat → Int) : Prop :=
  vs.length = k ∧ ∀ p, p < k → ∃ b c, vs[p]? = some (.slice (some ⟨b, 0, none⟩) T c) ∧ w.ownsRow 0 2 1 (.slice (some ⟨b, 0, none⟩) T c) T (vI (tab T (M p)))
def MatR (w : World) (A : Option Addr) (P T : Nat) (M : Nat → Nat → Int) : Prop :=
  ∀ p, p < P → ∃ b off R c, A = some ⟨b, off, none⟩ ∧ b < w.heap.size ∧ w.cell? ⟨b, off + p, none⟩ = some (.slice R T c) ∧ ReadsV w R (tab T (M p))
theorem RowsOk.move {w w' : World} {vs : List Value} {k T : Nat} {M : Nat → Nat → Int} (h : RowsOk w vs k T M) (hb : ∀ (b : Nat) (cs : Array Value), w.heap[b]? = some (.cells cs 2 (0, 0)) → w'.heap[b]? = w.heap[b]?) : RowsOk w' vs k T M := by
  refine ⟨h.1, fun p hp => ?_⟩
  obtain ⟨b, c, e, ho⟩ := h.2 p hp
  refine ⟨b, c, e, ho.1, ?_⟩
  rcases ho.2 with ⟨e1, h0⟩ | ⟨g, cap, cur, e1, h1, h2, h3⟩
  · cases e1
  · exact Or.inr ⟨g, cap, cur, e1, h1, by rw [hb g cur h2]; exact h2, h3⟩
theorem RowsOk.below {w w' : World} {vs : List Value} {k T : Nat} {M : Nat → Nat → Int} {B : Nat} (h : RowsOk w vs k T M) (hb : Below B w w') (hB : w.heap.size ≤ B) : RowsOk w' vs k T M :=
  h.move fun b cs hc => hb.block b (Nat.lt_of_lt_of_le (by obtain ⟨h, _⟩ := Array.getElem?_eq_some_iff.1 hc; exact h) hB)
theorem RowsOk.grown {w w' : World} {vs xs : List Value} {v : Value} {k T n base : Nat} {M : Nat → Nat → Int} (h : RowsOk w vs k T M) (ho : w.ownsRow base 48 1 v n xs) (hg : w.grownBy w' v.ownBlock) : RowsOk w' vs k T M :=
  h.move fun b cs hc => hg.block b (by obtain ⟨h, _⟩ := Array.getElem?_eq_some_iff.1 hc; exact h) (fun e => by
    rcases ho.2 with ⟨e1, _⟩ | ⟨g, cap, cur, e1, _, h2, _⟩
    · rw [e1] at e; cases e
    · rw [e1] at e
      have e : b = g := by simpa [Value.ownBlock] using e
      subst e
      rw [h2] at hc
      simp at hc)
theorem RowsOk.snoc {w : World} {vs : List Value} {k T b c : Nat} {M : Nat → Nat → Int} (h : RowsOk w vs k T M) (ho : w.ownsRow 0 2 1 (.slice (some ⟨b, 0, none⟩) T c) T (vI (tab T (M k)))) : RowsOk w (vs ++ [.slice (some ⟨b, 0, none⟩) T c]) (k + 1) T M := by
  refine ⟨by simp [h.1], fun p hp => ?_⟩
  by_cases e : p = k
  · subst e
    exact ⟨b, c, by rw [List.getElem?_append_right (by rw [h.1]; exact Nat.le_refl _), h.1]; simp, ho⟩
  · obtain ⟨b2, c2, e2, h2⟩ := h.2 p (by omega)
    exact ⟨b2, c2, by rw [List.getElem?_append_left (by rw [h.1]; omega)]; exact e2, h2⟩
theorem RowsOk.mat {w : World} {vs : List Value} {v : Value} {P T base : Nat} {M : Nat → Nat → Int} (h : RowsOk w vs P T M) (hP : 0 < P) (ho : w.ownsRow base 48 1 v P vs) : ∃ A c, v = .slice A P c ∧ MatR w A P T M := by
  rcases ho.2 with ⟨_, h0⟩ | ⟨g, cap, cur, rfl, hb, hh, h3⟩
  · omega
  · refine ⟨_, _, rfl, fun p hp => ?_⟩
    obtain ⟨b, c, e, hr⟩ := h.2 p hp
    have hc : w.cell? ⟨g, p, none⟩ = some (.slice (some ⟨b, 0, none⟩) T c) := by rw [World.ownsRow.cellAt ho p (by omega)]; exact e
    obtain ⟨A, c2, e2, h2⟩ := ReadsV.own hr
    have e3 : some (⟨b, 0, none⟩ : Addr) = A := by injection e2
    refine ⟨g, 0, _, c, rfl, World.block_lt_of_cell? w ⟨g, p, none⟩ hc, by rw [Nat.zero_add]; exact hc, ?_⟩
    rw [e3]; exact h2
theorem MatIs.mat {w : World} {R P T : Nat} {M : Nat → Nat → Int} (h : MatIs w R P T M) : MatR w (some ⟨R, 0, none⟩) P T M := fun p hp => by
  refine ⟨R, 0, _, T, rfl, h.1.lt, by rw [Nat.zero_add]; exact h.1.cell hp, fun j hj => ?_⟩
  rw [tab_len] at hj
  refine ⟨R + 1 + p, 0, rfl, (h.2 p hp).lt, ?_⟩
  rw [Nat.zero_add, (h.2 p hp).cell hj, tab_at _ _ _ hj]
theorem MatR.below {w w' : World} {A : Option Addr} {P T B : Nat} {M : Nat → Nat → Int} (h : MatR w A P T M) (hb : Below B w w') (hB : w.heap.size ≤ B) : MatR w' A P T M := fun p hp => by
  obtain ⟨b, off, R, c, e, h1, h2, h3⟩ := h p hp
  exact ⟨b, off, R, c, e, Nat.lt_of_lt_of_le h1 hb.size, (hb.cell (by exact Nat.lt_of_lt_of_le h1 hB)).trans h2, h3.below hb hB⟩
def RIncPost (g : Nat) (w : World) (n : NetV) (e : Ending) (w' : World) : Prop := Below g w w' ∧
  ((okN n = true ∧ 0 < n.ts.length) → ∃ A c, e = .returned (.slice A n.ps.length c) ∧ MatR w' A n.ps.length n.ts.length (incD n.ts)) ∧
  (¬ (okN n = true ∧ 0 < n.ts.length) → e = .returned (.slice none 0 0))
theorem one_cellS (x : Value) (A : Option Addr) (n c : Nat) (h : x = .slice A n c) : ∀ u ∈ [x], u.oneCell' = true := by subst h; simp [Value.oneCell']
theorem own_zero {w : World} {base : Nat} {e : TypeId} {size : Nat} {v : Value} {n : Nat} {xs : List Value} (h : w.ownsRow base e size v n xs) : w.ownsRow 0 e size v n xs := by
  refine ⟨h.1, ?_⟩
  rcases h.2 with h0 | ⟨g, cap, cur, e1, h1, h2⟩
  · exact Or.inl h0
  · exact Or.inr ⟨g, cap, cur, e1, Nat.zero_le _, h2⟩
theorem own_some {w : World} {base : Nat} {e : TypeId} {size : Nat} {v : Value} {n : Nat} {xs : List Value} (h : w.ownsRow base e size v n xs) (hn : 0 < n) : ∃ b c, v = .slice (some ⟨b, 0, none⟩) n c := by
  rcases h.2 with ⟨_, h0⟩ | ⟨g, cap, cur, e1, _⟩
  · omega
  · exact ⟨g, cap, e1⟩

set_option maxHeartbeats 1000000 in
theorem longs_any (A B : Option Addr) (a : List Int) (ca cb : Nat) (w : World) (ra : ReadsV w A a) (rb : ReadsV w B a) (hl : a.length ≤ 1000) :
    Calls Try.prog 52 #[.slice A a.length ca, .slice B a.length cb] w (VPost w.heap.size w (.bool true)) := by
  have RA := Lib.hid ra
  have RB := Lib.hid rb
  clear ra rb
  generalize hg : w.heap.size = g at *
  have HG := Lib.hid hg
  clear hg
  generalize hn : a.length = n at *
  have HN := Lib.hid hn
  clear hn
  have hne : ((n : Int) != (n : Int)) = false := by simp
  go_enter Try.func52, Try.ntmps52
  go_wp2_with fail
  go_loopw [5] (fun q wr => ∃ k : Nat, k ≤ n ∧ q = .int .i64 k ∧ Hid (Below g w wr)) (fun q _ => n - (intOf q).toNat)
  case atStart => exact ⟨0, by omega, rfl, Below.refl _ _⟩
  case round =>
    obtain ⟨k, hk, rfl, B1⟩ := hrel
    by_cases hlt : k < n
    · obtain ⟨ba, oa, e1, hx⟩ := at_of_reads (RA.out.below B1.out (by rw [HG.out]; exact Nat.le_refl _)) k (by rw [HN.out]; exact hlt)
      subst e1
      obtain ⟨bb, ob, e2, hy⟩ := at_of_reads (RB.out.below B1.out (by rw [HG.out]; exact Nat.le_refl _)) k (by rw [HN.out]; exact hlt)
      subst e2
      generalize at0 a k = x at *
      go_wp2_with fail
      go_quiet (fail)
      go_wp2
      go_roundw
      case rel => exact ⟨k + 1, by omega, by go_num, below_drewN B1.out _⟩
      case measure => simp [intOf]; omega
    · go_wp2
      go_ret
      exact ⟨rfl, B1.out⟩

set_option maxHeartbeats 2000000 in
theorem matrices_any (A B : Option Addr) (P T ca cb : Nat) (M : Nat → Nat → Int) (w : World) (ra : MatR w A P T M) (rb : MatR w B P T M) (hP : P ≤ 1000) (hT : T ≤ 1000) :
    Calls Try.prog 15 #[.slice A P ca, .slice B P cb] w (VPost w.heap.size w (.bool true)) := by
  have RA := Lib.hid ra
  have RB := Lib.hid rb
  clear ra rb
  generalize hg : w.heap.size = g at *
  have HG := Lib.hid hg
  clear hg
  have hne : ((P : Int) != (P : Int)) = false := by simp
  go_enter Try.func15, Try.ntmps15
  go_wp2_with fail
  go_loopw [5] (fun q wr => ∃ k : Nat, k ≤ P ∧ q = .int .i64 k ∧ Hid (Below g w wr)) (fun q _ => P - (intOf q).toNat)
  case atStart => exact ⟨0, by omega, rfl, Below.refl _ _⟩
  case round =>
    obtain ⟨k, hk, rfl, B1⟩ := hrel
    by_cases hlt : k < P
    · obtain ⟨ba, oa, RA2, c1, rfl, _, hx, rx⟩ := (RA.out.below B1.out (by rw [HG.out]; exact Nat.le_refl _)) k hlt
      obtain ⟨bb, ob, RB2, c2, rfl, _, hy, ry⟩ := (RB.out.below B1.out (by rw [HG.out]; exact Nat.le_refl _)) k hlt
      have CL := fun W (hW : Below wr.heap.size wr W) => longs_any RA2 RB2 (tab T (M k)) c1 c2 W (rx.below hW (Nat.le_refl _)) (ry.below hW (Nat.le_refl _)) (by rw [tab_len]; exact hT)
      rw [tab_len] at CL
      replace CL := Lib.hid CL
      clear rx ry
      go_wp2_with fail
      refine wp_region_held_drew (S := fun w' => w'.cell? ⟨ba, oa + k, none⟩ = some (.slice RA2 T c1) ∧ w'.cell? ⟨bb, ob + k, none⟩ = some (.slice RB2 T c2) ∧ Hid (Below g w w')) (by kernel_rfl) ?_ (fun hHeld => ?_)
      · exact ⟨hx, hy, B1.out.drew⟩
      refine wpAnyH_take (oi := ⟨_, _, _, _, _, _⟩) (i := 0) (v := ?_) rfl (by kernel_rfl) (by kernel_rfl) (by kernel_rfl) (fun _ _ _ h => h) (Or.inl ⟨by rfl, ?ya0⟩) (by assumption) ?ra0
      case ya0 => (intro w hSw; (try dsimp only at hSw); go_simp; (try with_reducible rfl))
      try simp only [Act.put, List.setIfInBounds_toArray, List.set_cons_zero, List.set_cons_succ]
      refine wpAnyH_take (oi := ⟨_, _, _, _, _, _⟩) (i := 1) (v := ?_) rfl (by kernel_rfl) (by kernel_rfl) (by kernel_rfl) (fun _ _ _ h => h) (Or.inl ⟨by rfl, ?ya1⟩) (by assumption) ?ra1
      case ya1 => (intro w hSw; (try dsimp only at hSw); go_simp; (try with_reducible rfl))
      try simp only [Act.put, List.setIfInBounds_toArray, List.set_cons_zero, List.set_cons_succ]
      refine wpAnyH_take (oi := ⟨_, _, _, _, _, _⟩) (i := 2) (v := ?_) rfl (by kernel_rfl) (by kernel_rfl) (by kernel_rfl) (fun _ _ _ h => h) (Or.inl ⟨by rfl, ?ya2⟩) (by assumption) ?ra2
      case ya2 => (intro w hSw; (try dsimp only at hSw); go_simp; (try with_reducible rfl))
      try simp only [Act.put, List.setIfInBounds_toArray, List.set_cons_zero, List.set_cons_succ]
      refine wpAnyH_take (oi := ⟨_, _, _, _, _, _⟩) (i := 3) (v := ?_) rfl (by kernel_rfl) (by kernel_rfl) (by kernel_rfl) (fun _ _ _ h => h) (Or.inl ⟨by rfl, ?ya3⟩) (by assumption) ?ra3
      case ya3 => (intro w hSw; (try dsimp only at hSw); go_simp; (try with_reducible rfl))
      try simp only [Act.put, List.setIfInBounds_toArray, List.set_cons_zero, List.set_cons_succ]
      refine wpAnyH_take (oi := ⟨_, _, _, _, _, _⟩) (i := 4) (v := ?_) rfl (by kernel_rfl) (by kernel_rfl) (by kernel_rfl) (fun _ _ _ h => h) (Or.inl ⟨by rfl, ?ya4⟩) (by assumption) ?ra4
      case ya4 => (intro w hSw; (try dsimp only at hSw); go_simp; (try with_reducible rfl))
      try simp only [Act.put, List.setIfInBounds_toArray, List.set_cons_zero, List.set_cons_succ]
      refine wpAnyH_take (oi := ⟨_, _, _, _, _, _⟩) (i := 5) (v := ?_) rfl (by kernel_rfl) (by kernel_rfl) (by kernel_rfl) (fun _ _ _ h => h) (Or.inl ⟨by rfl, ?ya5⟩) (by assumption) ?ra5
      case ya5 => (intro w hSw; (try dsimp only at hSw); go_simp; (try with_reducible rfl))
      try simp only [Act.put, List.setIfInBounds_toArray, List.set_cons_zero, List.set_cons_succ]
      refine wpAnyH_take (oi := ⟨_, _, _, _, _, _⟩) (i := 6) (v := ?_) rfl (by kernel_rfl) (by kernel_rfl) (by kernel_rfl) (fun _ _ _ h => h) (Or.inl ⟨by rfl, ?ya6⟩) (by assumption) ?ra6
      case ya6 => (intro w hSw; (try dsimp only at hSw); go_simp; (try with_reducible rfl))
      try simp only [Act.put, List.setIfInBounds_toArray, List.set_cons_zero, List.set_cons_succ]
      refine wpAnyH_take (oi := ⟨_, _, _, _, _, _⟩) (i := 7) (v := ?_) rfl (by kernel_rfl) (by kernel_rfl) (by kernel_rfl) (fun _ _ _ h => h) (Or.inl ⟨by rfl, ?ya7⟩) (by assumption) ?ra7
      case ya7 => (intro w hSw; (try dsimp only at hSw); go_simp; (try with_reducible rfl))
      try simp only [Act.put, List.setIfInBounds_toArray, List.set_cons_zero, List.set_cons_succ]
      refine wpAnyH_ready (rs := [8]) (by kernel_rfl) (by simp) ?_
      refine AllReadyH.cons (o := ⟨_, _, _, _, _, _⟩) rfl (fun K hK => ?_) AllReadyH.nil
      go_simp
      go_at_call 52; refine (CL.out _ (Below.refl _ _).drew).mono ?_; rintro e w2 ⟨rfl, L2⟩; (try go_wp2_with fail)
      refine hK.out _ _ ?_ (fun hHeld2 => ?_)
      · obtain ⟨h1, h2, h3⟩ := hHeld; exact ⟨keepc h1 L2, keepc h2 L2, h3.out.trans (L2.mono (by rw [← HG.out]; exact h3.out.size))⟩
      clear hK K hHeld
      have hHeld := hHeld2
      clear hHeld2
      try simp only [Act.put, List.setIfInBounds_toArray, List.set_cons_zero, List.set_cons_succ]
      refine wpAnyH_take (oi := ⟨_, _, _, _, _, _⟩) (i := 9) (v := ?_) rfl (by kernel_rfl) (by kernel_rfl) (by kernel_rfl) (fun _ _ _ h => h) (Or.inl ⟨by rfl, ?ya9⟩) (by assumption) ?ra9
      case ya9 => (intro w hSw; (try dsimp only at hSw); go_simp; (try with_reducible rfl))
      try simp only [Act.put, List.setIfInBounds_toArray, List.set_cons_zero, List.set_cons_succ]
      refine wpAnyH_done (by kernel_rfl) ?_ _
      have Bn := Lib.hid hHeld.2.2.out
      clear hHeld L2 hx hy
      go_wp2
      go_roundw
      case rel => exact ⟨k + 1, by omega, by go_num, Bn⟩
      case measure => simp [intOf]; omega
    · go_wp2
      go_ret
      exact ⟨rfl, B1.out⟩
end Go.Proofs.Ytoahhnahjpcpoaa
