/- Bounded natural solutions: a row that is repeated or doubled, a greater bound: mathematics and memory. -/
import Derived.Test.YtneediihponfiaaNH
namespace Go.Proofs.Ytneediihponfiaa
open Go.RowKit

theorem allB_succ (n : Nat) (p : Nat → Bool) : allB (n + 1) p = (allB n p && p n) := by
  unfold allB
  rw [List.range_succ, List.all_append]
  simp
theorem allB_same {n : Nat} {p q : Nat → Bool} (h : ∀ i, i < n → p i = q i) : allB n p = allB n q := by
  cases hq : allB n q
  · cases hp : allB n p
    · rfl
    · rw [← hq]; symm; exact allB_yes fun i hi => by rw [← h i hi]; exact allB_iff.1 hp i hi
  · exact allB_yes fun i hi => by rw [h i hi]; exact allB_iff.1 hq i hi
theorem rA_left {L : List Row} (r : Row) {i : Nat} (h : i < L.length) : rA (L ++ [r]) i = rA L i := by
  unfold rA
  rw [List.getElem?_append_left h]
theorem rA_last (L : List Row) (r : Row) : rA (L ++ [r]) L.length = r := by
  unfold rA
  simp
theorem at0_left {b : List Int} (c : Int) {i : Nat} (h : i < b.length) : at0 (b ++ [c]) i = at0 b i := by
  unfold at0
  rw [List.getElem?_append_left h]
theorem at0_last (b : List Int) (c : Int) : at0 (b ++ [c]) b.length = c := by
  unfold at0
  simp
theorem dot_tab (f : Int) (r x : List Int) (n : Nat) : ∀ k, k ≤ n → dotTo (tab n fun j => f * at0 r j) x k = f * dotTo r x k
  | 0, _ => by simp [dotTo]
  | k + 1, h => by
    simp only [dotTo]
    rw [dot_tab f r x n k (by omega), tab_at _ _ _ (by omega), Int.mul_add, Int.mul_assoc]
theorem isB_again {L : List Row} {b x : List Int} {f : Int} {n : Nat} (hf : f ≠ 0) (hb : L.length = b.length) (h0 : 0 < L.length) (hx : x.length = n) (A : Option Addr) (c : Nat) :
    isB (L ++ [⟨A, tab n fun j => f * at0 (rA L 0).zs j, c⟩]) (b ++ [f * at0 b 0]) x = isB L b x := by
  unfold isB
  rw [List.length_append, List.length_singleton, allB_succ]
  rw [allB_same (q := fun i => decide (dotTo (rA L i).zs x x.length = at0 b i)) (fun i hi => by rw [rA_left _ hi, at0_left _ (by omega)])]
  cases hq : allB L.length (fun i => decide (dotTo (rA L i).zs x x.length = at0 b i))
  · rfl
  · have h := of_decide_eq_true (allB_iff.1 hq 0 h0)
    rw [rA_last, hb, at0_last, Bool.true_and]
    refine decide_eq_true ?_
    show dotTo (tab n _) x x.length = _
    rw [dot_tab f _ _ _ _ (by omega), h]
theorem solT_again {L : List Row} {b u : List Int} {f : Int} (hf : f ≠ 0) (hb : L.length = b.length) (h0 : 0 < L.length) (A : Option Addr) (c : Nat) :
    solT (L ++ [⟨A, tab u.length fun j => f * at0 (rA L 0).zs j, c⟩]) (b ++ [f * at0 b 0]) u = solT L b u := by
  unfold solT
  refine List.filter_congr fun x hx => ?_
  exact isB_again hf hb h0 ((mem_vecs _ _).1 hx).1 A c
theorem solT_more {L : List Row} {b u : List Int} (h0 : 0 < u.length) (hu : 0 ≤ at0 u 0) : (solT L b u).length ≤ (solT L b (u.set 0 (at0 u 0 + 1))).length := by
  cases u with
  | nil => simp at h0
  | cons a us =>
    show ((vecs (a :: us)).filter _).length ≤ ((vecs ((a + 1) :: us)).filter _).length
    rw [← List.countP_eq_length_filter, ← List.countP_eq_length_filter]
    exact count_more us hu _
/-- small enough to be doubled -/
def SmallJ (p : PV) (j : Nat) : Prop := (-5000 ≤ at0 (rA p.L 0).zs j ∧ at0 (rA p.L 0).zs j ≤ 5000) ∧ -5000 ≤ at0 p.b 0 ∧ at0 p.b 0 ≤ 5000
def FacOk (p : PV) (f : Int) (k : Nat) : Prop := f = 1 ∨ (f = 2 ∧ ∀ j, j < k → SmallJ p j)
structure Shi (p : PV) : Prop where
  fine : Fine p.L p.b p.u
  l0 : 0 < p.L.length
  l60 : p.L.length ≤ 60
theorem fac_row {p : PV} (S : Shi p) {f : Int} (h : FacOk p f p.u.length) {j : Nat} (hj : j < p.u.length) : -10000 ≤ f * at0 (rA p.L 0).zs j ∧ f * at0 (rA p.L 0).zs j ≤ 10000 := by
  have h0 := withB_at (S.fine.row 0 S.l0) j (by rw [S.fine.len 0 S.l0]; exact hj)
  rcases h with rfl | ⟨rfl, h⟩
  · omega
  · have := (h j hj).1
    omega
theorem fac_b {p : PV} (S : Shi p) {f : Int} (h : FacOk p f p.u.length) : -10000 ≤ f * at0 p.b 0 ∧ f * at0 p.b 0 ≤ 10000 := by
  have h0 := withB_at S.fine.bb 0 (by rw [← S.fine.bl]; exact S.l0)
  rcases h with rfl | ⟨rfl, h⟩
  · omega
  · have := (h 0 S.fine.u1).2
    omega
theorem fac_ne {p : PV} {f : Int} {k : Nat} (h : FacOk p f k) : f ≠ 0 := by
  rcases h with rfl | ⟨rfl, _⟩ <;> decide
def newRow (p : PV) (f : Int) : List Int := tab p.u.length fun j => f * at0 (rA p.L 0).zs j
theorem fine_again {p : PV} (S : Shi p) {f : Int} (h : FacOk p f p.u.length) (A : Option Addr) (c : Nat) : Fine (p.L ++ [⟨A, newRow p f, c⟩]) (p.b ++ [f * at0 p.b 0]) p.u := by
  have D := S.fine
  have hl : (p.L ++ [(⟨A, newRow p f, c⟩ : Row)]).length = p.L.length + 1 := by simp
  refine ⟨D.u1, D.u64, by rw [hl, List.length_append, List.length_singleton, D.bl], by have := S.l60; omega, fun i hi => ?_, fun i hi => ?_, ?_, D.ub, D.lim⟩
  · by_cases h2 : i < p.L.length
    · rw [rA_left _ h2]; exact D.len i h2
    · obtain rfl : i = p.L.length := by omega
      rw [rA_last]; exact tab_len _ _
  · by_cases h2 : i < p.L.length
    · rw [rA_left _ h2]; exact D.row i h2
    · obtain rfl : i = p.L.length := by omega
      rw [rA_last]
      refine withB_of fun k hk => ?_
      have hk : k < p.u.length := by rw [← tab_len p.u.length (fun j => f * at0 (rA p.L 0).zs j)]; exact hk
      show -10000 ≤ at0 (newRow p f) k ∧ at0 (newRow p f) k ≤ 10000
      unfold newRow
      rw [tab_at _ _ _ hk]
      exact fac_row S h hk
  · refine withB_of fun k hk => ?_
    rw [List.length_append, List.length_singleton] at hk
    by_cases h2 : k < p.b.length
    · rw [at0_left _ h2]; exact withB_at D.bb k h2
    · obtain rfl : k = p.b.length := by omega
      rw [at0_last]; exact fac_b S h
theorem blk_ne {W : World} {b c : Nat} {t t' : TypeId} {cs cs' : Array Value} {fz fz' : Nat × Nat} (h : W.heap[b]? = some (.cells cs t fz)) (h' : W.heap[c]? = some (.cells cs' t' fz')) (ht : t ≠ t') : b ≠ c := by
  intro e
  subst e
  rw [h] at h'
  injection h' with h'
  injection h' with _ h'
  exact ht h'
theorem own_typed {W : World} {base n : Nat} {e : TypeId} {v : Value} {xs : List Value} (h : W.ownsRow base e 1 v n xs) {b : Nat} (hb : v.ownBlock = some b) : base ≤ b ∧ ∃ cur, W.heap[b]? = some (.cells cur e (0, 0)) := by
  rcases h.2 with ⟨h0, _⟩ | ⟨g, cap, cur, h1, h2, h3, _⟩
  · rw [h0] at hb; cases hb
  · rw [h1] at hb
    have : g = b := by simpa [Value.ownBlock] using hb
    subst this
    exact ⟨h2, cur, h3⟩
theorem own_other {W W' : World} {base base' : Nat} {e e' : TypeId} {v v' : Value} {n n' : Nat} {xs xs' : List Value} (h : W.ownsRow base e 1 v n xs) (h' : W.ownsRow base' e' 1 v' n' xs') (hne : e ≠ e') (hg : W.grownBy W' v.ownBlock) : W'.ownsRow base' e' 1 v' n' xs' := by
  refine h'.kept hg ?_
  cases hv : v'.ownBlock with
  | none => exact .inl rfl
  | some b =>
    refine .inr fun e1 => ?_
    obtain ⟨_, c1, h1⟩ := own_typed h' hv
    obtain ⟨_, c2, h2⟩ := own_typed h e1.symm
    exact blk_ne h2 h1 hne rfl
theorem own_grow {w W W' : World} {base g : Nat} {e : TypeId} {v : Value} {n : Nat} {xs : List Value} (h : W.ownsRow base e 1 v n xs) (hb : g ≤ base) (hw : Below g w W) (hs : g ≤ W.heap.size) (hg : W.grownBy W' v.ownBlock) : Below g w W' :=
  hw.grown hg hs (fun q e1 => by have := (h.lt q e1).1; omega)
theorem wpList_one {ops : Array Oper} {rest : List Oper} {o : Oper} {a : Act} {w : World} {Q : Exit → Act → World → Prop} (hgd : o.guard = none) (s x : Operand) (t e : TypeId) (z : Value) (bytes : Nat)
    (ho : o.op = .call { callee := .builtin .append, args := #[s, x], argTypes := #[t, t] }) (hin : (Try.prog.info? e).map (fun i => (i.zero, i.size, i.bytes)) = some (some z, 1, bytes)) (hun : Try.prog.underlying t = some (.slice e)) (hz1 : z.cells.size = 1) (hby : bytes ≤ 100)
    (base : Nat) (v : Value) (k : Nat) (xs : List Value) (u : Value) (hs : a.eval s = v) (hO : w.ownsRow base e 1 v k xs) (g : Nat) (hx : a.eval x = .slice (some ⟨g, 0, none⟩) 1 1)
    (hc : w.cell? ⟨g, 0, none⟩ = some u) (hu1 : u.oneCell' = true) (hl : k ≤ 100000) (hbase : base ≤ w.heap.size)
    (h : ∀ A' c' w', w'.ownsRow base e 1 (.slice A' (k + 1) c') (k + 1) (xs ++ [u]) → w.grownBy w' v.ownBlock → wpList Try.prog ops Q rest (a.put o.dst (.slice A' (k + 1) c')) w') : wpList Try.prog ops Q (o :: rest) a w := by
  obtain ⟨i, hi, hz, h1, h2⟩ := info_parts hin
  have hm : (k + 1) * bytes ≤ (k + 1) * 100 := Nat.mul_le_mul_left _ hby
  refine wpList_append_own _ hgd s x t ho base e i z 1 bytes hun hi hz h1 h2 hz1 (by decide) v k xs hs hO ⟨g, 0, none⟩ 1 1 [u] hx rfl ?_ ?_ (by unfold maxLen; omega) (by omega) hbase ?_
  · intro j u' hj
    cases j with
    | zero => simp at hj; subst hj; simpa [Addr.add] using hc
    | succ j => simp at hj
  · intro u' hu
    simp at hu
    subst hu
    exact hu1
  · intro v' w' hown hgrow _
    obtain ⟨g', cap', rfl⟩ := ownsRow_succ hown
    exact h _ _ w' hown hgrow
theorem take_map {α : Type} {f : α → Value} {L : List α} {i : Nat} (h : i < L.length) : (L.take i).map f ++ [f L[i]] = (L.take (i + 1)).map f := by
  rw [List.take_add_one, List.getElem?_eq_getElem h, List.map_append]
  rfl
/-- the two lists under construction -/
structure AB (p : PV) (g i : Nat) (va vb : Value) (W : World) : Prop where
  ao : W.ownsRow g 23 1 va i ((p.L.take i).map Row.v)
  bo : W.ownsRow g 2 1 vb i ((p.b.take i).map (Value.int .i64))
theorem AB.keep {p : PV} {g i : Nat} {A B : World} {va vb : Value} (h : AB p g i va vb A) (k : Below A.heap.size A B) : AB p g i va vb B :=
  ⟨own_below h.ao k (Nat.le_refl _), own_below h.bo k (Nat.le_refl _)⟩
theorem AB.start (p : PV) (g : Nat) (W : World) : AB p g 0 (.slice none 0 0) (.slice none 0 0) W := ⟨World.ownsRow_nil _ _ _ _, World.ownsRow_nil _ _ _ _⟩
theorem fac_step {p : PV} {f : Int} {k : Nat} (h : FacOk p f k) (hs : SmallJ p k) : FacOk p f (k + 1) := by
  rcases h with h | ⟨h, h2⟩
  · exact .inl h
  · refine .inr ⟨h, fun j hj => ?_⟩
    rcases Nat.lt_succ_iff_lt_or_eq.1 hj with h' | h'
    · exact h2 j h'
    · rw [h']; exact hs
/-- an own row whose block lies below R -/
def OwnLt (W : World) (g : Nat) (e : TypeId) (v : Value) (n : Nat) (xs : List Value) (R : Nat) : Prop := W.ownsRow g e 1 v n xs ∧ ∀ b, v.ownBlock = some b → b < R
theorem OwnLt.of {W W' : World} {g n : Nat} {e : TypeId} {v : Value} {xs : List Value} (h : W.ownsRow g e 1 v n xs) (k : Below W.heap.size W W') : OwnLt W' g e v n xs W.heap.size :=
  ⟨own_below h k (Nat.le_refl _), fun b hb => (h.lt b hb).2⟩
theorem OwnLt.keep {W W' : World} {g n R : Nat} {e : TypeId} {v : Value} {xs : List Value} (h : OwnLt W g e v n xs R) (k : Below R W W') : OwnLt W' g e v n xs R :=
  ⟨⟨h.1.1, by
    rcases h.1.2 with h0 | ⟨g', cap, cur, h1, h2, h3, h4⟩
    · exact .inl h0
    · exact .inr ⟨g', cap, cur, h1, h2, by rw [k.block g' (h.2 g' (by rw [h1]; rfl))]; exact h3, h4⟩⟩, h.2⟩
theorem zero_tab (n : Nat) (f : Nat → Int) : List.replicate n (0 : Int) = tab n fun j => if j < 0 then f j else 0 := by
  rw [tab_none]
  unfold tab
  exact (List.eq_replicate_iff.2 ⟨by simp, fun b hb => by obtain ⟨_, _, rfl⟩ := List.mem_map.1 hb; rfl⟩).symm
/-- the row that is being filled -/
structure RowK (p : PV) (fv : Int) (R k : Nat) (W wr : World) : Prop where
  ro : wr.ownsRow R 2 1 (.slice (some ⟨R, 0, none⟩) p.u.length p.u.length) p.u.length ((tab p.u.length fun j => if j < k then fv * at0 (rA p.L 0).zs j else 0).map (Value.int .i64))
  kb : Below R W wr
theorem RowK.put {p : PV} {fv : Int} {R k : Nat} {W wr : World} (h : RowK p fv R k W wr) : RowK p fv R (k + 1) W (wr.setCell ⟨R, k, none⟩ (.int .i64 (fv * at0 (rA p.L 0).zs k))) := by
  refine ⟨?_, h.kb.setCell (p := ⟨R, k, none⟩) (Nat.le_refl _) _⟩
  have h2 := own_put h.ro k (fv * at0 (rA p.L 0).zs k)
  rw [tab_set] at h2
  exact h2
theorem RowK.all {p : PV} {fv : Int} {R : Nat} {W wr : World} (h : RowK p fv R p.u.length W wr) : wr.ownsRow R 2 1 (.slice (some ⟨R, 0, none⟩) p.u.length p.u.length) p.u.length ((newRow p fv).map (Value.int .i64)) := by
  have h2 := h.ro
  rw [tab_all] at h2
  exact h2
theorem newRow_len (p : PV) (fv : Int) : (newRow p fv).length = p.u.length := tab_len _ _
theorem own_row_kept {W W' : World} {R n : Nat} {xs : List Value} {v : Value} (h : W.ownsRow R 2 1 (.slice (some ⟨R, 0, none⟩) n n) n xs) (hv : ∀ b, v.ownBlock = some b → b < R) (hg : W.grownBy W' v.ownBlock) : W'.ownsRow R 2 1 (.slice (some ⟨R, 0, none⟩) n n) n xs := by
  refine h.kept hg (.inr fun e => ?_)
  have := hv R e.symm
  omega
theorem set_same {u : List Int} : u.set 0 (at0 u 0) = u := by
  cases u <;> rfl
theorem sol_final {L : List Row} {b u : List Int} (h0 : 0 < u.length) (hu : 0 ≤ at0 u 0) {v : Int} (hv : v = at0 u 0 + 1 ∨ v = at0 u 0) : (solT L b u).length ≤ (solT L b (u.set 0 v)).length := by
  rcases hv with rfl | rfl
  · exact solT_more h0 hu
  · rw [set_same]
    exact Nat.le_refl _
/-- the problem with one row more -/
theorem again_pr {p : PV} {w W : World} {g : Nat} {A B : Option Addr} {c d : Nat} {R : Option Addr} {cr : Nat} {row : List Int} {q : Int} (hr : PR w p) (hk : Below w.heap.size w W) (ha : W.ownsRow g 23 1 (.slice A (p.L.length + 1) c) (p.L.length + 1) (p.L.map Row.v ++ [(⟨R, row, cr⟩ : Row).v]))
    (hb : W.ownsRow g 2 1 (.slice B (p.b.length + 1) d) (p.b.length + 1) (p.b.map (Value.int .i64) ++ [.int .i64 q])) (hrow : ReadsV W R row) (hl : row.length ≤ 1000) :
    PR W ⟨A, p.L ++ [⟨R, row, cr⟩], c, B, p.b ++ [q], d, p.U, p.u, p.cu⟩ := by
  have h2 := hr.below hk
  refine ⟨⟨fun j hj => ?_, fun r hm => ?_⟩, ?_, h2.rU⟩
  · have hj : j < p.L.length + 1 := by simpa using hj
    rcases ha.2 with ⟨e1, h0⟩ | ⟨g', cap, cur, e1, _, hg, _⟩
    · omega
    · injection e1 with e1
      subst e1
      have hc := ha.cellAt j (by omega)
      have e : (p.L.map Row.v ++ [(⟨R, row, cr⟩ : Row).v])[j]? = some (rA (p.L ++ [⟨R, row, cr⟩]) j).v := by
        rw [show [(⟨R, row, cr⟩ : Row).v] = List.map Row.v [⟨R, row, cr⟩] from rfl, ← List.map_append]
        unfold rA
        rw [List.getElem?_map, List.getElem?_eq_getElem (by simpa using hj)]
        rfl
      rw [e] at hc
      exact ⟨g', 0, rfl, World.block_lt_of_cell? W ⟨g', j, none⟩ hc, by rw [Nat.zero_add]; exact hc⟩
  · rcases List.mem_append.1 hm with hm | hm
    · exact h2.rA.2 r hm
    · simp at hm
      subst hm
      exact ⟨hrow, hl⟩
  · have e : p.b.map (Value.int .i64) ++ [.int .i64 q] = (p.b ++ [q]).map (Value.int .i64) := by simp
    rw [e] at hb
    obtain ⟨A9, c9, e9, hrd⟩ := ReadsV.own hb
    injection e9 with e1 e2 e3
    rw [e1]
    exact hrd
end Go.Proofs.Ytneediihponfiaa
