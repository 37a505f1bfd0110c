/- Graphs: a table of truth values, its rows anywhere in the call's own memory. -/
import Derived.Test.YtdfljeonoallfaaGB
import Derived.Test.YtdfljeonoallfaaSR
import Derived.Test.YtdfljeonoallfaaWM
namespace Go.Proofs.Ytdfljeonoallfaa
open Go.RowKit Go.Deep

theorem infoSb : (Try.prog.info? 29).map (fun i => (i.zero, i.size, i.bytes)) = some (some (.slice none 0 0), 1, 24) := by kernel_rfl
theorem run_make_bools (n : Nat) (hn : n ≤ 100000) (w : World) : (Instr.makeSlice 29 (.int .i64 (n : Int)) (.int .i64 (n : Int))).run Try.prog w = .ok (.slice (some ⟨w.heap.size, 0, none⟩) n n) (w.alloc (.cells (madeCells #[.bool false] n) 4)) :=
  run_make_row' 29 4 (.bool false) 1 Try.underlying29 infoT rfl .i64 .i64 n (by omega) (by omega) w
/-- block b is a row of n truth values -/
def RowB (w : World) (b n : Nat) (f : Nat → Bool) : Prop := w.rowIs b 4 n (fun j => .bool (f j))
theorem RowB.made (w : World) (n : Nat) : RowB (w.alloc (.cells (madeCells #[.bool false] n) 4)) w.heap.size n (fun _ => false) := World.rowIs_made w (.bool false) n 4
theorem RowB.of_block {w w' : World} {b n : Nat} {f : Nat → Bool} (h : RowB w b n f) (e : w'.heap[b]? = w.heap[b]?) : RowB w' b n f := World.rowIs.of_block h e
theorem RowB.congr {w : World} {b n : Nat} {f g : Nat → Bool} (h : RowB w b n f) (e : ∀ j, j < n → f j = g j) : RowB w b n g := World.rowIs.congr h fun j hj => by rw [e j hj]
theorem RowB.set {w : World} {b n : Nat} {f : Nat → Bool} (h : RowB w b n f) (j : Nat) (z : Bool) : RowB (w.setCell ⟨b, j, none⟩ (.bool z)) b n (fun i => if i = j then z else f i) :=
  World.rowIs.congr (World.rowIs.set h j (.bool z)) fun i _ => by dsimp only; split <;> rfl
theorem RowB.get {w : World} {b n : Nat} {f : Nat → Bool} (h : RowB w b n f) {j : Nat} (hj : j < n) : w.cell? ⟨b, j, none⟩ = some (.bool (f j)) := World.rowIs.cell h hj
def rowsV (ad : Nat → Nat) (n k : Nat) : List Value := (List.range k).map fun i => .slice (some ⟨ad i, 0, none⟩) n n
theorem rowsV_len (ad : Nat → Nat) (n k : Nat) : (rowsV ad n k).length = k := by unfold rowsV; simp
theorem rowsV_at {ad : Nat → Nat} {n k i : Nat} (h : i < k) : (rowsV ad n k)[i]? = some (.slice (some ⟨ad i, 0, none⟩) n n) := by unfold rowsV; simp [h]
theorem rowsV_snoc (ad : Nat → Nat) (n k r : Nat) : rowsV (fun i => if i = k then r else ad i) n (k + 1) = rowsV ad n k ++ [.slice (some ⟨r, 0, none⟩) n n] := by
  unfold rowsV
  rw [List.range_succ, List.map_append]
  congr 1
  · refine List.map_congr_left fun i hi => ?_
    have : i ≠ k := by have := List.mem_range.1 hi; omega
    simp [this]
  · simp
structure MatB (w : World) (base : Nat) (v : Value) (n k : Nat) (ad : Nat → Nat) (B : Nat → Nat → Bool) : Prop where
  own : w.ownsRow base 29 1 v k (rowsV ad n k)
  row : ∀ i, i < k → base ≤ ad i ∧ RowB w (ad i) n (B i)
  inj : ∀ i j, i < k → j < k → ad i = ad j → i = j
section
variable {w w' : World} {base n k : Nat} {v : Value} {ad : Nat → Nat} {B B' : Nat → Nat → Bool}
theorem MatB.nil (w : World) (base n : Nat) (ad : Nat → Nat) (B : Nat → Nat → Bool) : MatB w base (.slice none 0 0) n 0 ad B :=
  ⟨World.ownsRow_nil _ _ _ _, fun i hi => absurd hi (by omega), fun i _ hi => absurd hi (by omega)⟩
theorem MatB.off (h : MatB w base v n k ad B) {i : Nat} (hi : i < k) : v.ownBlock ≠ some (ad i) := by
  intro e
  rcases h.own.2 with ⟨e1, _⟩ | ⟨g, cap, cur, e1, _, hg, _⟩
  · rw [e1] at e; cases e
  · rw [e1] at e
    have e2 : g = ad i := by simpa [Value.ownBlock] using e
    subst e2
    obtain ⟨_, c, hc, _⟩ := h.row i hi
    rw [hg] at hc
    simp at hc
theorem MatB.block (h : MatB w base v n k ad B) (h1 : ∀ g, v.ownBlock = some g → w'.heap[g]? = w.heap[g]?) (h2 : ∀ i, i < k → w'.heap[ad i]? = w.heap[ad i]?) : MatB w' base v n k ad B :=
  ⟨own_block h.own h1, fun i hi => ⟨(h.row i hi).1, (h.row i hi).2.of_block (h2 i hi)⟩, h.inj⟩
theorem MatB.lt (h : MatB w base v n k ad B) {i : Nat} (hi : i < k) : ad i < w.heap.size := World.rowIs.lt (h.row i hi).2
theorem MatB.below (h : MatB w base v n k ad B) (hb : Below w.heap.size w w') : MatB w' base v n k ad B :=
  h.block (fun g e => hb.block g (h.own.lt g e).2) fun i hi => hb.block _ (h.lt hi)
theorem MatB.congr (h : MatB w base v n k ad B) (e : ∀ i j, i < k → j < n → B i j = B' i j) : MatB w base v n k ad B' :=
  ⟨h.own, fun i hi => ⟨(h.row i hi).1, (h.row i hi).2.congr fun j hj => e i j hi hj⟩, h.inj⟩
theorem MatB.cell (h : MatB w base v n k ad B) {i : Nat} (hi : i < k) : ∃ g c, v = .slice (some ⟨g, 0, none⟩) k c ∧ w.cell? ⟨g, i, none⟩ = some (.slice (some ⟨ad i, 0, none⟩) n n) := by
  have ho := h.own
  rcases ho.2 with ⟨_, h0⟩ | ⟨g, cap, cur, rfl, _⟩
  · omega
  · refine ⟨g, cap, rfl, ?_⟩
    rw [ho.cellAt i (by omega), rowsV_at hi]
theorem MatB.get (h : MatB w base v n k ad B) {i j : Nat} (hi : i < k) (hj : j < n) : w.cell? ⟨ad i, j, none⟩ = some (.bool (B i j)) := (h.row i hi).2.get hj
theorem MatB.frz (h : MatB w base v n k ad B) {i : Nat} (hi : i < k) (j : Nat) : w.frozen? ⟨ad i, j, none⟩ = false := World.rowIs.frozen (h.row i hi).2 j
theorem MatB.set (h : MatB w base v n k ad B) {u : Nat} (hu : u < k) (j : Nat) (z : Bool) : MatB (w.setCell ⟨ad u, j, none⟩ (.bool z)) base v n k ad (fun i i' => if i = u ∧ i' = j then z else B i i') := by
  refine ⟨own_block h.own fun g e => blk_setCell_other _ _ _ _ ?_, fun i hi => ⟨(h.row i hi).1, ?_⟩, h.inj⟩
  · intro e2
    exact h.off hu (by rw [e, e2])
  · by_cases e : i = u
    · subst e
      refine ((h.row i hi).2.set j z).congr fun i' _ => ?_
      by_cases e2 : i' = j
      · rw [if_pos e2, if_pos ⟨rfl, e2⟩]
      · rw [if_neg e2, if_neg fun h => e2 h.2]
    · refine ((h.row i hi).2.of_block (blk_setCell_other _ _ _ _ fun e2 => e (h.inj i u hi hu e2))).congr fun i' _ => ?_
      rw [if_neg fun h => e h.1]
theorem MatB.drew (h : MatB w base v n k ad B) : MatB w.drew base v n k ad B := ⟨h.own, h.row, h.inj⟩
theorem MatB.mono {base' : Nat} (h : MatB w base v n k ad B) (hb : base' ≤ base) : MatB w base' v n k ad B :=
  ⟨own_mono h.own hb, fun i hi => ⟨Nat.le_trans hb (h.row i hi).1, (h.row i hi).2⟩, h.inj⟩
/-- a row is appended -/
theorem wpList_bmat {ops : Array Oper} {rest : List Oper} {o : Oper} {a : Act} {Q : Exit → Act → World → Prop} (hgd : o.guard = none) (s x : Operand)
    (ho : o.op = .call { callee := .builtin .append, args := #[s, x], argTypes := #[40, 40] })
    (f : Nat → Bool) (r : Nat) (hs : a.eval s = v) (hM : MatB w base v n k ad B) (hr : RowB w r n f) (hrb : base ≤ r) (hrn : ∀ i, i < k → ad i ≠ r) (g : Nat) (hx : a.eval x = .slice (some ⟨g, 0, none⟩) 1 1)
    (hc : w.cell? ⟨g, 0, none⟩ = some (.slice (some ⟨r, 0, none⟩) n n)) (hl : k ≤ 100000) (hbase : base ≤ w.heap.size)
    (h : ∀ v' w', MatB w' base v' n (k + 1) (fun i => if i = k then r else ad i) (fun i => if i = k then f else B i) → Below base w w' → wpList Try.prog ops Q rest (a.put o.dst v') w') : wpList Try.prog ops Q (o :: rest) a w := by
  obtain ⟨i, hi, hz, h1, h2⟩ := info_parts infoSb
  refine wpList_append_own _ hgd s x 40 ho base 29 i (.slice none 0 0) 1 24 Try.underlying40 hi hz h1 h2 rfl (by decide) v k (rowsV ad n k) hs hM.own ⟨g, 0, none⟩ 1 1 [.slice (some ⟨r, 0, none⟩) n n] hx rfl ?_ ?_ (by unfold maxLen; omega) (by omega) hbase ?_
  · intro j u hj
    cases j with
    | zero => simp at hj; subst hj; simpa [Addr.add] using hc
    | succ j => simp at hj
  · intro u hu
    simp at hu
    subst hu
    simp [Value.oneCell']
  · intro v' w' hown hgrow _
    have keep : ∀ q fq, RowB w q n fq → w'.heap[q]? = w.heap[q]? := fun q fq hq => by
      refine hgrow.block q (World.rowIs.lt hq) fun e => ?_
      rcases hM.own.2 with ⟨e1, _⟩ | ⟨g', cap, cur, e1, _, hg, _⟩
      · rw [e1] at e; cases e
      · rw [e1] at e
        have e2 : q = g' := by simpa [Value.ownBlock] using e
        subst e2
        obtain ⟨c, hc, _⟩ := hq
        rw [hg] at hc
        simp at hc
    refine h v' w' ⟨?_, fun j hj => ?_, fun p q hp hq e => ?_⟩ ((Below.refl base w).grown hgrow hbase fun q e => (hM.own.lt q e).1)
    · rw [rowsV_snoc]
      exact hown
    · by_cases e : j = k
      · rw [if_pos e, if_pos e]
        exact ⟨hrb, hr.of_block (keep r f hr)⟩
      · rw [if_neg e, if_neg e]
        have hj' : j < k := by omega
        exact ⟨(hM.row j hj').1, (hM.row j hj').2.of_block (keep _ _ (hM.row j hj').2)⟩
    · by_cases e1 : p = k
      · by_cases e2 : q = k
        · omega
        · rw [if_pos e1, if_neg e2] at e
          exact absurd e.symm (hrn q (by omega))
      · by_cases e2 : q = k
        · rw [if_neg e1, if_pos e2] at e
          exact absurd e (hrn p (by omega))
        · rw [if_neg e1, if_neg e2] at e
          exact hM.inj p q (by omega) (by omega) e
end
end Go.Proofs.Ytdfljeonoallfaa
