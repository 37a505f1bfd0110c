/- A log that comes in, opened, with what its bulk says of its size. -/
import Derived.Test.YtgjgohnomophnaaDoorDI
import Derived.Test.YtgjgohnomophnaaDoorEO
namespace Go.Proofs.YtgjgohnomophnaaDoor
open Go.RowKit Go.ChangeShapes Go.WideShapes Go.Deep

theorem bulk_pos {H : Type} (d : DataW H) : 1 ≤ Rows.uptoBulk d := by
  cases d with
  | lit l => cases l <;> simp [Rows.uptoBulk]
  | nil => simp [Rows.uptoBulk]
  | ptr d => simp [Rows.uptoBulk]
  | slice elems rest => simp [Rows.uptoBulk]
  | agg parts => simp [Rows.uptoBulk]
  | iface t d => simp [Rows.uptoBulk]
  | map entries => simp [Rows.uptoBulk]
  | held h => simp [Rows.uptoBulk]
theorem bulk_app {H : Type} : ∀ l r : List (DataW H), Rows.uptoBulkAll (l ++ r) = Rows.uptoBulkAll l + Rows.uptoBulkAll r
  | [], r => by simp [Rows.uptoBulkAll]
  | x :: l, r => by rw [List.cons_append, Rows.uptoBulkAll, Rows.uptoBulkAll, bulk_app l r]; omega
theorem bulk_len {H : Type} : ∀ l : List (DataW H), l.length ≤ Rows.uptoBulkAll l
  | [] => Nat.zero_le _
  | x :: l => by
    have h1 := bulk_pos x
    have h2 := bulk_len l
    rw [Rows.uptoBulkAll, List.length_cons]; omega
theorem bulk_slice {H : Type} (e s : List (DataW H)) : Rows.uptoBulkAll e ≤ Rows.uptoBulk (.slice e s) := by
  rw [Rows.uptoBulk]; omega
section
variable {H : Type} {enc : TypeId × Value → H} {w : World} {base : Nat} {spare : Nat → Bool} {held : Bool}
theorem open_rowB {fuel : Nat} {v : Value} {x : DataW H × List MemPlace} (h : DataW.trod enc Tryd.prog w base spare held fuel 41 [v] = some x) :
    ∃ r : Row, v = r.v ∧ ReadsS w r.A r.zs ∧ r.zs.length ≤ maxLen ∧ r.zs.length ≤ r.cap ∧ (∀ i, (atS r.zs i).length ≤ maxLen) ∧ r.zs.length ≤ Rows.uptoBulk x.1 := by
  rcases open_strings Tryd.underlying41 Tryd.underlying9 (by kernel_rfl) h with ⟨hcs, _⟩ | ⟨a, len, cap, zs, hcs, _, hl, hm, hz, hx, hcell, hsz⟩
  · simp at hcs
    exact ⟨⟨none, [], 0⟩, hcs, ReadsS.nil _ _, Nat.zero_le _, Nat.zero_le _, fun i => by simp [atS], Nat.zero_le _⟩
  · simp at hcs
    have hz' : len ≤ zs.length := by rw [hz]; split <;> omega
    refine ⟨⟨some a, (zs.take len).map fun s => s.data.toList, cap⟩, ?_, fun j hj => ?_, ?_, by simp; omega, fun i => ?_, ?_⟩
    · rw [hcs]
      unfold Row.v
      simp [Nat.min_eq_left hz']
    · have hj' : j < len := by simp at hj; omega
      have h0 := hcell j (by omega)
      obtain ⟨b, off, spot⟩ := a
      have hspot : spot = none := by
        have h1 := World.cell?_spot (hcell 0 (by omega))
        simpa [Addr.add] using h1
      subst hspot
      rw [add_plain] at h0
      refine ⟨b, off, rfl, World.block_lt_of_cell? w ⟨b, off + j, none⟩ h0, ?_⟩
      rw [h0]
      have hjz : j < zs.length := by omega
      simp [sv, atS, hj', hjz, List.getElem?_take]
    · simp only [List.length_map, List.length_take]
      omega
    · unfold atS
      rw [List.getElem?_map]
      cases e : (zs.take len)[i]? with
      | none => simp
      | some s =>
        have hs := hsz s (List.mem_of_mem_take (List.mem_of_getElem? e))
        show s.data.toList.length ≤ maxLen
        rw [Array.length_toList]
        exact hs
    · rw [hx]
      refine Nat.le_trans ?_ (bulk_slice _ _)
      refine Nat.le_trans ?_ (bulk_len _)
      simp [strs]
set_option maxRecDepth 100000 in
theorem open_rowsB {fuel : Nat} {v : Value} {x : DataW H × List MemPlace} (h : DataW.trod enc Tryd.prog w base spare held fuel 22 [v] = some x) :
    ∃ A c L, v = .slice A (List.length L) c ∧ (A = none → c = 0) ∧ L.length ≤ maxLen ∧ CellsL w A L ∧ (∀ r ∈ L, ReadsS w r.A r.zs ∧ r.zs.length ≤ maxLen ∧ r.zs.length ≤ r.cap ∧ ∀ i, (atS r.zs i).length ≤ maxLen) ∧ totL (rowsL L) L.length ≤ Rows.uptoBulk x.1 := by
  have hC : Tryd.prog.cellsOf 41 = 1 := by kernel_rfl
  rcases open_slice Tryd.underlying22 h with ⟨h0, _⟩ | ⟨a, len, cap, m, n, D, Pl, hcs, _, hl, hm, hmm, hxx, hi⟩
  · simp at h0
    exact ⟨none, 0, [], h0, fun _ => rfl, Nat.zero_le _, fun j hj => absurd hj (by simp), (fun _ h => by cases h), Nat.zero_le _⟩
  · simp at hcs
    have hx : ∀ i, i < len → ∃ r : Row, (∃ b off, some a = some ⟨b, off, none⟩ ∧ b < w.heap.size ∧ w.cell? ⟨b, off + i, none⟩ = some r.v) ∧ ReadsS w r.A r.zs ∧ r.zs.length ≤ maxLen ∧ r.zs.length ≤ r.cap ∧ (∀ i, (atS r.zs i).length ≤ maxLen) ∧ r.zs.length ≤ Rows.uptoBulk (D i) := fun i hlt => by
      have him : i < m := by rw [hmm]; split <;> omega
      obtain ⟨cs, hc, htr⟩ := hi i him
      rw [hC] at hc
      obtain ⟨_, hcl, hat⟩ := World.cells?_some hc
      obtain ⟨u, rfl⟩ : ∃ u, cs = [u] := by
        match cs, hcl with
        | [u], _ => exact ⟨u, rfl⟩
      have h1 := hat 0 (by omega)
      obtain ⟨r, rfl, hr⟩ := open_rowB htr
      simp only [List.getElem?_cons_zero] at h1
      obtain ⟨b, off, spot⟩ := a
      have hspot : spot = none := by
        obtain ⟨cs0, hc0, _⟩ := hi 0 (by rw [hmm]; split <;> omega)
        rw [hC] at hc0
        obtain ⟨_, hcl0, hat0⟩ := World.cells?_some hc0
        have c0 := hat0 0 (by omega)
        rw [List.getElem?_eq_getElem (by omega)] at c0
        have h2 := World.cell?_spot c0
        simpa [Addr.add] using h2
      subst hspot
      rw [add_plain, add_plain, Nat.mul_one, Nat.add_zero] at h1
      exact ⟨r, ⟨b, off, rfl, World.block_lt_of_cell? w ⟨b, off + i, none⟩ h1, h1⟩, hr⟩
    have hx2 : ∀ i, ∃ r : Row, i < len → (∃ b off, some a = some ⟨b, off, none⟩ ∧ b < w.heap.size ∧ w.cell? ⟨b, off + i, none⟩ = some r.v) ∧ ReadsS w r.A r.zs ∧ r.zs.length ≤ maxLen ∧ r.zs.length ≤ r.cap ∧ (∀ i, (atS r.zs i).length ≤ maxLen) ∧ r.zs.length ≤ Rows.uptoBulk (D i) := fun i => by
      by_cases hlt : i < len
      · obtain ⟨r, hr⟩ := hx i hlt
        exact ⟨r, fun _ => hr⟩
      · exact ⟨default, fun h => absurd h hlt⟩
    obtain ⟨Z, hZ⟩ := Classical.axiomOfChoice hx2
    have hat : ∀ j, j < len → rA ((List.range len).map Z) j = Z j := fun j hj => by simp [rA, hj]
    have hll : ((List.range len).map Z).length = len := by simp
    refine ⟨some a, cap, (List.range len).map Z, by simp [hcs], (fun h => by cases h), by simp; omega, fun j hj => ?_, fun r hr => ?_, ?_⟩
    · have hj' : j < len := by simpa using hj
      rw [hat j hj']
      exact (hZ j hj').1
    · obtain ⟨i, hi, rfl⟩ := List.mem_map.1 hr
      have h5 := (hZ i (List.mem_range.1 hi)).2
      exact ⟨h5.1, h5.2.1, h5.2.2.1, h5.2.2.2.1⟩
    · rw [hxx, hll]
      refine Nat.le_trans ?_ (bulk_slice _ _)
      have key : ∀ k, k ≤ len → totL (rowsL ((List.range len).map Z)) k ≤ Rows.uptoBulkAll ((List.range k).map D) := by
        intro k
        induction k with
        | zero => intro _; exact Nat.zero_le _
        | succ k ih =>
          intro hk
          have h1 := ih (by omega)
          have h2 := (hZ k (by omega)).2.2.2.2.2
          rw [totL, rows_at, hat k (by omega), List.range_succ, List.map_append, bulk_app]
          have h3 : Rows.uptoBulkAll (List.map D [k]) = Rows.uptoBulk (D k) := by simp [Rows.uptoBulkAll]
          omega
      exact key len (Nat.le_refl _)
theorem open_rowsBW {a : Option Addr} {l c : Nat} {d : DataW H} {p : List MemPlace} (h : DataW.Trod enc Tryd.prog w base spare held 22 (.slice a l c) d p) (hb : Rows.uptoBulk d ≤ 1048576) : ∃ L : List Row, l = L.length ∧ RowsC w a L c ∧ LogR w a L := by
  obtain ⟨fuel, hf⟩ := h
  obtain ⟨A, c', L, e, h1, h2, h3, h4, h5⟩ := open_rowsB (v := .slice a l c) hf
  injection e with e1 e2 e3
  subst e1 e3
  refine ⟨L, e2, ⟨h1, h2, h3, fun r hr => ⟨(h4 r hr).1, (h4 r hr).2.1, (h4 r hr).2.2.1⟩⟩, ⟨h3, by unfold maxLen at h2; omega, fun j hj => (h4 _ (rA_mem hj)).1, fun j hj => ⟨by have := (h4 _ (rA_mem hj)).2.1; unfold maxLen at this; omega, (h4 _ (rA_mem hj)).2.2.1⟩, fun j i hj => (h4 _ (rA_mem hj)).2.2.2 i, Nat.le_trans h5 (Nat.le_trans hb (by decide))⟩⟩
end
end Go.Proofs.YtgjgohnomophnaaDoor
