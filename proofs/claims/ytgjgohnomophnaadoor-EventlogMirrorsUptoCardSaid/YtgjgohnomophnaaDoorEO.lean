/- A log that comes in, opened, with the rows' capacities. -/
import Derived.Test.YtgjgohnomophnaaDoorEN
namespace Go.Proofs.YtgjgohnomophnaaDoor
open Go.RowKit Go.ChangeShapes Go.WideShapes Go.Deep

section
variable {H : Type} {enc : TypeId × Value → H} {w : World} {base : Nat} {spare : Nat → Bool} {held : Bool}
theorem open_rowC {fuel : Nat} {v : Value} {x : DataW H × List MemPlace} (h : DataW.trod enc Tryd.prog w base spare held fuel 41 [v] = some x) :
    ∃ r : Row, v = r.v ∧ ReadsS w r.A r.zs ∧ r.zs.length ≤ maxLen ∧ r.zs.length ≤ r.cap := by
  rcases open_strings Tryd.underlying41 Tryd.underlying9 (by kernel_rfl) h with ⟨hcs, _⟩ | ⟨a, len, cap, zs, hcs, _, hl, hm, hz, _, hcell, _⟩
  · simp at hcs
    exact ⟨⟨none, [], 0⟩, hcs, ReadsS.nil _ _, Nat.zero_le _, Nat.zero_le _⟩
  · simp at hcs
    have hz' : len ≤ zs.length := by rw [hz]; split <;> omega
    refine ⟨⟨some a, (zs.take len).map fun s => s.data.toList, cap⟩, ?_, fun j hj => ?_, ?_, by simp; omega⟩
    · rw [hcs]
      unfold Row.v
      simp [Nat.min_eq_left hz']
    · have hj' : j < len := by simp at hj; omega
      have h0 := hcell j (by omega)
      obtain ⟨b, off, spot⟩ := a
      have hspot : spot = none := by
        have h1 := World.cell?_spot (hcell 0 (by omega))
        simpa [Addr.add] using h1
      subst hspot
      rw [add_plain] at h0
      refine ⟨b, off, rfl, World.block_lt_of_cell? w ⟨b, off + j, none⟩ h0, ?_⟩
      rw [h0]
      have hjz : j < zs.length := by omega
      simp [sv, atS, hj', hjz, List.getElem?_take]
    · simp only [List.length_map, List.length_take]
      omega
set_option maxRecDepth 100000 in
theorem open_rowsC {fuel : Nat} {v : Value} {x : DataW H × List MemPlace} (h : DataW.trod enc Tryd.prog w base spare held fuel 22 [v] = some x) :
    ∃ A c L, v = .slice A (List.length L) c ∧ (A = none → c = 0) ∧ L.length ≤ maxLen ∧ CellsL w A L ∧ ∀ r ∈ L, ReadsS w r.A r.zs ∧ r.zs.length ≤ maxLen ∧ r.zs.length ≤ r.cap := by
  have hC : Tryd.prog.cellsOf 41 = 1 := by kernel_rfl
  rcases open_slice Tryd.underlying22 h with ⟨h0, _⟩ | ⟨a, len, cap, m, n, D, Pl, hcs, _, hl, hm, hmm, _, hi⟩
  · simp at h0
    exact ⟨none, 0, [], h0, fun _ => rfl, Nat.zero_le _, fun j hj => absurd hj (by simp), fun _ h => by cases h⟩
  · simp at hcs
    have hx : ∀ i, i < len → ∃ r : Row, (∃ b off, some a = some ⟨b, off, none⟩ ∧ b < w.heap.size ∧ w.cell? ⟨b, off + i, none⟩ = some r.v) ∧ ReadsS w r.A r.zs ∧ r.zs.length ≤ maxLen ∧ r.zs.length ≤ r.cap := fun i hlt => by
      have him : i < m := by rw [hmm]; split <;> omega
      obtain ⟨cs, hc, htr⟩ := hi i him
      rw [hC] at hc
      obtain ⟨_, hcl, hat⟩ := World.cells?_some hc
      obtain ⟨u, rfl⟩ : ∃ u, cs = [u] := by
        match cs, hcl with
        | [u], _ => exact ⟨u, rfl⟩
      have h1 := hat 0 (by omega)
      obtain ⟨r, rfl, hr⟩ := open_rowC htr
      simp only [List.getElem?_cons_zero] at h1
      obtain ⟨b, off, spot⟩ := a
      have hspot : spot = none := by
        obtain ⟨cs0, hc0, _⟩ := hi 0 (by rw [hmm]; split <;> omega)
        rw [hC] at hc0
        obtain ⟨_, hcl0, hat0⟩ := World.cells?_some hc0
        have c0 := hat0 0 (by omega)
        rw [List.getElem?_eq_getElem (by omega)] at c0
        have h2 := World.cell?_spot c0
        simpa [Addr.add] using h2
      subst hspot
      rw [add_plain, add_plain, Nat.mul_one, Nat.add_zero] at h1
      exact ⟨r, ⟨b, off, rfl, World.block_lt_of_cell? w ⟨b, off + i, none⟩ h1, h1⟩, hr⟩
    have hx2 : ∀ i, ∃ r : Row, i < len → (∃ b off, some a = some ⟨b, off, none⟩ ∧ b < w.heap.size ∧ w.cell? ⟨b, off + i, none⟩ = some r.v) ∧ ReadsS w r.A r.zs ∧ r.zs.length ≤ maxLen ∧ r.zs.length ≤ r.cap := fun i => by
      by_cases hlt : i < len
      · obtain ⟨r, hr⟩ := hx i hlt
        exact ⟨r, fun _ => hr⟩
      · exact ⟨default, fun h => absurd h hlt⟩
    obtain ⟨Z, hZ⟩ := Classical.axiomOfChoice hx2
    have hat : ∀ j, j < len → rA ((List.range len).map Z) j = Z j := fun j hj => by simp [rA, hj]
    refine ⟨some a, cap, (List.range len).map Z, by simp [hcs], (fun h => by cases h), by simp; omega, fun j hj => ?_, fun r hr => ?_⟩
    · have hj' : j < len := by simpa using hj
      rw [hat j hj']
      exact (hZ j hj').1
    · obtain ⟨i, hi, rfl⟩ := List.mem_map.1 hr
      exact (hZ i (List.mem_range.1 hi)).2
/-- what the law knows of a list of rows that comes in -/
structure RowsC (w : World) (A : Option Addr) (L : List Row) (c : Nat) : Prop where
  nz : A = none → c = 0
  len : L.length ≤ maxLen
  cells : CellsL w A L
  rows : ∀ r ∈ L, ReadsS w r.A r.zs ∧ r.zs.length ≤ maxLen ∧ r.zs.length ≤ r.cap
theorem open_rowsCW {a : Option Addr} {l c : Nat} {d : DataW H} {p : List MemPlace} (h : DataW.Trod enc Tryd.prog w base spare held 22 (.slice a l c) d p) : ∃ L : List Row, l = L.length ∧ RowsC w a L c := by
  obtain ⟨fuel, hf⟩ := h
  obtain ⟨A, c', L, e, h1, h2, h3, h4⟩ := open_rowsC (v := .slice a l c) hf
  injection e with e1 e2 e3
  subst e1 e3
  exact ⟨L, e2, h1, h2, h3, h4⟩
end
end Go.Proofs.YtgjgohnomophnaaDoor
