/- A list of rows that comes in, opened, with the bound on each row. -/
import Derived.Test.YtkjdgkndlfhhjaaDoorOLI
import Derived.OpenShut
import Derived.ChangeSlices
import Derived.Deep.Slices
import Derived.SizedLaws
namespace Go.Proofs.YtkjdgkndlfhhjaaDoor
open Go.RowKit Go.ChangeShapes Go.WideShapes Go.Deep

section
variable {H : Type} {enc : TypeId × Value → H} {w : World} {base : Nat} {spare : Nat → Bool} {held : Bool}
theorem weightsAll_mem {P : Program} {e : TypeId} : ∀ {l : List (DataW H)} {d : DataW H}, d ∈ l → ∀ n ∈ d.weights P e, n ∈ DataW.weightsAll P e l
  | x :: r, d, h, n, hn => by
    rw [DataW.weightsAll, List.mem_append]
    rcases List.mem_cons.1 h with rfl | h
    · exact .inl hn
    · exact .inr (weightsAll_mem h n hn)
  | [], _, h, _, _ => by cases h
theorem open_row {fuel : Nat} {v : Value} {x : DataW H × List MemPlace} (h : DataW.trod enc Tryd.prog w base spare held fuel 28 [v] = some x) (hw : ∀ n ∈ x.1.weights Tryd.prog 28, n ≤ reachBytes) :
    ∃ r : Row, v = r.v ∧ OkR w r := by
  rcases open_ints Tryd.underlying28 Tryd.underlying3 (by kernel_rfl) h with ⟨hcs, _⟩ | ⟨a, len, cap, zs, hcs, _, hl, hm, hz, hx0, hcell, hwf⟩
  · simp at hcs
    exact ⟨⟨none, [], 0⟩, hcs, ReadsV.nil _ _, Nat.zero_le _⟩
  · simp at hcs
    have hz' : len ≤ zs.length := by rw [hz]; split <;> omega
    have hb : Tryd.prog.bytesOf 3 = 8 := by kernel_rfl
    have h8 := hw (((lits .i64 (zs.take len)).length + (lits .i64 (zs.drop len)).length) * Tryd.prog.bytesOf 3) (by
      rw [hx0]
      rw [DataW.weights]
      rw [Tryd.underlying28]
      exact List.mem_cons_self)
    rw [hb] at h8
    simp only [lits, List.length_map, List.length_take, List.length_drop, reachBytes] at h8
    refine ⟨⟨some a, zs.take len, cap⟩, ?_, fun j hj => ?_, by dsimp only; simp only [List.length_take]; omega⟩
    · rw [hcs]
      unfold Row.v
      simp [Nat.min_eq_left hz']
    · dsimp only at hj ⊢
      have hj' : j < len := by simp at hj; omega
      have h0 := hcell j (by omega)
      obtain ⟨b, off, spot⟩ := a
      have hspot : spot = none := by
        have h1 := World.cell?_spot (hcell 0 (by omega))
        simpa [Addr.add] using h1
      subst hspot
      rw [add_plain] at h0
      refine ⟨b, off, rfl, World.block_lt_of_cell? w ⟨b, off + j, none⟩ h0, ?_⟩
      rw [h0]
      simp [hj', at0]
theorem open_rows {fuel : Nat} {v : Value} {x : DataW H × List MemPlace} (h : DataW.trod enc Tryd.prog w base spare held fuel 22 [v] = some x) (hw : ∀ n ∈ x.1.weights Tryd.prog 22, n ≤ reachBytes) :
    ∃ A c L, v = .slice A (List.length L) c ∧ L.length ≤ maxLen ∧ ReadsL w A L := by
  have hC : Tryd.prog.cellsOf 28 = 1 := by kernel_rfl
  rcases open_slice Tryd.underlying22 h with ⟨h0, _⟩ | ⟨a, len, cap, m, n, D, Pl, hcs, _, hl, hm, hmm, hx0, hi⟩
  · simp at h0
    exact ⟨none, 0, [], h0, Nat.zero_le _, ReadsL.nil _ _⟩
  · simp at hcs
    have hwD : ∀ i, i < len → ∀ k ∈ (D i).weights Tryd.prog 28, k ≤ reachBytes := fun i hi2 k hk => by
      refine hw k ?_
      rw [hx0]
      rw [DataW.weights, Tryd.underlying22]
      refine List.mem_cons_of_mem _ (List.mem_append_left _ (weightsAll_mem (d := D i) ?_ k hk))
      exact List.mem_map.2 ⟨i, List.mem_range.2 hi2, rfl⟩
    have hx : ∀ i, i < len → ∃ r : Row, (∃ b off, some a = some ⟨b, off, none⟩ ∧ b < w.heap.size ∧ w.cell? ⟨b, off + i, none⟩ = some r.v) ∧ OkR w r := fun i hlt => by
      have him : i < m := by rw [hmm]; split <;> omega
      obtain ⟨cs, hc, htr⟩ := hi i him
      rw [hC] at hc
      obtain ⟨_, hcl, hat⟩ := World.cells?_some hc
      obtain ⟨u, rfl⟩ : ∃ u, cs = [u] := by
        match cs, hcl with
        | [u], _ => exact ⟨u, rfl⟩
      have h1 := hat 0 (by omega)
      obtain ⟨r, rfl, hr⟩ := open_row htr (hwD i hlt)
      simp only [List.getElem?_cons_zero] at h1
      obtain ⟨b, off, spot⟩ := a
      have hspot : spot = none := by
        obtain ⟨cs0, hc0, _⟩ := hi 0 (by rw [hmm]; split <;> omega)
        rw [hC] at hc0
        obtain ⟨_, hcl0, hat0⟩ := World.cells?_some hc0
        have c0 := hat0 0 (by omega)
        rw [List.getElem?_eq_getElem (by omega)] at c0
        have h2 := World.cell?_spot c0
        simpa [Addr.add] using h2
      subst hspot
      rw [add_plain, add_plain, Nat.mul_one, Nat.add_zero] at h1
      exact ⟨r, ⟨b, off, rfl, World.block_lt_of_cell? w ⟨b, off + i, none⟩ h1, h1⟩, hr⟩
    have hx2 : ∀ i, ∃ r : Row, i < len → (∃ b off, some a = some ⟨b, off, none⟩ ∧ b < w.heap.size ∧ w.cell? ⟨b, off + i, none⟩ = some r.v) ∧ OkR w r := fun i => by
      by_cases hlt : i < len
      · obtain ⟨r, hr⟩ := hx i hlt
        exact ⟨r, fun _ => hr⟩
      · exact ⟨default, fun h => absurd h hlt⟩
    obtain ⟨Z, hZ⟩ := Classical.axiomOfChoice hx2
    have hat : ∀ j, j < len → rA ((List.range len).map Z) j = Z j := fun j hj => by simp [rA, hj]
    refine ⟨some a, cap, (List.range len).map Z, by simp [hcs], by simp; omega, fun j hj => ?_, fun r hr => ?_⟩
    · have hj' : j < len := by simpa using hj
      rw [hat j hj']
      exact (hZ j hj').1
    · obtain ⟨i, hi, rfl⟩ := List.mem_map.1 hr
      exact (hZ i (List.mem_range.1 hi)).2
theorem open_rowsW {a : Option Addr} {l c : Nat} {d : DataW H} {p : List MemPlace} (h : DataW.Trod enc Tryd.prog w base spare held 22 (.slice a l c) d p) (hw : ∀ n ∈ d.weights Tryd.prog 22, n ≤ reachBytes) : ∃ L : List Row, l = L.length ∧ L.length ≤ maxLen ∧ ReadsL w a L := by
  obtain ⟨fuel, hf⟩ := h
  obtain ⟨A, c', L, e, h1, h2⟩ := open_rows (v := .slice a l c) hf hw
  injection e with e1 e2 e3
  subst e1
  exact ⟨L, e2, h1, h2⟩
end
end Go.Proofs.YtkjdgkndlfhhjaaDoor
