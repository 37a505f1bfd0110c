/- Graphs: rows of numbers that come in. -/
import Derived.Test.YtdfljeonoallfaaGB
import Derived.OpenShut
import Derived.ChangeSlices
import Derived.Deep.Slices
namespace Go.Proofs.Ytdfljeonoallfaa
open Go.RowKit Go.ChangeShapes Go.WideShapes Go.Deep

structure Row where
  A : Option Addr
  zs : List Int
  cap : Nat
instance : Inhabited Row := ⟨⟨none, [], 0⟩⟩
def Row.v (r : Row) : Value := .slice r.A r.zs.length r.cap
def OkR (w : World) (r : Row) : Prop := ReadsV w r.A r.zs ∧ r.zs.length ≤ 1000
def rowsL (L : List Row) : List (List Int) := L.map Row.zs
def rA (L : List Row) (j : Nat) : Row := L[j]?.getD ⟨none, [], 0⟩
def CellsL (w : World) (A : Option Addr) (L : List Row) : Prop :=
  ∀ j, j < L.length → ∃ b off, A = some ⟨b, off, none⟩ ∧ b < w.heap.size ∧ w.cell? ⟨b, off + j, none⟩ = some (rA L j).v
def ReadsL (w : World) (A : Option Addr) (L : List Row) : Prop := CellsL w A L ∧ ∀ r ∈ L, OkR w r
theorem rowsL_len (L : List Row) : (rowsL L).length = L.length := by simp [rowsL]
theorem rA_mem {L : List Row} {j : Nat} (h : j < L.length) : rA L j ∈ L := by
  unfold rA
  rw [List.getElem?_eq_getElem h]
  exact List.getElem_mem h
theorem rA_get {L : List Row} {j : Nat} (h : j < L.length) : (rowsL L)[j]'(by rw [rowsL_len]; exact h) = (rA L j).zs := by
  unfold rA rowsL
  rw [List.getElem?_eq_getElem h]
  simp
theorem rowsL_take (L : List Row) (k : Nat) : rowsL (L.take k) = (rowsL L).take k := by simp [rowsL, List.map_take]
theorem rowsL_snoc (L : List Row) (r : Row) : rowsL (L ++ [r]) = rowsL L ++ [r.zs] := by simp [rowsL]
theorem rowsL_all (L : List Row) : (rowsL L).take L.length = rowsL L := by rw [← rowsL_len L, List.take_length]
theorem OkR.below {w w' : World} {r : Row} {B : Nat} (h : OkR w r) (hb : Below B w w') (hB : w.heap.size ≤ B) : OkR w' r := ⟨h.1.below hb hB, h.2⟩
theorem CellsL.below {w w' : World} {A : Option Addr} {L : List Row} {B : Nat} (h : CellsL w A L) (hb : Below B w w') (hB : w.heap.size ≤ B) : CellsL w' A L := fun j hj => by
  obtain ⟨b, off, e, h1, h2⟩ := h j hj
  exact ⟨b, off, e, Nat.lt_of_lt_of_le h1 hb.size, (hb.cell (p := ⟨b, off + j, none⟩) (Nat.lt_of_lt_of_le h1 hB)).trans h2⟩
theorem ReadsL.below {w w' : World} {A : Option Addr} {L : List Row} {B : Nat} (h : ReadsL w A L) (hb : Below B w w') (hB : w.heap.size ≤ B) : ReadsL w' A L :=
  ⟨h.1.below hb hB, fun r hr => (h.2 r hr).below hb hB⟩
theorem CellsL.at {w : World} {A : Option Addr} {L : List Row} (h : CellsL w A L) (k : Nat) (hk : k < L.length) : ∃ b off, A = some ⟨b, off, none⟩ ∧ w.cell? ⟨b, off + k, none⟩ = some (.slice (rA L k).A (rA L k).zs.length (rA L k).cap) := by
  obtain ⟨b, off, e, _, h2⟩ := h k hk
  exact ⟨b, off, e, h2⟩
theorem ReadsL.nil (w : World) (A : Option Addr) : ReadsL w A [] := ⟨fun _ h => absurd h (by simp), fun _ h => by cases h⟩

section
variable {H : Type} {enc : TypeId × Value → H} {w : World} {base : Nat} {spare : Nat → Bool} {held : Bool}
theorem bounds64 {x : Int} (h : (Lit.int .i64 x).wf = true) : -9223372036854775808 ≤ x ∧ x ≤ 9223372036854775807 := by
  simpa [Lit.wf, IntKind.min, IntKind.max, IntKind.signed, IntKind.bits] using h
theorem open_row {fuel : Nat} {v : Value} {x : DataW H × List MemPlace} (h : DataW.trod enc Try.prog w base spare held fuel 27 [v] = some x) :
    ∃ r : Row, v = r.v ∧ ReadsV w r.A r.zs ∧ r.zs.length ≤ maxLen ∧ In64 r.zs := by
  rcases open_ints Try.underlying27 Try.underlying3 (by kernel_rfl) h with ⟨hcs, _⟩ | ⟨a, len, cap, zs, hcs, _, hl, hm, hz, _, hcell, hwf⟩
  · simp at hcs
    exact ⟨⟨none, [], 0⟩, hcs, ReadsV.nil _ _, Nat.zero_le _, fun _ h => by cases h⟩
  · simp at hcs
    have hz' : len ≤ zs.length := by rw [hz]; split <;> omega
    refine ⟨⟨some a, zs.take len, cap⟩, ?_, fun j hj => ?_, ?_, fun y hy => bounds64 (hwf y (List.mem_of_mem_take hy))⟩
    · rw [hcs]
      unfold Row.v
      simp [Nat.min_eq_left hz']
    · have hj' : j < len := by simp at hj; omega
      have h0 := hcell j (by omega)
      obtain ⟨b, off, spot⟩ := a
      have hspot : spot = none := by
        have h1 := World.cell?_spot (hcell 0 (by omega))
        simpa [Addr.add] using h1
      subst hspot
      rw [add_plain] at h0
      refine ⟨b, off, rfl, World.block_lt_of_cell? w ⟨b, off + j, none⟩ h0, ?_⟩
      rw [h0]
      simp [hj', at0]
    · simp only [List.length_take]
      omega
theorem open_rows {fuel : Nat} {v : Value} {x : DataW H × List MemPlace} (h : DataW.trod enc Try.prog w base spare held fuel 22 [v] = some x) :
    ∃ A c L, v = .slice A (List.length L) c ∧ (A = none → c = 0) ∧ L.length ≤ maxLen ∧ CellsL w A L ∧ ∀ r ∈ L, ReadsV w r.A r.zs ∧ r.zs.length ≤ maxLen ∧ In64 r.zs := by
  have hC : Try.prog.cellsOf 27 = 1 := by kernel_rfl
  rcases open_slice Try.underlying22 h with ⟨h0, _⟩ | ⟨a, len, cap, m, n, D, Pl, hcs, _, hl, hm, hmm, _, hi⟩
  · simp at h0
    exact ⟨none, 0, [], h0, fun _ => rfl, Nat.zero_le _, fun j hj => absurd hj (by simp), fun _ h => by cases h⟩
  · simp at hcs
    have hx : ∀ i, i < len → ∃ r : Row, (∃ b off, some a = some ⟨b, off, none⟩ ∧ b < w.heap.size ∧ w.cell? ⟨b, off + i, none⟩ = some r.v) ∧ ReadsV w r.A r.zs ∧ r.zs.length ≤ maxLen ∧ In64 r.zs := fun i hlt => by
      have him : i < m := by rw [hmm]; split <;> omega
      obtain ⟨cs, hc, htr⟩ := hi i him
      rw [hC] at hc
      obtain ⟨_, hcl, hat⟩ := World.cells?_some hc
      obtain ⟨u, rfl⟩ : ∃ u, cs = [u] := by
        match cs, hcl with
        | [u], _ => exact ⟨u, rfl⟩
      have h1 := hat 0 (by omega)
      obtain ⟨r, rfl, hr⟩ := open_row htr
      simp only [List.getElem?_cons_zero] at h1
      obtain ⟨b, off, spot⟩ := a
      have hspot : spot = none := by
        obtain ⟨cs0, hc0, _⟩ := hi 0 (by rw [hmm]; split <;> omega)
        rw [hC] at hc0
        obtain ⟨_, hcl0, hat0⟩ := World.cells?_some hc0
        have c0 := hat0 0 (by omega)
        rw [List.getElem?_eq_getElem (by omega)] at c0
        have h2 := World.cell?_spot c0
        simpa [Addr.add] using h2
      subst hspot
      rw [add_plain, add_plain, Nat.mul_one, Nat.add_zero] at h1
      exact ⟨r, ⟨b, off, rfl, World.block_lt_of_cell? w ⟨b, off + i, none⟩ h1, h1⟩, hr⟩
    have hx2 : ∀ i, ∃ r : Row, i < len → (∃ b off, some a = some ⟨b, off, none⟩ ∧ b < w.heap.size ∧ w.cell? ⟨b, off + i, none⟩ = some r.v) ∧ ReadsV w r.A r.zs ∧ r.zs.length ≤ maxLen ∧ In64 r.zs := fun i => by
      by_cases hlt : i < len
      · obtain ⟨r, hr⟩ := hx i hlt
        exact ⟨r, fun _ => hr⟩
      · exact ⟨default, fun h => absurd h hlt⟩
    obtain ⟨Z, hZ⟩ := Classical.axiomOfChoice hx2
    have hat : ∀ j, j < len → rA ((List.range len).map Z) j = Z j := fun j hj => by simp [rA, hj]
    refine ⟨some a, cap, (List.range len).map Z, by simp [hcs], (fun h => by cases h), by simp; omega, fun j hj => ?_, fun r hr => ?_⟩
    · have hj' : j < len := by simpa using hj
      rw [hat j hj']
      exact (hZ j hj').1
    · obtain ⟨i, hi, rfl⟩ := List.mem_map.1 hr
      exact (hZ i (List.mem_range.1 hi)).2
/-- what the law knows of a list of rows that comes in -/
structure RowsW (w : World) (A : Option Addr) (L : List Row) (c : Nat) : Prop where
  nz : A = none → c = 0
  len : L.length ≤ maxLen
  cells : CellsL w A L
  rows : ∀ r ∈ L, ReadsV w r.A r.zs ∧ r.zs.length ≤ maxLen ∧ In64 r.zs
theorem open_rowsW {a : Option Addr} {l c : Nat} {d : DataW H} {p : List MemPlace} (h : DataW.Trod enc Try.prog w base spare held 22 (.slice a l c) d p) : ∃ L : List Row, l = L.length ∧ RowsW w a L c := by
  obtain ⟨fuel, hf⟩ := h
  obtain ⟨A, c', L, e, h1, h2, h3, h4⟩ := open_rows (v := .slice a l c) hf
  injection e with e1 e2 e3
  subst e1 e3
  exact ⟨L, e2, h1, h2, h3, h4⟩
end
end Go.Proofs.Ytdfljeonoallfaa
