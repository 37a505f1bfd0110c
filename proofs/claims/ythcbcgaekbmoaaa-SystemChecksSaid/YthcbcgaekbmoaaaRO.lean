/- A transition system that comes in, opened. -/
import Derived.Test.YthcbcgaekbmoaaaRL
import Derived.Lib.SmallJoins
import Derived.OpenShut
import Derived.Deep.Slices
import Derived.Deep.Fields
import Derived.Deep.Strs
namespace Go.Proofs.Ythcbcgaekbmoaaa
open Go.RowKit Go.ChangeShapes Go.WideShapes Go.Deep

section
variable {H : Type} {enc : TypeId × Value → H} {P : Program} {w : World} {base : Nat} {spare : Nat → Bool} {held : Bool}
/-- element by element: each field's cell and reading -/
theorem elems_of {t e : TypeId} {fs : Array Field} {fuel : Nat} {v : Value} {x : DataW H × List MemPlace} (ht : P.underlying t = some (.slice e)) (he : P.underlying e = some (.struct fs)) (hone : oneCellFields P fs = true) (hC : P.cellsOf e = fs.size) (hpos : 0 < fs.size)
    (h : DataW.trod enc P w base spare held fuel t [v] = some x) :
    ∃ (A : Option Addr) (len cap : Nat), v = .slice A len cap ∧ len ≤ cap ∧ cap ≤ maxLen ∧
      ∀ i, i < len → ∃ b off, A = some ⟨b, off, none⟩ ∧ b < w.heap.size ∧ ∀ (j : Nat) (f : Field), fs[j]? = some f → ∃ (u : Value) (y : DataW H × List MemPlace) (n : Nat), w.cell? ⟨b, off + (i * fs.size + j), none⟩ = some u ∧ DataW.trod enc P w base spare held n f.type [u] = some y := by
  rcases open_slice ht h with ⟨h0, _⟩ | ⟨a, len, cap, m, n, D, Pl, hcs, _, hl, hm, hmm, _, hi⟩
  · simp at h0
    exact ⟨none, 0, 0, h0, Nat.le_refl _, Nat.zero_le _, fun i hi => absurd hi (by omega)⟩
  · simp at hcs
    refine ⟨some a, len, cap, hcs, hl, hm, fun i hlt => ?_⟩
    have him : i < m := by rw [hmm]; split <;> omega
    obtain ⟨cs, hc, htr⟩ := hi i him
    rw [hC] at hc
    obtain ⟨_, hcl, hat⟩ := World.cells?_some hc
    obtain ⟨ys, n', _, _, _, hyl, hf⟩ := DataW.trod_struct he htr
    obtain ⟨b, off, spot⟩ := a
    have hspot : spot = none := by
      obtain ⟨cs0, hc0, _⟩ := hi 0 (by rw [hmm]; split <;> omega)
      rw [hC] at hc0
      obtain ⟨_, hcl0, hat0⟩ := World.cells?_some hc0
      have c0 := hat0 0 hpos
      rw [List.getElem?_eq_getElem (by omega)] at c0
      have h1 := World.cell?_spot c0
      simpa [Addr.add] using h1
    subst hspot
    have hat2 : ∀ j, j < fs.size → w.cell? ⟨b, off + (i * fs.size + j), none⟩ = cs[j]? := fun j hj => by
      have h1 := hat j hj
      rw [add_plain, add_plain, Nat.add_assoc] at h1
      exact h1
    refine ⟨b, off, rfl, ?_, fun j f hj => ?_⟩
    · have h1 := hat2 0 hpos
      rw [List.getElem?_eq_getElem (by omega)] at h1
      exact World.block_lt_of_cell? w _ h1
    · obtain ⟨ho, hk⟩ := hone_of hone j f hj
      have hjl : j < fs.size := (Array.getElem?_eq_some_iff.1 hj).1
      have h1 := hf j f hj
      rw [ho, hk, List.drop_eq_getElem_cons (by omega)] at h1
      have h2 : DataW.trod enc P w base spare held n' f.type [cs[j]'(by omega)] = ys[j]? := h1
      rw [List.getElem?_eq_getElem (by omega)] at h2
      exact ⟨_, _, _, (hat2 j hjl).trans (List.getElem?_eq_getElem (by omega)), h2⟩
end
section
variable {H : Type} {enc : TypeId × Value → H} {w : World} {base : Nat} {spare : Nat → Bool} {held : Bool}
theorem open_edges {fuel : Nat} {v : Value} {x : DataW H × List MemPlace} (h : DataW.trod enc Try.prog w base spare held fuel 23 [v] = some x) :
    ∃ A c l, v = .slice A (List.length l) c ∧ l.length ≤ maxLen ∧ ReadsE w A l := by
  obtain ⟨A, len, cap, hv, h1, h2, hi⟩ := elems_of Try.underlying23 Try.underlying43 (by kernel_rfl) (by kernel_rfl) (by decide) h
  have hx : ∀ i, i < len → ∃ z : EdgeV, ∃ b off, A = some ⟨b, off, none⟩ ∧ b < w.heap.size ∧ w.cell? ⟨b, off + i * 3, none⟩ = some (.int .i64 z.f) ∧ w.cell? ⟨b, off + i * 3 + 1, none⟩ = some (.int .i64 z.t) ∧ w.cell? ⟨b, off + i * 3 + 2, none⟩ = some (.int .i64 z.o) := fun i hl => by
    obtain ⟨b, off, e, hb, hf⟩ := hi i hl
    obtain ⟨u0, y0, n0, c0, t0⟩ := hf 0 _ rfl
    obtain ⟨u1, y1, n1, c1, t1⟩ := hf 1 _ rfl
    obtain ⟨u2, y2, n2, c2, t2⟩ := hf 2 _ rfl
    obtain ⟨z0, e0, _, _⟩ := DataW.trod_int Try.underlying3 t0
    obtain ⟨z1, e1, _, _⟩ := DataW.trod_int Try.underlying3 t1
    obtain ⟨z2, e2, _, _⟩ := DataW.trod_int Try.underlying3 t2
    simp at e0 e1 e2
    subst e0 e1 e2
    exact ⟨⟨z0, z1, z2⟩, b, off, e, hb, c0, c1, c2⟩
  obtain ⟨Z, hZ⟩ := choose_lt hx
  refine ⟨A, cap, (List.range len).map Z, by simp [hv], by simp; omega, fun j hj => ?_⟩
  have hj' : j < len := by simpa using hj
  have hat : eA ((List.range len).map Z) j = Z j := by simp [eA, hj']
  rw [hat]
  exact hZ j hj'
theorem open_texts {fuel : Nat} {v : Value} {x : DataW H × List MemPlace} (h : DataW.trod enc Try.prog w base spare held fuel 22 [v] = some x) :
    ∃ A n c f, v = .slice A n c ∧ n ≤ maxLen ∧ n ≤ c ∧ RdS w A n f ∧ ∀ j, j < n → (f j).size ≤ maxLen := by
  rcases open_strs Try.underlying22 Try.underlying9 (by kernel_rfl) h with ⟨hcs, _⟩ | ⟨a, len, cap, m, Sx, hcs, _, hl, hm, hmm, _, hcell⟩
  · simp at hcs
    exact ⟨none, 0, 0, fun _ => ByteArray.empty, hcs, Nat.zero_le _, Nat.zero_le _, fun j hj => absurd hj (by omega), fun j hj => absurd hj (by omega)⟩
  · simp at hcs
    refine ⟨some a, len, cap, Sx, hcs, by omega, hl, fun j hj => ?_, fun j hj => (hcell j (by rw [hmm]; split <;> omega)).2⟩
    have h0 := (hcell j (by rw [hmm]; split <;> omega)).1
    obtain ⟨b, off, spot⟩ := a
    have hspot : spot = none := by
      have h1 := World.cell?_spot ((hcell 0 (by rw [hmm]; split <;> omega)).1)
      simpa [Addr.add] using h1
    subst hspot
    rw [add_plain] at h0
    exact ⟨b, off, rfl, World.block_lt_of_cell? w ⟨b, off + j, none⟩ h0, h0⟩
set_option maxRecDepth 100000 in
theorem open_sys {r : Reach} {b0 : Nat} {v : Value} {d : DataW H} {p : List MemPlace} (hv : Value.okWide Try.prog w r b0 25 v) (h : DataW.Trod enc Try.prog w base spare held 25 v d p) :
    ∃ s : SysV, v = .agg #[.int .i64 s.st, .slice s.EA s.el s.ec, .slice s.AA s.ar.length s.ac] ∧ SysW w s ∧ (Lit.int .i64 s.st).wf = true := by
  obtain ⟨v0, v1, v2, y0, y1, y2, n, rfl, _, _, t0, t1, t2⟩ := Joins.open_agg3 Try.underlying25 (by kernel_rfl) (by kernel_rfl) hv h
  obtain ⟨z0, e0, _, hz⟩ := DataW.trod_int Try.underlying3 t0
  obtain ⟨A, k, c, f, rfl, h1, hc, h2, h3⟩ := open_texts t1
  obtain ⟨B, c2, l, rfl, k1, k2⟩ := open_edges t2
  simp at e0
  subst e0
  exact ⟨⟨z0, A, k, f, c, B, l, c2⟩, rfl, ⟨h1, hc, k1, h3, h2, k2⟩, hz⟩
end
end Go.Proofs.Ythcbcgaekbmoaaa
