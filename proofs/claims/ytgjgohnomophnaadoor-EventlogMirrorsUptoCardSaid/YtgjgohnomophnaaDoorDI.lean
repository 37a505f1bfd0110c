/- Event logs: the program's sorted lists of different activities. -/
import Derived.Test.YtgjgohnomophnaaDoorSD
namespace Go.Proofs.YtgjgohnomophnaaDoor
open Go.RowKit Go.Maps Go.WideMaps

abbrev OwnSet (w : World) (b : Nat) (acc : List Txt) : Prop := w.ownsMap Tryd.prog 9 (plainElem (H := Unit) Tryd.prog 4) b acc.length (setT acc)
theorem OwnSet.keys {w : World} {b : Nat} {acc : List Txt} (h : OwnSet w b acc) : ∃ es, setT (H := Unit) acc = .map es ∧ ∀ p ∈ es, ∃ x, p.1 = Lit.string x := by
  obtain ⟨es, h1, h2⟩ := World.ownsMap.keysOf h
  refine ⟨es, h1, fun p hp => ?_⟩
  obtain ⟨v, hv⟩ := h2 p hp
  obtain ⟨x, _, hx, _⟩ := Maps.keyOf_str Tryd.underlying9 hv
  exact ⟨x, hx⟩
theorem OwnSet.put {w' : World} {b : Nat} {acc : List Txt} {x : Txt} (h : w'.ownsMap Tryd.prog 9 (plainElem (H := Unit) Tryd.prog 4) b (acc.length + 1) ((setT acc).put (.string x) (.lit (.bool true)))) : OwnSet w' b (acc ++ [x]) := by
  unfold OwnSet
  rw [setT_snoc, List.length_append, List.length_singleton]
  exact h
theorem OwnSet.step {w0 w w' : World} {b : Nat} {acc : List Txt} {x : Txt} (h : w'.ownsMap Tryd.prog 9 (plainElem (H := Unit) Tryd.prog 4) b (acc.length + 1) ((setT acc).put (.string x) (.lit (.bool true)))) (hg : w.grownBy w' (some b)) (hs : b ≤ w.heap.size) (hb : Below b w0 w) : OwnSet w' b (acc ++ [x]) ∧ Below b w0 w' :=
  ⟨OwnSet.put h, hb.trans (below_grown hg hs fun q e => by cases e; exact Nat.le_refl _)⟩
theorem keys_any (b : Nat) (w : World) : Calls Tryd.prog 62 #[.map (some b)] w fun e w' => e = .returned (.func (.func 71) #[] #[.pointer (some ⟨w.heap.size, 0, none⟩)]) ∧ w' = w.alloc (.cells #[.map (some b)] 79) :=
  callsIn_wide.1 (Tryd.maps_Keys_62 (some b) w)
theorem sorted_any (b : Nat) (acc : List Txt) (w : World) (O : OwnSet w b acc) (hn : acc.length ≤ 8000000000000) :
    Calls Tryd.prog 61 #[.func (.func 71) #[] #[.pointer (some ⟨w.heap.size, 0, none⟩)]] (w.alloc (.cells #[.map (some b)] 79)) fun e w' =>
      ∃ A c, e = .returned (.slice A (insAll acc).length c) ∧ ReadsS w' A (insAll acc) ∧ Below w.heap.size w w' := by
  have hz := size_setT (H := Unit) acc
  have h := callsIn_wide.1 (Tryd.slices_Sorted_keys_61_62 b acc.length (setT (H := Unit) acc) (plainElem (H := Unit) Tryd.prog 4) w O (by unfold maxLen; omega) (by omega))
  refine h.mono ?_
  rintro e w' ⟨v, ss, rfl, hp, hrow, -, hb⟩
  have e1 := sorted_set (OwnSet.keys O) hp
  have e2 : ss.length = (insAll acc).length := by rw [← e1]; exact (List.length_mergeSort ss).symm
  rw [e1, e2] at hrow
  obtain ⟨A, c, rfl, hR⟩ := ReadsS.own (L := insAll acc) hrow
  refine ⟨A, c, rfl, hR, ?_⟩
  exact ((Below.refl w.heap.size w).alloc (Nat.le_refl _) _).trans (hb.mono (by rw [World.size_alloc]; omega))
/-- a log in memory, of any size -/
structure LogR (w : World) (A : Option Addr) (L : List Row) : Prop where
  cells : CellsL w A L
  len : L.length ≤ 9223372036854775807
  rows : ∀ j, j < L.length → ReadsS w (rA L j).A (rA L j).zs
  lens : ∀ j, j < L.length → (rA L j).zs.length ≤ 9223372036854775807 ∧ (rA L j).zs.length ≤ (rA L j).cap
  txts : ∀ j i, j < L.length → (atS (rA L j).zs i).length ≤ maxLen
  tot : totL (rowsL L) L.length ≤ 8000000000000
theorem txt_lit {x : Txt} (h : x.length ≤ maxLen) : keyOf Tryd.prog 9 (.string ⟨x.toArray⟩) = some (.string x) := by
  have := keyOf_string_mk (P := Tryd.prog) Tryd.underlying9 (s := ⟨x.toArray⟩) (by rw [bytes_size]; exact h)
  rw [this]
/-- the part of a trace that is collected -/
def PartP (f : Nat) (part : List Txt → List Txt) : Prop := ∀ (B : Option Addr) (zs : List Txt) (cb : Nat) (W : World), zs ≠ [] → zs.length ≤ 9223372036854775807 → zs.length ≤ cb → ReadsS W B zs →
  Calls Tryd.prog f #[.slice B zs.length cb] W fun e w' => (∃ B' c', e = .returned (.slice B' (part zs).length c') ∧ ∀ W', ReadsS W' B zs → ReadsS W' B' (part zs)) ∧ W = w'
end Go.Proofs.YtgjgohnomophnaaDoor
