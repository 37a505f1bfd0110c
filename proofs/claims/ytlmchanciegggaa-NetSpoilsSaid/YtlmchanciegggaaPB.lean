/- What the law on spoiled nets wants of memory: lists of places and transitions that are made by append. -/
import Derived.Test.YtlmchanciegggaaPA
import Derived.Laws.AppendOwnNone
namespace Go.Proofs.Ytlmchanciegggaa
open Go.RowKit

theorem infoPl : (Try.prog.info? 50).map (fun i => (i.zero, i.size, i.bytes)) = some (some (.agg #[.string ⟨#[]⟩, .int .i64 0, .int .i64 0]), 3, 32) := by kernel_rfl
theorem infoTr : (Try.prog.info? 53).map (fun i => (i.zero, i.size, i.bytes)) = some (some (.agg #[.string ⟨#[]⟩, .slice none 0 0, .slice none 0 0, .slice none 0 0, .int .i64 0]), 5, 96) := by kernel_rfl
theorem add_at (b off j : Nat) : (⟨b, off, none⟩ : Addr).add j = ⟨b, off + j, none⟩ := by cases j <;> rfl
theorem one_cellP (ps : List PlaceV) : ∀ u ∈ cellsP ps, u.oneCell' = true := by
  intro u hu
  unfold cellsP at hu
  obtain ⟨p, _, h⟩ := List.mem_flatMap.1 hu
  simp at h
  rcases h with rfl | rfl | rfl <;> simp [Value.oneCell']
theorem one_cellT (ts : List TransV) : ∀ u ∈ cellsT ts, u.oneCell' = true := by
  intro u hu
  unfold cellsT at hu
  obtain ⟨p, _, h⟩ := List.mem_flatMap.1 hu
  simp at h
  rcases h with rfl | rfl | rfl | rfl | rfl <;> simp [Value.oneCell']
theorem newsP {w : World} {b off : Nat} {ps : List PlaceV} (h : ReadsP w (some ⟨b, off, none⟩) ps) : ∀ j u, (cellsP ps)[j]? = some u → w.cell? ((⟨b, off, none⟩ : Addr).add j) = some u := by
  intro j u hu
  have hj : j < ps.length * 3 := by rw [← cellsP_len]; exact (List.getElem?_eq_some_iff.1 hu).1
  rw [add_at]
  obtain ⟨b', off', e, _, d0, d1, d2⟩ := h (j / 3) (by omega)
  obtain ⟨rfl, rfl⟩ : b = b' ∧ off = off' := by injection e with e; injection e with e1 e2; exact ⟨e1, e2⟩
  obtain ⟨c0, c1, c2⟩ := cellsP_at ps (j / 3) (by omega)
  have : j = j / 3 * 3 ∨ j = j / 3 * 3 + 1 ∨ j = j / 3 * 3 + 2 := by omega
  rcases this with e | e | e
  · rw [e] at hu ⊢; rw [← hu, c0]; exact d0
  · rw [e] at hu ⊢; rw [← hu, c1]; exact d1
  · rw [e] at hu ⊢; rw [← hu, c2]; exact d2
theorem newsT {w : World} {b off : Nat} {ts : List TransV} (h : ReadsT w (some ⟨b, off, none⟩) ts) : ∀ j u, (cellsT ts)[j]? = some u → w.cell? ((⟨b, off, none⟩ : Addr).add j) = some u := by
  intro j u hu
  have hj : j < ts.length * 5 := by rw [← cellsT_len]; exact (List.getElem?_eq_some_iff.1 hu).1
  rw [add_at]
  obtain ⟨b', off', e, _, d0, d1, d2, d3, d4, _, _, _⟩ := h (j / 5) (by omega)
  obtain ⟨rfl, rfl⟩ : b = b' ∧ off = off' := by injection e with e; injection e with e1 e2; exact ⟨e1, e2⟩
  obtain ⟨c0, c1, c2, c3, c4⟩ := cellsT_at ts (j / 5) (by omega)
  have : j = j / 5 * 5 ∨ j = j / 5 * 5 + 1 ∨ j = j / 5 * 5 + 2 ∨ j = j / 5 * 5 + 3 ∨ j = j / 5 * 5 + 4 := by omega
  rcases this with e | e | e | e | e
  · rw [e] at hu ⊢; rw [← hu, c0]; exact d0
  · rw [e] at hu ⊢; rw [← hu, c1]; exact d1
  · rw [e] at hu ⊢; rw [← hu, c2]; exact d2
  · rw [e] at hu ⊢; rw [← hu, c3]; exact d3
  · rw [e] at hu ⊢; rw [← hu, c4]; exact d4
theorem readsP_own {w : World} {base n : Nat} {v : Value} {ps : List PlaceV} (h : w.ownsRow base 50 3 v n (cellsP ps)) (hn : 0 < n) : ∃ A c, v = .slice A ps.length c ∧ ps.length ≤ c ∧ ReadsP w A ps := by
  have hl : n = ps.length := by have := h.1; rw [cellsP_len] at this; omega
  subst hl
  rcases h.2 with ⟨_, h0⟩ | ⟨g, cap, cur, rfl, _, hg, hc, _⟩
  · omega
  · refine ⟨_, _, rfl, hc, fun j hj => ?_⟩
    obtain ⟨c0, c1, c2⟩ := cellsP_at ps j hj
    have k0 := (World.ownsRow.cellAt h (j * 3) (by omega)).trans c0
    refine ⟨g, 0, rfl, World.block_lt_of_cell? w ⟨g, j * 3, none⟩ k0, ?_, ?_, ?_⟩
    · rw [Nat.zero_add]; exact k0
    · rw [Nat.zero_add]; exact (World.ownsRow.cellAt h (j * 3 + 1) (by omega)).trans c1
    · rw [Nat.zero_add]; exact (World.ownsRow.cellAt h (j * 3 + 2) (by omega)).trans c2
theorem readsT_own {w : World} {base n : Nat} {v : Value} {ts : List TransV} (h : w.ownsRow base 53 5 v n (cellsT ts)) (hn : 0 < n)
    (hA : ∀ j, j < ts.length → ReadsA w (tA ts j).pre.A (tA ts j).pre.l ∧ ReadsA w (tA ts j).post.A (tA ts j).post.l ∧ ReadsA w (tA ts j).inh.A (tA ts j).inh.l) : ∃ A c, v = .slice A ts.length c ∧ ts.length ≤ c ∧ ReadsT w A ts := by
  have hl : n = ts.length := by have := h.1; rw [cellsT_len] at this; omega
  subst hl
  rcases h.2 with ⟨_, h0⟩ | ⟨g, cap, cur, rfl, _, hg, hc, _⟩
  · omega
  · refine ⟨_, _, rfl, hc, fun j hj => ?_⟩
    obtain ⟨c0, c1, c2, c3, c4⟩ := cellsT_at ts j hj
    obtain ⟨a1, a2, a3⟩ := hA j hj
    have k0 := (World.ownsRow.cellAt h (j * 5) (by omega)).trans c0
    refine ⟨g, 0, rfl, World.block_lt_of_cell? w ⟨g, j * 5, none⟩ k0, ?_, ?_, ?_, ?_, ?_, a1, a2, a3⟩
    · rw [Nat.zero_add]; exact k0
    · rw [Nat.zero_add]; exact (World.ownsRow.cellAt h (j * 5 + 1) (by omega)).trans c1
    · rw [Nat.zero_add]; exact (World.ownsRow.cellAt h (j * 5 + 2) (by omega)).trans c2
    · rw [Nat.zero_add]; exact (World.ownsRow.cellAt h (j * 5 + 3) (by omega)).trans c3
    · rw [Nat.zero_add]; exact (World.ownsRow.cellAt h (j * 5 + 4) (by omega)).trans c4
theorem okP_snoc {ps : List PlaceV} {x : PlaceV} (h : OkP ps) (hl : ps.length < 24) (hx : x.nm.size ≤ maxLen) : OkP (ps ++ [x]) := by
  refine ⟨by simp; omega, fun j => ?_⟩
  by_cases h1 : j < ps.length
  · rw [pA_app h1]; exact h.2 j
  · by_cases h2 : j = ps.length
    · rw [h2, pA_last]; exact hx
    · unfold pA; rw [List.getElem?_eq_none (by simp; omega)]; exact Nat.zero_le _
theorem okT_snoc {ts : List TransV} {s : ByteArray} (h : OkT ts) (hl : ts.length < 24) (hx : s.size ≤ maxLen) : OkT (ts ++ [⟨s, ⟨none, 0, []⟩, ⟨none, 0, []⟩, ⟨none, 0, []⟩, 0⟩]) := by
  refine ⟨by simp; omega, fun j => ?_⟩
  by_cases h1 : j < ts.length
  · rw [tA_app h1]; exact h.2 j
  · by_cases h2 : j = ts.length
    · rw [h2, tA_last]; exact ⟨hx, Nat.zero_le _, Nat.zero_le _, Nat.zero_le _⟩
    · unfold tA; rw [List.getElem?_eq_none (by simp; omega)]; exact ⟨Nat.zero_le _, Nat.zero_le _, Nat.zero_le _, Nat.zero_le _⟩
theorem arcs_snoc {w : World} {A : Option Addr} {ts : List TransV} {s : ByteArray} (h : ReadsT w A ts) : ∀ j, j < (ts ++ [(⟨s, ⟨none, 0, []⟩, ⟨none, 0, []⟩, ⟨none, 0, []⟩, 0⟩ : TransV)]).length →
    ReadsA w (tA (ts ++ [⟨s, ⟨none, 0, []⟩, ⟨none, 0, []⟩, ⟨none, 0, []⟩, 0⟩]) j).pre.A (tA (ts ++ [⟨s, ⟨none, 0, []⟩, ⟨none, 0, []⟩, ⟨none, 0, []⟩, 0⟩]) j).pre.l ∧
    ReadsA w (tA (ts ++ [⟨s, ⟨none, 0, []⟩, ⟨none, 0, []⟩, ⟨none, 0, []⟩, 0⟩]) j).post.A (tA (ts ++ [⟨s, ⟨none, 0, []⟩, ⟨none, 0, []⟩, ⟨none, 0, []⟩, 0⟩]) j).post.l ∧
    ReadsA w (tA (ts ++ [⟨s, ⟨none, 0, []⟩, ⟨none, 0, []⟩, ⟨none, 0, []⟩, 0⟩]) j).inh.A (tA (ts ++ [⟨s, ⟨none, 0, []⟩, ⟨none, 0, []⟩, ⟨none, 0, []⟩, 0⟩]) j).inh.l := fun j hj => by
  by_cases h1 : j < ts.length
  · rw [tA_app h1]
    obtain ⟨_, _, _, _, _, _, _, _, _, a1, a2, a3⟩ := h j h1
    exact ⟨a1, a2, a3⟩
  · have h2 : j = ts.length := by simp at hj; omega
    rw [h2, tA_last]
    exact ⟨fun i hi => absurd hi (by simp), fun i hi => absurd hi (by simp), fun i hi => absurd hi (by simp)⟩
theorem cell3_new (w : World) (x y z : Value) (t : TypeId) : ∀ j u, [x, y, z][j]? = some u → (w.alloc (.cells #[x, y, z] t)).cell? ((⟨w.heap.size, 0, none⟩ : Addr).add j) = some u := by
  intro j u hu
  rw [add_at]
  match j, hu with
  | 0, hu => simp at hu ⊢; exact hu
  | 1, hu => simp at hu ⊢; exact hu
  | 2, hu => simp at hu ⊢; exact hu
  | j + 3, hu => simp at hu
theorem cell5_new (w : World) (x y z p q : Value) (t : TypeId) : ∀ j u, [x, y, z, p, q][j]? = some u → (w.alloc (.cells #[x, y, z, p, q] t)).cell? ((⟨w.heap.size, 0, none⟩ : Addr).add j) = some u := by
  intro j u hu
  rw [add_at]
  match j, hu with
  | 0, hu => simp at hu ⊢; exact hu
  | 1, hu => simp at hu ⊢; exact hu
  | 2, hu => simp at hu ⊢; exact hu
  | 3, hu => simp at hu ⊢; exact hu
  | 4, hu => simp at hu ⊢; exact hu
  | j + 5, hu => simp at hu
theorem faultEql (a b c d : Int) (w : World) : (binOp .eql 31 (.agg #[.int .i64 a, .int .i64 b]) (.agg #[.int .i64 c, .int .i64 d])).run Try.prog w = .ok (.bool (a == c && b == d)) w := by
  have hS : Try.prog.underlying 31 = some (.struct (Try.prog.fieldsOf 31)) := by kernel_rfl
  have hp : Try.prog.stoodInHeld 31 = false := by kernel_rfl
  rw [run_eql_struct, show (10000 : Nat) = 9999 + 1 from rfl, run_equalIn_agg w 9999 31 _ _ hS hp]
  simp only [Program.fieldsOf, Try.underlying31]
  go_simp
  by_cases h1 : a = c <;> by_cases h2 : b = d <;> simp [h1, h2]
end Go.Proofs.Ytlmchanciegggaa
