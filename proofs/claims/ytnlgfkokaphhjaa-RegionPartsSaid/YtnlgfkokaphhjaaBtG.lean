/- The contract of Minimal. -/
import Derived.Test.YtnlgfkokaphhjaaBtN
namespace Go.Proofs.Ytnlgfkokaphhjaa.Bt
open Go.RowKit Go.Shelf Go.Sort

/-! ### behind the sort -/
theorem below_sortWorld {B : Nat} {w0 w : World} {g n : Nat} {d : Array U64} {os : Array Obj} (h : Below B w0 w) (hg : B ≤ g) (hs : B ≤ w.heap.size) : Below B w0 (sortWorld eU w g 0 n d os) := by
  have h1 := Lib.below_putRow (enc := eU) (q := n) (d := d) h hg
  refine ⟨h1.os, h1.tape, h1.output, ?_, fun k hk => ?_⟩
  · exact Nat.le_trans h1.size (by unfold sortWorld; simp)
  · unfold sortWorld
    rw [heap_grow_old _ _ (by rw [Sort.size_putRow]; exact Nat.lt_of_lt_of_le hk hs)]
    exact h1.block k hk
theorem reads_holds {w : World} {g n : Nat} {d : Array U64} (hn : n ≤ d.size) (h : Holds eU w g 0 d) : Reads w (some ⟨g, 0, none⟩) (vV (d.toList.take n)) := fun j v hj => by
  have hjl : j < n := by
    have := (List.getElem?_eq_some_iff.1 hj).1
    rw [vV_len, List.length_take] at this
    omega
  have hjd : j < d.size := by omega
  have hc := (h j hjd).1
  refine ⟨g, 0, rfl, ?_, ?_⟩
  · exact World.block_lt_of_cell? w ⟨g, 0 + j, none⟩ hc
  · rw [hc]
    unfold vV at hj
    rw [List.getElem?_map, List.getElem?_take, if_pos hjl, Array.getElem?_toList, Array.getElem?_eq_getElem hjd] at hj
    simp only [Option.map_some, Option.some.injEq] at hj
    rw [← hj]
    simp [hjd]
theorem eqlU : EqlAt Try.prog 26 eU (fun x y => decide (x = y)) := by
  refine ⟨fun x y w => ?_, fun op a b x y w => GuardAt.int Try.prog 26 .u64 op a b _ _ w⟩
  have h := (EqlAt.int Try.prog 26 .u64).1 ((x.1 : Nat) : Int) ((y.1 : Nat) : Int) w
  have e : (((x.1 : Nat) : Int) == ((y.1 : Nat) : Int)) = decide (x = y) := by
    rw [Bool.eq_iff_iff, beq_iff_eq, decide_eq_true_iff]
    exact ⟨fun h => U64.ext (by omega), fun h => by rw [h]⟩
  dsimp only at h ⊢
  rw [e] at h
  exact h
theorem neqU : NeqAt Try.prog 26 eU (fun x y => decide (x = y)) := by
  refine ⟨fun x y w => ?_, fun op a b x y w => GuardAt.int Try.prog 26 .u64 op a b _ _ w⟩
  have h := (NeqAt.int Try.prog 26 .u64).1 ((x.1 : Nat) : Int) ((y.1 : Nat) : Int) w
  have e : (((x.1 : Nat) : Int) == ((y.1 : Nat) : Int)) = decide (x = y) := by
    rw [Bool.eq_iff_iff, beq_iff_eq, decide_eq_true_iff]
    exact ⟨fun h => U64.ext (by omega), fun h => by rw [h]⟩
  dsimp only at h ⊢
  rw [e] at h
  exact h
theorem oneU : OneCell eU := fun _ => rfl
theorem zeroU : ∀ w, (zeroValue 26).run Try.prog w = .ok (eU default) w := Try.zeroValue26

/-- the sort and the compaction together, of a slice that holds l -/
theorem sort_any (g cap : Nat) (l : List U64) (w : World) (hl : l.length ≤ 4611686018427387903) (hg : g < w.heap.size) (hH : Holds eU w g 0 l.toArray) :
    Calls Try.prog 54 #[.slice (some ⟨g, 0, none⟩) l.length cap, .func (.func 55) #[] #[]] w fun e w' =>
      e = .returned (.tuple #[]) ∧ Holds eU w' g 0 (sortU l).toArray ∧ w.heap.size ≤ w'.heap.size ∧ ∀ B w0, Below B w0 w → B ≤ g → B ≤ w.heap.size → Below B w0 w' := by
  have eg : ∀ args w, (callFunc 55 args).run Try.prog w = .ok (.enter 55 args) w := enters_of Try.func55 (by kernel_rfl) rfl
  have h := Try.slices_SortFunc_total eU oneU cfU swoU 55 #[] g 0 cap l.toArray w eg (fun m os dk _ x y => cmp_closure x y _) hH hg (by simp; omega) totU
  have e1 : l.toArray.size = l.length := by simp
  rw [e1] at h
  refine h.mono ?_
  rintro e w' ⟨he, n, os, rfl⟩
  have hs : (sortU l).toArray.size = l.toArray.size := by simp [len_sortU]
  refine ⟨he, ?_, ?_, fun B w0 hb hB hB2 => below_sortWorld hb hB hB2⟩
  · have h1 := holds_putRow eU (Sort.ahead w n) g 0 l.toArray (sortU l).toArray (holds_ahead eU w n g 0 _ hH) hs
    exact holds_grow eU _ os g 0 _ (by rw [Sort.size_putRow]; exact hg) h1
  · unfold sortWorld; simp
theorem compact_any (g cap : Nat) (l : List U64) (w : World) (hl : l.length ≤ 4611686018427387903) (hcap : l.length ≤ cap) (hH : Holds eU w g 0 (sortU l).toArray) :
    Calls Try.prog 60 #[.slice (some ⟨g, 0, none⟩) l.length cap] w fun e w' =>
      e = .returned (.slice (some ⟨g, 0, none⟩) (dedU l).length cap) ∧ Reads w' (some ⟨g, 0, none⟩) (vV (dedU l)) ∧ w.heap.size ≤ w'.heap.size ∧ ∀ B w0, Below B w0 w → B ≤ g → Below B w0 w' := by
  have hs : (sortU l).toArray.size = l.length := by simp [len_sortU]
  have h := Try.slices_Compact eU oneU eqlU neqU default zeroU g 0 cap (sortU l).toArray w hH (by omega) (by omega)
  rw [hs] at h
  have hd : Lib.compactUpTo (sortU l).toArray l.length = dedU l := by unfold dedU; rw [hs]
  rw [hd] at h
  refine h.mono ?_
  rintro e w' ⟨he, q, rfl⟩
  have hlen := (dedU_spec l).2.2
  generalize hE : (dedU l ++ List.replicate (l.length - (dedU l).length) default) = E
  have hEl : E.toArray.size = (sortU l).toArray.size := by rw [← hE, hs]; simp; omega
  have h1 := holds_putRow eU (Sort.ahead w q) g 0 (sortU l).toArray E.toArray (holds_ahead eU w q g 0 _ hH) hEl
  have h2 := reads_holds (n := (dedU l).length) (by rw [hEl, hs]; exact hlen) h1
  have e3 : E.toArray.toList.take (dedU l).length = dedU l := by rw [← hE]; simp
  rw [e3] at h2
  exact ⟨he, h2, by rw [Sort.size_putRow]; exact Nat.le_refl _, fun B w0 hb hB => Lib.below_putRow (q := q) hb hB⟩
theorem contains_any (A : Option Addr) (c : Nat) (K : List U64) (s : U64) (B : Nat) (w : World) (hK : K.length ≤ 9223372036854775807) (hR : Reads w A (vV K)) (hB : B < w.heap.size) (hc : w.cell? ⟨B, 0, none⟩ = some (.int .u64 ((s.1 : Nat) : Int))) :
    Calls Try.prog 61 #[.slice A K.length c, .func (.func 62) #[] #[.pointer (some ⟨B, 0, none⟩)]] w fun e w' => e = .returned (.bool (K.any fun m => subV m.1 s.1)) ∧ ∃ q, w' = w.drewN q := by
  have eg : ∀ args w, (callFunc 62 args).run Try.prog w = .ok (.enter 62 args) w := enters_of Try.func62 (by kernel_rfl) rfl
  cases K with
  | nil =>
    refine (Try.slices_ContainsFunc_empty (α := U64) A c _ w).mono ?_
    rintro e w' ⟨rfl, rfl⟩
    exact ⟨rfl, 0, rfl⟩
  | cons x K =>
    obtain ⟨b, off, rfl, _, _⟩ := hR 0 _ rfl
    have h := Try.slices_ContainsFunc eU (fun m => subV m.1 s.1) 62 _ eg b off (x :: K).length c (x :: K) w (test_closure s.1 s.2 B w hB hc) (Nat.le_refl _) hK (fun j hj => by
      obtain ⟨b', off', e, _, h2⟩ := hR j _ (vV_at (List.getElem?_eq_getElem hj))
      cases e
      rw [h2]
      rw [getElem!_pos _ j hj]
      rfl)
    rw [List.take_length] at h
    exact h
end Go.Proofs.Ytnlgfkokaphhjaa.Bt
