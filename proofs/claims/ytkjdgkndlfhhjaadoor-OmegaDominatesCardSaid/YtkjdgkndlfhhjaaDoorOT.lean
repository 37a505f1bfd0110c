/- Contracts: the sort of rows, their reversal, the maximal ones of the program. -/
import Derived.Test.YtkjdgkndlfhhjaaDoorOS
import Derived.WalkMore
namespace Go.Proofs.YtkjdgkndlfhhjaaDoor
open Go.RowKit Go.Shelf Go.Sort

/-! the sort -/
abbrev RowIn (w0 : World) (n : Nat) : Type := {r : Row // OkR w0 r ∧ valW r.zs = true ∧ r.zs.length = n}
def encR (w0 : World) (n : Nat) (x : RowIn w0 n) : Value := x.1.v
def cfR (w0 : World) (n : Nat) (x y : RowIn w0 n) : Int := cmpL (keyW x.1.zs) (keyW y.1.zs)
theorem oneR (w0 : World) (n : Nat) : OneCell (encR w0 n) := fun _ => rfl
theorem lt_yes {w0 : World} {n : Nat} {x y : RowIn w0 n} : ltOf (cfR w0 n) x y = true ↔ cmpL (keyW x.1.zs) (keyW y.1.zs) < 0 := by unfold ltOf cfR; exact decide_eq_true_iff
theorem lt_no {w0 : World} {n : Nat} {x y : RowIn w0 n} : ltOf (cfR w0 n) x y = false ↔ ¬ cmpL (keyW x.1.zs) (keyW y.1.zs) < 0 := by unfold ltOf cfR; exact decide_eq_false_iff_not
theorem swoR (w0 : World) (n : Nat) : SWO (ltOf (cfR w0 n)) := by
  refine ⟨fun x => ?_, fun x y z h g => ?_, fun x y z h g => ?_⟩
  · rw [lt_no, cmpL_refl]
    omega
  · rw [lt_yes] at *
    exact cmpL_lt_trans h g
  · rw [lt_no] at *
    have h1 := cmpL_neg (keyW x.1.zs) (keyW y.1.zs)
    have h2 := cmpL_neg (keyW y.1.zs) (keyW z.1.zs)
    have h3 := cmpL_neg (keyW x.1.zs) (keyW z.1.zs)
    have h4 := cmpL_trans (keyW z.1.zs) (keyW y.1.zs) (keyW x.1.zs) (by omega) (by omega)
    omega
theorem below_sortR {w0 : World} {n : Nat} [Inhabited (RowIn w0 n)] {B : Nat} {w : World} {g nn : Nat} {d : Array (RowIn w0 n)} {os : Array Obj} {wa : World} (h : Below B wa w) (hg : B ≤ g) (hs : B ≤ w.heap.size) : Below B wa (sortWorld (encR w0 n) w g 0 nn d os) := by
  have h1 := Lib.below_putRow (enc := encR w0 n) (q := nn) (d := d) h hg
  refine ⟨h1.os, h1.tape, h1.output, ?_, fun k hk => ?_⟩
  · exact Nat.le_trans h1.size (by unfold sortWorld; simp)
  · unfold sortWorld
    rw [heap_grow_old _ _ (by rw [Sort.size_putRow]; exact Nat.lt_of_lt_of_le hk hs)]
    exact h1.block k hk
theorem drew0 (w : World) : w = w.drewN 0 := rfl
set_option maxHeartbeats 1000000 in
theorem cmp_reads {w0 w : World} {n : Nat} [Inhabited (RowIn w0 n)] (hb : RowKit.Below w0.heap.size w0 w) {g : Nat} (hg : w0.heap.size ≤ g) (sz : Nat) : CmpReads Tryd.prog 17 #[] (encR w0 n) (cfR w0 n) g 0 sz w := by
  intro m os dk _ x y
  have hB : RowKit.Below w0.heap.size w0 (sortWorld (encR w0 n) w g 0 m dk os) := below_sortR (w0 := w0) (n := n) hb hg hb.size
  have h := clos_law x.1.A y.1.A x.1.zs y.1.zs x.1.cap y.1.cap (sortWorld (encR w0 n) w g 0 m dk os) (x.2.1.1.below hB (Nat.le_refl _)) (y.2.1.1.below hB (Nat.le_refl _)) (by rw [x.2.2.2, y.2.2.2]) x.2.1.2 x.2.2.1 y.2.2.1
  exact h.mono fun e w' ⟨h1, h2⟩ => ⟨h1, 0, h2.trans (drew0 _)⟩
theorem perm_of {α : Type} [Inhabited α] {d d' : Array α} (h : PermIn 0 d.size d d') : d'.toList.Perm d.toList := by
  obtain ⟨h1, _, h3⟩ := h
  rw [Array.extract_eq_self_of_le (by omega), Array.extract_eq_self_of_le (by omega)] at h3
  exact h3
theorem sorted_of {w0 : World} {n : Nat} [Inhabited (RowIn w0 n)] {d : Array (RowIn w0 n)} {sz : Nat} (hn : d.size = sz) (h : SortedIn (ltOf (cfR w0 n)) 0 sz d) : Wk (d.toList.map fun x => keyW x.1.zs) := by
  unfold Wk
  rw [List.pairwise_map, List.pairwise_iff_getElem]
  intro i j hi hj hij
  have hi' : i < d.size := by simpa using hi
  have hj' : j < d.size := by simpa using hj
  have := h i j (Nat.zero_le _) hij (by omega)
  rw [getElem!_pos d j hj', getElem!_pos d i hi'] at this
  rw [lt_no] at this
  have h1 := cmpL_neg (keyW (d[i]).1.zs) (keyW (d[j]).1.zs)
  simp only [Array.getElem_toList]
  omega
theorem sort_any (v : Value) (M : List Row) (s n : Nat) (w0 w : World) (hO : OwnL w s v M) (hold : ∀ r ∈ M, OkR w0 r ∧ valW r.zs = true ∧ r.zs.length = n) (hb : Below w0.heap.size w0 w) (hs : w0.heap.size ≤ s) (hsw : s ≤ w.heap.size) (hl : M.length ≤ 1000) :
    Calls Tryd.prog 16 #[v, .func (.func 17) #[] #[]] w fun e w' => e = .returned (.tuple #[]) ∧ ∃ M', OwnL w' s v M' ∧ M'.length = M.length ∧ (rowsL M').Perm (rowsL M) ∧ Wk (keys (rowsL M')) ∧ Below s w w' := by
  by_cases hM : M = []
  · subst hM
    obtain ⟨A, c, rfl, _⟩ := hO.reads
    refine (Tryd.slices_SortFunc_none (α := Unit) A c _ w).mono ?_
    rintro e w' ⟨rfl, rfl⟩
    exact ⟨rfl, [], hO, rfl, List.Perm.refl _, List.Pairwise.nil, Below.refl _ _⟩
  · have hv : v ≠ .slice none 0 0 := by
      rintro rfl
      rcases hO.1.2 with ⟨_, h0⟩ | ⟨_, _, _, h0, _⟩
      · exact hM (List.eq_nil_of_length_eq_zero (by omega))
      · cases h0
    haveI : Inhabited (RowIn w0 n) := by
      cases M with
      | nil => exact absurd rfl hM
      | cons r t => exact ⟨⟨r, hold r (by simp)⟩⟩
    obtain ⟨zs, hzs⟩ : ∃ zs : List (RowIn w0 n), zs.map (fun x => x.1) = M := ⟨M.pmap Subtype.mk hold, by rw [List.map_pmap]; simp⟩
    have hmap : zs.map (encR w0 n) = M.map Row.v := by rw [← hzs, List.map_map]; rfl
    have ho := hO.1
    rw [← hmap] at ho
    obtain ⟨g, cap, rfl, hg1, hg2, hn1, hn2, hlen, hH⟩ := Lib.holds_of_ownsRow ho hv
    have hsz : zs.toArray.size = M.length := by simpa using hlen
    have eg : ∀ args w, (callFunc 17 args).run Tryd.prog w = .ok (.enter 17 args) w := enters_of Tryd.func17 (by kernel_rfl) rfl
    have h := Tryd.slices_SortFunc (encR w0 n) (oneR w0 n) (cfR w0 n) (swoR w0 n) 17 #[] g 0 cap zs.toArray w eg (cmp_reads hb (Nat.le_trans hs hg1) _).lays hH hg2 (by omega)
    rw [hsz] at h
    refine h.mono ?_
    rintro e w' ⟨he, d', q, os, hp, hsd, rfl⟩
    have hd : d'.size = M.length := by rw [hp.1, hsz]
    have hB : RowKit.Below s w (sortWorld (encR w0 n) w g 0 q d' os) := below_sortR (w0 := w0) (n := n) (Below.refl _ _) hg1 hsw
    have hB0 : RowKit.Below w0.heap.size w0 (sortWorld (encR w0 n) w g 0 q d' os) := below_sortR (w0 := w0) (n := n) hb (Nat.le_trans hs hg1) hb.size
    have hper := perm_of (d := zs.toArray) (by first | exact hp | (rw [hsz]; exact hp))
    refine ⟨he, d'.toList.map (fun x => x.1), ⟨?_, fun r hr => ?_⟩, by simpa using hd, ?_, ?_, hB⟩
    · have h1 := Lib.ownsRow_putRow (q := q) (k := M.length) (ys := d'.toList) ho (by simpa using hd) (Nat.le_refl _)
      have e1 : (d'.toList.take M.length).map (encR w0 n) = (d'.toList.map fun x => x.1).map Row.v := by
        rw [List.take_of_length_le (by simp [hd]), List.map_map]
        rfl
      rw [e1] at h1
      have e2 : (d'.toList.map fun x => x.1).length = M.length := by simpa using hd
      rw [e2]
      have e3 : d'.toList.toArray = d' := by simp
      rw [e3] at h1
      have hbb : Below (putRow (encR w0 n) (Sort.ahead w q) g 0 d').heap.size (putRow (encR w0 n) (Sort.ahead w q) g 0 d') (sortWorld (encR w0 n) w g 0 q d' os) := by
        unfold sortWorld
        exact ⟨rfl, rfl, rfl, by simp, fun k hk => heap_grow_old _ _ hk⟩
      exact own_below h1 hbb (Nat.le_refl _)
    · obtain ⟨x, _, rfl⟩ := List.mem_map.1 hr
      exact FarR.old x.2.1 hB0 (Nat.le_refl _) hs
    · have := hper.map fun x : RowIn w0 n => x.1.zs
      simpa [rowsL, List.map_map, ← hzs, Function.comp_def] using this
    · have := sorted_of hd (by first | exact hsd | (rw [hsz] at hsd; exact hsd))
      simpa [rowsL, keys, List.map_map, Function.comp_def] using this
theorem clone_any (A : Option Addr) (a : List Int) (ca : Nat) (w : World) (ra : ReadsV w A a) (hl : a.length ≤ 17592186043904) :
    Calls Tryd.prog 21 #[.slice A a.length ca] w fun e w' => ∃ A c, e = .returned (.slice A a.length c) ∧ FreshV w' A a ∧ Below w.heap.size w w' := by
  refine (clone_law A a ca w ra (by omega)).mono ?_
  rintro e w1 ⟨v, rfl, hown, hb⟩
  obtain ⟨A2, c2, rfl, R2⟩ := FreshV.own hown
  exact ⟨A2, c2, rfl, R2, hb⟩
theorem reverse_any (v : Value) (M : List Row) (s : Nat) (w : World) (hO : OwnL w s v M) (hsw : s ≤ w.heap.size) (hl : M.length ≤ 1000) :
    Calls Tryd.prog 22 #[v] w fun e w' => e = .returned (.tuple #[]) ∧ OwnL w' s v M.reverse ∧ Below s w w' := by
  by_cases hM : M = []
  · subst hM
    obtain ⟨A, c, rfl, _⟩ := hO.reads
    refine (Tryd.slices_Reverse_empty (α := Unit) A c w).mono ?_
    rintro e w' ⟨rfl, rfl⟩
    exact ⟨rfl, hO, Below.refl _ _⟩
  · have hv : v ≠ .slice none 0 0 := by
      rintro rfl
      rcases hO.1.2 with ⟨_, h0⟩ | ⟨_, _, _, h0, _⟩
      · exact hM (List.eq_nil_of_length_eq_zero (by omega))
      · cases h0
    obtain ⟨g, cap, rfl, hg1, hg2, hn1, hn2, hlen, hH⟩ := Lib.holds_of_ownsRow (enc := Row.v) hO.1 hv
    refine (Tryd.slices_Reverse Row.v (fun _ => rfl) g 0 cap M w hH (by omega)).mono ?_
    rintro e w' ⟨he, q, rfl⟩
    have hB : Below s w (putRow Row.v (Sort.ahead w q) g 0 M.reverse.toArray) := Lib.below_putRow (Below.refl _ _) hg1
    have h1 := Lib.ownsRow_putRow (q := q) (k := M.length) (ys := M.reverse) hO.1 (by simp) (Nat.le_refl _)
    rw [List.take_of_length_le (by simp)] at h1
    refine ⟨he, ⟨?_, fun r hr => ?_⟩, hB⟩
    · rw [List.length_reverse]
      exact h1
    · have hr2 : r ∈ M := List.mem_reverse.1 hr
      have hf := hO.2 r hr2
      have key : r.zs ≠ [] → ∀ b off, r.A = some ⟨b, off, none⟩ → (putRow Row.v (Sort.ahead w q) g 0 M.reverse.toArray).heap[b]? = w.heap[b]? := fun hn b off e => by
        have hbg : g ≠ b := by
          rintro rfl
          rcases hO.1.2 with ⟨e1, _⟩ | ⟨g', cap', cur, e1, _, h2, _⟩
          · cases e1
          · injection e1 with e1
            injection e1 with e1
            injection e1 with e1
            subst e1
            rcases hf.2 hn _ off e with h3 | ⟨cs, h3⟩
            · omega
            · rw [h2] at h3
              simp at h3
        simp [putRow, mapBlock, Sort.ahead, Array.getElem?_modify, hbg]
      by_cases hn : r.zs = []
      · refine ⟨⟨?_, hf.1.2⟩, fun h => absurd hn h⟩
        rw [hn]
        exact ReadsV.nil _ _
      · refine ⟨⟨fun j hj => ?_, hf.1.2⟩, fun hn' b off e => (hf.2 hn' b off e).imp id fun ⟨cs, hc⟩ => ⟨cs, by rw [key hn b off e]; exact hc⟩⟩
        obtain ⟨b, off, e, h3, h4⟩ := hf.1.1 j hj
        have kb := key hn b off e
        refine ⟨b, off, e, Nat.lt_of_lt_of_le h3 hB.size, ?_⟩
        rw [← h4]
        simp only [World.cell?, kb]
end Go.Proofs.YtkjdgkndlfhhjaaDoor
