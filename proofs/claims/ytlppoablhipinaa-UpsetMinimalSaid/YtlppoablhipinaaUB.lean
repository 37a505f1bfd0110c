/- Contracts: a clone; the sort of rows. -/
import Derived.Test.YtlppoablhipinaaUA
namespace Go.Proofs.Ytlppoablhipinaa
open Go.RowKit Go.Shelf Go.Sort

def OwnPost (g : Nat) (w : World) (L : List Int) (e : Ending) (w' : World) : Prop := ∃ v, e = .returned v ∧ w'.ownsRow g 3 1 v L.length (L.map (Value.int .i64)) ∧ Below g w w'
set_option maxHeartbeats 1000000 in
theorem clone_law (A : Option Addr) (a : List Int) (ca : Nat) (w : World) (ra : ReadsV w A a) (hl : a.length * 8 ≤ 140737488351232) :
    Calls Try.prog 35 #[.slice A a.length ca] w (OwnPost w.heap.size w a) := by
  have hq := fun (w : World) (n c : Nat) (a : Option Addr) => Lib.run_eql_slice_nil (P := Try.prog) w 28 3 a n c 0 0 Try.underlying28
  obtain ⟨i0, hi, hz0, hz1, hz2⟩ := info_parts infoI
  have HI := Lib.hid hi
  have HZ0 := Lib.hid hz0
  have HZ1 := Lib.hid hz1
  have HZ2 := Lib.hid hz2
  clear hi hz0 hz1 hz2
  cases A with
  | none =>
    obtain rfl : a = [] := by
      cases a with
      | nil => rfl
      | cons x r => obtain ⟨_, _, h, _⟩ := ra 0 (by simp); cases h
    go_enter Try.func35, Try.ntmps35
    go_wp2
    go_ret
    exact ⟨_, rfl, World.ownsRow_nil _ _ _ _, Below.refl _ _⟩
  | some p =>
    have HC : Hid (∀ j u, (a.map (Value.int .i64))[j]? = some u → (w.alloc (.cells #[] 3)).cell? (p.add j) = some u) := by
      intro j u hu
      have hj : j < a.length := by
        rcases Nat.lt_or_ge j a.length with h | h
        · exact h
        · rw [List.getElem?_eq_none (by simpa using h)] at hu; cases hu
      obtain ⟨b, off, h1, _, h2⟩ := (ra.alloc (.cells #[] 3)) j hj
      cases h1
      rw [Go.WideShapes.add_plain]
      rw [h2]
      rw [List.getElem?_map, List.getElem?_eq_getElem hj] at hu
      rw [← Option.some.inj hu]
      unfold at0
      rw [List.getElem?_eq_getElem hj]
      rfl
    have HO : Hid ((w.alloc (.cells #[] 3)).ownsRow w.heap.size 3 1 (.slice (some ⟨w.heap.size, 0, none⟩) 0 0) 0 []) := World.ownsRow_lit w #[] 0 (Nat.le_refl _) (by unfold maxLen; omega) rfl
    have H1 : Hid (∀ u ∈ a.map (Value.int .i64), u.oneCell' = true) := by
      intro u hu
      obtain ⟨x, _, rfl⟩ := List.mem_map.1 hu
      rfl
    have hL : (a.map (Value.int .i64)).length = a.length * 1 := by simp
    have HL := Lib.hid hL
    clear hL ra
    generalize hLL : a.map (Value.int .i64) = L at *
    have HLL := Lib.hid hLL
    clear hLL
    generalize hn : a.length = n at *
    have HN := Lib.hid hn
    clear hn
    have B0 : Hid (Below w.heap.size w (w.alloc (.cells #[] 3))) := (Below.refl _ _).alloc (Nat.le_refl _) _
    go_enter Try.func35, Try.ntmps35
    go_wp2_with (at_builtin; (refine wpList_append_own _ rfl (.tmp 5) (.tmp 6) 28 rfl w.heap.size 3 i0 (.int .i64 0) 1 8 Try.underlying28 HI.out HZ0.out HZ1.out HZ2.out rfl (by decide) (.slice (some ⟨w.heap.size, 0, none⟩) 0 0) 0 _ rfl HO.out p n ca L rfl HL.out HC.out H1.out (by unfold maxLen; omega) (by omega) (by rw [World.size_alloc]; omega) ?_); intro v' w5 hown' hgrow _)
    have B5 : Hid (Below w.heap.size w w5) := B0.out.grown hgrow (by rw [World.size_alloc]; omega) (fun q hq => by simp [Value.ownBlock] at hq; omega)
    have O5 : Hid (w5.ownsRow w.heap.size 3 1 v' n (a.map (Value.int .i64))) := by
      show World.ownsRow _ _ _ _ _ _ _
      rw [HLL.out]
      simpa using hown'
    clear hown' hgrow
    go_wp2
    go_ret
    exact ⟨_, rfl, by rw [HN.out]; exact O5.out, B5.out⟩

theorem clone_any (A : Option Addr) (a : List Int) (ca : Nat) (w : World) (ra : ReadsV w A a) (hl : a.length ≤ 1000) :
    Calls Try.prog 35 #[.slice A a.length ca] w (IsPost w.heap.size w a) := by
  refine (clone_law A a ca w ra (by omega)).mono ?_
  rintro e w1 ⟨v, rfl, hown, hb⟩
  obtain ⟨A2, c2, rfl, R2⟩ := FreshV.own hown
  exact ⟨A2, c2, rfl, R2, hb⟩

/-! the sort -/
abbrev RowIn (w0 : World) : Type := {r : Row // OkR w0 r}
instance (w0 : World) : Inhabited (RowIn w0) := ⟨⟨⟨none, [], 0⟩, ReadsV.nil _ _, by simp⟩⟩
def encR (w0 : World) (x : RowIn w0) : Value := x.1.v
def cfR (w0 : World) (x y : RowIn w0) : Int := cmpL x.1.zs y.1.zs
theorem oneR (w0 : World) : OneCell (encR w0) := fun _ => rfl
theorem lt_yes {w0 : World} {x y : RowIn w0} : ltOf (cfR w0) x y = true ↔ cmpL x.1.zs y.1.zs < 0 := by unfold ltOf cfR; exact decide_eq_true_iff
theorem lt_no {w0 : World} {x y : RowIn w0} : ltOf (cfR w0) x y = false ↔ ¬ cmpL x.1.zs y.1.zs < 0 := by unfold ltOf cfR; exact decide_eq_false_iff_not
theorem swoR (w0 : World) : SWO (ltOf (cfR w0)) := by
  refine ⟨fun x => ?_, fun x y z h g => ?_, fun x y z h g => ?_⟩
  · rw [lt_no, cmpL_refl]
    omega
  · rw [lt_yes] at *
    exact cmpL_lt_trans h g
  · rw [lt_no] at *
    have h1 := cmpL_neg x.1.zs y.1.zs
    have h2 := cmpL_neg y.1.zs z.1.zs
    have h3 := cmpL_neg x.1.zs z.1.zs
    have h4 := cmpL_trans z.1.zs y.1.zs x.1.zs (by omega) (by omega)
    omega
theorem below_sortR {w0 : World} {B : Nat} {w : World} {g n : Nat} {d : Array (RowIn w0)} {os : Array Obj} {wa : World} (h : Below B wa w) (hg : B ≤ g) (hs : B ≤ w.heap.size) : Below B wa (sortWorld (encR w0) w g 0 n d os) := by
  have h1 := Lib.below_putRow (enc := encR w0) (q := n) (d := d) h hg
  refine ⟨h1.os, h1.tape, h1.output, ?_, fun k hk => ?_⟩
  · exact Nat.le_trans h1.size (by unfold sortWorld; simp)
  · unfold sortWorld
    rw [heap_grow_old _ _ (by rw [Sort.size_putRow]; exact Nat.lt_of_lt_of_le hk hs)]
    exact h1.block k hk
theorem cmp_reads {w0 w : World} (hb : Below w0.heap.size w0 w) {g : Nat} (hg : w0.heap.size ≤ g) (n : Nat) : CmpReads Try.prog 33 #[] (encR w0) (cfR w0) g 0 n w := by
  intro m os dk _ x y
  have hB : Below w0.heap.size w0 (sortWorld (encR w0) w g 0 m dk os) := below_sortR hb hg hb.size
  have h := cmpx_law x.1.A y.1.A x.1.zs y.1.zs x.1.cap y.1.cap (sortWorld (encR w0) w g 0 m dk os) (x.2.1.below hB (Nat.le_refl _)) (y.2.1.below hB (Nat.le_refl _)) (by have := x.2.2; omega) (by have := y.2.2; omega)
  exact h
theorem perm_of {α : Type} [Inhabited α] {d d' : Array α} (h : PermIn 0 d.size d d') : d'.toList.Perm d.toList := by
  obtain ⟨h1, _, h3⟩ := h
  rw [Array.extract_eq_self_of_le (by omega), Array.extract_eq_self_of_le (by omega)] at h3
  exact h3
theorem sorted_of {w0 : World} {d : Array (RowIn w0)} {n : Nat} (hn : d.size = n) (h : SortedIn (ltOf (cfR w0)) 0 n d) : Wk (d.toList.map fun x => x.1.zs) := by
  unfold Wk
  rw [List.pairwise_map, List.pairwise_iff_getElem]
  intro i j hi hj hij
  have hi' : i < d.size := by simpa using hi
  have hj' : j < d.size := by simpa using hj
  have := h i j (Nat.zero_le _) hij (by omega)
  rw [getElem!_pos d j hj', getElem!_pos d i hi'] at this
  rw [lt_no] at this
  have h1 := cmpL_neg (d[i]).1.zs (d[j]).1.zs
  simp only [Array.getElem_toList]
  omega
theorem sort_any (v : Value) (M : List Row) (s : Nat) (w0 w : World) (hO : OwnL w s v M) (hold : ∀ r ∈ M, OkR w0 r) (hb : Below w0.heap.size w0 w) (hs : w0.heap.size ≤ s) (hsw : s ≤ w.heap.size) (hl : M.length ≤ 1000) :
    Calls Try.prog 32 #[v, .func (.func 33) #[] #[]] w fun e w' => e = .returned (.tuple #[]) ∧ ∃ M', OwnL w' s v M' ∧ M'.length = M.length ∧ (rowsL M').Perm (rowsL M) ∧ Wk (rowsL M') ∧ Below s w w' := by
  by_cases hM : M = []
  · subst hM
    obtain ⟨A, c, rfl, _⟩ := hO.reads
    refine (Try.slices_SortFunc_none (α := Unit) A c _ w).mono ?_
    rintro e w' ⟨rfl, rfl⟩
    exact ⟨rfl, [], hO, rfl, List.Perm.refl _, List.Pairwise.nil, Below.refl _ _⟩
  · have hv : v ≠ .slice none 0 0 := by
      rintro rfl
      rcases hO.1.2 with ⟨_, h0⟩ | ⟨_, _, _, h0, _⟩
      · exact hM (List.eq_nil_of_length_eq_zero (by omega))
      · cases h0
    obtain ⟨zs, hzs⟩ : ∃ zs : List (RowIn w0), zs.map (fun x => x.1) = M := ⟨M.pmap Subtype.mk hold, by rw [List.map_pmap]; simp⟩
    have hmap : zs.map (encR w0) = M.map Row.v := by rw [← hzs, List.map_map]; rfl
    have ho := hO.1
    rw [← hmap] at ho
    obtain ⟨g, cap, rfl, hg1, hg2, hn1, hn2, hlen, hH⟩ := Lib.holds_of_ownsRow ho hv
    have hsz : zs.toArray.size = M.length := by simpa using hlen
    have eg : ∀ args w, (callFunc 33 args).run Try.prog w = .ok (.enter 33 args) w := enters_of Try.func33 (by kernel_rfl) rfl
    have h := Try.slices_SortFunc (encR w0) (oneR w0) (cfR w0) (swoR w0) 33 #[] g 0 cap zs.toArray w eg (cmp_reads hb (Nat.le_trans hs hg1) _).lays hH hg2 (by omega)
    rw [hsz] at h
    refine h.mono ?_
    rintro e w' ⟨he, d', n, os, hp, hsd, rfl⟩
    have hd : d'.size = M.length := by rw [hp.1, hsz]
    have hB : Below s w (sortWorld (encR w0) w g 0 n d' os) := below_sortR (Below.refl _ _) hg1 hsw
    have hB0 : Below w0.heap.size w0 (sortWorld (encR w0) w g 0 n d' os) := below_sortR hb (Nat.le_trans hs hg1) hb.size
    have hper := perm_of (d := zs.toArray) (by first | exact hp | (rw [hsz]; exact hp))
    refine ⟨he, d'.toList.map (fun x => x.1), ⟨?_, fun r hr => ?_⟩, by simpa using hd, ?_, ?_, hB⟩
    · have h1 := Lib.ownsRow_putRow (q := n) (k := M.length) (ys := d'.toList) ho (by simpa using hd) (Nat.le_refl _)
      have e1 : (d'.toList.take M.length).map (encR w0) = (d'.toList.map fun x => x.1).map Row.v := by
        rw [List.take_of_length_le (by simp [hd]), List.map_map]
        rfl
      rw [e1] at h1
      have e2 : (d'.toList.map fun x => x.1).length = M.length := by simpa using hd
      rw [e2]
      have e3 : d'.toList.toArray = d' := by simp
      rw [e3] at h1
      have hbb : Below (putRow (encR w0) (Sort.ahead w n) g 0 d').heap.size (putRow (encR w0) (Sort.ahead w n) g 0 d') (sortWorld (encR w0) w g 0 n d' os) := by
        unfold sortWorld
        exact ⟨rfl, rfl, rfl, by simp, fun k hk => heap_grow_old _ _ hk⟩
      exact own_below h1 hbb (Nat.le_refl _)
    · obtain ⟨x, _, rfl⟩ := List.mem_map.1 hr
      exact FarR.old x.2 hB0 (Nat.le_refl _) hs
    · have := hper.map fun x : RowIn w0 => x.1.zs
      simpa [rowsL, List.map_map, ← hzs, Function.comp_def] using this
    · have := sorted_of hd (by first | exact hsd | (rw [hsz] at hsd; exact hsd))
      simpa [rowsL, List.map_map, Function.comp_def] using this
end Go.Proofs.Ytlppoablhipinaa
