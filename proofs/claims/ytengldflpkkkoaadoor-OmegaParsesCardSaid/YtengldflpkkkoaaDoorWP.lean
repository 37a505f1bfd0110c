/- Parse of the program. -/
import Derived.Test.YtengldflpkkkoaaDoorWT
namespace Go.Proofs.YtengldflpkkkoaaDoor
open Go.RowKit Go.Shelf

attribute [local go_sem] Oper.semAt_some

def PPost (g : Nat) (w : World) (r : Option (List Int)) (e : Ending) (w' : World) : Prop := match r with
  | some m => ∃ A c, e = .returned (.tuple #[.slice A m.length c, .int .i64 0]) ∧ ReadsV w' A m ∧ Below g w w'
  | none => e = .returned (.tuple #[.slice none 0 0, .int .i64 11]) ∧ Below g w w'
def numsM (pre : List (List UInt8)) : List Int := (numsL pre).getD []
theorem numsM_of {pre : List (List UInt8)} {m : List Int} (h : numsL pre = some m) : numsM pre = m := by unfold numsM; rw [h]; rfl
theorem appended_box {W w1 : World} {n₀ B : Nat} {t e : TypeId} {size : Nat} {v v' : Value} {k m : Nat} {xs ys : List Value} {tmp : Obj}
    (hv : Boxed W B t v) (hte : t ≠ e) (hrow : W.ownsRow n₀ e size v k xs) (hown' : w1.ownsRow n₀ e size v' m ys) (hgrow : (W.alloc tmp).grownBy w1 v.ownBlock) :
    Boxed w1 B t v ∧ Boxed (w1.setCell ⟨B, 0, none⟩ v') B t v' ∧ (w1.setCell ⟨B, 0, none⟩ v').ownsRow n₀ e size v' m ys ∧ KeepsOthers W (w1.setCell ⟨B, 0, none⟩ v') := by
  have h1 : Boxed w1 B t v := (hv.alloc tmp).kept hgrow (hv.not_row hte hrow)
  refine ⟨h1, h1.set v', hown'.kept (grownBy_setCell' w1 B v') (.inr (h1.not_row hte hown').symm), ((KeepsOthers.alloc W tmp).trans (KeepsOthers.of_grownBy hgrow fun j o ej hj => ?_)).trans (KeepsOthers.setCell _ _ _)⟩
  rcases (hrow.alloc tmp).2 with ⟨hn, _⟩ | ⟨g, cap, cur, hn, _, hgb, _⟩
  · rw [hn] at ej; simp [Value.ownBlock] at ej
  · rw [hn] at ej
    obtain rfl : g = j := by simpa [Value.ownBlock] using ej
    rw [hgb] at hj
    cases hj
    rfl
/-- what stands between two rounds -/
def Mid (g : Nat) (w : World) (pre : List (List UInt8)) (W : World) : Prop :=
  ((∃ v, Boxed W (g + 1 + 1) 22 v ∧ W.ownsRow (g + 6) 3 1 v (numsM pre).length ((numsM pre).map (Value.int .i64)) ∧ True) ∧
    (numsL pre ≠ none ∧ Boxed W g 22 (.slice none 0 0) ∧ Boxed W (g + 1) 32 (.int .i64 0) ∧ g + 6 ≤ W.heap.size)) ∧ Below g w W
def Out (g : Nat) (w : World) (c : Code) (pre : List (List UInt8)) (W : World) : Prop :=
  ((c = .ret ∧ numsL pre = none) ∧ (Boxed W g 22 (.slice none 0 0) ∧ Boxed W (g + 1) 32 (.int .i64 11))) ∧ Below g w W
theorem mid_own (g B : Nat) (w : World) (h : g = w.heap.size) (hB : g ≤ B) : OwnFrom B (Mid g w) := by
  refine OwnFrom.and (OwnFrom.and (Own.from (holdsRow_own (g + 6) (g + 1 + 1) 22 3 1 (fun pre => (numsM pre).length) (fun pre => (numsM pre).map (Value.int .i64)) (fun _ _ => True)) _) ?_) (ownFrom_below (by omega) hB)
  exact OwnFrom.and (ownFrom_pure _ fun pre => numsL pre ≠ none) (OwnFrom.and (Own.from (boxed_own _ _ _) _) (OwnFrom.and (Own.from (boxed_own _ _ _) _) (fun _ _ _ _ hs hg _ => Nat.le_trans hs hg.size)))
theorem out_own (g B : Nat) (w : World) (h : g = w.heap.size) (hB : g ≤ B) (c : Code) : OwnFrom B (Out g w c) := by
  refine OwnFrom.and (OwnFrom.and (ownFrom_pure _ fun pre => c = .ret ∧ numsL pre = none) ?_) (ownFrom_below (by omega) hB)
  exact OwnFrom.and (Own.from (boxed_own _ _ _) _) (Own.from (boxed_own _ _ _) _)
theorem mid_set (g : Nat) (w : World) (pre : List (List UInt8)) (A : World) (u v : Value) (h : Mid g w pre A) (hb : Boxed A (g + 3) 9 u) : Mid g w pre (A.setCell ⟨g + 3, 0, none⟩ v) := by
  obtain ⟨⟨⟨m, h1, h2, -⟩, h3, h4, h5, h7⟩, h6⟩ := h
  refine ⟨⟨⟨m, h1.other (by omega) _, h2.kept (grownBy_setCell' A (g + 3) v) (.inr (hb.not_row (by decide) h2).symm), trivial⟩, h3, h4.other (by omega) _, h5.other (by omega) _, by rw [World.size_setCell]; exact h7⟩, h6.setCell (p := ⟨g + 3, 0, none⟩) (by simp) _⟩

theorem boxed_put {W : World} {k D : Nat} {t : TypeId} {v : Value} {o : Obj} (h : Boxed W k t v) (hk : k ≠ D) : Boxed (W.putObj D o) k t v := by
  unfold Boxed at h ⊢
  rw [World.putObj_heap_other hk]; exact h
theorem bodyM_ret {n : Nat} {R : Ending → World → Prop} {tmps : Array Value} {W : World} {D : Nat} {g : Nat} {x y : Value} (hg : g + 2 ≤ D) (ha : tmps[2]? = some (.pointer (some ⟨g, 0, none⟩))) (hb : tmps[3]? = some (.pointer (some ⟨g + 1, 0, none⟩)))
    (hK : W.heap[D]? = some (Obj.deferred (some []))) (hx : Boxed W g 22 x) (hy : Boxed W (g + 1) 32 y)
    (hR : R (.returned (.tuple #[x, y])) (W.putObj D (.deferred none))) : bodyPostM Fence.wide n Tryd.prog Tryd.f18 R Exit.ret { tmps := tmps, defers := [{ target := Target.collected D, args := #[] }] } W := by
  have h1 := (boxed_put (D := D) (o := .deferred none) hx (by omega)).cell
  have h2 := (boxed_put (D := D) (o := .deferred none) hy (by omega)).cell
  refine ⟨by simp, .inl ⟨_, _, rfl, run_takeDeferred hK, ?_⟩⟩
  refine ⟨.tuple #[x, y], ?_, hR⟩
  simp [results, Tryd.f18, go_sem, ha, hb, h1, h2]
theorem bodyM_ret0 {n : Nat} {R : Ending → World → Prop} {tmps : Array Value} {W : World} {g : Nat} {x y : Value} (ha : tmps[2]? = some (.pointer (some ⟨g, 0, none⟩))) (hb : tmps[3]? = some (.pointer (some ⟨g + 1, 0, none⟩)))
    (hx : Boxed W g 22 x) (hy : Boxed W (g + 1) 32 y)
    (hR : R (.returned (.tuple #[x, y])) W) : bodyPostM Fence.wide n Tryd.prog Tryd.f18 R Exit.ret { tmps := tmps, defers := [] } W := by
  have h1 := hx.cell
  have h2 := hy.cell
  refine ⟨.tuple #[x, y], ?_, hR⟩
  simp [results, Tryd.f18, go_sem, ha, hb, h1, h2]
theorem boxed2 (w : World) (x y : Value) (t u : TypeId) : Boxed ((w.alloc (.cells #[x] t)).alloc (.cells #[y] u)) w.heap.size t x ∧ Boxed ((w.alloc (.cells #[x] t)).alloc (.cells #[y] u)) (w.heap.size + 1) u y ∧ Below w.heap.size w ((w.alloc (.cells #[x] t)).alloc (.cells #[y] u)) := by
  have h := Boxed.new (w.alloc (.cells #[x] t)) u y
  rw [World.size_alloc] at h
  exact ⟨(Boxed.new _ _ _).alloc _, h, ((Below.refl _ _).alloc (Nat.le_refl _) _).alloc (by simp) _⟩
theorem ReadsV.own_same {w : World} {base : Nat} {e : TypeId} {A : Option Addr} {n k cap : Nat} {L : List Int} (h : w.ownsRow base e 1 (.slice A n cap) k (L.map (Value.int .i64))) : ReadsV w A L := by
  obtain ⟨A', c, e, R⟩ := ReadsV.own h
  cases e
  exact R
theorem below_put {B D : Nat} {W : World} {o : Obj} (h : B ≤ D) : Below B W (W.putObj D o) :=
  ⟨rfl, rfl, rfl, by simp [World.putObj], fun k hk => World.putObj_heap_other (by omega)⟩
theorem kept2 {W : World} {D : Nat} {a b : Addr} {x y : Value} (h : W.heap[D]? = some (Obj.deferred (some []))) : ((W.setCell a x).setCell b y).heap[D]? = some (Obj.deferred (some [])) :=
  ((KeepsOthers.setCell W a x).trans (KeepsOthers.setCell _ b y)).same D _ h rfl

set_option maxRecDepth 100000 in
set_option maxHeartbeats 4000000 in
theorem parse_in (n : Nat) (hn : 3 ≤ n) (s : List UInt8) (w : World) (hL : LaidW w) (h1 : s ≠ [45]) (h2 : ¬ 191 < s.length) :
    CallsIn Fence.wide n Tryd.prog 18 #[.string ⟨s.toArray⟩] w (PPost w.heap.size w (parseL s)) := by
  have r1 : 1 ≤ n := by omega
  have e1 : (s == [45]) = false := by simpa using h1
  have e3 : ((191 : Int) < (s.length : Int)) = False := by simp; omega
  have SC := Lib.hid (fun W => split_call ⟨s.toArray⟩ 44 W)
  have HPn : Hid (numsL (pieces 44 s) = none → parseL s = none) := fun h => by unfold parseL; rw [if_neg h1, if_neg h2, h]
  have HPx : Hid (∀ m, numsL (pieces 44 s) = some m → 24 < m.length ∨ valW m = false ∨ textL m ≠ s → parseL s = none) := fun m h h' => by unfold parseL; rw [if_neg h1, if_neg h2, h]; exact if_pos h'
  have HPy : Hid (∀ m, numsL (pieces 44 s) = some m → ¬ (24 < m.length ∨ valW m = false ∨ textL m ≠ s) → parseL s = some m) := fun m h h' => by unfold parseL; rw [if_neg h1, if_neg h2, h]; exact if_neg h'
  have PL := pieces_length 44 s
  have PS := Lib.hid (pieces_size 44 s)
  obtain ⟨i0, hi, hz0, hz1, hz2⟩ := info_parts infoI
  have LB := Lib.hid (fun W (h : Below w.heap.size w W) => hL.below h (Nat.le_refl _))
  refine callsIn_of_wp_marks Tryd.func18 rfl trivial ?_ rfl
  simp only [Tryd.ntmps18, List.size_toArray, List.length_cons, List.length_nil, Nat.reduceAdd, Nat.reduceSub, Array.replicate_succ, Array.replicate_zero, List.push_toArray, List.append_toArray, List.nil_append, List.cons_append]
  gi_wp2_with (refine ⟨trivial, ?_⟩; gi_at_call 40; refine (callsIn_wide.2 (SC.out _)).mono ?_; rintro e w' ⟨rfl, rfl⟩)
  obtain ⟨V, hV⟩ : ∃ V, V = (((w.alloc (.cells #[.slice none 0 0] 22)).alloc (.cells #[.int .i64 0] 32)).alloc (.cells #[.slice none 0 0] 22)) := ⟨_, rfl⟩
  have sV : V.heap.size = w.heap.size + 3 := by rw [hV]; simp
  have bV : Below w.heap.size w V := by rw [hV]; exact (((Below.refl _ _).alloc (Nat.le_refl _) _).alloc (by simp) _).alloc (by simp; omega) _
  have b0 : Boxed V w.heap.size 22 (.slice none 0 0) := by rw [hV]; exact ((Boxed.new _ _ _).alloc _).alloc _
  have b1 : Boxed V (w.heap.size + 1) 32 (.int .i64 0) := by
    have h := Boxed.new (w.alloc (.cells #[.slice none 0 0] 22)) 32 (.int .i64 0)
    rw [World.size_alloc] at h
    rw [hV]; exact h.alloc _
  have b2 : Boxed V (w.heap.size + 1 + 1) 22 (.slice none 0 0) := by
    have h := Boxed.new ((w.alloc (.cells #[.slice none 0 0] 22)).alloc (.cells #[.int .i64 0] 32)) 22 (.slice none 0 0)
    rw [World.size_alloc, World.size_alloc] at h
    rw [hV]; exact h
  rw [← hV]
  have iter := split_seq (n - 1) (by omega) s 44 V (by omega)
  rw [sV] at iter
  have sX : (splitW V ⟨s.toArray⟩ 44).heap.size = w.heap.size + 6 := by rw [splitW_size, sV]
  have bX : Below w.heap.size w (splitW V ⟨s.toArray⟩ 44) := bV.trans ((splitW_below V _ 44).mono (by omega))
  have kX := splitW_below V ⟨s.toArray⟩ 44
  have start : Mid w.heap.size w [] (splitW V ⟨s.toArray⟩ 44) := ⟨⟨⟨_, boxed_below b2 kX (Nat.le_refl _), World.ownsRow_nil _ _ _ _, trivial⟩, by simp [numsL], boxed_below b0 kX (Nat.le_refl _), boxed_below b1 kX (Nat.le_refl _), by omega⟩, bX⟩
  refine wpIn_rangeBox rfl r1 (gf := 64) (lb := #[.pointer (some ⟨w.heap.size + 3 + 1, 0, none⟩), .pointer (some ⟨w.heap.size + 3, 0, none⟩), .pointer (some ⟨w.heap.size + 3 + 2, 0, none⟩)]) rfl trivial (enters_of Tryd.func64 (by kernel_rfl) rfl)
    iter (Below.refl _ _) (by omega) (fun _ => rfl) (Mid w.heap.size w) (Out w.heap.size w) (mid_own w.heap.size _ w rfl (by omega)) (out_own w.heap.size _ w rfl (by omega)) (fun pre A u v h hb => mid_set w.heap.size w pre A u v h hb) start
    (fun x => { tmps := #[.string ⟨s.toArray⟩, undef, .pointer (some ⟨w.heap.size, 0, none⟩), .pointer (some ⟨w.heap.size + 1, 0, none⟩), .pointer (some ⟨w.heap.size + 1 + 1, 0, none⟩), .string ⟨x.toArray⟩, undef, undef, .string ⟨s.toArray⟩, .bool false, .string ⟨s.toArray⟩, .int .i64 (s.length : Int), .bool false, .string ⟨s.toArray⟩,
      .func (.func 64) #[] #[.pointer (some ⟨w.heap.size + 3 + 1, 0, none⟩), .pointer (some ⟨w.heap.size + 3, 0, none⟩), .pointer (some ⟨w.heap.size + 3 + 2, 0, none⟩)], .string ⟨x.toArray⟩, undef, undef, undef, undef, undef, undef, undef, undef, undef, undef, undef, undef, undef, undef, undef, undef, undef, undef, undef, undef, undef, undef, undef, undef, undef, undef, undef, undef], defers := [] }) ?assign ?body ?done ?stop
  case assign =>
    intro l x W K hK
    gi_wp2
    exact hK
  case body =>
    rintro l pre x rest W hLx ⟨⟨⟨v, hv, hrow, -⟩, hne, hr0, hr1, hsz⟩, hB⟩
    have hq : 1 ≤ n - 1 - 1 := by omega
    have hxl := PS.out x (by rw [hLx]; simp)
    have hpl : pre.length < 200 := by have e := congrArg List.length hLx; simp at e; omega
    cases hA : elemO x with
    | none =>
      have A := Lib.hid (element_bad x hA (by omega) W (LB.out W hB))
      have hbad : numsL (pre ++ [x]) = none := by rw [numsL_snoc, hA]; cases numsL pre <;> rfl
      gi_wp2_with (refine ⟨trivial, ?_⟩; gi_at_call 41; refine (CallsIn.inRound l (callsIn_wide.2 A.out)).mono ?_; rintro e W1 ⟨⟨z, rfl⟩, hb⟩; have c0 := (boxed_below hr0 hb (Nat.le_refl _)); have c1 := (boxed_below hr1 hb (Nat.le_refl _)); have c00 := c0.cell; have c01 := c0.frozen; have c11 := (c1.other (B' := w.heap.size) (by omega) (.slice none 0 0)).cell; have c10 := (c1.other (B' := w.heap.size) (by omega) (.slice none 0 0)).frozen)
      refine ⟨(keeps_below hb).trans (((KeepsOthers.setCell _ _ _).trans (KeepsOthers.setCell _ _ _)).from _), ⟨⟨rfl, hbad⟩, (c0.set _).other (by omega) _, (c1.other (by omega) _).set _⟩, ?_⟩
      exact (hB.trans (hb.mono hB.size)).trans (((Below.refl _ W1).setCell (p := ⟨w.heap.size, 0, none⟩) (Nat.le_refl _) _).setCell (p := ⟨w.heap.size + 1, 0, none⟩) (by simp) _)
    | some v' =>
      have A := Lib.hid (element_ok x v' hA (by omega) W)
      obtain ⟨m, hm⟩ : ∃ m, numsL pre = some m := by cases h : numsL pre with | none => exact absurd h hne | some m => exact ⟨m, rfl⟩
      have hgood : numsL (pre ++ [x]) = some (m ++ [v']) := by rw [numsL_snoc, hA, hm]
      have hml := numsL_len pre m hm
      rw [numsM_of hm] at hrow
      have b1 : m.length + 1 ≤ maxLen := by unfold maxLen; omega
      have b2 : (m.length + 1) * 8 ≤ 140737488355328 := by omega
      replace hml := Lib.hid hml
      gi_wp2_with (first
        | (refine ⟨trivial, ?_⟩; gi_at_call 41; refine (CallsIn.inRound l (callsIn_wide.2 A.out)).mono ?_; rintro e W1 ⟨rfl, hb⟩; have hv1 := boxed_below hv hb (Nat.le_refl _); have hc1 := hv1.cell; have hrow1 := own_below hrow hb (Nat.le_refl _); have hB1 := hB.trans (hb.mono hB.size); have hsz1 := Nat.le_trans hsz hb.size)
        | (gi_at_builtin; refine wpListIn_append_own _ rfl _ _ 22 rfl (w.heap.size + 6) 3 i0 (.int .i64 0) 1 8 Tryd.underlying22 hi hz0 hz1 hz2 rfl (by decide) _ _ _ rfl (hrow1.alloc _) ⟨W1.heap.size, 0, none⟩ 1 1 [.int .i64 v'] rfl rfl (cell_one_new _ _ _) (by simp [Value.oneCell']) b1 b2 (by simp; omega) ?_; intro v2 w1 hown' hgrow _; obtain ⟨g', cap', rfl⟩ := ownsRow_succ hown'; obtain ⟨k1, k2, k3, k4⟩ := appended_box hv1 (by decide) hrow1 hown' hgrow; have hc5 := k1.cell; have hf5 := k1.frozen))
      have hgr : (W1.alloc (.cells #[.int .i64 v'] 3)).grownBy w1 v.ownBlock := hgrow
      have hrb : ∀ r, v.ownBlock = some r → w.heap.size + 6 ≤ r := fun r e => (hrow1.lt r e).1
      have c0 := ((boxed_below hr0 hb (Nat.le_refl _)).alloc (.cells #[.int .i64 v'] 3)).kept hgr (fun e => by have := hrb _ e.symm; omega)
      have c1 := ((boxed_below hr1 hb (Nat.le_refl _)).alloc (.cells #[.int .i64 v'] 3)).kept hgr (fun e => by have := hrb _ e.symm; omega)
      have s1 := hgr.size
      rw [World.size_alloc] at s1
      refine ⟨(keeps_below hb).trans (k4.from _), (keepB_below hb).trans (((KeepB.alloc _ _ _ _).trans (KeepB.grown hgr fun r e => .inr (by have := hrb r e; omega))).trans (KeepB.set _ (.inl (by simp)))), ?_⟩
      refine ⟨⟨⟨_, k2, ?_, trivial⟩, by rw [hgood]; simp, c0.other (by omega) _, c1.other (by omega) _, by rw [World.size_setCell]; omega⟩, ?_⟩
      · rw [numsM_of hgood]
        simpa using k3
      · exact hB1.trans ((((Below.refl _ W1).alloc (by omega) _).grown hgr (by rw [World.size_alloc]; omega) (fun r e => by have := hrb r e; omega)).setCell (p := ⟨w.heap.size + 1 + 1, 0, none⟩) (by simp; omega) _)
  case done =>
    rintro D W hD ⟨⟨⟨v, hv, hrow, -⟩, hne, hr0, hr1, hsz⟩, hB⟩ hK
    obtain ⟨m, hm⟩ : ∃ m, numsL (pieces 44 s) = some m := by cases h : numsL (pieces 44 s) with | none => exact absurd h hne | some m => exact ⟨m, rfl⟩
    rw [numsM_of hm] at hrow
    have hml := numsL_len _ m hm
    have hmb : m.length ≤ 4000 := by omega
    clear hml
    have hin := numsL_in _ m hm
    obtain ⟨A2, c2, rfl, R⟩ := ReadsV.own hrow
    have C1 := Lib.hid (valid_law A2 m c2 W R (by omega))
    have C2 := Lib.hid (text_law2 A2 m c2 W R hin (by omega) (TabW.below (LB.out w (Below.refl _ _)).tab hB (Nat.le_refl _)))
    have hc := hv.cell
    have q0 := hr0.cell
    have q1 := hr1.cell
    have f0 := hr0.frozen
    have f1 := hr1.frozen
    have q2 := fun x => (hr1.other (B' := w.heap.size) (by omega) x).cell
    have f2 := fun x => (hr1.other (B' := w.heap.size) (by omega) x).frozen
    have HR := Lib.hid hrow
    clear hrow
    by_cases t0 : 24 < m.length
    · have E := Lib.hid (HPx.out m hm (.inl t0))
      clear R HPx HPy HPn hm C1 C2
      have t0' : (24 : Int) < (m.length : Int) := by omega
      replace q2 := q2 (.slice none 0 0)
      replace f2 := f2 (.slice none 0 0)
      gi_wp2_with (refine ⟨trivial, ?_⟩)
      exact bodyM_ret (by omega) rfl rfl (kept2 hK) ((hr0.set _).other (by omega) _) ((hr1.other (by omega) _).set _) (by rw [E.out]; exact ⟨rfl, (hB.trans (((Below.refl _ W).setCell (p := ⟨w.heap.size, 0, none⟩) (Nat.le_refl _) _).setCell (p := ⟨w.heap.size + 1, 0, none⟩) (by simp) _)).trans (below_put (by omega))⟩)
    · have t0' : ¬ (24 : Int) < (m.length : Int) := by omega
      by_cases t1 : valW m = false
      · have E := Lib.hid (HPx.out m hm (.inr (.inl t1)))
        rw [t1] at C1
        clear R HPx HPy HPn hm C2 t1
        replace q2 := q2 (.slice none 0 0)
        replace f2 := f2 (.slice none 0 0)
        gi_wp2_with (refine ⟨trivial, ?_⟩; try (gi_at_call 8; refine (callsIn_wide.2 C1.out).mono ?_; rintro e w5 ⟨rfl, rfl⟩))
        exact bodyM_ret (by omega) rfl rfl (kept2 hK) ((hr0.set _).other (by omega) _) ((hr1.other (by omega) _).set _) (by rw [E.out]; exact ⟨rfl, (hB.trans (((Below.refl _ W).setCell (p := ⟨w.heap.size, 0, none⟩) (Nat.le_refl _) _).setCell (p := ⟨w.heap.size + 1, 0, none⟩) (by simp) _)).trans (below_put (by omega))⟩)
      · have t1' : valW m = true := by simpa using t1
        rw [t1'] at C1
        by_cases t2 : textL m = s
        · have E := Lib.hid (HPy.out m hm fun e => e.elim t0 fun e => e.elim t1 fun e => e t2)
          rw [t2] at C2
          clear HPx HPy HPn hm t2 t1 t1'
          obtain ⟨z, hz⟩ : ∃ z, z = m.length := ⟨_, rfl⟩
          rw [← hz] at C1 C2 hc hv t0' HR
          replace hz := Lib.hid hz
          replace q2 := q2 (.slice A2 z c2)
          replace f2 := f2 (.slice A2 z c2)
          gi_wp2_with (refine ⟨trivial, ?_⟩; try (first | (gi_at_call 8; refine (callsIn_wide.2 C1.out).mono ?_; rintro e w5 ⟨rfl, rfl⟩) | (gi_at_call 13; refine (callsIn_wide.2 C2.out).mono ?_; rintro e W1 ⟨rfl, kw⟩; have r0 := boxed_below hr0 kw (Nat.le_refl _); have r1 := boxed_below hr1 kw (Nat.le_refl _); have hc1 := (boxed_below hv kw (Nat.le_refl _)).cell; have g0 := r0.cell; have g1 := r0.frozen; have g2 := (r1.other (B' := w.heap.size) (by omega) (.slice A2 z c2)).cell; have g3 := (r1.other (B' := w.heap.size) (by omega) (.slice A2 z c2)).frozen)))
          have hKw : W1.heap[D]? = some (Obj.deferred (some [])) := (kw.block D (Array.getElem?_eq_some_iff.1 hK).1).trans hK
          have hBw : Below w.heap.size w W1 := hB.trans (kw.mono hB.size)
          have o1 := own_below HR.out kw (Nat.le_refl _)
          have o2 := o1.kept (grownBy_setCell' W1 w.heap.size (.slice A2 z c2)) (.inr (r0.not_row (by decide) o1).symm)
          have r1' := r1.other (B' := w.heap.size) (by omega) (.slice A2 z c2)
          have o3 := o2.kept (grownBy_setCell' _ (w.heap.size + 1) (.int .i64 0)) (.inr (r1'.not_row (by decide) o2).symm)
          have o4 := ownsRow_putObj o3 (.deferred none) (kept2 hKw) rfl
          have hR2 := ReadsV.own_same o4
          exact bodyM_ret (by omega) rfl rfl (kept2 hKw) ((r0.set _).other (by omega) _) ((r1.other (by omega) _).set _) (by rw [E.out]; exact ⟨A2, c2, by rw [hz.out], hR2, (hBw.trans (((Below.refl _ W1).setCell (p := ⟨w.heap.size, 0, none⟩) (Nat.le_refl _) _).setCell (p := ⟨w.heap.size + 1, 0, none⟩) (by simp) _)).trans (below_put (by omega))⟩)
        · have E := Lib.hid (HPx.out m hm (.inr (.inr t2)))
          clear HPx HPy HPn hm t1 t1'
          obtain ⟨z, hz⟩ : ∃ z, z = m.length := ⟨_, rfl⟩
          rw [← hz] at C1 C2 hc hv t0'
          replace hz := Lib.hid hz
          generalize textL m = X at *
          have e6 : (X == s) = false := by simpa using t2
          replace q2 := q2 (.slice none 0 0)
          replace f2 := f2 (.slice none 0 0)
          gi_wp2_with (refine ⟨trivial, ?_⟩; try (first | (gi_at_call 8; refine (callsIn_wide.2 C1.out).mono ?_; rintro e w5 ⟨rfl, rfl⟩) | (gi_at_call 13; refine (callsIn_wide.2 C2.out).mono ?_; rintro e W1 ⟨rfl, kw⟩; have r0 := boxed_below hr0 kw (Nat.le_refl _); have r1 := boxed_below hr1 kw (Nat.le_refl _); have hc1 := (boxed_below hv kw (Nat.le_refl _)).cell; have g0 := r0.cell; have g1 := r0.frozen; have g2 := (r1.other (B' := w.heap.size) (by omega) (.slice none 0 0)).cell; have g3 := (r1.other (B' := w.heap.size) (by omega) (.slice none 0 0)).frozen)))
          have hKw : W1.heap[D]? = some (Obj.deferred (some [])) := (kw.block D (Array.getElem?_eq_some_iff.1 hK).1).trans hK
          have hBw : Below w.heap.size w W1 := hB.trans (kw.mono hB.size)
          exact bodyM_ret (by omega) rfl rfl (kept2 hKw) ((r0.set _).other (by omega) _) ((r1.other (by omega) _).set _) (by rw [E.out]; exact ⟨rfl, (hBw.trans (((Below.refl _ W1).setCell (p := ⟨w.heap.size, 0, none⟩) (Nat.le_refl _) _).setCell (p := ⟨w.heap.size + 1, 0, none⟩) (by simp) _)).trans (below_put (by omega))⟩)
  case stop =>
    rintro D c pre W hD hpre ⟨⟨⟨rfl, hbad⟩, hr0, hr1⟩, hB⟩ hK
    have E : Hid (parseL s = none) := HPn.out (by obtain ⟨r, hr⟩ := hpre; rw [← hr]; exact numsL_bad _ _ hbad)
    clear HPx HPy HPn
    gi_wp2
    exact bodyM_ret (by omega) rfl rfl hK hr0 hr1 (by rw [E.out]; exact ⟨rfl, hB.trans (below_put (by omega))⟩)

set_option maxRecDepth 100000 in
set_option maxHeartbeats 4000000 in
theorem parse_law (s : List UInt8) (w : World) (hL : LaidW w) : Calls Tryd.prog 18 #[.string ⟨s.toArray⟩] w (PPost w.heap.size w (parseL s)) := by
  refine (callsIn_wide (n := 5)).1 ?_
  by_cases h1 : s = [45]
  · subst h1
    have E : Hid (parseL [45] = some []) := rfl
    refine callsIn_of_wp_marks Tryd.func18 rfl trivial ?_ rfl
    simp only [Tryd.ntmps18, List.size_toArray, List.length_cons, List.length_nil, Nat.reduceAdd, Nat.reduceSub, Array.replicate_succ, Array.replicate_zero, List.push_toArray, List.append_toArray, List.nil_append, List.cons_append]
    gi_wp2
    obtain ⟨k0, k1, k2⟩ := boxed2 w (.slice none 0 0) (.int .i64 0) 22 32
    exact bodyM_ret0 rfl rfl k0 k1 (by rw [E.out]; exact ⟨none, 0, rfl, ReadsV.nil _ _, k2⟩)
  · by_cases h2 : 191 < s.length
    · have E : Hid (parseL s = none) := by show _ = _; unfold parseL; rw [if_neg h1, if_pos h2]
      have e1 : (s == [45]) = false := by simpa using h1
      have e3 : ((191 : Int) < (s.length : Int)) = True := by simp; omega
      refine callsIn_of_wp_marks Tryd.func18 rfl trivial ?_ rfl
      simp only [Tryd.ntmps18, List.size_toArray, List.length_cons, List.length_nil, Nat.reduceAdd, Nat.reduceSub, Array.replicate_succ, Array.replicate_zero, List.push_toArray, List.append_toArray, List.nil_append, List.cons_append]
      gi_wp2
      obtain ⟨k0, k1, k2⟩ := boxed2 w (.slice none 0 0) (.int .i64 11) 22 32
      exact bodyM_ret0 rfl rfl k0 k1 (by rw [E.out]; exact ⟨rfl, k2⟩)
    · exact parse_in 5 (by decide) s w hL h1 h2
end Go.Proofs.YtengldflpkkkoaaDoor
