/- Event logs: the words of a line, collected. -/
import Derived.Test.YtgjgohnomophnaaDoorERW
import Derived.Test.YtgjgohnomophnaaDoorEW
namespace Go.Proofs.YtgjgohnomophnaaDoor
open Go.RowKit Go.Shelf

attribute [local go_sem] Oper.semAt_some

theorem below_put {B D : Nat} {W : World} {o : Obj} (h : B ≤ D) : Below B W (W.putObj D o) :=
  ⟨rfl, rfl, rfl, by simp [World.putObj], fun k hk => World.putObj_heap_other (by omega)⟩
theorem kept2 {W : World} {D : Nat} {a b : Addr} {x y : Value} (h : W.heap[D]? = some (Obj.deferred (some []))) : ((W.setCell a x).setCell b y).heap[D]? = some (Obj.deferred (some [])) :=
  ((KeepsOthers.setCell W a x).trans (KeepsOthers.setCell _ b y)).same D _ h rfl
/-- a list of texts in memory of its own -/
def OwnT (w : World) (s : Nat) (v : Value) (L : List Txt) : Prop := w.ownsRow s 9 1 v L.length (L.map sv)
theorem OwnT.nil (w : World) (s : Nat) : OwnT w s (.slice none 0 0) [] := World.ownsRow_nil _ _ _ _
theorem OwnT.keep {S : Nat → Prop} {A B : World} {s : Nat} {v : Value} {L : List Txt} (h : OwnT A s v L) (k : KeepOn S A B) (hs : ∀ b, s ≤ b → S b) : OwnT B s v L := k.own h (fun g e => hs g (World.ownsRow.lt h g e).1)
/-- one text is appended -/
theorem wpListIn_txt {F : Fence} {n : Nat} {ops : Array Oper} {rest : List Oper} {o : Oper} {a : Act} {w : World} {Q : Exit → Act → World → Prop} (hgd : o.guard = none) (s x : Operand)
    (ho : o.op = .call { callee := .builtin .append, args := #[s, x], argTypes := #[41, 41] })
    (base : Nat) (v : Value) (L : List Txt) (y : Txt) (hs : a.eval s = v) (hO : OwnT w base v L) (g : Nat) (hx : a.eval x = .slice (some ⟨g, 0, none⟩) 1 1)
    (hc : w.cell? ⟨g, 0, none⟩ = some (sv y)) (hl : L.length ≤ 100000) (hbase : base ≤ w.heap.size)
    (h : ∀ A' c' w', OwnT w' base (.slice A' (L.length + 1) c') (L ++ [y]) → KeepOn (fun b => b < base) w w' → wpListIn F n Tryd.prog ops Q rest (a.put o.dst (.slice A' (L.length + 1) c')) w') : wpListIn F n Tryd.prog ops Q (o :: rest) a w := by
  obtain ⟨i, hi, hz, h1, h2⟩ := info_parts infoStr
  refine wpListIn_append_own _ hgd s x 41 ho base 9 i (.string ByteArray.empty) 1 16 Tryd.underlying41 hi hz h1 h2 rfl (by decide) v L.length (L.map sv) hs hO ⟨g, 0, none⟩ 1 1 [sv y] hx rfl ?_ ?_ (by unfold maxLen; omega) (by omega) hbase ?_
  · intro j u hj
    cases j with
    | zero => simp at hj; subst hj; simpa [Addr.add] using hc
    | succ j => simp at hj
  · intro u hu
    simp at hu
    subst hu
    simp [Value.oneCell', sv]
  · intro v' w' hown hgrow _
    have hO' : OwnT w' base v' (L ++ [y]) := by
      unfold OwnT
      rw [List.map_append, List.length_append]
      exact hown
    obtain ⟨A', c', e, -⟩ := ReadsS.own hO'
    rw [List.length_append, List.length_singleton] at e
    subst e
    refine h A' c' w' hO' ⟨hgrow.os, hgrow.tape, hgrow.output, hgrow.size, fun k hk hb => hgrow.block k hk fun e => ?_⟩
    have := (World.ownsRow.lt hO k e.symm).1
    omega
/-- the iterator over the words of a line -/
def wordsW (w : World) (s : Txt) : World := w.alloc (.cells #[sv s] 9)
theorem words_call (s : Txt) (w : World) :
    Calls Tryd.prog 41 #[.string ⟨s.toArray⟩] w fun e w' => e = .returned (.func (.func 59) #[] #[.pointer (some ⟨w.heap.size, 0, none⟩)]) ∧ wordsW w s = w' := by
  go_enter Tryd.func41, Tryd.ntmps41
  go_wp2_with fail
  go_ret
  exact ⟨rfl, rfl⟩
theorem wordsL_len (s : Txt) : (wordsL s).length ≤ s.length + 1 := Nat.le_trans (List.length_filter_le _ _) (pieces_length 32 s)
theorem words_pre {s : Txt} {pre : List Txt} {x : Txt} (h : (pre ++ [x]) <+: wordsL s) : pre.length + 1 ≤ s.length + 1 := by
  have h1 := h.length_le
  rw [List.length_append, List.length_singleton] at h1
  exact Nat.le_trans h1 (wordsL_len s)
def AppPost (g : Nat) (w : World) (L : List Txt) (e : Ending) (w' : World) : Prop := ∃ v, e = .returned v ∧ OwnT w' g v L ∧ Below g w w'
structure AI (g : Nat) (w : World) (hi : Nat) (pre : List Txt) (Z : World) : Prop where
  ex : ∃ v, Boxed Z g 41 v ∧ OwnT Z hi v pre
  kw : Below g w Z

set_option maxRecDepth 100000 in
set_option maxHeartbeats 4000000 in
theorem append_in (n : Nat) (hn : 5 ≤ n) (s : Txt) (hs : s.length ≤ 70000) (B : Nat) (w : World) (hB : B < w.heap.size) (b0 : Boxed w B 9 (.string ⟨s.toArray⟩)) :
    CallsIn Fence.wide n Tryd.prog 58 #[.slice none 0 0, .func (.func 59) #[] #[.pointer (some ⟨B, 0, none⟩)]] w (AppPost w.heap.size w (wordsL s)) := by
  have h1n : 1 ≤ n := by omega
  have WL := Lib.hid (fun pre x (h : (pre ++ [x]) <+: wordsL s) => words_pre h)
  refine callsIn_of_wp_marks Tryd.func58 rfl trivial ?_ rfl
  simp only [Tryd.ntmps58, List.size_toArray, List.length_cons, List.length_nil, Nat.reduceAdd, Nat.reduceSub, Array.replicate_succ, Array.replicate_zero, List.push_toArray, List.append_toArray, List.nil_append, List.cons_append]
  gi_wp2
  obtain ⟨V, hV⟩ : ∃ V, V = w.alloc (.cells #[.slice none 0 0] 41) := ⟨_, rfl⟩
  have sV : V.heap.size = w.heap.size + 1 := by rw [hV, World.size_alloc]
  have yV : Boxed V w.heap.size 41 (.slice none 0 0) := by rw [hV]; exact Boxed.new _ _ _
  have kV : Below w.heap.size w V := by rw [hV]; exact (Below.refl _ _).alloc (Nat.le_refl _) _
  have c0 : Boxed V B 9 (.string ⟨s.toArray⟩) := (kV.block _ b0.lt).trans b0
  rw [← hV]
  have HSV := Lib.hid sV
  clear hV sV
  refine rangeFunc_scr (gf := 59) (lb := #[.pointer (some ⟨B, 0, none⟩)]) ?v (enters_of Tryd.func59 (by kernel_rfl) rfl)
    (words_scr (n - 1) (by omega) s B (V.heap.size + 2) V (by omega) (by have := HSV.out; omega) c0) (fun k h => by have := HSV.out; omega) (fun k h => h.elim) (fun _ => rfl) (fun _ _ _ _ _ _ => trivial)
    (fun hi pre Z => AI w.heap.size w hi pre Z)
    (fun c hi pre Z => False)
    (fun hi p A B hlo h k => ?_) (fun c hi p A B hlo h k => h) (fun hi W1 h1 h2 k => ?_) ?a1 ?assign ?body ?done ?stop
  case v => rfl
  · obtain ⟨⟨v, h1, h2⟩, h3⟩ := h
    have sz := HSV.out
    exact ⟨⟨v, boxed_keep h1 k ⟨fun h => h.elim, .inl (by omega)⟩, h2.keep k fun b hb => ⟨fun h => h.elim, .inr hb⟩⟩, h3.trans (k.below h3.size fun b hb => ⟨fun h => h.elim, .inl (by omega)⟩)⟩
  · have sz := HSV.out
    exact ⟨⟨_, (k.block _ (by omega)).trans yV, OwnT.nil _ _⟩, kV.trans (k.mono (by omega))⟩
  case assign =>
    intro l2 x Z K hK
    gi_wp2
    exact hK
  case body =>
    rintro l2 hi pre x Z h1 h2 h3 ⟨⟨v, bz, oz⟩, kz⟩ -
    have hpl := WL.out pre x h3
    have sz := HSV.out
    have q0 := bz.cell
    obtain ⟨A0, c0', rfl, -⟩ := ReadsS.own oz
    gi_wp2_with (gi_at_builtin; refine wpListIn_txt rfl (.tmp 8) (.tmp 10) rfl hi _ pre x rfl (oz.keep (KeepOn.alloc (S := fun _ => True) _ _) fun _ _ => trivial) Z.heap.size rfl (Boxed.new _ _ _).cell (by omega) (by rw [World.size_alloc]; omega) ?_; intro A' c' w1 o1 k1; have b1 := boxed_keep (bz.alloc _) k1 (by show _ < _; omega); have q1 := b1.cell; have f1 := b1.frozen)
    have kk : KeepOn (fun b => b < hi ∧ b ≠ w.heap.size) Z (w1.setCell ⟨w.heap.size, 0, none⟩ (.slice A' (pre.length + 1) c')) := (((KeepOn.alloc (S := fun b => b < hi) _ _).trans k1).mono fun b _ h => h.1).trans (KeepOn.set _ _ _ fun c => c.2 rfl)
    refine ⟨kk.mono fun b hb h => ?_, ⟨_, b1.set _, o1.keep (KeepOn.set (S := fun b => hi ≤ b) _ _ _ (by show ¬ hi ≤ w.heap.size; omega)) fun _ h => h⟩, kz.trans (kk.below kz.size fun b hb => ⟨by omega, by omega⟩)⟩
    rcases h with h | h
    · exact ⟨by omega, by omega⟩
    · exact ⟨by omega, by omega⟩
  case stop =>
    rintro D c hi pre Z hD hlo hpre h hK
    exact h.elim
  case done =>
    rintro D hi Z hD h1 h2 ⟨⟨v, bz, oz⟩, kz⟩ hK
    have sz := HSV.out
    have q0 := bz.cell
    gi_wp2
    refine ⟨by simp, .inl ⟨_, _, rfl, run_takeDeferred hK, ?_⟩⟩
    refine ⟨_, results_tmp rfl _ _ _, ⟨_, rfl, ?_, ?_⟩⟩
    · exact own_mono (ownsRow_putObj oz (.deferred none) hK rfl) (by omega)
    · exact kz.trans (below_put (by omega))
theorem collect_any (s : Txt) (hs : s.length ≤ 70000) (B : Nat) (w : World) (hB : B < w.heap.size) (b0 : Boxed w B 9 (.string ⟨s.toArray⟩)) :
    Calls Tryd.prog 40 #[.func (.func 59) #[] #[.pointer (some ⟨B, 0, none⟩)]] w (AppPost w.heap.size w (wordsL s)) := by
  have C := Lib.hid ((callsIn_wide (n := 5)).1 (append_in 5 (by decide) s hs B w hB b0))
  generalize wordsL s = L at *
  generalize w.heap.size = g at *
  go_enter Tryd.func40, Tryd.ntmps40
  go_wp2_with fail
  refine C.out.mono ?_
  rintro e w1 ⟨v, rfl, K⟩
  have K := Lib.hid K
  go_wp2
  go_ret
  exact ⟨v, rfl, K.out⟩
end Go.Proofs.YtgjgohnomophnaaDoor
