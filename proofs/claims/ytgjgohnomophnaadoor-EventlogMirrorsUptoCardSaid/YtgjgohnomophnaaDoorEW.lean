/- Event logs: the words of a line, by the program's iterator. -/
import Derived.Test.YtgjgohnomophnaaDoorSS
import Derived.Laws.EntriesVeiled
namespace Go.Proofs.YtgjgohnomophnaaDoor
open Go.RowKit Go.Shelf

attribute [local go_sem] Oper.semAt_some

theorem yield_round {m l0 : Nat} (m' : Nat) {P : Program} {l : Nat} {args : Array Value} {W : World} {R : Ending → World → Prop} (h : YieldAt Fence.wide m P l args W R) : YieldAt (Fence.wide.inRound l0) m' P l args W R := by
  obtain ⟨fn, tmps, assign, body, hy, hF, hr⟩ := h
  exact ⟨fn, tmps, assign, body, hy, hF, fun c cs _ => hr c cs (by simp [Fence.room, Fence.inRound, Fence.wide])⟩
/-- the parts of a line that are not empty -/
def neL (L : List (List UInt8)) : List (List UInt8) := L.filter fun x => decide (x ≠ [])
def wordsL (s : List UInt8) : List (List UInt8) := neL (pieces 32 s)
theorem neL_snoc (L : List (List UInt8)) (x : List UInt8) : neL (L ++ [x]) = if x = [] then neL L else neL L ++ [x] := by
  unfold neL
  rw [List.filter_append]
  by_cases h : x = []
  · rw [if_pos h]; simp [h]
  · rw [if_neg h]; simp [h]
theorem neL_pre {A B : List (List UInt8)} (h : A <+: B) : neL A <+: neL B := by
  obtain ⟨t, rfl⟩ := h
  exact ⟨neL t, by unfold neL; rw [List.filter_append]⟩
theorem splitW_boxes (w : World) (s : ByteArray) (c : UInt8) : Boxed (splitW w s c) w.heap.size 9 (.string s) ∧ Boxed (splitW w s c) (w.heap.size + 1) 9 (.string ⟨#[c]⟩) ∧ Boxed (splitW w s c) (w.heap.size + 2) 3 (.int .i64 0) := by
  refine ⟨((Boxed.new w _ _).alloc _).alloc _, ?_, ?_⟩
  · have h := Boxed.new (w.alloc (.cells #[.string s] 9)) 9 (.string ⟨#[c]⟩)
    rw [World.size_alloc] at h
    exact h.alloc _
  · have h := Boxed.new ((w.alloc (.cells #[.string s] 9)).alloc (.cells #[.string ⟨#[c]⟩] 9)) 3 (.int .i64 0)
    rw [World.size_alloc, World.size_alloc] at h
    exact h
set_option maxRecDepth 100000 in
set_option maxHeartbeats 4000000 in
theorem words_scr (n : Nat) (hn : 3 ≤ n) (s : List UInt8) (B lo : Nat) (w : World) (hs : s.length ≤ 4611686018427387904) (hB : B < lo) (b0 : Boxed w B 9 (.string ⟨s.toArray⟩)) :
    SeqScr n Tryd.prog 59 #[.pointer (some ⟨B, 0, none⟩)] (fun x : List UInt8 => #[Value.string ⟨x.toArray⟩]) (fun _ _ _ => True) (fun _ => False) (fun k => k = B) (wordsL s) lo w := by
  intro l J Jx W hlo hW hst hstx h0 hY
  have h1n : 1 ≤ n := by omega
  have b0 : Boxed W B 9 (.string ⟨s.toArray⟩) := (hW.block _ b0.lt).trans b0
  subst hlo
  have SC := Lib.hid (fun W => split_call ⟨s.toArray⟩ 32 W)
  have q0 : (W.alloc (.cells #[.func (.yield l) #[] #[]] 30)).cell? ⟨B, 0, none⟩ = some (.string ⟨s.toArray⟩) := (b0.alloc _).cell
  refine callsIn_of_wp_marks Tryd.func59 rfl trivial ?_ rfl
  simp only [Tryd.ntmps59, List.size_toArray, List.length_cons, List.length_nil, Nat.reduceAdd, Nat.reduceSub, Array.replicate_succ, Array.replicate_zero, List.push_toArray, List.append_toArray, List.nil_append, List.cons_append]
  gi_wp2_with (refine ⟨trivial, ?_⟩; gi_at_call 39; refine (callsIn_wide.2 (SC.out _)).mono ?_; rintro e w' ⟨rfl, rfl⟩)
  obtain ⟨V, hV⟩ : ∃ V, V = W.alloc (.cells #[.func (.yield l) #[] #[]] 30) := ⟨_, rfl⟩
  have sV : V.heap.size = W.heap.size + 1 := by rw [hV, World.size_alloc]
  have yV : Boxed V W.heap.size 30 (.func (.yield l) #[] #[]) := by rw [hV]; exact Boxed.new _ _ _
  have kV : Below W.heap.size W V := by rw [hV]; exact (Below.refl _ _).alloc (Nat.le_refl _) _
  rw [← hV]
  obtain ⟨c0, c1, c2⟩ := splitW_boxes V ⟨s.toArray⟩ 32
  have kX := splitW_below V ⟨s.toArray⟩ 32
  have sX := splitW_size V ⟨s.toArray⟩ 32
  have yX := boxed_keep yV (KeepOn.of_below (fun _ => True) kX) trivial
  obtain ⟨X, hX⟩ : ∃ X, X = splitW V ⟨s.toArray⟩ 32 := ⟨_, rfl⟩
  rw [← hX] at c0 c1 c2 kX sX yX ⊢
  rw [sV] at c0 c1 c2 sX
  have HSX := Lib.hid sX
  have kWX : Below W.heap.size W X := kV.trans (kX.mono (by omega))
  clear sX hX kX
  refine rangeFunc_scr (gf := 66) (lb := #[.pointer (some ⟨W.heap.size + 1 + 1, 0, none⟩), .pointer (some ⟨W.heap.size + 1, 0, none⟩), .pointer (some ⟨W.heap.size + 1 + 2, 0, none⟩)]) ?v (enters_of Tryd.func66 (by kernel_rfl) rfl)
    (split_scr (n - 1) (by omega) s 32 (W.heap.size + 1) X hs (X.heap.size + 2) (by have := HSX.out; omega) c0 c1 c2) (fun k h => by have := HSX.out; omega) (fun k h => by have := HSX.out; omega) (fun _ => rfl) (fun _ _ _ _ _ _ => trivial)
    (fun hi pre Z => J hi (neL pre) Z ∧ Boxed Z W.heap.size 30 (.func (.yield l) #[] #[]))
    (fun c hi pre Z => c = .ret ∧ Jx hi (neL pre) Z)
    (fun hi p A B hlo h k => ⟨?_, ?_⟩) (fun c hi p A B hlo h k => ⟨h.1, ?_⟩) (fun hi W1 h1 h2 k => ⟨?_, ?_⟩) ?a1 ?assign ?body ?done ?stop
  case v => rfl
  · exact hst hi _ A B (by have := HSX.out; omega) h.1 (k.mono fun i _ h => ⟨by have := HSX.out; omega, by have := HSX.out; omega⟩)
  · exact boxed_keep h.2 k ⟨by omega, .inl (by have := HSX.out; omega)⟩
  · exact hstx hi _ A B (by have := HSX.out; omega) h.2 (k.mono fun i _ h => ⟨by have := HSX.out; omega, by have := HSX.out; omega⟩)
  · exact h0 hi W1 (by have := HSX.out; omega) h2 (KeepOn.of_belowN (kWX.trans (k.mono (by have := HSX.out; omega))) fun k h => h)
  · exact (k.block _ (by have := HSX.out; omega)).trans yX
  case assign =>
    intro l2 x Z K hK
    gi_wp2
    exact hK
  case body =>
    rintro l2 hi pre x Z h1 h2 h3 ⟨hJ, yZ⟩ -
    have qy := yZ.cell
    by_cases hx : x = []
    · subst hx
      gi_wp2
      refine ⟨fun _ h => (by cases h), ?_⟩
      gi_wp2
      exact ⟨KeepOn.refl _ _, by rw [neL_snoc, if_pos rfl]; exact hJ, yZ⟩
    · have hx2 : (x == []) = false := by simpa using hx
      have hx3 : (x != []) = true := by simpa using hx
      have HN : Hid (neL (pre ++ [x]) = neL pre ++ [x]) := by show _ = _; rw [neL_snoc, if_neg hx]
      have HP : Hid ((neL pre ++ [x]) <+: wordsL s) := by
        show _ <+: _
        rw [← HN.out]
        exact neL_pre h3
      obtain ⟨fn, tmps, assign, body, hy, hR⟩ := yield_round (l0 := l2) (n - 1 - 1 - 1) (hY hi (neL pre) x Z (by have := HSX.out; omega) h2 HP.out hJ trivial)
      have h1n' : 1 ≤ n - 1 - 1 := by omega
      gi_wp2
      refine hR.mono ?_
      rintro e Z3 (⟨rfl, hJ3, k3⟩ | ⟨rfl, hx3, k3⟩)
      · gi_wp2
        exact ⟨k3.mono fun i _ h => .inr (by have := HSX.out; omega), by rw [HN.out]; exact hJ3, boxed_keep yZ k3 (.inr ⟨Nat.le_refl _, by have := HSX.out; omega⟩)⟩
      · gi_wp2
        exact ⟨k3.mono fun i _ h => .inr (by have := HSX.out; omega), rfl, by rw [HN.out]; exact hx3⟩
  case stop =>
    rintro D c hi pre Z hD hlo hpre ⟨rfl, hx⟩ hK
    gi_wp2
    refine ⟨by simp, .inl ⟨_, _, rfl, run_takeDeferred hK, ?_⟩⟩
    exact ⟨_, results_none rfl _ _ _, ⟨_, rfl⟩, .inr ⟨hi, neL pre, by have := HSX.out; omega, neL_pre hpre, hstx hi _ _ _ (by have := HSX.out; omega) hx (KeepOn.put _ _ _ (by have := HSX.out; rintro ⟨_, h⟩; omega))⟩⟩
  case done =>
    rintro D hi Z hD h1 h2 ⟨hJ, -⟩ hK
    simp only [Exit.inBlock, Exit.then]
    refine ⟨by simp, .inl ⟨_, _, rfl, run_takeDeferred hK, ?_⟩⟩
    exact ⟨_, results_none rfl _ _ _, ⟨_, rfl⟩, .inl ⟨hi, by have := HSX.out; omega, by simpa using h2, hst hi _ _ _ (by have := HSX.out; omega) hJ (KeepOn.put _ _ _ (by have := HSX.out; rintro ⟨_, h⟩; omega))⟩⟩
end Go.Proofs.YtgjgohnomophnaaDoor
