/- Lists of -1: nowhere at two states (slices.Repeat walked at two). -/
import Derived.Test.YthcbcgaekbmoaaaSE
import Derived.Laws.CopyOwn
import Derived.Deep.RegionLaw
namespace Go.Proofs.Ythcbcgaekbmoaaa
open Go.RowKit Go.Deep

theorem run_make_ints (n : Nat) (hn : n ≤ 100000) (w : World) : (Instr.makeSlice 34 (.int .i64 (n : Int)) (.int .i64 (n : Int))).run Try.prog w = .ok (.slice (some ⟨w.heap.size, 0, none⟩) n n) (w.alloc (.cells (madeCells #[.int .i64 0] n) 3)) := by
  obtain ⟨i, hi, hzz⟩ := Option.map_eq_some_iff.1 infoI
  simp only [Prod.mk.injEq] at hzz
  obtain ⟨hz, hs, hb⟩ := hzz
  have hr := run_make (P := Try.prog) w 34 3 i _ Try.underlying34 hi hz .i64 .i64 n n (by omega) (Int.le_refl _) (by rw [hb]; omega) (by omega)
  simp only [Int.toNat_natCast, hs, Nat.mul_one] at hr
  exact hr
theorem made_two : madeCells #[Value.int .i64 0] 2 = #[.int .i64 0, .int .i64 0] := Array.toList_inj.1 (by rw [toList_madeCells_one]; rfl)
theorem infoI1 : (Try.prog.info? 3).map (·.size) = some 1 := by kernel_rfl
def TwoPost (g : Nat) (w : World) (e : Ending) (w' : World) : Prop := ∃ q, e = .returned (.slice (some ⟨q, 0, none⟩) 2 2) ∧ w'.heap[q]? = some (.cells #[.int .i64 (-1), .int .i64 (-1)] 3 (0, 0)) ∧ g ≤ q ∧ Below g w w'
theorem src_one {w : World} {g : Nat} {z : Value} {t : TypeId} (h : w.heap[g]? = some (.cells ([Value.int .i64 (-1), z]).toArray t (0, 0))) : ∀ j v, [Value.int .i64 (-1)][j]? = some v → w.cell? (Addr.add ⟨g, 0, none⟩ j) = some v := fun j v hj => by
  cases j with
  | zero =>
    simp at hj
    subst hj
    simp [Addr.add, World.cell?, h]
  | succ j => simp at hj
theorem oper_copy_splice {P : Program} {o : Oper} {a : Act} {w : World} {K : Act → World → Prop} {Q : Exit → Act → World → Prop} (hgd : o.guard = none) (d s : Operand) (dT sT : TypeId)
    (ho : o.op = .call { callee := .builtin .copy, args := #[d, s], argTypes := #[dT, sT] }) (elem : TypeId) (hu : P.underlying dT = some (.slice elem)) (hsz : (P.info? elem).map (·.size) = some 1)
    (dp sp : Option Addr) (dLen dCap sLen sCap : Nat) (hd : a.eval d = .slice dp dLen dCap) (hs : a.eval s = .slice sp sLen sCap)
    (g off : Nat) (cur : List Value) (t : TypeId) (hg : w.heap[g]? = some (.cells cur.toArray t (0, 0))) (cs : List Value) (hn : cs.length = Nat.min sLen dLen)
    (hpos : 0 < cs.length → dp = some ⟨g, off, none⟩ ∧ ∃ ad, sp = some ad ∧ ∀ j v, cs[j]? = some v → w.cell? (ad.add j) = some v)
    (hfit : off + cs.length ≤ cur.length) (h1 : ∀ v ∈ cs, v.oneCell' = true) (B : Nat) (w0 : World) (hb : Below B w0 w) (hBg : B ≤ g)
    (h : ∀ w', Hid (w'.heap[g]? = some (.cells (splice cur off cs).toArray t (0, 0))) → Below B w0 w' → K (a.put o.dst (goInt cs.length)) w') :
    Oper.wp P o a w K Q := by
  have hw : Region.wanted o (yielded #[] a.tmps) = true := by simp [Region.wanted, hgd]
  have hx := step_copy_splice (ops := #[]) (Q := Q) (E := True) hgd d s dT sT ho elem hu hsz dp sp dLen dCap sLen sCap hd hs g off cur t hg cs hn hpos hfit h1 B w0 hb hBg h
  rwa [if_pos hw] at hx
set_option maxHeartbeats 400000 in
set_option maxRecDepth 100000 in
theorem repeat_two (x : Nat) (w : World) (hx : w.cell? ⟨x, 0, none⟩ = some (.int .i64 (-1))) (hlt : x < w.heap.size) :
    Calls Try.prog 48 #[.slice (some ⟨x, 0, none⟩) 1 1, .int .i64 2] w (TwoPost w.heap.size w) := by
  have CM := Lib.hid (Try.bits_Mul 1 2 (by decide) (by decide) w)
  have hmk : ∀ w : World, (Instr.makeSlice 34 (.int .i64 2) (.int .i64 2)).run Try.prog w = .ok (.slice (some ⟨w.heap.size, 0, none⟩) 2 2) (w.alloc (.cells (madeCells #[.int .i64 0] 2) 3)) := fun w => run_make_ints 2 (by decide) w
  have HX := Lib.hid (And.intro hx hlt)
  clear hx hlt
  go_enter Try.func48, Try.ntmps48
  go_wp2_with fail
  refine CM.out.mono ?_
  rintro e w1 ⟨rfl, rfl⟩
  obtain ⟨w2, hw2⟩ : ∃ w2, w2 = w1.alloc (.cells (madeCells #[.int .i64 0] 2) 3) := ⟨_, rfl⟩
  have h2 : w2.heap[w1.heap.size]? = some (.cells ([Value.int .i64 0, .int .i64 0]).toArray 3 (0, 0)) := by
    rw [hw2, made_two]
    exact heap_alloc_new w1 _
  have B2 : Below w1.heap.size w1 w2 := by rw [hw2]; exact (Below.refl _ _).alloc (Nat.le_refl _) _
  have hx2 : w2.cell? ⟨x, 0, none⟩ = some (.int .i64 (-1)) := (B2.cell (p := ⟨x, 0, none⟩) HX.out.2).trans HX.out.1
  have HW2 := Lib.hid hw2
  clear hw2
  have hsrc : ∀ j v, [Value.int .i64 (-1)][j]? = some v → w2.cell? (Addr.add ⟨x, 0, none⟩ j) = some v := fun j v hj => by
    cases j with
    | zero => simp at hj; subst hj; simpa [Addr.add] using hx2
    | succ j => simp at hj
  have HSRC := Lib.hid hsrc
  have H2 := Lib.hid h2
  clear hsrc h2 hx2
  go_wp2_with (rw [← HW2.out]; (refine wpList_copy_splice rfl (.tmp 31) (.tmp 32) 34 34 rfl 3 Try.underlying34 infoI1 (some ⟨w1.heap.size, 0, none⟩) (some ⟨x, 0, none⟩) 2 2 1 1 rfl rfl w1.heap.size 0 [.int .i64 0, .int .i64 0] 3 H2.out [.int .i64 (-1)] rfl (fun _ => ⟨rfl, _, rfl, HSRC.out⟩) (by decide) (by simp [Value.oneCell']) w1.heap.size w1 B2 (Nat.le_refl _) ?_); intro w3 h3 B3)
  have h4 : Hid (w3.heap[w1.heap.size]? = some (.cells ([Value.int .i64 (-1), .int .i64 0]).toArray 3 (0, 0))) := h3
  have B3 := Lib.hid B3
  clear h3 H2 HSRC HW2 B2
  refine wp_loop_rounds 2 ?_
  rw [rounds_succ]
  go_wp2_with fail
  refine wp_region_held_drew (S := fun w' => (∃ z, w'.heap[w1.heap.size]? = some (.cells ([Value.int .i64 (-1), z]).toArray 3 (0, 0))) ∧ Hid (Below w1.heap.size w1 w')) (by kernel_rfl) ?_ (fun hHeld => ?_)
  · exact ⟨⟨_, h4.out⟩, Lib.hid B3.out.drew⟩
  refine wpAnyH_take (oi := ⟨_, _, _, _, _, _⟩) (i := 0) (v := ?_) rfl (by kernel_rfl) (by kernel_rfl) (by kernel_rfl) (fun _ _ _ h => h) (Or.inl ⟨by rfl, ?yn0⟩) (by assumption) ?rn0
  case yn0 => (intro w hSw; (try dsimp only at hSw); go_simp; (try with_reducible rfl))
  try simp only [Act.put, List.setIfInBounds_toArray, List.set_cons_zero, List.set_cons_succ]
  refine wpAnyH_take (oi := ⟨_, _, _, _, _, _⟩) (i := 1) (v := ?_) rfl (by kernel_rfl) (by kernel_rfl) (by kernel_rfl) (fun _ _ _ h => h) (Or.inl ⟨by rfl, ?yn1⟩) (by assumption) ?rn1
  case yn1 => (intro w hSw; (try dsimp only at hSw); go_simp; (try with_reducible rfl))
  try simp only [Act.put, List.setIfInBounds_toArray, List.set_cons_zero, List.set_cons_succ]
  refine wpAnyH_take (oi := ⟨_, _, _, _, _, _⟩) (i := 2) (v := ?_) rfl (by kernel_rfl) (by kernel_rfl) (by kernel_rfl) (fun _ _ _ h => h) (Or.inl ⟨by rfl, ?yn2⟩) (by assumption) ?rn2
  case yn2 => (intro w hSw; (try dsimp only at hSw); go_simp; (try with_reducible rfl))
  try simp only [Act.put, List.setIfInBounds_toArray, List.set_cons_zero, List.set_cons_succ]
  refine wpAnyH_take (oi := ⟨_, _, _, _, _, _⟩) (i := 3) (v := ?_) rfl (by kernel_rfl) (by kernel_rfl) (by kernel_rfl) (fun _ _ _ h => h) (Or.inl ⟨by rfl, ?yn3⟩) (by assumption) ?rn3
  case yn3 => (intro w hSw; (try dsimp only at hSw); go_simp; (try with_reducible rfl))
  try simp only [Act.put, List.setIfInBounds_toArray, List.set_cons_zero, List.set_cons_succ]
  refine wpAnyH_take (oi := ⟨_, _, _, _, _, _⟩) (i := 4) (v := ?_) rfl (by kernel_rfl) (by kernel_rfl) (by kernel_rfl) (fun _ _ _ h => h) (Or.inl ⟨by rfl, ?yn4⟩) (by assumption) ?rn4
  case yn4 => (intro w hSw; (try dsimp only at hSw); go_simp; (try with_reducible rfl))
  try simp only [Act.put, List.setIfInBounds_toArray, List.set_cons_zero, List.set_cons_succ]
  refine wpAnyH_take (oi := ⟨_, _, _, _, _, _⟩) (i := 5) (v := ?_) rfl (by kernel_rfl) (by kernel_rfl) (by kernel_rfl) (fun _ _ _ h => h) (Or.inl ⟨by rfl, ?yn5⟩) (by assumption) ?rn5
  case yn5 => (intro w hSw; (try dsimp only at hSw); go_simp; (try with_reducible rfl))
  try simp only [Act.put, List.setIfInBounds_toArray, List.set_cons_zero, List.set_cons_succ]
  refine wpAnyH_take (oi := ⟨_, _, _, _, _, _⟩) (i := 6) (v := ?_) rfl (by kernel_rfl) (by kernel_rfl) (by kernel_rfl) (fun _ _ _ h => h) (Or.inl ⟨by rfl, ?yn6⟩) (by assumption) ?rn6
  case yn6 => (intro w hSw; (try dsimp only at hSw); go_simp; (try with_reducible rfl))
  try simp only [Act.put, List.setIfInBounds_toArray, List.set_cons_zero, List.set_cons_succ]
  refine wpAnyH_ready (rs := [7]) (by kernel_rfl) (by simp) ?_
  refine AllReadyH.cons (o := ⟨_, _, _, _, _, _⟩) rfl (fun K hK => ?_) AllReadyH.nil
  obtain ⟨⟨z0, hz0⟩, hB0⟩ := hHeld
  refine oper_copy_splice (by rfl) (.tmp 41) (.tmp 44) 34 34 (by rfl) 3 Try.underlying34 infoI1 (some ⟨w1.heap.size, 1, none⟩) (some ⟨w1.heap.size, 0, none⟩) 1 1 1 2 (by rfl) (by rfl) w1.heap.size 1 [.int .i64 (-1), z0] 3 hz0 [.int .i64 (-1)] (by rfl) (fun _ => ⟨rfl, _, rfl, src_one hz0⟩) (by simp) (by simp [Value.oneCell']) w1.heap.size w1 hB0.out (Nat.le_refl _) ?_
  intro w4 h5 B4
  have h6 : w4.heap[w1.heap.size]? = some (.cells ([Value.int .i64 (-1), .int .i64 (-1)]).toArray 3 (0, 0)) := h5.out
  refine hK.out _ _ ?_ (fun hHeld2 => ?_)
  · exact ⟨⟨_, h6⟩, Lib.hid B4⟩
  clear hK K hB0 hz0 h5
  have h6 := Lib.hid h6
  have B4 := Lib.hid B4
  have hHeld := hHeld2
  clear hHeld2
  try simp only [Act.put, List.setIfInBounds_toArray, List.set_cons_zero, List.set_cons_succ]
  refine wpAnyH_take (oi := ⟨_, _, _, _, _, _⟩) (i := 8) (v := ?_) rfl (by kernel_rfl) (by kernel_rfl) (by kernel_rfl) (fun _ _ _ h => h) (Or.inl ⟨by rfl, ?yn8⟩) (by assumption) ?rn8
  case yn8 => (intro w hSw; (try dsimp only at hSw); go_simp; (try with_reducible rfl))
  try simp only [Act.put, List.setIfInBounds_toArray, List.set_cons_zero, List.set_cons_succ]
  refine wpAnyH_take (oi := ⟨_, _, _, _, _, _⟩) (i := 9) (v := ?_) rfl (by kernel_rfl) (by kernel_rfl) (by kernel_rfl) (fun _ _ _ h => h) (Or.inl ⟨by rfl, ?yn9⟩) (by assumption) ?rn9
  case yn9 => (intro w hSw; (try dsimp only at hSw); go_simp; (try with_reducible rfl))
  try simp only [Act.put, List.setIfInBounds_toArray, List.set_cons_zero, List.set_cons_succ]
  refine wpAnyH_done (by kernel_rfl) ?_ _
  clear hHeld
  go_wp2
  rw [rounds_succ]
  go_wp2
  go_ret
  exact ⟨_, rfl, h6.out, Nat.le_refl _, B4.out⟩
set_option maxHeartbeats 4000000 in
set_option maxRecDepth 100000 in
theorem nowhere_two (w : World) : Calls Try.prog 35 #[.int .i64 2] w (TwoPost w.heap.size w) := by
  have CR := Lib.hid (fun x w hx hlt => repeat_two x w hx hlt)
  go_enter Try.func35, Try.ntmps35
  go_wp2_with fail
  refine (CR.out w.heap.size _ (by rw [World.cell?_alloc_new]; rfl) (by rw [World.size_alloc]; omega)).mono ?_
  rintro e w2 ⟨q, rfl, h1, h2, h3⟩
  have BB := Lib.hid (((Below.refl _ w).alloc (Nat.le_refl _) (Obj.cells #[Value.int IntKind.i64 (-1)] 3)).trans (h3.mono (by rw [World.size_alloc]; omega)))
  rw [World.size_alloc] at h2
  clear h3
  have h1 := Lib.hid h1
  have h2 := Lib.hid h2
  go_wp2
  go_ret
  exact ⟨_, rfl, h1.out, by have := h2.out; omega, BB.out⟩
end Go.Proofs.Ythcbcgaekbmoaaa
