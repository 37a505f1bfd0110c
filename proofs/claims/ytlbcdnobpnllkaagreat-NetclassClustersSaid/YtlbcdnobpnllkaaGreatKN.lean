/- Lists of -1: slices.Repeat of one number. -/
import Derived.Test.YtlbcdnobpnllkaaGreatKE
import Derived.Test.YtlbcdnobpnllkaaGreatShelf
import Derived.Laws.CopyOwn
import Derived.Deep.RegionLaw
import Derived.Deep.RegionHeld3
import Derived.Deep.RegionWith
namespace Go.Proofs.YtlbcdnobpnllkaaGreat
open Go.RowKit Go.Deep

theorem infoI1 : (Tryz.prog.info? 3).map (·.size) = some 1 := by kernel_rfl
theorem run_make_oneI (n : Nat) (hn : n ≤ 100000) (w : World) : (Instr.makeSlice 34 (.int .i64 (n : Int)) (.int .i64 (n : Int))).run Tryz.prog w = .ok (.slice (some ⟨w.heap.size, 0, none⟩) n n) (w.alloc (.cells (madeCells #[.int .i64 0] n) 3)) := by
  obtain ⟨i, hi, hz, hs, hb⟩ := Dg.info_parts Dg.infoI
  exact run_make_row (P := Tryz.prog) 34 3 i _ Tryz.underlying34 hi hz hs rfl .i64 .i64 n (by rw [hb]; omega) (by omega) w
theorem oper_copy_splice {P : Program} {o : Oper} {a : Act} {w : World} {K : Act → World → Prop} {Q : Exit → Act → World → Prop} (hgd : o.guard = none) (d s : Operand) (dT sT : TypeId)
    (ho : o.op = .call { callee := .builtin .copy, args := #[d, s], argTypes := #[dT, sT] }) (elem : TypeId) (hu : P.underlying dT = some (.slice elem)) (hsz : (P.info? elem).map (·.size) = some 1)
    (dp sp : Option Addr) (dLen dCap sLen sCap : Nat) (hd : a.eval d = .slice dp dLen dCap) (hs : a.eval s = .slice sp sLen sCap)
    (g off : Nat) (cur : List Value) (t : TypeId) (hg : w.heap[g]? = some (.cells cur.toArray t (0, 0))) (cs : List Value) (hn : cs.length = Nat.min sLen dLen)
    (hpos : 0 < cs.length → dp = some ⟨g, off, none⟩ ∧ ∃ ad, sp = some ad ∧ ∀ j v, cs[j]? = some v → w.cell? (ad.add j) = some v)
    (hfit : off + cs.length ≤ cur.length) (h1 : ∀ v ∈ cs, v.oneCell' = true) (B : Nat) (w0 : World) (hb : Below B w0 w) (hBg : B ≤ g)
    (h : ∀ w', Hid (w'.heap[g]? = some (.cells (splice cur off cs).toArray t (0, 0))) → Below B w0 w' → K (a.put o.dst (goInt cs.length)) w') :
    Oper.wp P o a w K Q := by
  have hw : Region.wanted o (yielded #[] a.tmps) = true := by simp [Region.wanted, hgd]
  have hx := step_copy_splice (ops := #[]) (Q := Q) (E := True) hgd d s dT sT ho elem hu hsz dp sp dLen dCap sLen sCap hd hs g off cur t hg cs hn hpos hfit h1 B w0 hb hBg h
  rwa [if_pos hw] at hx
theorem rep_src {w : World} {g k m : Nat} {L : List Value} {t : TypeId} (h : w.heap[g]? = some (.cells (List.replicate k (Value.int .i64 (-1)) ++ L).toArray t (0, 0))) (hm : m ≤ k) : ∀ j v, (List.replicate m (Value.int .i64 (-1)))[j]? = some v → w.cell? (Addr.add ⟨g, 0, none⟩ j) = some v := fun j v hj => by
  have hj2 : j < m := by
    have := (List.getElem?_eq_some_iff.1 hj).1
    simpa using this
  have hv : Value.int .i64 (-1) = v := by simpa [List.getElem?_replicate, hj2] using hj
  have h4 : w.cell? ⟨g, j, none⟩ = some (.int .i64 (-1)) := by
    simp [World.cell?, h, List.getElem?_append_left, List.getElem?_replicate, show j < k by omega]
  rw [← hv]
  cases j with
  | zero => simpa [Addr.add] using h4
  | succ j => simpa [Addr.add] using h4
theorem rep_splice {N k m : Nat} (hm : m ≤ N - k) : splice (List.replicate k (Value.int .i64 (-1)) ++ List.replicate (N - k) (Value.int .i64 0)) k (List.replicate m (Value.int .i64 (-1))) = List.replicate (k + m) (Value.int .i64 (-1)) ++ List.replicate (N - (k + m)) (Value.int .i64 0) := by
  unfold splice
  rw [List.length_replicate, List.take_append_of_le_length (by simp), List.take_of_length_le (by simp), List.drop_append, List.drop_of_length_le (by simp), List.length_replicate, List.drop_replicate, List.nil_append, ← List.append_assoc, List.replicate_append_replicate]
  congr 2
  omega
set_option maxHeartbeats 1000000 in
set_option maxRecDepth 100000 in
theorem repeat_any (x N : Nat) (w : World) (h1 : 1 ≤ N) (hN : N ≤ 1000) (hx : w.cell? ⟨x, 0, none⟩ = some (.int .i64 (-1))) (hlt : x < w.heap.size) :
    Calls Tryz.prog 107 #[.slice (some ⟨x, 0, none⟩) 1 1, .int .i64 (N : Int)] w fun e w' => e = .returned (.slice (some ⟨w.heap.size, 0, none⟩) N N) ∧ w'.heap[w.heap.size]? = some (.cells (List.replicate N (Value.int .i64 (-1))).toArray 3 (0, 0)) ∧ Below w.heap.size w w' := by
  have CM := Tryz.bits_Mul 1 N (by decide) (by omega) w
  rw [Nat.one_mul, Nat.div_eq_of_lt (by omega), Nat.mod_eq_of_lt (by omega)] at CM
  have CM := Lib.hid CM
  have hmk := run_make_oneI N (by omega)
  have hw1 : IntKind.u64.wrap (N : Int) = (N : Int) := by rw [IntKind.wrap_u64]; omega
  have hw2 : IntKind.i64.wrap (N : Int) = (N : Int) := by rw [IntKind.wrap_i64]; omega
  have hlo : ¬ (9223372036854775807 : Int) < (N : Int) := by omega
  have hneg : ¬ (N : Int) < 0 := by omega
  have HX := Lib.hid (And.intro hx hlt)
  clear hx hlt
  go_enter Tryz.func107, Tryz.ntmps107
  go_wp2_with fail
  refine CM.out.mono ?_
  rintro e w1 ⟨rfl, rfl⟩
  obtain ⟨w2, hw2'⟩ : ∃ w2, w2 = w1.alloc (.cells (madeCells #[.int .i64 0] N) 3) := ⟨_, rfl⟩
  have h2 : w2.heap[w1.heap.size]? = some (.cells (List.replicate N (Value.int .i64 0)).toArray 3 (0, 0)) := by
    rw [hw2']
    have e : madeCells #[Value.int .i64 0] N = (List.replicate N (Value.int .i64 0)).toArray := Array.toList_inj.1 (by rw [toList_madeCells_one])
    rw [e]
    exact heap_alloc_new w1 _
  have B2 : Below w1.heap.size w1 w2 := by rw [hw2']; exact (Below.refl _ _).alloc (Nat.le_refl _) _
  have hx2 : w2.cell? ⟨x, 0, none⟩ = some (.int .i64 (-1)) := (B2.cell (p := ⟨x, 0, none⟩) HX.out.2).trans HX.out.1
  have HW2 := Lib.hid hw2'
  clear hw2'
  have hsrc : ∀ j v, [Value.int .i64 (-1)][j]? = some v → w2.cell? (Addr.add ⟨x, 0, none⟩ j) = some v := fun j v hj => by
    cases j with
    | zero => simp at hj; subst hj; simpa [Addr.add] using hx2
    | succ j => simp at hj
  have HSRC := Lib.hid hsrc
  have H2 := Lib.hid h2
  have B2 := Lib.hid B2
  have SPL : Hid (splice (List.replicate N (Value.int .i64 0)) 0 [Value.int .i64 (-1)] = List.replicate 1 (Value.int .i64 (-1)) ++ List.replicate (N - 1) (Value.int .i64 0)) := by
    show _ = _
    have h := rep_splice (N := N) (k := 0) (m := 1) (by omega)
    simpa using h
  have hmin : Nat.min 1 N = 1 := by show min 1 N = 1; omega
  have HMIN := Lib.hid hmin
  clear hsrc h2 hx2 CM
  go_wp2_with (rw [← HW2.out]; (refine wpList_copy_splice rfl (.tmp 31) (.tmp 32) 34 34 rfl 3 Tryz.underlying34 infoI1 (some ⟨w1.heap.size, 0, none⟩) (some ⟨x, 0, none⟩) N N 1 1 rfl rfl w1.heap.size 0 (List.replicate N (Value.int .i64 0)) 3 H2.out [.int .i64 (-1)] HMIN.out.symm (fun _ => ⟨rfl, _, rfl, HSRC.out⟩) (by simp; omega) (by simp [Value.oneCell']) w1.heap.size w1 B2.out (Nat.le_refl _) ?_); intro w3 h3 B3)
  rw [SPL.out] at h3
  have H3 := Lib.hid h3.out
  have B3 := Lib.hid B3
  clear h3 SPL H2 HSRC HW2 B2 HX CM HMIN hmin hw1 hlo hneg
  go_wp2_with fail
  go_loopw [8] (fun q wr => ∃ k : Nat, 1 ≤ k ∧ k ≤ N ∧ q = .int .i64 (k : Nat) ∧ Hid (wr.heap[w1.heap.size]? = some (.cells (List.replicate k (Value.int .i64 (-1)) ++ List.replicate (N - k) (Value.int .i64 0)).toArray 3 (0, 0))) ∧ Hid (Below w1.heap.size w1 wr)) (fun q _ => N - (intOf q).toNat)
  case atStart => exact ⟨1, by omega, by omega, rfl, H3, B3⟩
  case round =>
    clear H3 B3
    obtain ⟨wo, rfl⟩ : ∃ wo, wo = wr := ⟨_, rfl⟩
    obtain ⟨k, h1k, hk, rfl, HG, BB⟩ := hrel
    by_cases hlt : k < N
    · obtain ⟨m, hm⟩ : ∃ m, m = Nat.min k (N - k) := ⟨_, rfl⟩
      have HM : Hid (m = Nat.min k (N - k) ∧ m ≤ k ∧ m ≤ N - k ∧ 1 ≤ m) := ⟨hm, by rw [hm]; exact Nat.min_le_left _ _, by rw [hm]; exact Nat.min_le_right _ _, by rw [hm]; show 1 ≤ min k (N - k); omega⟩
      have hkm : k + m ≤ N := by have := HM.out; omega
      have hsub : (N : Int) - (k : Int) = ((N - k : Nat) : Int) := by omega
      have hne : ¬ N = k := by omega
      have hwk : IntKind.i64.wrap ((k : Int) + (m : Int)) = ((k + m : Nat) : Int) := by rw [IntKind.wrap_i64]; omega
      clear hm
      go_upto_region 10 with fail
      refine wp_region_held_drew (S := fun w' => Hid (Below w1.heap.size w1 w')) (by kernel_rfl) ?_ (fun hHeld => ?_)
      · exact BB.out.drew
      refine wpAnyH_take (oi := ⟨_, _, _, _, _, _⟩) (i := 0) (v := ?_) rfl (by kernel_rfl) (by kernel_rfl) (by kernel_rfl) (fun _ _ _ h => h) (Or.inl ⟨by rfl, ?yn0⟩) (by assumption) ?rn0
      case yn0 => (intro w hSw; (try dsimp only at hSw); go_simp; (try with_reducible rfl))
      try simp only [Act.put, List.setIfInBounds_toArray, List.set_cons_zero, List.set_cons_succ]
      refine wpAnyH_take (oi := ⟨_, _, _, _, _, _⟩) (i := 1) (v := ?_) rfl (by kernel_rfl) (by kernel_rfl) (by kernel_rfl) (fun _ _ _ h => h) (Or.inl ⟨by rfl, ?yn1⟩) (by assumption) ?rn1
      case yn1 => (intro w hSw; (try dsimp only at hSw); go_simp; (try with_reducible rfl))
      try simp only [Act.put, List.setIfInBounds_toArray, List.set_cons_zero, List.set_cons_succ]
      refine wpAnyH_take (oi := ⟨_, _, _, _, _, _⟩) (i := 2) (v := ?_) rfl (by kernel_rfl) (by kernel_rfl) (by kernel_rfl) (fun _ _ _ h => h) (Or.inl ⟨by rfl, ?yn2⟩) (by assumption) ?rn2
      case yn2 => (intro w hSw; (try dsimp only at hSw); go_simp; (try with_reducible rfl))
      try simp only [Act.put, List.setIfInBounds_toArray, List.set_cons_zero, List.set_cons_succ]
      refine wpAnyH_take (oi := ⟨_, _, _, _, _, _⟩) (i := 3) (v := ?_) rfl (by kernel_rfl) (by kernel_rfl) (by kernel_rfl) (fun _ _ _ h => h) (Or.inl ⟨by rfl, ?yn3⟩) (by assumption) ?rn3
      case yn3 => (intro w hSw; (try dsimp only at hSw); go_simp; (try with_reducible rfl))
      try simp only [Act.put, List.setIfInBounds_toArray, List.set_cons_zero, List.set_cons_succ]
      refine wpAnyH_take (oi := ⟨_, _, _, _, _, _⟩) (i := 4) (v := ?_) rfl (by kernel_rfl) (by kernel_rfl) (by kernel_rfl) (fun _ _ _ h => h) (Or.inl ⟨by rfl, ?yn4⟩) (by assumption) ?rn4
      case yn4 => (intro w hSw; (try dsimp only at hSw); go_simp; (try with_reducible rfl))
      try simp only [Act.put, List.setIfInBounds_toArray, List.set_cons_zero, List.set_cons_succ]
      refine wpAnyH_take (oi := ⟨_, _, _, _, _, _⟩) (i := 5) (v := ?_) rfl (by kernel_rfl) (by kernel_rfl) (by kernel_rfl) (fun _ _ _ h => h) (Or.inl ⟨by rfl, ?yn5⟩) (by assumption) ?rn5
      case yn5 => (intro w hSw; (try dsimp only at hSw); go_simp; (try with_reducible rfl))
      try simp only [Act.put, List.setIfInBounds_toArray, List.set_cons_zero, List.set_cons_succ]
      refine wpAnyH_take (oi := ⟨_, _, _, _, _, _⟩) (i := 6) (v := ?_) rfl (by kernel_rfl) (by kernel_rfl) (by kernel_rfl) (fun _ _ _ h => h) (Or.inl ⟨by rfl, ?yn6⟩) (by assumption) ?rn6
      case yn6 => (intro w hSw; (try dsimp only at hSw); go_simp; (try with_reducible rfl))
      try simp only [Act.put, List.setIfInBounds_toArray, List.set_cons_zero, List.set_cons_succ]
      refine wpAnyH_ready (rs := [7]) (by kernel_rfl) (by simp) ?_
      refine AllReadyH.cons (o := ⟨_, _, _, _, _, _⟩) rfl (fun K hK => ?_) AllReadyH.nil
      have hz0 : wo.drew.heap[w1.heap.size]? = _ := HG.out
      have hB0 := hHeld
      refine oper_copy_splice (by rfl) (.tmp 41) (.tmp 44) 34 34 (by rfl) 3 Tryz.underlying34 infoI1 (some ⟨w1.heap.size, k, none⟩) (some ⟨w1.heap.size, 0, none⟩) (N - k) (N - k) k N (by go_simp) (by go_simp) w1.heap.size k (List.replicate k (Value.int .i64 (-1)) ++ List.replicate (N - k) (Value.int .i64 0)) 3 hz0 (List.replicate m (Value.int .i64 (-1))) (by rw [List.length_replicate]; show _ = Nat.min k (N - k); exact HM.out.1) (fun _ => ⟨rfl, _, rfl, rep_src hz0 (by have := HM.out; omega)⟩) (by have := HM.out; simp; omega) (by simp [Value.oneCell']) w1.heap.size w1 hB0.out (Nat.le_refl _) ?_
      intro w4 h5 B4
      rw [rep_splice (by have := HM.out; omega)] at h5
      rw [List.length_replicate]
      refine hK.out _ _ ?_ (fun hHeld2 => ?_)
      · exact Lib.hid B4
      clear hK K hB0 hz0 hHeld
      have hHeld := hHeld2
      clear hHeld2
      try simp only [Act.put, List.setIfInBounds_toArray, List.set_cons_zero, List.set_cons_succ]
      refine wpAnyH_take (oi := ⟨_, _, _, _, _, _⟩) (i := 8) (v := ?_) rfl (by kernel_rfl) (by kernel_rfl) (by kernel_rfl) (fun _ _ _ h => h) (Or.inl ⟨by rfl, ?yn8⟩) (by assumption) ?rn8
      case yn8 => (intro w hSw; (try dsimp only at hSw); go_simp; (try with_reducible rfl))
      try simp only [Act.put, List.setIfInBounds_toArray, List.set_cons_zero, List.set_cons_succ]
      refine wpAnyH_take (oi := ⟨_, _, _, _, _, _⟩) (i := 9) (v := ?_) rfl (by kernel_rfl) (by kernel_rfl) (by kernel_rfl) (fun _ _ _ h => h) (Or.inl ⟨by rfl, ?yn9⟩) (by assumption) ?rn9
      case yn9 => (intro w hSw; (try dsimp only at hSw); go_simp; (try with_reducible rfl))
      try simp only [Act.put, List.setIfInBounds_toArray, List.set_cons_zero, List.set_cons_succ]
      refine wpAnyH_done (by kernel_rfl) ?_ _
      have H4 := h5
      have B4' := Lib.hid hHeld.out
      have hm1 := HM.out.2.2.2
      clear hHeld HG BB
      go_wp2
      go_roundw
      case rel => exact ⟨k + m, by omega, by omega, by go_num, H4, B4'⟩
      case measure => simp [intOf]; omega
    · obtain rfl : k = N := by omega
      have H5 : Hid (wo.heap[w1.heap.size]? = some (.cells (List.replicate k (Value.int .i64 (-1))).toArray 3 (0, 0))) := by
        have h := HG.out
        rw [Nat.sub_self, List.replicate_zero, List.append_nil] at h
        exact h
      clear HG
      go_wp2
      go_ret
      exact ⟨rfl, H5.out, BB.out⟩
end Go.Proofs.YtlbcdnobpnllkaaGreat
