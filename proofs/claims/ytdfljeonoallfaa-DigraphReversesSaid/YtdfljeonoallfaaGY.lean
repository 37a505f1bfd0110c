/- Graphs: Components. -/
import Derived.Test.YtdfljeonoallfaaGX
import Derived.Test.YtdfljeonoallfaaShelf
namespace Go.Proofs.Ytdfljeonoallfaa
open Go.RowKit Go.Deep
attribute [local go_sem] Oper.semAt_some

theorem min_take (zs : List Int) : ∀ k, 0 < k → k ≤ zs.length → (∃ j, j < k ∧ Lib.minOf (zs.take k) = zs.getD j 0) ∧ ∀ j, j < k → Lib.minOf (zs.take k) ≤ zs.getD j 0
  | 0, h, _ => absurd h (by omega)
  | k + 1, _, h => by
    by_cases c : k = 0
    · subst c
      rw [Lib.minOf_one]
      refine ⟨⟨0, by omega, rfl⟩, fun j hj => ?_⟩
      have e : j = 0 := by omega
      rw [e]
      exact Int.le_refl _
    · obtain ⟨⟨j, hj, e⟩, h2⟩ := min_take zs k (by omega) (by omega)
      rw [Lib.minOf_step zs k (by omega) (by omega)]
      refine ⟨?_, fun i hi => ?_⟩
      · rcases Int.le_total (Lib.minOf (zs.take k)) (zs.getD k 0) with h3 | h3
        · exact ⟨j, by omega, by rw [Int.min_eq_left h3]; exact e⟩
        · exact ⟨k, by omega, by rw [Int.min_eq_right h3]⟩
      · by_cases c2 : i = k
        · subst c2; exact Int.min_le_right _ _
        · exact Int.le_trans (Int.min_le_left _ _) (h2 i (by omega))
theorem zN_getD {q : List Nat} {j : Nat} (h : j < q.length) : (zN q).getD j 0 = (q[j] : Int) := by
  unfold zN
  rw [List.getD_eq_getElem?_getD, List.getElem?_map, List.getElem?_eq_getElem h]
  rfl
theorem min_q {q : List Nat} (h : 0 < q.length) : ∃ m, m ∈ q ∧ Lib.minOf ((zN q).take q.length) = (m : Int) ∧ ∀ x, x ∈ q → m ≤ x := by
  obtain ⟨⟨j, hj, e⟩, h2⟩ := min_take (zN q) q.length h (by rw [zN_len]; exact Nat.le_refl _)
  rw [zN_getD hj] at e
  refine ⟨q[j], List.getElem_mem hj, e, fun x hx => ?_⟩
  obtain ⟨i, hi, rfl⟩ := List.mem_iff_getElem.1 hx
  have h3 := h2 i hi
  rw [zN_getD hi, e] at h3
  omega
theorem ro_at {o : List Nat} {i : Nat} (h : i < o.length) : at0 (zN o) i = ((o[i]?.getD 0 : Nat) : Int) := by rw [zN_at h, List.getElem?_eq_getElem h]; rfl
set_option maxHeartbeats 16000000 in
set_option maxRecDepth 100000 in
theorem components_any (gA : Option Addr) (n gc : Nat) (RA : Nat → Option Addr) (RL : Nat → List Int) (RK : Nat → Nat) (w : World) (GR : GraphR w gA n RA RL RK) :
    Calls Try.prog 23 #[.slice gA n gc] w fun e w' => e = .returned (.slice (some ⟨w.heap.size, 0, none⟩) n n) ∧ w'.rowIs w.heap.size 3 n (fun j => .int .i64 ((cmpV RL n j : Nat) : Int)) ∧ Below w.heap.size w w' := by
  have hn := GR.hn
  have hmkb := run_make_bools n (by omega)
  have hmki := run_make_ints n (by omega)
  have CR : Hid (∀ W, Below w.heap.size w W → Calls Try.prog 15 #[.slice gA n gc] W fun e w' => ∃ vs, e = .returned (.slice (some ⟨W.heap.size, 0, none⟩) n n) ∧ GrowT w' W.heap.size (W.heap.size + 1) n 27 3 1 (fun e => (revV RL n e).length) (fun e => vI (revV RL n e)) vs ∧ Below W.heap.size W w') := fun W hW => reverse_any gA n gc RA RL RK W (GR.below hW)
  have CF : Hid (∀ W, Below w.heap.size w W → Calls Try.prog 36 #[.slice gA n gc] W fun e w' => ∃ A c o, e = .returned (.slice A (zN o).length c) ∧ ReadsV w' A (zN o) ∧ (∀ b off, A = some ⟨b, off, none⟩ → W.heap.size ≤ b) ∧ FinO RL n o ∧ Below W.heap.size W w') := fun W hW => finished_any gA n gc RA RL RK W (GR.below hW)
  have CB := Lib.hid backward_any
  clear GR
  obtain ⟨w1, hw1⟩ : ∃ w1, w1 = (((w.alloc (.cells (madeCells #[.int .i64 0] n) 3)).alloc (.cells #[.slice (some ⟨w.heap.size, 0, none⟩) n n] 27)).alloc (.cells (madeCells #[.bool false] n) 4)).alloc (.cells #[.slice (some ⟨w.heap.size + 1 + 1, 0, none⟩) n n] 29) := ⟨_, rfl⟩
  have z1 : (w.alloc (.cells (madeCells #[.int .i64 0] n) 3)).heap.size = w.heap.size + 1 := World.size_alloc _ _
  have z2 : ((w.alloc (.cells (madeCells #[.int .i64 0] n) 3)).alloc (.cells #[.slice (some ⟨w.heap.size, 0, none⟩) n n] 27)).heap.size = w.heap.size + 2 := by rw [World.size_alloc, z1]
  have z3 : (((w.alloc (.cells (madeCells #[.int .i64 0] n) 3)).alloc (.cells #[.slice (some ⟨w.heap.size, 0, none⟩) n n] 27)).alloc (.cells (madeCells #[.bool false] n) 4)).heap.size = w.heap.size + 3 := by rw [World.size_alloc, z2]
  have z4 : w1.heap.size = w.heap.size + 4 := by rw [hw1, World.size_alloc, z3]
  have a0 : w1.rowIs w.heap.size 3 n (fun j => .int .i64 0) := by rw [hw1]; exact (((World.rowIs_made w _ _ _).alloc _).alloc _).alloc _
  have a1 : w1.cell? ⟨w.heap.size + 1, 0, none⟩ = some (.slice (some ⟨w.heap.size, 0, none⟩) n n) := by
    rw [hw1]
    refine cellA (cellA ?_ _) _
    rw [← z1]
    exact cell_new1 _ _ _
  have a2 : RowB w1 (w.heap.size + 2) n (fun _ => false) := by
    rw [hw1]
    have h := RowB.made ((w.alloc (.cells (madeCells #[.int .i64 0] n) 3)).alloc (.cells #[.slice (some ⟨w.heap.size, 0, none⟩) n n] 27)) n
    rw [z2] at h
    exact World.rowIs.alloc h _
  have a3 : w1.cell? ⟨w.heap.size + 3, 0, none⟩ = some (.slice (some ⟨w.heap.size + 2, 0, none⟩) n n) := by
    rw [hw1, ← z3]
    exact cell_new1 _ _ _
  have B1 : Hid (Below w.heap.size w w1) := by rw [hw1]; exact ((((Below.refl _ _).alloc (Nat.le_refl _) _).alloc (by rw [z1]; omega) _).alloc (by rw [z2]; omega) _).alloc (by rw [z3]; omega) _
  have HW1 := Lib.hid hw1
  have A0 := Lib.hid a0
  have A2 := Lib.hid a2
  clear hw1 z1 z2 z3 a0 a2
  refine (callsIn_wide (n := 6)).1 (callsIn_of_wp_marks Try.func23 rfl trivial ?_ rfl)
  simp only [Try.ntmps23, List.size_toArray, List.length_cons, List.length_nil, Nat.reduceAdd, Nat.reduceSub, Array.replicate_succ, Array.replicate_zero, List.push_toArray, List.append_toArray, List.nil_append, List.cons_append]
  refine wpIn_wide.2 ?_
  go_wp2_with fail
  rw [← HW1.out]
  refine (CR.out _ B1.out).mono ?_
  rintro e w2 ⟨vs, rfl, GT, K2⟩
  have B2 := Lib.hid (B1.out.trans (K2.mono B1.out.size))
  have a1 := keepc a1 K2
  have a3 := keepc a3 K2
  have A0 := Lib.hid (A0.out.of_block (K2.block _ A0.out.lt))
  have A2 := Lib.hid (A2.out.of_block (K2.block _ (World.rowIs.lt A2.out)))
  have GT := Lib.hid GT
  have hz2 : w.heap.size + 4 < w2.heap.size := by have := GT.out.2.1; omega
  rw [z4] at GT
  rw [z4]
  clear CR K2 HW1 B1 z4
  obtain ⟨w3, hw3⟩ : ∃ w3, w3 = w2.alloc (.cells #[.slice (some ⟨w.heap.size + 4, 0, none⟩) n n] 22) := ⟨_, rfl⟩
  have K3 : Below w2.heap.size w2 w3 := by rw [hw3]; exact (Below.refl _ _).alloc (Nat.le_refl _) _
  have a4 : w3.cell? ⟨w2.heap.size, 0, none⟩ = some (.slice (some ⟨w.heap.size + 4, 0, none⟩) n n) := by rw [hw3]; exact cell_new1 _ _ _
  have a1 := keepc a1 K3
  have a3 := keepc a3 K3
  have A0 := Lib.hid (A0.out.of_block (K3.block _ A0.out.lt))
  have A2 := Lib.hid (A2.out.of_block (K3.block _ (World.rowIs.lt A2.out)))
  have GT := Lib.hid (GT.out.below K3)
  have B3 := Lib.hid (B2.out.trans (K3.mono B2.out.size))
  have HW3 := Lib.hid hw3
  clear hw3 K3 B2
  go_wp2_with fail
  rw [← HW3.out]
  refine (CF.out _ B3.out).mono ?_
  rintro e w4 ⟨oA, oc, o, rfl, RO, HA, F, K4⟩
  have hz3 : w3.heap.size = w2.heap.size + 1 := by rw [HW3.out, World.size_alloc]
  rw [hz3] at HA
  have HA := Lib.hid HA
  clear hz3
  have F := Lib.hid F
  have a1 := keepc a1 K4
  have a3 := keepc a3 K4
  have a4 := keepc a4 K4
  have A0 := Lib.hid (A0.out.of_block (K4.block _ A0.out.lt))
  have A2 := Lib.hid (A2.out.of_block (K4.block _ (World.rowIs.lt A2.out)))
  have GT := Lib.hid (GT.out.below K4)
  have B4 := Lib.hid (B3.out.trans (K4.mono B3.out.size))
  have hz4 : w2.heap.size < w4.heap.size := World.block_lt_of_cell? w4 ⟨w2.heap.size, 0, none⟩ a4
  clear K4 B3 HW3 CF
  go_wp2_with fail
  refine (CB.out _ _ _ _).mono ?_
  rintro e w5x ⟨rfl, rfl⟩
  obtain ⟨w5, hw5⟩ : ∃ w5, w5 = w4.alloc (.cells #[.slice oA (zN o).length oc] 27) := ⟨_, rfl⟩
  have K5 : Below w4.heap.size w4 w5 := by rw [hw5]; exact (Below.refl _ _).alloc (Nat.le_refl _) _
  have a5 : w5.cell? ⟨w4.heap.size, 0, none⟩ = some (.slice oA (zN o).length oc) := by rw [hw5]; exact cell_new1 _ _ _
  have a1 := keepc a1 K5
  have a3 := keepc a3 K5
  have a4 := keepc a4 K5
  have A0 := Lib.hid (A0.out.of_block (K5.block _ A0.out.lt))
  have A2 := Lib.hid (A2.out.of_block (K5.block _ (World.rowIs.lt A2.out)))
  have GT := Lib.hid (GT.out.below K5)
  have B5 := Lib.hid (B4.out.trans (K5.mono B4.out.size))
  have RO5 := RO.below K5 (Nat.le_refl _)
  have hz5 : w5.heap.size = w4.heap.size + 1 := by rw [hw5, World.size_alloc]
  rw [← hw5]
  clear hw5 K5 B4 CB RO
  go_wp2_with fail
  have hol : o.length ≤ n := nodup_le F.out.nd F.out.lt
  have HG : Hid (w.heap.size + 2 < w5.heap.size) := by show _ < _; omega
  have hPv : ∀ k, PvB w4.heap.size (zN o).length oA k → k < w5.heap.size ∧ k ≠ w.heap.size ∧ k ≠ w.heap.size + 2 := fun k hk => by
    rcases hk with rfl | ⟨h0, off, e⟩
    · omega
    · obtain ⟨b, off', e', h1, _⟩ := RO5 0 h0
      rw [e] at e'
      injection e' with e'
      injection e' with e1 e2
      subst e1
      have := HA.out k off e
      omega
  have HPV := Lib.hid hPv
  have SC : Hid (∀ W', KeepOn (fun k => k < w5.heap.size ∧ k ≠ w.heap.size ∧ k ≠ w.heap.size + 2) w5 W' → W'.cell? ⟨w.heap.size + 1, 0, none⟩ = some (.slice (some ⟨w.heap.size, 0, none⟩) n n) ∧ W'.cell? ⟨w.heap.size + 3, 0, none⟩ = some (.slice (some ⟨w.heap.size + 2, 0, none⟩) n n) ∧ W'.cell? ⟨w2.heap.size, 0, none⟩ = some (.slice (some ⟨w.heap.size + 4, 0, none⟩) n n)) := fun W' k =>
    ⟨k.cell a1 (by omega), k.cell a3 (by omega), k.cell a4 (by omega)⟩
  have SR : Hid (∀ e, e < n → ∃ A c, ∀ W', KeepOn (fun k => k < w5.heap.size ∧ k ≠ w.heap.size ∧ k ≠ w.heap.size + 2) w5 W' → W'.cell? ⟨w.heap.size + 4, e, none⟩ = some (.slice A (revV RL n e).length c) ∧ ReadsV W' A (revV RL n e)) := fun e he => by
    obtain ⟨A, c, e1, _⟩ := ReadsV.own (GT.out.2.2.2.1 e he)
    exact ⟨A, c, fun W' k => (GT.out.keepOn k.size fun j hj hj2 => k.block j hj2 (by omega)).rowOf he e1⟩
  refine (wpIn_wide (n := 6)).1 ?_
  refine rangeFunc_scr (gf := 43) (lb := #[.pointer (some ⟨w4.heap.size, 0, none⟩)]) rfl (enters_of Try.func43 (by kernel_rfl) rfl)
    (backward_seq (6 - 1) (by decide) w5 w4.heap.size oA oc (zN o) a5 RO5 (by rw [zN_len]; omega)) (fun k h => (HPV.out k h).1) (fun _ => rfl) (fun _ _ _ _ h _ => h)
    (fun hi pre W => ∃ S Ls, InvC w5 w.heap.size n S Ls W ∧ CmpI RL n o (o.length - pre.length) S Ls) (fun _ _ _ => False)
    (fun hi s A B hlo h k => by
      obtain ⟨S, Ls, h1, h2⟩ := h
      exact ⟨S, Ls, h1.keep HG.out k, h2⟩) (fun _ _ _ _ h _ => h)
    (fun hi W1 h1 h2 k => ⟨fun _ => false, fun _ => 0, ⟨KeepOn.of_belowN k fun j hj => hj.1, A0.out.of_block (k.block _ A0.out.lt), A2.out.of_block (k.block _ (World.rowIs.lt A2.out))⟩, cmp_start RL n o _⟩) ?a1 ?assign ?body ?done ?stop
  case assign =>
    intro l x W K hK
    gi_wp2
    exact hK
  case stop =>
    intro D c pre W _ _ h _
    exact h.elim
  case done =>
    rintro D hi W hD h1 h2 ⟨S, Ls, IC, CI⟩ hK
    have hlen : (List.range (zN o).length).reverse.length = o.length := by rw [List.length_reverse, List.length_range, zN_len]
    rw [hlen, Nat.sub_self] at CI
    have FIN : Hid (W.rowIs w.heap.size 3 n (fun j => .int .i64 ((cmpV RL n j : Nat) : Int))) := IC.lr.congr fun j hj => by rw [cmp_end F.out CI hj]
    obtain ⟨q0, -, -⟩ := SC.out W IC.kp
    have BW : Hid (Below w.heap.size w W) := B5.out.trans (IC.kp.below B5.out.size fun k hk => by omega)
    clear IC CI a1 a3 a4 a5 SC SR GT hPv hlen
    go_wp2
    refine ⟨by simp, .inl ⟨_, _, rfl, run_takeDeferred hK, ?_⟩⟩
    exact ⟨_, results_tmp rfl _ _ _, rfl, FIN.out.of_block (World.putObj_heap_other (by omega)), BW.out.trans (belowK_b (w := w) (Nat.le_refl _) W D _ _ (by have := B5.out.size; omega) hK rfl rfl)⟩
  case body =>
    rintro l hi pre x W h1 h2 h3 ⟨S, Ls, IC, CI⟩ -
    obtain ⟨hxm, hpl⟩ := pre_next h3
    rw [zN_len] at hxm hpl
    have e0 : o.length - pre.length = x + 1 := by omega
    rw [e0] at CI
    obtain ⟨r, hr⟩ : ∃ r, r = o[x] := ⟨_, rfl⟩
    have e1 : at0 (zN o) x = (r : Int) := by rw [hr]; exact zN_at hxm
    have hrn : r < n := by rw [hr]; exact F.out.lt _ (List.getElem_mem hxm)
    obtain ⟨q0, q1, -⟩ := SC.out W IC.kp
    have q2 := IC.ar.get hrn
    have q3 : W.frozen? ⟨w.heap.size + 2, r, none⟩ = false := World.rowIs.frozen IC.ar r
    have hgW : w.heap.size + 2 < W.heap.size := by have := HG.out; omega
    have e3 : o.length - (pre ++ [x]).length = x := by rw [List.length_append, List.length_singleton]; omega
    clear a1 a3 a4 a5 h3 GT
    rw [e1]
    cases hS : S r
    · rw [hS] at q2
      have BC := BodC.start IC hgW r
      have MM := mem_start (R := RL) (A0 := S) hrn hS
      obtain ⟨wz, hwz⟩ : ∃ wz, wz = (W.setCell ⟨w.heap.size + 2, r, none⟩ (.bool true)).alloc (.cells #[.int .i64 (r : Nat)] 3) := ⟨_, rfl⟩
      rw [← hwz] at BC
      have HWZ : Hid ((W.setCell ⟨w.heap.size + 1 + 1, r, none⟩ (.bool true)).alloc (.cells #[.int .i64 (r : Nat)] 3) = wz) := hwz.symm
      have BC := Lib.hid BC
      have MM := Lib.hid MM
      have SC2 : Hid (∀ wr S' L' q mv, BodC W w.heap.size n S' L' q mv wr → KeepOn (fun k => k < w5.heap.size ∧ k ≠ w.heap.size ∧ k ≠ w.heap.size + 2) w5 wr) := fun wr S' L' q mv h => (h.inv IC).kp
      have IC := Lib.hid IC
      have CI := Lib.hid CI
      have HGW := Lib.hid hgW
      have HR := Lib.hid hr
      have HXM := Lib.hid hxm
      have E3 := Lib.hid e3
      have E1 := Lib.hid e1
      clear hwz hS e0 e3 hpl hr hgW e1
      gi_wp2_with fail
      rw [HWZ.out]
      gi_loopw [9, 8] (fun ii mv wr => ∃ (i : Nat) (q : List Nat), ii = .int .i64 (i : Nat) ∧ Hid (BodC W w.heap.size n (fun y => S y || decide (y ∈ q)) Ls q mv wr) ∧ Hid (MemI RL n S r i 0 q)) (fun ii _ _ => n - (intOf ii).toNat)
      case atStart => exact ⟨0, [r], rfl, BC, MM⟩
      case round =>
        clear BC MM HWZ q0 q1 q2 q3
        obtain ⟨wo, rfl⟩ : ∃ wo, wo = wr := ⟨_, rfl⟩
        obtain ⟨i, q, rfl, BC, MM⟩ := hrel
        have hql : q.length ≤ n := nodup_le MM.out.nd MM.out.lt
        have hq0 : 0 < q.length := List.length_pos_iff.2 (List.ne_nil_of_mem MM.out.root)
        obtain ⟨mb, mc, hmv, hcell⟩ : ∃ b c, u8 = .slice (some ⟨b, 0, none⟩) q.length c ∧ ∀ j, j < q.length → wo.cell? ⟨b, j, none⟩ = some (.int .i64 ((q[j]?.getD 0 : Nat) : Int)) := by
          have ho := BC.out.mo
          rw [zN_len] at ho
          rcases ho.2 with ⟨_, h0⟩ | ⟨b, cap, cur, h1, _⟩
          · omega
          · refine ⟨b, cap, h1, fun j hj => ?_⟩
            rw [h1] at ho
            rw [ho.cellAt j (by omega)]
            unfold vI zN
            rw [List.getElem?_map, List.getElem?_map, List.getElem?_eq_getElem hj]
            rfl
        subst hmv
        have HC := Lib.hid hcell
        clear hcell
        by_cases hlt : i < q.length
        · obtain ⟨c, hc⟩ : ∃ c, q[i] = c := ⟨_, rfl⟩
          have hcn : c < n := by rw [← hc]; exact MM.out.lt _ (List.getElem_mem hlt)
          have c0 := HC.out i hlt
          rw [List.getElem?_eq_getElem hlt, hc] at c0
          simp only [Option.getD_some] at c0
          obtain ⟨rA, rc, hrow⟩ := SR.out c hcn
          have HROW := Lib.hid hrow
          obtain ⟨c1, -⟩ := hrow _ (SC2.out _ _ _ _ _ BC.out)
          obtain ⟨-, -, c2⟩ := SC.out _ (SC2.out _ _ _ _ _ BC.out)
          have BD := Lib.hid BC.out.drew
          have HCI : Hid (∃ h : i < q.length, q[i] = c) := ⟨hlt, hc⟩
          clear hc hrow
          gi_wp2_with fail
          apply wpIn_cut (w9 := wo.drew)
          case h =>
            gi_region
            all_goals exact ⟨rfl, rfl, rfl⟩
          generalize wo.drew = wd at *
          have MM0 := MM
          gi_wp2_with fail
          gi_loopw [51, 8] (fun kk mv wr => ∃ (k : Nat) (q : List Nat), kk = .int .i64 (k : Nat) ∧ k ≤ (revV RL n c).length ∧ Hid (BodC W w.heap.size n (fun y => S y || decide (y ∈ q)) Ls q mv wr) ∧ Hid (MemI RL n S r i k q) ∧ Hid (∃ h : i < q.length, q[i] = c)) (fun kk _ _ => (revV RL n c).length - (intOf kk).toNat)
          case atStart => exact ⟨0, q, rfl, by omega, BD, MM, HCI⟩
          case round =>
            clear BD MM MM0 HCI BC c0 c1 c2 HC
            obtain ⟨wp, rfl⟩ : ∃ wp, wp = wr := ⟨_, rfl⟩
            obtain ⟨k, q, rfl, hk, BC, MM, HCI⟩ := hrel
            by_cases hkl : k < (revV RL n c).length
            · have HKL := Lib.hid hkl
              have hrl : (revV RL n c).length ≤ n := pickI_len _ _
              obtain ⟨-, RD⟩ := HROW.out _ (SC2.out _ _ _ _ _ BC.out)
              obtain ⟨b2, off2, e2, _, c4⟩ := RD k hkl
              rw [e2]
              obtain ⟨e, he, hen, het⟩ := pick_at (f := fun u => (RL u).contains (c : Int)) (n := n) hkl
              have he : at0 (revV RL n c) k = (e : Int) := he
              rw [he] at c4
              obtain ⟨hiq, hqc⟩ := HCI.out
              have hE : EdgeR RL n e q[i] := by
                rw [hqc]
                exact ⟨hen, hcn, by simpa using het⟩
              obtain ⟨-, c3, -⟩ := SC.out _ (SC2.out _ _ _ _ _ BC.out)
              have c5 := BC.out.ar.get hen
              have c6 : wp.frozen? ⟨w.heap.size + 2, e, none⟩ = false := World.rowIs.frozen BC.out.ar e
              have hqn : q.length ≤ n := nodup_le MM.out.nd MM.out.lt
              have AT : Hid (at0 (revV RL n q[i]) k = (e : Int)) := by show _ = _; rw [hqc]; exact he
              clear RD e2 he het
              cases hs : (S e || decide (e ∈ q))
              · rw [hs] at c5
                rw [Bool.or_eq_false_iff, decide_eq_false_iff_not] at hs
                have M2 : Hid (MemI RL n S r i (k + 1) (q ++ [e])) := mem_new MM.out hiq hen AT.out hs.1 hs.2 hE
                have HCI2 : Hid (∃ h : i < (q ++ [e]).length, (q ++ [e])[i] = c) := ⟨by simp; omega, by rw [List.getElem_append_left hiq]; exact hqc⟩
                have BM := BC.out.mark HGW.out e
                obtain ⟨wq, hwq⟩ : ∃ wq, wq = wp.setCell ⟨w.heap.size + 2, e, none⟩ (.bool true) := ⟨_, rfl⟩
                rw [← hwq] at BM
                have hqs : wq.heap.size = wp.heap.size := by rw [hwq, nblk_setCell]
                have HWQ : Hid (wp.setCell ⟨w.heap.size + 1 + 1, e, none⟩ (.bool true) = wq) := hwq.symm
                have g0 : (wq.alloc (.cells #[.int .i64 (e : Nat)] 3)).cell? ⟨wp.heap.size, 0, none⟩ = some (.int .i64 (e : Nat)) := by rw [← hqs]; exact cell_new1 _ _ _
                have HO := Lib.hid (BM.mo.alloc (.cells #[.int .i64 (e : Nat)] 3))
                have hlq : (zN q).length ≤ 100000 := by rw [zN_len]; omega
                have hbs : W.heap.size ≤ (wq.alloc (.cells #[.int .i64 (e : Nat)] 3)).heap.size := by rw [World.size_alloc]; have := BM.kb.size; omega
                have PUSH : Hid (∀ mv' w', w'.ownsRow W.heap.size 3 1 mv' ((zN q).length + 1) (vI (zN q) ++ [.int .i64 (e : Nat)]) → (wq.alloc (.cells #[.int .i64 (e : Nat)] 3)).grownBy w' u8.ownBlock → BodC W w.heap.size n (fun y => S y || decide (y ∈ q ++ [e])) Ls (q ++ [e]) mv' w') := fun mv' w' h1 h2 => (BM.push HGW.out h1 h2).congr (fun y _ => by
                  by_cases c : y = e
                  · rw [if_pos c, c]; simp
                  · rw [if_neg c]; simp [c]) (fun _ _ => rfl)
                clear hs BM hwq hE hqs BC MM HCI
                gi_wp2_with (gi_at_builtin; rw [HWQ.out]; (refine wpListIn_intg rfl (.tmp 63) (.tmp 65) rfl W.heap.size u8 (zN q) (e : Int) rfl HO.out wp.heap.size rfl g0 hlq hbs ?_); intro mv' w6 ho6 hg6; have E9 := Lib.hid (PUSH.out _ w6 ho6 hg6); clear ho6 hg6 PUSH)
                go_roundw
                case rel => exact ⟨k + 1, _, by go_num, by have := HKL.out; omega, E9, M2, HCI2⟩
                case measure => have := HKL.out; simp [intOf] <;> omega
              · rw [hs] at c5
                have M2 : Hid (MemI RL n S r i (k + 1) q) := mem_old MM.out hiq AT.out (by
                  rw [Bool.or_eq_true, decide_eq_true_eq] at hs; exact hs)
                clear hs hE MM
                gi_wp2
                go_roundw
                case rel => exact ⟨k + 1, q, by go_num, by have := HKL.out; omega, BC, M2, HCI⟩
                case measure => have := HKL.out; simp [intOf] <;> omega
            · obtain rfl : k = (revV RL n c).length := by omega
              have M2 : Hid (MemI RL n S r (i + 1) 0 q) := by
                obtain ⟨hiq, hqc⟩ := HCI.out
                exact mem_next hiq (by rw [hqc]; exact MM.out)
              have hqn : q.length ≤ n := nodup_le MM.out.nd MM.out.lt
              have hil : i < n := by obtain ⟨hiq, _⟩ := HCI.out; omega
              have HIL := Lib.hid hil
              clear MM HCI
              gi_wp2
              go_roundw
              case rel => exact ⟨i + 1, q, by go_num, BC, M2⟩
              case measure => have := HIL.out; simp [intOf] <;> omega
        · have ei : i = q.length := by have := MM.out.len; omega
          have M2 : MemI RL n S r q.length 0 q := by rw [← ei]; exact MM.out
          obtain ⟨m, hmq, hmin, hmle⟩ := min_q hq0
          have CM : Hid (Calls Try.prog 37 #[.slice (some ⟨mb, 0, none⟩) q.length mc] wo (fun e w' => e = .returned (.int .i64 (m : Nat)) ∧ w' = wo)) := by
            have h := Try.slices_Min_int mb 0 q.length mc (zN q) wo hq0 (by rw [zN_len]; exact Nat.le_refl _) (by omega) (fun j hj => by
              rw [zN_len] at hj
              rw [Nat.zero_add, HC.out j hj, zN_getD hj, List.getElem?_eq_getElem hj]
              rfl)
            rw [hmin] at h
            exact h
          have CMP : Hid (CmpI RL n o x (fun v => S v || decide (v ∈ q)) (fun v => if v ∈ q then (m : Int) else Ls v)) := cmp_new F.out CI.out HXM.out (by have e := HR.out; rw [← e]; exact M2) hmq hmle
          have B0 : Hid (BodC W w.heap.size n (fun y => S y || decide (y ∈ q)) (fun y => if y ∈ q.take 0 then (m : Int) else Ls y) q (.slice (some ⟨mb, 0, none⟩) q.length mc) wo) := BC.out.congr (fun _ _ => rfl) (fun y _ => by simp)
          have QN : Hid (∀ j, j < q.length → ∃ v, q[j]?.getD 0 = v ∧ v < n ∧ ∀ y, (y ∈ q.take (j + 1) ↔ y = v ∨ y ∈ q.take j)) := fun j hj => by
            refine ⟨q[j], by rw [List.getElem?_eq_getElem hj]; rfl, MM.out.lt _ (List.getElem_mem hj), fun y => ?_⟩
            rw [List.take_add_one, List.getElem?_eq_getElem hj, Option.toList_some, List.mem_append, List.mem_singleton]
            exact or_comm
          clear MM BC M2 hmq hmin hmle HC SR
          gi_wp2_with (refine ⟨trivial, ?_⟩; gi_at_call 37; refine (callsIn_wide.2 CM.out).mono ?_; rintro e w4x ⟨rfl, hw4x⟩; subst hw4x)
          gi_loopw [72] (fun kk wr => ∃ k : Nat, kk = .int .i64 (k : Nat) ∧ k ≤ q.length ∧ Hid (BodC W w.heap.size n (fun y => S y || decide (y ∈ q)) (fun y => if y ∈ q.take k then (m : Int) else Ls y) q (.slice (some ⟨mb, 0, none⟩) q.length mc) wr)) (fun kk _ => q.length - (intOf kk).toNat)
          case atStart => exact ⟨0, rfl, by omega, B0⟩
          case round =>
            clear B0 CM
            obtain ⟨k, rfl, hk, BC⟩ := hrel
            by_cases hkl : k < q.length
            · have HKL := Lib.hid hkl
              obtain ⟨v, hv, hvn, hvt⟩ := QN.out k hkl
              have c0 : wr.cell? ⟨mb, k, none⟩ = some (.int .i64 (v : Nat)) := by
                have ho := BC.out.mo
                rw [zN_len] at ho
                rw [ho.cellAt k (by omega)]
                unfold vI zN
                rw [List.getElem?_map, List.getElem?_map, List.getElem?_eq_getElem hkl]
                rw [List.getElem?_eq_getElem hkl] at hv
                rw [← hv]
                rfl
              obtain ⟨c1, -, -⟩ := SC.out _ (SC2.out _ _ _ _ _ BC.out)
              have c2 := BC.out.lr.cell hvn
              have c3 : wr.frozen? ⟨w.heap.size, v, none⟩ = false := World.rowIs.frozen BC.out.lr v
              have B2 : Hid (BodC W w.heap.size n (fun y => S y || decide (y ∈ q)) (fun y => if y ∈ q.take (k + 1) then (m : Int) else Ls y) q (.slice (some ⟨mb, 0, none⟩) q.length mc) (wr.setCell ⟨w.heap.size, v, none⟩ (.int .i64 (m : Nat)))) := (BC.out.put HGW.out v (m : Int)).congr (fun _ _ => rfl) (fun y _ => by
                by_cases c : y = v
                · rw [if_pos c, if_pos ((hvt y).2 (Or.inl c))]
                · rw [if_neg c]
                  by_cases c2 : y ∈ q.take k
                  · rw [if_pos c2, if_pos ((hvt y).2 (Or.inr c2))]
                  · rw [if_neg c2, if_neg fun h => ((hvt y).1 h).elim c c2])
              clear BC hv hvt QN
              gi_wp2
              go_roundw
              case rel => exact ⟨k + 1, by go_num, by have := HKL.out; omega, B2⟩
              case measure => have := HKL.out; simp [intOf] <;> omega
            · obtain rfl : k = q.length := by omega
              have BF := BC.out
              rw [List.take_length] at BF
              have FIN : Hid (∃ S Ls, InvC w5 w.heap.size n S Ls wr ∧ CmpI RL n o (o.length - (pre ++ [x]).length) S Ls) := ⟨_, _, BF.inv IC.out, by rw [E3.out]; exact CMP.out⟩
              have KF : Hid (KeepOn (fun k => PvB w4.heap.size (zN o).length oA k ∨ (w5.heap.size ≤ k ∧ k < hi)) W wr) := BF.kb.mono fun j hj h => by
                rcases h with h | h
                · exact ⟨hj, (HPV.out j h).2⟩
                · have := HG.out
                  exact ⟨hj, by omega, by omega⟩
              clear BC BF CMP QN IC CI
              gi_wp2
              exact ⟨KF.out, FIN.out⟩
    · rw [hS] at q2
      have CI2 := cmp_old CI hxm (by rw [← hr]; exact hS)
      have FIN : Hid (∃ S Ls, InvC w5 w.heap.size n S Ls W ∧ CmpI RL n o (o.length - (pre ++ [x]).length) S Ls) := ⟨S, Ls, IC, by rw [e3]; exact CI2⟩
      clear IC CI CI2 SC SR hS hpl e0 e3 hr e1
      gi_wp2
      exact ⟨KeepOn.refl _ _, FIN.out⟩
end Go.Proofs.Ytdfljeonoallfaa
