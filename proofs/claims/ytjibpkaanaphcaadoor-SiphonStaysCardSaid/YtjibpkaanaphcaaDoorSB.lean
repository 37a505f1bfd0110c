/- Siphons: the links of a net, by the program. -/
import Derived.Test.YtjibpkaanaphcaaDoorSA
import Derived.Deep.DeepCutAuto
import Derived.Deep.Cut
import Derived.Deep.CutBlock
import Derived.Deep.RegionWith
import Derived.Deep.OwnRows
namespace Go.Proofs.YtjibpkaanaphcaaDoor
open Go.RowKit

theorem infoLk : (Tryd.prog.info? 71).map (fun i => (i.zero, i.size, i.bytes)) = some (some (.agg #[.int .u64 0, .int .u64 0]), 2, 16) := by kernel_rfl
theorem run_make_links (n : Nat) (hn : n ≤ 100000) (w : World) : (Instr.makeSlice 57 (.int .i64 (n : Int)) (.int .i64 (n : Int))).run Tryd.prog w = .ok (.slice (some ⟨w.heap.size, 0, none⟩) n n) (w.alloc (.cells (madeCells #[.int .u64 0, .int .u64 0] (n * 2)) 71)) := by
  obtain ⟨i, hi, hzz⟩ := Option.map_eq_some_iff.1 infoLk
  simp only [Prod.mk.injEq] at hzz
  obtain ⟨hz, hs, hb⟩ := hzz
  have hr := run_make (P := Tryd.prog) w 57 71 i _ Tryd.underlying57 hi hz .i64 .i64 n n (by omega) (Int.le_refl _) (by rw [hb]; omega) (by omega)
  simp only [Int.toNat_natCast, hs] at hr
  exact hr
theorem isT_yes {n : NetV} {t : Nat} (hok : okN n = true) (ht : t < n.ts.length) : isT n (t : Int) = true := by
  unfold isT
  rw [hok]
  simp [ht]
theorem reads_of {w : World} {A : Option Addr} {l : List Int} (h : ReadsV w A l) : Bt.Reads w A (Bt.vI l) := fun j v hj => by
  have hl : j < l.length := by have := (List.getElem?_eq_some_iff.1 hj).1; simpa [Bt.vI] using this
  obtain ⟨b, off, e, h1, h2⟩ := h j hl
  refine ⟨b, off, e, h1, ?_⟩
  simp [Bt.vI, hl] at hj
  rw [h2, ← hj]
  simp [at0, hl]
def pairF (k : Nat) (a b : Nat → Nat) (i : Nat) : Nat := if i / 2 < k then (if i % 2 = 0 then a (i / 2) else b (i / 2)) else 0
def OwnLk (w : World) (g N k : Nat) (a b : Nat → Nat) : Prop := w.rowIs g 71 (N * 2) (fun i => .int .u64 (pairF k a b i : Nat))
theorem OwnLk.start (w : World) (N : Nat) (a b : Nat → Nat) : OwnLk (w.alloc (.cells (madeCells #[.int .u64 0, .int .u64 0] (N * 2)) 71)) w.heap.size N 0 a b := by
  have h := World.rowIs_alloc w (madeCells #[.int .u64 0, .int .u64 0] (N * 2)) 71 (fun i => .int .u64 (pairF 0 a b i : Nat)) (fun i hi => by
    rw [size_madeCells] at hi
    unfold pairF
    rw [if_neg (by omega)]
    have : i % 2 = 0 ∨ i % 2 = 1 := by omega
    rcases this with h | h <;> simp [madeCells, hi, h])
  rw [size_madeCells] at h
  exact h
theorem OwnLk.step {w : World} {g N k : Nat} {a b : Nat → Nat} (h : OwnLk w g N k a b) : OwnLk ((w.setCell ⟨g, k * 2, none⟩ (.int .u64 (a k : Nat))).setCell ⟨g, k * 2 + 1, none⟩ (.int .u64 (b k : Nat))) g N (k + 1) a b :=
  ((h.set (k * 2) _).set (k * 2 + 1) _).congr fun i _ => by
    unfold pairF
    by_cases e1 : i = k * 2 + 1
    · rw [if_pos e1, if_pos (by omega), if_neg (by omega), show i / 2 = k by omega]
    · rw [if_neg e1]
      by_cases e2 : i = k * 2
      · rw [if_pos e2, if_pos (by omega), if_pos (by omega), show i / 2 = k by omega]
      · rw [if_neg e2]
        by_cases e3 : i / 2 < k
        · rw [if_pos e3, if_pos (show i / 2 < k + 1 by omega)]
        · rw [if_neg e3, if_neg (show ¬ i / 2 < k + 1 by omega)]
theorem OwnLk.below {w w' : World} {g N k : Nat} {a b : Nat → Nat} (h : OwnLk w g N k a b) (hb : Below w.heap.size w w') : OwnLk w' g N k a b := h.of_block (hb.block _ h.lt)
theorem OwnLk.cells {w : World} {g N k t : Nat} {a b : Nat → Nat} (h : OwnLk w g N k a b) (ht : t < N) : (∃ x, w.cell? ⟨g, t * 2, none⟩ = some x) ∧ (∃ x, w.cell? ⟨g, t * 2 + 1, none⟩ = some x) ∧ ∀ o, w.frozen? ⟨g, o, none⟩ = false :=
  ⟨⟨_, h.cell (i := t * 2) (by omega)⟩, ⟨_, h.cell (i := t * 2 + 1) (by omega)⟩, fun o => h.frozen o⟩
theorem OwnLk.links {w : World} {g N : Nat} {a b : Nat → Nat} (h : OwnLk w g N N a b) : LinkR w (some ⟨g, 0, none⟩) N a b := fun t ht => by
  refine ⟨g, 0, rfl, ?_, ?_⟩
  · rw [Nat.zero_add, World.rowIs.cell h (i := t * 2) (by omega)]
    unfold pairF
    rw [if_pos (by omega), if_pos (by omega), show t * 2 / 2 = t by omega]
  · rw [Nat.zero_add, World.rowIs.cell h (i := t * 2 + 1) (by omega)]
    unfold pairF
    rw [if_pos (by omega), if_neg (by omega), show (t * 2 + 1) / 2 = t by omega]
def LinkOwn (g0 : Nat) (w : World) (N : Nat) (a b : Nat → Nat) (e : Ending) (w' : World) : Prop := ∃ g c, e = .returned (.slice (some ⟨g, 0, none⟩) N c) ∧ g0 ≤ g ∧ OwnLk w' g N N a b ∧ Below g0 w w'
def LinkPost (g : Nat) (w : World) (N : Nat) (a b : Nat → Nat) (e : Ending) (w' : World) : Prop := ∃ A c, e = .returned (.slice A N c) ∧ LinkR w' A N a b ∧ Below g w w'

set_option maxHeartbeats 8000000 in
set_option maxRecDepth 100000 in
theorem slinks_own (n : NetV) (w : World) (hr : NetR w n) (hok : okN n = true) :
    Calls Tryd.prog 24 #[.agg #[.string n.nm, .slice n.PA n.ps.length n.pc, .slice n.TA n.ts.length n.tc]] w (LinkOwn w.heap.size w n.ts.length (outS n) (inS n)) := by
  have CO : Hid (∀ (t : Nat) W, Below w.heap.size w W → Calls Tryd.prog 40 #[.agg #[.string n.nm, .slice n.PA n.ps.length n.pc, .slice n.TA n.ts.length n.tc], .int .i64 (t : Int)] W (IsPost W.heap.size W (outputsN n t))) := fun t W hW => outputsN_any n t W (hr.below hW (Nat.le_refl _))
  have CI : Hid (∀ (t : Nat) W, Below w.heap.size w W → Calls Tryd.prog 41 #[.agg #[.string n.nm, .slice n.PA n.ps.length n.pc, .slice n.TA n.ts.length n.tc], .int .i64 (t : Int)] W (IsPost W.heap.size W (inputsN n t))) := fun t W hW => inputsN_any n t W (hr.below hW (Nat.le_refl _))
  have CF : Hid (∀ A (l : List Int) c W, ReadsV W A l → l.length ≤ 1000 → Calls Tryd.prog 39 #[.slice A l.length c] W (fun e w' => e = .returned (.int .u64 (Bt.ofV l : Nat)) ∧ W = w')) := fun A l c W h hl => Bt.of_any A l c W (reads_of h) (by omega)
  have EO : Hid (∀ t, t < n.ts.length → Bt.ofV (outputsN n (t : Int)) = outS n t ∧ (outputsN n (t : Int)).length ≤ 1000) := fun t ht => by
    have hT : isT n (t : Int) = true := isT_yes hok ht
    unfold outputsN outS
    rw [if_pos hT, Int.toNat_natCast]
    exact ⟨rfl, by unfold targetsV; rw [List.length_map]; exact (hr.okt.2 t).2.2.1⟩
  have EI : Hid (∀ t, t < n.ts.length → Bt.ofV (inputsN n (t : Int)) = inS n t ∧ (inputsN n (t : Int)).length ≤ 1000) := fun t ht => by
    have hT : isT n (t : Int) = true := isT_yes hok ht
    unfold inputsN inS
    rw [if_pos hT, Int.toNat_natCast]
    exact ⟨rfl, by unfold targetsV; rw [List.length_map]; exact (hr.okt.2 t).2.1⟩
  have htl : n.ts.length ≤ 1000 := hr.okt.1
  have hmk := run_make_links n.ts.length (by omega)
  clear hr hok
  generalize outS n = oa at *
  generalize inS n = ia at *
  generalize outputsN n = on at *
  generalize inputsN n = inn at *
  have BW1 : Hid (Below w.heap.size w (w.alloc (.cells #[.string n.nm, .slice n.PA n.ps.length n.pc, .slice n.TA n.ts.length n.tc] 29))) := (Below.refl _ _).alloc (Nat.le_refl _) _
  have M0 : Hid (OwnLk ((w.alloc (.cells #[.string n.nm, .slice n.PA n.ps.length n.pc, .slice n.TA n.ts.length n.tc] 29)).alloc (.cells (madeCells #[.int .u64 0, .int .u64 0] (n.ts.length * 2)) 71)) (w.heap.size + 1) n.ts.length 0 oa ia) := by
    have := OwnLk.start (w.alloc (.cells #[.string n.nm, .slice n.PA n.ps.length n.pc, .slice n.TA n.ts.length n.tc] 29)) n.ts.length oa ia
    rw [World.size_alloc] at this
    exact this
  have START : Hid (Below (w.heap.size + 1) (w.alloc (.cells #[.string n.nm, .slice n.PA n.ps.length n.pc, .slice n.TA n.ts.length n.tc] 29)) ((w.alloc (.cells #[.string n.nm, .slice n.PA n.ps.length n.pc, .slice n.TA n.ts.length n.tc] 29)).alloc (.cells (madeCells #[.int .u64 0, .int .u64 0] (n.ts.length * 2)) 71))) := (Below.refl _ _).alloc (by rw [World.size_alloc]; exact Nat.le_refl _) _
  have q0 : (w.alloc (.cells #[.string n.nm, .slice n.PA n.ps.length n.pc, .slice n.TA n.ts.length n.tc] 29)).cell? ⟨w.heap.size, 0, none⟩ = some (.string n.nm) := by simp
  have q1 : (w.alloc (.cells #[.string n.nm, .slice n.PA n.ps.length n.pc, .slice n.TA n.ts.length n.tc] 29)).cell? ⟨w.heap.size, 1, none⟩ = some (.slice n.PA n.ps.length n.pc) := by simp
  have q2 : (w.alloc (.cells #[.string n.nm, .slice n.PA n.ps.length n.pc, .slice n.TA n.ts.length n.tc] 29)).cell? ⟨w.heap.size, 2, none⟩ = some (.slice n.TA n.ts.length n.tc) := by simp
  have PQ : Hid (∀ W, Below (w.heap.size + 1) (w.alloc (.cells #[.string n.nm, .slice n.PA n.ps.length n.pc, .slice n.TA n.ts.length n.tc] 29)) W → W.cell? ⟨w.heap.size, 0, none⟩ = some (.string n.nm) ∧ W.cell? ⟨w.heap.size, 1, none⟩ = some (.slice n.PA n.ps.length n.pc) ∧ W.cell? ⟨w.heap.size, 2, none⟩ = some (.slice n.TA n.ts.length n.tc)) := fun W hW => by
    rw [← World.size_alloc] at hW
    exact ⟨keepc q0 hW, keepc q1 hW, keepc q2 hW⟩
  have WG : Hid (∀ W, Below (w.heap.size + 1) (w.alloc (.cells #[.string n.nm, .slice n.PA n.ps.length n.pc, .slice n.TA n.ts.length n.tc] 29)) W → Below w.heap.size w W) := fun W hW => BW1.out.trans (hW.mono (by omega))
  clear q0 q1 q2 BW1
  go_enter Tryd.func24, Tryd.ntmps24
  go_wp2_with fail
  go_loopw [12] (fun q wr => ∃ k : Nat, k ≤ n.ts.length ∧ q = .int .i64 k ∧ Hid (OwnLk wr (w.heap.size + 1) n.ts.length k oa ia) ∧ Hid (Below (w.heap.size + 1) (w.alloc (.cells #[.string n.nm, .slice n.PA n.ps.length n.pc, .slice n.TA n.ts.length n.tc] 29)) wr)) (fun q _ => n.ts.length - (intOf q).toNat)
  case atStart => exact ⟨0, by omega, rfl, M0, START⟩
  case round =>
    clear M0 START
    obtain ⟨k, hk, rfl, MR, BB⟩ := hrel
    have BG := Lib.hid (WG.out _ BB.out)
    by_cases hlt : k < n.ts.length
    · obtain ⟨q0, q1, q2⟩ := PQ.out _ BB.out
      obtain ⟨eo, lo⟩ := EO.out k hlt
      obtain ⟨ei, li⟩ := EI.out k hlt
      have COk := Lib.hid (CO.out k)
      have CIk := Lib.hid (CI.out k)
      generalize on (k : Int) = OL at *
      generalize inn (k : Int) = IL at *
      have EOk := Lib.hid eo
      have EIk := Lib.hid ei
      clear eo ei
      have MRd : Hid (OwnLk wr.drew (w.heap.size + 1) n.ts.length k oa ia) := MR.out
      go_upto_region 5 with fail
      refine wp_region_held_drew (S := fun w' => w'.cell? ⟨w.heap.size, 0, none⟩ = some (.string n.nm) ∧ w'.cell? ⟨w.heap.size, 1, none⟩ = some (.slice n.PA n.ps.length n.pc) ∧ w'.cell? ⟨w.heap.size, 2, none⟩ = some (.slice n.TA n.ts.length n.tc) ∧ Hid (Below (w.heap.size + 1) (w.alloc (.cells #[.string n.nm, .slice n.PA n.ps.length n.pc, .slice n.TA n.ts.length n.tc] 29)) w')) (by kernel_rfl) ?_ (fun hHeld => ?_)
      · exact ⟨q0, q1, q2, BB.out.drew⟩
      refine wpAnyH_take (oi := ⟨_, _, _, _, _, _⟩) (i := 0) (v := ?_) rfl (by kernel_rfl) (by kernel_rfl) (by kernel_rfl) (fun _ _ _ h => h) (Or.inl ⟨by rfl, ?ya0⟩) (by assumption) ?ra0
      case ya0 => (intro w hSw; (try dsimp only at hSw); go_simp; (try with_reducible rfl))
      try simp only [Act.put, List.setIfInBounds_toArray, List.set_cons_zero, List.set_cons_succ]
      refine wpAnyH_take (oi := ⟨_, _, _, _, _, _⟩) (i := 1) (v := ?_) rfl (by kernel_rfl) (by kernel_rfl) (by kernel_rfl) (fun _ _ _ h => h) (Or.inl ⟨by rfl, ?ya1⟩) (by assumption) ?ra1
      case ya1 => (intro w hSw; (try dsimp only at hSw); go_simp; (try with_reducible rfl))
      try simp only [Act.put, List.setIfInBounds_toArray, List.set_cons_zero, List.set_cons_succ]
      refine wpAnyH_take (oi := ⟨_, _, _, _, _, _⟩) (i := 2) (v := ?_) rfl (by kernel_rfl) (by kernel_rfl) (by kernel_rfl) (fun _ _ _ h => h) (Or.inl ⟨by rfl, ?ya2⟩) (by assumption) ?ra2
      case ya2 => (intro w hSw; (try dsimp only at hSw); go_simp; (try with_reducible rfl))
      try simp only [Act.put, List.setIfInBounds_toArray, List.set_cons_zero, List.set_cons_succ]
      refine wpAnyH_take (oi := ⟨_, _, _, _, _, _⟩) (i := 3) (v := ?_) rfl (by kernel_rfl) (by kernel_rfl) (by kernel_rfl) (fun _ _ _ h => h) (Or.inl ⟨by rfl, ?ya3⟩) (by assumption) ?ra3
      case ya3 => (intro w hSw; (try dsimp only at hSw); go_simp; (try with_reducible rfl))
      try simp only [Act.put, List.setIfInBounds_toArray, List.set_cons_zero, List.set_cons_succ]
      refine wpAnyH_take (oi := ⟨_, _, _, _, _, _⟩) (i := 6) (v := ?_) rfl (by kernel_rfl) (by kernel_rfl) (by kernel_rfl) (fun _ _ _ h => h) (Or.inl ⟨by rfl, ?ya6⟩) (by assumption) ?ra6
      case ya6 => (intro w hSw; (try dsimp only at hSw); go_simp; (try with_reducible rfl))
      try simp only [Act.put, List.setIfInBounds_toArray, List.set_cons_zero, List.set_cons_succ]
      refine wpAnyH_take (oi := ⟨_, _, _, _, _, _⟩) (i := 7) (v := ?_) rfl (by kernel_rfl) (by kernel_rfl) (by kernel_rfl) (fun _ _ _ h => h) (Or.inl ⟨by rfl, ?ya7⟩) (by assumption) ?ra7
      case ya7 => (intro w hSw; (try dsimp only at hSw); go_simp; (try with_reducible rfl))
      try simp only [Act.put, List.setIfInBounds_toArray, List.set_cons_zero, List.set_cons_succ]
      refine wpAnyH_ready (rs := [4]) (by kernel_rfl) (by simp) ?_
      refine AllReadyH.cons (o := ⟨_, _, _, _, _, _⟩) rfl (fun K hK => ?_) AllReadyH.nil
      go_simp
      go_at_call 40; refine (COk.out _ (WG.out _ hHeld.2.2.2.out)).mono ?_; rintro e w4 ⟨A4, cA4, rfl, R4, K⟩; have R4 := Lib.hid R4; have MRd := Lib.hid (MRd.out.below K); (try go_wp2_with fail)
      refine hK.out _ _ ?_ (fun hHeld2 => ?_)
      · exact ⟨keepc hHeld.1 K, keepc hHeld.2.1 K, keepc hHeld.2.2.1 K, hHeld.2.2.2.out.trans (K.mono (by have := hHeld.2.2.2.out.size; rw [World.size_alloc] at this; exact this))⟩
      clear hK K hHeld
      have hHeld := hHeld2
      clear hHeld2
      try simp only [Act.put, List.setIfInBounds_toArray, List.set_cons_zero, List.set_cons_succ]
      refine wpAnyH_ready (rs := [5]) (by kernel_rfl) (by simp) ?_
      refine AllReadyH.cons (o := ⟨_, _, _, _, _, _⟩) rfl (fun K hK => ?_) AllReadyH.nil
      go_simp
      go_at_call 39; refine (CF.out A4 OL cA4 _ R4.out lo).mono ?_; rintro e w5 ⟨rfl, rfl⟩; rw [EOk.out]; (try go_wp2_with fail)
      refine hK.out _ _ ?_ (fun hHeld2 => ?_)
      · exact hHeld
      clear hK K hHeld
      have hHeld := hHeld2
      clear hHeld2
      try simp only [Act.put, List.setIfInBounds_toArray, List.set_cons_zero, List.set_cons_succ]
      refine wpAnyH_ready (rs := [8]) (by kernel_rfl) (by simp) ?_
      refine AllReadyH.cons (o := ⟨_, _, _, _, _, _⟩) rfl (fun K hK => ?_) AllReadyH.nil
      go_simp
      go_at_call 41; refine (CIk.out _ (WG.out _ hHeld.2.2.2.out)).mono ?_; rintro e w8 ⟨A8, cA8, rfl, R8, K⟩; have R8 := Lib.hid R8; have MRd := Lib.hid (MRd.out.below K); (try go_wp2_with fail)
      refine hK.out _ _ ?_ (fun hHeld2 => ?_)
      · exact ⟨keepc hHeld.1 K, keepc hHeld.2.1 K, keepc hHeld.2.2.1 K, hHeld.2.2.2.out.trans (K.mono (by have := hHeld.2.2.2.out.size; rw [World.size_alloc] at this; exact this))⟩
      clear hK K hHeld
      have hHeld := hHeld2
      clear hHeld2
      try simp only [Act.put, List.setIfInBounds_toArray, List.set_cons_zero, List.set_cons_succ]
      refine wpAnyH_ready (rs := [9]) (by kernel_rfl) (by simp) ?_
      refine AllReadyH.cons (o := ⟨_, _, _, _, _, _⟩) rfl (fun K hK => ?_) AllReadyH.nil
      go_simp
      go_at_call 39; refine (CF.out A8 IL cA8 _ R8.out li).mono ?_; rintro e w9 ⟨rfl, rfl⟩; rw [EIk.out]; (try go_wp2_with fail)
      refine hK.out _ _ ?_ (fun hHeld2 => ?_)
      · exact hHeld
      clear hK K hHeld
      have hHeld := hHeld2
      clear hHeld2
      try simp only [Act.put, List.setIfInBounds_toArray, List.set_cons_zero, List.set_cons_succ]
      refine wpAnyH_take (oi := ⟨_, _, _, _, _, _⟩) (i := 10) (v := ?_) rfl (by kernel_rfl) (by kernel_rfl) (by kernel_rfl) (fun _ _ _ h => h) (Or.inl ⟨by rfl, ?ya10⟩) (by assumption) ?ra10
      case ya10 => (intro w hSw; (try dsimp only at hSw); go_simp; (try with_reducible rfl))
      try simp only [Act.put, List.setIfInBounds_toArray, List.set_cons_zero, List.set_cons_succ]
      refine wpAnyH_take (oi := ⟨_, _, _, _, _, _⟩) (i := 11) (v := ?_) rfl (by kernel_rfl) (by kernel_rfl) (by kernel_rfl) (fun _ _ _ h => h) (Or.inl ⟨by rfl, ?ya11⟩) (by assumption) ?ra11
      case ya11 => (intro w hSw; (try dsimp only at hSw); go_simp; (try with_reducible rfl))
      try simp only [Act.put, List.setIfInBounds_toArray, List.set_cons_zero, List.set_cons_succ]
      obtain ⟨⟨x0, f0⟩, ⟨x1, f1⟩, ff⟩ := MRd.out.cells hlt
      have ST := Lib.hid MRd.out.step
      have BS := Lib.hid ((hHeld.2.2.2.out.setCell (p := ⟨w.heap.size + 1, k * 2, none⟩) (Nat.le_refl _) (.int .u64 (oa k : Nat))).setCell (p := ⟨w.heap.size + 1, k * 2 + 1, none⟩) (Nat.le_refl _) (.int .u64 (ia k : Nat)))
      obtain ⟨y0, y1, y2⟩ := PQ.out _ BS.out
      refine wpAnyH_ready (rs := [12]) (by kernel_rfl) (by simp) ?_
      refine AllReadyH.cons (o := ⟨_, _, _, _, _, _⟩) rfl (fun K hK => ?_) AllReadyH.nil
      rw [if_pos (by rfl)]
      go_simp
      refine hK.out _ _ ?_ (fun hHeld2 => ?_)
      · exact ⟨y0, y1, y2, BS⟩
      clear hK K hHeld hHeld2
      try simp only [Act.put, List.setIfInBounds_toArray, List.set_cons_zero, List.set_cons_succ]
      refine wpAnyH_done (by kernel_rfl) ?_ _
      go_wp2
      go_roundw
      case rel => exact ⟨k + 1, by omega, by go_num, ST, BS⟩
      case measure => simp [intOf]; omega
    · obtain rfl : k = n.ts.length := by omega
      go_wp2
      go_ret
      exact ⟨w.heap.size + 1, n.ts.length, rfl, by omega, MR.out, BG.out⟩
theorem slinks_any (n : NetV) (w : World) (hr : NetR w n) (hok : okN n = true) : Calls Tryd.prog 24 #[.agg #[.string n.nm, .slice n.PA n.ps.length n.pc, .slice n.TA n.ts.length n.tc]] w (LinkPost w.heap.size w n.ts.length (outS n) (inS n)) :=
  (slinks_own n w hr hok).mono fun e w' ⟨g, c, he, _, ho, hb⟩ => ⟨_, c, he, ho.links, hb⟩
end Go.Proofs.YtjibpkaanaphcaaDoor
