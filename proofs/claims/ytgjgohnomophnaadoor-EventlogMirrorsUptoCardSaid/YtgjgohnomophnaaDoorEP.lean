/- Event logs: Parse of the program. -/
import Derived.Test.YtgjgohnomophnaaDoorET
namespace Go.Proofs.YtgjgohnomophnaaDoor
open Go.RowKit Go.Shelf

attribute [local go_sem] Oper.semAt_some

def FBx (W : World) (b : Nat) (x y : Int) : Prop := W.heap[b]? = some (.cells #[.int .i64 x, .int .i64 y] 27 (0, 0))
theorem FBx.lt {W : World} {b : Nat} {x y : Int} (h : FBx W b x y) : b < W.heap.size := (Array.getElem?_eq_some_iff.1 h).1
theorem FBx.c0 {W : World} {b : Nat} {x y : Int} (h : FBx W b x y) : W.cell? ⟨b, 0, none⟩ = some (.int .i64 x) := by simp [World.cell?, show W.heap[b]? = _ from h]
theorem FBx.c1 {W : World} {b : Nat} {x y : Int} (h : FBx W b x y) : W.cell? ⟨b, 1, none⟩ = some (.int .i64 y) := by simp [World.cell?, show W.heap[b]? = _ from h]
theorem FBx.fr {W : World} {b : Nat} {x y : Int} (h : FBx W b x y) (o : Nat) : W.frozen? ⟨b, o, none⟩ = false := by simp [World.frozen?, show W.heap[b]? = _ from h]
theorem FBx.keep {S : Nat → Prop} {A B : World} {b : Nat} {x y : Int} (h : FBx A b x y) (k : KeepOn S A B) (hs : S b) : FBx B b x y := (k.block b h.lt hs).trans h
theorem FBx.set0 {W : World} {b : Nat} {x y : Int} (x' : Int) (h : FBx W b x y) : FBx (W.setCell ⟨b, 0, none⟩ (.int .i64 x')) b x' y := by
  obtain ⟨hlt, hk⟩ := Array.getElem?_eq_some_iff.1 h
  show (W.heap.modify b _)[b]? = _
  rw [Array.getElem?_eq_getElem (by rw [Array.size_modify]; exact hlt), Array.getElem_modify_self, hk]
  rfl
theorem FBx.set1 {W : World} {b : Nat} {x y : Int} (y' : Int) (h : FBx W b x y) : FBx (W.setCell ⟨b, 1, none⟩ (.int .i64 y')) b x y' := by
  obtain ⟨hlt, hk⟩ := Array.getElem?_eq_some_iff.1 h
  show (W.heap.modify b _)[b]? = _
  rw [Array.getElem?_eq_getElem (by rw [Array.size_modify]; exact hlt), Array.getElem_modify_self, hk]
  rfl
theorem FBx.other {W : World} {b c : Nat} {x y : Int} (h : FBx W b x y) (hne : b ≠ c) (v : Value) : FBx (W.setCell ⟨c, 0, none⟩ v) b x y := h.keep (KeepOn.set (S := fun k => k ≠ c) W ⟨c, 0, none⟩ v (fun h => h rfl)) hne
theorem FBx.new (w : World) (x y : Int) : FBx (w.alloc (.cells #[.int .i64 x, .int .i64 y] 27)) w.heap.size x y := World.alloc_heap_new w _
def flt (x y : Int) : Value := .agg #[.int .i64 x, .int .i64 y]
def PPost (g : Nat) (w : World) (r : List (List Txt) × Int × Nat) (e : Ending) (w' : World) : Prop :=
  ∃ A c L, e = .returned (.tuple #[.slice A (List.length L) c, flt r.2.1 r.2.2]) ∧ rowsL L = r.1 ∧ ReadsL w' A L ∧ Below g w w'
theorem putObj_fbx {W : World} {k D : Nat} {x y : Int} {o : Obj} (h : FBx W k x y) (hk : k ≠ D) : FBx (W.putObj D o) k x y := by
  unfold FBx at h ⊢
  rw [World.putObj_heap_other hk]; exact h
theorem boxed_put {W : World} {k D : Nat} {t : TypeId} {v : Value} {o : Obj} (h : Boxed W k t v) (hk : k ≠ D) : Boxed (W.putObj D o) k t v := by
  unfold Boxed at h ⊢
  rw [World.putObj_heap_other hk]; exact h
theorem bodyE_ret {n : Nat} {R : Ending → World → Prop} {tmps : Array Value} {W : World} {D : Nat} {g : Nat} {v : Value} {x y : Int} (hg : g + 2 ≤ D) (ha : tmps[2]? = some (.pointer (some ⟨g, 0, none⟩))) (hb : tmps[3]? = some (.pointer (some ⟨g + 1, 0, none⟩)))
    (hK : W.heap[D]? = some (Obj.deferred (some []))) (hx : Boxed W g 22 v) (hy : FBx W (g + 1) x y)
    (hR : R (.returned (.tuple #[v, flt x y])) (W.putObj D (.deferred none))) : bodyPostM Fence.wide n Tryd.prog Tryd.f17 R Exit.ret { tmps := tmps, defers := [{ target := Target.collected D, args := #[] }] } W := by
  have h1 := (boxed_put (D := D) (o := .deferred none) hx (by omega)).cell
  have h2 := (putObj_fbx (D := D) (o := .deferred none) hy (by omega)).c0
  have h3 := (putObj_fbx (D := D) (o := .deferred none) hy (by omega)).c1
  refine ⟨by simp, .inl ⟨_, _, rfl, run_takeDeferred hK, ?_⟩⟩
  refine ⟨.tuple #[v, flt x y], ?_, hR⟩
  simp [results, Tryd.f17, go_sem, ha, hb, h1, h2, h3, flt]
theorem bodyE_ret0 {n : Nat} {R : Ending → World → Prop} {tmps : Array Value} {W : World} {g : Nat} {v : Value} {x y : Int} (ha : tmps[2]? = some (.pointer (some ⟨g, 0, none⟩))) (hb : tmps[3]? = some (.pointer (some ⟨g + 1, 0, none⟩)))
    (hx : Boxed W g 22 v) (hy : FBx W (g + 1) x y)
    (hR : R (.returned (.tuple #[v, flt x y])) W) : bodyPostM Fence.wide n Tryd.prog Tryd.f17 R Exit.ret { tmps := tmps, defers := [] } W := by
  have h1 := hx.cell
  have h2 := hy.c0
  have h3 := hy.c1
  refine ⟨.tuple #[v, flt x y], ?_, hR⟩
  simp [results, Tryd.f17, go_sem, ha, hb, h1, h2, h3, flt]
theorem boxed_keep1 {W : World} {B c o : Nat} {t : TypeId} {v u : Value} (h : Boxed W B t v) (hne : B ≠ c) : Boxed (W.setCell ⟨c, o, none⟩ u) B t v := boxed_keep h (KeepOn.set (S := fun k => k ≠ c) W ⟨c, o, none⟩ u (fun h => h rfl)) hne
structure PI (g : Nat) (w : World) (hi : Nat) (pre : List Txt) (Z : World) : Prop where
  ex : ∃ v L, Boxed Z (g + 1 + 1) 22 v ∧ OwnG Z hi v L ∧ InvP pre (rowsL L) ∧ L.length ≤ 64
  r0 : Boxed Z g 22 (.slice none 0 0)
  r1 : FBx Z (g + 1) 0 0
  nb : Boxed Z (g + 1 + 1 + 1) 3 (.int .i64 pre.length)
  kw : Below g w Z
structure PX (g : Nat) (w : World) (L : List Txt) (Z : World) : Prop where
  r0 : Boxed Z g 22 (.slice none 0 0)
  r1 : ∃ e k, FBx Z (g + 1) e k ∧ parseF [] 0 L = ([], e, k.toNat) ∧ 0 ≤ k
  kw : Below g w Z
theorem PI.keep {g : Nat} {w : World} {hi : Nat} {pre : List Txt} {A B : World} {S : Nat → Prop} (hw : g ≤ w.heap.size) (h : PI g w hi pre A) (k : KeepOn S A B) (hg : ∀ i, i < g + 4 → S i) (hh : ∀ i, hi ≤ i → S i) : PI g w hi pre B := by
  obtain ⟨⟨v, L, h1, h2, h3, h4⟩, h5, h6, h7, h8⟩ := h
  exact ⟨⟨v, L, boxed_keep h1 k (hg _ (by omega)), h2.keep k hh, h3, h4⟩, boxed_keep h5 k (hg _ (by omega)), h6.keep k (hg _ (by omega)), boxed_keep h7 k (hg _ (by omega)), h8.trans (k.below (Nat.le_trans hw h8.size) fun i hi => hg i (by omega))⟩
theorem PX.keep {g : Nat} {w : World} {L : List Txt} {A B : World} {S : Nat → Prop} (hw : g ≤ w.heap.size) (h : PX g w L A) (k : KeepOn S A B) (hg : ∀ i, i < g + 4 → S i) : PX g w L B := by
  obtain ⟨h5, ⟨e, kk, h6, h7, h9⟩, h8⟩ := h
  exact ⟨boxed_keep h5 k (hg _ (by omega)), ⟨e, kk, h6.keep k (hg _ (by omega)), h7, h9⟩, h8.trans (k.below (Nat.le_trans hw h8.size) fun i hi => hg i (by omega))⟩

set_option maxRecDepth 100000 in
set_option maxHeartbeats 4000000 in
theorem parse_in (n : Nat) (hn : 5 ≤ n) (s : Txt) (hs : ¬ 65536 < s.length) (w : World) :
    CallsIn Fence.wide n Tryd.prog 17 #[.string ⟨s.toArray⟩] w (PPost w.heap.size w (parseF [] 0 (pieces 10 s))) := by
  have h1n : 1 ≤ n := by omega
  have e3 : ((65536 : Int) < (s.length : Int)) = False := by simp; omega
  have SC := Lib.hid (fun W => split_call ⟨s.toArray⟩ 10 W)
  have PS := Lib.hid (pieces_size 10 s)
  have PL := Lib.hid (pieces_length 10 s)
  refine callsIn_of_wp_marks Tryd.func17 rfl trivial ?_ rfl
  simp only [Tryd.ntmps17, List.size_toArray, List.length_cons, List.length_nil, Nat.reduceAdd, Nat.reduceSub, Array.replicate_succ, Array.replicate_zero, List.push_toArray, List.append_toArray, List.nil_append, List.cons_append]
  gi_wp2_with (refine ⟨trivial, ?_⟩; gi_at_call 39; refine (callsIn_wide.2 (SC.out _)).mono ?_; rintro e w' ⟨rfl, rfl⟩)
  obtain ⟨V1, hV1⟩ : ∃ V, V = w.alloc (.cells #[.slice none 0 0] 22) := ⟨_, rfl⟩
  rw [← hV1]
  obtain ⟨V2, hV2⟩ : ∃ V, V = V1.alloc (.cells #[.int .i64 0, .int .i64 0] 27) := ⟨_, rfl⟩
  rw [← hV2]
  obtain ⟨V3, hV3⟩ : ∃ V, V = V2.alloc (.cells #[.slice none 0 0] 22) := ⟨_, rfl⟩
  rw [← hV3]
  obtain ⟨V, hV⟩ : ∃ V, V = V3.alloc (.cells #[.int .i64 0] 3) := ⟨_, rfl⟩
  rw [← hV]
  have s1 : V1.heap.size = w.heap.size + 1 := by rw [hV1, World.size_alloc]
  have s2 : V2.heap.size = w.heap.size + 1 + 1 := by rw [hV2, World.size_alloc, s1]
  have s3 : V3.heap.size = w.heap.size + 1 + 1 + 1 := by rw [hV3, World.size_alloc, s2]
  have s4 : V.heap.size = w.heap.size + 1 + 1 + 1 + 1 := by rw [hV, World.size_alloc, s3]
  have b0 : Boxed V w.heap.size 22 (.slice none 0 0) := by rw [hV, hV3, hV2, hV1]; exact (((Boxed.new _ _ _).alloc _).alloc _).alloc _
  have b1 : FBx V (w.heap.size + 1) 0 0 := by
    have h := FBx.new V1 0 0
    rw [← hV2, s1] at h
    have k : KeepOn (fun _ => True) V2 V := by rw [hV, hV3]; exact (KeepOn.alloc _ _).trans (KeepOn.alloc _ _)
    exact h.keep k trivial
  have b2 : Boxed V (w.heap.size + 1 + 1) 22 (.slice none 0 0) := by
    have h := Boxed.new V2 22 (.slice none 0 0)
    rw [← hV3, s2] at h
    rw [hV]; exact h.alloc _
  have b3 : Boxed V (w.heap.size + 1 + 1 + 1) 3 (.int .i64 0) := by
    have h := Boxed.new V3 3 (.int .i64 0)
    rw [← hV, s3] at h
    exact h
  have kV : Below w.heap.size w V := by rw [hV, hV3, hV2, hV1]; exact ((((Below.refl _ _).alloc (Nat.le_refl _) _).alloc (by simp) _).alloc (by simp; omega) _).alloc (by simp; omega) _
  clear hV hV3 hV2 hV1 s1 s2 s3
  obtain ⟨c0, c1, c2⟩ := splitW_boxes V ⟨s.toArray⟩ 10
  have kX := splitW_below V ⟨s.toArray⟩ 10
  have sX := splitW_size V ⟨s.toArray⟩ 10
  have kX' := KeepOn.of_below (fun _ => True) kX
  have x0 := boxed_keep b0 kX' trivial
  have x1 := b1.keep kX' trivial
  have x2 := boxed_keep b2 kX' trivial
  have x3 := boxed_keep b3 kX' trivial
  have kWX := kV.trans (kX.mono (by omega))
  obtain ⟨X, hX⟩ : ∃ X, X = splitW V ⟨s.toArray⟩ 10 := ⟨_, rfl⟩
  rw [← hX] at c0 c1 c2 sX x0 x1 x2 x3 kWX ⊢
  rw [s4] at c0 c1 c2 sX
  clear hX kX kX' b0 b1 b2 b3 kV s4
  have HSX : Hid (X.heap.size = w.heap.size + 7) := by show _ = _; omega
  clear sX
  refine rangeFunc_scr (gf := 66) (lb := #[.pointer (some ⟨w.heap.size + 1 + 1 + 1 + 1 + 1, 0, none⟩), .pointer (some ⟨w.heap.size + 1 + 1 + 1 + 1, 0, none⟩), .pointer (some ⟨w.heap.size + 1 + 1 + 1 + 1 + 2, 0, none⟩)]) ?v (enters_of Tryd.func66 (by kernel_rfl) rfl)
    (split_scr (n - 1) (by omega) s 10 (w.heap.size + 1 + 1 + 1 + 1) X (by omega) (X.heap.size + 2) (by have := HSX.out; omega) c0 c1 c2) (fun k h => by have := HSX.out; omega) (fun k h => by have := HSX.out; omega) (fun _ => rfl) (fun _ _ _ _ _ _ => trivial)
    (fun hi pre Z => PI w.heap.size w hi pre Z)
    (fun c hi pre Z => c = .ret ∧ PX w.heap.size w (pieces 10 s) Z)
    (fun hi p A B hlo h k => PI.keep (Nat.le_refl _) h k (fun i hi' => ⟨by omega, .inl (by have := HSX.out; omega)⟩) fun i hi' => ⟨by have := HSX.out; omega, .inr hi'⟩)
    (fun c hi p A B hlo h k => ⟨h.1, PX.keep (Nat.le_refl _) h.2 k fun i hi' => ⟨by omega, .inl (by have := HSX.out; omega)⟩⟩)
    (fun hi W1 h1 h2 k => ?zero) ?a1 ?assign ?body ?done ?stop
  case v => rfl
  case zero =>
    have sx := HSX.out
    have kk := KeepOn.of_belowN (S := fun i => i < X.heap.size) k fun i h => h
    exact ⟨⟨_, [], boxed_keep x2 kk (by show _ < _; omega), OwnG.nil _ _, InvP.nil, Nat.zero_le _⟩, boxed_keep x0 kk (by show _ < _; omega), x1.keep kk (by show _ < _; omega), boxed_keep x3 kk (by show _ < _; omega), kWX.trans (k.mono (by omega))⟩
  case assign =>
    intro l2 x Z K hK
    gi_wp2
    exact hK
  case body =>
    rintro l2 hi pre x Z h1 h2 h3 ⟨⟨v, L, bl, ol, hInv, hL64⟩, r0, r1, nb, kz⟩ -
    have sx := HSX.out
    have hq : 1 ≤ n - 1 - 1 := by omega
    have hmx : Tryd.prog.follows .mixedOrders = true := by kernel_rfl
    have qn := nb.cell
    have fn := nb.frozen
    have hpl : pre.length + 1 ≤ s.length + 1 := by
      have h := h3.length_le
      rw [List.length_append, List.length_singleton] at h
      exact Nat.le_trans h PL.out
    have hxl : x.length ≤ 65536 := Nat.le_trans (PS.out x (h3.subset (by simp))) (by omega)
    have CW := Lib.hid (fun W => words_call x W)
    have WX := Lib.hid (fun j (hj : j < (wordsL x).length) => (mem_pieces_neL (atS_mem hj)).1)
    have WN := wordsL_len x
    have F2 : Hid (∀ w2, wordsW (Z.setCell ⟨w.heap.size + 1 + 1 + 1, 0, none⟩ (.int .i64 ((pre.length : Int) + 1))) x = w2 → KeepOn (fun b => b ≠ w.heap.size + 1 + 1 + 1) Z w2 ∧ Boxed w2 Z.heap.size 9 (sv x) ∧ Boxed w2 (w.heap.size + 1 + 1 + 1) 3 (.int .i64 ((pre.length : Int) + 1))) := by
      rintro w2 rfl
      have h := Boxed.new (Z.setCell ⟨w.heap.size + 1 + 1 + 1, 0, none⟩ (.int .i64 ((pre.length : Int) + 1))) 9 (sv x)
      rw [World.size_setCell] at h
      exact ⟨(KeepOn.set Z ⟨w.heap.size + 1 + 1 + 1, 0, none⟩ _ (by simp)).trans (KeepOn.alloc _ _), h, (nb.set _).alloc _⟩
    have CC : Hid (∀ W, Boxed W Z.heap.size 9 (sv x) → Calls Tryd.prog 40 #[.func (.func 59) #[] #[.pointer (some ⟨Z.heap.size, 0, none⟩)]] W (AppPost W.heap.size W (wordsL x))) := fun W h => collect_any x (by omega) Z.heap.size W h.lt h
    have HN := fun (e : lineE (rowsL L) x = 0) => InvP.step hInv e
    have HBd := fun (e : lineE (rowsL L) x ≠ 0) => InvP.bad hInv e h3
    have HXE : Hid (∀ W e, FBx W (w.heap.size + 1) e (pre.length + 1) → lineE (rowsL L) x ≠ 0 → e = lineE (rowsL L) x → KeepOn (fun b => b ≠ w.heap.size + 1 + 1 + 1 ∧ b ≠ w.heap.size ∧ b ≠ w.heap.size + 1) Z W → Boxed W w.heap.size 22 (.slice none 0 0) → PX w.heap.size w (pieces 10 s) W) := fun W e hf he hee k hr => by
      subst hee
      refine ⟨hr, ⟨_, _, hf, ?_, by omega⟩, kz.trans (k.below kz.size fun b hb => ⟨by omega, by omega, by omega⟩)⟩
      rw [HBd he]
      congr 2
    have HLR : (rowsL L).length = L.length := rowsL_len L
    have HSC : Hid (hi ≤ Z.heap.size) := h2
    clear hInv h3
    by_cases hw : wordsL x = []
    · have HI : Hid (InvP (pre ++ [x]) (rowsL L)) := by
        have h := HN (lineE_none hw)
        rw [lineN_none hw] at h
        exact h
      rw [hw] at CC
      clear HN HBd HXE WX WN
      gi_wp2_with (first
        | (refine ⟨trivial, ?_⟩; gi_at_call 41; refine (CallsIn.inRound l2 (callsIn_wide.2 (CW.out _))).mono ?_; rintro e w2 ⟨rfl, hw2⟩; obtain ⟨k2, b2, s2⟩ := F2.out w2 hw2; clear hw2)
        | (refine ⟨trivial, ?_⟩; gi_at_call 40; refine (CallsIn.inRound l2 (callsIn_wide.2 (CC.out w2 b2))).mono ?_; rintro e w3 ⟨v3, rfl, o3, k3⟩; obtain ⟨A3, c3, rfl, R3⟩ := ReadsS.own o3; have k3' := k2.trans (KeepOn.of_below (fun b => b ≠ w.heap.size + 1 + 1 + 1) k3); have n3 := boxed_keep s2 (KeepOn.of_below (fun _ => True) k3) trivial))
      exact ⟨k3'.mono fun i _ h => by omega, ⟨_, L, boxed_keep bl k3' (by omega), ol.keep k3' (fun b hb => by omega), HI.out, hL64⟩, boxed_keep r0 k3' (by omega), r1.keep k3' (by omega), by rw [List.length_append]; simpa using n3, kz.trans (k3'.below kz.size fun b hb => by omega)⟩
    · have hws : (wordsL x).length ≠ 0 := by simpa using hw
      have ezl : (((wordsL x).length : Int) == 0) = false := by simp; simpa using hw
      have CT : Hid (∀ A c W, ReadsS W A (wordsL x) → Calls Tryd.prog 42 #[.slice A (wordsL x).length c] W fun e w' => e = .returned (.tuple #[trV A (wordsL x) c, .int .i64 (trE (wordsL x))]) ∧ Below W.heap.size W w') := fun A c W R => trace_any A (wordsL x) c W R hw (by omega) (fun j hj => Nat.le_trans (WX.out j hj) (by omega))
      by_cases ht : trE (wordsL x) = 0
      · by_cases hf : L.length = 64
        · have HL2 := Lib.hid (lineE_full (acc := rowsL L) hw ht (by rw [HLR]; exact hf))
          rw [ht] at CT
          have e64 : ((L.length : Int) == 64) = true := by simp; omega
          clear HN HBd WX WN hw ht
          obtain ⟨vA, vc, rfl, -⟩ := ol.reads
          generalize wordsL x = ws at *
          replace hf := Lib.hid hf
          gi_wp2_with (first
            | (refine ⟨trivial, ?_⟩; gi_at_call 41; refine (CallsIn.inRound l2 (callsIn_wide.2 (CW.out _))).mono ?_; rintro e w2 ⟨rfl, hw2⟩; obtain ⟨k2, b2, s2⟩ := F2.out w2 hw2; clear hw2)
            | (refine ⟨trivial, ?_⟩; gi_at_call 40; refine (CallsIn.inRound l2 (callsIn_wide.2 (CC.out w2 b2))).mono ?_; rintro e w3 ⟨v3, rfl, o3, k3⟩; obtain ⟨A3, c3, rfl, R3⟩ := ReadsS.own o3; have k3' := k2.trans (KeepOn.of_below (fun b => b ≠ w.heap.size + 1 + 1 + 1) k3); have n3 := boxed_keep s2 (KeepOn.of_below (fun _ => True) k3) trivial)
            | (refine ⟨trivial, ?_⟩; gi_at_call 42; refine (CallsIn.inRound l2 (callsIn_wide.2 (CT.out A3 c3 w3 R3))).mono ?_; rintro e w4 ⟨rfl, k4⟩; have k4' := k3'.trans (KeepOn.of_below (fun b => b ≠ w.heap.size + 1 + 1 + 1) k4); have n4 := boxed_keep n3 (KeepOn.of_below (fun _ => True) k4) trivial; have l4 := boxed_keep bl k4' (by omega); have l4c := l4.cell; have l4f := l4.frozen))
          refine wpIn_region_any hmx ?_
          change wpAnyIn _ _ _ _ _ _ _ _ _ (World.drew _)
          obtain ⟨W5, hW5⟩ : ∃ W5, W5 = w4.drew := ⟨_, rfl⟩
          have k5 : KeepOn (fun b => b ≠ w.heap.size + 1 + 1 + 1) Z W5 := by rw [hW5]; exact k4'.trans (KeepOn.drew _)
          have n5 := boxed_keep (S := fun _ => True) n4 (by rw [hW5]; exact KeepOn.drew _ : KeepOn (fun _ => True) w4 W5) trivial
          rw [← hW5]
          have r05 := boxed_keep r0 k5 (by omega)
          have r15 := r1.keep k5 (by omega)
          have n5c := n5.cell
          have n5s := (boxed_keep1 (c := w.heap.size) (o := 0) (u := .slice none 0 0) n5 (by omega)).cell
          have r05c := r05.cell
          have r05f := r05.frozen
          have q1 := (r15.other (c := w.heap.size) (by omega) (.slice none 0 0)).c0
          have q1f := fun o => (r15.other (c := w.heap.size) (by omega) (.slice none 0 0)).fr o
          have q3 := ((r15.other (c := w.heap.size) (by omega) (.slice none 0 0)).set0 (2)).c1
          have q3f := ((r15.other (c := w.heap.size) (by omega) (.slice none 0 0)).set0 (2)).fr 1
          have kf := (((KeepOn.set (S := fun b => b ≠ w.heap.size ∧ b ≠ w.heap.size + 1) W5 ⟨w.heap.size, 0, none⟩ (.slice none 0 0) (by simp)).trans (KeepOn.set _ ⟨w.heap.size + 1, 0, none⟩ (.int .i64 (2)) (by simp))).trans (KeepOn.set _ ⟨w.heap.size + 1, 1, none⟩ (.int .i64 ((pre.length : Int) + 1)) (by simp)))
          have kF := (k5.mono (T := fun b => b ≠ w.heap.size + 1 + 1 + 1 ∧ b ≠ w.heap.size ∧ b ≠ w.heap.size + 1) fun b _ h => h.1).trans (kf.mono fun b _ h => h.2)
          have hEnd := Lib.hid (And.intro (kF.mono (T := fun k => (k = w.heap.size + 1 + 1 + 1 + 1 ∨ k = w.heap.size + 1 + 1 + 1 + 1 + 1 ∨ k = w.heap.size + 1 + 1 + 1 + 1 + 2) ∨ (X.heap.size ≤ k ∧ k < hi)) fun b hb h => ⟨by omega, by omega, by omega⟩) (HXE.out _ _ (((r15.other (by omega) _).set0 _).set1 _) (by rw [HL2.out]; decide) HL2.out.symm kF (boxed_keep1 ((r05.set _).other (by omega) _) (by omega))))
          clear kf kF n5 r05 r15 k5 hW5
          refine wpAnyIn_ready (rs := [0, 1, 3]) (by kernel_rfl) (by simp) ?_
          refine (AllReadyIn.cons rfl (fun K hK => ?_) (AllReadyIn.cons rfl (fun K hK => ?_) (AllReadyIn.cons rfl (fun K hK => ?_) AllReadyIn.nil)))
          · go_simp
            refine hK _ _ ?_
            clear hK K
            try simp only [Act.put, List.setIfInBounds_toArray, List.set_cons_zero, List.set_cons_succ]
            refine wpAnyIn_ready (rs := [1, 3]) (by kernel_rfl) (by simp) ?_
            refine (AllReadyIn.cons rfl (fun K hK => ?_) (AllReadyIn.cons rfl (fun K hK => ?_) AllReadyIn.nil))
            · go_simp
              refine hK _ _ ?_
              clear hK K
              try simp only [Act.put, List.setIfInBounds_toArray, List.set_cons_zero, List.set_cons_succ]
              refine wpAnyIn_ready (rs := [2, 3]) (by kernel_rfl) (by simp) ?_
              refine (AllReadyIn.cons rfl (fun K hK => ?_) (AllReadyIn.cons rfl (fun K hK => ?_) AllReadyIn.nil))
              · go_simp
                refine hK _ _ ?_
                clear hK K
                try simp only [Act.put, List.setIfInBounds_toArray, List.set_cons_zero, List.set_cons_succ]
                refine wpAnyIn_ready (rs := [3]) (by kernel_rfl) (by simp) ?_
                refine (AllReadyIn.cons rfl (fun K hK => ?_) AllReadyIn.nil)
                · go_simp
                  refine hK _ _ ?_
                  clear hK K
                  try simp only [Act.put, List.setIfInBounds_toArray, List.set_cons_zero, List.set_cons_succ]
                  refine wpAnyIn_ready (rs := [4]) (by kernel_rfl) (by simp) ?_
                  refine (AllReadyIn.cons rfl (fun K hK => ?_) AllReadyIn.nil)
                  · go_simp
                    refine hK _ _ ?_
                    clear hK K
                    try simp only [Act.put, List.setIfInBounds_toArray, List.set_cons_zero, List.set_cons_succ]
                    refine wpAnyIn_done (by kernel_rfl) ?_ _
                    gi_wp2
                    exact ⟨hEnd.out.1, rfl, hEnd.out.2⟩
              · go_simp
                refine hK _ _ ?_
                clear hK K
                try simp only [Act.put, List.setIfInBounds_toArray, List.set_cons_zero, List.set_cons_succ]
                refine wpAnyIn_ready (rs := [2]) (by kernel_rfl) (by simp) ?_
                refine (AllReadyIn.cons rfl (fun K hK => ?_) AllReadyIn.nil)
                · go_simp
                  refine hK _ _ ?_
                  clear hK K
                  try simp only [Act.put, List.setIfInBounds_toArray, List.set_cons_zero, List.set_cons_succ]
                  refine wpAnyIn_ready (rs := [4]) (by kernel_rfl) (by simp) ?_
                  refine (AllReadyIn.cons rfl (fun K hK => ?_) AllReadyIn.nil)
                  · go_simp
                    refine hK _ _ ?_
                    clear hK K
                    try simp only [Act.put, List.setIfInBounds_toArray, List.set_cons_zero, List.set_cons_succ]
                    refine wpAnyIn_done (by kernel_rfl) ?_ _
                    gi_wp2
                    exact ⟨hEnd.out.1, rfl, hEnd.out.2⟩
            · go_simp
              refine hK _ _ ?_
              clear hK K
              try simp only [Act.put, List.setIfInBounds_toArray, List.set_cons_zero, List.set_cons_succ]
              refine wpAnyIn_ready (rs := [1]) (by kernel_rfl) (by simp) ?_
              refine (AllReadyIn.cons rfl (fun K hK => ?_) AllReadyIn.nil)
              · go_simp
                refine hK _ _ ?_
                clear hK K
                try simp only [Act.put, List.setIfInBounds_toArray, List.set_cons_zero, List.set_cons_succ]
                refine wpAnyIn_ready (rs := [2]) (by kernel_rfl) (by simp) ?_
                refine (AllReadyIn.cons rfl (fun K hK => ?_) AllReadyIn.nil)
                · go_simp
                  refine hK _ _ ?_
                  clear hK K
                  try simp only [Act.put, List.setIfInBounds_toArray, List.set_cons_zero, List.set_cons_succ]
                  refine wpAnyIn_ready (rs := [4]) (by kernel_rfl) (by simp) ?_
                  refine (AllReadyIn.cons rfl (fun K hK => ?_) AllReadyIn.nil)
                  · go_simp
                    refine hK _ _ ?_
                    clear hK K
                    try simp only [Act.put, List.setIfInBounds_toArray, List.set_cons_zero, List.set_cons_succ]
                    refine wpAnyIn_done (by kernel_rfl) ?_ _
                    gi_wp2
                    exact ⟨hEnd.out.1, rfl, hEnd.out.2⟩
          · go_simp
            refine hK _ _ ?_
            clear hK K
            try simp only [Act.put, List.setIfInBounds_toArray, List.set_cons_zero, List.set_cons_succ]
            refine wpAnyIn_ready (rs := [0, 3]) (by kernel_rfl) (by simp) ?_
            refine (AllReadyIn.cons rfl (fun K hK => ?_) (AllReadyIn.cons rfl (fun K hK => ?_) AllReadyIn.nil))
            · go_simp
              refine hK _ _ ?_
              clear hK K
              try simp only [Act.put, List.setIfInBounds_toArray, List.set_cons_zero, List.set_cons_succ]
              refine wpAnyIn_ready (rs := [2, 3]) (by kernel_rfl) (by simp) ?_
              refine (AllReadyIn.cons rfl (fun K hK => ?_) (AllReadyIn.cons rfl (fun K hK => ?_) AllReadyIn.nil))
              · go_simp
                refine hK _ _ ?_
                clear hK K
                try simp only [Act.put, List.setIfInBounds_toArray, List.set_cons_zero, List.set_cons_succ]
                refine wpAnyIn_ready (rs := [3]) (by kernel_rfl) (by simp) ?_
                refine (AllReadyIn.cons rfl (fun K hK => ?_) AllReadyIn.nil)
                · go_simp
                  refine hK _ _ ?_
                  clear hK K
                  try simp only [Act.put, List.setIfInBounds_toArray, List.set_cons_zero, List.set_cons_succ]
                  refine wpAnyIn_ready (rs := [4]) (by kernel_rfl) (by simp) ?_
                  refine (AllReadyIn.cons rfl (fun K hK => ?_) AllReadyIn.nil)
                  · go_simp
                    refine hK _ _ ?_
                    clear hK K
                    try simp only [Act.put, List.setIfInBounds_toArray, List.set_cons_zero, List.set_cons_succ]
                    refine wpAnyIn_done (by kernel_rfl) ?_ _
                    gi_wp2
                    exact ⟨hEnd.out.1, rfl, hEnd.out.2⟩
              · go_simp
                refine hK _ _ ?_
                clear hK K
                try simp only [Act.put, List.setIfInBounds_toArray, List.set_cons_zero, List.set_cons_succ]
                refine wpAnyIn_ready (rs := [2]) (by kernel_rfl) (by simp) ?_
                refine (AllReadyIn.cons rfl (fun K hK => ?_) AllReadyIn.nil)
                · go_simp
                  refine hK _ _ ?_
                  clear hK K
                  try simp only [Act.put, List.setIfInBounds_toArray, List.set_cons_zero, List.set_cons_succ]
                  refine wpAnyIn_ready (rs := [4]) (by kernel_rfl) (by simp) ?_
                  refine (AllReadyIn.cons rfl (fun K hK => ?_) AllReadyIn.nil)
                  · go_simp
                    refine hK _ _ ?_
                    clear hK K
                    try simp only [Act.put, List.setIfInBounds_toArray, List.set_cons_zero, List.set_cons_succ]
                    refine wpAnyIn_done (by kernel_rfl) ?_ _
                    gi_wp2
                    exact ⟨hEnd.out.1, rfl, hEnd.out.2⟩
            · go_simp
              refine hK _ _ ?_
              clear hK K
              try simp only [Act.put, List.setIfInBounds_toArray, List.set_cons_zero, List.set_cons_succ]
              refine wpAnyIn_ready (rs := [0]) (by kernel_rfl) (by simp) ?_
              refine (AllReadyIn.cons rfl (fun K hK => ?_) AllReadyIn.nil)
              · go_simp
                refine hK _ _ ?_
                clear hK K
                try simp only [Act.put, List.setIfInBounds_toArray, List.set_cons_zero, List.set_cons_succ]
                refine wpAnyIn_ready (rs := [2]) (by kernel_rfl) (by simp) ?_
                refine (AllReadyIn.cons rfl (fun K hK => ?_) AllReadyIn.nil)
                · go_simp
                  refine hK _ _ ?_
                  clear hK K
                  try simp only [Act.put, List.setIfInBounds_toArray, List.set_cons_zero, List.set_cons_succ]
                  refine wpAnyIn_ready (rs := [4]) (by kernel_rfl) (by simp) ?_
                  refine (AllReadyIn.cons rfl (fun K hK => ?_) AllReadyIn.nil)
                  · go_simp
                    refine hK _ _ ?_
                    clear hK K
                    try simp only [Act.put, List.setIfInBounds_toArray, List.set_cons_zero, List.set_cons_succ]
                    refine wpAnyIn_done (by kernel_rfl) ?_ _
                    gi_wp2
                    exact ⟨hEnd.out.1, rfl, hEnd.out.2⟩
          · go_simp
            refine hK _ _ ?_
            clear hK K
            try simp only [Act.put, List.setIfInBounds_toArray, List.set_cons_zero, List.set_cons_succ]
            refine wpAnyIn_ready (rs := [0, 1]) (by kernel_rfl) (by simp) ?_
            refine (AllReadyIn.cons rfl (fun K hK => ?_) (AllReadyIn.cons rfl (fun K hK => ?_) AllReadyIn.nil))
            · go_simp
              refine hK _ _ ?_
              clear hK K
              try simp only [Act.put, List.setIfInBounds_toArray, List.set_cons_zero, List.set_cons_succ]
              refine wpAnyIn_ready (rs := [1]) (by kernel_rfl) (by simp) ?_
              refine (AllReadyIn.cons rfl (fun K hK => ?_) AllReadyIn.nil)
              · go_simp
                refine hK _ _ ?_
                clear hK K
                try simp only [Act.put, List.setIfInBounds_toArray, List.set_cons_zero, List.set_cons_succ]
                refine wpAnyIn_ready (rs := [2]) (by kernel_rfl) (by simp) ?_
                refine (AllReadyIn.cons rfl (fun K hK => ?_) AllReadyIn.nil)
                · go_simp
                  refine hK _ _ ?_
                  clear hK K
                  try simp only [Act.put, List.setIfInBounds_toArray, List.set_cons_zero, List.set_cons_succ]
                  refine wpAnyIn_ready (rs := [4]) (by kernel_rfl) (by simp) ?_
                  refine (AllReadyIn.cons rfl (fun K hK => ?_) AllReadyIn.nil)
                  · go_simp
                    refine hK _ _ ?_
                    clear hK K
                    try simp only [Act.put, List.setIfInBounds_toArray, List.set_cons_zero, List.set_cons_succ]
                    refine wpAnyIn_done (by kernel_rfl) ?_ _
                    gi_wp2
                    exact ⟨hEnd.out.1, rfl, hEnd.out.2⟩
            · go_simp
              refine hK _ _ ?_
              clear hK K
              try simp only [Act.put, List.setIfInBounds_toArray, List.set_cons_zero, List.set_cons_succ]
              refine wpAnyIn_ready (rs := [0]) (by kernel_rfl) (by simp) ?_
              refine (AllReadyIn.cons rfl (fun K hK => ?_) AllReadyIn.nil)
              · go_simp
                refine hK _ _ ?_
                clear hK K
                try simp only [Act.put, List.setIfInBounds_toArray, List.set_cons_zero, List.set_cons_succ]
                refine wpAnyIn_ready (rs := [2]) (by kernel_rfl) (by simp) ?_
                refine (AllReadyIn.cons rfl (fun K hK => ?_) AllReadyIn.nil)
                · go_simp
                  refine hK _ _ ?_
                  clear hK K
                  try simp only [Act.put, List.setIfInBounds_toArray, List.set_cons_zero, List.set_cons_succ]
                  refine wpAnyIn_ready (rs := [4]) (by kernel_rfl) (by simp) ?_
                  refine (AllReadyIn.cons rfl (fun K hK => ?_) AllReadyIn.nil)
                  · go_simp
                    refine hK _ _ ?_
                    clear hK K
                    try simp only [Act.put, List.setIfInBounds_toArray, List.set_cons_zero, List.set_cons_succ]
                    refine wpAnyIn_done (by kernel_rfl) ?_ _
                    gi_wp2
                    exact ⟨hEnd.out.1, rfl, hEnd.out.2⟩

        · have HL2 := HN (lineE_ok (acc := rowsL L) hw ht (by rw [HLR]; exact hf))
          rw [lineN_some hw] at HL2
          have e64 : ((L.length : Int) == 64) = false := by simp; omega
          have hl64 := Lib.hid (show L.length + 1 ≤ 64 by omega)
          have hl5 : L.length ≤ 100000 := by omega
          have RK : Hid (∀ A c W b0, OwnT W b0 (.slice A (wordsL x).length c) (wordsL x) → hi ≤ b0 → ∃ r : Row, trV A (wordsL x) c = .slice r.A r.zs.length r.cap ∧ r.zs = trL (wordsL x) ∧ FarG W hi r) := fun A c W b0 ho hb => by
            by_cases hd : wordsL x = [[45]]
            · exact ⟨⟨none, [], 0⟩, trV_nil (.inl hd), by unfold trL; rw [if_pos hd], ⟨⟨ReadsS.nil _ _, by simp⟩, fun h => absurd rfl h⟩⟩
            · exact ⟨⟨A, wordsL x, c⟩, trV_ok hd ht, (trL_no hd).symm, FarG.own (own_mono ho hb) (by omega)⟩
          have HI : Hid (∀ r : Row, r.zs = trL (wordsL x) → InvP (pre ++ [x]) (rowsL (L ++ [r]))) := fun r hr => by rw [rowsL_snoc, hr]; exact HL2
          rw [ht] at CT
          clear HN HBd WX WN hw ht HL2 HXE
          obtain ⟨vA, vc, rfl, -⟩ := ol.reads
          generalize trL (wordsL x) = tl at *
          generalize wordsL x = ws at *
          replace hf := Lib.hid hf
          gi_wp2_with (first
            | (refine ⟨trivial, ?_⟩; gi_at_call 41; refine (CallsIn.inRound l2 (callsIn_wide.2 (CW.out _))).mono ?_; rintro e w2 ⟨rfl, hw2⟩; obtain ⟨k2, b2, s2⟩ := F2.out w2 hw2; clear hw2)
            | (refine ⟨trivial, ?_⟩; gi_at_call 40; refine (CallsIn.inRound l2 (callsIn_wide.2 (CC.out w2 b2))).mono ?_; rintro e w3 ⟨v3, rfl, o3, k3⟩; obtain ⟨A3, c3, rfl, R3⟩ := ReadsS.own o3; have k3' := k2.trans (KeepOn.of_below (fun b => b ≠ w.heap.size + 1 + 1 + 1) k3); have n3 := boxed_keep s2 (KeepOn.of_below (fun _ => True) k3) trivial)
            | (refine ⟨trivial, ?_⟩; gi_at_call 42; refine (CallsIn.inRound l2 (callsIn_wide.2 (CT.out A3 c3 w3 R3))).mono ?_; rintro e w4 ⟨rfl, k4⟩; have k4' := k3'.trans (KeepOn.of_below (fun b => b ≠ w.heap.size + 1 + 1 + 1) k4); have n4 := boxed_keep n3 (KeepOn.of_below (fun _ => True) k4) trivial; have l4 := boxed_keep bl k4' (by omega); have l4c := l4.cell; have l4f := l4.frozen; obtain ⟨r, er, ez, fr3⟩ := RK.out A3 c3 w3 _ o3 (Nat.le_trans HSC.out k2.size); replace ez := Lib.hid ez; rw [er]; have fr4 := fr3.keep (KeepOn.of_below (fun _ => True) k4) (fun _ _ => trivial); have ol4 := ol.keep k4' (fun b hb => by omega); have s4 : hi ≤ w4.heap.size := Nat.le_trans HSC.out k4'.size)
            | (gi_at_builtin; go_loud (refine wpListIn_plain rfl fun K hK => ?_; refine operIn_row (.tmp 42) (.tmp 44) rfl hi _ L r rfl (ol4.keep (KeepOn.alloc (S := fun _ => True) _ _) fun _ _ => trivial) w4.heap.size rfl (Boxed.new _ _ _).cell (fr4.keep (KeepOn.alloc (S := fun _ => True) _ _) fun _ _ => trivial) hl5 (by rw [World.size_alloc]; omega) ?_; intro A' c' w6 o6 k6; refine hK _ _ ?_; have b6 := boxed_keep (l4.alloc (.cells #[.slice r.A r.zs.length r.cap] 41)) k6 (by show _ < _; omega); have c6 := b6.cell; have f6 := b6.frozen)))
          have k7 := ((k4'.mono (T := fun b => b < hi ∧ b ≠ w.heap.size + 1 + 1 + 1 ∧ b ≠ w.heap.size + 1 + 1) fun b _ h => h.2.1).trans (KeepOn.alloc w4 (.cells #[.slice r.A r.zs.length r.cap] 41))).trans (k6.mono fun b _ h => h.1)
          have n6 := boxed_keep (n4.alloc (.cells #[.slice r.A r.zs.length r.cap] 41)) k6 (by show _ < _; omega)
          have k8 := k7.trans (KeepOn.set w6 ⟨w.heap.size + 1 + 1, 0, none⟩ (.slice A' (L.length + 1) c') (by simp))
          refine ⟨k8.mono fun b hb h => ⟨by omega, by omega, by omega⟩, ⟨_, L ++ [r], b6.set _, ?_, HI.out r ez.out, ?_⟩, boxed_keep r0 k8 ⟨by omega, by omega, by omega⟩, r1.keep k8 ⟨by omega, by omega, by omega⟩, ?_, kz.trans (k8.below kz.size fun b hb => ⟨by omega, by omega, by omega⟩)⟩
          · exact o6.keep (KeepOn.set (S := fun b => hi ≤ b) w6 ⟨w.heap.size + 1 + 1, 0, none⟩ _ (by show ¬ hi ≤ w.heap.size + 1 + 1; omega)) fun _ h => h
          · rw [List.length_append]; exact hl64.out
          · rw [List.length_append]
            have h := boxed_keep1 (c := w.heap.size + 1 + 1) (o := 0) (u := .slice A' (L.length + 1) c') n6 (by omega)
            simpa using h
      · have HL2 := Lib.hid (lineE_bad (acc := rowsL L) hw ht)
        have e0 : (trE (wordsL x) == 0) = false := by simpa using ht
        have HT := Lib.hid ht
        clear HN HBd WX WN hw ht
        generalize hS : trE (wordsL x) = S at *
        replace hS := Lib.hid hS
        generalize wordsL x = ws at *
        gi_wp2_with (first
          | (refine ⟨trivial, ?_⟩; gi_at_call 41; refine (CallsIn.inRound l2 (callsIn_wide.2 (CW.out _))).mono ?_; rintro e w2 ⟨rfl, hw2⟩; obtain ⟨k2, b2, s2⟩ := F2.out w2 hw2; clear hw2)
          | (refine ⟨trivial, ?_⟩; gi_at_call 40; refine (CallsIn.inRound l2 (callsIn_wide.2 (CC.out w2 b2))).mono ?_; rintro e w3 ⟨v3, rfl, o3, k3⟩; obtain ⟨A3, c3, rfl, R3⟩ := ReadsS.own o3; have k3' := k2.trans (KeepOn.of_below (fun b => b ≠ w.heap.size + 1 + 1 + 1) k3); have n3 := boxed_keep s2 (KeepOn.of_below (fun _ => True) k3) trivial)
          | (refine ⟨trivial, ?_⟩; gi_at_call 42; refine (CallsIn.inRound l2 (callsIn_wide.2 (CT.out A3 c3 w3 R3))).mono ?_; rintro e w4 ⟨rfl, k4⟩; have k4' := k3'.trans (KeepOn.of_below (fun b => b ≠ w.heap.size + 1 + 1 + 1) k4); have n4 := boxed_keep n3 (KeepOn.of_below (fun _ => True) k4) trivial; have l4 := boxed_keep bl k4' (by omega); have l4c := l4.cell; have l4f := l4.frozen))
        refine wpIn_region_any hmx ?_
        change wpAnyIn _ _ _ _ _ _ _ _ _ (World.drew _)
        obtain ⟨W5, hW5⟩ : ∃ W5, W5 = w4.drew := ⟨_, rfl⟩
        have k5 : KeepOn (fun b => b ≠ w.heap.size + 1 + 1 + 1) Z W5 := by rw [hW5]; exact k4'.trans (KeepOn.drew _)
        have n5 := boxed_keep (S := fun _ => True) n4 (by rw [hW5]; exact KeepOn.drew _ : KeepOn (fun _ => True) w4 W5) trivial
        rw [← hW5]
        have r05 := boxed_keep r0 k5 (by omega)
        have r15 := r1.keep k5 (by omega)
        have n5c := n5.cell
        have n5s := (boxed_keep1 (c := w.heap.size) (o := 0) (u := .slice none 0 0) n5 (by omega)).cell
        have r05c := r05.cell
        have r05f := r05.frozen
        have q1 := (r15.other (c := w.heap.size) (by omega) (.slice none 0 0)).c0
        have q1f := fun o => (r15.other (c := w.heap.size) (by omega) (.slice none 0 0)).fr o
        have q3 := ((r15.other (c := w.heap.size) (by omega) (.slice none 0 0)).set0 (S)).c1
        have q3f := ((r15.other (c := w.heap.size) (by omega) (.slice none 0 0)).set0 (S)).fr 1
        have kf := (((KeepOn.set (S := fun b => b ≠ w.heap.size ∧ b ≠ w.heap.size + 1) W5 ⟨w.heap.size, 0, none⟩ (.slice none 0 0) (by simp)).trans (KeepOn.set _ ⟨w.heap.size + 1, 0, none⟩ (.int .i64 (S)) (by simp))).trans (KeepOn.set _ ⟨w.heap.size + 1, 1, none⟩ (.int .i64 ((pre.length : Int) + 1)) (by simp)))
        have kF := (k5.mono (T := fun b => b ≠ w.heap.size + 1 + 1 + 1 ∧ b ≠ w.heap.size ∧ b ≠ w.heap.size + 1) fun b _ h => h.1).trans (kf.mono fun b _ h => h.2)
        have hEnd := Lib.hid (And.intro (kF.mono (T := fun k => (k = w.heap.size + 1 + 1 + 1 + 1 ∨ k = w.heap.size + 1 + 1 + 1 + 1 + 1 ∨ k = w.heap.size + 1 + 1 + 1 + 1 + 2) ∨ (X.heap.size ≤ k ∧ k < hi)) fun b hb h => ⟨by omega, by omega, by omega⟩) (HXE.out _ _ (((r15.other (by omega) _).set0 _).set1 _) (by rw [HL2.out]; exact HT.out) HL2.out.symm kF (boxed_keep1 ((r05.set _).other (by omega) _) (by omega))))
        clear kf kF n5 r05 r15 k5 hW5
        refine wpAnyIn_ready (rs := [0, 1, 3]) (by kernel_rfl) (by simp) ?_
        refine (AllReadyIn.cons rfl (fun K hK => ?_) (AllReadyIn.cons rfl (fun K hK => ?_) (AllReadyIn.cons rfl (fun K hK => ?_) AllReadyIn.nil)))
        · go_simp
          refine hK _ _ ?_
          clear hK K
          try simp only [Act.put, List.setIfInBounds_toArray, List.set_cons_zero, List.set_cons_succ]
          refine wpAnyIn_ready (rs := [1, 3]) (by kernel_rfl) (by simp) ?_
          refine (AllReadyIn.cons rfl (fun K hK => ?_) (AllReadyIn.cons rfl (fun K hK => ?_) AllReadyIn.nil))
          · go_simp
            refine hK _ _ ?_
            clear hK K
            try simp only [Act.put, List.setIfInBounds_toArray, List.set_cons_zero, List.set_cons_succ]
            refine wpAnyIn_ready (rs := [2, 3]) (by kernel_rfl) (by simp) ?_
            refine (AllReadyIn.cons rfl (fun K hK => ?_) (AllReadyIn.cons rfl (fun K hK => ?_) AllReadyIn.nil))
            · go_simp
              refine hK _ _ ?_
              clear hK K
              try simp only [Act.put, List.setIfInBounds_toArray, List.set_cons_zero, List.set_cons_succ]
              refine wpAnyIn_ready (rs := [3]) (by kernel_rfl) (by simp) ?_
              refine (AllReadyIn.cons rfl (fun K hK => ?_) AllReadyIn.nil)
              · go_simp
                refine hK _ _ ?_
                clear hK K
                try simp only [Act.put, List.setIfInBounds_toArray, List.set_cons_zero, List.set_cons_succ]
                refine wpAnyIn_ready (rs := [4]) (by kernel_rfl) (by simp) ?_
                refine (AllReadyIn.cons rfl (fun K hK => ?_) AllReadyIn.nil)
                · go_simp
                  refine hK _ _ ?_
                  clear hK K
                  try simp only [Act.put, List.setIfInBounds_toArray, List.set_cons_zero, List.set_cons_succ]
                  refine wpAnyIn_done (by kernel_rfl) ?_ _
                  gi_wp2
                  exact ⟨hEnd.out.1, rfl, hEnd.out.2⟩
            · go_simp
              refine hK _ _ ?_
              clear hK K
              try simp only [Act.put, List.setIfInBounds_toArray, List.set_cons_zero, List.set_cons_succ]
              refine wpAnyIn_ready (rs := [2]) (by kernel_rfl) (by simp) ?_
              refine (AllReadyIn.cons rfl (fun K hK => ?_) AllReadyIn.nil)
              · go_simp
                refine hK _ _ ?_
                clear hK K
                try simp only [Act.put, List.setIfInBounds_toArray, List.set_cons_zero, List.set_cons_succ]
                refine wpAnyIn_ready (rs := [4]) (by kernel_rfl) (by simp) ?_
                refine (AllReadyIn.cons rfl (fun K hK => ?_) AllReadyIn.nil)
                · go_simp
                  refine hK _ _ ?_
                  clear hK K
                  try simp only [Act.put, List.setIfInBounds_toArray, List.set_cons_zero, List.set_cons_succ]
                  refine wpAnyIn_done (by kernel_rfl) ?_ _
                  gi_wp2
                  exact ⟨hEnd.out.1, rfl, hEnd.out.2⟩
          · go_simp
            refine hK _ _ ?_
            clear hK K
            try simp only [Act.put, List.setIfInBounds_toArray, List.set_cons_zero, List.set_cons_succ]
            refine wpAnyIn_ready (rs := [1]) (by kernel_rfl) (by simp) ?_
            refine (AllReadyIn.cons rfl (fun K hK => ?_) AllReadyIn.nil)
            · go_simp
              refine hK _ _ ?_
              clear hK K
              try simp only [Act.put, List.setIfInBounds_toArray, List.set_cons_zero, List.set_cons_succ]
              refine wpAnyIn_ready (rs := [2]) (by kernel_rfl) (by simp) ?_
              refine (AllReadyIn.cons rfl (fun K hK => ?_) AllReadyIn.nil)
              · go_simp
                refine hK _ _ ?_
                clear hK K
                try simp only [Act.put, List.setIfInBounds_toArray, List.set_cons_zero, List.set_cons_succ]
                refine wpAnyIn_ready (rs := [4]) (by kernel_rfl) (by simp) ?_
                refine (AllReadyIn.cons rfl (fun K hK => ?_) AllReadyIn.nil)
                · go_simp
                  refine hK _ _ ?_
                  clear hK K
                  try simp only [Act.put, List.setIfInBounds_toArray, List.set_cons_zero, List.set_cons_succ]
                  refine wpAnyIn_done (by kernel_rfl) ?_ _
                  gi_wp2
                  exact ⟨hEnd.out.1, rfl, hEnd.out.2⟩
        · go_simp
          refine hK _ _ ?_
          clear hK K
          try simp only [Act.put, List.setIfInBounds_toArray, List.set_cons_zero, List.set_cons_succ]
          refine wpAnyIn_ready (rs := [0, 3]) (by kernel_rfl) (by simp) ?_
          refine (AllReadyIn.cons rfl (fun K hK => ?_) (AllReadyIn.cons rfl (fun K hK => ?_) AllReadyIn.nil))
          · go_simp
            refine hK _ _ ?_
            clear hK K
            try simp only [Act.put, List.setIfInBounds_toArray, List.set_cons_zero, List.set_cons_succ]
            refine wpAnyIn_ready (rs := [2, 3]) (by kernel_rfl) (by simp) ?_
            refine (AllReadyIn.cons rfl (fun K hK => ?_) (AllReadyIn.cons rfl (fun K hK => ?_) AllReadyIn.nil))
            · go_simp
              refine hK _ _ ?_
              clear hK K
              try simp only [Act.put, List.setIfInBounds_toArray, List.set_cons_zero, List.set_cons_succ]
              refine wpAnyIn_ready (rs := [3]) (by kernel_rfl) (by simp) ?_
              refine (AllReadyIn.cons rfl (fun K hK => ?_) AllReadyIn.nil)
              · go_simp
                refine hK _ _ ?_
                clear hK K
                try simp only [Act.put, List.setIfInBounds_toArray, List.set_cons_zero, List.set_cons_succ]
                refine wpAnyIn_ready (rs := [4]) (by kernel_rfl) (by simp) ?_
                refine (AllReadyIn.cons rfl (fun K hK => ?_) AllReadyIn.nil)
                · go_simp
                  refine hK _ _ ?_
                  clear hK K
                  try simp only [Act.put, List.setIfInBounds_toArray, List.set_cons_zero, List.set_cons_succ]
                  refine wpAnyIn_done (by kernel_rfl) ?_ _
                  gi_wp2
                  exact ⟨hEnd.out.1, rfl, hEnd.out.2⟩
            · go_simp
              refine hK _ _ ?_
              clear hK K
              try simp only [Act.put, List.setIfInBounds_toArray, List.set_cons_zero, List.set_cons_succ]
              refine wpAnyIn_ready (rs := [2]) (by kernel_rfl) (by simp) ?_
              refine (AllReadyIn.cons rfl (fun K hK => ?_) AllReadyIn.nil)
              · go_simp
                refine hK _ _ ?_
                clear hK K
                try simp only [Act.put, List.setIfInBounds_toArray, List.set_cons_zero, List.set_cons_succ]
                refine wpAnyIn_ready (rs := [4]) (by kernel_rfl) (by simp) ?_
                refine (AllReadyIn.cons rfl (fun K hK => ?_) AllReadyIn.nil)
                · go_simp
                  refine hK _ _ ?_
                  clear hK K
                  try simp only [Act.put, List.setIfInBounds_toArray, List.set_cons_zero, List.set_cons_succ]
                  refine wpAnyIn_done (by kernel_rfl) ?_ _
                  gi_wp2
                  exact ⟨hEnd.out.1, rfl, hEnd.out.2⟩
          · go_simp
            refine hK _ _ ?_
            clear hK K
            try simp only [Act.put, List.setIfInBounds_toArray, List.set_cons_zero, List.set_cons_succ]
            refine wpAnyIn_ready (rs := [0]) (by kernel_rfl) (by simp) ?_
            refine (AllReadyIn.cons rfl (fun K hK => ?_) AllReadyIn.nil)
            · go_simp
              refine hK _ _ ?_
              clear hK K
              try simp only [Act.put, List.setIfInBounds_toArray, List.set_cons_zero, List.set_cons_succ]
              refine wpAnyIn_ready (rs := [2]) (by kernel_rfl) (by simp) ?_
              refine (AllReadyIn.cons rfl (fun K hK => ?_) AllReadyIn.nil)
              · go_simp
                refine hK _ _ ?_
                clear hK K
                try simp only [Act.put, List.setIfInBounds_toArray, List.set_cons_zero, List.set_cons_succ]
                refine wpAnyIn_ready (rs := [4]) (by kernel_rfl) (by simp) ?_
                refine (AllReadyIn.cons rfl (fun K hK => ?_) AllReadyIn.nil)
                · go_simp
                  refine hK _ _ ?_
                  clear hK K
                  try simp only [Act.put, List.setIfInBounds_toArray, List.set_cons_zero, List.set_cons_succ]
                  refine wpAnyIn_done (by kernel_rfl) ?_ _
                  gi_wp2
                  exact ⟨hEnd.out.1, rfl, hEnd.out.2⟩
        · go_simp
          refine hK _ _ ?_
          clear hK K
          try simp only [Act.put, List.setIfInBounds_toArray, List.set_cons_zero, List.set_cons_succ]
          refine wpAnyIn_ready (rs := [0, 1]) (by kernel_rfl) (by simp) ?_
          refine (AllReadyIn.cons rfl (fun K hK => ?_) (AllReadyIn.cons rfl (fun K hK => ?_) AllReadyIn.nil))
          · go_simp
            refine hK _ _ ?_
            clear hK K
            try simp only [Act.put, List.setIfInBounds_toArray, List.set_cons_zero, List.set_cons_succ]
            refine wpAnyIn_ready (rs := [1]) (by kernel_rfl) (by simp) ?_
            refine (AllReadyIn.cons rfl (fun K hK => ?_) AllReadyIn.nil)
            · go_simp
              refine hK _ _ ?_
              clear hK K
              try simp only [Act.put, List.setIfInBounds_toArray, List.set_cons_zero, List.set_cons_succ]
              refine wpAnyIn_ready (rs := [2]) (by kernel_rfl) (by simp) ?_
              refine (AllReadyIn.cons rfl (fun K hK => ?_) AllReadyIn.nil)
              · go_simp
                refine hK _ _ ?_
                clear hK K
                try simp only [Act.put, List.setIfInBounds_toArray, List.set_cons_zero, List.set_cons_succ]
                refine wpAnyIn_ready (rs := [4]) (by kernel_rfl) (by simp) ?_
                refine (AllReadyIn.cons rfl (fun K hK => ?_) AllReadyIn.nil)
                · go_simp
                  refine hK _ _ ?_
                  clear hK K
                  try simp only [Act.put, List.setIfInBounds_toArray, List.set_cons_zero, List.set_cons_succ]
                  refine wpAnyIn_done (by kernel_rfl) ?_ _
                  gi_wp2
                  exact ⟨hEnd.out.1, rfl, hEnd.out.2⟩
          · go_simp
            refine hK _ _ ?_
            clear hK K
            try simp only [Act.put, List.setIfInBounds_toArray, List.set_cons_zero, List.set_cons_succ]
            refine wpAnyIn_ready (rs := [0]) (by kernel_rfl) (by simp) ?_
            refine (AllReadyIn.cons rfl (fun K hK => ?_) AllReadyIn.nil)
            · go_simp
              refine hK _ _ ?_
              clear hK K
              try simp only [Act.put, List.setIfInBounds_toArray, List.set_cons_zero, List.set_cons_succ]
              refine wpAnyIn_ready (rs := [2]) (by kernel_rfl) (by simp) ?_
              refine (AllReadyIn.cons rfl (fun K hK => ?_) AllReadyIn.nil)
              · go_simp
                refine hK _ _ ?_
                clear hK K
                try simp only [Act.put, List.setIfInBounds_toArray, List.set_cons_zero, List.set_cons_succ]
                refine wpAnyIn_ready (rs := [4]) (by kernel_rfl) (by simp) ?_
                refine (AllReadyIn.cons rfl (fun K hK => ?_) AllReadyIn.nil)
                · go_simp
                  refine hK _ _ ?_
                  clear hK K
                  try simp only [Act.put, List.setIfInBounds_toArray, List.set_cons_zero, List.set_cons_succ]
                  refine wpAnyIn_done (by kernel_rfl) ?_ _
                  gi_wp2
                  exact ⟨hEnd.out.1, rfl, hEnd.out.2⟩

  case stop =>
    rintro D c hi pre Z hD hlo hpre ⟨rfl, hx⟩ hK
    have sx := HSX.out
    obtain ⟨r0, ⟨e, k, r1, hp, hk⟩, kz⟩ := hx
    gi_wp2
    refine bodyE_ret (by omega) rfl rfl hK r0 r1 ?_
    rw [hp]
    refine ⟨none, 0, [], ?_, rfl, ReadsL.nil _ _, kz.trans (below_put (by omega))⟩
    rw [show ((k.toNat : Nat) : Int) = k by omega]
    rfl
  case done =>
    rintro D hi Z hD h1 h2 ⟨⟨v, L, bl, ol, hInv, hL64⟩, r0, r1, nb, kz⟩ hK
    have sx := HSX.out
    have hDone := Lib.hid hInv.done
    have q0 := bl.cell
    have f0 := r0.frozen
    obtain ⟨A, c, rfl, -⟩ := ol.reads
    have q1 := r0.cell
    have q2 := (r1.other (c := w.heap.size) (by omega) (.slice A L.length c)).c0
    have f2 := fun o => (r1.other (c := w.heap.size) (by omega) (.slice A L.length c)).fr o
    have c3 := ((r1.other (c := w.heap.size) (by omega) (.slice A L.length c)).set0 0).c1
    have f3 := ((r1.other (c := w.heap.size) (by omega) (.slice A L.length c)).set0 0).fr 1
    gi_wp2
    have kf := ((KeepOn.set (S := fun b => b ≠ w.heap.size ∧ b ≠ w.heap.size + 1) Z ⟨w.heap.size, 0, none⟩ (.slice A L.length c) (by simp)).trans (KeepOn.set _ ⟨w.heap.size + 1, 0, none⟩ (.int .i64 0) (by simp))).trans (KeepOn.set _ ⟨w.heap.size + 1, 1, none⟩ (.int .i64 0) (by simp))
    have hK' := (kf.block D (Array.getElem?_eq_some_iff.1 hK).1 ⟨by omega, by omega⟩).trans hK
    have ol' := (ol.keep kf fun b hb => ⟨by omega, by omega⟩).keep (KeepOn.put (S := fun b => b ≠ D) _ D (.deferred none) (by simp)) fun b hb => by omega
    obtain ⟨A2, c2', e2, R2⟩ := ol'.reads
    cases e2
    refine bodyE_ret (by omega) rfl rfl hK' (boxed_keep1 ((r0.set _).other (by omega) _) (by omega)) (((r1.other (by omega) _).set0 _).set1 _) ?_
    rw [hDone.out]
    exact ⟨A, c, L, rfl, rfl, R2, (kz.trans (kf.below kz.size fun b hb => ⟨by omega, by omega⟩)).trans (below_put (by omega))⟩
theorem parse_any (s : Txt) (w : World) (hl : s.length ≤ 4611686018427387904) : Calls Tryd.prog 17 #[.string ⟨s.toArray⟩] w (PPost w.heap.size w (parseL s)) := by
  refine (callsIn_wide (n := 5)).1 ?_
  unfold parseL
  by_cases h2 : 65536 < s.length
  · rw [if_pos h2]
    have e3 : ((65536 : Int) < (s.length : Int)) = True := by simp; omega
    have b0 : Boxed (w.alloc (.cells #[.slice none 0 0] 22)) w.heap.size 22 (.slice none 0 0) := Boxed.new _ _ _
    have b1 := FBx.new (w.alloc (.cells #[.slice none 0 0] 22)) 2 0
    have kV : Below w.heap.size w ((w.alloc (.cells #[.slice none 0 0] 22)).alloc (.cells #[.int .i64 2, .int .i64 0] 27)) := ((Below.refl _ _).alloc (Nat.le_refl _) _).alloc (by simp) _
    have b0 := b0.alloc (.cells #[.int .i64 2, .int .i64 0] 27)
    rw [World.size_alloc] at b1
    refine callsIn_of_wp_marks Tryd.func17 rfl trivial ?_ rfl
    simp only [Tryd.ntmps17, List.size_toArray, List.length_cons, List.length_nil, Nat.reduceAdd, Nat.reduceSub, Array.replicate_succ, Array.replicate_zero, List.push_toArray, List.append_toArray, List.nil_append, List.cons_append]
    gi_wp2
    exact bodyE_ret0 rfl rfl b0 b1 ⟨none, 0, [], rfl, rfl, ReadsL.nil _ _, kV⟩
  · rw [if_neg h2]
    exact parse_in 5 (by decide) s h2 w
end Go.Proofs.YtgjgohnomophnaaDoor
