/- Event logs: the reference's Variants, and its Same on numbers. -/
import Derived.Test.YtgjgohnomophnaaDoorVB
namespace Go.Proofs.YtgjgohnomophnaaDoor
open Go.RowKit Go.Maps Go.WideMaps

set_option maxHeartbeats 1000000 in
theorem rsame_ints (A B : Option Addr) (a : List Int) (ca cb : Nat) (w : World) (ra : ReadsI w A a) (rb : ReadsI w B a) (hl : a.length ≤ 100000) :
    Calls Tryd.prog 22 #[.slice A a.length ca, .slice B a.length cb] w (BPost w.heap.size w true) := by
  have RA := Lib.hid ra
  have RB := Lib.hid rb
  clear ra rb
  generalize hg : w.heap.size = g at *
  have HG := Lib.hid hg
  clear hg
  generalize hn : a.length = n at *
  have HN := Lib.hid hn
  clear hn
  go_enter Tryd.func22, Tryd.ntmps22
  go_wp2_with fail
  go_loopw [5] (fun q wr => ∃ k : Nat, k ≤ n ∧ q = .int .i64 k ∧ Hid (Below g w wr)) (fun q _ => n - (intOf q).toNat)
  case atStart => exact ⟨0, by omega, rfl, Below.refl _ _⟩
  case round =>
    obtain ⟨k, hk, rfl, B1⟩ := hrel
    by_cases hlt : k < n
    · obtain ⟨ba, oa, e1, hx⟩ := atI_of_reads (RA.out.below B1.out (by rw [HG.out]; exact Nat.le_refl _)) k (by rw [HN.out]; exact hlt)
      subst e1
      obtain ⟨bb, ob, e2, hy⟩ := atI_of_reads (RB.out.below B1.out (by rw [HG.out]; exact Nat.le_refl _)) k (by rw [HN.out]; exact hlt)
      subst e2
      generalize at0 a k = x at *
      go_wp2_with fail
      go_quiet (fail)
      go_wp2
      go_roundw
      case rel => exact ⟨k + 1, by omega, by go_num, below_drewN B1.out _⟩
      case measure => simp [intOf]; omega
    · go_wp2
      go_ret
      exact ⟨rfl, B1.out⟩
theorem tim_mem {V : List (List Txt)} {x : List Txt} : timV V x = 0 ↔ x ∉ V := by
  constructor
  · intro h hm
    obtain ⟨i, hi, e⟩ := List.getElem_of_mem hm
    have key : ∀ k, i < k → timK V x k ≠ 0 := by
      intro k
      induction k with
      | zero => intro h; omega
      | succ k ih =>
        intro h2
        rw [tim_step]
        by_cases e2 : i = k
        · subst e2
          rw [List.getElem?_eq_getElem hi, if_pos (by simpa using e)]
          omega
        · have := ih (by omega)
          omega
    exact key _ hi h
  · intro h
    refine tim_zero V x _ fun j hj e => h ?_
    rw [List.getElem?_eq_getElem hj] at e
    rw [← e]
    exact List.getElem_mem hj
/-- how often each trace comes in all -/
def cnF (R V : List (List Txt)) : List Int := V.map fun t => ((timV R t : Nat) : Int)
theorem cnF_eq (R V : List (List Txt)) : cnF R V = cnI R V R.length := by
  unfold cnF cnI cnK timV
  rw [List.map_map]
  rfl
def VrfS (R : List (List Txt)) (g : Nat) (v u : Value) (k : Nat) (w : World) : Prop :=
  ∃ (L : List Row), OwnL w g v L ∧ rowsL L = vsK R k ∧ w.ownsRow g 3 1 u (vsK R k).length ((cnF R (vsK R k)).map iv)
theorem VrfS.new {R : List (List Txt)} {g : Nat} {v u : Value} {k : Nat} {w : World} {L : List Row} {r : Row} (ol : OwnL w g v (L ++ [r])) (hr : rowsL L = vsK R k) (hrz : r.zs = R[k]?.getD [])
    (ou : w.ownsRow g 3 1 u ((vsK R k).length + 1) ((cnF R (vsK R k) ++ [((timV R r.zs : Nat) : Int)]).map iv)) (hx : R[k]?.getD [] ∉ vsK R k) : VrfS R g v u (k + 1) w := by
  have e : vsK R (k + 1) = vsK R k ++ [R[k]?.getD []] := by rw [vsK, if_neg hx]
  refine ⟨L ++ [r], ol, by rw [e, rowsL_snoc, hr, hrz], ?_⟩
  rw [e, List.length_append, List.length_singleton]
  unfold cnF at ou ⊢
  rw [List.map_append, List.map_singleton, ← hrz]
  exact ou
theorem after_row2 {w w' : World} {g n : Nat} {v u : Value} {L : List Row} {xs : List Value} {ob : Obj} (o : OwnL w g v L) (h : w.ownsRow g 3 1 u n xs) (hg : (w.alloc ob).grownBy w' v.ownBlock) : w'.ownsRow g 3 1 u n xs :=
  (h.alloc ob).kept hg (row_ne (h.alloc ob) (o.alloc ob).1 (by decide))
theorem after_cnt2 {w w' : World} {g n : Nat} {v u : Value} {L : List Row} {xs : List Value} {ob : Obj} (o : OwnL w g v L) (h : w.ownsRow g 3 1 u n xs) (hg : (w.alloc ob).grownBy w' u.ownBlock) : OwnL w' g v L :=
  (o.alloc ob).kept hg (Oth.ints (h.alloc ob))
set_option maxHeartbeats 4000000 in
set_option maxRecDepth 100000 in
theorem rvariants_any (A : Option Addr) (L : List Row) (c : Nat) (w : World) (hr : ReadsL w A L) (hf : FewP L) :
    Calls Tryd.prog 21 #[.slice A L.length c] w (VarPost w.heap.size w (rowsL L)) := by
  have RA := Lib.hid hr
  have hl := hf.1
  have HR : Hid (∀ j, (rowsL L)[j]?.getD [] = (rA L j).zs) := fun j => rows_at L j
  have HN : Hid ((rowsL L).length = L.length) := rowsL_len L
  obtain ⟨R, hR⟩ : ∃ R, R = rowsL L := ⟨_, rfl⟩
  have HT : Hid (∀ W B t cb, ReadsL W A L → ReadsS W B t → Calls Tryd.prog 47 #[.slice A L.length c, .slice B t.length cb] W fun e w' => e = .returned (.int .i64 (timV R t : Nat)) ∧ Below W.heap.size W w') := fun W B t cb h1 h2 => by
    rw [hR]; exact rtimes_any A L c B t cb W h1 (by omega) h2
  rw [← hR] at HR HN ⊢
  clear hR
  have HVL : Hid (∀ k, (vsK R k).length ≤ k) := vs_len R
  have HTL : Hid (∀ t, timV R t ≤ R.length) := fun t => timK_le R t _
  obtain ⟨g, hg⟩ : ∃ g, g = w.heap.size := ⟨_, rfl⟩
  have HG := Lib.hid hg
  have B0 : Hid (Below g w w) := Below.refl _ _
  have V0 : Hid (VrfS R g (.slice none 0 0) (.slice none 0 0) 0 w) := ⟨[], OwnL.nil _ _, rfl, World.ownsRow_nil _ _ _ _⟩
  have HRES : Hid (∀ v u W, VrfS R g v u R.length W → Below g w W → VarPost g w R (.returned (.tuple #[v, u])) W) := fun v u W ⟨L', h1, h2, h3⟩ hb => ⟨v, u, L', rfl, h1, h2, by rw [← cnF_eq]; exact h3, hb⟩
  rw [← hg]
  generalize VarPost g w R = Q at *
  clear hg hr hf
  go_enter Tryd.func21, Tryd.ntmps21
  go_wp2
  go_loopg [4, 5, 6] L.length (fun gg v u q wr => ∃ k : Nat, gg = L.length - k ∧ k ≤ L.length ∧ q = .int .i64 k ∧ Hid (VrfS R g v u k wr) ∧ Hid (Below g w wr))
  case atStart => exact ⟨0, rfl, Nat.zero_le _, rfl, V0.out, B0.out⟩
  case round =>
    obtain ⟨k, hgg, hk, rfl, VS, BW⟩ := hrel
    have gs : g ≤ wr.heap.size := le_of_hid HG BW.out.size
    by_cases hlt : k < L.length
    · have HRW : Hid (∀ W, Below g w W → ReadsL W A L) := fun W hW => RA.out.below hW (by rw [HG.out]; exact Nat.le_refl _)
      have HC : Hid (∀ W, Below g w W → ∃ b off, A = some ⟨b, off, none⟩ ∧ W.cell? ⟨b, off + k, none⟩ = some (.slice (rA L k).A (rA L k).zs.length (rA L k).cap)) := fun W hW => (HRW.out W hW).1.at k hlt
      have RX : Hid (∀ W, Below g w W → ReadsS W (rA L k).A (rA L k).zs) := fun W hW => ((HRW.out W hW).2 _ (rA_mem hlt)).1
      have FX : Hid (∀ W, Below g w W → FarR W g (rA L k)) := fun W hW => FarR.old (RA.out.2 _ (rA_mem hlt)) hW (by rw [HG.out]; exact Nat.le_refl _) (by rw [HG.out]; exact Nat.le_refl _)
      have hRk := HR.out k
      generalize rA L k = r at *
      obtain ⟨xA, xs, xc⟩ := r
      dsimp only at *
      obtain ⟨L1, o1, e1, u1⟩ := VS.out
      have hL1 : L1.length = (vsK R k).length := by rw [← e1, rowsL_len]
      have hVk := HVL.out k
      obtain ⟨vA, vc, rfl, RV⟩ := o1.reads
      have CT := Lib.hid (rtimes_any vA L1 vc xA xs xc wr RV (by omega) (RX.out wr BW.out))
      have htm := tim_mem (V := vsK R k) (x := xs)
      rw [e1] at CT
      by_cases hm : xs ∈ vsK R k
      · have hm' : R[k]?.getD [] ∈ vsK R k := by rw [hRk]; exact hm
        have hne : timV (vsK R k) xs ≠ 0 := fun h => (htm.1 h) hm
        have ez : (((timV (vsK R k) xs : Nat) : Int) == 0) = false := by simpa using hne
        have e : vsK R (k + 1) = vsK R k := by rw [vsK, if_pos hm']
        have HS : Hid (∀ W, Below wr.heap.size wr W → VrfS R g (.slice vA L1.length vc) u5 (k + 1) W) := fun W hW => ⟨L1, o1.below hW (Nat.le_refl _), by rw [e]; exact e1, by rw [e]; exact own_below u1 hW (Nat.le_refl _)⟩
        obtain ⟨bo, oo, rfl, hx1⟩ := HC.out wr BW.out
        clear hm hm' htm hne e o1 e1 u1 VS hRk hL1 RV HC
        generalize timV (vsK R k) xs = tx at *
        generalize vsK R k = V at *
        go_wp2_with fail
        refine CT.out.mono ?_
        rintro e w2 ⟨rfl, K2⟩
        have B2 : Hid (Below g w w2) := BW.out.trans (K2.mono gs)
        have S2 := Lib.hid (HS.out w2 K2)
        clear K2
        go_wp2
        go_roundg (L.length - (k + 1))
        case rel => exact ⟨k + 1, rfl, by omega, by go_num, S2.out, B2.out⟩
        case measure => omega
      · have hm' : R[k]?.getD [] ∉ vsK R k := by rw [hRk]; exact hm
        have hne : timV (vsK R k) xs = 0 := htm.2 hm
        rw [hne] at CT
        have HS : Hid (∀ (v2 u2 : Value) (W : World), OwnL W g v2 (L1 ++ [⟨xA, xs, xc⟩]) → W.ownsRow g 3 1 u2 ((vsK R k).length + 1) ((cnF R (vsK R k) ++ [((timV R xs : Nat) : Int)]).map iv) → VrfS R g v2 u2 (k + 1) W) := fun v2 u2 W h1 h2 =>
          VrfS.new h1 e1 hRk.symm h2 hm'
        have CX := Lib.hid (fun W (h : Below g w W) => HT.out W xA xs xc (HRW.out W h) (RX.out W h))
        have hT := HTL.out xs
        have hL1b : L1.length ≤ 80 := by omega
        obtain ⟨bo, oo, rfl, hx1⟩ := HC.out wr BW.out
        have HC2 : Hid (∀ W, Below g w W → W.cell? ⟨bo, oo + k, none⟩ = some (.slice xA xs.length xc)) := fun W hW => by
          obtain ⟨b', o', e', h'⟩ := HC.out W hW
          injection e' with e'
          injection e' with e1 e2
          rw [e1, e2]; exact h'
        have o1' := Lib.hid o1
        have u1' := Lib.hid u1
        clear hm hm' htm hne e1 VS hRk hL1 RV HC o1 u1 HR HVL HTL HT
        generalize timV R xs = tx at *
        generalize cnF R (vsK R k) = cs at *
        generalize (vsK R k).length = n at *
        go_wp2_with fail
        refine CT.out.mono ?_
        rintro e w2 ⟨rfl, K2⟩
        have B2 : Hid (Below g w w2) := BW.out.trans (K2.mono gs)
        have o2 := Lib.hid (o1'.out.below K2 (Nat.le_refl _))
        have u2 := Lib.hid (own_below u1'.out K2 (Nat.le_refl _))
        have s2 : g ≤ w2.heap.size := le_of_hid HG B2.out.size
        have hx2 := HC2.out w2 B2.out
        have f2 := Lib.hid (FX.out w2 B2.out)
        clear K2 o1' u1' hx1
        go_wp2_with (at_builtin; go_loud (refine wpList_row2 rfl (.tmp 20) (.tmp 25) rfl g _ L1 ⟨xA, xs, xc⟩ rfl (o2.out.alloc _) w2.heap.size rfl (cell_new1 _ _ _) (f2.out.alloc _) (by omega) (by rw [World.size_alloc]; omega) ?_); intro v5 w5 o5 g5 K5; have B5 := Lib.hid ((B2.out.alloc s2 _).trans K5); have u5' := Lib.hid (after_row2 o2.out u2.out g5); have s5 := le_of_hid HG B5.out.size; have hx5 := HC2.out w5 B5.out; have o5' := Lib.hid o5; have CX5 := Lib.hid (CX.out w5 B5.out); clear g5 K5 o5)
        refine CX5.out.mono ?_
        rintro e w6 ⟨rfl, K6⟩
        have B6 : Hid (Below g w w6) := B5.out.trans (K6.mono s5)
        have o6 := Lib.hid (o5'.out.below K6 (Nat.le_refl _))
        have u6 := Lib.hid (own_below u5'.out K6 (Nat.le_refl _))
        have s6 : g ≤ w6.heap.size := le_of_hid HG B6.out.size
        clear K6 CX5 o5' u5'
        go_wp2_with (at_builtin; go_loud (refine wpList_cnt rfl (.tmp 27) (.tmp 34) rfl g _ cs (tx : Nat) rfl _ (u6.out.alloc _) w6.heap.size rfl (cell_new1 _ _ _) (by omega) (by rw [World.size_alloc]; omega) ?_); intro u7 w7 o7 g7 K7; have B7 := Lib.hid ((B6.out.alloc s6 _).trans K7); have v7 := Lib.hid (after_cnt2 o6.out u6.out g7); have S7 := Lib.hid (HS.out _ u7 w7 v7.out o7); clear g7 K7)
        go_roundg (L.length - (k + 1))
        case rel => exact ⟨k + 1, rfl, by omega, by go_num, S7.out, B7.out⟩
        case measure => omega
    · obtain rfl : k = L.length := by omega
      have HF := Lib.hid (HRES.out _ _ _ (by rw [HN.out]; exact VS.out) BW.out)
      go_wp2
      exact HF.out
end Go.Proofs.YtgjgohnomophnaaDoor
