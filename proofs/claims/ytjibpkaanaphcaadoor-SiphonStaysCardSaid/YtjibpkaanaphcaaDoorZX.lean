/- Markings after a transition: copies, After of the reference. A transition fires: the program. Fire, by the program and by the reference. -/
import Derived.Test.YtjibpkaanaphcaaDoorZF
import Derived.Shelf.Slices.Clone
namespace Go.Proofs.YtjibpkaanaphcaaDoor
open Go.RowKit

def OwnPost (g : Nat) (w : World) (L : List Int) (e : Ending) (w' : World) : Prop := ∃ v, e = .returned v ∧ w'.ownsRow g 3 1 v L.length (L.map (Value.int .i64)) ∧ Below g w w'
theorem take_snoc (a : List Int) {k : Nat} (hk : k < a.length) : a.take (k + 1) = a.take k ++ [at0 a k] := by
  rw [List.take_succ_eq_append_getElem hk]
  simp [at0, hk]
def PairPost (g : Nat) (w : World) (L : List Int) (v : Value) (e : Ending) (w' : World) : Prop := ∃ A c, e = .returned (.tuple #[.slice A L.length c, v]) ∧ ReadsV w' A L ∧ Below g w w'
def overB (n : NetV) (m : List Int) (t : Nat) : Bool := anyB (fun p => decide (1048576 < aftV (tA n.ts t) m p)) n.ps.length
def aftL (n : NetV) (m : List Int) (t : Nat) : List Int := tab n.ps.length (fun p => aftV (tA n.ts t) m p)
def aftR (n : NetV) (m : List Int) (t : Nat) : List Int := if overB n m t = true then [] else aftL n m t
theorem PairPost.own {g : Nat} {w w' : World} {v u : Value} {zs : List Int} (h : OwnI w' g v zs) (hb : Below g w w') : PairPost g w zs u (.returned (.tuple #[v, u])) w' := by
  obtain ⟨A, c, e, hr⟩ := ReadsV.own h
  exact ⟨A, c, by rw [e], hr, hb⟩

set_option maxHeartbeats 8000000 in
set_option maxRecDepth 100000 in
theorem after_any (n : NetV) (A : Option Addr) (m : List Int) (c t : Nat) (w : World) (hr : NetR w n) (hm : ReadsV w A m) (hok : goodN n m = true) (ht : t < n.ts.length) :
    Calls Tryd.prog 32 #[.agg #[.string n.nm, .slice n.PA n.ps.length n.pc, .slice n.TA n.ts.length n.tc], .slice A m.length c, .int .i64 t] w (PairPost w.heap.size w (aftR n m t) (.bool (!(overB n m t)))) := by
  unfold goodN at hok
  rw [Bool.and_eq_true] at hok
  obtain ⟨hokn, hval⟩ := hok
  obtain ⟨hml, hnat⟩ := validL_parts hval
  have hx := okN_arcs hokn t ht
  have hp24 : n.ps.length ≤ 24 := (okN_parts hokn).2.2.1
  have hmn : m.length = n.ps.length := by omega
  have ht24 : n.ts.length ≤ 24 := (okN_parts hokn).2.2.2.1
  have hzl : (tA n.ts t).pre.l.length ≤ 1000 ∧ (tA n.ts t).post.l.length ≤ 1000 := ⟨(hr.okt.2 t).2.1, (hr.okt.2 t).2.2.1⟩
  have QN : Hid (∀ p, p < n.ps.length → 1048576 < aftV (tA n.ts t) m p → overB n m t = true) := fun p hp h => anyB_yes hp (by simpa using h)
  have QY : Hid ((∀ p, p < n.ps.length → aftV (tA n.ts t) m p ≤ 1048576) → overB n m t = false) := fun h => anyB_no fun p hp => by simpa using h p hp
  have QB : Hid (∀ k, 0 ≤ at0 m k ∧ at0 m k ≤ 1048576) := natL_at hnat
  have W1 : Hid (∀ p, 0 ≤ weightV (tA n.ts t).pre.l p ∧ weightV (tA n.ts t).pre.l p ≤ 99) := weightV_bd hx.pre
  have W2 : Hid (∀ p, 0 ≤ weightV (tA n.ts t).post.l p ∧ weightV (tA n.ts t).post.l p ≤ 99) := weightV_bd hx.post
  have AF : Hid (∀ p, aftV (tA n.ts t) m p = at0 m p - weightV (tA n.ts t).pre.l p + weightV (tA n.ts t).post.l p) := fun p => rfl
  have TS : Hid (∀ k, tab (k + 1) (fun p => aftV (tA n.ts t) m p) = tab k (fun p => aftV (tA n.ts t) m p) ++ [aftV (tA n.ts t) m k]) := fun k => tab_snoc k _
  have RT := Lib.hid hr.rt
  have HM := Lib.hid hm
  have RN : Hid (overB n m t = true → aftR n m t = []) := fun h => by unfold aftR; rw [if_pos h]
  have RY : Hid (overB n m t = false → aftR n m t = tab n.ps.length (fun p => aftV (tA n.ts t) m p)) := fun h => by unfold aftR; rw [if_neg (by rw [h]; simp)]; rfl
  clear hx hokn hval hnat hml hm hr
  generalize overB n m t = S at *
  generalize aftR n m t = R at *
  obtain ⟨nm, PA, ps, pc, TA, ts, tc⟩ := n
  dsimp only at *
  obtain ⟨bt, ot, eT, _⟩ := RT.out t ht
  subst eT
  obtain ⟨bt', ot', eT, hbt, d0, d1, d2, d3, d4, r1, r2, r3⟩ := RT.out t ht
  injection eT with eT
  injection eT with h1 h2
  subst h1 h2
  have TD : Hid (∀ W, Below w.heap.size w W → W.cell? ⟨bt, ot + t * 5 + 1, none⟩ = some (.slice (tA ts t).pre.A (tA ts t).pre.l.length (tA ts t).pre.c) ∧ W.cell? ⟨bt, ot + t * 5 + 2, none⟩ = some (.slice (tA ts t).post.A (tA ts t).post.l.length (tA ts t).post.c)) := fun W hW =>
    ⟨(hW.cell (World.block_lt_of_cell? w _ d1)).trans d1, (hW.cell (World.block_lt_of_cell? w _ d2)).trans d2⟩
  generalize aftV (tA ts t) m = af at *
  generalize tA ts t = x at *
  obtain ⟨xnm, ⟨a1, c1, l1⟩, ⟨a2, c2, l2⟩, ⟨a3, c3, l3⟩, prio⟩ := x
  dsimp only at *
  obtain ⟨hz1, hz2⟩ := hzl
  rw [hmn]
  generalize hpl : ps.length = pl at *
  generalize ts.length = tl at *
  have HPL := Lib.hid hpl
  have HML := Lib.hid hmn
  clear hpl hmn d0 d1 d2 d3 d4
  have C1 : Hid (∀ W (p : Nat), Below w.heap.size w W → Calls Tryd.prog 46 #[.slice a1 l1.length c1, .int .i64 p] W (VPost W.heap.size W (.int .i64 (weightV l1 p)))) := fun W p hW => weight11_any a1 l1 c1 p W (r1.below hW (Nat.le_refl _)) hz1
  have C2 : Hid (∀ W (p : Nat), Below w.heap.size w W → Calls Tryd.prog 46 #[.slice a2 l2.length c2, .int .i64 p] W (VPost W.heap.size W (.int .i64 (weightV l2 p)))) := fun W p hW => weight11_any a2 l2 c2 p W (r2.below hW (Nat.le_refl _)) hz2
  clear r1 r2 r3
  have B0 : Hid (Below w.heap.size w (w.alloc (.cells #[.string nm, .slice PA pl pc, .slice (some ⟨bt, ot, none⟩) tl tc] 29))) := (Below.refl _ _).alloc (Nat.le_refl _) _
  go_enter Tryd.func32, Tryd.ntmps32
  go_wp2_with fail
  go_loopw [8, 9] (fun p q wr => ∃ k : Nat, k ≤ pl ∧ q = .int .i64 k ∧ Hid (OwnI wr (w.heap.size + 1) p (tab k af)) ∧ Hid (Below (w.heap.size + 1) (w.alloc (.cells #[.string nm, .slice PA pl pc, .slice (some ⟨bt, ot, none⟩) tl tc] 29)) wr) ∧ Hid (∀ j, j < k → af j ≤ 1048576)) (fun _ q _ => pl - (intOf q).toNat)
  case atStart => exact ⟨0, by omega, rfl, OwnI.nil _ _, Below.refl _ _, fun j hj => absurd hj (by omega)⟩
  case round =>
    obtain ⟨k, hk, rfl, O, HB, HX⟩ := hrel
    have e1 : wr.cell? ⟨w.heap.size, 1, none⟩ = some (.slice PA pl pc) := by rw [HB.out.cell (by simp)]; simp
    have e2 : wr.cell? ⟨w.heap.size, 2, none⟩ = some (.slice (some ⟨bt, ot, none⟩) tl tc) := by rw [HB.out.cell (by simp)]; simp
    have BA : Hid (Below w.heap.size w wr) := B0.out.trans (HB.out.mono (by omega))
    have hsz : w.heap.size + 1 ≤ wr.heap.size := by have := HB.out.size; simp at this; omega
    by_cases hlt : k < pl
    · obtain ⟨bm, om, eM, f4⟩ := at_of_reads (HM.out.below BA.out (Nat.le_refl _)) k (by rw [HML.out]; exact hlt)
      subst eM
      obtain ⟨f1, f2⟩ := TD.out wr BA.out
      have QNk := Lib.hid (QN.out k hlt)
      have AFk := AF.out k
      have TSk := Lib.hid (TS.out k)
      have HF : Hid (af k ≤ 1048576 → ∀ j, j < k + 1 → af j ≤ 1048576) := fun h j hj => by
        by_cases e : j < k
        · exact HX.out j e
        · obtain rfl : j = k := by omega
          exact h
      have hb1 := W1.out k
      have hb2 := W2.out k
      have hbm := QB.out k
      have htab : (tab k af).length = k := tab_len k af
      have HTAB := Lib.hid htab
      have C1k : Hid (∀ W, Below w.heap.size w W → _) := fun W hW => C1.out W k hW
      have C2k : Hid (∀ W, Below w.heap.size w W → _) := fun W hW => C2.out W k hW
      clear HX htab
      generalize weightV l1 k = w1 at *
      generalize weightV l2 k = w2 at *
      generalize at0 m k = z at *
      generalize af k = ay at *
      have v1 : IntKind.i64.wrap (z - w1) = z - w1 := by rw [IntKind.wrap_i64]; omega
      have v2 : IntKind.i64.wrap (z - w1 + w2) = z - w1 + w2 := by rw [IntKind.wrap_i64]; omega
      have AF2 := Lib.hid AFk
      clear AFk
      go_upto_region 5 with fail
      refine wp_region_held_drew (S := fun w' => w'.cell? ⟨w.heap.size, 2, none⟩ = some (.slice (some ⟨bt, ot, none⟩) tl tc) ∧ w'.cell? ⟨bt, ot + t * 5 + 1, none⟩ = some (.slice a1 l1.length c1) ∧ w'.cell? ⟨bt, ot + t * 5 + 2, none⟩ = some (.slice a2 l2.length c2) ∧ w'.cell? ⟨bm, om + k, none⟩ = some (.int .i64 z) ∧ Hid (Below wr.heap.size wr w')) (by kernel_rfl) ?_ (fun hHeld => ?_)
      · exact ⟨e2, f1, f2, f4, (Below.refl _ _).drew⟩
      refine wpAnyH_take (oi := ⟨_, _, _, _, _, _⟩) (i := 0) (v := ?_) rfl (by kernel_rfl) (by kernel_rfl) (by kernel_rfl) (fun _ _ _ h => h) (Or.inl ⟨by rfl, ?ya0⟩) (by assumption) ?ra0
      case ya0 => (intro w hSw; (try dsimp only at hSw); go_simp; (try with_reducible rfl))
      try simp only [Act.put, List.setIfInBounds_toArray, List.set_cons_zero, List.set_cons_succ]
      refine wpAnyH_take (oi := ⟨_, _, _, _, _, _⟩) (i := 1) (v := ?_) rfl (by kernel_rfl) (by kernel_rfl) (by kernel_rfl) (fun _ _ _ h => h) (Or.inl ⟨by rfl, ?ya1⟩) (by assumption) ?ra1
      case ya1 => (intro w hSw; (try dsimp only at hSw); go_simp; (try with_reducible rfl))
      try simp only [Act.put, List.setIfInBounds_toArray, List.set_cons_zero, List.set_cons_succ]
      refine wpAnyH_take (oi := ⟨_, _, _, _, _, _⟩) (i := 2) (v := ?_) rfl (by kernel_rfl) (by kernel_rfl) (by kernel_rfl) (fun _ _ _ h => h) (Or.inl ⟨by rfl, ?ya2⟩) (by assumption) ?ra2
      case ya2 => (intro w hSw; (try dsimp only at hSw); go_simp; (try with_reducible rfl))
      try simp only [Act.put, List.setIfInBounds_toArray, List.set_cons_zero, List.set_cons_succ]
      refine wpAnyH_take (oi := ⟨_, _, _, _, _, _⟩) (i := 3) (v := ?_) rfl (by kernel_rfl) (by kernel_rfl) (by kernel_rfl) (fun _ _ _ h => h) (Or.inl ⟨by rfl, ?ya3⟩) (by assumption) ?ra3
      case ya3 => (intro w hSw; (try dsimp only at hSw); go_simp; (try with_reducible rfl))
      try simp only [Act.put, List.setIfInBounds_toArray, List.set_cons_zero, List.set_cons_succ]
      refine wpAnyH_take (oi := ⟨_, _, _, _, _, _⟩) (i := 4) (v := ?_) rfl (by kernel_rfl) (by kernel_rfl) (by kernel_rfl) (fun _ _ _ h => h) (Or.inl ⟨by rfl, ?ya4⟩) (by assumption) ?ra4
      case ya4 => (intro w hSw; (try dsimp only at hSw); go_simp; (try with_reducible rfl))
      try simp only [Act.put, List.setIfInBounds_toArray, List.set_cons_zero, List.set_cons_succ]
      refine wpAnyH_take (oi := ⟨_, _, _, _, _, _⟩) (i := 5) (v := ?_) rfl (by kernel_rfl) (by kernel_rfl) (by kernel_rfl) (fun _ _ _ h => h) (Or.inl ⟨by rfl, ?ya5⟩) (by assumption) ?ra5
      case ya5 => (intro w hSw; (try dsimp only at hSw); go_simp; (try with_reducible rfl))
      try simp only [Act.put, List.setIfInBounds_toArray, List.set_cons_zero, List.set_cons_succ]
      refine wpAnyH_take (oi := ⟨_, _, _, _, _, _⟩) (i := 6) (v := ?_) rfl (by kernel_rfl) (by kernel_rfl) (by kernel_rfl) (fun _ _ _ h => h) (Or.inl ⟨by rfl, ?ya6⟩) (by assumption) ?ra6
      case ya6 => (intro w hSw; (try dsimp only at hSw); go_simp; (try with_reducible rfl))
      try simp only [Act.put, List.setIfInBounds_toArray, List.set_cons_zero, List.set_cons_succ]
      refine wpAnyH_take (oi := ⟨_, _, _, _, _, _⟩) (i := 7) (v := ?_) rfl (by kernel_rfl) (by kernel_rfl) (by kernel_rfl) (fun _ _ _ h => h) (Or.inl ⟨by rfl, ?ya7⟩) (by assumption) ?ra7
      case ya7 => (intro w hSw; (try dsimp only at hSw); go_simp; (try with_reducible rfl))
      try simp only [Act.put, List.setIfInBounds_toArray, List.set_cons_zero, List.set_cons_succ]
      refine wpAnyH_take (oi := ⟨_, _, _, _, _, _⟩) (i := 8) (v := ?_) rfl (by kernel_rfl) (by kernel_rfl) (by kernel_rfl) (fun _ _ _ h => h) (Or.inl ⟨by rfl, ?ya8⟩) (by assumption) ?ra8
      case ya8 => (intro w hSw; (try dsimp only at hSw); go_simp; (try with_reducible rfl))
      try simp only [Act.put, List.setIfInBounds_toArray, List.set_cons_zero, List.set_cons_succ]
      refine wpAnyH_take (oi := ⟨_, _, _, _, _, _⟩) (i := 9) (v := ?_) rfl (by kernel_rfl) (by kernel_rfl) (by kernel_rfl) (fun _ _ _ h => h) (Or.inl ⟨by rfl, ?ya9⟩) (by assumption) ?ra9
      case ya9 => (intro w hSw; (try dsimp only at hSw); go_simp; (try with_reducible rfl))
      try simp only [Act.put, List.setIfInBounds_toArray, List.set_cons_zero, List.set_cons_succ]
      refine wpAnyH_take (oi := ⟨_, _, _, _, _, _⟩) (i := 10) (v := ?_) rfl (by kernel_rfl) (by kernel_rfl) (by kernel_rfl) (fun _ _ _ h => h) (Or.inl ⟨by rfl, ?ya10⟩) (by assumption) ?ra10
      case ya10 => (intro w hSw; (try dsimp only at hSw); go_simp; (try with_reducible rfl))
      try simp only [Act.put, List.setIfInBounds_toArray, List.set_cons_zero, List.set_cons_succ]
      refine wpAnyH_take (oi := ⟨_, _, _, _, _, _⟩) (i := 13) (v := ?_) rfl (by kernel_rfl) (by kernel_rfl) (by kernel_rfl) (fun _ _ _ h => h) (Or.inl ⟨by rfl, ?ya13⟩) (by assumption) ?ra13
      case ya13 => (intro w hSw; (try dsimp only at hSw); go_simp; (try with_reducible rfl))
      try simp only [Act.put, List.setIfInBounds_toArray, List.set_cons_zero, List.set_cons_succ]
      refine wpAnyH_take (oi := ⟨_, _, _, _, _, _⟩) (i := 14) (v := ?_) rfl (by kernel_rfl) (by kernel_rfl) (by kernel_rfl) (fun _ _ _ h => h) (Or.inl ⟨by rfl, ?ya14⟩) (by assumption) ?ra14
      case ya14 => (intro w hSw; (try dsimp only at hSw); go_simp; (try with_reducible rfl))
      try simp only [Act.put, List.setIfInBounds_toArray, List.set_cons_zero, List.set_cons_succ]
      refine wpAnyH_take (oi := ⟨_, _, _, _, _, _⟩) (i := 15) (v := ?_) rfl (by kernel_rfl) (by kernel_rfl) (by kernel_rfl) (fun _ _ _ h => h) (Or.inl ⟨by rfl, ?ya15⟩) (by assumption) ?ra15
      case ya15 => (intro w hSw; (try dsimp only at hSw); go_simp; (try with_reducible rfl))
      try simp only [Act.put, List.setIfInBounds_toArray, List.set_cons_zero, List.set_cons_succ]
      refine wpAnyH_take (oi := ⟨_, _, _, _, _, _⟩) (i := 16) (v := ?_) rfl (by kernel_rfl) (by kernel_rfl) (by kernel_rfl) (fun _ _ _ h => h) (Or.inl ⟨by rfl, ?ya16⟩) (by assumption) ?ra16
      case ya16 => (intro w hSw; (try dsimp only at hSw); go_simp; (try with_reducible rfl))
      try simp only [Act.put, List.setIfInBounds_toArray, List.set_cons_zero, List.set_cons_succ]
      refine wpAnyH_take (oi := ⟨_, _, _, _, _, _⟩) (i := 17) (v := ?_) rfl (by kernel_rfl) (by kernel_rfl) (by kernel_rfl) (fun _ _ _ h => h) (Or.inl ⟨by rfl, ?ya17⟩) (by assumption) ?ra17
      case ya17 => (intro w hSw; (try dsimp only at hSw); go_simp; (try with_reducible rfl))
      try simp only [Act.put, List.setIfInBounds_toArray, List.set_cons_zero, List.set_cons_succ]
      refine wpAnyH_take (oi := ⟨_, _, _, _, _, _⟩) (i := 18) (v := ?_) rfl (by kernel_rfl) (by kernel_rfl) (by kernel_rfl) (fun _ _ _ h => h) (Or.inl ⟨by rfl, ?ya18⟩) (by assumption) ?ra18
      case ya18 => (intro w hSw; (try dsimp only at hSw); go_simp; (try with_reducible rfl))
      try simp only [Act.put, List.setIfInBounds_toArray, List.set_cons_zero, List.set_cons_succ]
      refine wpAnyH_take (oi := ⟨_, _, _, _, _, _⟩) (i := 19) (v := ?_) rfl (by kernel_rfl) (by kernel_rfl) (by kernel_rfl) (fun _ _ _ h => h) (Or.inl ⟨by rfl, ?ya19⟩) (by assumption) ?ra19
      case ya19 => (intro w hSw; (try dsimp only at hSw); go_simp; (try with_reducible rfl))
      try simp only [Act.put, List.setIfInBounds_toArray, List.set_cons_zero, List.set_cons_succ]
      refine wpAnyH_ready (rs := [11]) (by kernel_rfl) (by simp) ?_
      refine AllReadyH.cons (o := ⟨_, _, _, _, _, _⟩) rfl (fun K hK => ?_) AllReadyH.nil
      go_simp
      go_at_call 46; refine (C1k.out _ (BA.out.trans (hHeld.2.2.2.2.out.mono BA.out.size))).mono ?_; rintro e w4 ⟨rfl, K⟩; (try go_wp2_with fail)
      refine hK.out _ _ ?_ (fun hHeld2 => ?_)
      · exact ⟨keepc hHeld.1 K, keepc hHeld.2.1 K, keepc hHeld.2.2.1 K, keepc hHeld.2.2.2.1 K, hHeld.2.2.2.2.out.trans (K.mono hHeld.2.2.2.2.out.size)⟩
      clear hK K hHeld
      have hHeld := hHeld2
      clear hHeld2
      try simp only [Act.put, List.setIfInBounds_toArray, List.set_cons_zero, List.set_cons_succ]
      refine wpAnyH_take (oi := ⟨_, _, _, _, _, _⟩) (i := 12) (v := ?_) rfl (by kernel_rfl) (by kernel_rfl) (by kernel_rfl) (fun _ _ _ h => h) (Or.inl ⟨by rfl, ?ya12⟩) (by assumption) ?ra12
      case ya12 => (intro w hSw; (try dsimp only at hSw); go_simp; (try with_reducible rfl))
      try simp only [Act.put, List.setIfInBounds_toArray, List.set_cons_zero, List.set_cons_succ]
      refine wpAnyH_ready (rs := [20]) (by kernel_rfl) (by simp) ?_
      refine AllReadyH.cons (o := ⟨_, _, _, _, _, _⟩) rfl (fun K hK => ?_) AllReadyH.nil
      go_simp
      go_at_call 46; refine (C2k.out _ (BA.out.trans (hHeld.2.2.2.2.out.mono BA.out.size))).mono ?_; rintro e w4 ⟨rfl, K⟩; (try go_wp2_with fail)
      refine hK.out _ _ ?_ (fun hHeld2 => ?_)
      · exact ⟨keepc hHeld.1 K, keepc hHeld.2.1 K, keepc hHeld.2.2.1 K, keepc hHeld.2.2.2.1 K, hHeld.2.2.2.2.out.trans (K.mono hHeld.2.2.2.2.out.size)⟩
      clear hK K hHeld
      have hHeld := hHeld2
      clear hHeld2
      try simp only [Act.put, List.setIfInBounds_toArray, List.set_cons_zero, List.set_cons_succ]
      refine wpAnyH_take (oi := ⟨_, _, _, _, _, _⟩) (i := 21) (v := ?_) rfl (by kernel_rfl) (by kernel_rfl) (by kernel_rfl) (fun _ _ _ h => h) (Or.inl ⟨by rfl, ?ya21⟩) (by assumption) ?ra21
      case ya21 => (intro w hSw; (try dsimp only at hSw); go_simp; (try with_reducible rfl))
      try simp only [Act.put, List.setIfInBounds_toArray, List.set_cons_zero, List.set_cons_succ]
      refine wpAnyH_take (oi := ⟨_, _, _, _, _, _⟩) (i := 22) (v := ?_) rfl (by kernel_rfl) (by kernel_rfl) (by kernel_rfl) (fun _ _ _ h => h) (Or.inl ⟨by rfl, ?ya22⟩) (by assumption) ?ra22
      case ya22 => (intro w hSw; (try dsimp only at hSw); go_simp; (try with_reducible rfl))
      try simp only [Act.put, List.setIfInBounds_toArray, List.set_cons_zero, List.set_cons_succ]
      refine wpAnyH_done (by kernel_rfl) ?_ _
      have K9 := Lib.hid hHeld.2.2.2.2.out
      have O3 := Lib.hid (O.out.below K9.out (Nat.le_refl _))
      have B9 := Lib.hid (BA.out.trans (K9.out.mono BA.out.size))
      have H9 := Lib.hid (HB.out.trans (K9.out.mono hsz))
      have hs9 := Nat.le_trans hsz K9.out.size
      clear hHeld C1k C2k v1 v2 O K9
      have haft : -99 ≤ z - w1 + w2 ∧ z - w1 + w2 ≤ 1048675 := by omega
      rw [← AF2.out] at haft ⊢
      have HZ := Lib.hid (show ay = ay from rfl)
      by_cases hov : 1048576 < ay
      · have z1 : decide (1048576 < ay) = true := by simpa using hov
        have E := Lib.hid (QNk.out hov)
        clear QNk HF
        go_wp2
        go_ret2
        have ER := RN.out E.out
        rw [E.out, ER]
        exact ⟨none, 0, rfl, ReadsV.nil _ _, B9.out⟩
      · have z1 : decide (1048576 < ay) = false := by simpa using hov
        have GG := Lib.hid (HF.out (by omega))
        clear QNk HF
        go_wp2_with (at_builtin; refine wpList_int rfl (.tmp 42) (.tmp 44) rfl (w.heap.size + 1) _ (tab k af) ay rfl (O3.out.alloc _) _ rfl (cell_new1 _ _ _) (by rw [HTAB.out]; omega) (size_le_alloc hs9 _) ?_; intro v' w5 hown' hb')
        have O5 : Hid (OwnI w5 (w.heap.size + 1) v' (tab (k + 1) af)) := by
          show OwnI _ _ _ _
          rw [TSk.out]
          exact hown'
        have B5 := Lib.hid ((H9.out.alloc hs9 _).trans hb')
        clear hown' hb'
        go_wp2
        go_roundw
        case rel => exact ⟨k + 1, by omega, by go_num, O5, B5, GG⟩
        case measure => simp [intOf]; omega
    · obtain rfl : k = pl := by omega
      have E := Lib.hid (QY.out HX.out)
      go_wp2
      go_ret2
      have ER := RY.out E.out
      rw [E.out, ER]
      exact PairPost.own (OwnI.mono O.out (by omega)) BA.out
end Go.Proofs.YtjibpkaanaphcaaDoor

namespace Go.Proofs.YtjibpkaanaphcaaDoor
open Go.RowKit Go.Shelf

attribute [local go_sem] Oper.semAt_some

def errF (n : NetV) (m : List Int) (t : Int) : Int := if inT n t = false then 1 else if mayB n m t.toNat = false then 13 else if overB n m t.toNat = true then 3 else 0
def listF (n : NetV) (m : List Int) (t : Int) : List Int := if errF n m t = 0 then aftL n m t.toNat else []
theorem errF_in {n : NetV} {m : List Int} {t : Int} (h : inT n t = false) : errF n m t = 1 ∧ listF n m t = [] := by
  have : errF n m t = 1 := by unfold errF; rw [if_pos h]
  exact ⟨this, by unfold listF; rw [this]; rfl⟩
theorem errF_may {n : NetV} {m : List Int} {t : Int} (h : inT n t = true) (h2 : mayB n m t.toNat = false) : errF n m t = 13 ∧ listF n m t = [] := by
  have : errF n m t = 13 := by unfold errF; rw [if_neg (by rw [h]; simp), if_pos h2]
  exact ⟨this, by unfold listF; rw [this]; rfl⟩
theorem errF_over {n : NetV} {m : List Int} {t : Int} (h : inT n t = true) (h2 : mayB n m t.toNat = true) (h3 : overB n m t.toNat = true) : errF n m t = 3 ∧ listF n m t = [] := by
  have : errF n m t = 3 := by unfold errF; rw [if_neg (by rw [h]; simp), if_neg (by rw [h2]; simp), if_pos h3]
  exact ⟨this, by unfold listF; rw [this]; rfl⟩
theorem errF_ok {n : NetV} {m : List Int} {t : Int} (h : inT n t = true) (h2 : mayB n m t.toNat = true) (h3 : overB n m t.toNat = false) : errF n m t = 0 ∧ listF n m t = aftL n m t.toNat := by
  have : errF n m t = 0 := by unfold errF; rw [if_neg (by rw [h]; simp), if_neg (by rw [h2]; simp), if_neg (by rw [h3]; simp)]
  exact ⟨this, by unfold listF; rw [this, if_pos rfl]⟩
theorem may_ready {n : NetV} {m : List Int} {t : Nat} (h : mayB n m t = true) : readyB n m t = true := by
  unfold mayB at h
  rw [Bool.and_eq_true] at h
  exact h.1
theorem aft_nat {n : NetV} {m : List Int} {t p : Nat} (hx : ArcsOk n (tA n.ts t)) (h : readyB n m t = true) (hp : p < n.ps.length) : 0 ≤ aftV (tA n.ts t) m p := by
  unfold readyB at h
  have h1 := anyB_false.1 (by simpa using h) p hp
  unfold badP at h1
  rw [Bool.or_eq_false_iff] at h1
  have h2 := of_decide_eq_false h1.1
  have h3 := weightV_bd hx.post (p : Int)
  unfold aftV
  omega
theorem aft_valid {n : NetV} {m : List Int} {t : Nat} (hx : ArcsOk n (tA n.ts t)) (h : readyB n m t = true) : natL (aftL n m t) = !(overB n m t) := by
  have hl : (aftL n m t).length = n.ps.length := tab_len _ _
  cases e : overB n m t
  · refine allB_yes fun k hk => decide_eq_true ?_
    rw [hl] at hk
    have h1 := anyB_false.1 e k hk
    have h2 := of_decide_eq_false h1
    have h3 := aft_nat hx h hk
    unfold aftL
    rw [tab_at _ _ _ hk]
    exact ⟨h3, by omega⟩
  · obtain ⟨k, hk, h1⟩ := anyB_iff.1 e
    have h2 := of_decide_eq_true h1
    refine allB_no k (by rw [hl]; exact hk) (decide_eq_false ?_)
    unfold aftL
    rw [tab_at _ _ _ hk]
    rintro ⟨_, h4⟩
    omega
end Go.Proofs.YtjibpkaanaphcaaDoor

namespace Go.Proofs.YtjibpkaanaphcaaDoor
open Go.RowKit

def fireE (n : NetV) (m : List Int) (t : Int) : Int := if errN n m = 0 then errF n m t else errN n m
def fireL (n : NetV) (m : List Int) (t : Int) : List Int := if errN n m = 0 then listF n m t else []
theorem fire_err {n : NetV} {m : List Int} {t : Int} (h : errN n m ≠ 0) : fireE n m t = errN n m ∧ fireL n m t = [] := by
  unfold fireE fireL
  rw [if_neg h, if_neg h]
  exact ⟨rfl, rfl⟩
theorem fire_good {n : NetV} {m : List Int} {t : Int} (h : errN n m = 0) : fireE n m t = errF n m t ∧ fireL n m t = listF n m t := by
  unfold fireE fireL
  rw [if_pos h, if_pos h]
  exact ⟨rfl, rfl⟩
theorem errN_chk {n : NetV} {m : List Int} (h : (chkV n).1 ≠ 0) : errN n m = (chkV n).1 := by unfold errN; rw [if_pos h]
theorem errN_size {n : NetV} {m : List Int} (h : (chkV n).1 = 0) (h2 : validL m n.ps.length = false) : errN n m = 2 := by unfold errN; rw [if_neg (by simpa using h), if_neg (by rw [h2]; simp)]
theorem errN_ok {n : NetV} {m : List Int} (h : (chkV n).1 = 0) (h2 : validL m n.ps.length = true) : errN n m = 0 := by unfold errN; rw [if_neg (by simpa using h), if_pos h2]

set_option maxHeartbeats 8000000 in
set_option maxRecDepth 100000 in
theorem rFire_any (n : NetV) (A : Option Addr) (m : List Int) (c : Nat) (t : Int) (w : World) (hr : NetR w n) (hm : ReadsV w A m) (hl : m.length ≤ 9223372036854775807) :
    Calls Tryd.prog 15 #[.agg #[.string n.nm, .slice n.PA n.ps.length n.pc, .slice n.TA n.ts.length n.tc], .slice A m.length c, .int .i64 t] w (PairPost w.heap.size w (fireL n m t) (.int .i64 (fireE n m t))) := by
  have CK : Hid (∀ W, Below w.heap.size w W → Calls Tryd.prog 28 #[.agg #[.string n.nm, .slice n.PA n.ps.length n.pc, .slice n.TA n.ts.length n.tc]] W (FPost W.heap.size W (chkV n))) := fun W hW => rcheck_any n W (hr.below hW (Nat.le_refl _))
  have CV : Hid (∀ W, Below w.heap.size w W → Calls Tryd.prog 29 #[.slice A m.length c, .int .i64 n.ps.length] W (fun e w' => e = .returned (.bool (validL m n.ps.length)) ∧ Below W.heap.size W w')) := fun W hW => (rvalidn_law A m n.ps.length c W (hm.below hW (Nat.le_refl _)) hl).mono fun e w' h => ⟨h.1, by rw [← h.2]; exact Below.refl _ _⟩
  have B0 : Hid (Below w.heap.size w (w.alloc (.cells #[.string n.nm, .slice n.PA n.ps.length n.pc, .slice n.TA n.ts.length n.tc] 29))) := ((Below.refl _ _).alloc (Nat.le_refl _) _)
  by_cases h0 : (chkV n).1 = 0
  rotate_left
  · have E := errN_chk (m := m) h0
    have E2 := fire_err (n := n) (m := m) (t := t) (by rw [E]; exact h0)
    rw [E2.1, E2.2, E]
    clear hr hm CV E E2
    generalize chkV n = cv at *
    obtain ⟨e0, e1⟩ := cv
    dsimp only at *
    have z0 : (e0 != 0) = true := by simpa using h0
    clear h0
    go_enter Tryd.func15, Tryd.ntmps15
    go_wp2_with fail
    refine (CK.out _ B0.out).mono ?_
    rintro e w1 ⟨rfl, K⟩
    have b0_0 : w1.cell? ⟨w.heap.size, 0, none⟩ = some (.string n.nm) := by rw [K.cell (by simp [go_sem] <;> omega)]; simp [go_sem]
    have b0_1 : w1.cell? ⟨w.heap.size, 1, none⟩ = some (.slice n.PA n.ps.length n.pc) := by rw [K.cell (by simp [go_sem] <;> omega)]; simp [go_sem]
    have b0_2 : w1.cell? ⟨w.heap.size, 2, none⟩ = some (.slice n.TA n.ts.length n.tc) := by rw [K.cell (by simp [go_sem] <;> omega)]; simp [go_sem]
    have Bw1 := Lib.hid (B0.out.trans (K.mono (by simp [go_sem] <;> omega)))
    have hs1 : w.heap.size + 1 ≤ w1.heap.size := by have := K.size; (try simp [go_sem] at this); omega
    clear K
    have Bw1a := Lib.hid (Bw1.out.alloc Bw1.out.size (.cells #[.int .i64 e0, .int .i64 e1] 54))
    have lz1 : w.heap.size < w1.heap.size := by omega
    go_wp2_with fail
    (try go_quiet (fail))
    go_wp2
    go_ret2
    exact ⟨none, 0, rfl, ReadsV.nil _ _, by first | exact Bw1a.out | exact below_drewN Bw1a.out _⟩
  cases hv : validL m n.ps.length
  · have E := errN_size h0 hv
    have E2 := fire_err (n := n) (m := m) (t := t) (by rw [E]; decide)
    rw [E2.1, E2.2, E]
    rw [hv] at CV
    clear hr hm E E2 hv
    generalize chkV n = cv at *
    obtain ⟨e0, e1⟩ := cv
    dsimp only at *
    subst h0
    go_enter Tryd.func15, Tryd.ntmps15
    go_wp2_with fail
    refine (CK.out _ B0.out).mono ?_
    rintro e w1 ⟨rfl, K⟩
    have b0_0 : w1.cell? ⟨w.heap.size, 0, none⟩ = some (.string n.nm) := by rw [K.cell (by simp [go_sem] <;> omega)]; simp [go_sem]
    have b0_1 : w1.cell? ⟨w.heap.size, 1, none⟩ = some (.slice n.PA n.ps.length n.pc) := by rw [K.cell (by simp [go_sem] <;> omega)]; simp [go_sem]
    have b0_2 : w1.cell? ⟨w.heap.size, 2, none⟩ = some (.slice n.TA n.ts.length n.tc) := by rw [K.cell (by simp [go_sem] <;> omega)]; simp [go_sem]
    have Bw1 := Lib.hid (B0.out.trans (K.mono (by simp [go_sem] <;> omega)))
    have hs1 : w.heap.size + 1 ≤ w1.heap.size := by have := K.size; (try simp [go_sem] at this); omega
    clear K
    have Bw1a := Lib.hid (Bw1.out.alloc Bw1.out.size (.cells #[.int .i64 0, .int .i64 e1] 54))
    have lz1 : w.heap.size < w1.heap.size := by omega
    go_wp2_with fail
    refine (CV.out _ Bw1a.out).mono ?_
    rintro e w2 ⟨rfl, K⟩
    have b0_0 : w2.cell? ⟨w.heap.size, 0, none⟩ = some (.string n.nm) := by rw [K.cell (by first | (show w.heap.size < _; omega) | (simp; omega))]; first | exact b0_0 | exact cellA b0_0 _
    have b0_1 : w2.cell? ⟨w.heap.size, 1, none⟩ = some (.slice n.PA n.ps.length n.pc) := by rw [K.cell (by first | (show w.heap.size < _; omega) | (simp; omega))]; first | exact b0_1 | exact cellA b0_1 _
    have b0_2 : w2.cell? ⟨w.heap.size, 2, none⟩ = some (.slice n.TA n.ts.length n.tc) := by rw [K.cell (by first | (show w.heap.size < _; omega) | (simp; omega))]; first | exact b0_2 | exact cellA b0_2 _
    have Bw2 := Lib.hid (Bw1a.out.trans (K.mono Bw1a.out.size))
    have hs2 : w.heap.size + 1 ≤ w2.heap.size := by have := K.size; (try simp [go_sem] at this); omega
    clear K
    go_wp2
    go_ret2
    exact ⟨none, 0, rfl, ReadsV.nil _ _, Bw2.out⟩
  have E := errN_ok h0 hv
  have hg := errN_zero.1 E
  rw [(fire_good (t := t) E).1, (fire_good (t := t) E).2]
  rw [hv] at CV
  clear E hv
  by_cases h1 : 0 ≤ t
  rotate_left
  · have ht : inT n t = false := by unfold inT; rw [decide_eq_false h1]; rfl
    have z1 : decide (t < 0) = true := by simp; omega
    rw [(errF_in (m := m) ht).1, (errF_in (m := m) ht).2]
    clear hr hm hg
    generalize chkV n = cv at *
    obtain ⟨e0, e1⟩ := cv
    dsimp only at *
    subst h0
    go_enter Tryd.func15, Tryd.ntmps15
    go_wp2_with fail
    refine (CK.out _ B0.out).mono ?_
    rintro e w1 ⟨rfl, K⟩
    have b0_0 : w1.cell? ⟨w.heap.size, 0, none⟩ = some (.string n.nm) := by rw [K.cell (by simp [go_sem] <;> omega)]; simp [go_sem]
    have b0_1 : w1.cell? ⟨w.heap.size, 1, none⟩ = some (.slice n.PA n.ps.length n.pc) := by rw [K.cell (by simp [go_sem] <;> omega)]; simp [go_sem]
    have b0_2 : w1.cell? ⟨w.heap.size, 2, none⟩ = some (.slice n.TA n.ts.length n.tc) := by rw [K.cell (by simp [go_sem] <;> omega)]; simp [go_sem]
    have Bw1 := Lib.hid (B0.out.trans (K.mono (by simp [go_sem] <;> omega)))
    have hs1 : w.heap.size + 1 ≤ w1.heap.size := by have := K.size; (try simp [go_sem] at this); omega
    clear K
    have Bw1a := Lib.hid (Bw1.out.alloc Bw1.out.size (.cells #[.int .i64 0, .int .i64 e1] 54))
    have lz1 : w.heap.size < w1.heap.size := by omega
    go_wp2_with fail
    refine (CV.out _ Bw1a.out).mono ?_
    rintro e w2 ⟨rfl, K⟩
    have b0_0 : w2.cell? ⟨w.heap.size, 0, none⟩ = some (.string n.nm) := by rw [K.cell (by first | (show w.heap.size < _; omega) | (simp; omega))]; first | exact b0_0 | exact cellA b0_0 _
    have b0_1 : w2.cell? ⟨w.heap.size, 1, none⟩ = some (.slice n.PA n.ps.length n.pc) := by rw [K.cell (by first | (show w.heap.size < _; omega) | (simp; omega))]; first | exact b0_1 | exact cellA b0_1 _
    have b0_2 : w2.cell? ⟨w.heap.size, 2, none⟩ = some (.slice n.TA n.ts.length n.tc) := by rw [K.cell (by first | (show w.heap.size < _; omega) | (simp; omega))]; first | exact b0_2 | exact cellA b0_2 _
    have Bw2 := Lib.hid (Bw1a.out.trans (K.mono Bw1a.out.size))
    have hs2 : w.heap.size + 1 ≤ w2.heap.size := by have := K.size; (try simp [go_sem] at this); omega
    clear K
    go_wp2
    go_ret2
    exact ⟨none, 0, rfl, ReadsV.nil _ _, Bw2.out⟩
  by_cases h2 : t < (n.ts.length : Int)
  rotate_left
  · have ht : inT n t = false := by unfold inT; rw [decide_eq_false h2]; simp
    have z1 : decide (t < 0) = false := by simp; omega
    rw [(errF_in (m := m) ht).1, (errF_in (m := m) ht).2]
    clear hr hm hg
    generalize chkV n = cv at *
    obtain ⟨e0, e1⟩ := cv
    dsimp only at *
    subst h0
    go_enter Tryd.func15, Tryd.ntmps15
    go_wp2_with fail
    refine (CK.out _ B0.out).mono ?_
    rintro e w1 ⟨rfl, K⟩
    have b0_0 : w1.cell? ⟨w.heap.size, 0, none⟩ = some (.string n.nm) := by rw [K.cell (by simp [go_sem] <;> omega)]; simp [go_sem]
    have b0_1 : w1.cell? ⟨w.heap.size, 1, none⟩ = some (.slice n.PA n.ps.length n.pc) := by rw [K.cell (by simp [go_sem] <;> omega)]; simp [go_sem]
    have b0_2 : w1.cell? ⟨w.heap.size, 2, none⟩ = some (.slice n.TA n.ts.length n.tc) := by rw [K.cell (by simp [go_sem] <;> omega)]; simp [go_sem]
    have Bw1 := Lib.hid (B0.out.trans (K.mono (by simp [go_sem] <;> omega)))
    have hs1 : w.heap.size + 1 ≤ w1.heap.size := by have := K.size; (try simp [go_sem] at this); omega
    clear K
    have Bw1a := Lib.hid (Bw1.out.alloc Bw1.out.size (.cells #[.int .i64 0, .int .i64 e1] 54))
    have lz1 : w.heap.size < w1.heap.size := by omega
    go_wp2_with fail
    refine (CV.out _ Bw1a.out).mono ?_
    rintro e w2 ⟨rfl, K⟩
    have b0_0 : w2.cell? ⟨w.heap.size, 0, none⟩ = some (.string n.nm) := by rw [K.cell (by first | (show w.heap.size < _; omega) | (simp; omega))]; first | exact b0_0 | exact cellA b0_0 _
    have b0_1 : w2.cell? ⟨w.heap.size, 1, none⟩ = some (.slice n.PA n.ps.length n.pc) := by rw [K.cell (by first | (show w.heap.size < _; omega) | (simp; omega))]; first | exact b0_1 | exact cellA b0_1 _
    have b0_2 : w2.cell? ⟨w.heap.size, 2, none⟩ = some (.slice n.TA n.ts.length n.tc) := by rw [K.cell (by first | (show w.heap.size < _; omega) | (simp; omega))]; first | exact b0_2 | exact cellA b0_2 _
    have Bw2 := Lib.hid (Bw1a.out.trans (K.mono Bw1a.out.size))
    have hs2 : w.heap.size + 1 ≤ w2.heap.size := by have := K.size; (try simp [go_sem] at this); omega
    clear K
    go_wp2
    go_ret2
    exact ⟨none, 0, rfl, ReadsV.nil _ _, Bw2.out⟩
  have ht : inT n t = true := inT_iff.2 ⟨h1, h2⟩
  obtain ⟨k, rfl⟩ : ∃ k : Nat, t = k := ⟨t.toNat, by omega⟩
  have hk : k < n.ts.length := by omega
  have htl : n.ts.length ≤ 1000 := hr.okt.1
  have CF : Hid (∀ W, Below w.heap.size w W → Calls Tryd.prog 31 #[.agg #[.string n.nm, .slice n.PA n.ps.length n.pc, .slice n.TA n.ts.length n.tc], .slice A m.length c] W (IsPost W.heap.size W (firesV n m))) := fun W hW => fires_any n A m c W (hr.below hW (Nat.le_refl _)) (hm.below hW (Nat.le_refl _)) hg
  have FL := Lib.hid (fires_len (n := n) (m := m))
  have HH : Hid (∀ A2 c2 W, ReadsV W A2 (firesV n m) → Calls Tryd.prog 30 #[.slice A2 (firesV n m).length c2, .int .i64 (k : Nat)] W (VPost W.heap.size W (.bool (decide ((k : Int) ∈ firesV n m))))) := fun A2 c2 W h => has_any A2 (firesV n m) c2 k W h (Nat.le_trans FL.out htl)
  have CA : Hid (∀ W, Below w.heap.size w W → Calls Tryd.prog 32 #[.agg #[.string n.nm, .slice n.PA n.ps.length n.pc, .slice n.TA n.ts.length n.tc], .slice A m.length c, .int .i64 k] W (PairPost W.heap.size W (aftR n m k) (.bool (!(overB n m k))))) := fun W hW => after_any n A m c k W (hr.below hW (Nat.le_refl _)) (hm.below hW (Nat.le_refl _)) hg hk
  have EM : decide ((k : Int) ∈ firesV n m) = mayB n m k := by
    rw [Bool.eq_iff_iff, decide_eq_true_eq, mem_fires, Int.toNat_natCast]
    exact ⟨fun h => h.2.2, fun h => ⟨by omega, by omega, h⟩⟩
  rw [EM] at HH
  have z1 : decide ((k : Int) < 0) = false := decide_eq_false (by omega)
  have hk1 : (k : Int) < (n.ts.length : Int) := by omega
  clear h1 h2 EM hr hm hg
  cases hmy : mayB n m k
  · have E := errF_may (m := m) ht (by rw [Int.toNat_natCast]; exact hmy)
    rw [E.1, E.2]
    rw [hmy] at HH
    clear E hmy ht CA
    generalize firesV n m = L at *
    generalize chkV n = cv at *
    obtain ⟨e0, e1⟩ := cv
    dsimp only at *
    subst h0
    go_enter Tryd.func15, Tryd.ntmps15
    go_wp2_with fail
    refine (CK.out _ B0.out).mono ?_
    rintro e w1 ⟨rfl, K⟩
    have b0_0 : w1.cell? ⟨w.heap.size, 0, none⟩ = some (.string n.nm) := by rw [K.cell (by simp [go_sem] <;> omega)]; simp [go_sem]
    have b0_1 : w1.cell? ⟨w.heap.size, 1, none⟩ = some (.slice n.PA n.ps.length n.pc) := by rw [K.cell (by simp [go_sem] <;> omega)]; simp [go_sem]
    have b0_2 : w1.cell? ⟨w.heap.size, 2, none⟩ = some (.slice n.TA n.ts.length n.tc) := by rw [K.cell (by simp [go_sem] <;> omega)]; simp [go_sem]
    have Bw1 := Lib.hid (B0.out.trans (K.mono (by simp [go_sem] <;> omega)))
    have hs1 : w.heap.size + 1 ≤ w1.heap.size := by have := K.size; (try simp [go_sem] at this); omega
    clear K
    have Bw1a := Lib.hid (Bw1.out.alloc Bw1.out.size (.cells #[.int .i64 0, .int .i64 e1] 54))
    have lz1 : w.heap.size < w1.heap.size := by omega
    go_wp2_with fail
    refine (CV.out _ Bw1a.out).mono ?_
    rintro e w2 ⟨rfl, K⟩
    have b0_0 : w2.cell? ⟨w.heap.size, 0, none⟩ = some (.string n.nm) := by rw [K.cell (by first | (show w.heap.size < _; omega) | (simp; omega))]; first | exact b0_0 | exact cellA b0_0 _
    have b0_1 : w2.cell? ⟨w.heap.size, 1, none⟩ = some (.slice n.PA n.ps.length n.pc) := by rw [K.cell (by first | (show w.heap.size < _; omega) | (simp; omega))]; first | exact b0_1 | exact cellA b0_1 _
    have b0_2 : w2.cell? ⟨w.heap.size, 2, none⟩ = some (.slice n.TA n.ts.length n.tc) := by rw [K.cell (by first | (show w.heap.size < _; omega) | (simp; omega))]; first | exact b0_2 | exact cellA b0_2 _
    have Bw2 := Lib.hid (Bw1a.out.trans (K.mono Bw1a.out.size))
    have hs2 : w.heap.size + 1 ≤ w2.heap.size := by have := K.size; (try simp [go_sem] at this); omega
    clear K
    go_wp2_with fail
    refine (CF.out _ Bw2.out).mono ?_
    rintro e w3 ⟨A2, c2, rfl, R2, K⟩
    have R2 := Lib.hid R2
    have b0_0 : w3.cell? ⟨w.heap.size, 0, none⟩ = some (.string n.nm) := by rw [K.cell (by first | (show w.heap.size < _; omega) | (simp; omega))]; first | exact b0_0 | exact cellA b0_0 _
    have b0_1 : w3.cell? ⟨w.heap.size, 1, none⟩ = some (.slice n.PA n.ps.length n.pc) := by rw [K.cell (by first | (show w.heap.size < _; omega) | (simp; omega))]; first | exact b0_1 | exact cellA b0_1 _
    have b0_2 : w3.cell? ⟨w.heap.size, 2, none⟩ = some (.slice n.TA n.ts.length n.tc) := by rw [K.cell (by first | (show w.heap.size < _; omega) | (simp; omega))]; first | exact b0_2 | exact cellA b0_2 _
    have Bw3 := Lib.hid (Bw2.out.trans (K.mono Bw2.out.size))
    have hs3 : w.heap.size + 1 ≤ w3.heap.size := by have := K.size; (try simp [go_sem] at this); omega
    clear K
    go_wp2_with fail
    refine (HH.out A2 c2 _ R2.out).mono ?_
    rintro e w4 ⟨rfl, K⟩
    have b0_0 : w4.cell? ⟨w.heap.size, 0, none⟩ = some (.string n.nm) := by rw [K.cell (by first | (show w.heap.size < _; omega) | (simp; omega))]; first | exact b0_0 | exact cellA b0_0 _
    have b0_1 : w4.cell? ⟨w.heap.size, 1, none⟩ = some (.slice n.PA n.ps.length n.pc) := by rw [K.cell (by first | (show w.heap.size < _; omega) | (simp; omega))]; first | exact b0_1 | exact cellA b0_1 _
    have b0_2 : w4.cell? ⟨w.heap.size, 2, none⟩ = some (.slice n.TA n.ts.length n.tc) := by rw [K.cell (by first | (show w.heap.size < _; omega) | (simp; omega))]; first | exact b0_2 | exact cellA b0_2 _
    have Bw4 := Lib.hid (Bw3.out.trans (K.mono Bw3.out.size))
    have hs4 : w.heap.size + 1 ≤ w4.heap.size := by have := K.size; (try simp [go_sem] at this); omega
    clear K
    go_wp2
    go_ret2
    exact ⟨none, 0, rfl, ReadsV.nil _ _, Bw4.out⟩
  rw [hmy] at HH
  cases hov : overB n m k
  · have E := errF_ok (m := m) ht (by rw [Int.toNat_natCast]; exact hmy) (by rw [Int.toNat_natCast]; exact hov)
    rw [E.1, E.2]
    have EA : aftR n m k = aftL n m k := by unfold aftR; rw [hov]; rfl
    rw [EA, hov] at CA
    rw [Int.toNat_natCast]
    clear E hmy ht hov EA
    generalize firesV n m = L at *
    generalize aftL n m k = AL at *
    generalize chkV n = cv at *
    obtain ⟨e0, e1⟩ := cv
    dsimp only at *
    subst h0
    go_enter Tryd.func15, Tryd.ntmps15
    go_wp2_with fail
    refine (CK.out _ B0.out).mono ?_
    rintro e w1 ⟨rfl, K⟩
    have b0_0 : w1.cell? ⟨w.heap.size, 0, none⟩ = some (.string n.nm) := by rw [K.cell (by simp [go_sem] <;> omega)]; simp [go_sem]
    have b0_1 : w1.cell? ⟨w.heap.size, 1, none⟩ = some (.slice n.PA n.ps.length n.pc) := by rw [K.cell (by simp [go_sem] <;> omega)]; simp [go_sem]
    have b0_2 : w1.cell? ⟨w.heap.size, 2, none⟩ = some (.slice n.TA n.ts.length n.tc) := by rw [K.cell (by simp [go_sem] <;> omega)]; simp [go_sem]
    have Bw1 := Lib.hid (B0.out.trans (K.mono (by simp [go_sem] <;> omega)))
    have hs1 : w.heap.size + 1 ≤ w1.heap.size := by have := K.size; (try simp [go_sem] at this); omega
    clear K
    have Bw1a := Lib.hid (Bw1.out.alloc Bw1.out.size (.cells #[.int .i64 0, .int .i64 e1] 54))
    have lz1 : w.heap.size < w1.heap.size := by omega
    go_wp2_with fail
    refine (CV.out _ Bw1a.out).mono ?_
    rintro e w2 ⟨rfl, K⟩
    have b0_0 : w2.cell? ⟨w.heap.size, 0, none⟩ = some (.string n.nm) := by rw [K.cell (by first | (show w.heap.size < _; omega) | (simp; omega))]; first | exact b0_0 | exact cellA b0_0 _
    have b0_1 : w2.cell? ⟨w.heap.size, 1, none⟩ = some (.slice n.PA n.ps.length n.pc) := by rw [K.cell (by first | (show w.heap.size < _; omega) | (simp; omega))]; first | exact b0_1 | exact cellA b0_1 _
    have b0_2 : w2.cell? ⟨w.heap.size, 2, none⟩ = some (.slice n.TA n.ts.length n.tc) := by rw [K.cell (by first | (show w.heap.size < _; omega) | (simp; omega))]; first | exact b0_2 | exact cellA b0_2 _
    have Bw2 := Lib.hid (Bw1a.out.trans (K.mono Bw1a.out.size))
    have hs2 : w.heap.size + 1 ≤ w2.heap.size := by have := K.size; (try simp [go_sem] at this); omega
    clear K
    go_wp2_with fail
    refine (CF.out _ Bw2.out).mono ?_
    rintro e w3 ⟨A2, c2, rfl, R2, K⟩
    have R2 := Lib.hid R2
    have b0_0 : w3.cell? ⟨w.heap.size, 0, none⟩ = some (.string n.nm) := by rw [K.cell (by first | (show w.heap.size < _; omega) | (simp; omega))]; first | exact b0_0 | exact cellA b0_0 _
    have b0_1 : w3.cell? ⟨w.heap.size, 1, none⟩ = some (.slice n.PA n.ps.length n.pc) := by rw [K.cell (by first | (show w.heap.size < _; omega) | (simp; omega))]; first | exact b0_1 | exact cellA b0_1 _
    have b0_2 : w3.cell? ⟨w.heap.size, 2, none⟩ = some (.slice n.TA n.ts.length n.tc) := by rw [K.cell (by first | (show w.heap.size < _; omega) | (simp; omega))]; first | exact b0_2 | exact cellA b0_2 _
    have Bw3 := Lib.hid (Bw2.out.trans (K.mono Bw2.out.size))
    have hs3 : w.heap.size + 1 ≤ w3.heap.size := by have := K.size; (try simp [go_sem] at this); omega
    clear K
    go_wp2_with fail
    refine (HH.out A2 c2 _ R2.out).mono ?_
    rintro e w4 ⟨rfl, K⟩
    have b0_0 : w4.cell? ⟨w.heap.size, 0, none⟩ = some (.string n.nm) := by rw [K.cell (by first | (show w.heap.size < _; omega) | (simp; omega))]; first | exact b0_0 | exact cellA b0_0 _
    have b0_1 : w4.cell? ⟨w.heap.size, 1, none⟩ = some (.slice n.PA n.ps.length n.pc) := by rw [K.cell (by first | (show w.heap.size < _; omega) | (simp; omega))]; first | exact b0_1 | exact cellA b0_1 _
    have b0_2 : w4.cell? ⟨w.heap.size, 2, none⟩ = some (.slice n.TA n.ts.length n.tc) := by rw [K.cell (by first | (show w.heap.size < _; omega) | (simp; omega))]; first | exact b0_2 | exact cellA b0_2 _
    have Bw4 := Lib.hid (Bw3.out.trans (K.mono Bw3.out.size))
    have hs4 : w.heap.size + 1 ≤ w4.heap.size := by have := K.size; (try simp [go_sem] at this); omega
    clear K
    go_wp2_with fail
    refine (CA.out _ Bw4.out).mono ?_
    rintro e w5 ⟨A3, c3, rfl, R3, K⟩
    have R3 := Lib.hid R3
    have b0_0 : w5.cell? ⟨w.heap.size, 0, none⟩ = some (.string n.nm) := by rw [K.cell (by first | (show w.heap.size < _; omega) | (simp; omega))]; first | exact b0_0 | exact cellA b0_0 _
    have b0_1 : w5.cell? ⟨w.heap.size, 1, none⟩ = some (.slice n.PA n.ps.length n.pc) := by rw [K.cell (by first | (show w.heap.size < _; omega) | (simp; omega))]; first | exact b0_1 | exact cellA b0_1 _
    have b0_2 : w5.cell? ⟨w.heap.size, 2, none⟩ = some (.slice n.TA n.ts.length n.tc) := by rw [K.cell (by first | (show w.heap.size < _; omega) | (simp; omega))]; first | exact b0_2 | exact cellA b0_2 _
    have Bw5 := Lib.hid (Bw4.out.trans (K.mono Bw4.out.size))
    have hs5 : w.heap.size + 1 ≤ w5.heap.size := by have := K.size; (try simp [go_sem] at this); omega
    clear K
    go_wp2
    go_ret2
    exact ⟨A3, c3, rfl, R3.out, Bw5.out⟩
  · have E := errF_over (m := m) ht (by rw [Int.toNat_natCast]; exact hmy) (by rw [Int.toNat_natCast]; exact hov)
    rw [E.1, E.2]
    have EA : aftR n m k = [] := by unfold aftR; rw [hov]; rfl
    rw [EA, hov] at CA
    clear E hmy ht hov EA
    generalize firesV n m = L at *
    generalize chkV n = cv at *
    obtain ⟨e0, e1⟩ := cv
    dsimp only at *
    subst h0
    go_enter Tryd.func15, Tryd.ntmps15
    go_wp2_with fail
    refine (CK.out _ B0.out).mono ?_
    rintro e w1 ⟨rfl, K⟩
    have b0_0 : w1.cell? ⟨w.heap.size, 0, none⟩ = some (.string n.nm) := by rw [K.cell (by simp [go_sem] <;> omega)]; simp [go_sem]
    have b0_1 : w1.cell? ⟨w.heap.size, 1, none⟩ = some (.slice n.PA n.ps.length n.pc) := by rw [K.cell (by simp [go_sem] <;> omega)]; simp [go_sem]
    have b0_2 : w1.cell? ⟨w.heap.size, 2, none⟩ = some (.slice n.TA n.ts.length n.tc) := by rw [K.cell (by simp [go_sem] <;> omega)]; simp [go_sem]
    have Bw1 := Lib.hid (B0.out.trans (K.mono (by simp [go_sem] <;> omega)))
    have hs1 : w.heap.size + 1 ≤ w1.heap.size := by have := K.size; (try simp [go_sem] at this); omega
    clear K
    have Bw1a := Lib.hid (Bw1.out.alloc Bw1.out.size (.cells #[.int .i64 0, .int .i64 e1] 54))
    have lz1 : w.heap.size < w1.heap.size := by omega
    go_wp2_with fail
    refine (CV.out _ Bw1a.out).mono ?_
    rintro e w2 ⟨rfl, K⟩
    have b0_0 : w2.cell? ⟨w.heap.size, 0, none⟩ = some (.string n.nm) := by rw [K.cell (by first | (show w.heap.size < _; omega) | (simp; omega))]; first | exact b0_0 | exact cellA b0_0 _
    have b0_1 : w2.cell? ⟨w.heap.size, 1, none⟩ = some (.slice n.PA n.ps.length n.pc) := by rw [K.cell (by first | (show w.heap.size < _; omega) | (simp; omega))]; first | exact b0_1 | exact cellA b0_1 _
    have b0_2 : w2.cell? ⟨w.heap.size, 2, none⟩ = some (.slice n.TA n.ts.length n.tc) := by rw [K.cell (by first | (show w.heap.size < _; omega) | (simp; omega))]; first | exact b0_2 | exact cellA b0_2 _
    have Bw2 := Lib.hid (Bw1a.out.trans (K.mono Bw1a.out.size))
    have hs2 : w.heap.size + 1 ≤ w2.heap.size := by have := K.size; (try simp [go_sem] at this); omega
    clear K
    go_wp2_with fail
    refine (CF.out _ Bw2.out).mono ?_
    rintro e w3 ⟨A2, c2, rfl, R2, K⟩
    have R2 := Lib.hid R2
    have b0_0 : w3.cell? ⟨w.heap.size, 0, none⟩ = some (.string n.nm) := by rw [K.cell (by first | (show w.heap.size < _; omega) | (simp; omega))]; first | exact b0_0 | exact cellA b0_0 _
    have b0_1 : w3.cell? ⟨w.heap.size, 1, none⟩ = some (.slice n.PA n.ps.length n.pc) := by rw [K.cell (by first | (show w.heap.size < _; omega) | (simp; omega))]; first | exact b0_1 | exact cellA b0_1 _
    have b0_2 : w3.cell? ⟨w.heap.size, 2, none⟩ = some (.slice n.TA n.ts.length n.tc) := by rw [K.cell (by first | (show w.heap.size < _; omega) | (simp; omega))]; first | exact b0_2 | exact cellA b0_2 _
    have Bw3 := Lib.hid (Bw2.out.trans (K.mono Bw2.out.size))
    have hs3 : w.heap.size + 1 ≤ w3.heap.size := by have := K.size; (try simp [go_sem] at this); omega
    clear K
    go_wp2_with fail
    refine (HH.out A2 c2 _ R2.out).mono ?_
    rintro e w4 ⟨rfl, K⟩
    have b0_0 : w4.cell? ⟨w.heap.size, 0, none⟩ = some (.string n.nm) := by rw [K.cell (by first | (show w.heap.size < _; omega) | (simp; omega))]; first | exact b0_0 | exact cellA b0_0 _
    have b0_1 : w4.cell? ⟨w.heap.size, 1, none⟩ = some (.slice n.PA n.ps.length n.pc) := by rw [K.cell (by first | (show w.heap.size < _; omega) | (simp; omega))]; first | exact b0_1 | exact cellA b0_1 _
    have b0_2 : w4.cell? ⟨w.heap.size, 2, none⟩ = some (.slice n.TA n.ts.length n.tc) := by rw [K.cell (by first | (show w.heap.size < _; omega) | (simp; omega))]; first | exact b0_2 | exact cellA b0_2 _
    have Bw4 := Lib.hid (Bw3.out.trans (K.mono Bw3.out.size))
    have hs4 : w.heap.size + 1 ≤ w4.heap.size := by have := K.size; (try simp [go_sem] at this); omega
    clear K
    go_wp2_with fail
    refine (CA.out _ Bw4.out).mono ?_
    rintro e w5 ⟨A3, c3, rfl, R3, K⟩
    have R3 := Lib.hid R3
    have b0_0 : w5.cell? ⟨w.heap.size, 0, none⟩ = some (.string n.nm) := by rw [K.cell (by first | (show w.heap.size < _; omega) | (simp; omega))]; first | exact b0_0 | exact cellA b0_0 _
    have b0_1 : w5.cell? ⟨w.heap.size, 1, none⟩ = some (.slice n.PA n.ps.length n.pc) := by rw [K.cell (by first | (show w.heap.size < _; omega) | (simp; omega))]; first | exact b0_1 | exact cellA b0_1 _
    have b0_2 : w5.cell? ⟨w.heap.size, 2, none⟩ = some (.slice n.TA n.ts.length n.tc) := by rw [K.cell (by first | (show w.heap.size < _; omega) | (simp; omega))]; first | exact b0_2 | exact cellA b0_2 _
    have Bw5 := Lib.hid (Bw4.out.trans (K.mono Bw4.out.size))
    have hs5 : w.heap.size + 1 ≤ w5.heap.size := by have := K.size; (try simp [go_sem] at this); omega
    clear K
    go_wp2
    go_ret2
    exact ⟨none, 0, rfl, ReadsV.nil _ _, Bw5.out⟩
end Go.Proofs.YtjibpkaanaphcaaDoor
