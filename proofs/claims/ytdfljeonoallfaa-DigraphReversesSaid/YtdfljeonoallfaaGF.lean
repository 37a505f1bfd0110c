/- Graphs: the search that finds the order of leaving: its memory, and its closure. -/
import Derived.Test.YtdfljeonoallfaaGV
import Derived.Test.YtdfljeonoallfaaGC
namespace Go.Proofs.Ytdfljeonoallfaa
open Go.RowKit Go.Deep

def zN (l : List Nat) : List Int := l.map fun (x : Nat) => (x : Int)
theorem zN_len (l : List Nat) : (zN l).length = l.length := by simp [zN]
theorem zN_snoc (l : List Nat) (v : Nat) : zN (l ++ [v]) = zN l ++ [(v : Int)] := by simp [zN]
theorem zN_at {l : List Nat} {i : Nat} (h : i < l.length) : at0 (zN l) i = (l[i] : Int) := by
  unfold at0 zN
  rw [List.getElem?_map, List.getElem?_eq_getElem h]
  rfl
structure EnvF (w : World) (n : Nat) (p o : List Nat) (nx : Nat → Nat) (sn : Nat → Bool) (ov : Value) (W : World) : Prop where
  pb : ∃ pv, W.rowIs w.heap.size 27 1 (fun _ => pv) ∧ W.ownsRow (w.heap.size + 4) 3 1 pv (zN p).length (vI (zN p)) ∧ (pv.ownBlock = none ∨ pv.ownBlock ≠ ov.ownBlock)
  sb : W.cell? ⟨w.heap.size + 2, 0, none⟩ = some (.slice (some ⟨w.heap.size + 1, 0, none⟩) n n)
  sr : RowB W (w.heap.size + 1) n sn
  nr : W.rowIs (w.heap.size + 3) 3 n (fun j => .int .i64 (nx j : Nat))
  oo : W.ownsRow (w.heap.size + 4) 3 1 ov (zN o).length (vI (zN o))
  sz : w.heap.size + 4 ≤ W.heap.size
  bw : Below w.heap.size w W
section
variable {w W w' : World} {n : Nat} {p o : List Nat} {nx : Nat → Nat} {sn : Nat → Bool} {ov : Value}
/-- all its blocks are as they were -/
theorem EnvF.move (E : EnvF w n p o nx sn ov W) (hs : W.heap.size ≤ w'.heap.size) (hb : ∀ k, w.heap.size ≤ k → k < W.heap.size → w'.heap[k]? = W.heap[k]?) (bw : Below w.heap.size w w') : EnvF w n p o nx sn ov w' := by
  obtain ⟨pv, h1, h2, h3⟩ := E.pb
  have hz := E.sz
  have own : ∀ v xs m, W.ownsRow (w.heap.size + 4) 3 1 v m xs → w'.ownsRow (w.heap.size + 4) 3 1 v m xs := fun v xs m h => own_block h fun q hq => by
    obtain ⟨h4, h5⟩ := h.lt q hq
    exact hb q (by omega) h5
  exact ⟨⟨pv, h1.of_block (hb _ (Nat.le_refl _) (by omega)), own _ _ _ h2, h3⟩, (World.cell?_of_block (w := W) (a := ⟨w.heap.size + 2, 0, none⟩) (hb (w.heap.size + 2) (by omega) (by omega))).trans E.sb, E.sr.of_block (hb _ (by omega) (by omega)), E.nr.of_block (hb _ (by omega) (by omega)), own _ _ _ E.oo, by omega, bw⟩
theorem EnvF.alloc (E : EnvF w n p o nx sn ov W) (ob : Obj) : EnvF w n p o nx sn ov (W.alloc ob) :=
  E.move (by rw [World.size_alloc]; omega) (fun k _ h => blk_alloc_lt _ _ _ h) (E.bw.alloc (by have := E.sz; omega) _)
theorem EnvF.drew (E : EnvF w n p o nx sn ov W) : EnvF w n p o nx sn ov W.drew := E.move (Nat.le_refl _) (fun _ _ _ => rfl) E.bw.drew
theorem own_other {B : Nat} {v u : Value} {m b i : Nat} {xs : List Value} (h : W.ownsRow B 3 1 v m xs) (hb : b < B) : (W.setCell ⟨b, i, none⟩ u).ownsRow B 3 1 v m xs :=
  ownsRow_setCell_below h (by show b < B; exact hb) u
theorem EnvF.seen (E : EnvF w n p o nx sn ov W) (v : Nat) : EnvF w n p o nx (fun x => if x = v then true else sn x) ov (W.setCell ⟨w.heap.size + 1, v, none⟩ (.bool true)) := by
  obtain ⟨pv, h1, h2, h3⟩ := E.pb
  have oth : ∀ k, k ≠ w.heap.size + 1 → (W.setCell ⟨w.heap.size + 1, v, none⟩ (.bool true)).heap[k]? = W.heap[k]? := fun k hk => blk_setCell_other _ _ _ _ hk
  exact ⟨⟨pv, h1.of_block (oth _ (by omega)), own_other h2 (by omega), h3⟩, (World.cell?_of_block (w := W) (a := ⟨w.heap.size + 2, 0, none⟩) (oth (w.heap.size + 2) (by omega))).trans E.sb, E.sr.set v true, E.nr.of_block (oth _ (by omega)), own_other E.oo (by omega), by rw [nblk_setCell]; exact E.sz, E.bw.setCell (by show w.heap.size ≤ w.heap.size + 1; omega) _⟩
theorem EnvF.next (E : EnvF w n p o nx sn ov W) (v m : Nat) : EnvF w n p o (fun x => if x = v then m else nx x) sn ov (W.setCell ⟨w.heap.size + 3, v, none⟩ (.int .i64 (m : Nat))) := by
  obtain ⟨pv, h1, h2, h3⟩ := E.pb
  have oth : ∀ k, k ≠ w.heap.size + 3 → (W.setCell ⟨w.heap.size + 3, v, none⟩ (.int .i64 (m : Nat))).heap[k]? = W.heap[k]? := fun k hk => blk_setCell_other _ _ _ _ hk
  exact ⟨⟨pv, h1.of_block (oth _ (by omega)), own_other h2 (by omega), h3⟩, (World.cell?_of_block (w := W) (a := ⟨w.heap.size + 2, 0, none⟩) (oth (w.heap.size + 2) (by omega))).trans E.sb, E.sr.of_block (oth _ (by omega)), (E.nr.set v (.int .i64 (m : Nat))).congr (fun j _ => by by_cases c : j = v <;> simp [c]), own_other E.oo (by omega), by rw [nblk_setCell]; exact E.sz, E.bw.setCell (by show w.heap.size ≤ w.heap.size + 3; omega) _⟩
/-- the path's box is written -/
theorem EnvF.box (E : EnvF w n p o nx sn ov W) {p' : List Nat} {pv' : Value} (h : W.ownsRow (w.heap.size + 4) 3 1 pv' (zN p').length (vI (zN p'))) (h3 : pv'.ownBlock = none ∨ pv'.ownBlock ≠ ov.ownBlock) : EnvF w n p' o nx sn ov (W.setCell ⟨w.heap.size, 0, none⟩ pv') := by
  obtain ⟨pv, h1, h2, _⟩ := E.pb
  have oth : ∀ k, k ≠ w.heap.size → (W.setCell ⟨w.heap.size, 0, none⟩ pv').heap[k]? = W.heap[k]? := fun k hk => blk_setCell_other _ _ _ _ hk
  exact ⟨⟨pv', (h1.set 0 pv').congr (fun j hj => by rw [if_pos (by omega)]), own_other h (by omega), h3⟩, (World.cell?_of_block (w := W) (a := ⟨w.heap.size + 2, 0, none⟩) (oth (w.heap.size + 2) (by omega))).trans E.sb, E.sr.of_block (oth _ (by omega)), E.nr.of_block (oth _ (by omega)), own_other E.oo (by omega), by rw [nblk_setCell]; exact E.sz, E.bw.setCell (Nat.le_refl _) _⟩
/-- behind an append to the path -/
theorem EnvF.push (E : EnvF w n p o nx sn ov W) {pv pv' : Value} {v : Nat} (hc : W.rowIs w.heap.size 27 1 (fun _ => pv)) (ho : w'.ownsRow (w.heap.size + 4) 3 1 pv' ((zN p).length + 1) (vI (zN p) ++ [.int .i64 (v : Nat)])) (hg : W.grownBy w' pv.ownBlock) (hb : pv'.ownBlock = pv.ownBlock ∨ pv'.ownBlock = some W.heap.size) :
    EnvF w n (p ++ [v]) o nx sn ov (w'.setCell ⟨w.heap.size, 0, none⟩ pv') ∧ (∃ u, w'.cell? ⟨w.heap.size, 0, none⟩ = some u) ∧ w'.frozen? ⟨w.heap.size, 0, none⟩ = false := by
  obtain ⟨pv0, h1, h2, h3⟩ := E.pb
  have e0 : pv0 = pv := by
    have a := h1.cell (i := 0) (by omega)
    rw [hc.cell (i := 0) (by omega)] at a
    injection a with a
    exact a.symm
  subst e0
  have hz := E.sz
  have hge : ∀ q, pv0.ownBlock = some q → w.heap.size + 4 ≤ q ∧ q < W.heap.size := fun q hq => h2.lt q hq
  have oth : ∀ k, k < W.heap.size → some k ≠ pv0.ownBlock → w'.heap[k]? = W.heap[k]? := fun k hk hne => hg.block k hk hne
  have small : ∀ k, k < w.heap.size + 4 → some k ≠ pv0.ownBlock := fun k hk c => by have := (hge k c.symm).1; omega
  have oo' : w'.ownsRow (w.heap.size + 4) 3 1 ov (zN o).length (vI (zN o)) := own_block E.oo fun q hq => by
    refine oth q (E.oo.lt q hq).2 fun c => ?_
    rcases h3 with h3 | h3
    · rw [h3] at c; cases c
    · exact h3 (by rw [← c, hq])
  have E1 : EnvF w n p o nx sn ov W := E
  have hs : W.heap.size ≤ w'.heap.size := hg.size
  have bw' : Below w.heap.size w w' := E.bw.grown hg (by omega) fun k hk => by have := (hge k hk).1; omega
  have hrow : w'.rowIs w.heap.size 27 1 (fun _ => pv0) := h1.of_block (oth _ (by omega) (small _ (by omega)))
  have ne' : pv'.ownBlock = none ∨ pv'.ownBlock ≠ ov.ownBlock := by
    rcases hb with hb | hb
    · rw [hb]; exact h3
    · right
      rw [hb]
      intro c
      have := (E.oo.lt _ c.symm).2
      omega
  refine ⟨?_, ⟨_, hrow.cell (i := 0) (by omega)⟩, hrow.frozen 0⟩
  have oth2 : ∀ k, k ≠ w.heap.size → (w'.setCell ⟨w.heap.size, 0, none⟩ pv').heap[k]? = w'.heap[k]? := fun k hk => blk_setCell_other _ _ _ _ hk
  have both : ∀ k, k ≠ w.heap.size → k < w.heap.size + 4 → (w'.setCell ⟨w.heap.size, 0, none⟩ pv').heap[k]? = W.heap[k]? := fun k hk hk2 => (oth2 k hk).trans (oth k (by omega) (small k hk2))
  refine ⟨⟨pv', (hrow.set 0 pv').congr (fun j hj => by rw [if_pos (by omega)]), own_other ?_ (by omega), ne'⟩, (World.cell?_of_block (w := W) (a := ⟨w.heap.size + 2, 0, none⟩) (both (w.heap.size + 2) (by omega) (by omega))).trans E.sb, E.sr.of_block (both _ (by omega) (by omega)), E.nr.of_block (both _ (by omega) (by omega)), own_other oo' (by omega), by rw [nblk_setCell]; omega, bw'.setCell (Nat.le_refl _) _⟩
  rw [zN_snoc, vI_snoc, List.length_append, List.length_singleton]
  exact ho
/-- behind an append to the order -/
theorem EnvF.left (E : EnvF w n p o nx sn ov W) {ov' : Value} {v : Nat} (ho : w'.ownsRow (w.heap.size + 4) 3 1 ov' ((zN o).length + 1) (vI (zN o) ++ [.int .i64 (v : Nat)])) (hg : W.grownBy w' ov.ownBlock) (hb : ov'.ownBlock = ov.ownBlock ∨ ov'.ownBlock = some W.heap.size) :
    EnvF w n p (o ++ [v]) nx sn ov' w' := by
  obtain ⟨pv, h1, h2, h3⟩ := E.pb
  have hz := E.sz
  have hge : ∀ q, ov.ownBlock = some q → w.heap.size + 4 ≤ q ∧ q < W.heap.size := fun q hq => E.oo.lt q hq
  have small : ∀ k, k < w.heap.size + 4 → w'.heap[k]? = W.heap[k]? := fun k hk => hg.block k (by omega) fun c => by have := (hge k c.symm).1; omega
  have p2 : w'.ownsRow (w.heap.size + 4) 3 1 pv (zN p).length (vI (zN p)) := own_block h2 fun q hq => by
    refine hg.block q (h2.lt q hq).2 fun c => ?_
    rcases h3 with h3 | h3
    · rw [h3] at hq; cases hq
    · exact h3 (by rw [hq, c])
  have ne' : pv.ownBlock = none ∨ pv.ownBlock ≠ ov'.ownBlock := by
    rcases hb with hb | hb
    · rw [hb]; exact h3
    · right
      rw [hb]
      intro c
      have := (h2.lt _ c).2
      omega
  have hs := hg.size
  refine ⟨⟨pv, h1.of_block (small _ (by omega)), p2, ne'⟩, (World.cell?_of_block (w := W) (a := ⟨w.heap.size + 2, 0, none⟩) (small (w.heap.size + 2) (by omega))).trans E.sb, E.sr.of_block (small _ (by omega)), E.nr.of_block (small _ (by omega)), ?_, by omega, E.bw.grown hg (by omega) fun k hk => by have := (hge k hk).1; omega⟩
  rw [zN_snoc, vI_snoc, List.length_append, List.length_singleton]
  exact ho
end
set_option maxHeartbeats 4000000 in
set_option maxRecDepth 100000 in
theorem enter_any {w : World} {n : Nat} {p o : List Nat} {nx : Nat → Nat} {sn : Nat → Bool} {ov : Value} (v : Nat) (W : World) (E : EnvF w n p o nx sn ov W) (hv : v < n) (hp : p.length ≤ 5000) :
    Calls Try.prog 44 #[.int .i64 (v : Nat), .pointer (some ⟨w.heap.size + 2, 0, none⟩), .pointer (some ⟨w.heap.size, 0, none⟩)] W fun e W' => (∃ z, e = .returned z) ∧ EnvF w n (p ++ [v]) o nx (fun x => if x = v then true else sn x) ov W' := by
  have E1 := E.seen v
  have q0 := E.sb
  have q1 := E.sr.get hv
  have q2 : W.frozen? ⟨w.heap.size + 1, v, none⟩ = false := World.rowIs.frozen E.sr v
  obtain ⟨W1, hW1⟩ : ∃ W1, W1 = W.setCell ⟨w.heap.size + 1, v, none⟩ (.bool true) := ⟨_, rfl⟩
  rw [← hW1] at E1
  obtain ⟨pv, h1, h2, _⟩ := E1.pb
  have q3 := h1.cell (i := 0) (by omega)
  have g0 : (W1.alloc (.cells #[.int .i64 (v : Nat)] 3)).cell? ⟨W1.heap.size, 0, none⟩ = some (.int .i64 (v : Nat)) := by simp
  have hsW : W1.heap.size = W.heap.size := by rw [hW1, nblk_setCell]
  rw [hsW] at g0
  have HSW := Lib.hid hsW
  clear hsW
  have HO := Lib.hid (h2.alloc (.cells #[.int .i64 (v : Nat)] 3))
  have PUSH : Hid (∀ pv' w', w'.ownsRow (w.heap.size + 4) 3 1 pv' ((zN p).length + 1) (vI (zN p) ++ [.int .i64 (v : Nat)]) → (W1.alloc (.cells #[.int .i64 (v : Nat)] 3)).grownBy w' pv.ownBlock → (pv'.ownBlock = pv.ownBlock ∨ pv'.ownBlock = some (W1.alloc (.cells #[.int .i64 (v : Nat)] 3)).heap.size) →
    EnvF w n (p ++ [v]) o nx (fun x => if x = v then true else sn x) ov (w'.setCell ⟨w.heap.size, 0, none⟩ pv') ∧ (∃ u, w'.cell? ⟨w.heap.size, 0, none⟩ = some u) ∧ w'.frozen? ⟨w.heap.size, 0, none⟩ = false) := fun pv' w' a b c => (E1.alloc _).push (h1.alloc _) a b c
  have hsz : w.heap.size + 4 ≤ W1.heap.size := E1.sz
  have hlen : (zN p).length ≤ 100000 := by rw [zN_len]; omega
  have HW1 := Lib.hid hW1
  obtain ⟨pA, pc, hpv⟩ : ∃ A c, pv = .slice A (zN p).length c := by
    obtain ⟨A, c, e, _⟩ := ReadsV.own h2
    exact ⟨A, c, e⟩
  have HPV := Lib.hid hpv
  rw [hpv] at q3
  clear E E1 h1 h2 hW1 hpv
  rw [HW1.out] at q3
  go_enter Try.func44, Try.ntmps44
  go_wp2_with (at_builtin; rw [← HW1.out, ← HPV.out]; go_loud (refine wpList_intg rfl (.tmp 7) (.tmp 9) rfl (w.heap.size + 4) pv (zN p) (v : Int) rfl HO.out W.heap.size rfl g0 hlen (by rw [World.size_alloc]; omega) ?_); intro v' w6 ho6 hg6 hb6; obtain ⟨gv, cv, hv'⟩ := own_form ho6; subst hv'; obtain ⟨E9, ⟨cu, ct⟩, cf⟩ := PUSH.out _ w6 ho6 hg6 hb6; have E9 := Lib.hid E9; clear ho6 hg6 hb6 PUSH)
  go_end0
  exact ⟨⟨_, rfl⟩, E9.out⟩
end Go.Proofs.Ytdfljeonoallfaa
