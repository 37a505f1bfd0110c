/- Graphs: lists of numbers; cells that stay; what a call returns. Graphs: the search of Reach: the plain mathematics. Graphs: the search of Reach, walked. Graphs: Reach. A table of rows that grow one by one. Graphs in memory. Graphs: what a depth-first search finds is what the closure of the table finds: the plain mathematics. Graphs: a table of truth values, its rows anywhere in the call's own memory. Graphs: the reference's table of the edges. Graphs: the reference's table of the paths. Graphs: what the reference can reach. Graphs: reversed lists and validity: the plain mathematics. Graphs: the reversed lists, by the program. -/
import Derived.Test.YtlbcdnobpnllkaaGreatRows
import Derived.WalkKit
import Derived.WalkLawsBesides
import Derived.WalkSpells
import Derived.Deep.QuietTactic
import Derived.BigQuiet
import Derived.Below
import Derived.Lib.OwnBridge
import Derived.Maps.AppendAt
import Derived.OwnWalk
import Derived.Lib.Hide
import Derived.Deep.OwnRows
import Derived.StillTailTactics
import Derived.LoopN
import Derived.Deep.RegionHeld3
import Derived.Deep.AppendLies
import Derived.Deep.LoopGhost
import Derived.Deep.Cut
import Derived.Deep.CutBlock
import Derived.Deep.DeepCutAuto
import Derived.Deep.Draws
import Derived.Deep.Fields
import Derived.Deep.RegionHeld
import Derived.Deep.RegionWith
import Derived.Deep.Slices
import Derived.IntWalk
import Derived.WalkMore
import Derived.Laws.Rows
import Derived.Laws.OwnMore
import Derived.Lib.SmallJoins
import Derived.Laws.EntriesVeiled
namespace Go.Proofs.YtlbcdnobpnllkaaGreat.Dg
open Go.RowKit
def anyN (f : Nat → Bool) (n : Nat) : Bool := (List.range n).any f
theorem anyN_yes {f : Nat → Bool} {n k : Nat} (hk : k < n) (h : f k = true) : anyN f n = true := List.any_eq_true.2 ⟨k, List.mem_range.2 hk, h⟩
theorem anyN_no {f : Nat → Bool} {n : Nat} (h : ∀ j, j < n → f j = false) : anyN f n = false := List.any_eq_false.2 fun k hk => by rw [h k (List.mem_range.1 hk)]; simp
theorem anyN_false {f : Nat → Bool} {n : Nat} : anyN f n = false ↔ ∀ j, j < n → f j = false := by
  constructor
  · intro h j hj
    cases e : f j
    · rfl
    · rw [anyN_yes hj e] at h
      cases h
  · exact anyN_no
def inR (x n : Int) : Bool := decide (0 ≤ x) && decide (x < n)
theorem inR_iff {x n : Int} : inR x n = true ↔ 0 ≤ x ∧ x < n := by unfold inR; simp
def VPost (g : Nat) (w : World) (v : Value) (e : Ending) (w' : World) : Prop := e = .returned v ∧ Below g w w'
theorem cellA {w : World} {b i : Nat} {v : Value} (h : w.cell? ⟨b, i, none⟩ = some v) (ob : Obj) : (w.alloc ob).cell? ⟨b, i, none⟩ = some v :=
  (((Below.refl _ _).alloc (Nat.le_refl _) _).cell (p := ⟨b, i, none⟩) (World.block_lt_of_cell? _ _ h)).trans h
theorem keepc {w w' : World} {b o : Nat} {v : Value} (h : w.cell? ⟨b, o, none⟩ = some v) (hb : Below w.heap.size w w') : w'.cell? ⟨b, o, none⟩ = some v :=
  (hb.cell (p := ⟨b, o, none⟩) (World.block_lt_of_cell? w ⟨b, o, none⟩ h)).trans h
def at0 (L : List Int) (k : Nat) : Int := L[k]?.getD 0
def In64 (L : List Int) : Prop := ∀ x ∈ L, -9223372036854775808 ≤ x ∧ x ≤ 9223372036854775807
theorem In64.at {L : List Int} (h : In64 L) (k : Nat) : -9223372036854775808 ≤ at0 L k ∧ at0 L k ≤ 9223372036854775807 := by
  unfold at0
  by_cases hk : k < L.length
  · rw [List.getElem?_eq_getElem hk]; exact h _ (List.getElem_mem hk)
  · rw [List.getElem?_eq_none (by omega)]; simp
def ReadsV (w : World) (A : Option Addr) (zs : List Int) : Prop :=
  ∀ j, j < zs.length → ∃ b off, A = some ⟨b, off, none⟩ ∧ b < w.heap.size ∧ w.cell? ⟨b, off + j, none⟩ = some (.int .i64 (at0 zs j))
theorem ReadsV.nil (w : World) (A : Option Addr) : ReadsV w A [] := fun _ h => absurd h (by simp)
theorem ReadsV.below {w w' : World} {A : Option Addr} {zs : List Int} {B : Nat} (h : ReadsV w A zs) (hb : Below B w w') (hB : w.heap.size ≤ B) : ReadsV w' A zs := fun j hj => by
  obtain ⟨b, off, e, h1, h2⟩ := h j hj
  exact ⟨b, off, e, Nat.lt_of_lt_of_le h1 hb.size, (hb.cell (p := ⟨b, off + j, none⟩) (Nat.lt_of_lt_of_le h1 hB)).trans h2⟩
theorem ReadsV.alloc {w : World} {A : Option Addr} {zs : List Int} (h : ReadsV w A zs) (o : Obj) : ReadsV (w.alloc o) A zs := h.below (B := w.heap.size) ((Below.refl _ _).alloc (Nat.le_refl _) _) (Nat.le_refl _)
theorem ReadsV.own {w : World} {base : Nat} {e : TypeId} {v : Value} {n : Nat} {L : List Int} (h : w.ownsRow base e 1 v n (L.map (Value.int .i64))) : ∃ A c, v = .slice A L.length c ∧ ReadsV w A L := by
  have hl : L.length = n := by have := h.1; simpa using this
  rcases h.2 with ⟨rfl, h0⟩ | ⟨g, cap, cur, rfl, _, hg, _⟩
  · obtain rfl : L = [] := List.eq_nil_of_length_eq_zero (by omega)
    exact ⟨none, 0, rfl, ReadsV.nil _ _⟩
  · refine ⟨_, _, by rw [hl], fun j hj => ⟨_, _, rfl, ?_, ?_⟩⟩
    · have := h.cellAt j (by omega)
      exact World.block_lt_of_cell? w ⟨g, j, none⟩ (by rw [this]; simp [hj]; rfl)
    · rw [Nat.zero_add, h.cellAt j (by omega)]
      simp [hj, at0]
theorem ReadsV.row {w : World} {g : Nat} {t : TypeId} {cs : Array Value} {zs : List Int} (h : w.heap[g]? = some (.cells cs t (0, 0))) (hz : cs = (zs.map (Value.int .i64)).toArray) : ReadsV w (some ⟨g, 0, none⟩) zs := by
  subst hz
  intro j hj
  have hc := cell_of_row w g j _ t (0, 0) h
  refine ⟨g, 0, rfl, ?_, ?_⟩
  · exact World.block_lt_of_cell? w ⟨g, j, none⟩ (by rw [hc]; simp [hj]; rfl)
  · rw [Nat.zero_add, hc]
    simp [hj, at0]
theorem list_at0 (a : List Int) : (List.range a.length).map (at0 a) = a := by
  apply List.ext_getElem
  · simp
  · intro i h1 h2
    simp at h1
    simp [at0, h1]
theorem own_below {w w' : World} {base : Nat} {e : TypeId} {size : Nat} {v : Value} {n : Nat} {xs : List Value} {B : Nat} (h : w.ownsRow base e size v n xs) (hb : Below B w w') (hB : w.heap.size ≤ B) : w'.ownsRow base e size v n xs := by
  refine ⟨h.1, ?_⟩
  rcases h.2 with h0 | ⟨g, cap, cur, h1, h2, h3, h4⟩
  · exact .inl h0
  · refine .inr ⟨g, cap, cur, h1, h2, ?_, h4⟩
    have hg : g < w.heap.size := (h.lt g (by rw [h1]; rfl)).2
    rw [hb.block g (by omega)]
    exact h3
theorem own_put {w : World} {base : Nat} {e : TypeId} {g n cap : Nat} {L : List Int} (h : w.ownsRow base e 1 (.slice (some ⟨g, 0, none⟩) n cap) n (L.map (Value.int .i64))) (i : Nat) (x : Int) :
    (w.setCell ⟨g, i, none⟩ (.int .i64 x)).ownsRow base e 1 (.slice (some ⟨g, 0, none⟩) n cap) n ((L.set i x).map (Value.int .i64)) := by
  rw [List.map_set]
  exact (h.stored i (.int .i64 x)).1
theorem own_cell {w : World} {base : Nat} {e : TypeId} {g n cap : Nat} {L : List Int} (h : w.ownsRow base e 1 (.slice (some ⟨g, 0, none⟩) n cap) n (L.map (Value.int .i64))) (i : Nat) (hi : i < L.length) :
    w.cell? ⟨g, i, none⟩ = some (.int .i64 (at0 L i)) := by
  have hl : L.length = n := by have := h.1; simpa using this
  rw [h.cellAt i (by omega)]
  simp [hi, at0]

theorem at_of_reads {w : World} {A : Option Addr} {zs : List Int} (h : ReadsV w A zs) (k : Nat) (hk : k < zs.length) : ∃ b off, A = some ⟨b, off, none⟩ ∧ w.cell? ⟨b, off + k, none⟩ = some (.int .i64 (at0 zs k)) := by
  obtain ⟨b, off, h1, _, h2⟩ := h k hk
  exact ⟨b, off, h1, h2⟩
/-- a list, element by element -/
def tab (n : Nat) (f : Nat → Int) : List Int := (List.range n).map f
theorem tab_len (n : Nat) (f : Nat → Int) : (tab n f).length = n := by simp [tab]
theorem tab_at (n : Nat) (f : Nat → Int) (k : Nat) (hk : k < n) : at0 (tab n f) k = f k := by simp [tab, at0, hk]
theorem tab_self (a : List Int) : tab a.length (at0 a) = a := list_at0 a
theorem tab_congr {n : Nat} {f g : Nat → Int} (h : ∀ k, k < n → f k = g k) : tab n f = tab n g := List.map_congr_left fun k hk => h k (List.mem_range.1 hk)
theorem tab_snoc (k : Nat) (f : Nat → Int) : tab (k + 1) f = tab k f ++ [f k] := by
  unfold tab
  rw [List.range_succ, List.map_append]
  rfl
theorem tab_set (n k : Nat) (f g : Nat → Int) : (tab n fun j => if j < k then f j else g j).set k (f k) = tab n fun j => if j < k + 1 then f j else g j := by
  apply List.ext_getElem
  · simp [tab]
  · intro i h1 h2
    simp only [tab, List.getElem_set, List.getElem_map, List.getElem_range]
    by_cases h : k = i
    · subst h; simp
    · rw [if_neg h]
      by_cases h3 : i < k
      · rw [if_pos h3, if_pos (by omega)]
      · rw [if_neg h3, if_neg (by omega)]
theorem tab_none (n : Nat) (f g : Nat → Int) : (tab n fun j => if j < 0 then f j else g j) = tab n g := tab_congr fun k _ => by rw [if_neg (by omega)]
theorem tab_all (n : Nat) (f g : Nat → Int) : (tab n fun j => if j < n then f j else g j) = tab n f := tab_congr fun k hk => by rw [if_pos hk]
theorem tab_at_set (n k : Nat) (f g : Nat → Int) (hk : k < n) : at0 (tab n fun j => if j < k then f j else g j) k = g k := by rw [tab_at _ _ _ hk, if_neg (by omega)]


theorem info_parts {i0 : Option TypeInfo} {z : Option Value} {s b : Nat} (h : i0.map (fun i => (i.zero, i.size, i.bytes)) = some (z, s, b)) : ∃ i, i0 = some i ∧ i.zero = z ∧ i.size = s ∧ i.bytes = b := by
  cases i0 with
  | none => simp at h
  | some i => simp at h; exact ⟨i, rfl, h.1, h.2.1, h.2.2⟩
theorem infoI : (Tryz.prog.info? 3).map (fun i => (i.zero, i.size, i.bytes)) = some (some (.int .i64 0), 1, 8) := by kernel_rfl
theorem one_cellI (x : Int) : ∀ u ∈ [Value.int .i64 x], u.oneCell' = true := by simp [Value.oneCell']
def IsPost (g : Nat) (w : World) (L : List Int) (e : Ending) (w' : World) : Prop := ∃ A c, e = .returned (.slice A L.length c) ∧ ReadsV w' A L ∧ Below g w w'
def vI (L : List Int) : List Value := L.map (Value.int .i64)
theorem vI_snoc (L : List Int) (x : Int) : vI (L ++ [x]) = vI L ++ [.int .i64 x] := by simp [vI]
theorem vI_len (L : List Int) : (vI L).length = L.length := by simp [vI]
def pickI (f : Nat → Bool) (n : Nat) : List Int := ((List.range n).filter f).map (fun (k : Nat) => (k : Int))
theorem pickI_yes (f : Nat → Bool) (k : Nat) (h : f k = true) : pickI f (k + 1) = pickI f k ++ [(k : Int)] := by
  unfold pickI
  rw [List.range_succ, List.filter_append, List.map_append]
  simp [h]
theorem pickI_no (f : Nat → Bool) (k : Nat) (h : f k = false) : pickI f (k + 1) = pickI f k := by
  unfold pickI
  rw [List.range_succ, List.filter_append, List.map_append]
  simp [h]
theorem pickI_len (f : Nat → Bool) (k : Nat) : (pickI f k).length ≤ k := by
  unfold pickI
  rw [List.length_map]
  exact Nat.le_trans (List.length_filter_le _ _) (by simp)
theorem cell_new1 (w : World) (x : Value) (t : TypeId) : (w.alloc (.cells #[x] t)).cell? ⟨w.heap.size, 0, none⟩ = some x := by simp
theorem size_le_alloc {w : World} {g : Nat} (h : g ≤ w.heap.size) (o : Obj) : g ≤ (w.alloc o).heap.size := by rw [World.size_alloc]; omega
def OwnI (w : World) (s : Nat) (v : Value) (zs : List Int) : Prop := w.ownsRow s 3 1 v zs.length (zs.map (Value.int .i64))
theorem OwnI.nil (w : World) (s : Nat) : OwnI w s (.slice none 0 0) [] := World.ownsRow_nil _ _ _ _
theorem OwnI.below {w w' : World} {s B : Nat} {v : Value} {zs : List Int} (h : OwnI w s v zs) (hb : Below B w w') (hB : w.heap.size ≤ B) : OwnI w' s v zs := own_below h hb hB
theorem OwnI.alloc {w : World} {s : Nat} {v : Value} {zs : List Int} (h : OwnI w s v zs) (o : Obj) : OwnI (w.alloc o) s v zs := h.below (B := w.heap.size) ((Below.refl _ _).alloc (Nat.le_refl _) _) (Nat.le_refl _)
theorem wpList_int {ops : Array Oper} {rest : List Oper} {o : Oper} {a : Act} {w : World} {Q : Exit → Act → World → Prop} (hgd : o.guard = none) (s x : Operand)
    (ho : o.op = .call { callee := .builtin .append, args := #[s, x], argTypes := #[34, 34] })
    (base : Nat) (v : Value) (zs : List Int) (z : Int) (hs : a.eval s = v) (hO : OwnI w base v zs) (g : Nat) (hx : a.eval x = .slice (some ⟨g, 0, none⟩) 1 1)
    (hc : w.cell? ⟨g, 0, none⟩ = some (.int .i64 z)) (hl : zs.length ≤ 17592186043904) (hbase : base ≤ w.heap.size)
    (h : ∀ v' w', OwnI w' base v' (zs ++ [z]) → Below base w w' → wpList Tryz.prog ops Q rest (a.put o.dst v') w') : wpList Tryz.prog ops Q (o :: rest) a w := by
  obtain ⟨i, hi, hz, h1, h2⟩ := info_parts infoI
  refine wpList_append_own _ hgd s x 34 ho base 3 i (.int .i64 0) 1 8 Tryz.underlying34 hi hz h1 h2 rfl (by decide) v zs.length (zs.map (Value.int .i64)) hs hO ⟨g, 0, none⟩ 1 1 [.int .i64 z] hx rfl ?_ ?_ (by unfold maxLen; omega) (by omega) hbase ?_
  · intro j u hj
    cases j with
    | zero => simp at hj; subst hj; simpa [Addr.add] using hc
    | succ j => simp at hj
  · intro u hu
    simp at hu
    subst hu
    simp [Value.oneCell']
  · intro v' w' hown hgrow _
    refine h v' w' ?_ ((Below.refl base w).grown hgrow hbase fun q e => (World.ownsRow.lt hO q e).1)
    unfold OwnI
    rw [List.map_append, List.length_append]
    exact hown
theorem IsPost.own {g : Nat} {w w' : World} {v : Value} {zs : List Int} (h : OwnI w' g v zs) (hb : Below g w w') : IsPost g w zs (.returned v) w' := by
  obtain ⟨A, c, e, hr⟩ := ReadsV.own h
  exact ⟨A, c, by rw [e], hr, hb⟩
end Go.Proofs.YtlbcdnobpnllkaaGreat.Dg

namespace Go.Proofs.YtlbcdnobpnllkaaGreat.Dg
open Go.RowKit

def unS (S : List Bool) : Nat := S.count false
def atT (S : List Bool) (i : Nat) : Bool := S[i]?.getD true
theorem un_set : ∀ {S : List Bool} {i : Nat}, i < S.length → atT S i = false → unS (S.set i true) + 1 = unS S
  | [], i, h, _ => absurd h (by simp)
  | b :: S, 0, _, h => by
    have hb : b = false := h
    subst hb
    simp [unS]
  | b :: S, i + 1, h, h2 => by
    have h3 := un_set (S := S) (i := i) (by simpa using h) h2
    unfold unS at h3 ⊢
    rw [List.set_cons_succ, List.count_cons, List.count_cons]
    omega
/-- the depth-first search from one vertex -/
def dfsF (R : Nat → List Int) (n : Nat) : Nat → List Bool → Int → List Bool
  | 0, S, _ => S
  | f + 1, S, v => if 0 ≤ v ∧ v < n ∧ atT S v.toNat = false then (R v.toNat).foldl (fun S w => dfsF R n f S w) (S.set v.toNat true) else S
theorem fold_len {R : Nat → List Int} {n f : Nat} (h : ∀ S v, (dfsF R n f S v).length = S.length) : ∀ (l : List Int) (S : List Bool), (l.foldl (fun S w => dfsF R n f S w) S).length = S.length
  | [], _ => rfl
  | x :: l, S => by rw [List.foldl_cons, fold_len h l, h]
theorem dfs_len (R : Nat → List Int) (n : Nat) : ∀ (f : Nat) (S : List Bool) (v : Int), (dfsF R n f S v).length = S.length
  | 0, _, _ => rfl
  | f + 1, S, v => by
    rw [dfsF]
    split
    · rw [fold_len (dfs_len R n f), List.length_set]
    · rfl
theorem fold_un {R : Nat → List Int} {n f : Nat} (h : ∀ S : List Bool, S.length = n → ∀ v, unS (dfsF R n f S v) ≤ unS S) : ∀ (l : List Int) (S : List Bool), S.length = n → unS (l.foldl (fun S w => dfsF R n f S w) S) ≤ unS S
  | [], _, _ => Nat.le_refl _
  | x :: l, S, hS => by
    rw [List.foldl_cons]
    exact Nat.le_trans (fold_un h l _ (by rw [dfs_len]; exact hS)) (h S hS x)
theorem dfs_un (R : Nat → List Int) (n : Nat) : ∀ (f : Nat) (S : List Bool), S.length = n → ∀ v, unS (dfsF R n f S v) ≤ unS S
  | 0, _, _, _ => Nat.le_refl _
  | f + 1, S, hS, v => by
    rw [dfsF]
    split
    · rename_i h
      have h1 := un_set (S := S) (i := v.toNat) (by omega) h.2.2
      have h2 := fold_un (R := R) (dfs_un R n f) (R v.toNat) (S.set v.toNat true) (by rw [List.length_set]; exact hS)
      omega
    · exact Nat.le_refl _
def dfsL (R : Nat → List Int) (n f : Nat) (S : List Bool) (l : List Int) : List Bool := l.foldl (fun S w => dfsF R n f S w) S
theorem dfsL_step {R : Nat → List Int} {n f : Nat} {S : List Bool} {l : List Int} {k : Nat} (h : k < l.length) : dfsL R n f S (l.take (k + 1)) = dfsF R n f (dfsL R n f S (l.take k)) (at0 l k) := by
  have e : l.take (k + 1) = l.take k ++ [at0 l k] := by
    rw [List.take_add_one]
    unfold at0
    rw [List.getElem?_eq_getElem h]
    rfl
  unfold dfsL
  rw [e, List.foldl_append]
  rfl
theorem dfsL_len (R : Nat → List Int) (n f : Nat) (S : List Bool) (l : List Int) : (dfsL R n f S l).length = S.length := fold_len (dfs_len R n f) l S
theorem dfsL_un (R : Nat → List Int) (n f : Nat) (S : List Bool) (l : List Int) (h : S.length = n) : unS (dfsL R n f S l) ≤ unS S := fold_un (dfs_un R n f) l S h
theorem dfs_hit {R : Nat → List Int} {n f : Nat} {S : List Bool} {i : Nat} (hi : i < n) (h : atT S i = false) : dfsF R n (f + 1) S (i : Int) = dfsL R n f (S.set i true) (R i) := by
  rw [dfsF, if_pos ⟨by omega, by omega, h⟩]
  rfl
theorem dfs_seen {R : Nat → List Int} {n f : Nat} {S : List Bool} {i : Nat} (h : atT S i = true) : dfsF R n (f + 1) S (i : Int) = S := by
  rw [dfsF, if_neg]
  rintro ⟨_, _, h2⟩
  have e : ((i : Int)).toNat = i := by omega
  rw [e, h] at h2
  cases h2
theorem dfs_no {R : Nat → List Int} {n f : Nat} {S : List Bool} {v : Int} (h : ¬ (0 ≤ v ∧ v < n)) : dfsF R n (f + 1) S v = S := by
  rw [dfsF, if_neg]
  rintro ⟨h1, h2, _⟩
  exact h ⟨h1, h2⟩
end Go.Proofs.YtlbcdnobpnllkaaGreat.Dg

namespace Go.Proofs.YtlbcdnobpnllkaaGreat.Dg
open Go.RowKit

/-- what the search is about: the rows and where its variables lie -/
structure RcC where
  n : Nat
  gA : Option Addr
  gc : Nat
  g : Nat
  Bg : Nat
  Bs : Nat
  Bl : Nat
  Bv : Nat
  S : Nat
  RA : Nat → Option Addr
  RL : Nat → List Int
  RK : Nat → Nat
def RcC.fn (C : RcC) : Value := .func (.func 84) #[] #[.pointer (some ⟨C.Bg, 0, none⟩), .pointer (some ⟨C.Bs, 0, none⟩), .pointer (some ⟨C.Bl, 0, none⟩), .pointer (some ⟨C.Bv, 0, none⟩)]
structure GeoR (C : RcC) (w0 : World) : Prop where
  gs : C.g = w0.heap.size
  ng : C.Bg ≠ C.S
  ns : C.Bs ≠ C.S
  nl : C.Bl ≠ C.S
  nv : C.Bv ≠ C.S
  hS : C.g ≤ C.S
  hn : C.n ≤ 4000
  row : ∀ i, i < C.n → ∃ b off, C.gA = some ⟨b, off, none⟩ ∧ b < w0.heap.size ∧ w0.cell? ⟨b, off + i, none⟩ = some (.slice (C.RA i) (C.RL i).length (C.RK i))
  rd : ∀ i, i < C.n → ReadsV w0 (C.RA i) (C.RL i)
  ll : ∀ i, i < C.n → (C.RL i).length ≤ 1000000
structure EnvR (C : RcC) (w0 : World) (seen : List Bool) (W : World) : Prop where
  bg : W.cell? ⟨C.Bg, 0, none⟩ = some (.slice C.gA C.n C.gc)
  bs : W.cell? ⟨C.Bs, 0, none⟩ = some (.slice (some ⟨C.S, 0, none⟩) C.n C.n)
  bl : W.cell? ⟨C.Bl, 0, none⟩ = some (.slice none 0 0)
  bv : W.cell? ⟨C.Bv, 0, none⟩ = some C.fn
  sb : W.ownsRow C.g 4 1 (.slice (some ⟨C.S, 0, none⟩) C.n C.n) C.n (seen.map Value.bool)
  len : seen.length = C.n
  bw : Below C.g w0 W
theorem EnvR.set {C : RcC} {w0 : World} {seen : List Bool} {W : World} (h : EnvR C w0 seen W) (G : GeoR C w0) (i : Nat) : EnvR C w0 (seen.set i true) (W.setCell ⟨C.S, i, none⟩ (.bool true)) where
  bg := (World.cell?_setCell_other _ _ _ _ (by simp; exact fun h => absurd h.symm G.ng)).trans h.bg
  bs := (World.cell?_setCell_other _ _ _ _ (by simp; exact fun h => absurd h.symm G.ns)).trans h.bs
  bl := (World.cell?_setCell_other _ _ _ _ (by simp; exact fun h => absurd h.symm G.nl)).trans h.bl
  bv := (World.cell?_setCell_other _ _ _ _ (by simp; exact fun h => absurd h.symm G.nv)).trans h.bv
  sb := by
    rw [List.map_set]
    exact (h.sb.stored i (.bool true)).1
  len := by rw [List.length_set]; exact h.len
  bw := h.bw.setCell G.hS _
theorem EnvR.at {C : RcC} {w0 : World} {seen : List Bool} {W : World} (h : EnvR C w0 seen W) {i : Nat} (hi : i < C.n) : W.cell? ⟨C.S, i, none⟩ = some (.bool (atT seen i)) := by
  rw [h.sb.cellAt i (by omega)]
  have hl : i < seen.length := by rw [h.len]; exact hi
  unfold atT
  rw [List.getElem?_map, List.getElem?_eq_getElem hl]
  rfl
theorem EnvR.row {C : RcC} {w0 : World} {seen : List Bool} {W : World} (h : EnvR C w0 seen W) (G : GeoR C w0) {i : Nat} (hi : i < C.n) : ∃ b off, C.gA = some ⟨b, off, none⟩ ∧ W.cell? ⟨b, off + i, none⟩ = some (.slice (C.RA i) (C.RL i).length (C.RK i)) := by
  obtain ⟨b, off, e, h1, h2⟩ := G.row i hi
  exact ⟨b, off, e, (h.bw.cell (p := ⟨b, off + i, none⟩) (by rw [G.gs]; exact h1)).trans h2⟩
theorem EnvR.rd {C : RcC} {w0 : World} {seen : List Bool} {W : World} (h : EnvR C w0 seen W) (G : GeoR C w0) {i : Nat} (hi : i < C.n) : ReadsV W (C.RA i) (C.RL i) := (G.rd i hi).below h.bw (by rw [G.gs]; exact Nat.le_refl _)
theorem isv_any (A : Option Addr) (n c : Nat) (v : Int) (w : World) :
    Calls Tryz.prog 85 #[.slice A n c, .int .i64 v] w fun e w' => e = .returned (.bool (inR v n)) ∧ w = w' := by
  unfold inR
  by_cases h0 : 0 ≤ v
  · have z0 : (0 ≤ v) = True := by simp [h0]
    by_cases h1 : v < n
    · have z1 : (v < (n : Int)) = True := by simp [h1]
      rw [decide_eq_true h0, decide_eq_true h1]
      clear h0 h1
      go_enter Tryz.func85, Tryz.ntmps85
      go_wp2
      go_ret
      exact ⟨rfl, rfl⟩
    · have z1 : (v < (n : Int)) = False := by simp; omega
      rw [decide_eq_true h0, decide_eq_false h1]
      clear h0 h1
      go_enter Tryz.func85, Tryz.ntmps85
      go_wp2
      go_ret
      exact ⟨rfl, rfl⟩
  · have z0 : (0 ≤ v) = False := by simp; omega
    rw [decide_eq_false h0]
    clear h0
    go_enter Tryz.func85, Tryz.ntmps85
    go_wp2
    go_ret
    exact ⟨rfl, rfl⟩
set_option maxHeartbeats 4000000 in
set_option maxRecDepth 100000 in
theorem visit_any {C : RcC} {w0 : World} (G : GeoR C w0) : ∀ (f : Nat) (v : Int) (d : Nat) (seen : List Bool) (W : World), EnvR C w0 seen W → unS seen < f → d + f ≤ 4096 →
    Calls Tryz.prog 84 #[.int .i64 v, .int .i64 (d : Nat), .pointer (some ⟨C.Bg, 0, none⟩), .pointer (some ⟨C.Bs, 0, none⟩), .pointer (some ⟨C.Bl, 0, none⟩), .pointer (some ⟨C.Bv, 0, none⟩)] W fun e W' => (∃ z, e = .returned z) ∧ EnvR C w0 (dfsF C.RL C.n f seen v) W'
  | 0, _, _, _, _, _, h, _ => absurd h (by omega)
  | f + 1, v, d, seen, W, E, hu, hd => by
    have CI : Hid (∀ x seen W, EnvR C w0 seen W → unS seen < f → Calls Tryz.prog 84 #[.int .i64 x, .int .i64 ((d : Int) + 1), .pointer (some ⟨C.Bg, 0, none⟩), .pointer (some ⟨C.Bs, 0, none⟩), .pointer (some ⟨C.Bl, 0, none⟩), .pointer (some ⟨C.Bv, 0, none⟩)] W fun e W' => (∃ z, e = .returned z) ∧ EnvR C w0 (dfsF C.RL C.n f seen x) W') := fun x seen W h1 h2 => by
      have h := visit_any G f x (d + 1) seen W h1 h2 (by omega)
      rw [show ((d + 1 : Nat) : Int) = (d : Int) + 1 from rfl] at h
      exact h
    have HG := Lib.hid G
    have hn := G.hn
    have CV := Lib.hid (isv_any C.gA C.n C.gc v W)
    have q0 := E.bg
    have q1 := E.bs
    have q2 := E.bl
    have q3 := E.bv
    have HE := Lib.hid E
    by_cases hv : 0 ≤ v ∧ v < C.n
    · obtain ⟨i, rfl⟩ : ∃ i : Nat, v = i := ⟨v.toNat, by omega⟩
      have hi : i < C.n := by omega
      have q4 := E.at hi
      rw [show inR (i : Int) (C.n : Int) = true from inR_iff.2 hv] at CV
      cases hb : atT seen i
      · rw [hb] at q4
        have hst := un_set (S := seen) (i := i) (by rw [E.len]; exact hi) hb
        have e1 : dfsF C.RL C.n (f + 1) seen (i : Int) = dfsL C.RL C.n f (seen.set i true) (C.RL i) := dfs_hit hi hb
        have E1 := Lib.hid (E.set G i)
        have q5 := E1.out.bg
        have q6 := E1.out.bv
        obtain ⟨b, off, eA, q7⟩ := E1.out.row G hi
        have R1 : Hid (∀ seen W, EnvR C w0 seen W → ReadsV W (C.RA i) (C.RL i)) := fun seen W h => h.rd G hi
        have hfz := E.sb.frozenAt i
        have hll := G.ll i hi
        have he0 : dfsL C.RL C.n f (seen.set i true) ((C.RL i).take 0) = seen.set i true := rfl
        have HU : Hid (∀ k, unS (dfsL C.RL C.n f (seen.set i true) ((C.RL i).take k)) < f) := fun k => by
          have := dfsL_un C.RL C.n f (seen.set i true) ((C.RL i).take k) (by rw [List.length_set]; exact E.len)
          omega
        have HST := Lib.hid (fun k (h : k < (C.RL i).length) => dfsL_step (R := C.RL) (n := C.n) (f := f) (S := seen.set i true) h)
        have HALL : Hid (dfsL C.RL C.n f (seen.set i true) ((C.RL i).take (C.RL i).length) = dfsL C.RL C.n f (seen.set i true) (C.RL i)) := by show _ = _; rw [List.take_length]
        rw [eA] at CV q0 q5
        clear eA
        rw [e1]
        clear e1 hst hb hu hv E
        have E10 : Hid (EnvR C w0 (dfsL C.RL C.n f (seen.set i true) ((C.RL i).take 0)) (W.setCell ⟨C.S, i, none⟩ (.bool true))) := by show EnvR _ _ _ _; rw [he0]; exact E1.out
        generalize dfsL C.RL C.n f (seen.set i true) (C.RL i) = RES at *
        obtain ⟨St, hSt⟩ : ∃ St : Nat → List Bool, St = fun k => dfsL C.RL C.n f (seen.set i true) ((C.RL i).take k) := ⟨_, rfl⟩
        have hSk : ∀ k, dfsL C.RL C.n f (seen.set i true) ((C.RL i).take k) = St k := fun k => by rw [hSt]
        simp only [hSk] at HU HST HALL E10
        clear hSk hSt he0 E1
        generalize C.RA i = ra at *
        generalize C.RL i = rl at *
        generalize C.RK i = rk at *
        have hd1 : d < 4096 := by omega
        have ed : ((d : Int) == 4096) = false := by simp; omega
        go_enter Tryz.func84, Tryz.ntmps84
        go_wp2_with fail
        refine CV.out.mono ?_
        rintro e W1 ⟨rfl, rfl⟩
        go_wp2
        go_loopg [34] rl.length (fun gg q wr => ∃ k : Nat, gg = rl.length - k ∧ k ≤ rl.length ∧ q = .int .i64 k ∧ Hid (EnvR C w0 (St k) wr))
        case atStart => exact ⟨0, rfl, Nat.zero_le _, rfl, E10.out⟩
        case round =>
          obtain ⟨k, hgg, hk, rfl, EK⟩ := hrel
          by_cases hkl : k < rl.length
          · obtain ⟨b2, o2, rfl, h2⟩ := at_of_reads (R1.out _ _ EK.out) k hkl
            have hs := HST.out k hkl
            have hu := HU.out k
            have CC := CI.out (at0 rl k) _ _ EK.out hu
            rw [← hs] at CC
            replace CC := Lib.hid CC
            have p6 := EK.out.bv
            unfold RcC.fn at p6
            clear hs
            generalize at0 rl k = x at *
            go_wp2_with fail
            refine CC.out.mono ?_
            rintro e w3 ⟨⟨z, rfl⟩, E3⟩
            have E3 := Lib.hid E3
            go_wp2
            go_roundg (rl.length - (k + 1))
            case rel => exact ⟨k + 1, rfl, by omega, by go_num, E3.out⟩
            case measure => omega
          · obtain rfl : k = rl.length := by omega
            have EF : Hid (EnvR C w0 RES wr) := by
              show EnvR _ _ _ _
              rw [← HALL.out]
              exact EK.out
            go_wp2
            go_end0
            exact ⟨⟨_, rfl⟩, EF.out⟩
      · rw [hb] at q4
        rw [dfs_seen hb]
        clear hb hv
        go_enter Tryz.func84, Tryz.ntmps84
        go_wp2_with fail
        refine CV.out.mono ?_
        rintro e W1 ⟨rfl, rfl⟩
        go_wp2
        try simp only [Exit.inBlock, Exit.then]
        refine bodyPost_ret (results_none rfl _ _ _) rfl ?_
        exact ⟨⟨_, rfl⟩, HE.out⟩
    · rw [dfs_no hv]
      have hz : inR v C.n = false := by
        cases h : inR v C.n
        · rfl
        · exact absurd (inR_iff.1 h) hv
      rw [hz] at CV
      clear hv hz
      go_enter Tryz.func84, Tryz.ntmps84
      go_wp2_with fail
      refine CV.out.mono ?_
      rintro e W1 ⟨rfl, rfl⟩
      go_wp2
      try simp only [Exit.inBlock, Exit.then]
      refine bodyPost_ret (results_none rfl _ _ _) rfl ?_
      exact ⟨⟨_, rfl⟩, HE.out⟩
end Go.Proofs.YtlbcdnobpnllkaaGreat.Dg

namespace Go.Proofs.YtlbcdnobpnllkaaGreat.Dg
open Go.RowKit

/-- a graph in memory -/
structure GraphR (w : World) (gA : Option Addr) (n : Nat) (RA : Nat → Option Addr) (RL : Nat → List Int) (RK : Nat → Nat) : Prop where
  hn : n ≤ 4000
  row : ∀ i, i < n → ∃ b off, gA = some ⟨b, off, none⟩ ∧ b < w.heap.size ∧ w.cell? ⟨b, off + i, none⟩ = some (.slice (RA i) (RL i).length (RK i))
  rd : ∀ i, i < n → ReadsV w (RA i) (RL i)
  ll : ∀ i, i < n → (RL i).length ≤ 1000000
def reachL (RL : Nat → List Int) (n : Nat) (l : List Int) : List Bool := dfsL RL n (n + 1) (List.replicate n false) l
def ReadsT (w : World) (A : Option Addr) (zs : List Bool) : Prop := ∀ j, j < zs.length → ∃ b off, A = some ⟨b, off, none⟩ ∧ b < w.heap.size ∧ w.cell? ⟨b, off + j, none⟩ = some (.bool (atT zs j))
theorem own_mono {w : World} {base base' : Nat} {e : TypeId} {size n : Nat} {v : Value} {xs : List Value} (h : w.ownsRow base e size v n xs) (hb : base' ≤ base) : w.ownsRow base' e size v n xs :=
  ⟨h.1, h.2.imp id fun ⟨g, cap, cur, h1, h2, h3⟩ => ⟨g, cap, cur, h1, Nat.le_trans hb h2, h3⟩⟩
theorem infoT : (Tryz.prog.info? 4).map (fun i => (i.zero, i.size, i.bytes)) = some (some (.bool false), 1, 1) := by kernel_rfl
set_option maxHeartbeats 4000000 in
set_option maxRecDepth 100000 in
theorem reach_any (gA : Option Addr) (n gc : Nat) (RA : Nat → Option Addr) (RL : Nat → List Int) (RK : Nat → Nat) (fA : Option Addr) (l : List Int) (fc : Nat) (w : World) (GR : GraphR w gA n RA RL RK) (rf : ReadsV w fA l) (hl : l.length ≤ 1000000) :
    Calls Tryz.prog 42 #[.slice gA n gc, .slice fA l.length fc] w fun e w' => ∃ A c, e = .returned (.slice A n c) ∧ ReadsT w' A (reachL RL n l) ∧ (reachL RL n l).length = n ∧ Below w.heap.size w w' := by
  have hn := GR.hn
  have RF := Lib.hid rf
  clear rf
  obtain ⟨i0, hi, hz0, hz1, hz2⟩ := info_parts infoT
  have HI := Lib.hid hi
  have HZ0 := Lib.hid hz0
  have HZ1 := Lib.hid hz1
  have HZ2 := Lib.hid hz2
  clear hi hz0 hz1 hz2
  obtain ⟨w1, hw1⟩ : ∃ w1, w1 = w.alloc (.cells #[.slice gA n gc] 30) := ⟨_, rfl⟩
  have B1 : Hid (Below w.heap.size w w1) := by show Below _ _ _; rw [hw1]; exact (Below.refl _ _).alloc (Nat.le_refl _) _
  have hs1 : w1.heap.size = w.heap.size + 1 := by rw [hw1, World.size_alloc]
  have q0 : w1.cell? ⟨w.heap.size, 0, none⟩ = some (.slice gA n gc) := by rw [hw1]; simp
  have HW1 := Lib.hid hw1
  clear hw1
  go_enter Tryz.func42, Tryz.ntmps42
  go_wp2_with (at_make; rw [← HW1.out]; go_loud (refine wpList_make_full _ rfl _ _ 54 rfl w1.heap.size 4 i0 (.bool false) 1 Tryz.underlying54 HI.out HZ0.out HZ1.out .i64 .i64 _ _ n rfl rfl rfl rfl (by rw [HZ2.out]; omega) (by unfold maxLen; omega) (Nat.le_refl _) ?_); intro w2 hown2 hgrow2)
  have B12 : Below w1.heap.size w1 w2 := (Below.refl _ _).grown hgrow2 (Nat.le_refl _) (fun _ h => by cases h)
  have hs2 : w1.heap.size < w2.heap.size := (hown2.lt w1.heap.size rfl).2
  have hown2 : w2.ownsRow w1.heap.size 4 1 (.slice (some ⟨w1.heap.size, 0, none⟩) n n) n (madeCells #[.bool false] (n * 1)).toList := hown2
  rw [toList_madeCells_one, Nat.mul_one] at hown2
  obtain ⟨C, hC⟩ : ∃ C : RcC, C = ⟨n, gA, gc, w.heap.size, w.heap.size, w2.heap.size, w2.heap.size + 1, w2.heap.size + 1 + 1, w.heap.size + 1, RA, RL, RK⟩ := ⟨_, rfl⟩
  have G : GeoR C w := by
    rw [hC]
    exact ⟨rfl, by show w.heap.size ≠ w.heap.size + 1; omega, by show w2.heap.size ≠ w.heap.size + 1; omega, by show w2.heap.size + 1 ≠ w.heap.size + 1; omega, by show w2.heap.size + 1 + 1 ≠ w.heap.size + 1; omega, by show w.heap.size ≤ w.heap.size + 1; omega, GR.hn, GR.row, GR.rd, GR.ll⟩
  obtain ⟨w3, hw3⟩ : ∃ w3, w3 = ((w2.alloc (.cells #[.slice (some ⟨w.heap.size + 1, 0, none⟩) n n] 54)).alloc (.cells #[.slice none 0 0] 34)).alloc (.cells #[C.fn] 75) := ⟨_, rfl⟩
  have BW : Below w1.heap.size w1 w3 := by
    rw [hw3]
    exact ((B12.alloc B12.size _).alloc (by rw [World.size_alloc]; omega) _).alloc (by rw [World.size_alloc, World.size_alloc]; omega) _
  have E0 : Hid (EnvR C w (List.replicate n false) w3) := by
    show EnvR _ _ _ _
    refine ⟨?_, ?_, ?_, ?_, ?_, ?_, ?_⟩
    · rw [hC]; exact (BW.cell (p := ⟨w.heap.size, 0, none⟩) (by show w.heap.size < w1.heap.size; omega)).trans q0
    · rw [hw3, hC]; exact cellA (cellA (cell_new1 _ _ _) _) _
    · rw [hw3, hC]
      refine cellA ?_ _
      rw [← World.size_alloc w2 (.cells #[.slice (some ⟨w.heap.size + 1, 0, none⟩) n n] 54)]
      exact cell_new1 _ _ _
    · rw [hw3]
      have e : C.Bv = ((w2.alloc (.cells #[.slice (some ⟨w.heap.size + 1, 0, none⟩) n n] 54)).alloc (.cells #[.slice none 0 0] 34)).heap.size := by rw [hC, World.size_alloc, World.size_alloc]
      rw [e]
      exact cell_new1 _ _ _
    · rw [hw3, hC]
      refine World.ownsRow.alloc (World.ownsRow.alloc (World.ownsRow.alloc ?_ _) _) _
      rw [List.map_replicate, ← hs1]
      exact own_mono hown2 (by show w.heap.size ≤ w1.heap.size; omega)
    · rw [hC]; exact List.length_replicate
    · rw [hC]; exact B1.out.trans (BW.mono (by show w.heap.size ≤ w1.heap.size; omega))
  have CI : Hid (∀ x seen W, EnvR C w seen W → unS seen < n + 1 → Calls Tryz.prog 84 #[.int .i64 x, .int .i64 0, .pointer (some ⟨w.heap.size, 0, none⟩), .pointer (some ⟨w2.heap.size, 0, none⟩), .pointer (some ⟨w2.heap.size + 1, 0, none⟩), .pointer (some ⟨w2.heap.size + 1 + 1, 0, none⟩)] W fun e W' => (∃ z, e = .returned z) ∧ EnvR C w (dfsF RL n (n + 1) seen x) W') := fun x seen W h1 h2 => by
    have h := visit_any G (n + 1) x 0 seen W h1 h2 (by omega)
    rw [hC] at h ⊢
    exact h
  have HX : Hid (∀ seen W, EnvR C w seen W → W.cell? ⟨w2.heap.size, 0, none⟩ = some (.slice (some ⟨w.heap.size + 1, 0, none⟩) n n) ∧ W.cell? ⟨w2.heap.size + 1, 0, none⟩ = some (.slice none 0 0) ∧ W.cell? ⟨w2.heap.size + 1 + 1, 0, none⟩ = some (.func (.func 84) #[] #[.pointer (some ⟨w.heap.size, 0, none⟩), .pointer (some ⟨w2.heap.size, 0, none⟩), .pointer (some ⟨w2.heap.size + 1, 0, none⟩), .pointer (some ⟨w2.heap.size + 1 + 1, 0, none⟩)]) ∧ Below w.heap.size w W ∧ (∀ i, i < n → W.cell? ⟨w.heap.size + 1, i, none⟩ = some (.bool (atT seen i))) ∧ w.heap.size + 1 < W.heap.size ∧ seen.length = n) := fun seen W h => by
    have h5 := fun i (hi : i < C.n) => h.at hi
    have h6 := (h.sb.lt C.S rfl).2
    have h1 := h.bs
    have h2 := h.bl
    have h3 := h.bv
    have h4 := h.bw
    have h7 := h.len
    unfold RcC.fn at h3
    rw [hC] at h1 h2 h3 h4 h5 h6 h7
    exact ⟨h1, h2, h3, h4, h5, h6, h7⟩
  have HU : Hid (∀ k, unS (dfsL RL n (n + 1) (List.replicate n false) (l.take k)) < n + 1) := fun k => by
    have := dfsL_un RL n (n + 1) (List.replicate n false) (l.take k) List.length_replicate
    have h2 : unS (List.replicate n false) = n := List.count_replicate_self
    omega
  have HST := Lib.hid (fun k (h : k < l.length) => dfsL_step (R := RL) (n := n) (f := n + 1) (S := List.replicate n false) h)
  have HALL : Hid (dfsL RL n (n + 1) (List.replicate n false) (l.take l.length) = reachL RL n l) := by show _ = _; rw [List.take_length]; rfl
  have HW3 : Hid (((w2.alloc (.cells #[.slice (some ⟨w.heap.size + 1, 0, none⟩) n n] 54)).alloc (.cells #[.slice none 0 0] 34)).alloc (.cells #[.func (.func 84) #[] #[.pointer (some ⟨w.heap.size, 0, none⟩), .pointer (some ⟨w2.heap.size, 0, none⟩), .pointer (some ⟨w2.heap.size + 1, 0, none⟩), .pointer (some ⟨w2.heap.size + 1 + 1, 0, none⟩)]] 75) = w3) := by
    show _ = _
    rw [hw3, hC]
    rfl
  have E00 : Hid (EnvR C w (dfsL RL n (n + 1) (List.replicate n false) (l.take 0)) w3) := E0
  rw [HW3.out]
  clear hC hw3 HW3 B12 hown2 hgrow2 G BW E0 q0 HW1 B1 HI HZ0 HZ1 HZ2 GR
  obtain ⟨St, hSt⟩ : ∃ St : Nat → List Bool, St = fun k => dfsL RL n (n + 1) (List.replicate n false) (l.take k) := ⟨_, rfl⟩
  have hSk : ∀ k, dfsL RL n (n + 1) (List.replicate n false) (l.take k) = St k := fun k => by rw [hSt]
  simp only [hSk] at HU HST HALL E00
  clear hSk hSt
  go_loopg [17] l.length (fun gg q wr => ∃ k : Nat, gg = l.length - k ∧ k ≤ l.length ∧ q = .int .i64 k ∧ Hid (EnvR C w (St k) wr))
  case atStart => exact ⟨0, rfl, Nat.zero_le _, rfl, E00.out⟩
  case round =>
    obtain ⟨k, hgg, hk, rfl, EK⟩ := hrel
    obtain ⟨p1, p2, p3, BK, -, -, -⟩ := HX.out _ _ EK.out
    by_cases hkl : k < l.length
    · obtain ⟨b2, o2, rfl, h2⟩ := at_of_reads (RF.out.below BK (Nat.le_refl _)) k hkl
      have hs := HST.out k hkl
      have CC := CI.out (at0 l k) _ _ EK.out (HU.out k)
      rw [← hs] at CC
      replace CC := Lib.hid CC
      clear hs BK
      generalize at0 l k = x at *
      go_wp2_with fail
      refine CC.out.mono ?_
      rintro e w4 ⟨⟨z, rfl⟩, E3⟩
      have E3 := Lib.hid E3
      go_wp2
      go_roundg (l.length - (k + 1))
      case rel => exact ⟨k + 1, rfl, by omega, by go_num, E3.out⟩
      case measure => omega
    · obtain rfl : k = l.length := by omega
      have EF := EK.out
      rw [HALL.out] at EF
      obtain ⟨-, -, -, BF, AT, LT, LN⟩ := HX.out _ _ EF
      have FIN : Hid (ReadsT wr (some ⟨w.heap.size + 1, 0, none⟩) (reachL RL n l) ∧ (reachL RL n l).length = n ∧ Below w.heap.size w wr) := ⟨fun j hj => ⟨_, _, rfl, LT, by rw [Nat.zero_add]; exact AT j (by omega)⟩, LN, BF⟩
      clear EF BF AT LT LN BK
      go_wp2
      refine wp_loop_rounds 1 ?_
      rw [rounds_succ]
      go_wp2
      go_ret
      exact ⟨_, _, rfl, FIN.out.1, FIN.out.2.1, FIN.out.2.2⟩
end Go.Proofs.YtlbcdnobpnllkaaGreat.Dg

namespace Go.Proofs.YtlbcdnobpnllkaaGreat.Dg
open Go.RowKit Go.Deep

/-- block T holds N slices; row e was grown since B and has the cells X e -/
def GrowT (w : World) (T B N : Nat) (st te : TypeId) (sz : Nat) (ln : Nat → Nat) (X : Nat → List Value) (vs : Nat → Value) : Prop :=
  T < B ∧ B ≤ w.heap.size ∧ w.rowIs T st N vs ∧ (∀ e, e < N → w.ownsRow B te sz (vs e) (ln e) (X e)) ∧ ∀ e e', e < N → e' < N → e ≠ e' → (vs e).ownBlock = none ∨ (vs e).ownBlock ≠ (vs e').ownBlock
theorem own_ge {w : World} {B : Nat} {te : TypeId} {sz : Nat} {v : Value} {n : Nat} {xs : List Value} (h : w.ownsRow B te sz v n xs) : v.ownBlock = none ∨ ∃ g, v.ownBlock = some g ∧ B ≤ g ∧ g < w.heap.size := by
  rcases h.2 with ⟨e, _⟩ | ⟨g, cap, cur, e, h1, h2, _⟩
  · exact .inl (by rw [e]; rfl)
  · exact .inr ⟨g, by rw [e]; rfl, h1, (Array.getElem?_eq_some_iff.1 h2).1⟩
theorem own_block {w w' : World} {B : Nat} {te : TypeId} {sz : Nat} {v : Value} {n : Nat} {xs : List Value} (h : w.ownsRow B te sz v n xs) (hb : ∀ g, v.ownBlock = some g → w'.heap[g]? = w.heap[g]?) : w'.ownsRow B te sz v n xs := by
  refine ⟨h.1, ?_⟩
  rcases h.2 with h0 | ⟨g, cap, cur, e, h1, h2, h3⟩
  · exact .inl h0
  · exact .inr ⟨g, cap, cur, e, h1, by rw [hb g (by rw [e]; rfl)]; exact h2, h3⟩
theorem GrowT.below {w w' : World} {T B N : Nat} {st te : TypeId} {sz : Nat} {ln : Nat → Nat} {X : Nat → List Value} {vs : Nat → Value} (h : GrowT w T B N st te sz ln X vs) (hb : Below w.heap.size w w') : GrowT w' T B N st te sz ln X vs := by
  obtain ⟨h1, h2, h3, h4, h5⟩ := h
  refine ⟨h1, Nat.le_trans h2 hb.size, h3.of_block (hb.block _ h3.lt), fun e he => own_block (h4 e he) fun g hg => ?_, h5⟩
  rcases own_ge (h4 e he) with e0 | ⟨g', e1, _, h7⟩
  · rw [e0] at hg; cases hg
  · rw [e1] at hg
    injection hg with hg
    subst hg
    exact hb.block _ h7
theorem GrowT.drew {w : World} {T B N : Nat} {st te : TypeId} {sz : Nat} {ln : Nat → Nat} {X : Nat → List Value} {vs : Nat → Value} (h : GrowT w T B N st te sz ln X vs) : GrowT w.drew T B N st te sz ln X vs := h
theorem GrowT.step {w w' : World} {T B N e : Nat} {st te : TypeId} {sz : Nat} {ln : Nat → Nat} {X : Nat → List Value} {vs : Nat → Value} {v' : Value} {news : List Value} {k : Nat} (h : GrowT w T B N st te sz ln X vs) (he : e < N)
    (ho : w'.ownsRow B te sz v' (ln e + k) (X e ++ news)) (hg : w.grownBy w' (vs e).ownBlock) (hv : v'.ownBlock = (vs e).ownBlock ∨ v'.ownBlock = some w.heap.size) :
    GrowT (w'.setCell ⟨T, e, none⟩ v') T B N st te sz (fun i => if i = e then ln e + k else ln i) (fun i => if i = e then X e ++ news else X i) (fun i => if i = e then v' else vs i) := by
  obtain ⟨h1, h2, h3, h4, h5⟩ := h
  have hT : some T ≠ (vs e).ownBlock := fun c => by
    rcases own_ge (h4 e he) with e0 | ⟨g, e1, h6, _⟩
    · rw [e0] at c; cases c
    · rw [e1] at c
      injection c with c
      omega
  have hs : w.heap.size ≤ w'.heap.size := hg.size
  have hset : ∀ g, g ≠ T → (w'.setCell ⟨T, e, none⟩ v').heap[g]? = w'.heap[g]? := fun g hgt => blk_setCell_other _ _ _ _ hgt
  refine ⟨h1, by rw [nblk_setCell]; omega, ?_, fun i hi => ?_, fun i i' hi hi' hne => ?_⟩
  · have h3' : w'.rowIs T st N vs := h3.of_block (hg.block T h3.lt hT)
    exact (h3'.set e v').congr fun i _ => rfl
  · dsimp only
    by_cases hie : i = e
    · subst hie
      rw [if_pos rfl, if_pos rfl, if_pos rfl]
      refine own_block ho fun g hgv => hset g fun c => ?_
      rcases own_ge ho with e0 | ⟨g', e1, h6, _⟩
      · rw [e0] at hgv; cases hgv
      · rw [e1] at hgv
        injection hgv with hgv
        omega
    · rw [if_neg hie, if_neg hie, if_neg hie]
      refine own_block (h4 i hi) fun g hgv => ?_
      rcases own_ge (h4 i hi) with e0 | ⟨g', e1, h6, h7⟩
      · rw [e0] at hgv; cases hgv
      · have hgv2 := hgv
        rw [e1] at hgv2
        injection hgv2 with hgv2
        subst hgv2
        rw [hset g' (by omega)]
        refine hg.block g' h7 fun c => ?_
        rcases h5 i e hi he hie with e2 | e2
        · rw [e1] at e2; cases e2
        · exact e2 (by rw [hgv, c])
  · have fresh : ∀ j, j < N → (vs j).ownBlock ≠ some w.heap.size := fun j hj c => by
      rcases own_ge (h4 j hj) with e0 | ⟨g', e1, _, h7⟩
      · rw [e0] at c; cases c
      · rw [e1] at c
        injection c with c
        omega
    dsimp only
    by_cases hie : i = e
    · subst hie
      have hi'e : i' ≠ i := fun c => hne c.symm
      rw [if_pos rfl, if_neg hi'e]
      rcases hv with e0 | e0
      · rw [e0]; exact h5 i i' hi hi' hne
      · rw [e0]; exact .inr fun c => fresh i' hi' c.symm
    · rw [if_neg hie]
      by_cases hie' : i' = e
      · subst hie'
        rw [if_pos rfl]
        rcases hv with e0 | e0
        · rw [e0]; exact h5 i i' hi hi' hne
        · rw [e0]; exact .inr (fresh i hi)
      · rw [if_neg hie']
        exact h5 i i' hi hi' hne
theorem GrowT.start {w : World} (N : Nat) (st te : TypeId) (sz : Nat) : GrowT (w.alloc (.cells (madeCells #[.slice none 0 0] N) st)) w.heap.size (w.heap.size + 1) N st te sz (fun _ => 0) (fun _ => []) (fun _ => .slice none 0 0) :=
  ⟨by omega, by rw [World.size_alloc]; exact Nat.le_refl _, World.rowIs_made w _ N st, fun _ _ => World.ownsRow_nil _ _ _ _, fun _ _ _ _ _ => .inl rfl⟩
theorem GrowT.congr {w : World} {T B N : Nat} {st te : TypeId} {sz : Nat} {ln ln' : Nat → Nat} {X X' : Nat → List Value} {vs : Nat → Value} (h : GrowT w T B N st te sz ln X vs) (hl : ∀ e, e < N → ln e = ln' e) (hX : ∀ e, e < N → X e = X' e) : GrowT w T B N st te sz ln' X' vs :=
  ⟨h.1, h.2.1, h.2.2.1, fun e he => by rw [← hl e he, ← hX e he]; exact h.2.2.2.1 e he, h.2.2.2.2⟩
/-- an append at one operation of a drawn region; where the new row lies -/
theorem oper_append_blk {P : Program} (w : World) {o : Oper} {a : Act} {K : Act → World → Prop} {Q : Exit → Act → World → Prop} (s x : Operand) (t : TypeId)
    (ho : o.op = .call { callee := .builtin .append, args := #[s, x], argTypes := #[t, t] })
    (base : Nat) (e : TypeId) (i : TypeInfo) (z : Value) (size bytes : Nat) (ht : P.underlying t = some (.slice e)) (hi : P.info? e = some i) (hz : i.zero = some z)
    (hsize : i.size = size) (hby : i.bytes = bytes) (hzs : z.cells.size = size) (hsz : 0 < size)
    (v : Value) (n : Nat) (xs : List Value) (hs : a.eval s = v) (hown : w.ownsRow base e size v n xs)
    (ad : Addr) (m c : Nat) (news : List Value) (hx : a.eval x = .slice (some ad) m c) (hl : news.length = m * size) (hnews : ∀ j u, news[j]? = some u → w.cell? (ad.add j) = some u) (h1 : ∀ u ∈ news, u.oneCell' = true)
    (h63 : n + m ≤ maxLen) (hbytes : (n + m) * bytes ≤ 140737488355328) (hbase : base ≤ w.heap.size)
    (h : ∀ v' w', w'.ownsRow base e size v' (n + m) (xs ++ news) → w.grownBy w' v.ownBlock → (v'.ownBlock = v.ownBlock ∨ v'.ownBlock = some w.heap.size) → K (a.put o.dst v') w') : Oper.wp P o a w K Q := by
  obtain ⟨v', w', hr, h2, h3, _, h5⟩ := run_append_own_at (P := P) w base t o.type e i z size bytes ht hi hz hsize hby hzs hsz v n xs hown ad m c news hl hnews h1 h63 hbytes hbase
  unfold Oper.wp execOp
  simp only [ho, resolve, invoke, builtin, Sem.run_bind, Sem.run_pure, Result.andThen_ok, List.map_toArray, List.map_cons, List.map_nil, hs, hx, hr]
  exact h v' w' h2 h3 h5
end Go.Proofs.YtlbcdnobpnllkaaGreat.Dg

namespace Go.Proofs.YtlbcdnobpnllkaaGreat.Dg
open Go.RowKit Go.Deep

theorem infoSl : (Tryz.prog.info? 34).map (fun i => (i.zero, i.size, i.bytes)) = some (some (.slice none 0 0), 1, 24) := by kernel_rfl
theorem run_make_rows (n : Nat) (hn : n ≤ 100000) (w : World) : (Instr.makeSlice 30 (.int .i64 (n : Int)) (.int .i64 (n : Int))).run Tryz.prog w = .ok (.slice (some ⟨w.heap.size, 0, none⟩) n n) (w.alloc (.cells (madeCells #[.slice none 0 0] n) 34)) := by
  obtain ⟨i, hi, hzz⟩ := Option.map_eq_some_iff.1 infoSl
  simp only [Prod.mk.injEq] at hzz
  obtain ⟨hz, hs, hb⟩ := hzz
  have hr := run_make (P := Tryz.prog) w 30 34 i _ Tryz.underlying30 hi hz .i64 .i64 n n (by omega) (Int.le_refl _) (by rw [hb]; omega) (by omega)
  simp only [Int.toNat_natCast, hs, Nat.mul_one] at hr
  exact hr
/-- one number is appended to a row -/
theorem oper_int {o : Oper} {a : Act} {w : World} {K : Act → World → Prop} {Q : Exit → Act → World → Prop} (s x : Operand)
    (ho : o.op = .call { callee := .builtin .append, args := #[s, x], argTypes := #[34, 34] })
    (base : Nat) (v : Value) (l : List Int) (d : Int) (hs : a.eval s = v) (hO : w.ownsRow base 3 1 v l.length (vI l)) (g : Nat) (hx : a.eval x = .slice (some ⟨g, 0, none⟩) 1 1)
    (h0 : w.cell? ⟨g, 0, none⟩ = some (.int .i64 d)) (hl : l.length ≤ 100000) (hbase : base ≤ w.heap.size)
    (h : ∀ v' w', w'.ownsRow base 3 1 v' (l.length + 1) (vI l ++ [.int .i64 d]) → w.grownBy w' v.ownBlock → (v'.ownBlock = v.ownBlock ∨ v'.ownBlock = some w.heap.size) → K (a.put o.dst v') w') : Oper.wp Tryz.prog o a w K Q := by
  obtain ⟨i, hi, hz, e1, e2⟩ := info_parts infoI
  refine oper_append_blk w s x 34 ho base 3 i _ 1 8 Tryz.underlying34 hi hz e1 e2 rfl (by decide) v l.length (vI l) hs hO ⟨g, 0, none⟩ 1 1 [.int .i64 d] hx rfl ?_ ?_ (by unfold maxLen; omega) (by omega) hbase h
  · intro j u hj
    match j, hj with
    | 0, hj => simp at hj; subst hj; simpa [Addr.add] using h0
    | j + 1, hj => simp at hj
  · intro u hu
    simp at hu
    subst hu
    rfl
def addrOf : Value → Option Addr
  | .slice A _ _ => A
  | _ => none
def capOf : Value → Nat
  | .slice _ _ c => c
  | _ => 0
theorem graph_of {w : World} {T B N : Nat} {L : Nat → List Int} {vs : Nat → Value} (h : GrowT w T B N 34 3 1 (fun e => (L e).length) (fun e => vI (L e)) vs) (hn : N ≤ 200) (hl : ∀ e, (L e).length ≤ 400) : GraphR w (some ⟨T, 0, none⟩) N (fun e => addrOf (vs e)) L (fun e => capOf (vs e)) where
  hn := by omega
  row := fun e he => by
    obtain ⟨A, c, e1, h1⟩ := ReadsV.own (h.2.2.2.1 e he)
    refine ⟨T, 0, rfl, h.2.2.1.lt, ?_⟩
    rw [Nat.zero_add, h.2.2.1.cell he]
    rw [e1]
    rfl
  rd := fun e he => by
    obtain ⟨A, c, e1, h1⟩ := ReadsV.own (h.2.2.2.1 e he)
    rw [e1]
    exact h1
  ll := fun e _ => Nat.le_trans (hl e) (by decide)
theorem GraphR.below {w w' : World} {gA : Option Addr} {n : Nat} {RA : Nat → Option Addr} {RL : Nat → List Int} {RK : Nat → Nat} (h : GraphR w gA n RA RL RK) (hb : Below w.heap.size w w') : GraphR w' gA n RA RL RK where
  hn := h.hn
  row := fun i hi => by
    obtain ⟨b, off, e, h1, h2⟩ := h.row i hi
    exact ⟨b, off, e, Nat.lt_of_lt_of_le h1 hb.size, (hb.cell (p := ⟨b, off + i, none⟩) h1).trans h2⟩
  rd := fun i hi => (h.rd i hi).below hb (Nat.le_refl _)
  ll := h.ll
end Go.Proofs.YtlbcdnobpnllkaaGreat.Dg

namespace Go.Proofs.YtlbcdnobpnllkaaGreat.Dg
open Go.RowKit

def EdgeR (R : Nat → List Int) (n : Nat) (u v : Nat) : Prop := u < n ∧ v < n ∧ (v : Int) ∈ R u
def PathR (R : Nat → List Int) (n : Nat) : Nat → Nat → Prop := Relation.TransGen (EdgeR R n)
def vtx (n : Nat) (x : Int) (i : Nat) : Prop := 0 ≤ x ∧ x < n ∧ x.toNat = i
theorem path_head {R : Nat → List Int} {n : Nat} {u v w : Nat} (h : EdgeR R n u v) (h2 : PathR R n v w) : PathR R n u w :=
  Relation.TransGen.trans (Relation.TransGen.single h) h2
theorem at_set_self {S : List Bool} {i : Nat} (h : i < S.length) : atT (S.set i true) i = true := by
  unfold atT
  rw [List.getElem?_set_self h]
  rfl
theorem at_set_ne {S : List Bool} {i j : Nat} (h : i ≠ j) : atT (S.set i true) j = atT S j := by
  unfold atT
  rw [List.getElem?_set_ne h]
theorem at_set_mono {S : List Bool} {i j : Nat} (h : atT S j = true) : atT (S.set i true) j = true := by
  by_cases e : i = j
  · subst e
    by_cases hl : i < S.length
    · exact at_set_self hl
    · rw [List.set_eq_of_length_le (by omega)]; exact h
  · rw [at_set_ne e]; exact h
/- what is found can be reached -/
def From (R : Nat → List Int) (n : Nat) (x : Int) (i : Nat) : Prop := 0 ≤ x ∧ x < n ∧ (x.toNat = i ∨ PathR R n x.toNat i)
theorem fold_sound {R : Nat → List Int} {n f : Nat} (h : ∀ (S : List Bool) (v : Int) (i : Nat), S.length = n → i < n → atT (dfsF R n f S v) i = true → atT S i = true ∨ From R n v i) :
    ∀ (l : List Int) (S : List Bool) (i : Nat), S.length = n → i < n → atT (dfsL R n f S l) i = true → atT S i = true ∨ ∃ x, x ∈ l ∧ From R n x i
  | [], S, i, _, _, hy => Or.inl hy
  | x :: l, S, i, hS, hi, hy => by
    have hy : atT (dfsL R n f (dfsF R n f S x) l) i = true := hy
    rcases fold_sound h l _ i (by rw [dfs_len]; exact hS) hi hy with h1 | ⟨y, h1, h2⟩
    · rcases h S x i hS hi h1 with h2 | h2
      · exact Or.inl h2
      · exact Or.inr ⟨x, List.mem_cons_self, h2⟩
    · exact Or.inr ⟨y, List.mem_cons_of_mem _ h1, h2⟩
theorem dfs_sound (R : Nat → List Int) (n : Nat) : ∀ (f : Nat) (S : List Bool) (v : Int) (i : Nat), S.length = n → i < n → atT (dfsF R n f S v) i = true → atT S i = true ∨ From R n v i
  | 0, S, v, i, _, _, hy => Or.inl hy
  | f + 1, S, v, i, hS, hi, hy => by
    rw [dfsF] at hy
    split at hy
    · rename_i hv
      obtain ⟨h0, h1, h2⟩ := hv
      rcases fold_sound (dfs_sound R n f) (R v.toNat) (S.set v.toNat true) i (by rw [List.length_set]; exact hS) hi hy with h3 | ⟨x, h3, h4, h5, h6⟩
      · by_cases e : v.toNat = i
        · exact Or.inr ⟨h0, h1, Or.inl e⟩
        · rw [at_set_ne e] at h3
          exact Or.inl h3
      · have hE : EdgeR R n v.toNat x.toNat := ⟨by omega, by omega, by rw [show ((x.toNat : Nat) : Int) = x from by omega]; exact h3⟩
        rcases h6 with h6 | h6
        · rw [h6] at hE
          exact Or.inr ⟨h0, h1, Or.inr (Relation.TransGen.single hE)⟩
        · exact Or.inr ⟨h0, h1, Or.inr (path_head hE h6)⟩
    · exact Or.inl hy
/- what can be reached is found -/
def FullR (R : Nat → List Int) (n : Nat) (S S' : List Bool) : Prop := (∀ i, atT S i = true → atT S' i = true) ∧ ∀ u, u < n → atT S' u = true → atT S u = false → ∀ w, EdgeR R n u w → atT S' w = true
theorem fold_full {R : Nat → List Int} {n f : Nat} (h : ∀ (S : List Bool) (v : Int), S.length = n → unS S < f → FullR R n S (dfsF R n f S v) ∧ (0 ≤ v → v < n → atT (dfsF R n f S v) v.toNat = true)) :
    ∀ (l : List Int) (S : List Bool), S.length = n → unS S < f → FullR R n S (dfsL R n f S l) ∧ ∀ x, x ∈ l → 0 ≤ x → x < n → atT (dfsL R n f S l) x.toNat = true
  | [], S, _, _ => ⟨⟨fun _ h => h, fun u _ h1 h2 => by rw [show dfsL R n f S [] = S from rfl, h2] at h1; cases h1⟩, fun x hx => absurd hx (by simp)⟩
  | x :: l, S, hS, hu => by
    have e : dfsL R n f S (x :: l) = dfsL R n f (dfsF R n f S x) l := rfl
    rw [e]
    obtain ⟨⟨a1, a2⟩, a3⟩ := h S x hS hu
    obtain ⟨⟨b1, b2⟩, b3⟩ := fold_full h l (dfsF R n f S x) (by rw [dfs_len]; exact hS) (by have := dfs_un R n f S hS x; omega)
    refine ⟨⟨fun i hi => b1 i (a1 i hi), fun u hu1 h1 h2 w hw => ?_⟩, fun y hy h0 h1 => ?_⟩
    · by_cases h3 : atT (dfsF R n f S x) u = true
      · exact b1 w (a2 u hu1 h3 h2 w hw)
      · exact b2 u hu1 h1 (by simpa using h3) w hw
    · rcases List.mem_cons.1 hy with rfl | hy
      · exact b1 _ (a3 h0 h1)
      · exact b3 y hy h0 h1
theorem dfs_full (R : Nat → List Int) (n : Nat) : ∀ (f : Nat) (S : List Bool) (v : Int), S.length = n → unS S < f → FullR R n S (dfsF R n f S v) ∧ (0 ≤ v → v < n → atT (dfsF R n f S v) v.toNat = true)
  | 0, _, _, _, h => absurd h (by omega)
  | f + 1, S, v, hS, hu => by
    rw [dfsF]
    split
    · rename_i hv
      obtain ⟨h0, h1, h2⟩ := hv
      have h3 := un_set (S := S) (i := v.toNat) (by omega) h2
      obtain ⟨⟨b1, b2⟩, b3⟩ := fold_full (R := R) (n := n) (f := f) (dfs_full R n f) (R v.toNat) (S.set v.toNat true) (by rw [List.length_set]; exact hS) (by omega)
      have b4 := b1 v.toNat (at_set_self (by omega))
      refine ⟨⟨fun i hi => b1 i (at_set_mono hi), fun u hu1 h4 h5 w hw => ?_⟩, fun _ _ => b4⟩
      by_cases e : v.toNat = u
      · subst e
        have h6 := b3 (w : Int) hw.2.2 (by omega) (by have := hw.2.1; omega)
        exact h6
      · exact b2 u hu1 h4 (by rw [at_set_ne e]; exact h5) w hw
    · rename_i hv
      refine ⟨⟨fun _ h => h, fun u _ h1 h2 => by rw [h2] at h1; cases h1⟩, fun h0 h1 => ?_⟩
      cases e : atT S v.toNat
      · exact absurd ⟨h0, h1, e⟩ hv
      · rfl
theorem un_rep (n : Nat) : unS (List.replicate n false) = n := by unfold unS; simp
theorem at_rep {n i : Nat} (h : i < n) : atT (List.replicate n false) i = false := by
  unfold atT
  rw [List.getElem?_replicate, if_pos h]
  rfl
theorem reach_iff {R : Nat → List Int} {n : Nat} {l : List Int} {i : Nat} (hi : i < n) : atT (dfsL R n (n + 1) (List.replicate n false) l) i = true ↔ ∃ x, x ∈ l ∧ From R n x i := by
  constructor
  · intro h
    rcases fold_sound (dfs_sound R n (n + 1)) l _ i (by simp) hi h with h1 | h1
    · rw [at_rep hi] at h1; cases h1
    · exact h1
  · rintro ⟨x, hx, h0, h1, h2⟩
    obtain ⟨⟨_, b2⟩, b3⟩ := fold_full (R := R) (n := n) (f := n + 1) (dfs_full R n (n + 1)) l (List.replicate n false) (by simp) (by rw [un_rep]; omega)
    have h3 := b3 x hx h0 h1
    rcases h2 with h2 | h2
    · rw [h2] at h3; exact h3
    · clear hx
      have key : ∀ j, PathR R n x.toNat j → atT (dfsL R n (n + 1) (List.replicate n false) l) j = true := by
        intro j hj
        induction hj with
        | single h => exact b2 _ h.1 h3 (at_rep h.1) _ h
        | tail _ h ih => exact b2 _ h.1 ih (at_rep h.1) _ h
      exact key i h2
/- the closure of a table -/
def stW (T : Nat → Nat → Bool) (k u v : Nat) : Bool := T u v || (T u k && T k v)
def warN (T : Nat → Nat → Bool) : Nat → Nat → Nat → Bool
  | 0 => T
  | k + 1 => stW (warN T k) k
def tabB (R : Nat → List Int) (u v : Nat) : Bool := (R u).contains (v : Int)
theorem war_mono {T : Nat → Nat → Bool} {u v : Nat} (h : T u v = true) : ∀ k, warN T k u v = true
  | 0 => h
  | k + 1 => by
    show stW (warN T k) k u v = true
    unfold stW
    rw [war_mono h k]; rfl
theorem war_trans (T : Nat → Nat → Bool) : ∀ (k m : Nat), m < k → ∀ u v, warN T k u m = true → warN T k m v = true → warN T k u v = true
  | 0, m, hm, _, _, _, _ => absurd hm (by omega)
  | k + 1, m, hm, u, v, h1, h2 => by
    have IH := war_trans T k
    have h1 : stW (warN T k) k u m = true := h1
    have h2 : stW (warN T k) k m v = true := h2
    show stW (warN T k) k u v = true
    unfold stW at *
    rw [Bool.or_eq_true, Bool.and_eq_true] at *
    by_cases e : m = k
    · subst e
      exact Or.inr ⟨h1.elim id (fun h => h.1), h2.elim id (fun h => h.2)⟩
    · have hm : m < k := by omega
      rcases h1 with h1 | ⟨h1, h3⟩
      · rcases h2 with h2 | ⟨h2, h4⟩
        · exact Or.inl (IH m hm u v h1 h2)
        · exact Or.inr ⟨IH m hm u k h1 h2, h4⟩
      · rcases h2 with h2 | ⟨h2, h4⟩
        · exact Or.inr ⟨h1, IH m hm k v h3 h2⟩
        · exact Or.inr ⟨h1, h4⟩
theorem war_sound {R : Nat → List Int} {n : Nat} : ∀ (k : Nat), k ≤ n → ∀ u v, u < n → v < n → warN (tabB R) k u v = true → PathR R n u v
  | 0, _, u, v, hu, hv, h => Relation.TransGen.single ⟨hu, hv, by
      have h : (R u).contains (v : Int) = true := h
      simpa using h⟩
  | k + 1, hk, u, v, hu, hv, h => by
    have IH := war_sound (R := R) (n := n) k (by omega)
    have h : stW (warN (tabB R) k) k u v = true := h
    unfold stW at h
    rw [Bool.or_eq_true, Bool.and_eq_true] at h
    rcases h with h | ⟨h1, h2⟩
    · exact IH u v hu hv h
    · exact Relation.TransGen.trans (IH u k hu (by omega) h1) (IH k v (by omega) hv h2)
theorem war_iff {R : Nat → List Int} {n u v : Nat} (hu : u < n) (hv : v < n) : warN (tabB R) n u v = true ↔ PathR R n u v := by
  constructor
  · exact war_sound n (Nat.le_refl _) u v hu hv
  · intro h
    have key : ∀ j, PathR R n u j → j < n ∧ warN (tabB R) n u j = true := by
      intro j hj
      have one : ∀ a b, EdgeR R n a b → warN (tabB R) n a b = true := fun a b h => war_mono (by unfold tabB; simpa using h.2.2) n
      induction hj with
      | single h => exact ⟨h.2.1, one _ _ h⟩
      | tail _ h ih => exact ⟨h.2.1, war_trans (tabB R) n _ ih.1 _ _ ih.2 (one _ _ h)⟩
    exact (key v h).2
/-- what the reference marks: the element itself and what the closure says -/
def refB (R : Nat → List Int) (n : Nat) (l : List Int) (i : Nat) : Bool := l.any fun x => (decide (0 ≤ x) && decide (x < n)) && (decide (x.toNat = i) || warN (tabB R) n x.toNat i)
theorem refB_iff {R : Nat → List Int} {n : Nat} {l : List Int} {i : Nat} (hi : i < n) : refB R n l i = true ↔ ∃ x, x ∈ l ∧ From R n x i := by
  unfold refB From
  rw [List.any_eq_true]
  constructor
  · rintro ⟨x, hx, h⟩
    rw [Bool.and_eq_true, Bool.and_eq_true, Bool.or_eq_true, decide_eq_true_eq, decide_eq_true_eq, decide_eq_true_eq] at h
    obtain ⟨⟨h0, h1⟩, h2⟩ := h
    exact ⟨x, hx, h0, h1, h2.imp id fun h => (war_iff (by omega) hi).1 h⟩
  · rintro ⟨x, hx, h0, h1, h2⟩
    refine ⟨x, hx, ?_⟩
    rw [Bool.and_eq_true, Bool.and_eq_true, Bool.or_eq_true, decide_eq_true_eq, decide_eq_true_eq, decide_eq_true_eq]
    exact ⟨⟨h0, h1⟩, h2.imp id fun h => (war_iff (by omega) hi).2 h⟩
theorem reach_eq {R : Nat → List Int} {n : Nat} {l : List Int} {i : Nat} (hi : i < n) : atT (dfsL R n (n + 1) (List.replicate n false) l) i = refB R n l i := by
  have h := (reach_iff (R := R) (l := l) hi).trans (refB_iff (R := R) (l := l) hi).symm
  cases h1 : atT (dfsL R n (n + 1) (List.replicate n false) l) i <;> cases h2 : refB R n l i
  · rfl
  · exact (h1.symm.trans (h.2 h2)).symm ▸ rfl
  · exact (h2.symm.trans (h.1 h1)).symm ▸ rfl
  · rfl
theorem refB_nil (R : Nat → List Int) (n i : Nat) : refB R n [] i = false := rfl
theorem refB_snoc (R : Nat → List Int) (n : Nat) (l : List Int) (x : Int) (i : Nat) : refB R n (l ++ [x]) i = (refB R n l i || ((decide (0 ≤ x) && decide (x < n)) && (decide (x.toNat = i) || warN (tabB R) n x.toNat i))) := by
  unfold refB
  rw [List.any_append]
  simp
end Go.Proofs.YtlbcdnobpnllkaaGreat.Dg

namespace Go.Proofs.YtlbcdnobpnllkaaGreat.Dg
open Go.RowKit Go.Deep

theorem infoSb : (Tryz.prog.info? 54).map (fun i => (i.zero, i.size, i.bytes)) = some (some (.slice none 0 0), 1, 24) := by kernel_rfl
theorem run_make_bools (n : Nat) (hn : n ≤ 100000) (w : World) : (Instr.makeSlice 54 (.int .i64 (n : Int)) (.int .i64 (n : Int))).run Tryz.prog w = .ok (.slice (some ⟨w.heap.size, 0, none⟩) n n) (w.alloc (.cells (madeCells #[.bool false] n) 4)) :=
  run_make_row' 54 4 (.bool false) 1 Tryz.underlying54 infoT rfl .i64 .i64 n (by omega) (by omega) w
/-- block b is a row of n truth values -/
def RowB (w : World) (b n : Nat) (f : Nat → Bool) : Prop := w.rowIs b 4 n (fun j => .bool (f j))
theorem RowB.made (w : World) (n : Nat) : RowB (w.alloc (.cells (madeCells #[.bool false] n) 4)) w.heap.size n (fun _ => false) := World.rowIs_made w (.bool false) n 4
theorem RowB.of_block {w w' : World} {b n : Nat} {f : Nat → Bool} (h : RowB w b n f) (e : w'.heap[b]? = w.heap[b]?) : RowB w' b n f := World.rowIs.of_block h e
theorem RowB.congr {w : World} {b n : Nat} {f g : Nat → Bool} (h : RowB w b n f) (e : ∀ j, j < n → f j = g j) : RowB w b n g := World.rowIs.congr h fun j hj => by rw [e j hj]
theorem RowB.set {w : World} {b n : Nat} {f : Nat → Bool} (h : RowB w b n f) (j : Nat) (z : Bool) : RowB (w.setCell ⟨b, j, none⟩ (.bool z)) b n (fun i => if i = j then z else f i) :=
  World.rowIs.congr (World.rowIs.set h j (.bool z)) fun i _ => by dsimp only; split <;> rfl
theorem RowB.get {w : World} {b n : Nat} {f : Nat → Bool} (h : RowB w b n f) {j : Nat} (hj : j < n) : w.cell? ⟨b, j, none⟩ = some (.bool (f j)) := World.rowIs.cell h hj
def rowsV (ad : Nat → Nat) (n k : Nat) : List Value := (List.range k).map fun i => .slice (some ⟨ad i, 0, none⟩) n n
theorem rowsV_len (ad : Nat → Nat) (n k : Nat) : (rowsV ad n k).length = k := by unfold rowsV; simp
theorem rowsV_at {ad : Nat → Nat} {n k i : Nat} (h : i < k) : (rowsV ad n k)[i]? = some (.slice (some ⟨ad i, 0, none⟩) n n) := by unfold rowsV; simp [h]
theorem rowsV_snoc (ad : Nat → Nat) (n k r : Nat) : rowsV (fun i => if i = k then r else ad i) n (k + 1) = rowsV ad n k ++ [.slice (some ⟨r, 0, none⟩) n n] := by
  unfold rowsV
  rw [List.range_succ, List.map_append]
  congr 1
  · refine List.map_congr_left fun i hi => ?_
    have : i ≠ k := by have := List.mem_range.1 hi; omega
    simp [this]
  · simp
structure MatB (w : World) (base : Nat) (v : Value) (n k : Nat) (ad : Nat → Nat) (B : Nat → Nat → Bool) : Prop where
  own : w.ownsRow base 54 1 v k (rowsV ad n k)
  row : ∀ i, i < k → base ≤ ad i ∧ RowB w (ad i) n (B i)
  inj : ∀ i j, i < k → j < k → ad i = ad j → i = j
section
variable {w w' : World} {base n k : Nat} {v : Value} {ad : Nat → Nat} {B B' : Nat → Nat → Bool}
theorem MatB.nil (w : World) (base n : Nat) (ad : Nat → Nat) (B : Nat → Nat → Bool) : MatB w base (.slice none 0 0) n 0 ad B :=
  ⟨World.ownsRow_nil _ _ _ _, fun i hi => absurd hi (by omega), fun i _ hi => absurd hi (by omega)⟩
theorem MatB.off (h : MatB w base v n k ad B) {i : Nat} (hi : i < k) : v.ownBlock ≠ some (ad i) := by
  intro e
  rcases h.own.2 with ⟨e1, _⟩ | ⟨g, cap, cur, e1, _, hg, _⟩
  · rw [e1] at e; cases e
  · rw [e1] at e
    have e2 : g = ad i := by simpa [Value.ownBlock] using e
    subst e2
    obtain ⟨_, c, hc, _⟩ := h.row i hi
    rw [hg] at hc
    simp at hc
theorem MatB.block (h : MatB w base v n k ad B) (h1 : ∀ g, v.ownBlock = some g → w'.heap[g]? = w.heap[g]?) (h2 : ∀ i, i < k → w'.heap[ad i]? = w.heap[ad i]?) : MatB w' base v n k ad B :=
  ⟨own_block h.own h1, fun i hi => ⟨(h.row i hi).1, (h.row i hi).2.of_block (h2 i hi)⟩, h.inj⟩
theorem MatB.lt (h : MatB w base v n k ad B) {i : Nat} (hi : i < k) : ad i < w.heap.size := World.rowIs.lt (h.row i hi).2
theorem MatB.below (h : MatB w base v n k ad B) (hb : Below w.heap.size w w') : MatB w' base v n k ad B :=
  h.block (fun g e => hb.block g (h.own.lt g e).2) fun i hi => hb.block _ (h.lt hi)
theorem MatB.congr (h : MatB w base v n k ad B) (e : ∀ i j, i < k → j < n → B i j = B' i j) : MatB w base v n k ad B' :=
  ⟨h.own, fun i hi => ⟨(h.row i hi).1, (h.row i hi).2.congr fun j hj => e i j hi hj⟩, h.inj⟩
theorem MatB.cell (h : MatB w base v n k ad B) {i : Nat} (hi : i < k) : ∃ g c, v = .slice (some ⟨g, 0, none⟩) k c ∧ w.cell? ⟨g, i, none⟩ = some (.slice (some ⟨ad i, 0, none⟩) n n) := by
  have ho := h.own
  rcases ho.2 with ⟨_, h0⟩ | ⟨g, cap, cur, rfl, _⟩
  · omega
  · refine ⟨g, cap, rfl, ?_⟩
    rw [ho.cellAt i (by omega), rowsV_at hi]
theorem MatB.get (h : MatB w base v n k ad B) {i j : Nat} (hi : i < k) (hj : j < n) : w.cell? ⟨ad i, j, none⟩ = some (.bool (B i j)) := (h.row i hi).2.get hj
theorem MatB.frz (h : MatB w base v n k ad B) {i : Nat} (hi : i < k) (j : Nat) : w.frozen? ⟨ad i, j, none⟩ = false := World.rowIs.frozen (h.row i hi).2 j
theorem MatB.set (h : MatB w base v n k ad B) {u : Nat} (hu : u < k) (j : Nat) (z : Bool) : MatB (w.setCell ⟨ad u, j, none⟩ (.bool z)) base v n k ad (fun i i' => if i = u ∧ i' = j then z else B i i') := by
  refine ⟨own_block h.own fun g e => blk_setCell_other _ _ _ _ ?_, fun i hi => ⟨(h.row i hi).1, ?_⟩, h.inj⟩
  · intro e2
    exact h.off hu (by rw [e, e2])
  · by_cases e : i = u
    · subst e
      refine ((h.row i hi).2.set j z).congr fun i' _ => ?_
      by_cases e2 : i' = j
      · rw [if_pos e2, if_pos ⟨rfl, e2⟩]
      · rw [if_neg e2, if_neg fun h => e2 h.2]
    · refine ((h.row i hi).2.of_block (blk_setCell_other _ _ _ _ fun e2 => e (h.inj i u hi hu e2))).congr fun i' _ => ?_
      rw [if_neg fun h => e h.1]
theorem MatB.drew (h : MatB w base v n k ad B) : MatB w.drew base v n k ad B := ⟨h.own, h.row, h.inj⟩
theorem MatB.mono {base' : Nat} (h : MatB w base v n k ad B) (hb : base' ≤ base) : MatB w base' v n k ad B :=
  ⟨own_mono h.own hb, fun i hi => ⟨Nat.le_trans hb (h.row i hi).1, (h.row i hi).2⟩, h.inj⟩
/-- a row is appended -/
theorem wpList_bmat {ops : Array Oper} {rest : List Oper} {o : Oper} {a : Act} {Q : Exit → Act → World → Prop} (hgd : o.guard = none) (s x : Operand)
    (ho : o.op = .call { callee := .builtin .append, args := #[s, x], argTypes := #[90, 90] })
    (f : Nat → Bool) (r : Nat) (hs : a.eval s = v) (hM : MatB w base v n k ad B) (hr : RowB w r n f) (hrb : base ≤ r) (hrn : ∀ i, i < k → ad i ≠ r) (g : Nat) (hx : a.eval x = .slice (some ⟨g, 0, none⟩) 1 1)
    (hc : w.cell? ⟨g, 0, none⟩ = some (.slice (some ⟨r, 0, none⟩) n n)) (hl : k ≤ 100000) (hbase : base ≤ w.heap.size)
    (h : ∀ v' w', MatB w' base v' n (k + 1) (fun i => if i = k then r else ad i) (fun i => if i = k then f else B i) → Below base w w' → wpList Tryz.prog ops Q rest (a.put o.dst v') w') : wpList Tryz.prog ops Q (o :: rest) a w := by
  obtain ⟨i, hi, hz, h1, h2⟩ := info_parts infoSb
  refine wpList_append_own _ hgd s x 90 ho base 54 i (.slice none 0 0) 1 24 Tryz.underlying90 hi hz h1 h2 rfl (by decide) v k (rowsV ad n k) hs hM.own ⟨g, 0, none⟩ 1 1 [.slice (some ⟨r, 0, none⟩) n n] hx rfl ?_ ?_ (by unfold maxLen; omega) (by omega) hbase ?_
  · intro j u hj
    cases j with
    | zero => simp at hj; subst hj; simpa [Addr.add] using hc
    | succ j => simp at hj
  · intro u hu
    simp at hu
    subst hu
    simp [Value.oneCell']
  · intro v' w' hown hgrow _
    have keep : ∀ q fq, RowB w q n fq → w'.heap[q]? = w.heap[q]? := fun q fq hq => by
      refine hgrow.block q (World.rowIs.lt hq) fun e => ?_
      rcases hM.own.2 with ⟨e1, _⟩ | ⟨g', cap, cur, e1, _, hg, _⟩
      · rw [e1] at e; cases e
      · rw [e1] at e
        have e2 : q = g' := by simpa [Value.ownBlock] using e
        subst e2
        obtain ⟨c, hc, _⟩ := hq
        rw [hg] at hc
        simp at hc
    refine h v' w' ⟨?_, fun j hj => ?_, fun p q hp hq e => ?_⟩ ((Below.refl base w).grown hgrow hbase fun q e => (hM.own.lt q e).1)
    · rw [rowsV_snoc]
      exact hown
    · by_cases e : j = k
      · rw [if_pos e, if_pos e]
        exact ⟨hrb, hr.of_block (keep r f hr)⟩
      · rw [if_neg e, if_neg e]
        have hj' : j < k := by omega
        exact ⟨(hM.row j hj').1, (hM.row j hj').2.of_block (keep _ _ (hM.row j hj').2)⟩
    · by_cases e1 : p = k
      · by_cases e2 : q = k
        · omega
        · rw [if_pos e1, if_neg e2] at e
          exact absurd e.symm (hrn q (by omega))
      · by_cases e2 : q = k
        · rw [if_neg e1, if_pos e2] at e
          exact absurd e (hrn p (by omega))
        · rw [if_neg e1, if_neg e2] at e
          exact hM.inj p q (by omega) (by omega) e
end
end Go.Proofs.YtlbcdnobpnllkaaGreat.Dg

namespace Go.Proofs.YtlbcdnobpnllkaaGreat.Dg
open Go.RowKit Go.Deep

theorem take_has {l : List Int} {k : Nat} (h : k < l.length) (x : Int) : (l.take (k + 1)).contains x = ((l.take k).contains x || decide (at0 l k = x)) := by
  have e : l.take (k + 1) = l.take k ++ [at0 l k] := by
    rw [List.take_add_one]
    unfold at0
    rw [List.getElem?_eq_getElem h]
    rfl
  rw [e]
  rw [Bool.eq_iff_iff]
  simp only [List.contains_iff_mem, List.mem_append, List.mem_singleton, Bool.or_eq_true, decide_eq_true_eq]
  exact or_congr Iff.rfl ⟨Eq.symm, Eq.symm⟩
set_option maxHeartbeats 8000000 in
set_option maxRecDepth 100000 in
theorem table_any (gA : Option Addr) (n gc : Nat) (RA : Nat → Option Addr) (RL : Nat → List Int) (RK : Nat → Nat) (w : World) (GR : GraphR w gA n RA RL RK) :
    Calls Tryz.prog 117 #[.slice gA n gc] w fun e w' => ∃ v ad, e = .returned v ∧ MatB w' w.heap.size v n n ad (tabB RL) ∧ Below w.heap.size w w' := by
  have hn := GR.hn
  have RW : Hid (∀ W, Below w.heap.size w W → GraphR W gA n RA RL RK) := fun W hW => GR.below hW
  have hmk := run_make_bools n (by omega)
  have M0 : Hid (MatB w w.heap.size (.slice none 0 0) n 0 (fun _ => 0) (tabB RL)) := MatB.nil _ _ _ _ _
  have B0 : Hid (Below w.heap.size w w) := Below.refl _ _
  clear GR
  go_enter Tryz.func117, Tryz.ntmps117
  go_wp2_with fail
  go_loopw [4, 3] (fun q u wr => ∃ (k : Nat) (ad : Nat → Nat), k ≤ n ∧ q = .int .i64 k ∧ Hid (MatB wr w.heap.size u n k ad (tabB RL)) ∧ Hid (Below w.heap.size w wr)) (fun q _ _ => n - (intOf q).toNat)
  case atStart => exact ⟨0, fun _ => 0, by omega, rfl, M0, B0⟩
  case round =>
    clear M0 B0
    obtain ⟨wo, rfl⟩ : ∃ wo, wo = wr := ⟨_, rfl⟩
    obtain ⟨k, ad, hk, rfl, MR, BB⟩ := hrel
    by_cases hlt : k < n
    · have S0 : Hid (RowB (wo.alloc (.cells (madeCells #[.bool false] n) 4)) wo.heap.size n (fun i => ((RL k).take 0).contains (i : Int))) := (RowB.made wo n).congr fun _ _ => rfl
      have SB : Hid (Below wo.heap.size wo (wo.alloc (.cells (madeCells #[.bool false] n) 4))) := (Below.refl _ _).alloc (Nat.le_refl _) _
      have hsz := BB.out.size
      have HL : Hid (∀ W, Below wo.heap.size wo W → (∃ b off, gA = some ⟨b, off, none⟩ ∧ W.cell? ⟨b, off + k, none⟩ = some (.slice (RA k) (RL k).length (RK k))) ∧ ReadsV W (RA k) (RL k)) := fun W hW => by
        have G := RW.out W (BB.out.trans (hW.mono hsz))
        obtain ⟨b, off, e, _, h⟩ := G.row k hlt
        exact ⟨⟨b, off, e, h⟩, G.rd k hlt⟩
      have hll : (RL k).length ≤ 1000000 := (RW.out w (Below.refl _ _)).ll k hlt
      have HT : Hid (∀ j, j < (RL k).length → ∀ x : Int, ((RL k).take (j + 1)).contains x = (((RL k).take j).contains x || decide (at0 (RL k) j = x))) := fun j hj x => take_has hj x
      have HF : Hid (∀ f : Nat → Bool, (∀ i, f i = ((RL k).take (RL k).length).contains (i : Int)) → ∀ i, f i = tabB RL k i) := fun f hf i => by rw [hf i, List.take_length]; rfl
      obtain ⟨⟨b, off, eA, c0⟩, -⟩ := HL.out _ SB.out
      go_wp2_with fail
      go_loopw [6] (fun q wr => ∃ j : Nat, j ≤ (RL k).length ∧ q = .int .i64 j ∧ Hid (RowB wr wo.heap.size n (fun i => ((RL k).take j).contains (i : Int))) ∧ Hid (Below wo.heap.size wo wr)) (fun q _ => (RL k).length - (intOf q).toNat)
      case atStart => exact ⟨0, by omega, rfl, S0, SB⟩
      case round =>
        clear S0 SB c0
        obtain ⟨j, hj, rfl, HR, BI⟩ := hrel
        obtain ⟨⟨b', off', eA', c0⟩, RD⟩ := HL.out _ BI.out
        subst eA
        injection eA' with eA'
        injection eA' with ea1 ea2
        subst ea1 ea2
        by_cases hlt2 : j < (RL k).length
        · have HTj := Lib.hid (HT.out j hlt2)
          obtain ⟨b2, off2, e2, _, c1⟩ := RD j hlt2
          have HS : Hid (∀ i : Nat, i < n → at0 (RL k) j = (i : Int) → RowB (wr.setCell ⟨wo.heap.size, i, none⟩ (.bool true)) wo.heap.size n (fun i => ((RL k).take (j + 1)).contains (i : Int)) ∧ Below wo.heap.size wo (wr.setCell ⟨wo.heap.size, i, none⟩ (.bool true))) := fun i hi e => by
            refine ⟨(HR.out.set i true).congr fun i' _ => ?_, BI.out.setCell (Nat.le_refl _) _⟩
            rw [HTj.out, e]
            by_cases e3 : i' = i
            · rw [if_pos e3, e3]; simp
            · rw [if_neg e3]
              have : ¬ (i : Int) = (i' : Int) := by omega
              simp [this]
          have HN : Hid (¬ (0 ≤ at0 (RL k) j ∧ at0 (RL k) j < (n : Int)) → RowB wr wo.heap.size n (fun i => ((RL k).take (j + 1)).contains (i : Int))) := fun h => by
            refine HR.out.congr fun i' hi' => ?_
            rw [HTj.out]
            have : ¬ at0 (RL k) j = (i' : Int) := by omega
            simp [this]
          have hfz := fun o => World.rowIs.frozen HR.out o
          have hcl := fun i (hi : i < n) => HR.out.get hi
          have hz := World.rowIs.lt HR.out
          clear HTj HT HF HR RD
          rw [e2] at c0
          clear e2
          generalize at0 (RL k) j = x at *
          by_cases h0 : 0 ≤ x
          · by_cases h1 : x < (n : Int)
            · obtain ⟨i, rfl⟩ : ∃ i : Nat, x = i := ⟨x.toNat, by omega⟩
              have hi : i < n := by omega
              obtain ⟨r1, r2⟩ := HS.out i hi rfl
              have R1 := Lib.hid r1
              have R2 := Lib.hid r2
              have hfz := hfz i
              have hcl := hcl i hi
              clear HN HS r1 r2 HL
              go_wp2
              go_roundw
              case rel => exact ⟨j + 1, by omega, by go_num, R1, R2⟩
              case measure => simp [intOf]; omega
            · have h1' : (x < (n : Int)) = False := by simp; omega
              have R1 := Lib.hid (HN.out fun h => h1 h.2)
              clear HN HS HL hfz hcl
              go_wp2
              go_roundw
              case rel => exact ⟨j + 1, by omega, by go_num, R1, BI⟩
              case measure => simp [intOf]; omega
          · have h0' : (0 ≤ x) = False := by simp; omega
            have R1 := Lib.hid (HN.out fun h => h0 h.1)
            clear HN HS HL hfz hcl
            go_wp2
            go_roundw
            case rel => exact ⟨j + 1, by omega, by go_num, R1, BI⟩
            case measure => simp [intOf]; omega
        · obtain rfl : j = (RL k).length := by omega
          have R1 := Lib.hid (HR.out.congr (g := tabB RL k) fun i _ => HF.out _ (fun _ => rfl) i)
          have M1 := Lib.hid (MR.out.below BI.out)
          have hnr : Hid (∀ i, i < k → ad i ≠ wo.heap.size) := fun i hi => by have := MR.out.lt hi; omega
          have B1 := Lib.hid (BB.out.trans (BI.out.mono hsz))
          have hsz1 := B1.out.size
          clear HR HF HT RD MR BB BI HL hll
          go_wp2_with (at_builtin; go_loud (refine wpList_bmat rfl (.tmp 54) (.tmp 56) rfl (tabB RL k) wo.heap.size rfl (M1.out.below ((Below.refl _ _).alloc (Nat.le_refl _) _)) (R1.out.of_block (blk_alloc_lt _ _ _ (World.rowIs.lt R1.out))) hsz hnr.out wr.heap.size rfl (cell_new1 _ _ _) (by omega) (by rw [World.size_alloc]; omega) ?_); intro v5 w5 m5 k5; have M5 := Lib.hid m5; have B5 := Lib.hid ((B1.out.alloc hsz1 _).trans k5); clear m5 k5)
          go_roundw
          case rel => exact ⟨k + 1, _, by omega, by go_num, Lib.hid (M5.out.congr fun i j hi hj => by by_cases e : i = k <;> simp [e]), B5⟩
          case measure => simp [intOf]; omega
    · obtain rfl : k = n := by omega
      go_wp2
      go_ret
      exact ⟨_, _, rfl, MR.out, BB.out⟩
end Go.Proofs.YtlbcdnobpnllkaaGreat.Dg

namespace Go.Proofs.YtlbcdnobpnllkaaGreat.Dg
open Go.RowKit Go.Deep

/-- row u of round k is done up to column j -/
def mixW (T : Nat → Nat → Bool) (k u j a b : Nat) : Bool := if a < u ∨ (a = u ∧ b < j) then stW T k a b else T a b
theorem st_col (T : Nat → Nat → Bool) (k a : Nat) : stW T k a k = T a k := by unfold stW; cases T a k <;> simp
theorem st_row (T : Nat → Nat → Bool) (k b : Nat) : stW T k k b = T k b := by unfold stW; cases T k b <;> simp
theorem mix_col (T : Nat → Nat → Bool) (k u j a : Nat) : mixW T k u j a k = T a k := by unfold mixW; split; exact st_col T k a; rfl
theorem mix_row (T : Nat → Nat → Bool) (k u j b : Nat) : mixW T k u j k b = T k b := by unfold mixW; split; exact st_row T k b; rfl
theorem mix_at (T : Nat → Nat → Bool) (k u j : Nat) : mixW T k u j u j = T u j := by unfold mixW; rw [if_neg (by omega)]
theorem mix_step (T : Nat → Nat → Bool) (k u j a b : Nat) : (if a = u ∧ b = j then stW T k u j else mixW T k u j a b) = mixW T k u (j + 1) a b := by
  unfold mixW
  by_cases h : a = u ∧ b = j
  · obtain ⟨rfl, rfl⟩ := h
    rw [if_pos ⟨rfl, rfl⟩, if_pos (by omega)]
  · rw [if_neg h]
    by_cases h2 : a < u ∨ (a = u ∧ b < j)
    · rw [if_pos h2, if_pos (by omega)]
    · rw [if_neg h2, if_neg (by omega)]
theorem mix_start (T : Nat → Nat → Bool) (k a b : Nat) : mixW T k 0 0 a b = T a b := by unfold mixW; rw [if_neg (by omega)]
theorem mix_next (T : Nat → Nat → Bool) {k u n a b : Nat} (hb : b < n) : mixW T k u n a b = mixW T k (u + 1) 0 a b := by
  unfold mixW
  by_cases h2 : a < u ∨ (a = u ∧ b < n)
  · rw [if_pos h2, if_pos (by omega)]
  · rw [if_neg h2, if_neg (by omega)]
theorem mix_end (T : Nat → Nat → Bool) {k n a b : Nat} (ha : a < n) : mixW T k n 0 a b = stW T k a b := by unfold mixW; rw [if_pos (by omega)]
set_option maxHeartbeats 8000000 in
set_option maxRecDepth 100000 in
theorem paths_any (gA : Option Addr) (n gc : Nat) (RA : Nat → Option Addr) (RL : Nat → List Int) (RK : Nat → Nat) (w : World) (GR : GraphR w gA n RA RL RK) :
    Calls Tryz.prog 108 #[.slice gA n gc] w fun e w' => ∃ v ad, e = .returned v ∧ MatB w' w.heap.size v n n ad (warN (tabB RL) n) ∧ Below w.heap.size w w' := by
  have CT := Lib.hid (table_any gA n gc RA RL RK w GR)
  have hn := GR.hn
  have HW0 : Hid (warN (tabB RL) 0 = tabB RL) := rfl
  have HWS : Hid (∀ k, warN (tabB RL) (k + 1) = stW (warN (tabB RL) k) k) := fun _ => rfl
  clear GR
  generalize tabB RL = T at *
  generalize warN T = WN at *
  go_enter Tryz.func108, Tryz.ntmps108
  go_wp2_with fail
  refine CT.out.mono ?_
  rintro e w1 ⟨v, ad, rfl, M1, B1⟩
  have M0 : Hid (MatB w1 w.heap.size v n n ad (WN 0)) := by show MatB _ _ _ _ _ _ _; rw [HW0.out]; exact M1
  have B1 := Lib.hid B1
  clear M1 CT HW0
  go_wp2_with fail
  go_loopw [4] (fun q wr => ∃ k : Nat, k ≤ n ∧ q = .int .i64 k ∧ Hid (MatB wr w.heap.size v n n ad (WN k)) ∧ Hid (Below w.heap.size w wr)) (fun q _ => n - (intOf q).toNat)
  case atStart => exact ⟨0, by omega, rfl, M0, B1⟩
  case round =>
    clear M0 B1
    obtain ⟨wo, rfl⟩ : ∃ wo, wo = wr := ⟨_, rfl⟩
    obtain ⟨k, hk, rfl, MR, BB⟩ := hrel
    by_cases hlt : k < n
    · have HWk := Lib.hid (HWS.out k)
      obtain ⟨R, hR⟩ : ∃ R, R = WN k := ⟨_, rfl⟩
      rw [← hR] at MR HWk
      clear hR
      have MS : Hid (MatB wo w.heap.size v n n ad (mixW R k 0 0)) := MR.out.congr fun i j _ _ => (mix_start R k i j).symm
      clear MR
      go_wp2_with fail
      go_loopw [5] (fun q wr => ∃ u : Nat, u ≤ n ∧ q = .int .i64 u ∧ Hid (MatB wr w.heap.size v n n ad (mixW R k u 0)) ∧ Hid (Below w.heap.size w wr)) (fun q _ => n - (intOf q).toNat)
      case atStart => exact ⟨0, by omega, rfl, MS, BB⟩
      case round =>
        clear MS BB
        obtain ⟨wp, rfl⟩ : ∃ wp, wp = wr := ⟨_, rfl⟩
        obtain ⟨u, hu, rfl, MR, BB⟩ := hrel
        by_cases hlu : u < n
        · go_wp2_with fail
          go_loopw [6] (fun q wr => ∃ j : Nat, j ≤ n ∧ q = .int .i64 j ∧ Hid (MatB wr w.heap.size v n n ad (mixW R k u j)) ∧ Hid (Below w.heap.size w wr)) (fun q _ => n - (intOf q).toNat)
          case atStart => exact ⟨0, by omega, rfl, MR, BB⟩
          case round =>
            clear MR BB
            obtain ⟨j, hj, rfl, MR, BB⟩ := hrel
            by_cases hlj : j < n
            · obtain ⟨g, c, rfl, c1⟩ := MR.out.cell hlu
              obtain ⟨g', c', e', c2⟩ := MR.out.cell hlt
              simp only [Value.slice.injEq, Option.some.injEq, Addr.mk.injEq, and_true, true_and] at e'
              obtain ⟨rfl, rfl⟩ := e'
              have c3 := MR.out.get hlu hlj
              have c4 := MR.out.get hlu hlt
              have c5 := MR.out.get hlt hlj
              rw [mix_at] at c3
              rw [mix_col] at c4
              rw [mix_row] at c5
              have hfz := MR.out.frz hlu j
              have hb := (MR.out.row u hlu).1
              have HN : Hid (∀ z, stW R k u j = z → MatB (wr.setCell ⟨ad u, j, none⟩ (.bool z)) w.heap.size (.slice (some ⟨g, 0, none⟩) n c) n n ad (mixW R k u (j + 1)) ∧ Below w.heap.size w (wr.setCell ⟨ad u, j, none⟩ (.bool z))) := fun z hz => ⟨(MR.out.set hlu j z).congr fun a b _ _ => by rw [← hz]; exact mix_step R k u j a b, BB.out.setCell hb _⟩
              have HV : Hid (stW R k u j = (R u j || (R u k && R k j))) := rfl
              clear hb MR BB
              generalize stW R k u j = sv at *
              generalize R u j = z1 at *
              generalize R u k = z2 at *
              generalize R k j = z3 at *
              generalize ad u = au at *
              generalize ad k = ak at *
              cases z1
              · cases z2
                · obtain ⟨r1, r2⟩ := HN.out false HV.out
                  have r1 := Lib.hid r1.drew
                  have r2 := Lib.hid r2.drew
                  clear HN HV
                  go_wp2
                  go_region
                  go_wp2
                  go_roundw
                  case rel => exact ⟨j + 1, by omega, by go_num, r1, r2⟩
                  case measure => simp [intOf]; omega
                · obtain ⟨r1, r2⟩ := HN.out z3 (by rw [HV.out]; simp)
                  have r1 := Lib.hid r1.drew
                  have r2 := Lib.hid r2.drew
                  clear HN HV
                  go_wp2
                  go_region
                  go_wp2
                  go_roundw
                  case rel => exact ⟨j + 1, by omega, by go_num, r1, r2⟩
                  case measure => simp [intOf]; omega
              · obtain ⟨r1, r2⟩ := HN.out true (by rw [HV.out]; rfl)
                have r1 := Lib.hid r1.drew
                have r2 := Lib.hid r2.drew
                clear HN HV
                go_wp2
                go_region
                go_wp2
                go_roundw
                case rel => exact ⟨j + 1, by omega, by go_num, r1, r2⟩
                case measure => simp [intOf]; omega
            · obtain rfl : j = n := by omega
              have M2 : Hid (MatB wr w.heap.size v j j ad (mixW R k (u + 1) 0)) := MR.out.congr fun a b _ hb => mix_next R hb
              go_wp2
              go_roundw
              case rel => exact ⟨u + 1, by omega, by go_num, M2, BB⟩
              case measure => simp [intOf]; omega
        · obtain rfl : u = n := by omega
          have M2 : Hid (MatB wp w.heap.size v u u ad (WN (k + 1))) := MR.out.congr fun a b ha _ => by rw [HWk.out]; exact mix_end R ha
          go_wp2
          go_roundw
          case rel => exact ⟨k + 1, by omega, by go_num, M2, BB⟩
          case measure => simp [intOf]; omega
    · obtain rfl : k = n := by omega
      go_wp2
      go_ret
      exact ⟨_, _, rfl, MR.out, BB.out⟩
end Go.Proofs.YtlbcdnobpnllkaaGreat.Dg

namespace Go.Proofs.YtlbcdnobpnllkaaGreat.Dg
open Go.RowKit Go.Deep

def mixR (F : Nat → Bool) (P : Nat → Bool) (x j i : Nat) : Bool := (F i || decide (i = x)) || (decide (i < j) && P i)
theorem mixR_at (F P : Nat → Bool) (x j : Nat) : mixR F P x j j = (F j || decide (j = x)) := by unfold mixR; simp
theorem mixR_step (F P : Nat → Bool) (x j i : Nat) : (if i = j then (F j || decide (j = x)) || P j else mixR F P x j i) = mixR F P x (j + 1) i := by
  unfold mixR
  by_cases e : i = j
  · subst e
    rw [if_pos rfl]
    simp
  · rw [if_neg e]
    have e2 : decide (i < j + 1) = decide (i < j) := by
      by_cases h : i < j
      · rw [decide_eq_true h, decide_eq_true (by omega)]
      · rw [decide_eq_false h, decide_eq_false (by omega)]
    rw [e2]
theorem mixR_start (F P : Nat → Bool) (x i : Nat) : (if i = x then true else F i) = mixR F P x 0 i := by
  unfold mixR
  by_cases e : i = x <;> simp [e]
theorem ref_none (R : Nat → List Int) (n : Nat) (l : List Int) (k : Nat) (hk : k < l.length) (h : ¬ (0 ≤ at0 l k ∧ at0 l k < n)) (i : Nat) : refB R n (l.take (k + 1)) i = refB R n (l.take k) i := by
  have e : l.take (k + 1) = l.take k ++ [at0 l k] := by
    rw [List.take_add_one]
    unfold at0
    rw [List.getElem?_eq_getElem hk]
    rfl
  rw [e, refB_snoc]
  have e2 : (decide (0 ≤ at0 l k) && decide (at0 l k < (n : Int))) = false := by
    cases h2 : (decide (0 ≤ at0 l k) && decide (at0 l k < (n : Int)))
    · rfl
    · rw [Bool.and_eq_true, decide_eq_true_eq, decide_eq_true_eq] at h2
      exact absurd h2 h
  rw [e2]
  simp
theorem ref_some (R : Nat → List Int) (n : Nat) (l : List Int) (k x : Nat) (hk : k < l.length) (hx : x < n) (h : at0 l k = (x : Int)) (i : Nat) (hi : i < n) : mixR (fun i => refB R n (l.take k) i) (fun i => warN (tabB R) n x i) x n i = refB R n (l.take (k + 1)) i := by
  have e : l.take (k + 1) = l.take k ++ [at0 l k] := by
    rw [List.take_add_one]
    unfold at0
    rw [List.getElem?_eq_getElem hk]
    rfl
  rw [e, refB_snoc, h]
  unfold mixR
  have e2 : (decide (0 ≤ (x : Int)) && decide ((x : Int) < (n : Int))) = true := by
    rw [Bool.and_eq_true, decide_eq_true_eq, decide_eq_true_eq]; omega
  rw [e2, decide_eq_true hi, Int.toNat_natCast, Bool.true_and, Bool.true_and, Bool.or_assoc]
  by_cases h3 : i = x
  · rw [decide_eq_true h3, decide_eq_true h3.symm]
  · rw [decide_eq_false h3, decide_eq_false fun h => h3 h.symm]
end Go.Proofs.YtlbcdnobpnllkaaGreat.Dg

namespace Go.Proofs.YtlbcdnobpnllkaaGreat.Dg
open Go.RowKit

def revV (R : Nat → List Int) (n w : Nat) : List Int := pickI (fun u => (R u).contains (w : Int)) n
def revS (R : Nat → List Int) (v i w : Nat) : List Int := pickI (fun u => (R u).contains (w : Int)) v ++ if ((R v).take i).contains (w : Int) then [(v : Int)] else []
theorem pick_at {f : Nat → Bool} {n i : Nat} (h : i < (pickI f n).length) : ∃ u : Nat, at0 (pickI f n) i = (u : Int) ∧ u < n ∧ f u = true := by
  have hl : i < ((List.range n).filter f).length := by simpa [pickI] using h
  refine ⟨((List.range n).filter f)[i], ?_, ?_⟩
  · unfold at0 pickI
    rw [List.getElem?_map, List.getElem?_eq_getElem hl]
    rfl
  · have hm := List.getElem_mem hl
    rw [List.mem_filter, List.mem_range] at hm
    exact hm
theorem pick_asc {f : Nat → Bool} {n i j : Nat} (hij : i < j) (h : j < (pickI f n).length) : at0 (pickI f n) i < at0 (pickI f n) j := by
  have hl : j < ((List.range n).filter f).length := by simpa [pickI] using h
  have hp : ((List.range n).filter f).Pairwise (· < ·) := List.Pairwise.filter _ List.pairwise_lt_range
  have h1 := List.pairwise_iff_getElem.1 hp i j (by omega) hl hij
  unfold at0 pickI
  rw [List.getElem?_map, List.getElem?_map, List.getElem?_eq_getElem hl, List.getElem?_eq_getElem (by omega)]
  simp only [Option.map_some, Option.getD_some]
  omega
theorem revS_zero (R : Nat → List Int) (v w : Nat) : revS R v 0 w = pickI (fun u => (R u).contains (w : Int)) v := by unfold revS; simp
theorem revS_start (R : Nat → List Int) (w : Nat) : revS R 0 0 w = [] := by rw [revS_zero]; rfl
theorem revS_next (R : Nat → List Int) (v w : Nat) : revS R v (R v).length w = revS R (v + 1) 0 w := by
  rw [revS_zero]
  unfold revS
  rw [List.take_length]
  cases h : (R v).contains (w : Int)
  · rw [pickI_no _ _ h]
    simp
  · rw [pickI_yes _ _ h]
    simp
theorem revS_end (R : Nat → List Int) (n w : Nat) : revS R n 0 w = revV R n w := revS_zero R n w
theorem take_has' {l : List Int} {k : Nat} (h : k < l.length) (x : Int) : (l.take (k + 1)).contains x = ((l.take k).contains x || decide (at0 l k = x)) := by
  have e : l.take (k + 1) = l.take k ++ [at0 l k] := by
    rw [List.take_add_one]
    unfold at0
    rw [List.getElem?_eq_getElem h]
    rfl
  rw [e]
  rw [Bool.eq_iff_iff]
  simp only [List.contains_iff_mem, List.mem_append, List.mem_singleton, Bool.or_eq_true, decide_eq_true_eq]
  exact or_congr Iff.rfl ⟨Eq.symm, Eq.symm⟩
theorem revS_skip {R : Nat → List Int} {v i w : Nat} (hi : i < (R v).length) (h : at0 (R v) i ≠ (w : Int)) : revS R v (i + 1) w = revS R v i w := by
  unfold revS
  rw [take_has' hi, decide_eq_false h, Bool.or_false]
theorem revS_had {R : Nat → List Int} {v i w : Nat} (hi : i < (R v).length) (h : ((R v).take i).contains (w : Int) = true) : revS R v (i + 1) w = revS R v i w := by
  unfold revS
  rw [take_has' hi, h, Bool.true_or]
theorem revS_new {R : Nat → List Int} {v i w : Nat} (hi : i < (R v).length) (h : at0 (R v) i = (w : Int)) (h2 : ((R v).take i).contains (w : Int) = false) : revS R v (i + 1) w = revS R v i w ++ [(v : Int)] := by
  unfold revS
  rw [take_has' hi, h2, decide_eq_true h]
  simp
theorem revS_len (R : Nat → List Int) (v i w : Nat) : (revS R v i w).length ≤ v + 1 := by
  unfold revS
  rw [List.length_append]
  have := pickI_len (fun u => (R u).contains (w : Int)) v
  split
  · rw [List.length_singleton]; omega
  · rw [List.length_nil]; omega
/-- whether the last element is the vertex whose edges are read -/
theorem revS_last_no {R : Nat → List Int} {v i w : Nat} (h2 : ((R v).take i).contains (w : Int) = false) (h : (revS R v i w).length ≠ 0) : at0 (revS R v i w) ((revS R v i w).length - 1) ≠ (v : Int) := by
  have e : revS R v i w = pickI (fun u => (R u).contains (w : Int)) v := by unfold revS; rw [h2]; simp
  rw [e] at h ⊢
  obtain ⟨u, h1, h3, _⟩ := pick_at (f := fun u => (R u).contains (w : Int)) (n := v) (i := (pickI (fun u => (R u).contains (w : Int)) v).length - 1) (by omega)
  rw [h1]
  omega
theorem revS_last_yes {R : Nat → List Int} {v i w : Nat} (h2 : ((R v).take i).contains (w : Int) = true) : (revS R v i w).length ≠ 0 ∧ at0 (revS R v i w) ((revS R v i w).length - 1) = (v : Int) := by
  have e : revS R v i w = pickI (fun u => (R u).contains (w : Int)) v ++ [(v : Int)] := by unfold revS; rw [h2]; simp
  rw [e]
  refine ⟨by simp, ?_⟩
  unfold at0
  simp
/- validity -/
def badE (R : Nat → List Int) (n v i : Nat) : Bool := !inR (at0 (R v) i) n || (decide (0 < i) && !decide (at0 (R v) (i - 1) < at0 (R v) i))
def badG (R : Nat → List Int) (n v : Nat) : Bool := anyN (badE R n v) (R v).length
def validG (R : Nat → List Int) (n : Nat) : Bool := !anyN (badG R n) n
theorem valid_no {R : Nat → List Int} {n v i : Nat} (hv : v < n) (hi : i < (R v).length) (h : badE R n v i = true) : validG R n = false := by
  unfold validG
  rw [anyN_yes hv (show badG R n v = true from anyN_yes hi h)]
  rfl
theorem valid_yes {R : Nat → List Int} {n : Nat} (h : ∀ v, v < n → ∀ i, i < (R v).length → badE R n v i = false) : validG R n = true := by
  unfold validG
  rw [anyN_no fun v hv => show badG R n v = false from anyN_no fun i hi => h v hv i hi]
  rfl
theorem valid_rev (R : Nat → List Int) (n : Nat) : validG (revV R n) n = true := valid_yes fun v _ i hi => by
  unfold badE
  obtain ⟨u, h1, h2, _⟩ := pick_at (f := fun u => (R u).contains (v : Int)) (n := n) hi
  have e : inR (at0 (revV R n v) i) n = true := by rw [inR_iff]; unfold revV; rw [h1]; omega
  rw [e]
  by_cases h0 : 0 < i
  · have := pick_asc (f := fun u => (R u).contains (v : Int)) (n := n) (i := i - 1) (j := i) (by omega) hi
    rw [decide_eq_true h0, show decide (at0 (revV R n v) (i - 1) < at0 (revV R n v) i) = true from decide_eq_true this]
    rfl
  · rw [decide_eq_false h0]; rfl
end Go.Proofs.YtlbcdnobpnllkaaGreat.Dg

namespace Go.Proofs.YtlbcdnobpnllkaaGreat.Dg
open Go.RowKit Go.Deep

theorem wpList_intg {ops : Array Oper} {rest : List Oper} {o : Oper} {a : Act} {w : World} {Q : Exit → Act → World → Prop} (hgd : o.guard = none) (s x : Operand)
    (ho : o.op = .call { callee := .builtin .append, args := #[s, x], argTypes := #[34, 34] })
    (base : Nat) (v : Value) (l : List Int) (d : Int) (hs : a.eval s = v) (hO : w.ownsRow base 3 1 v l.length (vI l)) (g : Nat) (hx : a.eval x = .slice (some ⟨g, 0, none⟩) 1 1)
    (h0 : w.cell? ⟨g, 0, none⟩ = some (.int .i64 d)) (hl : l.length ≤ 100000) (hbase : base ≤ w.heap.size)
    (h : ∀ v' w', w'.ownsRow base 3 1 v' (l.length + 1) (vI l ++ [.int .i64 d]) → w.grownBy w' v.ownBlock → (v'.ownBlock = v.ownBlock ∨ v'.ownBlock = some w.heap.size) → wpList Tryz.prog ops Q rest (a.put o.dst v') w') : wpList Tryz.prog ops Q (o :: rest) a w := by
  refine wpList_plain hgd fun K hK => ?_
  exact oper_int s x ho base v l d hs hO g hx h0 hl hbase fun v' w' h1 h2 h3 => hK _ _ (h v' w' h1 h2 h3)
theorem own_form {w : World} {B : Nat} {te : TypeId} {v : Value} {n : Nat} {xs : List Value} (h : w.ownsRow B te 1 v (n + 1) xs) : ∃ g c, v = .slice (some ⟨g, 0, none⟩) (n + 1) c := by
  rcases h.2 with ⟨_, h0⟩ | ⟨g, cap, cur, h1, _⟩
  · exact absurd h0 (by omega)
  · exact ⟨g, cap, h1⟩
/-- an append to row e and its store -/
theorem grow_store {wo w5 w6 : World} {B g N e : Nat} {L L' : Nat → List Int} {vs : Nat → Value} {v' : Value} {d : Int} (M5 : GrowT w5 g B N 34 3 1 (fun e => (L e).length) (fun e => vI (L e)) vs) (he : e < N)
    (B5 : Below g wo w5) (hg : g + 1 = B)
    (LS : ∀ i, i < N → L' i = if i = e then L e ++ [d] else L i)
    (ho6 : w6.ownsRow B 3 1 v' ((L e).length + 1) (vI (L e) ++ [.int .i64 d])) (hg6 : w5.grownBy w6 (vs e).ownBlock) (hb6 : v'.ownBlock = (vs e).ownBlock ∨ v'.ownBlock = some w5.heap.size) :
    (∃ vs', GrowT (w6.setCell ⟨g, e, none⟩ v') g B N 34 3 1 (fun e => (L' e).length) (fun e => vI (L' e)) vs') ∧ Below g wo w6 ∧ Below g wo (w6.setCell ⟨g, e, none⟩ v') ∧ (∃ u, w6.cell? ⟨g, e, none⟩ = some u) ∧ w6.frozen? ⟨g, e, none⟩ = false := by
  subst hg
  have hB : g + 1 ≤ w5.heap.size := M5.2.1
  have hnb : ∀ q, (vs e).ownBlock = some q → g + 1 ≤ q := fun q hq => by
    rcases own_ge (M5.2.2.2.1 e he) with h | ⟨g', h, h1, h2⟩
    · rw [h] at hq; cases hq
    · rw [h] at hq; injection hq with hq; omega
  have BG6 : Below g wo w6 := B5.trans ((Below.refl _ w5).grown hg6 (by omega) fun q hq => by have := hnb q hq; omega)
  have M6 := M5.step he ho6 hg6 hb6
  have ne : some g ≠ (vs e).ownBlock := fun c => by have h9 : g + 1 ≤ g := hnb _ c.symm; omega
  have h3 := M5.2.2.1.of_block (hg6.block _ M5.2.2.1.lt ne)
  refine ⟨⟨_, M6.congr (ln' := fun i => (L' i).length) (X' := fun i => vI (L' i)) (fun i hi => ?_) (fun i hi => ?_)⟩, BG6, BG6.setCell (Nat.le_refl _) _, ⟨_, h3.cell he⟩, h3.frozen e⟩
  · rw [LS i hi]
    by_cases hie : i = e
    · rw [if_pos hie, if_pos hie]; simp
    · rw [if_neg hie, if_neg hie]
  · rw [LS i hi]
    by_cases hie : i = e
    · rw [if_pos hie, if_pos hie, vI_snoc]
    · rw [if_neg hie, if_neg hie]
set_option maxHeartbeats 8000000 in
set_option maxRecDepth 100000 in
theorem reverse_any (gA : Option Addr) (n gc : Nat) (RA : Nat → Option Addr) (RL : Nat → List Int) (RK : Nat → Nat) (w : World) (GR : GraphR w gA n RA RL RK) :
    Calls Tryz.prog 86 #[.slice gA n gc] w fun e w' => ∃ vs, e = .returned (.slice (some ⟨w.heap.size, 0, none⟩) n n) ∧ GrowT w' w.heap.size (w.heap.size + 1) n 34 3 1 (fun e => (revV RL n e).length) (fun e => vI (revV RL n e)) vs ∧ Below w.heap.size w w' := by
  have hn := GR.hn
  have RW : Hid (∀ W, Below w.heap.size w W → GraphR W gA n RA RL RK) := fun W hW => GR.below hW
  have hmk := run_make_rows n (by omega)
  have CI : Hid (∀ x W, Calls Tryz.prog 85 #[.slice gA n gc, .int .i64 x] W fun e w' => e = .returned (.bool (inR x n)) ∧ W = w') := fun x W => isv_any gA n gc x W
  have M0 : Hid (GrowT (w.alloc (.cells (madeCells #[.slice none 0 0] n) 34)) w.heap.size (w.heap.size + 1) n 34 3 1 (fun e => (revS RL 0 0 e).length) (fun e => vI (revS RL 0 0 e)) (fun _ => .slice none 0 0)) := by
    have h := GrowT.start (w := w) n 34 3 1
    exact h.congr (fun e _ => by rw [revS_start]; rfl) (fun e _ => by rw [revS_start]; rfl)
  have S0 : Hid (Below w.heap.size w (w.alloc (.cells (madeCells #[.slice none 0 0] n) 34))) := (Below.refl _ _).alloc (Nat.le_refl _) _
  clear GR
  go_enter Tryz.func86, Tryz.ntmps86
  go_wp2_with fail
  go_loopw [14] (fun q wr => ∃ (k : Nat) (vs : Nat → Value), k ≤ n ∧ q = .int .i64 k ∧ Hid (GrowT wr w.heap.size (w.heap.size + 1) n 34 3 1 (fun e => (revS RL k 0 e).length) (fun e => vI (revS RL k 0 e)) vs) ∧ Hid (Below w.heap.size w wr)) (fun q _ => n - (intOf q).toNat)
  case atStart => exact ⟨0, _, by omega, rfl, M0, S0⟩
  case round =>
    clear M0 S0
    obtain ⟨wo, rfl⟩ : ∃ wo, wo = wr := ⟨_, rfl⟩
    obtain ⟨k, vs0, hk, rfl, MR, BB⟩ := hrel
    by_cases hlt : k < n
    · obtain ⟨b, off, eA, _, c0⟩ := (RW.out _ BB.out).row k hlt
      have RD : Hid (∀ W, Below w.heap.size w W → ReadsV W (RA k) (RL k)) := fun W hW => (RW.out W hW).rd k hlt
      have hll : (RL k).length ≤ 1000000 := (RW.out w (Below.refl _ _)).ll k hlt
      have HNX := Lib.hid (fun e => revS_next RL k e)
      subst eA
      go_wp2_with fail
      go_loopw [21] (fun q wr => ∃ (i : Nat) (vs : Nat → Value), i ≤ (RL k).length ∧ q = .int .i64 i ∧ Hid (GrowT wr w.heap.size (w.heap.size + 1) n 34 3 1 (fun e => (revS RL k i e).length) (fun e => vI (revS RL k i e)) vs) ∧ Hid (Below w.heap.size w wr)) (fun q _ => (RL k).length - (intOf q).toNat)
      case atStart => exact ⟨0, _, by omega, rfl, MR, BB⟩
      case round =>
        clear MR BB c0
        obtain ⟨wp, rfl⟩ : ∃ wp, wp = wr := ⟨_, rfl⟩
        obtain ⟨i, vs, hi, rfl, MR, BB⟩ := hrel
        by_cases hli : i < (RL k).length
        · obtain ⟨b2, off2, e2, _, c1⟩ := RD.out _ BB.out i hli
          rw [e2]
          clear e2
          have SK := Lib.hid (fun (e : Nat) (h : at0 (RL k) i ≠ (e : Int)) => revS_skip (R := RL) (v := k) (w := e) hli h)
          have HD := Lib.hid (fun (e : Nat) => revS_had (R := RL) (v := k) (w := e) hli)
          have NW := Lib.hid (fun (e : Nat) => revS_new (R := RL) (v := k) (w := e) hli)
          have LN := Lib.hid (fun (e : Nat) => revS_last_no (R := RL) (v := k) (i := i) (w := e))
          have LY := Lib.hid (fun (e : Nat) => revS_last_yes (R := RL) (v := k) (i := i) (w := e))
          have LB := Lib.hid (fun (e : Nat) => revS_len RL k i e)
          generalize at0 (RL k) i = x at *
          have CIx := Lib.hid (CI.out x)
          by_cases hx : 0 ≤ x ∧ x < (n : Int)
          · rw [show inR x (n : Int) = true from inR_iff.2 hx] at CIx
            obtain ⟨e, rfl⟩ : ∃ e : Nat, x = e := ⟨x.toNat, by omega⟩
            have he : e < n := by omega
            clear hx
            have SK2 : Hid (∀ j, j < n → j ≠ e → revS RL k (i + 1) j = revS RL k i j) := fun j _ h => SK.out j (by omega)
            have hv := MR.out.2.2.1.cell he
            have hOw := MR.out.2.2.2.1 e he
            have hlen := LB.out e
            obtain ⟨vA, vc, hve⟩ : ∃ A c, vs e = .slice A (revS RL k i e).length c := by
              rcases hOw.2 with ⟨h1, h0⟩ | ⟨g, cap, cur, h1, _⟩
              · have h0 : (revS RL k i e).length = 0 := h0
                exact ⟨none, 0, by rw [h1, h0]⟩
              · exact ⟨_, _, h1⟩
            have RV : Hid (ReadsV wp vA (revS RL k i e)) := by
              obtain ⟨A, c, e1, h1⟩ := ReadsV.own hOw
              rw [hve] at e1
              injection e1 with e1
              subst e1
              exact h1
            cases hc : ((RL k).take i).contains (e : Int)
            · have LNe := Lib.hid (LN.out e hc)
              have HST : Hid (∀ j, j < n → revS RL k (i + 1) j = if j = e then revS RL k i e ++ [(k : Int)] else revS RL k i j) := fun j hj => by
                by_cases h : j = e
                · subst h; rw [if_pos rfl]; exact NW.out j rfl hc
                · rw [if_neg h]; exact SK2.out j hj h
              have hs1 := BB.out.size
              have HVE := Lib.hid hve
              obtain ⟨w5, hw5⟩ : ∃ w5, w5 = wp.alloc (.cells #[.int .i64 (k : Int)] 3) := ⟨_, rfl⟩
              have KB : Below wp.heap.size wp w5 := by rw [hw5]; exact (Below.refl _ _).alloc (Nat.le_refl _) _
              have g0 : w5.cell? ⟨wp.heap.size, 0, none⟩ = some (.int .i64 (k : Int)) := by rw [hw5]; simp
              have hs5 : wp.heap.size ≤ w5.heap.size := KB.size
              have M5 := MR.out.below KB
              have B5 := BB.out.trans (KB.mono hs1)
              have HOW : Hid (w5.ownsRow (w.heap.size + 1) 3 1 (vs e) (revS RL k i e).length (vI (revS RL k i e))) := M5.2.2.2.1 e he
              have PACK : Hid (∀ v' w6, w6.ownsRow (w.heap.size + 1) 3 1 v' ((revS RL k i e).length + 1) (vI (revS RL k i e) ++ [.int .i64 (k : Int)]) → w5.grownBy w6 (vs e).ownBlock → (v'.ownBlock = (vs e).ownBlock ∨ v'.ownBlock = some w5.heap.size) →
                  (∃ vs', GrowT (w6.setCell ⟨w.heap.size, e, none⟩ v') w.heap.size (w.heap.size + 1) n 34 3 1 (fun e => (revS RL k (i + 1) e).length) (fun e => vI (revS RL k (i + 1) e)) vs') ∧ Below w.heap.size w w6 ∧ Below w.heap.size w (w6.setCell ⟨w.heap.size, e, none⟩ v') ∧ (∃ u, w6.cell? ⟨w.heap.size, e, none⟩ = some u) ∧ w6.frozen? ⟨w.heap.size, e, none⟩ = false) := fun v' w6 ho6 hg6 hb6 => grow_store (L := revS RL k i) (L' := revS RL k (i + 1)) M5 he B5 rfl HST.out ho6 hg6 hb6
              have hszB : w.heap.size + 1 ≤ wp.heap.size := MR.out.2.1
              have HW5 := Lib.hid hw5
              rw [hve] at hv
              clear hw5 KB M5 B5 MR SK HD NW LN LY LB SK2 HST hOw hve hc CI
              go_wp2_with fail
              refine (CIx.out _).mono ?_
              rintro e3 w3 ⟨rfl, rfl⟩
              by_cases hl0 : (revS RL k i e).length = 0
              · have z0 : (((revS RL k i e).length : Int) == 0) = true := by rw [hl0]; rfl
                clear LNe RV CIx hl0
                go_wp2_with (at_builtin; rw [← HW5.out, ← HVE.out]; go_loud (refine wpList_intg rfl (.tmp 53) (.tmp 55) rfl (w.heap.size + 1) (vs e) (revS RL k i e) (k : Int) rfl HOW.out wp.heap.size rfl g0 (by omega) (by omega) ?_); intro v' w6 ho6 hg6 hb6; obtain ⟨gv, cv, hv'⟩ := own_form ho6; subst hv'; obtain ⟨⟨vs', m6⟩, b6, b7, ⟨cu, ct⟩, cf⟩ := PACK.out _ w6 ho6 hg6 hb6; have M6 := Lib.hid m6; have B7 := Lib.hid b7; clear m6 b6 b7 ho6 hg6 hb6 PACK)
                go_roundw
                case rel => exact ⟨i + 1, _, by omega, by go_num, M6, B7⟩
                case measure => simp [intOf]; omega
              · obtain ⟨m, hm⟩ : ∃ m, (revS RL k i e).length = m + 1 := ⟨(revS RL k i e).length - 1, by omega⟩
                have z0 : (((revS RL k i e).length : Int) == 0) = false := by simpa using hl0
                obtain ⟨b3, off3, e4, _, c3⟩ := RV.out m (by omega)
                have hne : ¬ at0 (revS RL k i e) m = (k : Int) := by
                  have := LNe.out hl0
                  rw [hm, Nat.add_sub_cancel] at this
                  exact this
                have hne2 : (at0 (revS RL k i e) m == (k : Int)) = false := by simpa using hne
                have hwr : IntKind.i64.wrap (((revS RL k i e).length : Int) - 1) = (m : Int) := by rw [IntKind.wrap_i64]; omega
                have hml : m < (revS RL k i e).length := by omega
                have HM := Lib.hid hm
                subst e4
                clear LNe RV CIx hm
                generalize at0 (revS RL k i e) m = lastv at *
                go_wp2_with (at_builtin; rw [← HW5.out, ← HVE.out]; go_loud (refine wpList_intg rfl (.tmp 53) (.tmp 55) rfl (w.heap.size + 1) (vs e) (revS RL k i e) (k : Int) rfl HOW.out wp.heap.size rfl g0 (by omega) (by omega) ?_); intro v' w6 ho6 hg6 hb6; obtain ⟨gv, cv, hv'⟩ := own_form ho6; subst hv'; obtain ⟨⟨vs', m6⟩, b6, b7, ⟨cu, ct⟩, cf⟩ := PACK.out _ w6 ho6 hg6 hb6; have M6 := Lib.hid m6; have B7 := Lib.hid b7; clear m6 b6 b7 ho6 hg6 hb6 PACK)
                go_roundw
                case rel => exact ⟨i + 1, _, by omega, by go_num, M6, B7⟩
                case measure => simp [intOf]; omega
            · obtain ⟨hl0, hla⟩ := LY.out e hc
              obtain ⟨m, hm⟩ : ∃ m, (revS RL k i e).length = m + 1 := ⟨(revS RL k i e).length - 1, by omega⟩
              have z0 : (((revS RL k i e).length : Int) == 0) = false := by simpa using hl0
              obtain ⟨b3, off3, e4, _, c3⟩ := RV.out m (by omega)
              rw [hm, Nat.add_sub_cancel] at hla
              rw [hla] at c3
              have hwr : IntKind.i64.wrap (((revS RL k i e).length : Int) - 1) = (m : Int) := by rw [IntKind.wrap_i64]; omega
              have hml : m < (revS RL k i e).length := by omega
              have M6 : Hid (GrowT wp w.heap.size (w.heap.size + 1) n 34 3 1 (fun e => (revS RL k (i + 1) e).length) (fun e => vI (revS RL k (i + 1) e)) vs) := by
                have h : ∀ j, j < n → revS RL k i j = revS RL k (i + 1) j := fun j hj => by
                  by_cases h : j = e
                  · subst h; exact (HD.out j hc).symm
                  · exact (SK2.out j hj h).symm
                exact MR.out.congr (fun j hj => by rw [h j hj]) (fun j hj => by rw [h j hj])
              subst e4
              rw [hve] at hv
              clear MR SK HD NW LN LY LB SK2 hOw hve hc CI hm hla hl0 RV
              go_wp2_with fail
              refine (CIx.out _).mono ?_
              rintro e3 w3 ⟨rfl, rfl⟩
              go_wp2
              go_roundw
              case rel => exact ⟨i + 1, _, by omega, by go_num, M6, BB⟩
              case measure => simp [intOf]; omega
          · have hb : inR x (n : Int) = false := by
              cases h : inR x (n : Int)
              · rfl
              · exact absurd (inR_iff.1 h) hx
            rw [hb] at CIx
            have M6 : Hid (GrowT wp w.heap.size (w.heap.size + 1) n 34 3 1 (fun e => (revS RL k (i + 1) e).length) (fun e => vI (revS RL k (i + 1) e)) vs) := by
              have h : ∀ j, j < n → revS RL k i j = revS RL k (i + 1) j := fun j hj => (SK.out j (fun c => hx (by omega))).symm
              exact MR.out.congr (fun j hj => by rw [h j hj]) (fun j hj => by rw [h j hj])
            clear MR SK HD NW LN LY LB CI hx hb
            go_wp2_with fail
            refine (CIx.out _).mono ?_
            rintro e3 w3 ⟨rfl, rfl⟩
            go_wp2
            go_roundw
            case rel => exact ⟨i + 1, _, by omega, by go_num, M6, BB⟩
            case measure => simp [intOf]; omega
        · obtain rfl : i = (RL k).length := by omega
          have M6 : Hid (GrowT wp w.heap.size (w.heap.size + 1) n 34 3 1 (fun e => (revS RL (k + 1) 0 e).length) (fun e => vI (revS RL (k + 1) 0 e)) vs) := MR.out.congr (fun j _ => by rw [HNX.out j]) (fun j _ => by rw [HNX.out j])
          clear MR CI
          go_wp2
          go_roundw
          case rel => exact ⟨k + 1, _, by omega, by go_num, M6, BB⟩
          case measure => simp [intOf]; omega
    · obtain rfl : k = n := by omega
      have M6 : Hid (GrowT wo w.heap.size (w.heap.size + 1) k 34 3 1 (fun e => (revV RL k e).length) (fun e => vI (revV RL k e)) vs0) := MR.out.congr (fun j _ => by rw [revS_end]) (fun j _ => by rw [revS_end])
      clear MR CI
      go_wp2
      go_ret
      exact ⟨_, rfl, M6.out, BB.out⟩
end Go.Proofs.YtlbcdnobpnllkaaGreat.Dg
