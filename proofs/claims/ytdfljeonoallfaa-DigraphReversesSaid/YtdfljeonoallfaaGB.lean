/- Graphs in memory. -/
import Derived.Test.YtdfljeonoallfaaSR
import Derived.Test.YtdfljeonoallfaaRT
namespace Go.Proofs.Ytdfljeonoallfaa
open Go.RowKit Go.Deep

theorem infoSl : (Try.prog.info? 27).map (fun i => (i.zero, i.size, i.bytes)) = some (some (.slice none 0 0), 1, 24) := by kernel_rfl
theorem run_make_rows (n : Nat) (hn : n ≤ 100000) (w : World) : (Instr.makeSlice 22 (.int .i64 (n : Int)) (.int .i64 (n : Int))).run Try.prog w = .ok (.slice (some ⟨w.heap.size, 0, none⟩) n n) (w.alloc (.cells (madeCells #[.slice none 0 0] n) 27)) := by
  obtain ⟨i, hi, hzz⟩ := Option.map_eq_some_iff.1 infoSl
  simp only [Prod.mk.injEq] at hzz
  obtain ⟨hz, hs, hb⟩ := hzz
  have hr := run_make (P := Try.prog) w 22 27 i _ Try.underlying22 hi hz .i64 .i64 n n (by omega) (Int.le_refl _) (by rw [hb]; omega) (by omega)
  simp only [Int.toNat_natCast, hs, Nat.mul_one] at hr
  exact hr
/-- one number is appended to a row -/
theorem oper_int {o : Oper} {a : Act} {w : World} {K : Act → World → Prop} {Q : Exit → Act → World → Prop} (s x : Operand)
    (ho : o.op = .call { callee := .builtin .append, args := #[s, x], argTypes := #[27, 27] })
    (base : Nat) (v : Value) (l : List Int) (d : Int) (hs : a.eval s = v) (hO : w.ownsRow base 3 1 v l.length (vI l)) (g : Nat) (hx : a.eval x = .slice (some ⟨g, 0, none⟩) 1 1)
    (h0 : w.cell? ⟨g, 0, none⟩ = some (.int .i64 d)) (hl : l.length ≤ 100000) (hbase : base ≤ w.heap.size)
    (h : ∀ v' w', w'.ownsRow base 3 1 v' (l.length + 1) (vI l ++ [.int .i64 d]) → w.grownBy w' v.ownBlock → (v'.ownBlock = v.ownBlock ∨ v'.ownBlock = some w.heap.size) → K (a.put o.dst v') w') : Oper.wp Try.prog o a w K Q := by
  obtain ⟨i, hi, hz, e1, e2⟩ := info_parts infoI
  refine oper_append_blk w s x 27 ho base 3 i _ 1 8 Try.underlying27 hi hz e1 e2 rfl (by decide) v l.length (vI l) hs hO ⟨g, 0, none⟩ 1 1 [.int .i64 d] hx rfl ?_ ?_ (by unfold maxLen; omega) (by omega) hbase h
  · intro j u hj
    match j, hj with
    | 0, hj => simp at hj; subst hj; simpa [Addr.add] using h0
    | j + 1, hj => simp at hj
  · intro u hu
    simp at hu
    subst hu
    rfl
def addrOf : Value → Option Addr
  | .slice A _ _ => A
  | _ => none
def capOf : Value → Nat
  | .slice _ _ c => c
  | _ => 0
theorem graph_of {w : World} {T B N : Nat} {L : Nat → List Int} {vs : Nat → Value} (h : GrowT w T B N 27 3 1 (fun e => (L e).length) (fun e => vI (L e)) vs) (hn : N ≤ 200) (hl : ∀ e, (L e).length ≤ 400) : GraphR w (some ⟨T, 0, none⟩) N (fun e => addrOf (vs e)) L (fun e => capOf (vs e)) where
  hn := by omega
  row := fun e he => by
    obtain ⟨A, c, e1, h1⟩ := ReadsV.own (h.2.2.2.1 e he)
    refine ⟨T, 0, rfl, h.2.2.1.lt, ?_⟩
    rw [Nat.zero_add, h.2.2.1.cell he]
    rw [e1]
    rfl
  rd := fun e he => by
    obtain ⟨A, c, e1, h1⟩ := ReadsV.own (h.2.2.2.1 e he)
    rw [e1]
    exact h1
  ll := fun e _ => Nat.le_trans (hl e) (by decide)
theorem GraphR.below {w w' : World} {gA : Option Addr} {n : Nat} {RA : Nat → Option Addr} {RL : Nat → List Int} {RK : Nat → Nat} (h : GraphR w gA n RA RL RK) (hb : Below w.heap.size w w') : GraphR w' gA n RA RL RK where
  hn := h.hn
  row := fun i hi => by
    obtain ⟨b, off, e, h1, h2⟩ := h.row i hi
    exact ⟨b, off, e, Nat.lt_of_lt_of_le h1 hb.size, (hb.cell (p := ⟨b, off + i, none⟩) h1).trans h2⟩
  rd := fun i hi => (h.rd i hi).below hb (Nat.le_refl _)
  ll := h.ll
end Go.Proofs.Ytdfljeonoallfaa
