/- A copy, by the reference. -/
import Derived.Test.YtkjdgkndlfhhjaaDoorOW
namespace Go.Proofs.YtkjdgkndlfhhjaaDoor
open Go.RowKit

def OwnI (w : World) (s : Nat) (v : Value) (zs : List Int) : Prop := w.ownsRow s 3 1 v zs.length (zs.map (Value.int .i64))
theorem OwnI.nil (w : World) (s : Nat) : OwnI w s (.slice none 0 0) [] := World.ownsRow_nil _ _ _ _
theorem OwnI.below {w w' : World} {s B : Nat} {v : Value} {zs : List Int} (h : OwnI w s v zs) (hb : Below B w w') (hB : w.heap.size ≤ B) : OwnI w' s v zs := own_below h hb hB
theorem OwnI.alloc {w : World} {s : Nat} {v : Value} {zs : List Int} (h : OwnI w s v zs) (o : Obj) : OwnI (w.alloc o) s v zs := h.below (B := w.heap.size) ((Below.refl _ _).alloc (Nat.le_refl _) _) (Nat.le_refl _)
theorem wpList_int {ops : Array Oper} {rest : List Oper} {o : Oper} {a : Act} {w : World} {Q : Exit → Act → World → Prop} (hgd : o.guard = none) (s x : Operand)
    (ho : o.op = .call { callee := .builtin .append, args := #[s, x], argTypes := #[28, 28] })
    (base : Nat) (v : Value) (zs : List Int) (z : Int) (hs : a.eval s = v) (hO : OwnI w base v zs) (g : Nat) (hx : a.eval x = .slice (some ⟨g, 0, none⟩) 1 1)
    (hc : w.cell? ⟨g, 0, none⟩ = some (.int .i64 z)) (hl : zs.length ≤ 17592186043904) (hbase : base ≤ w.heap.size)
    (h : ∀ v' w', OwnI w' base v' (zs ++ [z]) → Below base w w' → wpList Tryd.prog ops Q rest (a.put o.dst v') w') : wpList Tryd.prog ops Q (o :: rest) a w := by
  obtain ⟨i, hi, hz, h1, h2⟩ := info_parts infoI
  refine wpList_append_own _ hgd s x 28 ho base 3 i (.int .i64 0) 1 8 Tryd.underlying28 hi hz h1 h2 rfl (by decide) v zs.length (zs.map (Value.int .i64)) hs hO ⟨g, 0, none⟩ 1 1 [.int .i64 z] hx rfl ?_ ?_ (by unfold maxLen; omega) (by omega) hbase ?_
  · intro j u hj
    cases j with
    | zero => simp at hj; subst hj; simpa [Addr.add] using hc
    | succ j => simp at hj
  · intro u hu
    simp at hu
    subst hu
    simp [Value.oneCell']
  · intro v' w' hown hgrow _
    refine h v' w' ?_ ((Below.refl base w).grown hgrow hbase fun q e => (World.ownsRow.lt hO q e).1)
    unfold OwnI
    rw [List.map_append, List.length_append]
    exact hown
theorem take_snoc (a : List Int) {k : Nat} (hk : k < a.length) : a.take (k + 1) = a.take k ++ [at0 a k] := by
  rw [List.take_succ_eq_append_getElem hk]
  simp [at0, hk]
set_option maxHeartbeats 1000000 in
theorem copy_any (A : Option Addr) (a : List Int) (c : Nat) (w : World) (ra : ReadsV w A a) (hl : a.length ≤ 17592186043904) :
    Calls Tryd.prog 25 #[.slice A a.length c] w (fun e w' => ∃ A c, e = .returned (.slice A a.length c) ∧ FreshV w' A a ∧ Below w.heap.size w w') := by
  have RA := Lib.hid ra
  clear ra
  obtain ⟨g, hg⟩ : ∃ g, g = w.heap.size := ⟨_, rfl⟩
  have HG := Lib.hid hg
  rw [← hg]
  clear hg
  have TS : Hid (∀ k, k < a.length → a.take (k + 1) = a.take k ++ [at0 a k]) := fun k hk => take_snoc a hk
  have TA : Hid (a.take a.length = a) := List.take_length
  suffices h : Calls Tryd.prog 25 #[.slice A a.length c] w fun e w' => ∃ v, e = .returned v ∧ OwnI w' g v a ∧ Below g w w' from h.mono fun e w' ⟨v, he, ho, hb⟩ => by
    obtain ⟨A2, c2, rfl, R2⟩ := FreshV.own ho
    exact ⟨A2, c2, he, R2, hb⟩
  generalize hn : a.length = n at *
  have HN := Lib.hid hn
  clear hn
  go_enter Tryd.func25, Tryd.ntmps25
  go_wp2_with fail
  go_loopw [3, 4] (fun p q wr => ∃ k : Nat, k ≤ n ∧ q = .int .i64 k ∧ Hid (OwnI wr g p (a.take k)) ∧ Hid (Below g w wr)) (fun _ q _ => n - (intOf q).toNat)
  case atStart => exact ⟨0, by omega, rfl, OwnI.nil _ _, Below.refl _ _⟩
  case round =>
    obtain ⟨k, hk, rfl, O, BB⟩ := hrel
    have hsz := BB.out.size
    rw [← HG.out] at hsz
    by_cases hlt : k < n
    · obtain ⟨ba, oa, e1, hx⟩ := at_of_reads (RA.out.below BB.out (by rw [HG.out]; exact Nat.le_refl _)) k (by rw [HN.out]; exact hlt)
      subst e1
      have HT := Lib.hid (TS.out k hlt)
      have hkl : (a.take k).length ≤ 17592186043904 := by rw [List.length_take]; omega
      generalize at0 a k = x at *
      go_wp2_with (at_builtin; refine wpList_int rfl (.tmp 11) (.tmp 16) rfl g _ (a.take k) x rfl (O.out.alloc _) _ rfl (cell_new1 _ _ _) (by omega) (size_le_alloc hsz _) ?_; intro v' w5 hown' hb')
      have O5 : Hid (OwnI w5 g v' (a.take (k + 1))) := by
        show OwnI _ _ _ _
        rw [HT.out]
        exact hown'
      have B5 : Hid (Below g w w5) := (BB.out.alloc hsz _).trans hb'
      clear hown' hb'
      go_wp2
      go_roundw
      case rel => exact ⟨k + 1, by omega, by go_num, O5, B5⟩
      case measure => simp [intOf]; omega
    · obtain rfl : k = n := by omega
      rw [TA.out] at O
      go_wp2
      go_ret
      exact ⟨_, rfl, O.out, BB.out⟩
end Go.Proofs.YtkjdgkndlfhhjaaDoor
