/- Event logs: the words of a line in the reference. -/
import Derived.Test.YtgjgohnomophnaaDoorET
namespace Go.Proofs.YtgjgohnomophnaaDoor
open Go.RowKit

theorem neL_take (L : List Txt) (k : Nat) (hk : k < L.length) : neL (L.take (k + 1)) = if atS L k = [] then neL (L.take k) else neL (L.take k) ++ [atS L k] := by
  have e : L.take (k + 1) = L.take k ++ [atS L k] := by
    unfold atS
    rw [List.take_succ_eq_append_getElem hk, List.getElem?_eq_getElem hk]
    rfl
  rw [e, neL_snoc]
theorem neL_len (L : List Txt) (k : Nat) : (neL (L.take k)).length ≤ k := by
  have h1 : (neL (L.take k)).length ≤ (L.take k).length := List.length_filter_le _ _
  have h2 : (L.take k).length ≤ k := by rw [List.length_take]; omega
  omega
/-- one text is appended -/
theorem wpList_txt {ops : Array Oper} {rest : List Oper} {o : Oper} {a : Act} {w : World} {Q : Exit → Act → World → Prop} (hgd : o.guard = none) (s x : Operand)
    (ho : o.op = .call { callee := .builtin .append, args := #[s, x], argTypes := #[41, 41] })
    (base : Nat) (v : Value) (L : List Txt) (y : Txt) (hs : a.eval s = v) (hO : OwnT w base v L) (g : Nat) (hx : a.eval x = .slice (some ⟨g, 0, none⟩) 1 1)
    (hc : w.cell? ⟨g, 0, none⟩ = some (sv y)) (hl : L.length ≤ 100000) (hbase : base ≤ w.heap.size)
    (h : ∀ v' w', OwnT w' base v' (L ++ [y]) → Below base w w' → wpList Tryd.prog ops Q rest (a.put o.dst v') w') : wpList Tryd.prog ops Q (o :: rest) a w := by
  obtain ⟨i, hi, hz, h1, h2⟩ := info_parts infoStr
  refine wpList_append_own _ hgd s x 41 ho base 9 i (.string ByteArray.empty) 1 16 Tryd.underlying41 hi hz h1 h2 rfl (by decide) v L.length (L.map sv) hs hO ⟨g, 0, none⟩ 1 1 [sv y] hx rfl ?_ ?_ (by unfold maxLen; omega) (by omega) hbase ?_
  · intro j u hj
    cases j with
    | zero => simp at hj; subst hj; simpa [Addr.add] using hc
    | succ j => simp at hj
  · intro u hu
    simp at hu
    subst hu
    simp [Value.oneCell', sv]
  · intro v' w' hown hgrow _
    refine h v' w' ?_ ((Below.refl base w).grown hgrow hbase fun r e => (World.ownsRow.lt hO r e).1)
    unfold OwnT
    rw [List.map_append, List.length_append]
    exact hown
theorem OwnT.below {w w' : World} {s B : Nat} {v : Value} {L : List Txt} (h : OwnT w s v L) (hb : Below B w w') (hB : w.heap.size ≤ B) : OwnT w' s v L := own_below h hb hB
theorem OwnT.alloc {w : World} {s : Nat} {v : Value} {L : List Txt} (h : OwnT w s v L) (o : Obj) : OwnT (w.alloc o) s v L := h.below (B := w.heap.size) ((Below.refl _ _).alloc (Nat.le_refl _) _) (Nat.le_refl _)

set_option maxHeartbeats 4000000 in
set_option maxRecDepth 100000 in
theorem rwords_any (s : Txt) (hs : s.length ≤ 70000) (w : World) :
    Calls Tryd.prog 44 #[.string ⟨s.toArray⟩] w (AppPost w.heap.size w (wordsL s)) := by
  have C := Lib.hid (rsplit_law 32 s (by omega) w)
  have PL := Lib.hid (pieces_length 32 s)
  have HW : Hid (∀ k, ¬ k < (pieces 32 s).length → k ≤ (pieces 32 s).length → neL ((pieces 32 s).take k) = wordsL s) := fun k h1 h2 => by
    rw [List.take_of_length_le (by omega)]; rfl
  have HT := Lib.hid (neL_take (pieces 32 s))
  have HN := Lib.hid (neL_len (pieces 32 s))
  generalize hg : w.heap.size = g at *
  have HG := Lib.hid hg
  clear hg
  generalize wordsL s = WL at *
  generalize pieces 32 s = P at *
  go_enter Tryd.func44, Tryd.ntmps44
  go_wp2_with fail
  refine C.out.mono ?_
  rintro e w1 ⟨v, rfl, o1, k1⟩
  obtain ⟨A, c, rfl, R1⟩ := ReadsS.own o1
  replace R1 := Lib.hid R1
  have K1 := Lib.hid k1
  have hw1 := k1.size
  rw [HG.out] at hw1
  obtain ⟨g1, hg1⟩ : ∃ g1, g1 = w1.heap.size := ⟨_, rfl⟩
  have HG1 := Lib.hid hg1
  have hgg : g ≤ g1 := by omega
  clear o1 k1 hg1 C
  go_wp2
  go_loopg [4, 5] P.length (fun gg v q wr => ∃ k : Nat, gg = P.length - k ∧ k ≤ P.length ∧ q = .int .i64 k ∧ Hid (OwnT wr g1 v (neL (P.take k))) ∧ Hid (Below g1 w1 wr))
  case atStart => exact ⟨0, rfl, Nat.zero_le _, rfl, OwnT.nil _ _, Below.refl _ _⟩
  case round =>
    obtain ⟨k, hgg', hk, rfl, O, B1⟩ := hrel
    have gs := B1.out.size
    by_cases hlt : k < P.length
    · obtain ⟨b, off, rfl, hb, hc⟩ := R1.out k hlt
      have q1 : wr.cell? ⟨b, off + k, none⟩ = some (.string ⟨(atS P k).toArray⟩) := (B1.out.cell (p := ⟨b, off + k, none⟩) (by rw [HG1.out]; exact hb)).trans hc
      have hT := HT.out k hlt
      have hN := HN.out k
      have hP := PL.out
      by_cases he : atS P k = []
      · rw [if_pos he] at hT
        replace hT := Lib.hid hT
        have e1 : (atS P k != []) = false := by simpa using he
        rw [he] at q1
        clear he e1
        go_wp2
        go_roundg (P.length - (k + 1))
        case rel => exact ⟨k + 1, rfl, by omega, by go_num, by rw [hT.out]; exact O.out, B1.out⟩
        case measure => omega
      · rw [if_neg he] at hT
        replace hT := Lib.hid hT
        have e1 : List.isEmpty (atS P k) = false := by simpa using he
        clear he
        generalize atS P k = x at *
        have b1 : (neL (P.take k)).length ≤ 100000 := by omega
        go_wp2_with (at_builtin; go_loud (refine wpList_txt rfl (.tmp 19) (.tmp 24) rfl g1 _ (neL (P.take k)) x rfl (O.out.alloc _) wr.heap.size rfl (cell_new1 _ _ _) b1 (by rw [World.size_alloc]; have := HG1.out; omega) ?_); intro v' w5 o5 k5)
        have B5 : Hid (Below g1 w1 w5) := (B1.out.alloc (by have := HG1.out; omega) _).trans k5
        replace o5 := Lib.hid o5
        clear k5
        go_roundg (P.length - (k + 1))
        case rel => exact ⟨k + 1, rfl, by omega, by go_num, by rw [hT.out]; exact o5.out, B5.out⟩
        case measure => omega
    · have hE := Lib.hid (HW.out k hlt hk)
      go_wp2
      go_ret
      exact ⟨_, rfl, by rw [← hE.out]; exact own_mono O.out hgg, K1.out.trans (B1.out.mono hgg)⟩
end Go.Proofs.YtgjgohnomophnaaDoor
