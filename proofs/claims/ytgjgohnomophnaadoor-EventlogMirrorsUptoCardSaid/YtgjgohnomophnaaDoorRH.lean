/- Event logs: the reference's ascending lists: Has, Insert. -/
import Derived.Test.YtgjgohnomophnaaDoorTM
import Derived.Sort.Walk0
namespace Go.Proofs.YtgjgohnomophnaaDoor
open Go.RowKit

def putT : List Txt → Txt → List Txt
  | [], s => [s]
  | x :: r, s => if s < x then s :: x :: r else x :: putT r s
def insT (l : List Txt) (s : Txt) : List Txt := if s ∈ l then l else putT l s
/-- what stands between two rounds -/
def PutI (l : List Txt) (s : Txt) (i : Nat) (put : Bool) (out : List Txt) : Prop := putT l s = out ++ (if put = true then l.drop i else putT (l.drop i) s)
theorem drop_at {l : List Txt} {i : Nat} (h : i < l.length) : l.drop i = atS l i :: l.drop (i + 1) := by
  rw [List.drop_eq_getElem_cons h]
  unfold atS
  rw [List.getElem?_eq_getElem h]
  rfl
theorem PutI.start (l : List Txt) (s : Txt) : PutI l s 0 false [] := rfl
theorem PutI.put {l : List Txt} {s : Txt} {i : Nat} {out : List Txt} (h : PutI l s i false out) (hi : i < l.length) (hs : s < atS l i) : PutI l s (i + 1) true ((out ++ [s]) ++ [atS l i]) := by
  unfold PutI at h ⊢
  rw [h, drop_at hi]
  simp [putT, hs]
theorem PutI.pass {l : List Txt} {s : Txt} {i : Nat} {out : List Txt} (h : PutI l s i false out) (hi : i < l.length) (hs : ¬ s < atS l i) : PutI l s (i + 1) false (out ++ [atS l i]) := by
  unfold PutI at h ⊢
  rw [h, drop_at hi]
  simp only [Bool.false_eq_true, if_false]
  rw [putT, if_neg hs]
  simp
theorem PutI.copy {l : List Txt} {s : Txt} {i : Nat} {out : List Txt} (h : PutI l s i true out) (hi : i < l.length) : PutI l s (i + 1) true (out ++ [atS l i]) := by
  unfold PutI at h ⊢
  rw [h, drop_at hi]
  simp
theorem PutI.last {l : List Txt} {s : Txt} {i : Nat} {out : List Txt} (h : PutI l s i false out) (hi : ¬ i < l.length) : putT l s = out ++ [s] := by
  unfold PutI at h
  rw [h, List.drop_of_length_le (by omega)]
  rfl
theorem PutI.done {l : List Txt} {s : Txt} {i : Nat} {out : List Txt} (h : PutI l s i true out) (hi : ¬ i < l.length) : putT l s = out := by
  unfold PutI at h
  rw [h, List.drop_of_length_le (by omega)]
  simp
theorem putT_len (l : List Txt) (s : Txt) : (putT l s).length = l.length + 1 := by
  induction l with
  | nil => rfl
  | cons x r ih =>
    rw [putT]
    split
    · rfl
    · rw [List.length_cons, ih]; rfl
theorem insT_len (l : List Txt) (s : Txt) : (insT l s).length ≤ l.length + 1 := by
  unfold insT
  split
  · omega
  · rw [putT_len]; exact Nat.le_refl _
theorem mem_atS {l : List Txt} {s : Txt} {i : Nat} (hi : i < l.length) (h : atS l i = s) : s ∈ l := by
  rw [← h]; exact atS_mem hi
theorem not_mem_atS {l : List Txt} {s : Txt} (h : ∀ i, i < l.length → atS l i ≠ s) : s ∉ l := fun hm => by
  obtain ⟨i, hi, e⟩ := List.getElem_of_mem hm
  have := h i hi
  unfold atS at this
  rw [List.getElem?_eq_getElem hi] at this
  exact this e
set_option maxHeartbeats 1000000 in
theorem rhas_any (A : Option Addr) (l : List Txt) (c : Nat) (s : Txt) (w : World) (R : ReadsS w A l) (hl : l.length ≤ 100000) :
    Calls Tryd.prog 63 #[.slice A l.length c, .string ⟨s.toArray⟩] w fun e w' => e = .returned (.bool (decide (s ∈ l))) ∧ w = w' := by
  have HY : Hid (∀ i, i < l.length → atS l i = s → true = decide (s ∈ l)) := fun i hi h => (decide_eq_true (mem_atS hi h)).symm
  have HN : Hid ((∀ i, i < l.length → atS l i ≠ s) → false = decide (s ∈ l)) := fun h => (decide_eq_false (not_mem_atS h)).symm
  have R := Lib.hid R
  generalize decide (s ∈ l) = S at *
  go_enter Tryd.func63, Tryd.ntmps63
  go_wp2
  go_loop [5] (fun q => ∃ i : Nat, i ≤ l.length ∧ q = .int .i64 i ∧ Hid (∀ j, j < i → atS l j ≠ s)) (fun q => l.length - (intOf q).toNat)
  case atStart => exact ⟨0, Nat.zero_le _, rfl, fun j hj => absurd hj (by omega)⟩
  case round =>
    obtain ⟨i, hi, rfl, HM⟩ := hrel
    by_cases hlt : i < l.length
    · obtain ⟨b, off, rfl, h1⟩ := at_of_reads R.out i hlt
      have HYi := Lib.hid (HY.out i hlt)
      have HM1 : Hid (atS l i ≠ s → ∀ j, j < i + 1 → atS l j ≠ s) := fun h j hj => by
        by_cases e : j = i
        · rw [e]; exact h
        · exact HM.out j (by omega)
      generalize atS l i = x at *
      by_cases hx : x = s
      · have E := Lib.hid (HYi.out hx)
        have e1 : (x == s) = true := by simpa using hx
        clear hx HYi HM1
        go_wp2
        go_ret
        exact ⟨ret_b E.out, rfl⟩
      · have e1 : (x == s) = false := by simpa using hx
        have HM2 := Lib.hid (HM1.out hx)
        clear hx HYi HM1
        go_wp2
        go_round
        case rel => exact ⟨i + 1, by omega, by go_num, HM2.out⟩
        case measure => simp [intOf]; omega
    · obtain rfl : i = l.length := by omega
      have E := Lib.hid (HN.out HM.out)
      go_wp2
      go_ret
      exact ⟨ret_b E.out, rfl⟩
theorem less_iff (s x : Txt) : Op.bytesLess s x = true ↔ s < x := by rw [bytesLess_eq, decide_eq_true_eq]
def InsPost (g : Nat) (w : World) (l : List Txt) (e : Ending) (w' : World) : Prop := ∃ A c, e = .returned (.slice A (List.length l) c) ∧ ReadsS w' A l ∧ Below g w w'
set_option maxHeartbeats 4000000 in
theorem rinsert_any (A : Option Addr) (l : List Txt) (c : Nat) (s : Txt) (w : World) (R : ReadsS w A l) (hl : l.length ≤ 10000) :
    Calls Tryd.prog 50 #[.slice A l.length c, .string ⟨s.toArray⟩] w (InsPost w.heap.size w (insT l s)) := by
  have CH := Lib.hid (rhas_any A l c s w R (by omega))
  by_cases hm : s ∈ l
  · rw [show insT l s = l by unfold insT; rw [if_pos hm]]
    rw [decide_eq_true hm] at CH
    clear hm
    go_enter Tryd.func50, Tryd.ntmps50
    go_wp2_with fail
    refine CH.out.mono ?_
    rintro e w1 ⟨rfl, rfl⟩
    go_wp2
    go_ret
    exact ⟨A, c, rfl, R, Below.refl _ _⟩
  · rw [show insT l s = putT l s by unfold insT; rw [if_neg hm]]
    rw [decide_eq_false hm] at CH
    have H0 := Lib.hid (PutI.start l s)
    have R := Lib.hid R
    clear hm
    go_enter Tryd.func50, Tryd.ntmps50
    go_wp2_with fail
    refine CH.out.mono ?_
    rintro e w1 ⟨rfl, rfl⟩
    go_wp2
    go_loopg [5, 6, 7] l.length (fun gg v p q wr => ∃ (i : Nat) (put : Bool) (out : List Txt), gg = l.length - i ∧ i ≤ l.length ∧ q = .int .i64 i ∧ p = .bool put ∧ Hid (OwnT wr w.heap.size v out) ∧ (put = false → out.length ≤ i) ∧ out.length ≤ i + 1 ∧ Hid (PutI l s i put out) ∧ Hid (Below w.heap.size w wr))
    case atStart => exact ⟨0, false, [], rfl, Nat.zero_le _, rfl, rfl, OwnT.nil _ _, by simp, by simp, H0.out, Below.refl _ _⟩
    case round =>
      obtain ⟨i, put, out, hgg, hi, rfl, rfl, O, hof, hol, HP, B⟩ := hrel
      obtain ⟨vA, vc, rfl, RV⟩ := ReadsS.own O.out
      replace RV := Lib.hid RV
      have gs := B.out.size
      by_cases hlt : i < l.length
      · obtain ⟨b, off, rfl, h1⟩ := at_of_reads R.out i hlt
        have hb : b < w.heap.size := by
          obtain ⟨_, _, e, h, _⟩ := R.out i hlt
          cases e; exact h
        have q1 : wr.cell? ⟨b, off + i, none⟩ = some (.string ⟨(atS l i).toArray⟩) := (B.out.cell (p := ⟨b, off + i, none⟩) hb).trans h1
        have HQ := Lib.hid (fun W (h : Below w.heap.size wr W) => (h.cell (p := ⟨b, off + i, none⟩) hb).trans q1)
        cases put
        · have hof := hof rfl
          have HP1 := Lib.hid (fun h => PutI.put HP.out hlt h)
          have HP2 := Lib.hid (fun h => PutI.pass HP.out hlt h)
          generalize atS l i = x at *
          by_cases hx : s < x
          · have HP3 := Lib.hid (HP1.out hx)
            have eb : Op.bytesLess s x = true := (less_iff s x).2 hx
            clear hx
            have hl2 : (out ++ [s]).length ≤ 100000 := by rw [List.length_append, List.length_singleton]; omega
            go_wp2_with (first
              | (at_builtin; (refine wpList_txt rfl (.tmp 28) (.tmp 30) rfl w.heap.size _ out s rfl (O.out.alloc _) wr.heap.size rfl (cell_new1 _ _ _) (by omega) (by rw [World.size_alloc]; omega) ?_; intro v1 w4 o1 k1; have K1 : Below w.heap.size wr w4 := ((Below.refl _ _).alloc gs _).trans k1; have q2 := HQ.out w4 K1; have g1 := K1.size))
              | (at_builtin; refine wpList_txt rfl (.tmp 32) (.tmp 37) rfl w.heap.size _ (out ++ [s]) x rfl (o1.alloc _) w4.heap.size rfl (cell_new1 _ _ _) (by omega) (by rw [World.size_alloc]; omega) ?_; intro v2 w5 o2 k2))
            have B5 : Hid (Below w.heap.size w w5) := (B.out.trans K1).trans (((Below.refl _ _).alloc (by omega) _).trans k2)
            go_roundg (l.length - (i + 1))
            case rel => exact ⟨i + 1, true, (out ++ [s]) ++ [x], rfl, by omega, by go_num, rfl, o2, by simp, by rw [List.length_append, List.length_append]; simp; omega, HP3.out, B5.out⟩
            case measure => omega
          · have HP3 := Lib.hid (HP2.out hx)
            have eb : Op.bytesLess s x = false := by rw [← Bool.not_eq_true, less_iff]; exact hx
            clear hx
            go_wp2_with (at_builtin; refine wpList_txt rfl (.tmp 32) (.tmp 37) rfl w.heap.size _ out x rfl (O.out.alloc _) wr.heap.size rfl (cell_new1 _ _ _) (by omega) (by rw [World.size_alloc]; omega) ?_; intro v2 w5 o2 k2)
            have B5 : Hid (Below w.heap.size w w5) := B.out.trans (((Below.refl _ _).alloc gs _).trans k2)
            go_roundg (l.length - (i + 1))
            case rel => exact ⟨i + 1, false, out ++ [x], rfl, by omega, by go_num, rfl, o2, by rw [List.length_append]; simp; omega, by rw [List.length_append]; simp; omega, HP3.out, B5.out⟩
            case measure => omega
        · have HP3 := Lib.hid (PutI.copy HP.out hlt)
          generalize atS l i = x at *
          go_wp2_with (at_builtin; refine wpList_txt rfl (.tmp 32) (.tmp 37) rfl w.heap.size _ out x rfl (O.out.alloc _) wr.heap.size rfl (cell_new1 _ _ _) (by omega) (by rw [World.size_alloc]; omega) ?_; intro v2 w5 o2 k2)
          have B5 : Hid (Below w.heap.size w w5) := B.out.trans (((Below.refl _ _).alloc gs _).trans k2)
          go_roundg (l.length - (i + 1))
          case rel => exact ⟨i + 1, true, out ++ [x], rfl, by omega, by go_num, rfl, o2, by simp, by rw [List.length_append]; simp; omega, HP3.out, B5.out⟩
          case measure => omega
      · cases put
        · have HE := Lib.hid (PutI.last HP.out hlt)
          go_wp2_with (at_builtin; refine wpList_txt rfl (.tmp 41) (.tmp 43) rfl w.heap.size _ out s rfl (O.out.alloc _) wr.heap.size rfl (cell_new1 _ _ _) (by omega) (by rw [World.size_alloc]; omega) ?_; intro v2 w5 o2 k2; obtain ⟨A2, c2, e2, R2⟩ := ReadsS.own o2)
          have B5 : Hid (Below w.heap.size w w5) := B.out.trans (((Below.refl _ _).alloc gs _).trans k2)
          go_ret
          exact ⟨A2, c2, by rw [HE.out, List.length_append]; rfl, by rw [HE.out]; exact R2, B5.out⟩
        · have HE := Lib.hid (PutI.done HP.out hlt)
          go_wp2
          go_ret
          exact ⟨vA, vc, by rw [HE.out]; rfl, by rw [HE.out]; exact RV.out, B.out⟩
end Go.Proofs.YtgjgohnomophnaaDoor
