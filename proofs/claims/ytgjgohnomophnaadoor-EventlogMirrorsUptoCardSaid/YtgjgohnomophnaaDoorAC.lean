/- Event logs: the program's Activities, First, Last. -/
import Derived.Test.YtgjgohnomophnaaDoorDA
import Derived.Test.YtgjgohnomophnaaDoorDF
import Derived.Test.YtgjgohnomophnaaDoorDT
namespace Go.Proofs.YtgjgohnomophnaaDoor
open Go.RowKit Go.Maps Go.WideMaps

theorem addr_of {W : World} {B : Option Addr} {zs : List Txt} (h : ReadsS W B zs) (hn : zs ≠ []) : ∃ b off, B = some ⟨b, off, none⟩ := by
  obtain ⟨b, off, e, _⟩ := h 0 (List.length_pos_iff.2 hn)
  exact ⟨b, off, e⟩
theorem part_act : PartP 49 id := fun B zs cb W hn hl hc R => by
  clear hn
  go_enter Tryd.func49, Tryd.ntmps49
  go_wp2
  go_ret
  exact ⟨⟨B, cb, rfl, fun _ h => h⟩, rfl⟩
theorem part_fst : PartP 51 fstL := fun B zs cb W hn hl hc R => by
  obtain ⟨b, off, rfl⟩ := addr_of R hn
  have hz : 0 < zs.length := List.length_pos_iff.2 hn
  have e := fstL_eq hn
  have HP : Hid (∀ W', ReadsS W' (some ⟨b, off, none⟩) zs → ReadsS W' (some ⟨b, off, none⟩) (fstL zs)) := fun W' h => by
    rw [e]
    intro j hj
    obtain rfl : j = 0 := by simp at hj; omega
    exact h 0 hz
  have HL : Hid ((fstL zs).length = 1) := by show _ = _; rw [e]; rfl
  have h1 : 1 ≤ cb := by omega
  clear R hn e
  generalize fstL zs = ps at *
  generalize zs.length = n at *
  go_enter Tryd.func51, Tryd.ntmps51
  go_wp2
  go_ret
  exact ⟨⟨some ⟨b, off, none⟩, cb, by rw [HL.out]; rfl, HP.out⟩, rfl⟩
theorem part_lst : PartP 52 lstL := fun B zs cb W hn hl hc R => by
  obtain ⟨b, off, rfl⟩ := addr_of R hn
  have hz : 0 < zs.length := List.length_pos_iff.2 hn
  have e := lstL_eq hn
  have HP : Hid (∀ W', ReadsS W' (some ⟨b, off, none⟩) zs → ReadsS W' (some ⟨b, off + (zs.length - 1), none⟩) (lstL zs)) := fun W' h => by
    rw [e]
    intro j hj
    obtain rfl : j = 0 := by simp at hj; omega
    obtain ⟨b', off', e', h1, h2⟩ := h (zs.length - 1) (by omega)
    injection e' with e'
    injection e' with e1 e2
    subst e1 e2
    exact ⟨_, _, rfl, h1, h2⟩
  have HL : Hid ((lstL zs).length = 1) := by show _ = _; rw [e]; rfl
  clear R hn e
  generalize lstL zs = ps at *
  generalize zs.length = n at *
  obtain ⟨m, rfl⟩ : ∃ m, n = m + 1 := ⟨n - 1, by omega⟩
  go_enter Tryd.func52, Tryd.ntmps52
  go_wp2
  go_ret
  exact ⟨⟨some ⟨b, off + m, none⟩, cb - m, by rw [HL.out]; rfl, HP.out⟩, rfl⟩
theorem fst_len (x : List Txt) : (fstL x).length ≤ x.length := by unfold fstL; rw [List.length_take]; omega
theorem lst_len (x : List Txt) : (lstL x).length ≤ x.length := by unfold lstL; rw [List.length_drop]; omega
theorem fst_at (x : List Txt) (i : Nat) : ∃ j, atS (fstL x) i = atS x j := by
  by_cases h : i < 1
  · exact ⟨i, by unfold atS fstL; rw [List.getElem?_take, if_pos h]⟩
  · refine ⟨x.length, ?_⟩
    unfold atS fstL
    rw [List.getElem?_take, if_neg h, List.getElem?_eq_none (Nat.le_refl _)]
theorem lst_at (x : List Txt) (i : Nat) : ∃ j, atS (lstL x) i = atS x j := ⟨x.length - 1 + i, by unfold atS lstL; rw [List.getElem?_drop]⟩
theorem acts_any (A : Option Addr) (L : List Row) (c : Nat) (w : World) (hr : LogR w A L) : Calls Tryd.prog 24 #[.slice A L.length c] w (InsPost w.heap.size w (actV (rowsL L))) := by
  have C := distinct_act id (fun _ => Nat.le_refl _) (fun x i => ⟨i, rfl⟩) part_act A L c w hr
  have e : insAll (accK id (rowsL L) L.length) = actV (rowsL L) := by
    unfold actV
    rw [acc_act, rowsL_len]
  rw [e] at C
  replace C := Lib.hid C
  generalize actV (rowsL L) = R at *
  clear hr e
  go_enter Tryd.func24, Tryd.ntmps24
  go_wp2_with fail
  refine C.out.mono ?_
  rintro e w1 ⟨A1, c1, rfl, R1, K1⟩
  have R1 := Lib.hid R1
  have K1 := Lib.hid K1
  go_wp2
  go_ret
  exact ⟨A1, c1, rfl, R1.out, K1.out⟩
theorem firsts_any (A : Option Addr) (L : List Row) (c : Nat) (w : World) (hr : LogR w A L) : Calls Tryd.prog 26 #[.slice A L.length c] w (InsPost w.heap.size w (firV (rowsL L))) := by
  have C := distinct_fst fstL fst_len fst_at part_fst A L c w hr
  have e : insAll (accK fstL (rowsL L) L.length) = firV (rowsL L) := by
    unfold firV
    rw [acc_pick (fun x h => fstL_eq h), rowsL_len]
  rw [e] at C
  replace C := Lib.hid C
  generalize firV (rowsL L) = R at *
  clear hr e
  go_enter Tryd.func26, Tryd.ntmps26
  go_wp2_with fail
  refine C.out.mono ?_
  rintro e w1 ⟨A1, c1, rfl, R1, K1⟩
  have R1 := Lib.hid R1
  have K1 := Lib.hid K1
  go_wp2
  go_ret
  exact ⟨A1, c1, rfl, R1.out, K1.out⟩
theorem lasts_any (A : Option Addr) (L : List Row) (c : Nat) (w : World) (hr : LogR w A L) : Calls Tryd.prog 28 #[.slice A L.length c] w (InsPost w.heap.size w (lasV (rowsL L))) := by
  have C := distinct_lst lstL lst_len lst_at part_lst A L c w hr
  have e : insAll (accK lstL (rowsL L) L.length) = lasV (rowsL L) := by
    unfold lasV
    rw [acc_pick (fun x h => lstL_eq h), rowsL_len]
  rw [e] at C
  replace C := Lib.hid C
  generalize lasV (rowsL L) = R at *
  clear hr e
  go_enter Tryd.func28, Tryd.ntmps28
  go_wp2_with fail
  refine C.out.mono ?_
  rintro e w1 ⟨A1, c1, rfl, R1, K1⟩
  have R1 := Lib.hid R1
  have K1 := Lib.hid K1
  go_wp2
  go_ret
  exact ⟨A1, c1, rfl, R1.out, K1.out⟩
end Go.Proofs.YtgjgohnomophnaaDoor
