/- Event logs: a copy of a list. -/
import Derived.Test.YtgjgohnomophnaaDoorIV
namespace Go.Proofs.YtgjgohnomophnaaDoor
open Go.RowKit

/-- a copy in a row of its own -/
def OwnPost (g : Nat) (w : World) (L : List Txt) (e : Ending) (w' : World) : Prop := ∃ v, e = .returned v ∧ w'.ownsRow g 9 1 v L.length (L.map (sv)) ∧ Below g w w'
theorem clone_law (A : Option Addr) (a : List Txt) (ca : Nat) (w : World) (ra : ReadsS w A a) (hl : a.length * 16 ≤ 140737488351232) :
    Calls Tryd.prog 46 #[.slice A a.length ca] w (OwnPost w.heap.size w a) := by
  have hq := fun (w : World) (n c : Nat) (a : Option Addr) => Lib.run_eql_slice_nil (P := Tryd.prog) w 41 9 a n c 0 0 Tryd.underlying41
  obtain ⟨i0, hi, hz0, hz1, hz2⟩ := info_parts infoStr
  have HI := Lib.hid hi
  have HZ0 := Lib.hid hz0
  have HZ1 := Lib.hid hz1
  have HZ2 := Lib.hid hz2
  clear hi hz0 hz1 hz2
  cases A with
  | none =>
    obtain rfl : a = [] := by
      cases a with
      | nil => rfl
      | cons x r => obtain ⟨_, _, h, _⟩ := ra 0 (by simp); cases h
    go_enter Tryd.func46, Tryd.ntmps46
    go_wp2
    go_ret
    exact ⟨_, rfl, World.ownsRow_nil _ _ _ _, Below.refl _ _⟩
  | some p =>
    have HC : Hid (∀ j u, (a.map (sv))[j]? = some u → (w.alloc (.cells #[] 9)).cell? (p.add j) = some u) := by
      intro j u hu
      have hj : j < a.length := by
        rcases Nat.lt_or_ge j a.length with h | h
        · exact h
        · rw [List.getElem?_eq_none (by simpa using h)] at hu; cases hu
      obtain ⟨b, off, h1, _, h2⟩ := (ra.alloc (.cells #[] 9)) j hj
      cases h1
      rw [Go.WideShapes.add_plain]
      rw [h2]
      rw [List.getElem?_map, List.getElem?_eq_getElem hj] at hu
      rw [← Option.some.inj hu]
      unfold atS
      rw [List.getElem?_eq_getElem hj]
      rfl
    have HO : Hid ((w.alloc (.cells #[] 9)).ownsRow w.heap.size 9 1 (.slice (some ⟨w.heap.size, 0, none⟩) 0 0) 0 []) := World.ownsRow_lit w #[] 0 (Nat.le_refl _) (by unfold maxLen; omega) rfl
    have H1 : Hid (∀ u ∈ a.map (sv), u.oneCell' = true) := by
      intro u hu
      obtain ⟨x, _, rfl⟩ := List.mem_map.1 hu
      rfl
    have hL : (a.map (sv)).length = a.length * 1 := by simp
    have HL := Lib.hid hL
    clear hL ra
    generalize hLL : a.map (sv) = L at *
    have HLL := Lib.hid hLL
    clear hLL
    generalize hn : a.length = n at *
    have HN := Lib.hid hn
    clear hn
    have B0 : Hid (Below w.heap.size w (w.alloc (.cells #[] 9))) := (Below.refl _ _).alloc (Nat.le_refl _) _
    go_enter Tryd.func46, Tryd.ntmps46
    go_wp2_with (at_builtin; (refine wpList_append_own _ rfl (.tmp 5) (.tmp 6) 41 rfl w.heap.size 9 i0 (.string ByteArray.empty) 1 16 Tryd.underlying41 HI.out HZ0.out HZ1.out HZ2.out rfl (by decide) (.slice (some ⟨w.heap.size, 0, none⟩) 0 0) 0 _ rfl HO.out p n ca L rfl HL.out HC.out H1.out (by unfold maxLen; omega) (by omega) (by rw [World.size_alloc]; omega) ?_); intro v' w5 hown' hgrow _)
    have B5 : Hid (Below w.heap.size w w5) := B0.out.grown hgrow (by rw [World.size_alloc]; omega) (fun q hq => by simp [Value.ownBlock] at hq; omega)
    have O5 : Hid (w5.ownsRow w.heap.size 9 1 v' n (a.map (sv))) := by
      show World.ownsRow _ _ _ _ _ _ _
      rw [HLL.out]
      simpa using hown'
    clear hown' hgrow
    go_wp2
    go_ret
    exact ⟨_, rfl, by rw [HN.out]; exact O5.out, B5.out⟩

end Go.Proofs.YtgjgohnomophnaaDoor
