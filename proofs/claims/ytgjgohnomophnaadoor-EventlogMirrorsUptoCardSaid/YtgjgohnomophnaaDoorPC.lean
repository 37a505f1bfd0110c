/- Event logs: the law Checks. -/
import Derived.Test.YtgjgohnomophnaaDoorTP
namespace Go.Proofs.YtgjgohnomophnaaDoor
open Go.RowKit

theorem RowsC.reads {w : World} {A : Option Addr} {L : List Row} {c : Nat} (h : RowsC w A L c) (hf : FewP L) : ReadsL w A L ∧ L.length ≤ 80 := by
  refine ⟨⟨h.cells, fun r hr => ⟨(h.rows r hr).1, ?_⟩⟩, hf.1⟩
  obtain ⟨j, hj, rfl⟩ := List.getElem_of_mem hr
  have := (hf.2.1 j hj).1
  unfold rA at this
  rw [List.getElem?_eq_getElem hj] at this
  exact Nat.le_trans this (by decide)
theorem few_c (A : Option Addr) (L : List Row) (c : Nat) (w : World) (hW : RowsC w A L c) :
    Calls Tryd.prog 9 #[.slice A L.length c] w fun e w' => FewPost (FewP L) e ∧ w = w' :=
  few_any A L c w hW.cells (by have := hW.len; unfold maxLen at this; omega) (fun r hr => ⟨(hW.rows r hr).1, by have := (hW.rows r hr).2.1; unfold maxLen at this; omega⟩)
set_option maxHeartbeats 4000000 in
theorem checks_txt (A : Option Addr) (L : List Row) (c : Nat) (s : Txt) (w : World) (hW : RowsC w A L c) :
    Calls Tryd.prog 3 #[.slice A L.length c, .string ⟨s.toArray⟩] w fun e w' => e = .returned (.bool true) ∧ Below w.heap.size w w' := by
  have CF := Lib.hid (few_c A L c w hW)
  have CA := Lib.hid (fun W (h : Below w.heap.size w W) => (alive_any W).mono fun e w' k => (⟨k.1, h.trans (k.2.mono h.size)⟩ : e = .returned (.bool true) ∧ Below w.heap.size w w'))
  have Z : Hid (Below w.heap.size w w) := Below.refl _ _
  have HR : Hid (FewP L → FewP L ∧ ReadsL w A L ∧ ∀ j, j < L.length → (rA L j).zs.length ≤ (rA L j).cap) := fun h => ⟨h, (RowsC.reads hW h).1, fun j hj => (hW.rows _ (rA_mem hj)).2.2⟩
  generalize hFP : FewP L = FP at *
  replace hFP := Lib.hid hFP
  clear hW
  go_enter Tryd.func3, Tryd.ntmps3
  go_wp2_with fail
  refine CF.out.mono ?_
  rintro e w1 ⟨⟨fb, rfl, hfb⟩, rfl⟩
  cases fb
  · clear hfb HR CF
    go_wp2_with fail
    refine (CA.out w Z.out).mono ?_
    rintro e w1 ⟨rfl, K⟩
    have K := Lib.hid K
    go_wp2
    go_ret
    exact ⟨rfl, K.out⟩
  · obtain ⟨hf', R, hcap⟩ := HR.out (hfb rfl)
    have hf : FewP L := by rw [hFP.out]; exact hf'
    by_cases ha : 100 < s.length
    · have ea : ((100 : Int) < (s.length : Int)) = True := by simp; omega
      clear hfb HR CF R hcap hf hf'
      go_wp2_with fail
      refine (CA.out w Z.out).mono ?_
      rintro e w1 ⟨rfl, K⟩
      have K := Lib.hid K
      go_wp2
      go_ret
      exact ⟨rfl, K.out⟩
    · have ea : ((100 : Int) < (s.length : Int)) = False := by simp; omega
      have C1 := Lib.hid (text_log A L c w R hf hcap)
      have C2 := Lib.hid (fun W (h : Below w.heap.size w W) => rtext_log A L c W (R.below h (Nat.le_refl _)) hf)
      have C3 := Lib.hid (fun W => name_any ⟨s.toArray⟩ W (by unfold maxLen; simp [ByteArray.size]; omega))
      have C4 := Lib.hid (fun W => rname_any ⟨s.toArray⟩ W (by unfold maxLen; simp [ByteArray.size]; omega))
      have C5 := Lib.hid (fun W (h : Below w.heap.size w W) => check_log A L c W (R.below h (Nat.le_refl _)) (by have := hf.1; omega) (fun j i _ _ => Nat.le_trans (hf.str j i) (by decide)))
      have C6 := Lib.hid (fun W (h : Below w.heap.size w W) => rcheck_log A L c W (R.below h (Nat.le_refl _)) (by have := hf.1; omega) (fun j i _ _ => Nat.le_trans (hf.str j i) (by decide)))
      clear hfb HR CF R hcap hf hf'
      generalize textV (rowsL L) = tv at *
      generalize chkL (rowsL L) = ck at *
      generalize nameB (bytesI ⟨s.toArray⟩) = nm at *
      obtain ⟨T, E, K⟩ := tv
      obtain ⟨E2, K2⟩ := ck
      go_wp2_with fail
      refine C1.out.mono ?_
      rintro e w1 ⟨rfl, k1⟩
      unfold flt
      dsimp only
      obtain ⟨w2, hw2⟩ : ∃ w2, w2 = w1.alloc (.cells #[.int .i64 E, .int .i64 (K : Int)] 27) := ⟨_, rfl⟩
      have F1 := FBx.new w1 E (K : Int)
      have B2 : Below w.heap.size w w2 := by rw [hw2]; exact k1.alloc k1.size _
      rw [← hw2] at F1
      have C2' := C2.out w2 B2
      rw [hw2] at C2'
      replace C2' := Lib.hid C2'
      go_wp2_with fail
      refine C2'.out.mono ?_
      rw [← hw2]
      clear C2' hw2
      rintro e w3 ⟨rfl, k3⟩
      unfold flt
      dsimp only
      have F3 := F1.keep (KeepOn.of_below (fun _ => True) k3) trivial
      have B3 := B2.trans (k3.mono B2.size)
      obtain ⟨w4, hw4⟩ : ∃ w4, w4 = w3.alloc (.cells #[.int .i64 E, .int .i64 (K : Int)] 27) := ⟨_, rfl⟩
      have G4 := FBx.new w3 E (K : Int)
      have F4 : FBx w4 w1.heap.size E K := by rw [hw4]; exact F3.keep (KeepOn.alloc (S := fun _ => True) _ _) trivial
      have B4 : Below w.heap.size w w4 := by rw [hw4]; exact B3.alloc B3.size _
      rw [← hw4] at G4
      have C3' := C3.out w4
      rw [hw4] at C3'
      replace C3' := Lib.hid C3'
      clear k1 k3 F1 F3 B2 B3
      go_wp2_with fail
      refine C3'.out.mono ?_
      rw [← hw4]
      clear C3' hw4
      rintro e w5 ⟨rfl, k5⟩
      have F5 := F4.keep (KeepOn.of_below (fun _ => True) k5) trivial
      have G5 := G4.keep (KeepOn.of_below (fun _ => True) k5) trivial
      have B5 := B4.trans (k5.mono B4.size)
      clear k5 F4 G4 B4
      go_wp2_with fail
      refine (C4.out w5).mono ?_
      rintro e w6 ⟨rfl, rfl⟩
      go_wp2_with fail
      refine (C5.out w5 B5).mono ?_
      rintro e w7 ⟨rfl, k7⟩
      unfold flt
      dsimp only
      have F7 := F5.keep (KeepOn.of_below (fun _ => True) k7) trivial
      have G7 := G5.keep (KeepOn.of_below (fun _ => True) k7) trivial
      have B7 := B5.trans (k7.mono B5.size)
      clear k7 F5 G5 B5
      go_wp2_with fail
      refine (C6.out w7 B7).mono ?_
      rintro e w8 ⟨rfl, k8⟩
      unfold flt
      dsimp only
      have F8 := F7.keep (KeepOn.of_below (fun _ => True) k8) trivial
      have G8 := G7.keep (KeepOn.of_below (fun _ => True) k8) trivial
      have B8 := Lib.hid (B7.trans (k8.mono B7.size))
      have q1 := F8.c0
      have q2 := F8.c1
      have q3 := G8.c0
      have q4 := G8.c1
      clear k8 F7 G7 B7
      go_wp2_with fail
      refine (CA.out w8 B8.out).mono ?_
      rintro e w9 ⟨rfl, K9⟩
      have K9 := Lib.hid K9
      go_wp2
      go_ret
      exact ⟨rfl, K9.out⟩
theorem checks_all (A : Option Addr) (L : List Row) (c : Nat) (s : ByteArray) (w : World) (hW : RowsC w A L c) :
    Calls Tryd.prog 3 #[.slice A L.length c, .string s] w fun e w' => e = .returned (.bool true) ∧ Below w.heap.size w w' := by
  obtain ⟨x, rfl, _⟩ := bytes_txt s
  exact checks_txt A L c x w hW
end Go.Proofs.YtgjgohnomophnaaDoor
