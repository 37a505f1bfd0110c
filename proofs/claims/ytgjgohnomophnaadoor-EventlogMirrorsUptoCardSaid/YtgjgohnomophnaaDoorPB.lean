/- Event logs: the law Follows. -/
import Derived.Test.YtgjgohnomophnaaDoorEN
import Derived.Test.YtgjgohnomophnaaDoorPA
namespace Go.Proofs.YtgjgohnomophnaaDoor
open Go.RowKit

theorem FewP.reads {w : World} {A : Option Addr} {L : List Row} {c : Nat} (h : RowsW w A L c) (hf : FewP L) : ReadsL w A L ∧ L.length ≤ 80 := by
  refine ⟨⟨h.cells, fun r hr => ⟨(h.rows r hr).1, ?_⟩⟩, hf.1⟩
  obtain ⟨j, hj, rfl⟩ := List.getElem_of_mem hr
  have := (hf.2.1 j hj).1
  unfold rA at this
  rw [List.getElem?_eq_getElem hj] at this
  exact Nat.le_trans this (by decide)
set_option maxHeartbeats 2000000 in
theorem follows_txt (A : Option Addr) (L : List Row) (c : Nat) (a b : Txt) (w : World) (hW : RowsW w A L c) :
    Calls Tryd.prog 6 #[.slice A L.length c, .string ⟨a.toArray⟩, .string ⟨b.toArray⟩] w fun e w' => e = .returned (.bool true) ∧ Below w.heap.size w w' := by
  have CF := Lib.hid (few_any A L c w hW.cells (by have := hW.len; unfold maxLen at this; omega) (fun r hr => ⟨(hW.rows r hr).1, by have := (hW.rows r hr).2; unfold maxLen at this; omega⟩))
  have CA := Lib.hid (alive_any w)
  have HR : Hid (FewP L → ReadsL w A L ∧ L.length ≤ 80) := fun h => FewP.reads hW h
  generalize FewP L = FP at *
  clear hW
  go_enter Tryd.func6, Tryd.ntmps6
  go_wp2_with fail
  refine CF.out.mono ?_
  rintro e w1 ⟨⟨fb, rfl, hfb⟩, rfl⟩
  cases fb
  · clear hfb HR CF
    go_wp2_with fail
    refine CA.out.mono ?_
    rintro e w1 ⟨rfl, K⟩
    have K := Lib.hid K
    go_wp2
    go_ret
    exact ⟨rfl, K.out⟩
  · obtain ⟨R, hl⟩ := HR.out (hfb rfl)
    have C1 := Lib.hid (follows_any A L c a b w R (by omega))
    have C2 := Lib.hid (rfollows_any A L c a b w R (by omega))
    have C3 := Lib.hid (relation_any A L c a b w R (by omega))
    have C4 := Lib.hid (rrelation_any A L c a b w R (by omega))
    clear hfb HR CF R
    generalize relV (folV (rowsL L) a b) (folV (rowsL L) b a) = rv at *
    generalize folV (rowsL L) a b = fv at *
    by_cases ha : 100 < a.length
    · have ea : ((100 : Int) < (a.length : Int)) = True := by simp; omega
      clear C1 C2 C3 C4
      go_wp2_with fail
      refine CA.out.mono ?_
      rintro e w1 ⟨rfl, K⟩
      have K := Lib.hid K
      go_wp2
      go_ret
      exact ⟨rfl, K.out⟩
    · have ea : ((100 : Int) < (a.length : Int)) = False := by simp; omega
      by_cases hb : 100 < b.length
      · have eb : ((100 : Int) < (b.length : Int)) = True := by simp; omega
        clear C1 C2 C3 C4
        go_wp2_with fail
        refine CA.out.mono ?_
        rintro e w1 ⟨rfl, K⟩
        have K := Lib.hid K
        go_wp2
        go_ret
        exact ⟨rfl, K.out⟩
      · have eb : ((100 : Int) < (b.length : Int)) = False := by simp; omega
        go_wp2_with fail
        refine C1.out.mono ?_
        rintro e w1 ⟨rfl, rfl⟩
        go_wp2_with fail
        refine C2.out.mono ?_
        rintro e w1 ⟨rfl, rfl⟩
        go_wp2_with fail
        refine C3.out.mono ?_
        rintro e w1 ⟨rfl, rfl⟩
        go_wp2_with fail
        refine C4.out.mono ?_
        rintro e w1 ⟨rfl, rfl⟩
        go_wp2_with fail
        refine CA.out.mono ?_
        rintro e w1 ⟨rfl, K⟩
        have K := Lib.hid K
        go_wp2
        go_ret
        exact ⟨rfl, K.out⟩
theorem follows_all (A : Option Addr) (L : List Row) (c : Nat) (a b : ByteArray) (w : World) (hW : RowsW w A L c) :
    Calls Tryd.prog 6 #[.slice A L.length c, .string a, .string b] w fun e w' => e = .returned (.bool true) ∧ Below w.heap.size w w' := by
  obtain ⟨x, rfl, _⟩ := bytes_txt a
  obtain ⟨y, rfl, _⟩ := bytes_txt b
  exact follows_txt A L c x y w hW
end Go.Proofs.YtgjgohnomophnaaDoor
