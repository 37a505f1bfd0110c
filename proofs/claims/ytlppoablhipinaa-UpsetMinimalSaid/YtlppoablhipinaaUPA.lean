/- The law on Make and Valid. -/
import Derived.Test.YtlppoablhipinaaUN
namespace Go.Proofs.Ytlppoablhipinaa
open Go.RowKit

theorem sameR_of {L M : List Row} {R : List (List Int)} (h1 : rowsL L = R) (h2 : rowsL M = R) : sameR L M = true := decide_eq_true (h1.trans h2.symm)
theorem RowsW.at {w : World} {A : Option Addr} {L : List Row} {c : Nat} (h : RowsW w A L c) : ∀ W, Below w.heap.size w W → Calls Try.prog 10 #[.slice A L.length c] W (BPost W.heap.size W (fewB L)) := fun W hW => few_any A L c W (h.cells.below hW (Nat.le_refl _)) h.len

set_option maxHeartbeats 8000000 in
set_option maxRecDepth 100000 in
theorem upsetMakes_law (A : Option Addr) (L : List Row) (c : Nat) (x : Int) (w : World) (hr : RowsW w A L c) :
    Calls Try.prog 3 #[.slice A L.length c, .int .i64 x] w fun e w' => e = .returned (.bool true) ∧ Below w.heap.size w w' := by
  have LV : Hid (∀ W, Below w.heap.size w W → Calls Try.prog 11 #[] W (BPost W.heap.size W true)) := fun W _ => lives_any W
  have B0 : Hid (Below w.heap.size w w) := Below.refl _ _
  have Fa := Lib.hid (hr.at)
  cases fa : fewB L
  · rw [fa] at Fa
    clear fa hr
    go_enter Try.func3, Try.ntmps3
    go_wp2_with fail
    refine (Fa.out w B0.out).mono ?_
    rintro e w1 ⟨rfl, K⟩
    have Bw1 := Lib.hid (B0.out.trans (K.mono B0.out.size))
    clear K
    go_wp2_with fail
    refine (LV.out w1 Bw1.out).mono ?_
    rintro e w2 ⟨rfl, K⟩
    have Bw2 := Lib.hid (Bw1.out.trans (K.mono Bw1.out.size))
    clear K
    go_wp2
    go_ret
    exact ⟨rfl, Bw2.out⟩
  rw [fa] at Fa
  obtain ⟨Ra, la⟩ := hr.few fa
  have Ra : Hid (∀ W, Below w.heap.size w W → ReadsL W A L) := fun W hW => Ra.below hW (Nat.le_refl _)
  clear hr fa
  have PMa : Hid (∀ W, Below w.heap.size w W → Calls Try.prog 13 #[.slice A L.length c] W (MPost L.length W (makeL (rowsL L)))) := fun W hW => make_any A L c W (Ra.out W hW) (by omega)
  have QMa : Hid (∀ W, Below w.heap.size w W → Calls Try.prog 14 #[.slice A L.length c] W (MPost L.length W (makeL (rowsL L)))) := fun W hW => rmake_any A L c W (Ra.out W hW) (by omega)
  have PV : Hid (∀ W, Below w.heap.size w W → Calls Try.prog 15 #[.slice A L.length c, .int .i64 x] W (BPost W.heap.size W (valV (rowsL L) x))) := fun W hW => valid21_any A L c x W (Ra.out W hW) (by omega)
  have QV : Hid (∀ W, Below w.heap.size w W → Calls Try.prog 16 #[.slice A L.length c, .int .i64 x] W (BPost W.heap.size W (valV (rowsL L) x))) := fun W hW => rvalid21_any A L c x W (Ra.out W hW) (by omega)
  generalize valV (rowsL L) x = v at *
  go_enter Try.func3, Try.ntmps3
  go_wp2_with fail
  refine (Fa.out w B0.out).mono ?_
  rintro e w1 ⟨rfl, K⟩
  have Bw1 := Lib.hid (B0.out.trans (K.mono B0.out.size))
  clear K
  go_wp2_with fail
  refine (PMa.out w1 Bw1.out).mono ?_
  rintro e w2 ⟨Au, cu, Lu, rfl, Eu, Nu, Ru, K⟩
  have Bw2 := Lib.hid (Bw1.out.trans (K.mono Bw1.out.size))
  have Ru : Hid (∀ W, Below w2.heap.size w2 W → ReadsL W Au Lu) := fun W hW => Ru.below hW (Nat.le_refl _)
  have Eu := Lib.hid Eu
  clear K
  go_wp2_with fail
  refine (QMa.out w2 Bw2.out).mono ?_
  rintro e w3 ⟨Av, cv, Lv, rfl, Ev, Nv, Rv, K⟩
  have Bw3 := Lib.hid (Bw2.out.trans (K.mono Bw2.out.size))
  have Dw3 := Lib.hid K
  have Rv : Hid (∀ W, Below w3.heap.size w3 W → ReadsL W Av Lv) := fun W hW => Rv.below hW (Nat.le_refl _)
  have Ev := Lib.hid Ev
  clear K
  have CL := lists_any Au Av Lu Lv cu cv w3 (Ru.out _ Dw3.out) (by omega) (Rv.out _ (Below.refl _ _)) (by omega)
  rw [sameR_of Eu.out Ev.out] at CL
  have CL : Hid (∀ W, Below w.heap.size w W → W = w3 → Calls Try.prog 12 #[.slice Au Lu.length cu, .slice Av Lv.length cv] W (BPost W.heap.size W true)) := fun W _ e => by rw [e]; exact CL
  go_wp2_with fail
  refine (CL.out w3 Bw3.out rfl).mono ?_
  rintro e w4 ⟨rfl, K⟩
  have Bw4 := Lib.hid (Bw3.out.trans (K.mono Bw3.out.size))
  clear K CL
  go_wp2_with fail
  refine (PV.out w4 Bw4.out).mono ?_
  rintro e w5 ⟨rfl, K⟩
  have Bw5 := Lib.hid (Bw4.out.trans (K.mono Bw4.out.size))
  clear K
  go_wp2_with fail
  refine (QV.out w5 Bw5.out).mono ?_
  rintro e w6 ⟨rfl, K⟩
  have Bw6 := Lib.hid (Bw5.out.trans (K.mono Bw5.out.size))
  clear K
  go_wp2_with fail
  refine (LV.out w6 Bw6.out).mono ?_
  rintro e w7 ⟨rfl, K⟩
  have Bw7 := Lib.hid (Bw6.out.trans (K.mono Bw6.out.size))
  clear K
  go_wp2
  go_ret
  exact ⟨rfl, Bw7.out⟩
end Go.Proofs.Ytlppoablhipinaa
