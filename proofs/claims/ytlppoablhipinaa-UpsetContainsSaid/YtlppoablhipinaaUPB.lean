/- The law on Has. -/
import Derived.Test.YtlppoablhipinaaUPA
namespace Go.Proofs.Ytlppoablhipinaa
open Go.RowKit


set_option maxHeartbeats 8000000 in
set_option maxRecDepth 100000 in
theorem upsetContains_law (A B : Option Addr) (L : List Row) (m : List Int) (c cb : Nat) (w : World) (hr : RowsW w A L c) (rb : ReadsV w B m) :
    Calls Try.prog 4 #[.slice A L.length c, .slice B m.length cb] w fun e w' => e = .returned (.bool true) ∧ Below w.heap.size w w' := by
  have LV : Hid (∀ W, Below w.heap.size w W → Calls Try.prog 11 #[] W (BPost W.heap.size W true)) := fun W _ => lives_any W
  have B0 : Hid (Below w.heap.size w w) := Below.refl _ _
  have Fa := Lib.hid (hr.at)
  cases fa : fewB L
  · rw [fa] at Fa
    clear fa hr rb
    generalize m.length = ml at *
    go_enter Try.func4, Try.ntmps4
    go_wp2_with fail
    refine (Fa.out w B0.out).mono ?_
    rintro e w1 ⟨rfl, K⟩
    have Bw1 := Lib.hid (B0.out.trans (K.mono B0.out.size))
    clear K
    go_wp2_with fail
    refine (LV.out w1 Bw1.out).mono ?_
    rintro e w2 ⟨rfl, K⟩
    have Bw2 := Lib.hid (Bw1.out.trans (K.mono Bw1.out.size))
    clear K
    go_wp2
    go_ret
    exact ⟨rfl, Bw2.out⟩
  rw [fa] at Fa
  obtain ⟨Ra, la⟩ := hr.few fa
  have Ra : Hid (∀ W, Below w.heap.size w W → ReadsL W A L) := fun W hW => Ra.below hW (Nat.le_refl _)
  clear hr fa
  by_cases h30 : 30 < m.length
  · clear rb
    have h30 : (30 : Int) < m.length := by omega
    generalize m.length = ml at *
    go_enter Try.func4, Try.ntmps4
    go_wp2_with fail
    refine (Fa.out w B0.out).mono ?_
    rintro e w1 ⟨rfl, K⟩
    have Bw1 := Lib.hid (B0.out.trans (K.mono B0.out.size))
    clear K
    go_wp2_with fail
    refine (LV.out w1 Bw1.out).mono ?_
    rintro e w2 ⟨rfl, K⟩
    have Bw2 := Lib.hid (Bw1.out.trans (K.mono Bw1.out.size))
    clear K
    go_wp2
    go_ret
    exact ⟨rfl, Bw2.out⟩
  have PH : Hid (∀ W, Below w.heap.size w W → Calls Try.prog 17 #[.slice A L.length c, .slice B m.length cb] W (BPost W.heap.size W (hasV (rowsL L) m))) := fun W hW => has_any A B L m c cb W (Ra.out W hW) (by omega) (rb.below hW (Nat.le_refl _)) (by omega)
  have QH : Hid (∀ W, Below w.heap.size w W → Calls Try.prog 18 #[.slice A L.length c, .slice B m.length cb] W (BPost W.heap.size W (hasV (rowsL L) m))) := fun W hW => rhas_any A B L m c cb W (Ra.out W hW) (by omega) (rb.below hW (Nat.le_refl _)) (by omega)
  generalize hasV (rowsL L) m = v at *
  clear rb
  have h30 : ¬ ((30 : Int) < m.length) := by omega
  generalize m.length = ml at *
  go_enter Try.func4, Try.ntmps4
  go_wp2_with fail
  refine (Fa.out w B0.out).mono ?_
  rintro e w1 ⟨rfl, K⟩
  have Bw1 := Lib.hid (B0.out.trans (K.mono B0.out.size))
  clear K
  go_wp2_with fail
  refine (PH.out w1 Bw1.out).mono ?_
  rintro e w2 ⟨rfl, K⟩
  have Bw2 := Lib.hid (Bw1.out.trans (K.mono Bw1.out.size))
  clear K
  go_wp2_with fail
  refine (QH.out w2 Bw2.out).mono ?_
  rintro e w3 ⟨rfl, K⟩
  have Bw3 := Lib.hid (Bw2.out.trans (K.mono Bw2.out.size))
  clear K
  go_wp2_with fail
  refine (LV.out w3 Bw3.out).mono ?_
  rintro e w4 ⟨rfl, K⟩
  have Bw4 := Lib.hid (Bw3.out.trans (K.mono Bw3.out.size))
  clear K
  go_wp2
  go_ret
  exact ⟨rfl, Bw4.out⟩
end Go.Proofs.Ytlppoablhipinaa
