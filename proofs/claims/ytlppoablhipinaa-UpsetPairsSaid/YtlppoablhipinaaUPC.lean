/- The law on pairs. -/
import Derived.Test.YtlppoablhipinaaUPA
namespace Go.Proofs.Ytlppoablhipinaa
open Go.RowKit


set_option maxHeartbeats 8000000 in
set_option maxRecDepth 100000 in
theorem upsetPairs_law (A B : Option Addr) (L M : List Row) (c cb : Nat) (w : World) (hr : RowsW w A L c) (hs : RowsW w B M cb) :
    Calls Try.prog 5 #[.slice A L.length c, .slice B M.length cb] w fun e w' => e = .returned (.bool true) ∧ Below w.heap.size w w' := by
  have LV : Hid (∀ W, Below w.heap.size w W → Calls Try.prog 11 #[] W (BPost W.heap.size W true)) := fun W _ => lives_any W
  have B0 : Hid (Below w.heap.size w w) := Below.refl _ _
  have Fa := Lib.hid (hr.at)
  have Fb := Lib.hid (hs.at)
  cases fa : fewB L
  · rw [fa] at Fa
    clear fa hr hs
    go_enter Try.func5, Try.ntmps5
    go_wp2_with fail
    refine (Fa.out w B0.out).mono ?_
    rintro e w1 ⟨rfl, K⟩
    have Bw1 := Lib.hid (B0.out.trans (K.mono B0.out.size))
    clear K
    go_wp2_with fail
    refine (LV.out w1 Bw1.out).mono ?_
    rintro e w2 ⟨rfl, K⟩
    have Bw2 := Lib.hid (Bw1.out.trans (K.mono Bw1.out.size))
    clear K
    go_wp2
    go_ret
    exact ⟨rfl, Bw2.out⟩
  rw [fa] at Fa
  cases fb : fewB M
  · rw [fb] at Fb
    clear fb hr hs
    go_enter Try.func5, Try.ntmps5
    go_wp2_with fail
    refine (Fa.out w B0.out).mono ?_
    rintro e w1 ⟨rfl, K⟩
    have Bw1 := Lib.hid (B0.out.trans (K.mono B0.out.size))
    clear K
    go_wp2_with fail
    refine (Fb.out w1 Bw1.out).mono ?_
    rintro e w2 ⟨rfl, K⟩
    have Bw2 := Lib.hid (Bw1.out.trans (K.mono Bw1.out.size))
    clear K
    go_wp2_with fail
    refine (LV.out w2 Bw2.out).mono ?_
    rintro e w3 ⟨rfl, K⟩
    have Bw3 := Lib.hid (Bw2.out.trans (K.mono Bw2.out.size))
    clear K
    go_wp2
    go_ret
    exact ⟨rfl, Bw3.out⟩
  rw [fb] at Fb
  obtain ⟨Ra, la⟩ := hr.few fa
  have Ra : Hid (∀ W, Below w.heap.size w W → ReadsL W A L) := fun W hW => Ra.below hW (Nat.le_refl _)
  obtain ⟨Rb, lb⟩ := hs.few fb
  have Rb : Hid (∀ W, Below w.heap.size w W → ReadsL W B M) := fun W hW => Rb.below hW (Nat.le_refl _)
  have nza := Lib.hid hr.nz
  have nzb := Lib.hid hs.nz
  clear hr hs fa fb
  have PU : Hid (∀ W, Below w.heap.size w W → Calls Try.prog 19 #[.slice A L.length c, .slice B M.length cb] W (MPost (L.length + M.length) W (unionL (rowsL L) (rowsL M)))) := fun W hW => union_any A B L M c cb W (Ra.out W hW) (by omega) (Rb.out W hW) (by omega) nza.out nzb.out
  have QU : Hid (∀ W, Below w.heap.size w W → Calls Try.prog 20 #[.slice A L.length c, .slice B M.length cb] W (MPost (L.length + M.length) W (unionL (rowsL L) (rowsL M)))) := fun W hW => runion_any A B L M c cb W (Ra.out W hW) (by omega) (Rb.out W hW) (by omega) nza.out nzb.out
  have PI : Hid (∀ W, Below w.heap.size w W → Calls Try.prog 21 #[.slice A L.length c, .slice B M.length cb] W (MPost 900 W (meetL (rowsL L) (rowsL M)))) := fun W hW => meet_any A B L M c cb W (Ra.out W hW) (by omega) (Rb.out W hW) (by omega)
  have QI : Hid (∀ W, Below w.heap.size w W → Calls Try.prog 22 #[.slice A L.length c, .slice B M.length cb] W (MPost 900 W (meetL (rowsL L) (rowsL M)))) := fun W hW => rmeet_any A B L M c cb W (Ra.out W hW) (by omega) (Rb.out W hW) (by omega)
  have PS : Hid (∀ W, Below w.heap.size w W → Calls Try.prog 23 #[.slice A L.length c, .slice B M.length cb] W (BPost W.heap.size W (subV (rowsL L) (rowsL M)))) := fun W hW => subset_any A B L M c cb W (Ra.out W hW) (by omega) (Rb.out W hW) (by omega)
  have QS : Hid (∀ W, Below w.heap.size w W → Calls Try.prog 24 #[.slice A L.length c, .slice B M.length cb] W (BPost W.heap.size W (subV (rowsL L) (rowsL M)))) := fun W hW => rsubset_any A B L M c cb W (Ra.out W hW) (by omega) (Rb.out W hW) (by omega)
  have PE : Hid (∀ W, Below w.heap.size w W → Calls Try.prog 25 #[.slice A L.length c, .slice B M.length cb] W (BPost W.heap.size W (smV (rowsL L) (rowsL M)))) := fun W hW => same_any A B L M c cb W (Ra.out W hW) (by omega) (Rb.out W hW) (by omega)
  have QE : Hid (∀ W, Below w.heap.size w W → Calls Try.prog 26 #[.slice A L.length c, .slice B M.length cb] W (BPost W.heap.size W (smV (rowsL L) (rowsL M)))) := fun W hW => rsame21_any A B L M c cb W (Ra.out W hW) (by omega) (Rb.out W hW) (by omega)
  generalize subV (rowsL L) (rowsL M) = v at *
  generalize smV (rowsL L) (rowsL M) = x at *
  go_enter Try.func5, Try.ntmps5
  go_wp2_with fail
  refine (Fa.out w B0.out).mono ?_
  rintro e w1 ⟨rfl, K⟩
  have Bw1 := Lib.hid (B0.out.trans (K.mono B0.out.size))
  clear K
  go_wp2_with fail
  refine (Fb.out w1 Bw1.out).mono ?_
  rintro e w2 ⟨rfl, K⟩
  have Bw2 := Lib.hid (Bw1.out.trans (K.mono Bw1.out.size))
  clear K
  go_wp2_with fail
  refine (PU.out w2 Bw2.out).mono ?_
  rintro e w3 ⟨Au, cu, Lu, rfl, Eu, Nu, Ru, K⟩
  have Bw3 := Lib.hid (Bw2.out.trans (K.mono Bw2.out.size))
  have Ru : Hid (∀ W, Below w3.heap.size w3 W → ReadsL W Au Lu) := fun W hW => Ru.below hW (Nat.le_refl _)
  have Eu := Lib.hid Eu
  clear K
  go_wp2_with fail
  refine (QU.out w3 Bw3.out).mono ?_
  rintro e w4 ⟨Av, cv, Lv, rfl, Ev, Nv, Rv, K⟩
  have Bw4 := Lib.hid (Bw3.out.trans (K.mono Bw3.out.size))
  have Dw4 := Lib.hid K
  have Rv : Hid (∀ W, Below w4.heap.size w4 W → ReadsL W Av Lv) := fun W hW => Rv.below hW (Nat.le_refl _)
  have Ev := Lib.hid Ev
  clear K
  have CL := lists_any Au Av Lu Lv cu cv w4 (Ru.out _ Dw4.out) (by omega) (Rv.out _ (Below.refl _ _)) (by omega)
  rw [sameR_of Eu.out Ev.out] at CL
  have CL : Hid (∀ W, Below w.heap.size w W → W = w4 → Calls Try.prog 12 #[.slice Au Lu.length cu, .slice Av Lv.length cv] W (BPost W.heap.size W true)) := fun W _ e => by rw [e]; exact CL
  go_wp2_with fail
  refine (CL.out w4 Bw4.out rfl).mono ?_
  rintro e w5 ⟨rfl, K⟩
  have Bw5 := Lib.hid (Bw4.out.trans (K.mono Bw4.out.size))
  clear K CL Ru Rv Eu Ev
  go_wp2_with fail
  refine (PI.out w5 Bw5.out).mono ?_
  rintro e w6 ⟨As, cs, Ls, rfl, Es, Ns, Rs, K⟩
  have Bw6 := Lib.hid (Bw5.out.trans (K.mono Bw5.out.size))
  have Rs : Hid (∀ W, Below w6.heap.size w6 W → ReadsL W As Ls) := fun W hW => Rs.below hW (Nat.le_refl _)
  have Es := Lib.hid Es
  clear K
  go_wp2_with fail
  refine (QI.out w6 Bw6.out).mono ?_
  rintro e w7 ⟨At, ct, Lt, rfl, Et, Nt, Rt, K⟩
  have Bw7 := Lib.hid (Bw6.out.trans (K.mono Bw6.out.size))
  have Dw7 := Lib.hid K
  have Rt : Hid (∀ W, Below w7.heap.size w7 W → ReadsL W At Lt) := fun W hW => Rt.below hW (Nat.le_refl _)
  have Et := Lib.hid Et
  clear K
  have CL := lists_any As At Ls Lt cs ct w7 (Rs.out _ Dw7.out) (by omega) (Rt.out _ (Below.refl _ _)) (by omega)
  rw [sameR_of Es.out Et.out] at CL
  have CL : Hid (∀ W, Below w.heap.size w W → W = w7 → Calls Try.prog 12 #[.slice As Ls.length cs, .slice At Lt.length ct] W (BPost W.heap.size W true)) := fun W _ e => by rw [e]; exact CL
  go_wp2_with fail
  refine (CL.out w7 Bw7.out rfl).mono ?_
  rintro e w8 ⟨rfl, K⟩
  have Bw8 := Lib.hid (Bw7.out.trans (K.mono Bw7.out.size))
  clear K CL Rs Rt Es Et
  go_wp2_with fail
  refine (PS.out w8 Bw8.out).mono ?_
  rintro e w9 ⟨rfl, K⟩
  have Bw9 := Lib.hid (Bw8.out.trans (K.mono Bw8.out.size))
  clear K
  go_wp2_with fail
  refine (QS.out w9 Bw9.out).mono ?_
  rintro e w10 ⟨rfl, K⟩
  have Bw10 := Lib.hid (Bw9.out.trans (K.mono Bw9.out.size))
  clear K
  go_wp2_with fail
  refine (PE.out w10 Bw10.out).mono ?_
  rintro e w11 ⟨rfl, K⟩
  have Bw11 := Lib.hid (Bw10.out.trans (K.mono Bw10.out.size))
  clear K
  go_wp2_with fail
  refine (QE.out w11 Bw11.out).mono ?_
  rintro e w12 ⟨rfl, K⟩
  have Bw12 := Lib.hid (Bw11.out.trans (K.mono Bw11.out.size))
  clear K
  go_wp2_with fail
  refine (LV.out w12 Bw12.out).mono ?_
  rintro e w13 ⟨rfl, K⟩
  have Bw13 := Lib.hid (Bw12.out.trans (K.mono Bw12.out.size))
  clear K
  go_wp2
  go_ret
  exact ⟨rfl, Bw13.out⟩
end Go.Proofs.Ytlppoablhipinaa
