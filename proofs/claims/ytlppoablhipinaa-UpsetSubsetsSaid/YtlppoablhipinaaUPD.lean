/- The law on subsets. -/
import Derived.Test.YtlppoablhipinaaUPA
namespace Go.Proofs.Ytlppoablhipinaa
open Go.RowKit


set_option maxHeartbeats 8000000 in
set_option maxRecDepth 100000 in
theorem upsetSubsets_law (A B C : Option Addr) (L M K : List Row) (c cb cc : Nat) (w : World) (hr : RowsW w A L c) (hs : RowsW w B M cb) (ht : RowsW w C K cc) :
    Calls Try.prog 9 #[.slice A L.length c, .slice B M.length cb, .slice C K.length cc] w fun e w' => e = .returned (.bool true) ∧ Below w.heap.size w w' := by
  have LV : Hid (∀ W, Below w.heap.size w W → Calls Try.prog 11 #[] W (BPost W.heap.size W true)) := fun W _ => lives_any W
  have B0 : Hid (Below w.heap.size w w) := Below.refl _ _
  have Fa := Lib.hid (hr.at)
  have Fb := Lib.hid (hs.at)
  have Fd := Lib.hid (ht.at)
  cases fa : fewB L
  · rw [fa] at Fa
    clear fa hr hs ht
    go_enter Try.func9, Try.ntmps9
    go_wp2_with fail
    refine (LV.out w B0.out).mono ?_
    rintro e w1 ⟨rfl, K⟩
    have Bw1 := Lib.hid (B0.out.trans (K.mono B0.out.size))
    clear K
    go_wp2_with fail
    refine (Fa.out w1 Bw1.out).mono ?_
    rintro e w2 ⟨rfl, K⟩
    have Bw2 := Lib.hid (Bw1.out.trans (K.mono Bw1.out.size))
    clear K
    go_wp2
    go_ret
    exact ⟨rfl, Bw2.out⟩
  rw [fa] at Fa
  cases fb : fewB M
  · rw [fb] at Fb
    clear fb hr hs ht
    go_enter Try.func9, Try.ntmps9
    go_wp2_with fail
    refine (LV.out w B0.out).mono ?_
    rintro e w1 ⟨rfl, K⟩
    have Bw1 := Lib.hid (B0.out.trans (K.mono B0.out.size))
    clear K
    go_wp2_with fail
    refine (Fa.out w1 Bw1.out).mono ?_
    rintro e w2 ⟨rfl, K⟩
    have Bw2 := Lib.hid (Bw1.out.trans (K.mono Bw1.out.size))
    clear K
    go_wp2_with fail
    refine (Fb.out w2 Bw2.out).mono ?_
    rintro e w3 ⟨rfl, K⟩
    have Bw3 := Lib.hid (Bw2.out.trans (K.mono Bw2.out.size))
    clear K
    go_wp2
    go_ret
    exact ⟨rfl, Bw3.out⟩
  rw [fb] at Fb
  cases fd : fewB K
  · rw [fd] at Fd
    clear fd hr hs ht
    go_enter Try.func9, Try.ntmps9
    go_wp2_with fail
    refine (LV.out w B0.out).mono ?_
    rintro e w1 ⟨rfl, K⟩
    have Bw1 := Lib.hid (B0.out.trans (K.mono B0.out.size))
    clear K
    go_wp2_with fail
    refine (Fa.out w1 Bw1.out).mono ?_
    rintro e w2 ⟨rfl, K⟩
    have Bw2 := Lib.hid (Bw1.out.trans (K.mono Bw1.out.size))
    clear K
    go_wp2_with fail
    refine (Fb.out w2 Bw2.out).mono ?_
    rintro e w3 ⟨rfl, K⟩
    have Bw3 := Lib.hid (Bw2.out.trans (K.mono Bw2.out.size))
    clear K
    go_wp2_with fail
    refine (Fd.out w3 Bw3.out).mono ?_
    rintro e w4 ⟨rfl, K⟩
    have Bw4 := Lib.hid (Bw3.out.trans (K.mono Bw3.out.size))
    clear K
    go_wp2
    go_ret
    exact ⟨rfl, Bw4.out⟩
  rw [fd] at Fd
  obtain ⟨Ra, la⟩ := hr.few fa
  have Ra : Hid (∀ W, Below w.heap.size w W → ReadsL W A L) := fun W hW => Ra.below hW (Nat.le_refl _)
  obtain ⟨Rb, lb⟩ := hs.few fb
  have Rb : Hid (∀ W, Below w.heap.size w W → ReadsL W B M) := fun W hW => Rb.below hW (Nat.le_refl _)
  obtain ⟨Rd, ld⟩ := ht.few fd
  have Rd : Hid (∀ W, Below w.heap.size w W → ReadsL W C K) := fun W hW => Rd.below hW (Nat.le_refl _)
  have nza := Lib.hid hr.nz
  have nzb := Lib.hid hs.nz
  clear hr hs ht fa fb fd
  have SAA : Hid (∀ W, Below w.heap.size w W → Calls Try.prog 23 #[.slice A L.length c, .slice A L.length c] W (BPost W.heap.size W (subV (rowsL L) (rowsL L)))) := fun W hW => subset_any A A L L c c W (Ra.out W hW) (by omega) (Ra.out W hW) (by omega)
  have SAB : Hid (∀ W, Below w.heap.size w W → Calls Try.prog 23 #[.slice A L.length c, .slice B M.length cb] W (BPost W.heap.size W (subV (rowsL L) (rowsL M)))) := fun W hW => subset_any A B L M c cb W (Ra.out W hW) (by omega) (Rb.out W hW) (by omega)
  have SBA : Hid (∀ W, Below w.heap.size w W → Calls Try.prog 23 #[.slice B M.length cb, .slice A L.length c] W (BPost W.heap.size W (subV (rowsL M) (rowsL L)))) := fun W hW => subset_any B A M L cb c W (Rb.out W hW) (by omega) (Ra.out W hW) (by omega)
  have SBC : Hid (∀ W, Below w.heap.size w W → Calls Try.prog 23 #[.slice B M.length cb, .slice C K.length cc] W (BPost W.heap.size W (subV (rowsL M) (rowsL K)))) := fun W hW => subset_any B C M K cb cc W (Rb.out W hW) (by omega) (Rd.out W hW) (by omega)
  have SAC : Hid (∀ W, Below w.heap.size w W → Calls Try.prog 23 #[.slice A L.length c, .slice C K.length cc] W (BPost W.heap.size W (subV (rowsL L) (rowsL K)))) := fun W hW => subset_any A C L K c cc W (Ra.out W hW) (by omega) (Rd.out W hW) (by omega)
  have EAB : Hid (∀ W, Below w.heap.size w W → Calls Try.prog 25 #[.slice A L.length c, .slice B M.length cb] W (BPost W.heap.size W (smV (rowsL L) (rowsL M)))) := fun W hW => same_any A B L M c cb W (Ra.out W hW) (by omega) (Rb.out W hW) (by omega)
  have PMa : Hid (∀ W, Below w.heap.size w W → Calls Try.prog 13 #[.slice A L.length c] W (MPost L.length W (makeL (rowsL L)))) := fun W hW => make_any A L c W (Ra.out W hW) (by omega)
  have PMb : Hid (∀ W, Below w.heap.size w W → Calls Try.prog 13 #[.slice B M.length cb] W (MPost M.length W (makeL (rowsL M)))) := fun W hW => make_any B M cb W (Rb.out W hW) (by omega)
  rw [sub_refl] at SAA
  have TR : Hid (subV (rowsL L) (rowsL M) = true → subV (rowsL M) (rowsL K) = true → subV (rowsL L) (rowsL K) = true) := fun h g => sub_trans h g
  have SM : Hid (subV (rowsL L) (rowsL M) = true → subV (rowsL M) (rowsL L) = true → makeL (rowsL L) = makeL (rowsL M)) := fun h g => same_make (by unfold smV; rw [h, g]; rfl)
  unfold smV at EAB
  generalize subV (rowsL L) (rowsL M) = x at *
  generalize subV (rowsL M) (rowsL L) = y at *
  generalize subV (rowsL M) (rowsL K) = z at *
  generalize subV (rowsL L) (rowsL K) = t at *
  cases x
  · cases y
    · clear TR SM
      go_enter Try.func9, Try.ntmps9
      go_wp2_with fail
      refine (LV.out w B0.out).mono ?_
      rintro e w1 ⟨rfl, K⟩
      have Bw1 := Lib.hid (B0.out.trans (K.mono B0.out.size))
      clear K
      go_wp2_with fail
      refine (Fa.out w1 Bw1.out).mono ?_
      rintro e w2 ⟨rfl, K⟩
      have Bw2 := Lib.hid (Bw1.out.trans (K.mono Bw1.out.size))
      clear K
      go_wp2_with fail
      refine (Fb.out w2 Bw2.out).mono ?_
      rintro e w3 ⟨rfl, K⟩
      have Bw3 := Lib.hid (Bw2.out.trans (K.mono Bw2.out.size))
      clear K
      go_wp2_with fail
      refine (Fd.out w3 Bw3.out).mono ?_
      rintro e w4 ⟨rfl, K⟩
      have Bw4 := Lib.hid (Bw3.out.trans (K.mono Bw3.out.size))
      clear K
      go_wp2_with fail
      refine (SAA.out w4 Bw4.out).mono ?_
      rintro e w5 ⟨rfl, K⟩
      have Bw5 := Lib.hid (Bw4.out.trans (K.mono Bw4.out.size))
      clear K
      go_wp2_with fail
      refine (EAB.out w5 Bw5.out).mono ?_
      rintro e w6 ⟨rfl, K⟩
      have Bw6 := Lib.hid (Bw5.out.trans (K.mono Bw5.out.size))
      clear K
      go_wp2_with fail
      refine (SAB.out w6 Bw6.out).mono ?_
      rintro e w7 ⟨rfl, K⟩
      have Bw7 := Lib.hid (Bw6.out.trans (K.mono Bw6.out.size))
      clear K
      go_wp2_with fail
      refine (EAB.out w7 Bw7.out).mono ?_
      rintro e w8 ⟨rfl, K⟩
      have Bw8 := Lib.hid (Bw7.out.trans (K.mono Bw7.out.size))
      clear K
      go_wp2_with fail
      refine (SAB.out w8 Bw8.out).mono ?_
      rintro e w9 ⟨rfl, K⟩
      have Bw9 := Lib.hid (Bw8.out.trans (K.mono Bw8.out.size))
      clear K
      go_wp2
      go_ret
      exact ⟨rfl, Bw9.out⟩
    · clear TR SM
      go_enter Try.func9, Try.ntmps9
      go_wp2_with fail
      refine (LV.out w B0.out).mono ?_
      rintro e w1 ⟨rfl, K⟩
      have Bw1 := Lib.hid (B0.out.trans (K.mono B0.out.size))
      clear K
      go_wp2_with fail
      refine (Fa.out w1 Bw1.out).mono ?_
      rintro e w2 ⟨rfl, K⟩
      have Bw2 := Lib.hid (Bw1.out.trans (K.mono Bw1.out.size))
      clear K
      go_wp2_with fail
      refine (Fb.out w2 Bw2.out).mono ?_
      rintro e w3 ⟨rfl, K⟩
      have Bw3 := Lib.hid (Bw2.out.trans (K.mono Bw2.out.size))
      clear K
      go_wp2_with fail
      refine (Fd.out w3 Bw3.out).mono ?_
      rintro e w4 ⟨rfl, K⟩
      have Bw4 := Lib.hid (Bw3.out.trans (K.mono Bw3.out.size))
      clear K
      go_wp2_with fail
      refine (SAA.out w4 Bw4.out).mono ?_
      rintro e w5 ⟨rfl, K⟩
      have Bw5 := Lib.hid (Bw4.out.trans (K.mono Bw4.out.size))
      clear K
      go_wp2_with fail
      refine (EAB.out w5 Bw5.out).mono ?_
      rintro e w6 ⟨rfl, K⟩
      have Bw6 := Lib.hid (Bw5.out.trans (K.mono Bw5.out.size))
      clear K
      go_wp2_with fail
      refine (SAB.out w6 Bw6.out).mono ?_
      rintro e w7 ⟨rfl, K⟩
      have Bw7 := Lib.hid (Bw6.out.trans (K.mono Bw6.out.size))
      clear K
      go_wp2_with fail
      refine (EAB.out w7 Bw7.out).mono ?_
      rintro e w8 ⟨rfl, K⟩
      have Bw8 := Lib.hid (Bw7.out.trans (K.mono Bw7.out.size))
      clear K
      go_wp2_with fail
      refine (SAB.out w8 Bw8.out).mono ?_
      rintro e w9 ⟨rfl, K⟩
      have Bw9 := Lib.hid (Bw8.out.trans (K.mono Bw8.out.size))
      clear K
      go_wp2
      go_ret
      exact ⟨rfl, Bw9.out⟩
  · cases y
    · clear SM
      cases z
      · clear TR
        go_enter Try.func9, Try.ntmps9
        go_wp2_with fail
        refine (LV.out w B0.out).mono ?_
        rintro e w1 ⟨rfl, K⟩
        have Bw1 := Lib.hid (B0.out.trans (K.mono B0.out.size))
        clear K
        go_wp2_with fail
        refine (Fa.out w1 Bw1.out).mono ?_
        rintro e w2 ⟨rfl, K⟩
        have Bw2 := Lib.hid (Bw1.out.trans (K.mono Bw1.out.size))
        clear K
        go_wp2_with fail
        refine (Fb.out w2 Bw2.out).mono ?_
        rintro e w3 ⟨rfl, K⟩
        have Bw3 := Lib.hid (Bw2.out.trans (K.mono Bw2.out.size))
        clear K
        go_wp2_with fail
        refine (Fd.out w3 Bw3.out).mono ?_
        rintro e w4 ⟨rfl, K⟩
        have Bw4 := Lib.hid (Bw3.out.trans (K.mono Bw3.out.size))
        clear K
        go_wp2_with fail
        refine (SAA.out w4 Bw4.out).mono ?_
        rintro e w5 ⟨rfl, K⟩
        have Bw5 := Lib.hid (Bw4.out.trans (K.mono Bw4.out.size))
        clear K
        go_wp2_with fail
        refine (EAB.out w5 Bw5.out).mono ?_
        rintro e w6 ⟨rfl, K⟩
        have Bw6 := Lib.hid (Bw5.out.trans (K.mono Bw5.out.size))
        clear K
        go_wp2_with fail
        refine (SAB.out w6 Bw6.out).mono ?_
        rintro e w7 ⟨rfl, K⟩
        have Bw7 := Lib.hid (Bw6.out.trans (K.mono Bw6.out.size))
        clear K
        go_wp2_with fail
        refine (SBA.out w7 Bw7.out).mono ?_
        rintro e w8 ⟨rfl, K⟩
        have Bw8 := Lib.hid (Bw7.out.trans (K.mono Bw7.out.size))
        clear K
        go_wp2_with fail
        refine (EAB.out w8 Bw8.out).mono ?_
        rintro e w9 ⟨rfl, K⟩
        have Bw9 := Lib.hid (Bw8.out.trans (K.mono Bw8.out.size))
        clear K
        go_wp2_with fail
        refine (SAB.out w9 Bw9.out).mono ?_
        rintro e w10 ⟨rfl, K⟩
        have Bw10 := Lib.hid (Bw9.out.trans (K.mono Bw9.out.size))
        clear K
        go_wp2_with fail
        refine (SBC.out w10 Bw10.out).mono ?_
        rintro e w11 ⟨rfl, K⟩
        have Bw11 := Lib.hid (Bw10.out.trans (K.mono Bw10.out.size))
        clear K
        go_wp2
        go_ret
        exact ⟨rfl, Bw11.out⟩
      · obtain rfl := TR.out rfl rfl
        clear TR
        go_enter Try.func9, Try.ntmps9
        go_wp2_with fail
        refine (LV.out w B0.out).mono ?_
        rintro e w1 ⟨rfl, K⟩
        have Bw1 := Lib.hid (B0.out.trans (K.mono B0.out.size))
        clear K
        go_wp2_with fail
        refine (Fa.out w1 Bw1.out).mono ?_
        rintro e w2 ⟨rfl, K⟩
        have Bw2 := Lib.hid (Bw1.out.trans (K.mono Bw1.out.size))
        clear K
        go_wp2_with fail
        refine (Fb.out w2 Bw2.out).mono ?_
        rintro e w3 ⟨rfl, K⟩
        have Bw3 := Lib.hid (Bw2.out.trans (K.mono Bw2.out.size))
        clear K
        go_wp2_with fail
        refine (Fd.out w3 Bw3.out).mono ?_
        rintro e w4 ⟨rfl, K⟩
        have Bw4 := Lib.hid (Bw3.out.trans (K.mono Bw3.out.size))
        clear K
        go_wp2_with fail
        refine (SAA.out w4 Bw4.out).mono ?_
        rintro e w5 ⟨rfl, K⟩
        have Bw5 := Lib.hid (Bw4.out.trans (K.mono Bw4.out.size))
        clear K
        go_wp2_with fail
        refine (EAB.out w5 Bw5.out).mono ?_
        rintro e w6 ⟨rfl, K⟩
        have Bw6 := Lib.hid (Bw5.out.trans (K.mono Bw5.out.size))
        clear K
        go_wp2_with fail
        refine (SAB.out w6 Bw6.out).mono ?_
        rintro e w7 ⟨rfl, K⟩
        have Bw7 := Lib.hid (Bw6.out.trans (K.mono Bw6.out.size))
        clear K
        go_wp2_with fail
        refine (SBA.out w7 Bw7.out).mono ?_
        rintro e w8 ⟨rfl, K⟩
        have Bw8 := Lib.hid (Bw7.out.trans (K.mono Bw7.out.size))
        clear K
        go_wp2_with fail
        refine (EAB.out w8 Bw8.out).mono ?_
        rintro e w9 ⟨rfl, K⟩
        have Bw9 := Lib.hid (Bw8.out.trans (K.mono Bw8.out.size))
        clear K
        go_wp2_with fail
        refine (SAB.out w9 Bw9.out).mono ?_
        rintro e w10 ⟨rfl, K⟩
        have Bw10 := Lib.hid (Bw9.out.trans (K.mono Bw9.out.size))
        clear K
        go_wp2_with fail
        refine (SBC.out w10 Bw10.out).mono ?_
        rintro e w11 ⟨rfl, K⟩
        have Bw11 := Lib.hid (Bw10.out.trans (K.mono Bw10.out.size))
        clear K
        go_wp2_with fail
        refine (SAC.out w11 Bw11.out).mono ?_
        rintro e w12 ⟨rfl, K⟩
        have Bw12 := Lib.hid (Bw11.out.trans (K.mono Bw11.out.size))
        clear K
        go_wp2
        go_ret
        exact ⟨rfl, Bw12.out⟩
    · have SM2 := SM.out rfl rfl
      rw [SM2] at PMa
      clear SM SM2
      cases z
      · clear TR
        go_enter Try.func9, Try.ntmps9
        go_wp2_with fail
        refine (LV.out w B0.out).mono ?_
        rintro e w1 ⟨rfl, K⟩
        have Bw1 := Lib.hid (B0.out.trans (K.mono B0.out.size))
        clear K
        go_wp2_with fail
        refine (Fa.out w1 Bw1.out).mono ?_
        rintro e w2 ⟨rfl, K⟩
        have Bw2 := Lib.hid (Bw1.out.trans (K.mono Bw1.out.size))
        clear K
        go_wp2_with fail
        refine (Fb.out w2 Bw2.out).mono ?_
        rintro e w3 ⟨rfl, K⟩
        have Bw3 := Lib.hid (Bw2.out.trans (K.mono Bw2.out.size))
        clear K
        go_wp2_with fail
        refine (Fd.out w3 Bw3.out).mono ?_
        rintro e w4 ⟨rfl, K⟩
        have Bw4 := Lib.hid (Bw3.out.trans (K.mono Bw3.out.size))
        clear K
        go_wp2_with fail
        refine (SAA.out w4 Bw4.out).mono ?_
        rintro e w5 ⟨rfl, K⟩
        have Bw5 := Lib.hid (Bw4.out.trans (K.mono Bw4.out.size))
        clear K
        go_wp2_with fail
        refine (EAB.out w5 Bw5.out).mono ?_
        rintro e w6 ⟨rfl, K⟩
        have Bw6 := Lib.hid (Bw5.out.trans (K.mono Bw5.out.size))
        clear K
        go_wp2_with fail
        refine (SAB.out w6 Bw6.out).mono ?_
        rintro e w7 ⟨rfl, K⟩
        have Bw7 := Lib.hid (Bw6.out.trans (K.mono Bw6.out.size))
        clear K
        go_wp2_with fail
        refine (SBA.out w7 Bw7.out).mono ?_
        rintro e w8 ⟨rfl, K⟩
        have Bw8 := Lib.hid (Bw7.out.trans (K.mono Bw7.out.size))
        clear K
        go_wp2_with fail
        refine (EAB.out w8 Bw8.out).mono ?_
        rintro e w9 ⟨rfl, K⟩
        have Bw9 := Lib.hid (Bw8.out.trans (K.mono Bw8.out.size))
        clear K
        go_wp2_with fail
        refine (PMa.out w9 Bw9.out).mono ?_
        rintro e w10 ⟨Au, cu, Lu, rfl, Eu, Nu, Ru, K⟩
        have Bw10 := Lib.hid (Bw9.out.trans (K.mono Bw9.out.size))
        have Ru : Hid (∀ W, Below w10.heap.size w10 W → ReadsL W Au Lu) := fun W hW => Ru.below hW (Nat.le_refl _)
        have Eu := Lib.hid Eu
        clear K
        go_wp2_with fail
        refine (PMb.out w10 Bw10.out).mono ?_
        rintro e w11 ⟨Av, cv, Lv, rfl, Ev, Nv, Rv, K⟩
        have Bw11 := Lib.hid (Bw10.out.trans (K.mono Bw10.out.size))
        have Dw11 := Lib.hid K
        have Rv : Hid (∀ W, Below w11.heap.size w11 W → ReadsL W Av Lv) := fun W hW => Rv.below hW (Nat.le_refl _)
        have Ev := Lib.hid Ev
        clear K
        have CL := lists_any Au Av Lu Lv cu cv w11 (Ru.out _ Dw11.out) (by omega) (Rv.out _ (Below.refl _ _)) (by omega)
        rw [sameR_of Eu.out Ev.out] at CL
        have CL : Hid (∀ W, Below w.heap.size w W → W = w11 → Calls Try.prog 12 #[.slice Au Lu.length cu, .slice Av Lv.length cv] W (BPost W.heap.size W true)) := fun W _ e => by rw [e]; exact CL
        go_wp2_with fail
        refine (CL.out w11 Bw11.out rfl).mono ?_
        rintro e w12 ⟨rfl, K⟩
        have Bw12 := Lib.hid (Bw11.out.trans (K.mono Bw11.out.size))
        clear K CL Ru Rv Eu Ev
        go_wp2_with fail
        refine (SAB.out w12 Bw12.out).mono ?_
        rintro e w13 ⟨rfl, K⟩
        have Bw13 := Lib.hid (Bw12.out.trans (K.mono Bw12.out.size))
        clear K
        go_wp2_with fail
        refine (SBC.out w13 Bw13.out).mono ?_
        rintro e w14 ⟨rfl, K⟩
        have Bw14 := Lib.hid (Bw13.out.trans (K.mono Bw13.out.size))
        clear K
        go_wp2
        go_ret
        exact ⟨rfl, Bw14.out⟩
      · obtain rfl := TR.out rfl rfl
        clear TR
        go_enter Try.func9, Try.ntmps9
        go_wp2_with fail
        refine (LV.out w B0.out).mono ?_
        rintro e w1 ⟨rfl, K⟩
        have Bw1 := Lib.hid (B0.out.trans (K.mono B0.out.size))
        clear K
        go_wp2_with fail
        refine (Fa.out w1 Bw1.out).mono ?_
        rintro e w2 ⟨rfl, K⟩
        have Bw2 := Lib.hid (Bw1.out.trans (K.mono Bw1.out.size))
        clear K
        go_wp2_with fail
        refine (Fb.out w2 Bw2.out).mono ?_
        rintro e w3 ⟨rfl, K⟩
        have Bw3 := Lib.hid (Bw2.out.trans (K.mono Bw2.out.size))
        clear K
        go_wp2_with fail
        refine (Fd.out w3 Bw3.out).mono ?_
        rintro e w4 ⟨rfl, K⟩
        have Bw4 := Lib.hid (Bw3.out.trans (K.mono Bw3.out.size))
        clear K
        go_wp2_with fail
        refine (SAA.out w4 Bw4.out).mono ?_
        rintro e w5 ⟨rfl, K⟩
        have Bw5 := Lib.hid (Bw4.out.trans (K.mono Bw4.out.size))
        clear K
        go_wp2_with fail
        refine (EAB.out w5 Bw5.out).mono ?_
        rintro e w6 ⟨rfl, K⟩
        have Bw6 := Lib.hid (Bw5.out.trans (K.mono Bw5.out.size))
        clear K
        go_wp2_with fail
        refine (SAB.out w6 Bw6.out).mono ?_
        rintro e w7 ⟨rfl, K⟩
        have Bw7 := Lib.hid (Bw6.out.trans (K.mono Bw6.out.size))
        clear K
        go_wp2_with fail
        refine (SBA.out w7 Bw7.out).mono ?_
        rintro e w8 ⟨rfl, K⟩
        have Bw8 := Lib.hid (Bw7.out.trans (K.mono Bw7.out.size))
        clear K
        go_wp2_with fail
        refine (EAB.out w8 Bw8.out).mono ?_
        rintro e w9 ⟨rfl, K⟩
        have Bw9 := Lib.hid (Bw8.out.trans (K.mono Bw8.out.size))
        clear K
        go_wp2_with fail
        refine (PMa.out w9 Bw9.out).mono ?_
        rintro e w10 ⟨Au, cu, Lu, rfl, Eu, Nu, Ru, K⟩
        have Bw10 := Lib.hid (Bw9.out.trans (K.mono Bw9.out.size))
        have Ru : Hid (∀ W, Below w10.heap.size w10 W → ReadsL W Au Lu) := fun W hW => Ru.below hW (Nat.le_refl _)
        have Eu := Lib.hid Eu
        clear K
        go_wp2_with fail
        refine (PMb.out w10 Bw10.out).mono ?_
        rintro e w11 ⟨Av, cv, Lv, rfl, Ev, Nv, Rv, K⟩
        have Bw11 := Lib.hid (Bw10.out.trans (K.mono Bw10.out.size))
        have Dw11 := Lib.hid K
        have Rv : Hid (∀ W, Below w11.heap.size w11 W → ReadsL W Av Lv) := fun W hW => Rv.below hW (Nat.le_refl _)
        have Ev := Lib.hid Ev
        clear K
        have CL := lists_any Au Av Lu Lv cu cv w11 (Ru.out _ Dw11.out) (by omega) (Rv.out _ (Below.refl _ _)) (by omega)
        rw [sameR_of Eu.out Ev.out] at CL
        have CL : Hid (∀ W, Below w.heap.size w W → W = w11 → Calls Try.prog 12 #[.slice Au Lu.length cu, .slice Av Lv.length cv] W (BPost W.heap.size W true)) := fun W _ e => by rw [e]; exact CL
        go_wp2_with fail
        refine (CL.out w11 Bw11.out rfl).mono ?_
        rintro e w12 ⟨rfl, K⟩
        have Bw12 := Lib.hid (Bw11.out.trans (K.mono Bw11.out.size))
        clear K CL Ru Rv Eu Ev
        go_wp2_with fail
        refine (SAB.out w12 Bw12.out).mono ?_
        rintro e w13 ⟨rfl, K⟩
        have Bw13 := Lib.hid (Bw12.out.trans (K.mono Bw12.out.size))
        clear K
        go_wp2_with fail
        refine (SBC.out w13 Bw13.out).mono ?_
        rintro e w14 ⟨rfl, K⟩
        have Bw14 := Lib.hid (Bw13.out.trans (K.mono Bw13.out.size))
        clear K
        go_wp2_with fail
        refine (SAC.out w14 Bw14.out).mono ?_
        rintro e w15 ⟨rfl, K⟩
        have Bw15 := Lib.hid (Bw14.out.trans (K.mono Bw14.out.size))
        clear K
        go_wp2
        go_ret
        exact ⟨rfl, Bw15.out⟩
end Go.Proofs.Ytlppoablhipinaa
