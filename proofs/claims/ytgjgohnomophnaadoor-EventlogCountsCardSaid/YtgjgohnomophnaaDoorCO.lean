/- Event logs: the law Counts. -/
import Derived.Test.YtgjgohnomophnaaDoorAC
import Derived.Test.YtgjgohnomophnaaDoorVR
import Derived.Test.YtgjgohnomophnaaDoorPC
namespace Go.Proofs.YtgjgohnomophnaaDoor
open Go.RowKit

theorem RowsC.log {w : World} {A : Option Addr} {L : List Row} {c : Nat} (h : RowsC w A L c) (hf : FewP L) : LogR w A L where
  cells := h.cells
  len := by have := hf.1; omega
  rows := fun j hj => (h.rows _ (rA_mem hj)).1
  lens := fun j hj => ⟨by have := (hf.2.1 j hj).1; omega, (h.rows _ (rA_mem hj)).2.2⟩
  txts := fun j i _ => Nat.le_trans (hf.str j i) (by decide)
  tot := Nat.le_trans hf.2.2 (by decide)
theorem LogR.below {w w' : World} {A : Option Addr} {L : List Row} {B : Nat} (h : LogR w A L) (hb : Below B w w') (hB : w.heap.size ≤ B) : LogR w' A L where
  cells := h.cells.below hb hB
  len := h.len
  rows := fun j hj => (h.rows j hj).below hb hB
  lens := h.lens
  txts := h.txts
  tot := h.tot
theorem insAll_len (l : List Txt) : (insAll l).length ≤ l.length := by
  have key : ∀ (l acc : List Txt), (l.foldl insT acc).length ≤ acc.length + l.length := by
    intro l
    induction l with
    | nil => intro acc; exact Nat.le_refl _
    | cons a l ih =>
      intro acc
      rw [List.foldl_cons]
      have h := ih (insT acc a)
      have h2 := insT_len acc a
      rw [List.length_cons]
      omega
  have := key l []
  simpa [insAll] using this
theorem actV_len {L : List Row} (hf : FewP L) : (actV (rowsL L)).length ≤ 400 := by
  unfold actV
  rw [rowsL_len, ← acc_act]
  have h1 := insAll_len (accK id (rowsL L) L.length)
  have h2 := accK_len (part := id) (fun _ => Nat.le_refl _) (rowsL L) L.length
  have h3 := hf.2.2
  omega
theorem firV_len (R : List (List Txt)) : (firV R).length ≤ R.length := pickK_len _ _ _
theorem lasV_len (R : List (List Txt)) : (lasV R).length ≤ R.length := pickK_len _ _ _
set_option maxHeartbeats 4000000 in
set_option maxRecDepth 100000 in
theorem counts_log (A : Option Addr) (L : List Row) (c : Nat) (w : World) (hW : RowsC w A L c) :
    Calls Tryd.prog 5 #[.slice A L.length c] w fun e w' => e = .returned (.bool true) ∧ Below w.heap.size w w' := by
  have CF := Lib.hid (few_c A L c w hW)
  have CA := Lib.hid (fun W (h : Below w.heap.size w W) => (alive_any W).mono fun e w' k => (⟨k.1, h.trans (k.2.mono h.size)⟩ : e = .returned (.bool true) ∧ Below w.heap.size w w'))
  have Z : Hid (Below w.heap.size w w) := Below.refl _ _
  have HR : Hid (FewP L → FewP L ∧ ReadsL w A L ∧ LogR w A L) := fun h => ⟨h, (RowsC.reads hW h).1, hW.log h⟩
  generalize hFP : FewP L = FP at *
  replace hFP := Lib.hid hFP
  clear hW
  go_enter Tryd.func5, Tryd.ntmps5
  go_wp2_with fail
  refine CF.out.mono ?_
  rintro e w1 ⟨⟨fb, rfl, hfb⟩, rfl⟩
  cases fb
  · clear hfb HR CF
    go_wp2_with fail
    refine (CA.out w Z.out).mono ?_
    rintro e w1 ⟨rfl, K⟩
    have K := Lib.hid K
    go_wp2
    go_ret
    exact ⟨rfl, K.out⟩
  · obtain ⟨hf', R, LR⟩ := HR.out (hfb rfl)
    have hf : FewP L := by rw [hFP.out]; exact hf'
    have hl := hf.1
    have C1 := Lib.hid (variants_any A L c w R hf)
    have C2 := Lib.hid (fun W (h : Below w.heap.size w W) => rvariants_any A L c W (R.below h (Nat.le_refl _)) hf)
    have D1 := Lib.hid (fun W (h : Below w.heap.size w W) => acts_any A L c W (LR.below h (Nat.le_refl _)))
    have D2 := Lib.hid (fun W (h : Below w.heap.size w W) => ract_any A L c W (R.below h (Nat.le_refl _)) hf)
    have D3 := Lib.hid (fun W (h : Below w.heap.size w W) => firsts_any A L c W (LR.below h (Nat.le_refl _)))
    have D4 := Lib.hid (fun W (h : Below w.heap.size w W) => rfirst_any A L c W (R.below h (Nat.le_refl _)) hf)
    have D5 := Lib.hid (fun W (h : Below w.heap.size w W) => lasts_any A L c W (LR.below h (Nat.le_refl _)))
    have D6 := Lib.hid (fun W (h : Below w.heap.size w W) => rlast_any A L c W (R.below h (Nat.le_refl _)) hf)
    have z1 := actV_len hf
    have z2 : (firV (rowsL L)).length ≤ 80 := by have := firV_len (rowsL L); rw [rowsL_len] at this; omega
    have z3 : (lasV (rowsL L)).length ≤ 80 := by have := lasV_len (rowsL L); rw [rowsL_len] at this; omega
    have hvl : (vsK (rowsL L) (rowsL L).length).length ≤ 80 := by have := vs_len (rowsL L) (rowsL L).length; rw [rowsL_len] at this ⊢; omega
    have hcl : (cnI (rowsL L) (vsK (rowsL L) (rowsL L).length) (rowsL L).length).length ≤ 80 := by rw [cnI_len]; exact hvl
    have CS : Hid (∀ (a : List Txt) B cb D cd W, a.length ≤ 400 → ReadsS W B a → ReadsS W D a → Calls Tryd.prog 23 #[.slice B a.length cb, .slice D a.length cd] W (BPost W.heap.size W true)) := fun a B cb D cd W h1 h2 h3 => by
      have h := rsame_any B D a a cb cd W h2 h3 (by omega)
      rw [show sameT a a = true from decide_eq_true rfl] at h
      exact h
    clear hfb HR CF R LR hf hf'
    unfold VarPost at C1 C2
    generalize actV (rowsL L) = av at *
    generalize firV (rowsL L) = fv at *
    generalize lasV (rowsL L) = lv at *
    generalize cnI (rowsL L) (vsK (rowsL L) (rowsL L).length) (rowsL L).length = cs at *
    generalize vsK (rowsL L) (rowsL L).length = V at *
    go_wp2_with fail
    refine C1.out.mono ?_
    rintro e w1 ⟨v, u, L1, rfl, o1, e1, u1, k1⟩
    obtain ⟨vA, vc, rfl, RV⟩ := o1.reads
    obtain ⟨uA, uc, rfl, RU⟩ := ReadsI.own u1
    have B1 := Lib.hid k1
    have RV := Lib.hid RV
    have RU := Lib.hid RU
    clear o1 u1 k1 C1
    go_wp2_with fail
    refine (C2.out w1 B1.out).mono ?_
    rintro e w2 ⟨v', u', L2, rfl, o2, e2, u2, k2⟩
    obtain ⟨xA, xc, rfl, RX⟩ := o2.reads
    obtain ⟨yA, yc, rfl, RY⟩ := ReadsI.own u2
    have B2 := Lib.hid (B1.out.trans (k2.mono B1.out.size))
    have RV2 := RV.out.below k2 (Nat.le_refl _)
    have RU2 := Lib.hid (RU.out.below k2 (Nat.le_refl _))
    have hv1 : L1.length ≤ 80 := by rw [← rowsL_len L1, e1]; exact hvl
    have hv2 : L2.length ≤ 80 := by rw [← rowsL_len L2, e2]; exact hvl
    have CE := requal_any vA xA L1 L2 vc xc w2 RV2 (by omega) RX (by omega)
    rw [show sameR L1 L2 = true from decide_eq_true (e1.trans e2.symm)] at CE
    replace CE := Lib.hid CE
    have RY2 := Lib.hid RY
    clear o2 u2 k2 C2 RV2 RX RY RV RU e1 e2
    go_wp2_with fail
    refine CE.out.mono ?_
    rintro e w3 ⟨rfl, k3⟩
    have B3 := Lib.hid (B2.out.trans (k3.mono B2.out.size))
    have CI := Lib.hid (rsame_ints uA yA cs uc yc w3 (RU2.out.below k3 (Nat.le_refl _)) (RY2.out.below k3 (Nat.le_refl _)) (by omega))
    clear k3 CE RU2 RY2
    go_wp2_with fail
    refine CI.out.mono ?_
    rintro e w4 ⟨rfl, k4⟩
    have B4 := Lib.hid (B3.out.trans (k4.mono B3.out.size))
    clear k4 CI
    go_wp2_with fail
    refine (D1.out w4 B4.out).mono ?_
    rintro e w5 ⟨A5, c5, rfl, R5, k5⟩
    have B5 := Lib.hid (B4.out.trans (k5.mono B4.out.size))
    have R5 := Lib.hid R5
    clear k5
    go_wp2_with fail
    refine (D2.out w5 B5.out).mono ?_
    rintro e w6 ⟨A6, c6, rfl, R6, k6⟩
    have B6 := Lib.hid (B5.out.trans (k6.mono B5.out.size))
    have CA6 := Lib.hid (CS.out av A5 c5 A6 c6 w6 (by omega) (R5.out.below k6 (Nat.le_refl _)) R6)
    clear k6 R5 R6
    go_wp2_with fail
    refine CA6.out.mono ?_
    rintro e w7 ⟨rfl, k7⟩
    have B7 := Lib.hid (B6.out.trans (k7.mono B6.out.size))
    clear k7 CA6
    go_wp2_with fail
    refine (D3.out w7 B7.out).mono ?_
    rintro e w8 ⟨A8, c8, rfl, R8, k8⟩
    have B8 := Lib.hid (B7.out.trans (k8.mono B7.out.size))
    have R8 := Lib.hid R8
    clear k8
    go_wp2_with fail
    refine (D4.out w8 B8.out).mono ?_
    rintro e w9 ⟨A9, c9, rfl, R9, k9⟩
    have B9 := Lib.hid (B8.out.trans (k9.mono B8.out.size))
    have CF9 := Lib.hid (CS.out fv A8 c8 A9 c9 w9 (by omega) (R8.out.below k9 (Nat.le_refl _)) R9)
    clear k9 R8 R9
    go_wp2_with fail
    refine CF9.out.mono ?_
    rintro e wa ⟨rfl, ka⟩
    have Ba := Lib.hid (B9.out.trans (ka.mono B9.out.size))
    clear ka CF9
    go_wp2_with fail
    refine (D5.out wa Ba.out).mono ?_
    rintro e wb ⟨Ab, cb, rfl, Rb, kb⟩
    have Bb := Lib.hid (Ba.out.trans (kb.mono Ba.out.size))
    have Rb := Lib.hid Rb
    clear kb
    go_wp2_with fail
    refine (D6.out wb Bb.out).mono ?_
    rintro e wc ⟨Ac, cc, rfl, Rc, kc⟩
    have Bc := Lib.hid (Bb.out.trans (kc.mono Bb.out.size))
    have CLc := Lib.hid (CS.out lv Ab cb Ac cc wc (by omega) (Rb.out.below kc (Nat.le_refl _)) Rc)
    clear kc Rb Rc
    go_wp2_with fail
    refine CLc.out.mono ?_
    rintro e wd ⟨rfl, kd⟩
    have Bd := Lib.hid (Bc.out.trans (kd.mono Bc.out.size))
    clear kd CLc
    go_wp2_with fail
    refine (CA.out wd Bd.out).mono ?_
    rintro e we ⟨rfl, K⟩
    have K := Lib.hid K
    go_wp2
    go_ret
    exact ⟨rfl, K.out⟩
end Go.Proofs.YtgjgohnomophnaaDoor
