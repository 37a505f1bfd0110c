/- The laws Topo and Reverses. -/
import Derived.Test.YtdfljeonoallfaaGTV
import Derived.Test.YtdfljeonoallfaaGRP
namespace Go.Proofs.Ytdfljeonoallfaa
open Go.RowKit Go.Deep

set_option maxHeartbeats 4000000 in
set_option maxRecDepth 100000 in
theorem topo_law (A : Option Addr) (L : List Row) (c : Nat) (w : World) (hr : RowsW w A L c) :
    Calls Try.prog 6 #[.slice A L.length c] w fun e w' => e = .returned (.bool true) ∧ Below w.heap.size w w' := by
  have CF := Lib.hid (few_any A L c w hr)
  have CX : Hid (∀ W, Calls Try.prog 11 #[] W (VPost W.heap.size W (.bool true))) := alive_any
  have HR : Hid (∀ W, Below w.heap.size w W → L.length ≤ 12 → (∀ v, v < L.length → (rA L v).zs.length ≤ 20) → GraphR W A L.length (fun i => (rA L i).A) (fun i => (rA L i).zs) (fun i => (rA L i).cap)) := fun W hW h1 h2 => graph_rows (hr.below hW) h1 h2
  clear hr
  go_enter Try.func6, Try.ntmps6
  go_wp2_with fail
  refine CF.out.mono ?_
  rintro e x1 ⟨⟨b, rfl, hb⟩, D1⟩
  have D1 := Lib.hid D1
  clear CF
  cases b
  · clear hb HR
    go_wp2_with fail
    refine (CX.out _).mono ?_
    rintro e x2 ⟨rfl, K⟩
    have D2 := Lib.hid (D1.out.trans (K.mono D1.out.size))
    clear K
    go_wp2
    go_ret
    exact ⟨rfl, D2.out⟩
  obtain ⟨h1, h2⟩ := hb rfl
  have HG : Hid (∀ W, Below w.heap.size w W → GraphR W A L.length (fun i => (rA L i).A) (fun i => (rA L i).zs) (fun i => (rA L i).cap)) := fun W hW => HR.out W hW h1 h2
  have C1 : Hid (∀ W, Below w.heap.size w W → Calls Try.prog 27 #[.slice A L.length c] W (PthPost W.heap.size W (topG (fun i => (rA L i).zs) L.length))) := fun W hW => topo_any _ _ _ _ _ _ W (HG.out W hW)
  have C2 : Hid (∀ W, Below w.heap.size w W → Calls Try.prog 28 #[.slice A L.length c] W (PthPost W.heap.size W (topG (fun i => (rA L i).zs) L.length))) := fun W hW => rtopo_any _ _ _ _ _ _ W (HG.out W hW)
  have hpl : (topG (fun i => (rA L i).zs) L.length).1.length ≤ 1000 := by
    have h := topF_len (tabB fun i => (rA L i).zs) L.length L.length (fun _ => false) []
    have h3 : ([] : List Int).length = 0 := rfl
    unfold topG
    omega
  have CS : Hid (∀ A B (zs : List Int) c cb W, zs.length ≤ 1000 → ReadsV W A zs → ReadsV W B zs → Calls Try.prog 22 #[.slice A zs.length c, .slice B zs.length cb] W (VPost W.heap.size W (.bool true))) := fun A B zs c cb W h3 ra rb => by
    have h := same_any A B zs zs c cb W ra rb (by omega)
    rw [decide_eq_true rfl] at h
    exact h
  have HPL := Lib.hid hpl
  clear HR HG h2 hb hpl h1
  unfold PthPost at *
  generalize topG (fun i => (rA L i).zs) L.length = PO at *
  obtain ⟨PL, pb⟩ := PO
  dsimp only at *
  have hbb : (pb == pb) = true := by simp
  go_wp2_with fail
  refine (C1.out _ D1.out).mono ?_
  rintro e x2 ⟨A2, c2, rfl, R2, K⟩
  have D2 := Lib.hid (D1.out.trans (K.mono D1.out.size))
  have R2 := Lib.hid R2
  clear K C1
  go_wp2_with fail
  refine (C2.out _ D2.out).mono ?_
  rintro e x3 ⟨A3, c3, rfl, R3, K⟩
  have D3 := Lib.hid (D2.out.trans (K.mono D2.out.size))
  have CS3 := Lib.hid (CS.out A2 A3 PL c2 c3 x3 HPL.out (R2.out.below K (Nat.le_refl _)) R3)
  clear K C2 R2 R3 CS
  go_wp2_with fail
  refine CS3.out.mono ?_
  rintro e x4 ⟨rfl, K⟩
  have D4 := Lib.hid (D3.out.trans (K.mono D3.out.size))
  clear K CS3
  go_wp2_with fail
  refine (CX.out _).mono ?_
  rintro e x8 ⟨rfl, K⟩
  have D8 := Lib.hid (D4.out.trans (K.mono D4.out.size))
  clear K CX
  go_wp2
  go_ret
  exact ⟨rfl, D8.out⟩
end Go.Proofs.Ytdfljeonoallfaa
