/- The law Components. -/
import Derived.Test.YtdfljeonoallfaaGN
import Derived.Test.YtdfljeonoallfaaGO
namespace Go.Proofs.Ytdfljeonoallfaa
open Go.RowKit Go.Deep

theorem row_reads {w : World} {T n : Nat} {f : Nat → Int} (h : w.rowIs T 3 n (fun j => .int .i64 (f j))) : ReadsV w (some ⟨T, 0, none⟩) (tab n f) := fun j hj => by
  rw [tab_len] at hj
  exact ⟨T, 0, rfl, h.lt, by rw [Nat.zero_add, h.cell hj, tab_at _ _ _ hj]⟩
set_option maxHeartbeats 4000000 in
set_option maxRecDepth 100000 in
theorem components_law (A : Option Addr) (L : List Row) (c : Nat) (w : World) (hr : RowsW w A L c) :
    Calls Try.prog 5 #[.slice A L.length c] w fun e w' => e = .returned (.bool true) ∧ Below w.heap.size w w' := by
  have CF := Lib.hid (few_any A L c w hr)
  have CX : Hid (∀ W, Calls Try.prog 11 #[] W (VPost W.heap.size W (.bool true))) := alive_any
  have HR : Hid (∀ W, Below w.heap.size w W → L.length ≤ 12 → (∀ v, v < L.length → (rA L v).zs.length ≤ 20) → GraphR W A L.length (fun i => (rA L i).A) (fun i => (rA L i).zs) (fun i => (rA L i).cap)) := fun W hW h1 h2 => graph_rows (hr.below hW) h1 h2
  clear hr
  go_enter Try.func5, Try.ntmps5
  go_wp2_with fail
  refine CF.out.mono ?_
  rintro e x1 ⟨⟨b, rfl, hb⟩, D1⟩
  have D1 := Lib.hid D1
  clear CF
  cases b
  · clear hb HR
    go_wp2_with fail
    refine (CX.out _).mono ?_
    rintro e x2 ⟨rfl, K⟩
    have D2 := Lib.hid (D1.out.trans (K.mono D1.out.size))
    clear K
    go_wp2
    go_ret
    exact ⟨rfl, D2.out⟩
  obtain ⟨h1, h2⟩ := hb rfl
  have HG : Hid (∀ W, Below w.heap.size w W → GraphR W A L.length (fun i => (rA L i).A) (fun i => (rA L i).zs) (fun i => (rA L i).cap)) := fun W hW => HR.out W hW h1 h2
  have C1 : Hid (∀ W, Below w.heap.size w W → Calls Try.prog 23 #[.slice A L.length c] W fun e w' => e = .returned (.slice (some ⟨W.heap.size, 0, none⟩) L.length L.length) ∧ ReadsV w' (some ⟨W.heap.size, 0, none⟩) (tab L.length (fun v => (cmpV (fun i => (rA L i).zs) L.length v : Int))) ∧ Below W.heap.size W w') := fun W hW => by
    refine (components_any _ _ _ _ _ _ W (HG.out W hW)).mono ?_
    rintro e w' ⟨h1, h2, h3⟩
    exact ⟨h1, row_reads h2, h3⟩
  have C2 : Hid (∀ W, Below w.heap.size w W → Calls Try.prog 24 #[.slice A L.length c] W (IsPost W.heap.size W (tab L.length (fun v => (cmpV (fun i => (rA L i).zs) L.length v : Int))))) := fun W hW => rcomponents_any _ _ _ _ _ _ W (HG.out W hW)
  have C3 : Hid (∀ W, Below w.heap.size w W → Calls Try.prog 25 #[.slice A L.length c] W (IsPost W.heap.size W (botV (fun i => (rA L i).zs) L.length))) := fun W hW => bottom_any _ _ _ _ _ _ W (HG.out W hW)
  have C4 : Hid (∀ W, Below w.heap.size w W → Calls Try.prog 26 #[.slice A L.length c] W (IsPost W.heap.size W (botV (fun i => (rA L i).zs) L.length))) := fun W hW => rbottom_any _ _ _ _ _ _ W (HG.out W hW)
  have CS : Hid (∀ A B (zs : List Int) m1 m2 c cb W, m1 = zs.length → m2 = zs.length → zs.length ≤ 1000 → ReadsV W A zs → ReadsV W B zs → Calls Try.prog 22 #[.slice A m1 c, .slice B m2 cb] W (VPost W.heap.size W (.bool true))) := fun A B zs m1 m2 c cb W h1 h2 h3 ra rb => by
    rw [h1, h2]
    have h := same_any A B zs zs c cb W ra rb (by omega)
    rw [decide_eq_true rfl] at h
    exact h
  have hl1 : (tab L.length (fun v => (cmpV (fun i => (rA L i).zs) L.length v : Int))).length = L.length := tab_len _ _
  have hl2 : (botV (fun i => (rA L i).zs) L.length).length ≤ L.length := pickI_len _ _
  clear HR HG h2 hb
  unfold IsPost at *
  generalize tab L.length (fun v => (cmpV (fun i => (rA L i).zs) L.length v : Int)) = TC at *
  generalize botV (fun i => (rA L i).zs) L.length = TB at *
  have HL1 := Lib.hid hl1
  have HL2 := Lib.hid hl2
  have H12 := Lib.hid h1
  clear hl1 hl2 h1
  go_wp2_with fail
  refine (C1.out _ D1.out).mono ?_
  rintro e x2 ⟨rfl, R2, K⟩
  have D2 := Lib.hid (D1.out.trans (K.mono D1.out.size))
  have R2 := Lib.hid R2
  clear K C1
  go_wp2_with fail
  refine (C2.out _ D2.out).mono ?_
  rintro e x3 ⟨A3, c3, rfl, R3, K⟩
  have D3 := Lib.hid (D2.out.trans (K.mono D2.out.size))
  have CS3 := Lib.hid (CS.out _ A3 TC L.length TC.length L.length c3 x3 HL1.out.symm rfl (by rw [HL1.out]; have := H12.out; omega) (R2.out.below K (Nat.le_refl _)) R3)
  clear K C2 R2 R3
  go_wp2_with fail
  refine CS3.out.mono ?_
  rintro e x4 ⟨rfl, K⟩
  have D4 := Lib.hid (D3.out.trans (K.mono D3.out.size))
  clear K CS3
  go_wp2_with fail
  refine (C3.out _ D4.out).mono ?_
  rintro e x5 ⟨A5, c5, rfl, R5, K⟩
  have D5 := Lib.hid (D4.out.trans (K.mono D4.out.size))
  have R5 := Lib.hid R5
  clear K C3
  go_wp2_with fail
  refine (C4.out _ D5.out).mono ?_
  rintro e x6 ⟨A6, c6, rfl, R6, K⟩
  have D6 := Lib.hid (D5.out.trans (K.mono D5.out.size))
  have CS6 := Lib.hid (CS.out A5 A6 TB TB.length TB.length c5 c6 x6 rfl rfl (by have h1 := HL2.out; have h2 := H12.out; omega) (R5.out.below K (Nat.le_refl _)) R6)
  clear K C4 R5 R6 CS
  go_wp2_with fail
  refine CS6.out.mono ?_
  rintro e x7 ⟨rfl, K⟩
  have D7 := Lib.hid (D6.out.trans (K.mono D6.out.size))
  clear K CS6
  go_wp2_with fail
  refine (CX.out _).mono ?_
  rintro e x8 ⟨rfl, K⟩
  have D8 := Lib.hid (D7.out.trans (K.mono D7.out.size))
  clear K CX
  go_wp2
  go_ret
  exact ⟨rfl, D8.out⟩
end Go.Proofs.Ytdfljeonoallfaa
