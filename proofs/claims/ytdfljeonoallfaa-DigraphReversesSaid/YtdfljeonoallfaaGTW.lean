/- The law Reverses. -/
import Derived.Test.YtdfljeonoallfaaGTV
import Derived.Test.YtdfljeonoallfaaGRP
namespace Go.Proofs.Ytdfljeonoallfaa
open Go.RowKit Go.Deep

set_option maxHeartbeats 4000000 in
set_option maxRecDepth 100000 in
theorem reverses_law (A : Option Addr) (L : List Row) (c : Nat) (w : World) (hr : RowsW w A L c) :
    Calls Try.prog 9 #[.slice A L.length c] w fun e w' => e = .returned (.bool true) ∧ Below w.heap.size w w' := by
  have CF := Lib.hid (few_any A L c w hr)
  have CX : Hid (∀ W, Calls Try.prog 11 #[] W (VPost W.heap.size W (.bool true))) := alive_any
  have HR : Hid (∀ W, Below w.heap.size w W → L.length ≤ 12 → (∀ v, v < L.length → (rA L v).zs.length ≤ 20) → GraphR W A L.length (fun i => (rA L i).A) (fun i => (rA L i).zs) (fun i => (rA L i).cap)) := fun W hW h1 h2 => graph_rows (hr.below hW) h1 h2
  clear hr
  go_enter Try.func9, Try.ntmps9
  go_wp2_with fail
  refine CF.out.mono ?_
  rintro e x1 ⟨⟨b, rfl, hb⟩, D1⟩
  have D1 := Lib.hid D1
  clear CF
  cases b
  · clear hb HR
    go_wp2_with fail
    refine (CX.out _).mono ?_
    rintro e x2 ⟨rfl, K⟩
    have D2 := Lib.hid (D1.out.trans (K.mono D1.out.size))
    clear K
    go_wp2
    go_ret
    exact ⟨rfl, D2.out⟩
  obtain ⟨h1, h2⟩ := hb rfl
  have HG : Hid (∀ W, Below w.heap.size w W → GraphR W A L.length (fun i => (rA L i).A) (fun i => (rA L i).zs) (fun i => (rA L i).cap)) := fun W hW => HR.out W hW h1 h2
  clear HR h2 hb
  generalize hRL : (fun i => (rA L i).zs) = RL at *
  clear hRL
  generalize (fun i => (rA L i).A) = RA at *
  generalize (fun i => (rA L i).cap) = RK at *
  obtain ⟨n, hn⟩ : ∃ n, n = L.length := ⟨_, rfl⟩
  rw [← hn] at HG h1 ⊢
  clear hn
  have C3 : Hid (∀ A c RA X RK W, GraphR W A n RA X RK → Calls Try.prog 15 #[.slice A n c] W fun e w' => ∃ RA' RK', e = .returned (.slice (some ⟨W.heap.size, 0, none⟩) n n) ∧ GraphR w' (some ⟨W.heap.size, 0, none⟩) n RA' (revV X n) RK' ∧ Below W.heap.size W w') := fun A c RA X RK W hG => by
    refine (reverse_any _ _ _ _ _ _ W hG).mono ?_
    rintro e w' ⟨vs, e1, h3, h4⟩
    exact ⟨_, _, e1, rev_graph h3 (by omega), h4⟩
  have C4 : Hid (∀ A c RA X RK W, GraphR W A n RA X RK → Calls Try.prog 23 #[.slice A n c] W fun e w' => e = .returned (.slice (some ⟨W.heap.size, 0, none⟩) n n) ∧ ReadsV w' (some ⟨W.heap.size, 0, none⟩) (tab n (fun v => (cmpV X n v : Int))) ∧ Below W.heap.size W w') := fun A c RA X RK W hG => by
    refine (components_any _ _ _ _ _ _ W hG).mono ?_
    rintro e w' ⟨h1, h2, h3⟩
    exact ⟨h1, row_reads h2, h3⟩
  have hce : (tab n fun v => (cmpV (revV RL n) n v : Int)) = tab n fun v => (cmpV RL n v : Int) := by
    refine List.ext_getElem? fun i => ?_
    by_cases hi : i < n
    · simp [tab, hi, cmp_rev hi]
    · rw [List.getElem?_eq_none (by rw [tab_len]; omega), List.getElem?_eq_none (by rw [tab_len]; omega)]
  have hcl : (tab n fun v => (cmpV RL n v : Int)).length = n := tab_len _ _
  have CS : Hid (∀ A B (zs : List Int) m1 m2 c cb W, m1 = zs.length → m2 = zs.length → zs.length ≤ 1000 → ReadsV W A zs → ReadsV W B zs → Calls Try.prog 22 #[.slice A m1 c, .slice B m2 cb] W (VPost W.heap.size W (.bool true))) := fun A B zs m1 m2 c cb W h1 h2 h3 ra rb => by
    rw [h1, h2]
    have h := same_any A B zs zs c cb W ra rb (by omega)
    rw [decide_eq_true rfl] at h
    exact h
  have CT : Hid (∀ W, Below w.heap.size w W → Calls Try.prog 27 #[.slice A n c] W (PthPost W.heap.size W (topG RL n))) := fun W hW => topo_any _ _ _ _ _ _ W (HG.out W hW)
  have CC : Hid (∀ v W, Below w.heap.size w W → Calls Try.prog 20 #[.slice A n c, .int .i64 v] W (VPost W.heap.size W (.bool (cycV RL n v)))) := fun v W hW => cyclic_any _ _ _ _ _ _ v W (HG.out W hW)
  have ET := Lib.hid (top_cyc RL n)
  have C4r : Hid (∀ A c RA RK W, GraphR W A n RA (revV RL n) RK → Calls Try.prog 23 #[.slice A n c] W fun e w' => e = .returned (.slice (some ⟨W.heap.size, 0, none⟩) n n) ∧ ReadsV w' (some ⟨W.heap.size, 0, none⟩) (tab n (fun v => (cmpV RL n v : Int))) ∧ Below W.heap.size W w') := fun A c RA RK W hG => by
    rw [← hce]
    exact C4.out A c RA (revV RL n) RK W hG
  have C4g := Lib.hid fun W hW => C4.out A c RA RL RK W (HG.out W hW)
  have C3g := Lib.hid fun W hW => C3.out A c RA RL RK W (HG.out W hW)
  have C3r := Lib.hid fun A c RA RK W hG => C3.out A c RA (revV RL n) RK W hG
  have C3s := Lib.hid fun A c RA RK W hG => C3.out A c RA (revV (revV RL n) n) RK W hG
  have CLL : Hid (∀ A RA4 RK4 B cb RA5 RK5 W ca, GraphR W A n RA4 (revV (revV (revV RL n) n) n) RK4 → GraphR W B n RA5 (revV RL n) RK5 → Calls Try.prog 14 #[.slice A n ca, .slice B n cb] W (VPost W.heap.size W (.bool true))) := fun A RA4 RK4 B cb RA5 RK5 W ca h4 h5 =>
    lists_yes A B n ca cb RA4 RA5 (revV RL n) RK4 RK5 W (h4.congr fun v hv => rev_thrice RL hv) h5
  have AS : Hid (∀ k, anyN (fun v : Nat => cycV RL n (v : Int)) (k + 1) = (anyN (fun v : Nat => cycV RL n (v : Int)) k || cycV RL n (k : Int))) := fun k => anyN_succ _ k
  have A0 : anyN (fun v : Nat => cycV RL n (v : Int)) 0 = false := rfl
  have A0 := Lib.hid A0
  have HCL := Lib.hid hcl
  clear HG C3 C4 hce hcl
  unfold PthPost at *
  generalize (tab n fun v => (cmpV RL n v : Int)) = CV at *
  generalize revV RL n = RV at *
  generalize revV RV n = RV2 at *
  generalize revV RV2 n = RV3 at *
  generalize (fun v : Nat => cycV RL n (v : Int)) = cyN at *
  generalize topG RL n = PO at *
  obtain ⟨PL, pb⟩ := PO
  dsimp only at *
  go_wp2_with fail
  refine (C3g.out _ D1.out).mono ?_
  rintro e x2 ⟨RA2, RK2, rfl, G2, K⟩
  have D2 := Lib.hid (D1.out.trans (K.mono D1.out.size))
  have G2 := Lib.hid G2
  clear K C3g
  go_wp2_with fail
  refine (C3r.out _ _ _ _ _ G2.out).mono ?_
  rintro e x3 ⟨RA3, RK3, rfl, G3, K⟩
  have D3 := Lib.hid (D2.out.trans (K.mono D2.out.size))
  have G2 := Lib.hid (G2.out.below K)
  have G3 := Lib.hid G3
  clear K C3r
  go_wp2_with fail
  refine (C3s.out _ _ _ _ _ G3.out).mono ?_
  rintro e x4 ⟨RA4, RK4, rfl, G4, K⟩
  have D4 := Lib.hid (D3.out.trans (K.mono D3.out.size))
  have G2 := Lib.hid (G2.out.below K)
  have CL4 := Lib.hid (CLL.out _ _ _ _ n _ _ x4 n G4 G2.out)
  clear K C3s G3 G4 CLL
  go_wp2_with fail
  refine CL4.out.mono ?_
  rintro e x5 ⟨rfl, K⟩
  have D5 := Lib.hid (D4.out.trans (K.mono D4.out.size))
  have G2 := Lib.hid (G2.out.below K)
  clear K CL4
  go_wp2_with fail
  refine (C4r.out _ _ _ _ _ G2.out).mono ?_
  rintro e x6 ⟨rfl, R6, K⟩
  have D6 := Lib.hid (D5.out.trans (K.mono D5.out.size))
  have R6 := Lib.hid R6
  clear K C4r G2
  go_wp2_with fail
  refine (C4g.out _ D6.out).mono ?_
  rintro e x7 ⟨rfl, R7, K⟩
  have D7 := Lib.hid (D6.out.trans (K.mono D6.out.size))
  have CS7 := Lib.hid (CS.out _ _ CV n n n n x7 HCL.out.symm HCL.out.symm (by rw [HCL.out]; omega) (R6.out.below K (Nat.le_refl _)) R7)
  clear K C4g R6 R7 CS
  go_wp2_with fail
  refine CS7.out.mono ?_
  rintro e x8 ⟨rfl, K⟩
  have D8 := Lib.hid (D7.out.trans (K.mono D7.out.size))
  clear K CS7
  go_wp2_with fail
  refine (CT.out _ D8.out).mono ?_
  rintro e x9 ⟨A9, c9, rfl, R9, K⟩
  have D9 := Lib.hid (D8.out.trans (K.mono D8.out.size))
  clear K CT R9
  go_wp2_with fail
  go_loopw [7, 6] (fun iv bv wr => ∃ k : Nat, k ≤ n ∧ iv = .int .i64 (k : Nat) ∧ bv = .bool (anyN cyN k) ∧ Hid (Below w.heap.size w wr)) (fun iv _ _ => n - (intOf iv).toNat)
  case atStart => exact ⟨0, by omega, rfl, by rw [A0.out], D9⟩
  case round =>
    clear D9
    obtain ⟨k, hk, rfl, rfl, DD⟩ := hrel
    by_cases hlt : k < n
    · have ASk := Lib.hid (AS.out k)
      have CCk := Lib.hid (CC.out (k : Int) wr DD.out)
      clear AS CC ET
      generalize anyN cyN k = a1 at *
      cases a1
      · go_wp2_with fail
        refine CCk.out.mono ?_
        rintro e y1 ⟨rfl, K⟩
        have DY := Lib.hid (DD.out.trans (K.mono DD.out.size))
        clear K CCk
        go_wp2
        go_roundw
        case rel => exact ⟨k + 1, by omega, by go_num, by rw [ASk.out, Bool.false_or], DY⟩
        case measure => simp [intOf]; omega
      · clear CCk
        go_wp2
        go_roundw
        case rel => exact ⟨k + 1, by omega, by go_num, by rw [ASk.out, Bool.true_or], DD⟩
        case measure => simp [intOf]; omega
    · obtain rfl : k = n := by omega
      have et := ET.out
      clear ET AS
      generalize anyN cyN k = a1 at *
      obtain rfl : pb = !a1 := et
      cases a1
      all_goals
        go_wp2_with fail
        refine (CX.out _).mono ?_
        rintro e z1 ⟨rfl, K⟩
        have DZ := Lib.hid (DD.out.trans (K.mono DD.out.size))
        clear K CX
        go_wp2
        go_ret
        exact ⟨rfl, DZ.out⟩
end Go.Proofs.Ytdfljeonoallfaa
