/- The law Lists. -/
import Derived.Test.YtdfljeonoallfaaGLR
namespace Go.Proofs.Ytdfljeonoallfaa
open Go.RowKit Go.Deep

theorem rev_graph {w : World} {T n : Nat} {RL : Nat → List Int} {vs : Nat → Value} (h : GrowT w T (T + 1) n 27 3 1 (fun e => (revV RL n e).length) (fun e => vI (revV RL n e)) vs) (hn : n ≤ 4000) : GraphR w (some ⟨T, 0, none⟩) n (fun e => addrOf (vs e)) (revV RL n) (fun e => capOf (vs e)) where
  hn := hn
  row := fun e he => by
    obtain ⟨A, c, e1, h1⟩ := ReadsV.own (h.2.2.2.1 e he)
    refine ⟨T, 0, rfl, h.2.2.1.lt, ?_⟩
    rw [Nat.zero_add, h.2.2.1.cell he]
    rw [e1]
    rfl
  rd := fun e he => by
    obtain ⟨A, c, e1, h1⟩ := ReadsV.own (h.2.2.2.1 e he)
    rw [e1]
    exact h1
  ll := fun e _ => by have := pickI_len (fun u => (RL u).contains (e : Int)) n; unfold revV; omega
set_option maxHeartbeats 4000000 in
set_option maxRecDepth 100000 in
theorem lists_law (A : Option Addr) (L : List Row) (c : Nat) (w : World) (hr : RowsW w A L c) :
    Calls Try.prog 3 #[.slice A L.length c] w fun e w' => e = .returned (.bool true) ∧ Below w.heap.size w w' := by
  have CF := Lib.hid (few_any A L c w hr)
  have CX : Hid (∀ W, Calls Try.prog 11 #[] W (VPost W.heap.size W (.bool true))) := alive_any
  have HR : Hid (∀ W, Below w.heap.size w W → L.length ≤ 12 → (∀ v, v < L.length → (rA L v).zs.length ≤ 20) → GraphR W A L.length (fun i => (rA L i).A) (fun i => (rA L i).zs) (fun i => (rA L i).cap)) := fun W hW h1 h2 => graph_rows (hr.below hW) h1 h2
  clear hr
  go_enter Try.func3, Try.ntmps3
  go_wp2_with fail
  refine CF.out.mono ?_
  rintro e x1 ⟨⟨b, rfl, hb⟩, D1⟩
  have D1 := Lib.hid D1
  clear CF
  cases b
  · clear hb HR
    go_wp2_with fail
    refine (CX.out _).mono ?_
    rintro e x2 ⟨rfl, K⟩
    have D2 := Lib.hid (D1.out.trans (K.mono D1.out.size))
    clear K
    go_wp2
    go_ret
    exact ⟨rfl, D2.out⟩
  obtain ⟨h1, h2⟩ := hb rfl
  have HG : Hid (∀ W, Below w.heap.size w W → GraphR W A L.length (fun i => (rA L i).A) (fun i => (rA L i).zs) (fun i => (rA L i).cap)) := fun W hW => HR.out W hW h1 h2
  clear HR h2 hb
  generalize hRL : (fun i => (rA L i).zs) = RL at *
  clear hRL
  obtain ⟨n, hn⟩ : ∃ n, n = L.length := ⟨_, rfl⟩
  rw [← hn] at HG h1 ⊢
  clear hn
  have C1 : Hid (∀ W, Below w.heap.size w W → Calls Try.prog 12 #[.slice A n c] W (VPost W.heap.size W (.bool (validG RL n)))) := fun W hW => valid_any _ _ _ _ _ _ W (HG.out W hW)
  have C2 : Hid (∀ W, Below w.heap.size w W → Calls Try.prog 13 #[.slice A n c] W (VPost W.heap.size W (.bool (validG RL n)))) := fun W hW => rvalid_any _ _ _ _ _ _ W (HG.out W hW)
  have C3 : Hid (∀ W, Below w.heap.size w W → Calls Try.prog 15 #[.slice A n c] W fun e w' => ∃ RA' RK', e = .returned (.slice (some ⟨W.heap.size, 0, none⟩) n n) ∧ GraphR w' (some ⟨W.heap.size, 0, none⟩) n RA' (revV RL n) RK' ∧ Below W.heap.size W w') := fun W hW => by
    refine (reverse_any _ _ _ _ _ _ W (HG.out W hW)).mono ?_
    rintro e w' ⟨vs, e1, h3, h4⟩
    exact ⟨_, _, e1, rev_graph h3 (by omega), h4⟩
  have C4 : Hid (∀ W, Below w.heap.size w W → Calls Try.prog 16 #[.slice A n c] W fun e w' => ∃ A c RA' RK', e = .returned (.slice A n c) ∧ GraphR w' A n RA' (revV RL n) RK' ∧ Below W.heap.size W w') := fun W hW => rreverse_any _ _ _ _ _ _ W (HG.out W hW) (by omega)
  have C5 : Hid (∀ A2 c2 RA' RK' W, GraphR W A2 n RA' (revV RL n) RK' → Calls Try.prog 12 #[.slice A2 n c2] W (VPost W.heap.size W (.bool true))) := fun A2 c2 RA' RK' W h => by
    have h2 := valid_any A2 n c2 RA' (revV RL n) RK' W h
    rw [valid_rev] at h2
    exact h2
  clear HG h1
  generalize validG RL n = V at *
  generalize revV RL n = RV at *
  have hvv : (V == V) = true := by simp
  go_wp2_with fail
  refine (C1.out _ D1.out).mono ?_
  rintro e x2 ⟨rfl, K⟩
  have D2 := Lib.hid (D1.out.trans (K.mono D1.out.size))
  clear K C1
  go_wp2_with fail
  refine (C2.out _ D2.out).mono ?_
  rintro e x3 ⟨rfl, K⟩
  have D3 := Lib.hid (D2.out.trans (K.mono D2.out.size))
  clear K C2
  go_wp2_with fail
  refine (C3.out _ D3.out).mono ?_
  rintro e x4 ⟨RA4, RK4, rfl, G4, K⟩
  have D4 := Lib.hid (D3.out.trans (K.mono D3.out.size))
  have G4 := Lib.hid G4
  clear K
  go_wp2_with fail
  refine (C4.out _ D4.out).mono ?_
  rintro e x5 ⟨A5, c5, RA5, RK5, rfl, G5, K⟩
  have D5 := Lib.hid (D4.out.trans (K.mono D4.out.size))
  have CL := Lib.hid (lists_yes _ A5 n n c5 RA4 RA5 RV RK4 RK5 x5 (G4.out.below K) G5)
  clear K C4 G4 G5
  go_wp2_with fail
  refine CL.out.mono ?_
  rintro e x6 ⟨rfl, K⟩
  have D6 := Lib.hid (D5.out.trans (K.mono D5.out.size))
  clear K CL
  go_wp2_with fail
  refine (C3.out _ D6.out).mono ?_
  rintro e x7 ⟨RA7, RK7, rfl, G7, K⟩
  have D7 := Lib.hid (D6.out.trans (K.mono D6.out.size))
  have CV7 := Lib.hid (C5.out _ n RA7 RK7 x7 G7)
  clear K C3 C5 G7
  go_wp2_with fail
  refine CV7.out.mono ?_
  rintro e x8 ⟨rfl, K⟩
  have D8 := Lib.hid (D7.out.trans (K.mono D7.out.size))
  clear K CV7
  go_wp2_with fail
  refine (CX.out _).mono ?_
  rintro e x9 ⟨rfl, K⟩
  have D9 := Lib.hid (D8.out.trans (K.mono D8.out.size))
  clear K CX
  go_wp2
  go_ret
  exact ⟨rfl, D9.out⟩
end Go.Proofs.Ytdfljeonoallfaa
