/- The law Reaches. -/
import Derived.Test.YtdfljeonoallfaaGQ
namespace Go.Proofs.Ytdfljeonoallfaa
open Go.RowKit Go.Deep

/-- truth values that can be read -/
def RdB (w : World) (A : Option Addr) (n : Nat) (f : Nat → Bool) : Prop := ∀ j, j < n → ∃ b off, A = some ⟨b, off, none⟩ ∧ b < w.heap.size ∧ w.cell? ⟨b, off + j, none⟩ = some (.bool (f j))
theorem RdB.below {w w' : World} {A : Option Addr} {n : Nat} {f : Nat → Bool} (h : RdB w A n f) (hb : Below w.heap.size w w') : RdB w' A n f := fun j hj => by
  obtain ⟨b, off, e, h1, h2⟩ := h j hj
  exact ⟨b, off, e, Nat.lt_of_lt_of_le h1 hb.size, (hb.cell (p := ⟨b, off + j, none⟩) h1).trans h2⟩
set_option maxHeartbeats 2000000 in
set_option maxRecDepth 100000 in
theorem bools_yes (A B : Option Addr) (n ca cb : Nat) (f : Nat → Bool) (w : World) (ra : RdB w A n f) (rb : RdB w B n f) (hn : n ≤ 1000000) :
    Calls Try.prog 17 #[.slice A n ca, .slice B n cb] w (VPost w.heap.size w (.bool true)) := by
  have RA := Lib.hid ra
  have RB := Lib.hid rb
  have B0 : Hid (Below w.heap.size w w) := Below.refl _ _
  have e1 : ((n : Int) != (n : Int)) = false := by simp
  clear ra rb
  go_enter Try.func17, Try.ntmps17
  go_wp2_with fail
  go_loopw [5] (fun q wr => ∃ k : Nat, k ≤ n ∧ q = .int .i64 k ∧ Hid (Below w.heap.size w wr)) (fun q _ => n - (intOf q).toNat)
  case atStart => exact ⟨0, by omega, rfl, B0⟩
  case round =>
    clear B0
    obtain ⟨k, hk, rfl, BB⟩ := hrel
    by_cases hlt : k < n
    · obtain ⟨ba, oa, rfl, _, c1⟩ := (RA.out.below BB.out) k hlt
      obtain ⟨bb, ob, rfl, _, c2⟩ := (RB.out.below BB.out) k hlt
      have B2 := Lib.hid BB.out.drew
      generalize f k = z at *
      have hz : (z != z) = false := by simp
      go_wp2
      go_region
      generalize wr.drew = wd at *
      go_wp2
      go_roundw
      case rel => exact ⟨k + 1, by omega, by go_num, B2⟩
      case measure => simp [intOf]; omega
    · go_wp2
      go_ret
      exact ⟨rfl, BB.out⟩
def cycV (R : Nat → List Int) (n : Nat) (x : Int) : Bool := inR x n && warN (tabB R) n x.toNat x.toNat
theorem path_from {R : Nat → List Int} {n v w : Nat} (h : PathR R n v w) : ∃ x, EdgeR R n v x ∧ (x = w ∨ PathR R n x w) := by
  induction h with
  | single h => exact ⟨_, h, Or.inl rfl⟩
  | tail _ h ih =>
    obtain ⟨x, h1, h2⟩ := ih
    refine ⟨x, h1, Or.inr ?_⟩
    rcases h2 with rfl | h2
    · exact Relation.TransGen.single h
    · exact Relation.TransGen.tail h2 h
theorem cyc_eq {R : Nat → List Int} {n v : Nat} (hv : v < n) : atT (reachL R n (R v)) v = warN (tabB R) n v v := by
  have h1 : atT (reachL R n (R v)) v = refB R n (R v) v := reach_eq hv
  rw [h1, Bool.eq_iff_iff, refB_iff hv, war_iff hv hv]
  constructor
  · rintro ⟨x, hx, h0, h2, h3⟩
    have hE : EdgeR R n v x.toNat := ⟨hv, by omega, by rw [show ((x.toNat : Nat) : Int) = x from by omega]; exact hx⟩
    rcases h3 with h3 | h3
    · rw [h3] at hE
      exact Relation.TransGen.single hE
    · exact path_head hE h3
  · intro h
    obtain ⟨x, hE, h2⟩ := path_from h
    exact ⟨(x : Int), hE.2.2, by omega, by have := hE.2.1; omega, by rw [Int.toNat_natCast]; exact h2⟩
set_option maxHeartbeats 4000000 in
set_option maxRecDepth 100000 in
theorem cyclic_any (gA : Option Addr) (n gc : Nat) (RA : Nat → Option Addr) (RL : Nat → List Int) (RK : Nat → Nat) (v : Int) (w : World) (GR : GraphR w gA n RA RL RK) :
    Calls Try.prog 20 #[.slice gA n gc, .int .i64 v] w (VPost w.heap.size w (.bool (cycV RL n v))) := by
  have CI := Lib.hid (isv_any gA n gc v w)
  have B0 : Hid (Below w.heap.size w w) := Below.refl _ _
  cases hin : inR v n
  · have E : Hid (cycV RL n v = false) := by show _ = _; unfold cycV; rw [hin]; rfl
    rw [hin] at CI
    generalize cycV RL n v = V at *
    clear GR hin
    go_enter Try.func20, Try.ntmps20
    go_wp2_with fail
    refine CI.out.mono ?_
    rintro e w1 ⟨rfl, rfl⟩
    go_wp2
    go_ret
    exact ⟨by rw [E.out]; rfl, B0.out⟩
  · rw [hin] at CI
    have h := inR_iff.1 hin
    obtain ⟨x, rfl⟩ : ∃ y : Nat, v = y := ⟨v.toNat, by omega⟩
    have hx : x < n := by omega
    have CR := Lib.hid (reach_any gA n gc RA RL RK (RA x) (RL x) (RK x) w GR (GR.rd x hx) (GR.ll x hx))
    obtain ⟨b, off, rfl, _, c0⟩ := GR.row x hx
    have E : Hid (cycV RL n (x : Int) = atT (reachL RL n (RL x)) x) := by show _ = _; unfold cycV; rw [hin, Bool.true_and, Int.toNat_natCast, cyc_eq hx]
    generalize cycV RL n (x : Int) = V at *
    generalize reachL RL n (RL x) = RR at *
    clear GR hin h
    go_enter Try.func20, Try.ntmps20
    go_wp2_with fail
    refine CI.out.mono ?_
    rintro e w1 ⟨rfl, rfl⟩
    go_wp2_with fail
    refine CR.out.mono ?_
    rintro e w2 ⟨A2, c2, rfl, RT, hlen, K⟩
    obtain ⟨b2, off2, rfl, _, c3⟩ := RT x (by omega)
    have K := Lib.hid K
    clear RT hlen CR CI
    go_wp2
    go_ret
    exact ⟨by rw [E.out]; rfl, K.out⟩
set_option maxHeartbeats 4000000 in
set_option maxRecDepth 100000 in
theorem rcyclic_any (gA : Option Addr) (n gc : Nat) (RA : Nat → Option Addr) (RL : Nat → List Int) (RK : Nat → Nat) (v : Int) (w : World) (GR : GraphR w gA n RA RL RK) :
    Calls Try.prog 21 #[.slice gA n gc, .int .i64 v] w (VPost w.heap.size w (.bool (cycV RL n v))) := by
  have CP := Lib.hid (paths_any gA n gc RA RL RK w GR)
  have hn := GR.hn
  have B0 : Hid (Below w.heap.size w w) := Below.refl _ _
  clear GR
  by_cases h0 : v < 0
  · have E : Hid (cycV RL n v = false) := by
      show _ = _
      unfold cycV inR
      rw [decide_eq_false (by omega)]; rfl
    generalize cycV RL n v = V at *
    go_enter Try.func21, Try.ntmps21
    go_wp2
    go_ret
    exact ⟨by rw [E.out]; rfl, B0.out⟩
  · by_cases h1 : (n : Int) ≤ v
    · have E : Hid (cycV RL n v = false) := by
        show _ = _
        unfold cycV inR
        rw [decide_eq_false (show ¬ v < (n : Int) by omega), Bool.and_false]; rfl
      generalize cycV RL n v = V at *
      go_enter Try.func21, Try.ntmps21
      go_wp2
      go_ret
      exact ⟨by rw [E.out]; rfl, B0.out⟩
    · obtain ⟨x, rfl⟩ : ∃ y : Nat, v = y := ⟨v.toNat, by omega⟩
      have hx : x < n := by omega
      have h0' : ¬ (x : Int) < 0 := by omega
      have E : Hid (cycV RL n (x : Int) = warN (tabB RL) n x x) := by show _ = _; unfold cycV; rw [show inR (x : Int) n = true from inR_iff.2 (by omega), Bool.true_and, Int.toNat_natCast]
      generalize cycV RL n (x : Int) = V at *
      generalize warN (tabB RL) n = P at *
      clear h0
      go_enter Try.func21, Try.ntmps21
      go_wp2_with fail
      refine CP.out.mono ?_
      rintro e w1 ⟨pv, ad, rfl, M, K⟩
      obtain ⟨g, c, rfl, c1⟩ := M.cell hx
      have c2 := M.get hx hx
      have K := Lib.hid K
      clear M CP
      go_wp2
      go_ret
      exact ⟨by rw [E.out]; rfl, K.out⟩
set_option maxHeartbeats 4000000 in
set_option maxRecDepth 100000 in
theorem reaches_law (A : Option Addr) (L : List Row) (c : Nat) (fA : Option Addr) (fl : List Int) (fc : Nat) (v : Int) (w : World) (hr : RowsW w A L c) (hf : ReadsV w fA fl) (hfm : fl.length ≤ maxLen) :
    Calls Try.prog 4 #[.slice A L.length c, .slice fA fl.length fc, .int .i64 v] w fun e w' => e = .returned (.bool true) ∧ Below w.heap.size w w' := by
  have CF := Lib.hid (few_any A L c w hr)
  have CX : Hid (∀ W, Calls Try.prog 11 #[] W (VPost W.heap.size W (.bool true))) := alive_any
  have HR : Hid (∀ W, Below w.heap.size w W → L.length ≤ 12 → (∀ v, v < L.length → (rA L v).zs.length ≤ 20) → GraphR W A L.length (fun i => (rA L i).A) (fun i => (rA L i).zs) (fun i => (rA L i).cap)) := fun W hW h1 h2 => graph_rows (hr.below hW) h1 h2
  have RF : Hid (∀ W, Below w.heap.size w W → ReadsV W fA fl) := fun W hW => hf.below hW (Nat.le_refl _)
  unfold maxLen at hfm
  clear hr hf
  go_enter Try.func4, Try.ntmps4
  go_wp2_with fail
  refine CF.out.mono ?_
  rintro e x1 ⟨⟨b, rfl, hb⟩, D1⟩
  have D1 := Lib.hid D1
  clear CF
  cases b
  · clear hb HR
    go_wp2_with fail
    refine (CX.out _).mono ?_
    rintro e x2 ⟨rfl, K⟩
    have D2 := Lib.hid (D1.out.trans (K.mono D1.out.size))
    clear K
    go_wp2
    go_ret
    exact ⟨rfl, D2.out⟩
  by_cases hlong : 20 < fl.length
  · have hl2 : (20 : Int) < (fl.length : Int) := by omega
    clear hb HR
    go_wp2_with fail
    refine (CX.out _).mono ?_
    rintro e x2 ⟨rfl, K⟩
    have D2 := Lib.hid (D1.out.trans (K.mono D1.out.size))
    clear K
    go_wp2
    go_ret
    exact ⟨rfl, D2.out⟩
  have hl2 : ¬ (20 : Int) < (fl.length : Int) := by omega
  obtain ⟨h1, h2⟩ := hb rfl
  have HG : Hid (∀ W, Below w.heap.size w W → GraphR W A L.length (fun i => (rA L i).A) (fun i => (rA L i).zs) (fun i => (rA L i).cap)) := fun W hW => HR.out W hW h1 h2
  have C1 : Hid (∀ W, Below w.heap.size w W → Calls Try.prog 18 #[.slice A L.length c, .slice fA fl.length fc] W fun e w' => ∃ A' c', e = .returned (.slice A' L.length c') ∧ RdB w' A' L.length (refB (fun i => (rA L i).zs) L.length fl) ∧ Below W.heap.size W w') := fun W hW => by
    refine (reach_any _ _ _ _ _ _ fA fl fc W (HG.out W hW) (RF.out W hW) (by omega)).mono ?_
    rintro e w' ⟨A', c', e1, h3, h4, h5⟩
    refine ⟨A', c', e1, fun j hj => ?_, h5⟩
    obtain ⟨b, off, e2, h6, h7⟩ := h3 j (by omega)
    refine ⟨b, off, e2, h6, ?_⟩
    rw [h7, show atT (reachL (fun i => (rA L i).zs) L.length fl) j = refB (fun i => (rA L i).zs) L.length fl j from reach_eq hj]
  have C2 : Hid (∀ W, Below w.heap.size w W → Calls Try.prog 19 #[.slice A L.length c, .slice fA fl.length fc] W fun e w' => ∃ r, e = .returned (.slice (some ⟨r, 0, none⟩) L.length L.length) ∧ RdB w' (some ⟨r, 0, none⟩) L.length (refB (fun i => (rA L i).zs) L.length fl) ∧ Below W.heap.size W w') := fun W hW => by
    refine (rreach_any _ _ _ _ _ _ fA fl fc W (HG.out W hW) (RF.out W hW) (by omega)).mono ?_
    rintro e w' ⟨r, e1, _, h3, h4⟩
    exact ⟨r, e1, fun j hj => ⟨r, 0, rfl, World.rowIs.lt h3, by rw [Nat.zero_add]; exact h3.get hj⟩, h4⟩
  have C3 : Hid (∀ W, Below w.heap.size w W → Calls Try.prog 20 #[.slice A L.length c, .int .i64 v] W (VPost W.heap.size W (.bool (cycV (fun i => (rA L i).zs) L.length v)))) := fun W hW => cyclic_any _ _ _ _ _ _ v W (HG.out W hW)
  have C4 : Hid (∀ W, Below w.heap.size w W → Calls Try.prog 21 #[.slice A L.length c, .int .i64 v] W (VPost W.heap.size W (.bool (cycV (fun i => (rA L i).zs) L.length v)))) := fun W hW => rcyclic_any _ _ _ _ _ _ v W (HG.out W hW)
  have CS : Hid (∀ A B ca cb f W, RdB W A L.length f → RdB W B L.length f → Calls Try.prog 17 #[.slice A L.length ca, .slice B L.length cb] W (VPost W.heap.size W (.bool true))) := fun A B ca cb f W ra rb => bools_yes A B L.length ca cb f W ra rb (by omega)
  clear HR HG h2 hb RF hlong h1
  generalize refB (fun i => (rA L i).zs) L.length fl = RB at *
  generalize cycV (fun i => (rA L i).zs) L.length v = cy at *
  have hcc : (cy == cy) = true := by simp
  go_wp2_with fail
  refine (C1.out _ D1.out).mono ?_
  rintro e x2 ⟨A2, c2, rfl, R2, K⟩
  have D2 := Lib.hid (D1.out.trans (K.mono D1.out.size))
  have R2 := Lib.hid R2
  clear K C1
  go_wp2_with fail
  refine (C2.out _ D2.out).mono ?_
  rintro e x3 ⟨r3, rfl, R3, K⟩
  have D3 := Lib.hid (D2.out.trans (K.mono D2.out.size))
  have CS3 := Lib.hid (CS.out A2 (some ⟨r3, 0, none⟩) c2 L.length RB x3 (R2.out.below K) R3)
  clear K C2 R2 R3 CS
  go_wp2_with fail
  refine CS3.out.mono ?_
  rintro e x4 ⟨rfl, K⟩
  have D4 := Lib.hid (D3.out.trans (K.mono D3.out.size))
  clear K CS3
  go_wp2_with fail
  refine (C3.out _ D4.out).mono ?_
  rintro e x5 ⟨rfl, K⟩
  have D5 := Lib.hid (D4.out.trans (K.mono D4.out.size))
  clear K C3
  go_wp2_with fail
  refine (C4.out _ D5.out).mono ?_
  rintro e x6 ⟨rfl, K⟩
  have D6 := Lib.hid (D5.out.trans (K.mono D5.out.size))
  clear K C4
  go_wp2_with fail
  refine (CX.out _).mono ?_
  rintro e x8 ⟨rfl, K⟩
  have D8 := Lib.hid (D6.out.trans (K.mono D6.out.size))
  clear K CX
  go_wp2
  go_ret
  exact ⟨rfl, D8.out⟩
end Go.Proofs.Ytdfljeonoallfaa
