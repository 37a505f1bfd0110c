/- The law on spoiled nets. -/
import Derived.Test.YtlmchanciegggaaPB
import Derived.Deep.CutRange
namespace Go.Proofs.Ytlmchanciegggaa
open Go.RowKit Go.ChangeShapes Go.WideShapes Go.Deep

section
variable {H : Type} {enc : TypeId × Value → H} {w : World} {base : Nat} {spare : Nat → Bool} {held : Bool}
theorem nil_cap {P : Program} {t e : TypeId} {fuel : Nat} {v : Value} {x : DataW H × List MemPlace} (ht : P.underlying t = some (.slice e)) (h : DataW.trod enc P w base spare held fuel t [v] = some x) :
    ∀ l c, v = .slice none l c → c = 0 := by
  rcases open_slice ht h with ⟨h0, _⟩ | ⟨a, len, cap, m, n, D, Pl, hcs, _⟩
  · simp at h0
    intro l c e
    rw [h0] at e
    injection e with e1 e2 e3
    exact e3.symm
  · simp at hcs
    intro l c e
    rw [hcs] at e
    injection e with e1
    cases e1
theorem open_netZ {r : Reach} {b0 : Nat} {v : Value} {d : DataW H} {p : List MemPlace} (hv : Value.okWide Try.prog w r b0 25 v) (h : DataW.Trod enc Try.prog w base spare held 25 v d p) :
    ∃ n : NetV, v = .agg #[.string n.nm, .slice n.PA n.ps.length n.pc, .slice n.TA n.ts.length n.tc] ∧ (NetW w n ∧ (n.TA = none → n.tc = 0)) := by
  obtain ⟨v0, v1, v2, y0, y1, y2, n, rfl, _, _, t0, t1, t2⟩ := Joins.open_agg3 Try.underlying25 (by kernel_rfl) (by kernel_rfl) hv h
  obtain ⟨s0, e0, _, hs⟩ := DataW.trod_string Try.underlying9 t0
  have hz := nil_cap Try.underlying23 t2
  obtain ⟨A, c, ps, rfl, h1, h2, h3, h4⟩ := open_places t1
  obtain ⟨B, c2, ts, rfl, k1, k2, k3, k4⟩ := open_transs t2
  simp at e0
  subst e0
  exact ⟨⟨s0, A, ps, c, B, ts, c2⟩, rfl, ⟨hs, Nat.le_trans h1 h2, Nat.le_trans k1 k2, h4, k4, h1, k1, h3, k3⟩, fun e => hz _ _ (by rw [show B = none from e])⟩
end

set_option maxHeartbeats 32000000 in
set_option maxRecDepth 1000000 in
theorem spoils_law (n : NetV) (w : World) (hnz : NetW w n ∧ (n.TA = none → n.tc = 0)) :
    Calls Try.prog 9 #[(.agg #[.string n.nm, .slice n.PA n.ps.length n.pc, .slice n.TA n.ts.length n.tc])] w fun e w' => e = .returned (.bool true) ∧ Below w.heap.size w w' := by
  obtain ⟨hn, hz⟩ := hnz
  have B0 : Hid (Below w.heap.size w (w.alloc (.cells #[.string n.nm, .slice n.PA n.ps.length n.pc, .slice n.TA n.ts.length n.tc] 25))) := (Below.refl _ _).alloc (Nat.le_refl _) _
  cases hs : smallN n
  · have SM := Lib.hid (fun W (hW : Below w.heap.size w W) => small_no n W (hn.below hW (Nat.le_refl _)) hs)
    go_enter Try.func9, Try.ntmps9
    go_wp2_with fail
    refine (lives_any _).mono ?_
    rintro e wl ⟨rfl, KL⟩
    have c0 : wl.cell? ⟨w.heap.size, 0, none⟩ = some (.string n.nm) := by rw [KL.cell (by simp)]; simp
    have c1 : wl.cell? ⟨w.heap.size, 1, none⟩ = some (.slice n.PA n.ps.length n.pc) := by rw [KL.cell (by simp)]; simp
    have c2 : wl.cell? ⟨w.heap.size, 2, none⟩ = some (.slice n.TA n.ts.length n.tc) := by rw [KL.cell (by simp)]; simp
    have BL := Lib.hid (B0.out.trans (KL.mono (by rw [World.size_alloc]; omega)))
    clear KL
    go_wp2_with fail
    refine (SM.out _ BL.out).mono ?_
    rintro e w1 ⟨rfl, K⟩
    have B1 : Below w.heap.size w w1 := BL.out.trans (K.mono BL.out.size)
    clear c0 c1 c2
    have BX := Lib.hid (B1.alloc B1.size (.cells #[.string ⟨#[]⟩, .slice none 0 0, .slice none 0 0] 25))
    clear B1 K
    go_wp2
    go_ret
    exact ⟨rfl, BX.out⟩
  have hR := Lib.hid (small_ok hn hs)
  have SM := Lib.hid (fun W (hW : Below w.heap.size w W) => small_yes n W (hn.below hW (Nat.le_refl _)) hs)
  have CV := Lib.hid (fun W (hW : NetR W n) => rvalidN_any n W hW)
  clear hs
  cases hok : okN n
  · rw [hok] at CV
    clear hok
    go_enter Try.func9, Try.ntmps9
    go_wp2_with fail
    refine (lives_any _).mono ?_
    rintro e wl ⟨rfl, KL⟩
    have c0 : wl.cell? ⟨w.heap.size, 0, none⟩ = some (.string n.nm) := by rw [KL.cell (by simp)]; simp
    have c1 : wl.cell? ⟨w.heap.size, 1, none⟩ = some (.slice n.PA n.ps.length n.pc) := by rw [KL.cell (by simp)]; simp
    have c2 : wl.cell? ⟨w.heap.size, 2, none⟩ = some (.slice n.TA n.ts.length n.tc) := by rw [KL.cell (by simp)]; simp
    have BL := Lib.hid (B0.out.trans (KL.mono (by rw [World.size_alloc]; omega)))
    clear KL
    go_wp2_with fail
    refine (SM.out _ BL.out).mono ?_
    rintro e w1 ⟨rfl, K⟩
    have B1 : Below w.heap.size w w1 := BL.out.trans (K.mono BL.out.size)
    clear c0 c1 c2
    go_wp2_with fail
    obtain ⟨w0, hw0⟩ : ∃ w0, w0 = w1.alloc (.cells #[.string n.nm, .slice n.PA n.ps.length n.pc, .slice n.TA n.ts.length n.tc] 25) := ⟨_, rfl⟩
    have BW : Hid (Below w.heap.size w w0) := by rw [hw0]; exact B1.alloc B1.size _
    have Q0 : Hid (w0.cell? ⟨w1.heap.size, 0, none⟩ = some (.string n.nm)) := by show _ = _; rw [hw0]; simp
    have Q1 : Hid (w0.cell? ⟨w1.heap.size, 1, none⟩ = some (.slice n.PA n.ps.length n.pc)) := by show _ = _; rw [hw0]; simp
    have Q2 : Hid (w0.cell? ⟨w1.heap.size, 2, none⟩ = some (.slice n.TA n.ts.length n.tc)) := by show _ = _; rw [hw0]; simp
    have CN : Hid (∀ W, Below w0.heap.size w0 W → NetR W n) := fun W hW => (hR.out.below BW.out (Nat.le_refl _)).below hW (Nat.le_refl _)
    rw [← hw0]
    clear hw0 B1 K
    generalize w1.heap.size = x at *
    refine (CV.out _ (CN.out _ (Below.refl _ _))).mono ?_
    rintro e w2 ⟨rfl, K⟩
    have B2 := Lib.hid (BW.out.trans (K.mono BW.out.size))
    clear K
    go_wp2
    go_ret
    exact ⟨rfl, B2.out⟩
  rw [hok] at CV
  by_cases h24 : n.ps.length < 24
  case neg =>
    have hge : (24 : Int) ≤ (n.ps.length : Int) := by omega
    clear hok
    go_enter Try.func9, Try.ntmps9
    go_wp2_with fail
    refine (lives_any _).mono ?_
    rintro e wl ⟨rfl, KL⟩
    have c0 : wl.cell? ⟨w.heap.size, 0, none⟩ = some (.string n.nm) := by rw [KL.cell (by simp)]; simp
    have c1 : wl.cell? ⟨w.heap.size, 1, none⟩ = some (.slice n.PA n.ps.length n.pc) := by rw [KL.cell (by simp)]; simp
    have c2 : wl.cell? ⟨w.heap.size, 2, none⟩ = some (.slice n.TA n.ts.length n.tc) := by rw [KL.cell (by simp)]; simp
    have BL := Lib.hid (B0.out.trans (KL.mono (by rw [World.size_alloc]; omega)))
    clear KL
    go_wp2_with fail
    refine (SM.out _ BL.out).mono ?_
    rintro e w1 ⟨rfl, K⟩
    have B1 : Below w.heap.size w w1 := BL.out.trans (K.mono BL.out.size)
    clear c0 c1 c2
    go_wp2_with fail
    obtain ⟨w0, hw0⟩ : ∃ w0, w0 = w1.alloc (.cells #[.string n.nm, .slice n.PA n.ps.length n.pc, .slice n.TA n.ts.length n.tc] 25) := ⟨_, rfl⟩
    have BW : Hid (Below w.heap.size w w0) := by rw [hw0]; exact B1.alloc B1.size _
    have Q0 : Hid (w0.cell? ⟨w1.heap.size, 0, none⟩ = some (.string n.nm)) := by show _ = _; rw [hw0]; simp
    have Q1 : Hid (w0.cell? ⟨w1.heap.size, 1, none⟩ = some (.slice n.PA n.ps.length n.pc)) := by show _ = _; rw [hw0]; simp
    have Q2 : Hid (w0.cell? ⟨w1.heap.size, 2, none⟩ = some (.slice n.TA n.ts.length n.tc)) := by show _ = _; rw [hw0]; simp
    have CN : Hid (∀ W, Below w0.heap.size w0 W → NetR W n) := fun W hW => (hR.out.below BW.out (Nat.le_refl _)).below hW (Nat.le_refl _)
    rw [← hw0]
    clear hw0 B1 K
    generalize w1.heap.size = x at *
    refine (CV.out _ (CN.out _ (Below.refl _ _))).mono ?_
    rintro e w2 ⟨rfl, K⟩
    have B2 := Lib.hid (BW.out.trans (K.mono BW.out.size))
    have q1w2 := keepc Q1.out K
    clear K
    go_wp2
    go_ret
    exact ⟨rfl, B2.out⟩
  have hlt : ¬ (24 : Int) ≤ (n.ps.length : Int) := by omega
  by_cases t24 : n.ts.length < 24
  case neg =>
    have hge : (24 : Int) ≤ (n.ts.length : Int) := by omega
    clear hok
    go_enter Try.func9, Try.ntmps9
    go_wp2_with fail
    refine (lives_any _).mono ?_
    rintro e wl ⟨rfl, KL⟩
    have c0 : wl.cell? ⟨w.heap.size, 0, none⟩ = some (.string n.nm) := by rw [KL.cell (by simp)]; simp
    have c1 : wl.cell? ⟨w.heap.size, 1, none⟩ = some (.slice n.PA n.ps.length n.pc) := by rw [KL.cell (by simp)]; simp
    have c2 : wl.cell? ⟨w.heap.size, 2, none⟩ = some (.slice n.TA n.ts.length n.tc) := by rw [KL.cell (by simp)]; simp
    have BL := Lib.hid (B0.out.trans (KL.mono (by rw [World.size_alloc]; omega)))
    clear KL
    go_wp2_with fail
    refine (SM.out _ BL.out).mono ?_
    rintro e w1 ⟨rfl, K⟩
    have B1 : Below w.heap.size w w1 := BL.out.trans (K.mono BL.out.size)
    clear c0 c1 c2
    go_wp2_with fail
    obtain ⟨w0, hw0⟩ : ∃ w0, w0 = w1.alloc (.cells #[.string n.nm, .slice n.PA n.ps.length n.pc, .slice n.TA n.ts.length n.tc] 25) := ⟨_, rfl⟩
    have BW : Hid (Below w.heap.size w w0) := by rw [hw0]; exact B1.alloc B1.size _
    have Q0 : Hid (w0.cell? ⟨w1.heap.size, 0, none⟩ = some (.string n.nm)) := by show _ = _; rw [hw0]; simp
    have Q1 : Hid (w0.cell? ⟨w1.heap.size, 1, none⟩ = some (.slice n.PA n.ps.length n.pc)) := by show _ = _; rw [hw0]; simp
    have Q2 : Hid (w0.cell? ⟨w1.heap.size, 2, none⟩ = some (.slice n.TA n.ts.length n.tc)) := by show _ = _; rw [hw0]; simp
    have CN : Hid (∀ W, Below w0.heap.size w0 W → NetR W n) := fun W hW => (hR.out.below BW.out (Nat.le_refl _)).below hW (Nat.le_refl _)
    rw [← hw0]
    clear hw0 B1 K
    generalize w1.heap.size = x at *
    refine (CV.out _ (CN.out _ (Below.refl _ _))).mono ?_
    rintro e w2 ⟨rfl, K⟩
    have B2 := Lib.hid (BW.out.trans (K.mono BW.out.size))
    have q1w2 := keepc Q1.out K
    have q2w2 := keepc Q2.out K
    clear K
    go_wp2
    go_ret
    exact ⟨rfl, B2.out⟩
  have hltt : ¬ (24 : Int) ≤ (n.ts.length : Int) := by omega
  have SPA := Lib.hid (spoil_place hok h24 0 0)
  have SPB := Lib.hid (spoil_trans hok t24 _ 6 (spoil_twice hok ⟨none, 0, []⟩ ⟨none, 0, []⟩ ⟨none, 0, []⟩ 0) (by decide))
  have SPC := Lib.hid (spoil_trans hok t24 _ 5 (spoil_noname (n := n) ⟨#[]⟩ (by decide) ⟨none, 0, []⟩ ⟨none, 0, []⟩ ⟨none, 0, []⟩ 0) (by decide))
  have SPE := Lib.hid (spoil_none hok)
  have hpos : 0 < n.ps.length := (okN_parts hok).2.1
  have HX0 := Lib.hid (hR.out.okp.2 0)
  have FIRST : Hid (∀ W, ReadsP W n.PA n.ps → ∀ b o, n.PA = some ⟨b, o, none⟩ → W.cell? ⟨b, o, none⟩ = some (.string (pA n.ps 0).nm)) := fun W hW b o e => by
    obtain ⟨b', o', e', _, d, _⟩ := hW 0 hpos
    rw [e] at e'
    obtain ⟨rfl, rfl⟩ : b = b' ∧ o = o' := by injection e' with e'; injection e' with e1 e2; exact ⟨e1, e2⟩
    simpa using d
  obtain ⟨bP, oP, eP, _⟩ := hR.out.rp 0 hpos
  have TAC : (n.TA = none ∧ n.ts = [] ∧ n.tc = 0) ∨ ∃ ad, n.TA = some ad ∧ Hid (∀ W, ReadsT W n.TA n.ts → ∀ j u, (cellsT n.ts)[j]? = some u → W.cell? (ad.add j) = some u) := by
    cases e : n.TA with
    | none =>
      refine Or.inl ⟨rfl, ?_, hz e⟩
      cases h : n.ts with
      | nil => rfl
      | cons t l =>
        obtain ⟨b, o, e2, _⟩ := hR.out.rt 0 (by rw [h]; simp)
        rw [e] at e2; cases e2
    | some ad =>
      refine Or.inr ⟨ad, rfl, fun W hW j u hu => ?_⟩
      have hj : j < n.ts.length * 5 := by rw [← cellsT_len]; exact (List.getElem?_eq_some_iff.1 hu).1
      obtain ⟨b, o, e2, _⟩ := hW 0 (by omega)
      obtain rfl : ad = ⟨b, o, none⟩ := by injection e2
      exact newsT hW j u hu
  obtain ⟨i0, hi, hz0, hz1, hz2⟩ := info_parts infoPl
  have HZI := Lib.hid hi
  have HZ0 := Lib.hid hz0
  have HZ1 := Lib.hid hz1
  have HZ2 := Lib.hid hz2
  obtain ⟨j0, ji, jz0, jz1, jz2⟩ := info_parts infoTr
  have JZI := Lib.hid ji
  have JZ0 := Lib.hid jz0
  have JZ1 := Lib.hid jz1
  have JZ2 := Lib.hid jz2
  clear hi hz0 hz1 hz2 ji jz0 jz1 jz2 hn hok hz
  obtain ⟨nm, PA, ps, pc, TA, ts, tc⟩ := n
  dsimp only at *
  subst eP
  have FIRST : Hid (∀ W, ReadsP W (some ⟨bP, oP, none⟩) ps → W.cell? ⟨bP, oP, none⟩ = some (.string (pA ps 0).nm)) := fun W hW => FIRST.out W hW bP oP rfl
  generalize (pA ps 0).nm = x0 at *
  have hmg : Try.prog.eqGuardType Try.prog.depth 31 = false := by kernel_rfl
  rcases TAC with ⟨rfl, rfl, rfl⟩ | ⟨ad, rfl, NEWT⟩
  · clear hltt
    have hltt : ¬ (24 : Int) ≤ 0 := by omega
    go_enter Try.func9, Try.ntmps9
    go_wp2_with fail
    refine (lives_any _).mono ?_
    rintro e wl ⟨rfl, KL⟩
    have c0 : wl.cell? ⟨w.heap.size, 0, none⟩ = some (.string nm) := by rw [KL.cell (by simp)]; simp
    have c1 : wl.cell? ⟨w.heap.size, 1, none⟩ = some (.slice (some ⟨bP, oP, none⟩) ps.length pc) := by rw [KL.cell (by simp)]; simp
    have c2 : wl.cell? ⟨w.heap.size, 2, none⟩ = some (.slice none 0 0) := by rw [KL.cell (by simp)]; simp
    have BL := Lib.hid (B0.out.trans (KL.mono (by rw [World.size_alloc]; omega)))
    clear KL
    go_wp2_with fail
    refine (SM.out _ BL.out).mono ?_
    rintro e w1 ⟨rfl, K⟩
    have B1 : Below w.heap.size w w1 := BL.out.trans (K.mono BL.out.size)
    clear c0 c1 c2
    go_wp2_with fail
    obtain ⟨w0, hw0⟩ : ∃ w0, w0 = w1.alloc (.cells #[.string nm, .slice (some ⟨bP, oP, none⟩) ps.length pc, .slice none 0 0] 25) := ⟨_, rfl⟩
    have BW : Hid (Below w.heap.size w w0) := by rw [hw0]; exact B1.alloc B1.size _
    have Q0 : Hid (w0.cell? ⟨w1.heap.size, 0, none⟩ = some (.string nm)) := by show _ = _; rw [hw0]; simp
    have Q1 : Hid (w0.cell? ⟨w1.heap.size, 1, none⟩ = some (.slice (some ⟨bP, oP, none⟩) ps.length pc)) := by show _ = _; rw [hw0]; simp
    have Q2 : Hid (w0.cell? ⟨w1.heap.size, 2, none⟩ = some (.slice none 0 0)) := by show _ = _; rw [hw0]; simp
    have CN : Hid (∀ W, Below w0.heap.size w0 W → NetR W ⟨nm, (some ⟨bP, oP, none⟩), ps, pc, none, [], 0⟩) := fun W hW => (hR.out.below BW.out (Nat.le_refl _)).below hW (Nat.le_refl _)
    rw [← hw0]
    clear hw0 B1 K
    generalize w1.heap.size = x at *
    refine (CV.out _ (CN.out _ (Below.refl _ _))).mono ?_
    rintro e w2 ⟨rfl, K⟩
    have B2 : Hid (Below w0.heap.size w0 w2) := K
    have q0w2 := keepc Q0.out K
    have q1w2 := keepc Q1.out K
    have q2w2 := keepc Q2.out K
    clear K
    obtain ⟨s, hs⟩ : ∃ s, s = w2.heap.size := ⟨_, rfl⟩
    have HS := Lib.hid hs
    clear hs
    have Cw2 : Hid (Below s w2 w2) := Below.refl _ _
    have NW := fun W (hW : Below s w2 W) => (CN.out _ B2.out).below hW (by rw [HS.out]; exact Nat.le_refl _)
    have NW := Lib.hid NW
    have HNP := Lib.hid (newsP (NW.out w2 Cw2.out).rp)
    focus
      go_wp2_with (first
        | (at_builtin; (
          refine wpList_append_own _ rfl (.tmp 38) (.tmp 40) 22 rfl s 50 i0 (.agg #[.string ⟨#[]⟩, .int .i64 0, .int .i64 0]) 3 32 Try.underlying22 HZI.out HZ0.out HZ1.out HZ2.out rfl (by decide) (.slice none 0 0) 0 [] rfl (World.ownsRow_nil _ _ _ _) ⟨bP, oP, none⟩ ps.length pc (cellsP ps) rfl (cellsP_len ps) HNP.out (one_cellP ps) (by unfold maxLen; omega) (by omega) (by rw [HS.out]; exact Nat.le_refl _) ?_
          intro v3 w3 hown hgrow _
          have Cw3 := Lib.hid (Cw2.out.grown hgrow (by rw [HS.out]; exact Cw2.out.size) (fun q e => by cases e))
          have q0w3 : w3.cell? ⟨x, 0, none⟩ = some (.string nm) := (Cw3.out.cell (by rw [HS.out]; exact World.block_lt_of_cell? w2 ⟨x, 0, none⟩ q0w2)).trans q0w2
          have q1w3 : w3.cell? ⟨x, 1, none⟩ = some (.slice (some ⟨bP, oP, none⟩) ps.length pc) := (Cw3.out.cell (by rw [HS.out]; exact World.block_lt_of_cell? w2 ⟨x, 1, none⟩ q1w2)).trans q1w2
          have q2w3 : w3.cell? ⟨x, 2, none⟩ = some (.slice none 0 0) := (Cw3.out.cell (by rw [HS.out]; exact World.block_lt_of_cell? w2 ⟨x, 2, none⟩ q2w2)).trans q2w2
          have O3 : Hid (w3.ownsRow s 50 3 v3 ps.length (cellsP ps)) := by have h := hown; rw [Nat.zero_add, List.nil_append] at h; exact h
          clear hown hgrow
          have d0w3 : w3.cell? ⟨bP, oP, none⟩ = some (.string x0) := FIRST.out _ (NW.out w3 Cw3.out).rp
          have S3 : s ≤ w3.heap.size := by rw [HS.out]; exact Cw3.out.size
          have g3 : s ≤ (w3.alloc (.cells #[.string x0, .int .i64 0, .int .i64 0] 50)).heap.size := by rw [World.size_alloc]; omega
          skip))
        | (at_builtin; (
          refine wpList_append_own _ rfl (.tmp 42) (.tmp 49) 22 rfl s 50 i0 (.agg #[.string ⟨#[]⟩, .int .i64 0, .int .i64 0]) 3 32 Try.underlying22 HZI.out HZ0.out HZ1.out HZ2.out rfl (by decide) v3 ps.length _ rfl (O3.out.alloc (.cells #[.string x0, .int .i64 0, .int .i64 0] 50)) ⟨w3.heap.size, 0, none⟩ 1 1 [.string x0, .int .i64 0, .int .i64 0] rfl rfl (cell3_new _ _ _ _ _) (by simp [Value.oneCell']) (by unfold maxLen; omega) (by omega) g3 ?_
          intro v4 w4 hown hgrow _
          have Cw4 := Lib.hid ((Cw3.out.alloc (by rw [HS.out]; exact Cw3.out.size) _).grown hgrow (by rw [World.size_alloc, HS.out]; have := Cw3.out.size; omega) (fun q e => (O3.out.lt q e).1))
          have q0w4 : w4.cell? ⟨x, 0, none⟩ = some (.string nm) := (Cw4.out.cell (by rw [HS.out]; exact World.block_lt_of_cell? w2 ⟨x, 0, none⟩ q0w2)).trans q0w2
          have q1w4 : w4.cell? ⟨x, 1, none⟩ = some (.slice (some ⟨bP, oP, none⟩) ps.length pc) := (Cw4.out.cell (by rw [HS.out]; exact World.block_lt_of_cell? w2 ⟨x, 1, none⟩ q1w2)).trans q1w2
          have q2w4 : w4.cell? ⟨x, 2, none⟩ = some (.slice none 0 0) := (Cw4.out.cell (by rw [HS.out]; exact World.block_lt_of_cell? w2 ⟨x, 2, none⟩ q2w2)).trans q2w2
          have O4 : w4.ownsRow s 50 3 v4 (ps.length + 1) (cellsP (ps ++ [⟨x0, 0, 0⟩])) := by rw [cellsP_snoc]; exact hown
          clear hown hgrow
          obtain ⟨PA2, pc2, rfl, hc2, RP2⟩ := readsP_own O4 (by omega)
          have HA : NetR w4 ⟨nm, PA2, ps ++ [⟨x0, 0, 0⟩], pc2, none, [], 0⟩ := ⟨hR.out.hnm, okP_snoc hR.out.okp h24 HX0.out, hR.out.okt, hc2, hR.out.htc, RP2, (NW.out w4 Cw4.out).rt⟩
          have EP : (ps ++ [(⟨x0, 0, 0⟩ : PlaceV)]).length = ps.length + 1 := by simp
          have CKA := fun W (hW : Below w4.heap.size w4 W) => check_any ⟨nm, PA2, ps ++ [⟨x0, 0, 0⟩], pc2, none, [], 0⟩ W (HA.below hW (Nat.le_refl _))
          dsimp only at CKA
          unfold FPost at CKA
          rw [show chkV ⟨nm, PA2, ps ++ [⟨x0, 0, 0⟩], pc2, none, [], 0⟩ = (6, (ps.length : Int)) from SPA.out] at CKA
          rw [EP] at CKA
          rw [EP]
          have CKA := Lib.hid CKA
          clear O4 RP2 HA hc2 EP
          skip)))
      go_upto_region 10 with fail
      obtain ⟨w5, hww5⟩ : ∃ w5, w5 = w4.alloc (.cells #[.string nm, .slice PA2 (ps.length + 1) pc2, .slice none 0 0] 25) := ⟨_, rfl⟩
      have Cw5 : Hid (Below s w2 w5) := by rw [hww5]; exact Cw4.out.alloc (by rw [HS.out]; exact Cw4.out.size) _
      have Lw5 : Hid (Below w4.heap.size w4 w5) := by rw [hww5]; exact (Below.refl _ _).alloc (Nat.le_refl _) _
      have a0 : w5.cell? ⟨w4.heap.size, 0, none⟩ = some (.string nm) := by rw [hww5]; simp
      have a1 : w5.cell? ⟨w4.heap.size, 1, none⟩ = some (.slice PA2 (ps.length + 1) pc2) := by rw [hww5]; simp
      have a2 : w5.cell? ⟨w4.heap.size, 2, none⟩ = some (.slice none 0 0) := by rw [hww5]; simp
      have q0w5 : w5.cell? ⟨x, 0, none⟩ = some (.string nm) := (Cw5.out.cell (by rw [HS.out]; exact World.block_lt_of_cell? w2 ⟨x, 0, none⟩ q0w2)).trans q0w2
      have q1w5 : w5.cell? ⟨x, 1, none⟩ = some (.slice (some ⟨bP, oP, none⟩) ps.length pc) := (Cw5.out.cell (by rw [HS.out]; exact World.block_lt_of_cell? w2 ⟨x, 1, none⟩ q1w2)).trans q1w2
      have q2w5 : w5.cell? ⟨x, 2, none⟩ = some (.slice none 0 0) := (Cw5.out.cell (by rw [HS.out]; exact World.block_lt_of_cell? w2 ⟨x, 2, none⟩ q2w2)).trans q2w2
      rw [← hww5]
      clear hww5
      have ne1 : ∀ W, (binOp .neq 31 (.agg #[.int .i64 6, .int .i64 (ps.length : Int)]) (.agg #[.int .i64 6, .int .i64 (ps.length : Int)])).run Try.prog W = .ok (.bool false) W := fun W => by rw [faultNeq]; simp
      refine wp_region_held_drew (S := fun w' => w'.cell? ⟨w4.heap.size, 0, none⟩ = some (.string nm) ∧ w'.cell? ⟨w4.heap.size, 1, none⟩ = some (.slice PA2 (ps.length + 1) pc2) ∧ w'.cell? ⟨w4.heap.size, 2, none⟩ = some (.slice none 0 0) ∧ w'.cell? ⟨x, 0, none⟩ = some (.string nm) ∧ w'.cell? ⟨x, 1, none⟩ = some (.slice (some ⟨bP, oP, none⟩) ps.length pc) ∧ w'.cell? ⟨x, 2, none⟩ = some (.slice none 0 0) ∧ Hid (Below s w2 w') ∧ Hid (Below w4.heap.size w4 w')) (by kernel_rfl) ?_ (fun hHeld => ?_)
      · exact ⟨a0, a1, a2, q0w5, q1w5, q2w5, Cw5.out.drew, Lw5.out.drew⟩
      refine wpAnyH_take (oi := ⟨_, _, _, _, _, _⟩) (i := 0) (v := ?_) rfl (by kernel_rfl) (by kernel_rfl) (by kernel_rfl) (fun _ _ _ h => h) (Or.inl ⟨by rfl, ?yna0⟩) (by assumption) ?rna0
      case yna0 => (intro w hSw; (try dsimp only at hSw); go_simp; (try with_reducible rfl))
      try simp only [Act.put, List.setIfInBounds_toArray, List.set_cons_zero, List.set_cons_succ]
      refine wpAnyH_take (oi := ⟨_, _, _, _, _, _⟩) (i := 2) (v := ?_) rfl (by kernel_rfl) (by kernel_rfl) (by kernel_rfl) (fun _ _ _ h => h) (Or.inl ⟨by rfl, ?yna2⟩) (by assumption) ?rna2
      case yna2 => (intro w hSw; (try dsimp only at hSw); go_simp; (try with_reducible rfl))
      try simp only [Act.put, List.setIfInBounds_toArray, List.set_cons_zero, List.set_cons_succ]
      refine wpAnyH_take (oi := ⟨_, _, _, _, _, _⟩) (i := 3) (v := ?_) rfl (by kernel_rfl) (by kernel_rfl) (by kernel_rfl) (fun _ _ _ h => h) (Or.inl ⟨by rfl, ?yna3⟩) (by assumption) ?rna3
      case yna3 => (intro w hSw; (try dsimp only at hSw); go_simp; (try with_reducible rfl))
      try simp only [Act.put, List.setIfInBounds_toArray, List.set_cons_zero, List.set_cons_succ]
      refine wpAnyH_take (oi := ⟨_, _, _, _, _, _⟩) (i := 4) (v := ?_) rfl (by kernel_rfl) (by kernel_rfl) (by kernel_rfl) (fun _ _ _ h => h) (Or.inl ⟨by rfl, ?yna4⟩) (by assumption) ?rna4
      case yna4 => (intro w hSw; (try dsimp only at hSw); go_simp; (try with_reducible rfl))
      try simp only [Act.put, List.setIfInBounds_toArray, List.set_cons_zero, List.set_cons_succ]
      refine wpAnyH_take (oi := ⟨_, _, _, _, _, _⟩) (i := 5) (v := ?_) rfl (by kernel_rfl) (by kernel_rfl) (by kernel_rfl) (fun _ _ _ h => h) (Or.inl ⟨by rfl, ?yna5⟩) (by assumption) ?rna5
      case yna5 => (intro w hSw; (try dsimp only at hSw); go_simp; (try with_reducible rfl))
      try simp only [Act.put, List.setIfInBounds_toArray, List.set_cons_zero, List.set_cons_succ]
      refine wpAnyH_ready (rs := [1]) (by kernel_rfl) (by simp) ?_
      refine AllReadyH.cons (o := ⟨_, _, _, _, _, _⟩) rfl (fun K hK => ?_) AllReadyH.nil
      go_simp
      go_at_call 13; refine (CKA.out _ hHeld.2.2.2.2.2.2.2.out).mono ?_; rintro e w6 ⟨rfl, LL⟩; (try go_wp2_with fail)
      refine hK.out _ _ ?_ (fun hHeld2 => ?_)
      · obtain ⟨h1, h2, h3, h4, h5, h6, h7, h8⟩ := hHeld; exact ⟨keepc h1 LL, keepc h2 LL, keepc h3 LL, keepc h4 LL, keepc h5 LL, keepc h6 LL, h7.out.trans (LL.mono (by rw [HS.out]; exact h7.out.size)), h8.out.trans (LL.mono h8.out.size)⟩
      clear hK K hHeld
      have hHeld := hHeld2
      clear hHeld2
      try simp only [Act.put, List.setIfInBounds_toArray, List.set_cons_zero, List.set_cons_succ]
      refine wpAnyH_take (oi := ⟨_, _, _, _, _, _⟩) (i := 6) (v := ?_) rfl (by kernel_rfl) (by kernel_rfl) (by kernel_rfl) (fun _ _ _ h => h) (Or.inl ⟨by rfl, ?yna6⟩) (by assumption) ?rna6
      case yna6 => (intro w hSw; (try dsimp only at hSw); go_simp; (try with_reducible rfl))
      try simp only [Act.put, List.setIfInBounds_toArray, List.set_cons_zero, List.set_cons_succ]
      refine wpAnyH_done (by kernel_rfl) ?_ _
      have Cw6 := Lib.hid hHeld.2.2.2.2.2.2.1.out
      have q0w6 := hHeld.2.2.2.1
      have q1w6 := hHeld.2.2.2.2.1
      have q2w6 := hHeld.2.2.2.2.2.1
      clear hHeld LL a0 a1 a2
      focus
        obtain ⟨w7, rfl⟩ : ∃ w7, w7 = w6 := ⟨_, rfl⟩
        have d0w7 : w7.cell? ⟨bP, oP, none⟩ = some (.string x0) := FIRST.out _ (NW.out w7 Cw6.out).rp
        have Cw7 := Cw6
        have q0w7 := q0w6
        have q1w7 := q1w6
        have q2w7 := q2w6
        have Sw7 : s ≤ w7.heap.size := by rw [HS.out]; exact Cw7.out.size
        have gw7 : s ≤ (w7.alloc (.cells #[.string x0, .slice none 0 0, .slice none 0 0, .slice none 0 0, .int .i64 0] 53)).heap.size := by rw [World.size_alloc]; omega
        go_wp2_with (first
          | (at_builtin; (refine wpList_append_own_none rfl (.tmp 64) (.tmp 66) 23 rfl s 53 j0 5 Try.underlying23 JZI.out (.slice none 0 0) 0 [] rfl (World.ownsRow_nil _ _ _ _) rfl ?_))
          | (at_builtin; (
            refine wpList_append_own _ rfl (.tmp 68) (.tmp 75) 23 rfl s 53 j0 (.agg #[.string ⟨#[]⟩, .slice none 0 0, .slice none 0 0, .slice none 0 0, .int .i64 0]) 5 96 Try.underlying23 JZI.out JZ0.out JZ1.out JZ2.out rfl (by decide) (.slice none 0 0) 0 [] rfl (World.ownsRow_nil _ _ _ _) ⟨w7.heap.size, 0, none⟩ 1 1 [.string x0, .slice none 0 0, .slice none 0 0, .slice none 0 0, .int .i64 0] rfl rfl (cell5_new _ _ _ _ _ _ _) (by simp [Value.oneCell']) (by unfold maxLen; omega) (by omega) gw7 ?_
            intro vw8 w8 hown hgrow _
            have Cw8 := Lib.hid ((Cw7.out.alloc (by rw [HS.out]; exact Cw7.out.size) _).grown hgrow (by rw [World.size_alloc, HS.out]; have := Cw7.out.size; omega) (fun q e => by cases e))
            have q0w8 : w8.cell? ⟨x, 0, none⟩ = some (.string nm) := (Cw8.out.cell (by rw [HS.out]; exact World.block_lt_of_cell? w2 ⟨x, 0, none⟩ q0w2)).trans q0w2
            have q1w8 : w8.cell? ⟨x, 1, none⟩ = some (.slice (some ⟨bP, oP, none⟩) ps.length pc) := (Cw8.out.cell (by rw [HS.out]; exact World.block_lt_of_cell? w2 ⟨x, 1, none⟩ q1w2)).trans q1w2
            have q2w8 : w8.cell? ⟨x, 2, none⟩ = some (.slice none 0 0) := (Cw8.out.cell (by rw [HS.out]; exact World.block_lt_of_cell? w2 ⟨x, 2, none⟩ q2w2)).trans q2w2
            have Ow8 : w8.ownsRow s 53 5 vw8 (1) (cellsT ([] ++ [⟨x0, ⟨none, 0, []⟩, ⟨none, 0, []⟩, ⟨none, 0, []⟩, 0⟩])) := by exact hown
            clear hown hgrow
            obtain ⟨TAb, tcb, rfl, hcb, RTb⟩ := readsT_own Ow8 (by omega) (arcs_snoc (NW.out w8 Cw8.out).rt)
            have HAb : NetR w8 ⟨nm, (some ⟨bP, oP, none⟩), ps, pc, TAb, [] ++ [⟨x0, ⟨none, 0, []⟩, ⟨none, 0, []⟩, ⟨none, 0, []⟩, 0⟩], tcb⟩ := ⟨hR.out.hnm, hR.out.okp, okT_snoc hR.out.okt t24 HX0.out, hR.out.hpc, hcb, (NW.out w8 Cw8.out).rp, RTb⟩
            have EPb : ([] ++ [(⟨x0, ⟨none, 0, []⟩, ⟨none, 0, []⟩, ⟨none, 0, []⟩, 0⟩ : TransV)]).length = 1 := by simp
            have CKB := fun W (hW : Below w8.heap.size w8 W) => check_any ⟨nm, (some ⟨bP, oP, none⟩), ps, pc, TAb, [] ++ [⟨x0, ⟨none, 0, []⟩, ⟨none, 0, []⟩, ⟨none, 0, []⟩, 0⟩], tcb⟩ W (HAb.below hW (Nat.le_refl _))
            dsimp only at CKB
            unfold FPost at CKB
            rw [show chkV ⟨nm, (some ⟨bP, oP, none⟩), ps, pc, TAb, [] ++ [⟨x0, ⟨none, 0, []⟩, ⟨none, 0, []⟩, ⟨none, 0, []⟩, 0⟩], tcb⟩ = (6, (ps.length : Int) + ((0 : Nat) : Int)) from SPB.out] at CKB
            rw [EPb] at CKB
            rw [EPb]
            have CKB := Lib.hid CKB
            clear Ow8 RTb HAb hcb EPb
            skip)))
        go_upto_region 16 with fail
        obtain ⟨w9, hww9⟩ : ∃ w9, w9 = w8.alloc (.cells #[.string nm, .slice (some ⟨bP, oP, none⟩) ps.length pc, .slice TAb (1) tcb] 25) := ⟨_, rfl⟩
        have Cw9 : Hid (Below s w2 w9) := by rw [hww9]; exact Cw8.out.alloc (by rw [HS.out]; exact Cw8.out.size) _
        have Lw9 : Hid (Below w8.heap.size w8 w9) := by rw [hww9]; exact (Below.refl _ _).alloc (Nat.le_refl _) _
        have b0 : w9.cell? ⟨w8.heap.size, 0, none⟩ = some (.string nm) := by rw [hww9]; simp
        have b1 : w9.cell? ⟨w8.heap.size, 1, none⟩ = some (.slice (some ⟨bP, oP, none⟩) ps.length pc) := by rw [hww9]; simp
        have b2 : w9.cell? ⟨w8.heap.size, 2, none⟩ = some (.slice TAb (1) tcb) := by rw [hww9]; simp
        have q0w9 : w9.cell? ⟨x, 0, none⟩ = some (.string nm) := (Cw9.out.cell (by rw [HS.out]; exact World.block_lt_of_cell? w2 ⟨x, 0, none⟩ q0w2)).trans q0w2
        have q1w9 : w9.cell? ⟨x, 1, none⟩ = some (.slice (some ⟨bP, oP, none⟩) ps.length pc) := (Cw9.out.cell (by rw [HS.out]; exact World.block_lt_of_cell? w2 ⟨x, 1, none⟩ q1w2)).trans q1w2
        have q2w9 : w9.cell? ⟨x, 2, none⟩ = some (.slice none 0 0) := (Cw9.out.cell (by rw [HS.out]; exact World.block_lt_of_cell? w2 ⟨x, 2, none⟩ q2w2)).trans q2w2
        rw [← hww9]
        clear hww9
        have neb : ∀ W, (binOp .neq 31 (.agg #[.int .i64 6, .int .i64 ((ps.length : Int) + ((0 : Nat) : Int))]) (.agg #[.int .i64 6, .int .i64 ((ps.length : Int) + ((0 : Nat) : Int))])).run Try.prog W = .ok (.bool false) W := fun W => by rw [faultNeq]; simp
        have hwp0 : IntKind.i64.wrap (ps.length : Int) = (ps.length : Int) := by rw [IntKind.wrap_i64]; omega
        refine wp_region_held_drew (S := fun w' => w'.cell? ⟨w8.heap.size, 0, none⟩ = some (.string nm) ∧ w'.cell? ⟨w8.heap.size, 1, none⟩ = some (.slice (some ⟨bP, oP, none⟩) ps.length pc) ∧ w'.cell? ⟨w8.heap.size, 2, none⟩ = some (.slice TAb (1) tcb) ∧ w'.cell? ⟨x, 0, none⟩ = some (.string nm) ∧ w'.cell? ⟨x, 1, none⟩ = some (.slice (some ⟨bP, oP, none⟩) ps.length pc) ∧ w'.cell? ⟨x, 2, none⟩ = some (.slice none 0 0) ∧ Hid (Below s w2 w') ∧ Hid (Below w8.heap.size w8 w')) (by kernel_rfl) ?_ (fun hHeld => ?_)
        · exact ⟨b0, b1, b2, q0w9, q1w9, q2w9, Cw9.out.drew, Lw9.out.drew⟩
        refine wpAnyH_take (oi := ⟨_, _, _, _, _, _⟩) (i := 0) (v := ?_) rfl (by kernel_rfl) (by kernel_rfl) (by kernel_rfl) (fun _ _ _ h => h) (Or.inl ⟨by rfl, ?ynb0⟩) (by assumption) ?rnb0
        case ynb0 => (intro w hSw; (try dsimp only at hSw); go_simp; (try with_reducible rfl))
        try simp only [Act.put, List.setIfInBounds_toArray, List.set_cons_zero, List.set_cons_succ]
        refine wpAnyH_take (oi := ⟨_, _, _, _, _, _⟩) (i := 2) (v := ?_) rfl (by kernel_rfl) (by kernel_rfl) (by kernel_rfl) (fun _ _ _ h => h) (Or.inl ⟨by rfl, ?ynb2⟩) (by assumption) ?rnb2
        case ynb2 => (intro w hSw; (try dsimp only at hSw); go_simp; (try with_reducible rfl))
        try simp only [Act.put, List.setIfInBounds_toArray, List.set_cons_zero, List.set_cons_succ]
        refine wpAnyH_take (oi := ⟨_, _, _, _, _, _⟩) (i := 3) (v := ?_) rfl (by kernel_rfl) (by kernel_rfl) (by kernel_rfl) (fun _ _ _ h => h) (Or.inl ⟨by rfl, ?ynb3⟩) (by assumption) ?rnb3
        case ynb3 => (intro w hSw; (try dsimp only at hSw); go_simp; (try with_reducible rfl))
        try simp only [Act.put, List.setIfInBounds_toArray, List.set_cons_zero, List.set_cons_succ]
        refine wpAnyH_take (oi := ⟨_, _, _, _, _, _⟩) (i := 4) (v := ?_) rfl (by kernel_rfl) (by kernel_rfl) (by kernel_rfl) (fun _ _ _ h => h) (Or.inl ⟨by rfl, ?ynb4⟩) (by assumption) ?rnb4
        case ynb4 => (intro w hSw; (try dsimp only at hSw); go_simp; (try with_reducible rfl))
        try simp only [Act.put, List.setIfInBounds_toArray, List.set_cons_zero, List.set_cons_succ]
        refine wpAnyH_take (oi := ⟨_, _, _, _, _, _⟩) (i := 5) (v := ?_) rfl (by kernel_rfl) (by kernel_rfl) (by kernel_rfl) (fun _ _ _ h => h) (Or.inl ⟨by rfl, ?ynb5⟩) (by assumption) ?rnb5
        case ynb5 => (intro w hSw; (try dsimp only at hSw); go_simp; (try with_reducible rfl))
        try simp only [Act.put, List.setIfInBounds_toArray, List.set_cons_zero, List.set_cons_succ]
        refine wpAnyH_take (oi := ⟨_, _, _, _, _, _⟩) (i := 6) (v := ?_) rfl (by kernel_rfl) (by kernel_rfl) (by kernel_rfl) (fun _ _ _ h => h) (Or.inl ⟨by rfl, ?ynb6⟩) (by assumption) ?rnb6
        case ynb6 => (intro w hSw; (try dsimp only at hSw); go_simp; (try with_reducible rfl))
        try simp only [Act.put, List.setIfInBounds_toArray, List.set_cons_zero, List.set_cons_succ]
        refine wpAnyH_take (oi := ⟨_, _, _, _, _, _⟩) (i := 7) (v := ?_) rfl (by kernel_rfl) (by kernel_rfl) (by kernel_rfl) (fun _ _ _ h => h) (Or.inl ⟨by rfl, ?ynb7⟩) (by assumption) ?rnb7
        case ynb7 => (intro w hSw; (try dsimp only at hSw); go_simp; (try with_reducible rfl))
        try simp only [Act.put, List.setIfInBounds_toArray, List.set_cons_zero, List.set_cons_succ]
        refine wpAnyH_take (oi := ⟨_, _, _, _, _, _⟩) (i := 8) (v := ?_) rfl (by kernel_rfl) (by kernel_rfl) (by kernel_rfl) (fun _ _ _ h => h) (Or.inl ⟨by rfl, ?ynb8⟩) (by assumption) ?rnb8
        case ynb8 => (intro w hSw; (try dsimp only at hSw); go_simp; (try with_reducible rfl))
        try simp only [Act.put, List.setIfInBounds_toArray, List.set_cons_zero, List.set_cons_succ]
        refine wpAnyH_take (oi := ⟨_, _, _, _, _, _⟩) (i := 9) (v := ?_) rfl (by kernel_rfl) (by kernel_rfl) (by kernel_rfl) (fun _ _ _ h => h) (Or.inl ⟨by rfl, ?ynb9⟩) (by assumption) ?rnb9
        case ynb9 => (intro w hSw; (try dsimp only at hSw); go_simp; (try with_reducible rfl))
        try simp only [Act.put, List.setIfInBounds_toArray, List.set_cons_zero, List.set_cons_succ]
        refine wpAnyH_ready (rs := [1]) (by kernel_rfl) (by simp) ?_
        refine AllReadyH.cons (o := ⟨_, _, _, _, _, _⟩) rfl (fun K hK => ?_) AllReadyH.nil
        go_simp
        go_at_call 13; refine (CKB.out _ hHeld.2.2.2.2.2.2.2.out).mono ?_; rintro e wa ⟨rfl, LL⟩; (try go_wp2_with fail)
        refine hK.out _ _ ?_ (fun hHeld2 => ?_)
        · obtain ⟨h1, h2, h3, h4, h5, h6, h7, h8⟩ := hHeld; exact ⟨keepc h1 LL, keepc h2 LL, keepc h3 LL, keepc h4 LL, keepc h5 LL, keepc h6 LL, h7.out.trans (LL.mono (by rw [HS.out]; exact h7.out.size)), h8.out.trans (LL.mono h8.out.size)⟩
        clear hK K hHeld
        have hHeld := hHeld2
        clear hHeld2
        try simp only [Act.put, List.setIfInBounds_toArray, List.set_cons_zero, List.set_cons_succ]
        refine wpAnyH_take (oi := ⟨_, _, _, _, _, _⟩) (i := 10) (v := ?_) rfl (by kernel_rfl) (by kernel_rfl) (by kernel_rfl) (fun _ _ _ h => h) (Or.inl ⟨by rfl, ?ynb10⟩) (by assumption) ?rnb10
        case ynb10 => (intro w hSw; (try dsimp only at hSw); go_simp; (try with_reducible rfl))
        try simp only [Act.put, List.setIfInBounds_toArray, List.set_cons_zero, List.set_cons_succ]
        refine wpAnyH_done (by kernel_rfl) ?_ _
        have Cwa := Lib.hid hHeld.2.2.2.2.2.2.1.out
        have q0wa := hHeld.2.2.2.1
        have q1wa := hHeld.2.2.2.2.1
        have q2wa := hHeld.2.2.2.2.2.1
        clear hHeld LL b0 b1 b2
        focus
          obtain ⟨wb, rfl⟩ : ∃ wb, wb = wa := ⟨_, rfl⟩
          have Cwb := Cwa
          have q0wb := q0wa
          have q1wb := q1wa
          have q2wb := q2wa
          have Swb : s ≤ wb.heap.size := by rw [HS.out]; exact Cwb.out.size
          have gwb : s ≤ (wb.alloc (.cells #[.string ⟨#[]⟩, .slice none 0 0, .slice none 0 0, .slice none 0 0, .int .i64 0] 53)).heap.size := by rw [World.size_alloc]; omega
          go_wp2_with (first
            | (at_builtin; (refine wpList_append_own_none rfl (.tmp 94) (.tmp 96) 23 rfl s 53 j0 5 Try.underlying23 JZI.out (.slice none 0 0) 0 [] rfl (World.ownsRow_nil _ _ _ _) rfl ?_))
            | (at_builtin; (
              refine wpList_append_own _ rfl (.tmp 98) (.tmp 100) 23 rfl s 53 j0 (.agg #[.string ⟨#[]⟩, .slice none 0 0, .slice none 0 0, .slice none 0 0, .int .i64 0]) 5 96 Try.underlying23 JZI.out JZ0.out JZ1.out JZ2.out rfl (by decide) (.slice none 0 0) 0 [] rfl (World.ownsRow_nil _ _ _ _) ⟨wb.heap.size, 0, none⟩ 1 1 [.string ⟨#[]⟩, .slice none 0 0, .slice none 0 0, .slice none 0 0, .int .i64 0] rfl rfl (cell5_new _ _ _ _ _ _ _) (by simp [Value.oneCell']) (by unfold maxLen; omega) (by omega) gwb ?_
              intro vwc wc hown hgrow _
              have Cwc := Lib.hid ((Cwb.out.alloc (by rw [HS.out]; exact Cwb.out.size) _).grown hgrow (by rw [World.size_alloc, HS.out]; have := Cwb.out.size; omega) (fun q e => by cases e))
              have q0wc : wc.cell? ⟨x, 0, none⟩ = some (.string nm) := (Cwc.out.cell (by rw [HS.out]; exact World.block_lt_of_cell? w2 ⟨x, 0, none⟩ q0w2)).trans q0w2
              have q1wc : wc.cell? ⟨x, 1, none⟩ = some (.slice (some ⟨bP, oP, none⟩) ps.length pc) := (Cwc.out.cell (by rw [HS.out]; exact World.block_lt_of_cell? w2 ⟨x, 1, none⟩ q1w2)).trans q1w2
              have q2wc : wc.cell? ⟨x, 2, none⟩ = some (.slice none 0 0) := (Cwc.out.cell (by rw [HS.out]; exact World.block_lt_of_cell? w2 ⟨x, 2, none⟩ q2w2)).trans q2w2
              have Owc : wc.ownsRow s 53 5 vwc (1) (cellsT ([] ++ [⟨⟨#[]⟩, ⟨none, 0, []⟩, ⟨none, 0, []⟩, ⟨none, 0, []⟩, 0⟩])) := by exact hown
              clear hown hgrow
              obtain ⟨TAc, tcc, rfl, hcc, RTc⟩ := readsT_own Owc (by omega) (arcs_snoc (NW.out wc Cwc.out).rt)
              have HAc : NetR wc ⟨nm, (some ⟨bP, oP, none⟩), ps, pc, TAc, [] ++ [⟨⟨#[]⟩, ⟨none, 0, []⟩, ⟨none, 0, []⟩, ⟨none, 0, []⟩, 0⟩], tcc⟩ := ⟨hR.out.hnm, hR.out.okp, okT_snoc hR.out.okt t24 (Nat.zero_le _), hR.out.hpc, hcc, (NW.out wc Cwc.out).rp, RTc⟩
              have EPc : ([] ++ [(⟨⟨#[]⟩, ⟨none, 0, []⟩, ⟨none, 0, []⟩, ⟨none, 0, []⟩, 0⟩ : TransV)]).length = 1 := by simp
              have CKC := fun W (hW : Below wc.heap.size wc W) => check_any ⟨nm, (some ⟨bP, oP, none⟩), ps, pc, TAc, [] ++ [⟨⟨#[]⟩, ⟨none, 0, []⟩, ⟨none, 0, []⟩, ⟨none, 0, []⟩, 0⟩], tcc⟩ W (HAc.below hW (Nat.le_refl _))
              dsimp only at CKC
              unfold FPost at CKC
              rw [show chkV ⟨nm, (some ⟨bP, oP, none⟩), ps, pc, TAc, [] ++ [⟨⟨#[]⟩, ⟨none, 0, []⟩, ⟨none, 0, []⟩, ⟨none, 0, []⟩, 0⟩], tcc⟩ = (5, (ps.length : Int) + ((0 : Nat) : Int)) from SPC.out] at CKC
              rw [EPc] at CKC
              rw [EPc]
              have CKC := Lib.hid CKC
              clear Owc RTc HAc hcc EPc
              skip)))
          go_upto_region 22 with fail
          obtain ⟨wd, hwwd⟩ : ∃ wd, wd = wc.alloc (.cells #[.string nm, .slice (some ⟨bP, oP, none⟩) ps.length pc, .slice TAc (1) tcc] 25) := ⟨_, rfl⟩
          have Cwd : Hid (Below s w2 wd) := by rw [hwwd]; exact Cwc.out.alloc (by rw [HS.out]; exact Cwc.out.size) _
          have Lwd : Hid (Below wc.heap.size wc wd) := by rw [hwwd]; exact (Below.refl _ _).alloc (Nat.le_refl _) _
          have c0 : wd.cell? ⟨wc.heap.size, 0, none⟩ = some (.string nm) := by rw [hwwd]; simp
          have c1 : wd.cell? ⟨wc.heap.size, 1, none⟩ = some (.slice (some ⟨bP, oP, none⟩) ps.length pc) := by rw [hwwd]; simp
          have c2 : wd.cell? ⟨wc.heap.size, 2, none⟩ = some (.slice TAc (1) tcc) := by rw [hwwd]; simp
          have q0wd : wd.cell? ⟨x, 0, none⟩ = some (.string nm) := (Cwd.out.cell (by rw [HS.out]; exact World.block_lt_of_cell? w2 ⟨x, 0, none⟩ q0w2)).trans q0w2
          have q1wd : wd.cell? ⟨x, 1, none⟩ = some (.slice (some ⟨bP, oP, none⟩) ps.length pc) := (Cwd.out.cell (by rw [HS.out]; exact World.block_lt_of_cell? w2 ⟨x, 1, none⟩ q1w2)).trans q1w2
          have q2wd : wd.cell? ⟨x, 2, none⟩ = some (.slice none 0 0) := (Cwd.out.cell (by rw [HS.out]; exact World.block_lt_of_cell? w2 ⟨x, 2, none⟩ q2w2)).trans q2w2
          rw [← hwwd]
          clear hwwd
          have nec : ∀ W, (binOp .neq 31 (.agg #[.int .i64 5, .int .i64 ((ps.length : Int) + ((0 : Nat) : Int))]) (.agg #[.int .i64 5, .int .i64 ((ps.length : Int) + ((0 : Nat) : Int))])).run Try.prog W = .ok (.bool false) W := fun W => by rw [faultNeq]; simp
          have hwp0 : IntKind.i64.wrap (ps.length : Int) = (ps.length : Int) := by rw [IntKind.wrap_i64]; omega
          refine wp_region_held_drew (S := fun w' => w'.cell? ⟨wc.heap.size, 0, none⟩ = some (.string nm) ∧ w'.cell? ⟨wc.heap.size, 1, none⟩ = some (.slice (some ⟨bP, oP, none⟩) ps.length pc) ∧ w'.cell? ⟨wc.heap.size, 2, none⟩ = some (.slice TAc (1) tcc) ∧ w'.cell? ⟨x, 0, none⟩ = some (.string nm) ∧ w'.cell? ⟨x, 1, none⟩ = some (.slice (some ⟨bP, oP, none⟩) ps.length pc) ∧ w'.cell? ⟨x, 2, none⟩ = some (.slice none 0 0) ∧ Hid (Below s w2 w') ∧ Hid (Below wc.heap.size wc w')) (by kernel_rfl) ?_ (fun hHeld => ?_)
          · exact ⟨c0, c1, c2, q0wd, q1wd, q2wd, Cwd.out.drew, Lwd.out.drew⟩
          refine wpAnyH_take (oi := ⟨_, _, _, _, _, _⟩) (i := 0) (v := ?_) rfl (by kernel_rfl) (by kernel_rfl) (by kernel_rfl) (fun _ _ _ h => h) (Or.inl ⟨by rfl, ?ync0⟩) (by assumption) ?rnc0
          case ync0 => (intro w hSw; (try dsimp only at hSw); go_simp; (try with_reducible rfl))
          try simp only [Act.put, List.setIfInBounds_toArray, List.set_cons_zero, List.set_cons_succ]
          refine wpAnyH_take (oi := ⟨_, _, _, _, _, _⟩) (i := 2) (v := ?_) rfl (by kernel_rfl) (by kernel_rfl) (by kernel_rfl) (fun _ _ _ h => h) (Or.inl ⟨by rfl, ?ync2⟩) (by assumption) ?rnc2
          case ync2 => (intro w hSw; (try dsimp only at hSw); go_simp; (try with_reducible rfl))
          try simp only [Act.put, List.setIfInBounds_toArray, List.set_cons_zero, List.set_cons_succ]
          refine wpAnyH_take (oi := ⟨_, _, _, _, _, _⟩) (i := 3) (v := ?_) rfl (by kernel_rfl) (by kernel_rfl) (by kernel_rfl) (fun _ _ _ h => h) (Or.inl ⟨by rfl, ?ync3⟩) (by assumption) ?rnc3
          case ync3 => (intro w hSw; (try dsimp only at hSw); go_simp; (try with_reducible rfl))
          try simp only [Act.put, List.setIfInBounds_toArray, List.set_cons_zero, List.set_cons_succ]
          refine wpAnyH_take (oi := ⟨_, _, _, _, _, _⟩) (i := 4) (v := ?_) rfl (by kernel_rfl) (by kernel_rfl) (by kernel_rfl) (fun _ _ _ h => h) (Or.inl ⟨by rfl, ?ync4⟩) (by assumption) ?rnc4
          case ync4 => (intro w hSw; (try dsimp only at hSw); go_simp; (try with_reducible rfl))
          try simp only [Act.put, List.setIfInBounds_toArray, List.set_cons_zero, List.set_cons_succ]
          refine wpAnyH_take (oi := ⟨_, _, _, _, _, _⟩) (i := 5) (v := ?_) rfl (by kernel_rfl) (by kernel_rfl) (by kernel_rfl) (fun _ _ _ h => h) (Or.inl ⟨by rfl, ?ync5⟩) (by assumption) ?rnc5
          case ync5 => (intro w hSw; (try dsimp only at hSw); go_simp; (try with_reducible rfl))
          try simp only [Act.put, List.setIfInBounds_toArray, List.set_cons_zero, List.set_cons_succ]
          refine wpAnyH_take (oi := ⟨_, _, _, _, _, _⟩) (i := 6) (v := ?_) rfl (by kernel_rfl) (by kernel_rfl) (by kernel_rfl) (fun _ _ _ h => h) (Or.inl ⟨by rfl, ?ync6⟩) (by assumption) ?rnc6
          case ync6 => (intro w hSw; (try dsimp only at hSw); go_simp; (try with_reducible rfl))
          try simp only [Act.put, List.setIfInBounds_toArray, List.set_cons_zero, List.set_cons_succ]
          refine wpAnyH_take (oi := ⟨_, _, _, _, _, _⟩) (i := 7) (v := ?_) rfl (by kernel_rfl) (by kernel_rfl) (by kernel_rfl) (fun _ _ _ h => h) (Or.inl ⟨by rfl, ?ync7⟩) (by assumption) ?rnc7
          case ync7 => (intro w hSw; (try dsimp only at hSw); go_simp; (try with_reducible rfl))
          try simp only [Act.put, List.setIfInBounds_toArray, List.set_cons_zero, List.set_cons_succ]
          refine wpAnyH_take (oi := ⟨_, _, _, _, _, _⟩) (i := 8) (v := ?_) rfl (by kernel_rfl) (by kernel_rfl) (by kernel_rfl) (fun _ _ _ h => h) (Or.inl ⟨by rfl, ?ync8⟩) (by assumption) ?rnc8
          case ync8 => (intro w hSw; (try dsimp only at hSw); go_simp; (try with_reducible rfl))
          try simp only [Act.put, List.setIfInBounds_toArray, List.set_cons_zero, List.set_cons_succ]
          refine wpAnyH_take (oi := ⟨_, _, _, _, _, _⟩) (i := 9) (v := ?_) rfl (by kernel_rfl) (by kernel_rfl) (by kernel_rfl) (fun _ _ _ h => h) (Or.inl ⟨by rfl, ?ync9⟩) (by assumption) ?rnc9
          case ync9 => (intro w hSw; (try dsimp only at hSw); go_simp; (try with_reducible rfl))
          try simp only [Act.put, List.setIfInBounds_toArray, List.set_cons_zero, List.set_cons_succ]
          refine wpAnyH_ready (rs := [1]) (by kernel_rfl) (by simp) ?_
          refine AllReadyH.cons (o := ⟨_, _, _, _, _, _⟩) rfl (fun K hK => ?_) AllReadyH.nil
          go_simp
          go_at_call 13; refine (CKC.out _ hHeld.2.2.2.2.2.2.2.out).mono ?_; rintro e we ⟨rfl, LL⟩; (try go_wp2_with fail)
          refine hK.out _ _ ?_ (fun hHeld2 => ?_)
          · obtain ⟨h1, h2, h3, h4, h5, h6, h7, h8⟩ := hHeld; exact ⟨keepc h1 LL, keepc h2 LL, keepc h3 LL, keepc h4 LL, keepc h5 LL, keepc h6 LL, h7.out.trans (LL.mono (by rw [HS.out]; exact h7.out.size)), h8.out.trans (LL.mono h8.out.size)⟩
          clear hK K hHeld
          have hHeld := hHeld2
          clear hHeld2
          try simp only [Act.put, List.setIfInBounds_toArray, List.set_cons_zero, List.set_cons_succ]
          refine wpAnyH_take (oi := ⟨_, _, _, _, _, _⟩) (i := 10) (v := ?_) rfl (by kernel_rfl) (by kernel_rfl) (by kernel_rfl) (fun _ _ _ h => h) (Or.inl ⟨by rfl, ?ync10⟩) (by assumption) ?rnc10
          case ync10 => (intro w hSw; (try dsimp only at hSw); go_simp; (try with_reducible rfl))
          try simp only [Act.put, List.setIfInBounds_toArray, List.set_cons_zero, List.set_cons_succ]
          refine wpAnyH_done (by kernel_rfl) ?_ _
          have Cwe := Lib.hid hHeld.2.2.2.2.2.2.1.out
          have q0we := hHeld.2.2.2.1
          have q1we := hHeld.2.2.2.2.1
          have q2we := hHeld.2.2.2.2.2.1
          clear hHeld LL c0 c1 c2
          focus
            have HD := NW.out we Cwe.out
            have CKD := Lib.hid (fun W (hW : Below we.heap.size we W) => check_any ⟨⟨#[]⟩, (some ⟨bP, oP, none⟩), ps, pc, none, [], 0⟩ W ((⟨Nat.zero_le _, HD.okp, HD.okt, HD.hpc, HD.htc, HD.rp, HD.rt⟩ : NetR we ⟨⟨#[]⟩, (some ⟨bP, oP, none⟩), ps, pc, none, [], 0⟩).below hW (Nat.le_refl _)))
            have CKE := Lib.hid (fun W (hW : Below we.heap.size we W) => check_any ⟨nm, none, [], 0, none, [], 0⟩ W ((⟨HD.hnm, ⟨Nat.zero_le _, fun j => by simp [pA]⟩, HD.okt, Nat.le_refl _, HD.htc, fun j hj => absurd hj (by simp), HD.rt⟩ : NetR we ⟨nm, none, [], 0, none, [], 0⟩).below hW (Nat.le_refl _)))
            dsimp only at CKD CKE
            unfold FPost at CKD CKE
            rw [show chkV ⟨⟨#[]⟩, (some ⟨bP, oP, none⟩), ps, pc, none, [], 0⟩ = (5, 0) from spoil_empty _ _] at CKD
            rw [show chkV ⟨nm, none, [], 0, none, [], 0⟩ = (2, 0) from SPE.out] at CKE
            have eq5 : ∀ W, (binOp .eql 31 (.agg #[.int .i64 5, .int .i64 0]) (.agg #[.int .i64 5, .int .i64 0])).run Try.prog W = .ok (.bool true) W := fun W => by rw [faultEql]; simp
            have eq2 : ∀ W, (binOp .eql 31 (.agg #[.int .i64 2, .int .i64 0]) (.agg #[.int .i64 2, .int .i64 0])).run Try.prog W = .ok (.bool true) W := fun W => by rw [faultEql]; simp
            have BX := Lib.hid ((Below.refl we.heap.size we).alloc (Nat.le_refl _) (.cells #[.string ⟨#[]⟩, .slice (some ⟨bP, oP, none⟩) ps.length pc, .slice none 0 0] 25))
            clear HD
            go_wp2_with fail
            refine (CKD.out _ BX.out).mono ?_
            rintro e wf ⟨rfl, K⟩
            have BY := Lib.hid (BX.out.trans (K.mono BX.out.size))
            have q0wf := keepc q0we BY.out
            have q1wf := keepc q1we BY.out
            have q2wf := keepc q2we BY.out
            clear K BX
            go_wp2_with fail
            refine (CKE.out _ BY.out).mono ?_
            rintro e wg ⟨rfl, K⟩
            have BZ := Lib.hid (Cwe.out.trans ((BY.out.trans (K.mono BY.out.size)).mono (by rw [HS.out]; exact Cwe.out.size)))
            clear K BY
            go_wp2
            go_ret
            exact ⟨rfl, BW.out.trans ((B2.out.trans (BZ.out.mono (by rw [HS.out]; exact B2.out.size))).mono BW.out.size)⟩
  · skip
    go_enter Try.func9, Try.ntmps9
    go_wp2_with fail
    refine (lives_any _).mono ?_
    rintro e wl ⟨rfl, KL⟩
    have c0 : wl.cell? ⟨w.heap.size, 0, none⟩ = some (.string nm) := by rw [KL.cell (by simp)]; simp
    have c1 : wl.cell? ⟨w.heap.size, 1, none⟩ = some (.slice (some ⟨bP, oP, none⟩) ps.length pc) := by rw [KL.cell (by simp)]; simp
    have c2 : wl.cell? ⟨w.heap.size, 2, none⟩ = some (.slice (some ad) ts.length tc) := by rw [KL.cell (by simp)]; simp
    have BL := Lib.hid (B0.out.trans (KL.mono (by rw [World.size_alloc]; omega)))
    clear KL
    go_wp2_with fail
    refine (SM.out _ BL.out).mono ?_
    rintro e w1 ⟨rfl, K⟩
    have B1 : Below w.heap.size w w1 := BL.out.trans (K.mono BL.out.size)
    clear c0 c1 c2
    go_wp2_with fail
    obtain ⟨w0, hw0⟩ : ∃ w0, w0 = w1.alloc (.cells #[.string nm, .slice (some ⟨bP, oP, none⟩) ps.length pc, .slice (some ad) ts.length tc] 25) := ⟨_, rfl⟩
    have BW : Hid (Below w.heap.size w w0) := by rw [hw0]; exact B1.alloc B1.size _
    have Q0 : Hid (w0.cell? ⟨w1.heap.size, 0, none⟩ = some (.string nm)) := by show _ = _; rw [hw0]; simp
    have Q1 : Hid (w0.cell? ⟨w1.heap.size, 1, none⟩ = some (.slice (some ⟨bP, oP, none⟩) ps.length pc)) := by show _ = _; rw [hw0]; simp
    have Q2 : Hid (w0.cell? ⟨w1.heap.size, 2, none⟩ = some (.slice (some ad) ts.length tc)) := by show _ = _; rw [hw0]; simp
    have CN : Hid (∀ W, Below w0.heap.size w0 W → NetR W ⟨nm, (some ⟨bP, oP, none⟩), ps, pc, (some ad), ts, tc⟩) := fun W hW => (hR.out.below BW.out (Nat.le_refl _)).below hW (Nat.le_refl _)
    rw [← hw0]
    clear hw0 B1 K
    generalize w1.heap.size = x at *
    refine (CV.out _ (CN.out _ (Below.refl _ _))).mono ?_
    rintro e w2 ⟨rfl, K⟩
    have B2 : Hid (Below w0.heap.size w0 w2) := K
    have q0w2 := keepc Q0.out K
    have q1w2 := keepc Q1.out K
    have q2w2 := keepc Q2.out K
    clear K
    obtain ⟨s, hs⟩ : ∃ s, s = w2.heap.size := ⟨_, rfl⟩
    have HS := Lib.hid hs
    clear hs
    have Cw2 : Hid (Below s w2 w2) := Below.refl _ _
    have NW := fun W (hW : Below s w2 W) => (CN.out _ B2.out).below hW (by rw [HS.out]; exact Nat.le_refl _)
    have NW := Lib.hid NW
    have HNP := Lib.hid (newsP (NW.out w2 Cw2.out).rp)
    focus
      go_wp2_with (first
        | (at_builtin; (
          refine wpList_append_own _ rfl (.tmp 38) (.tmp 40) 22 rfl s 50 i0 (.agg #[.string ⟨#[]⟩, .int .i64 0, .int .i64 0]) 3 32 Try.underlying22 HZI.out HZ0.out HZ1.out HZ2.out rfl (by decide) (.slice none 0 0) 0 [] rfl (World.ownsRow_nil _ _ _ _) ⟨bP, oP, none⟩ ps.length pc (cellsP ps) rfl (cellsP_len ps) HNP.out (one_cellP ps) (by unfold maxLen; omega) (by omega) (by rw [HS.out]; exact Nat.le_refl _) ?_
          intro v3 w3 hown hgrow _
          have Cw3 := Lib.hid (Cw2.out.grown hgrow (by rw [HS.out]; exact Cw2.out.size) (fun q e => by cases e))
          have q0w3 : w3.cell? ⟨x, 0, none⟩ = some (.string nm) := (Cw3.out.cell (by rw [HS.out]; exact World.block_lt_of_cell? w2 ⟨x, 0, none⟩ q0w2)).trans q0w2
          have q1w3 : w3.cell? ⟨x, 1, none⟩ = some (.slice (some ⟨bP, oP, none⟩) ps.length pc) := (Cw3.out.cell (by rw [HS.out]; exact World.block_lt_of_cell? w2 ⟨x, 1, none⟩ q1w2)).trans q1w2
          have q2w3 : w3.cell? ⟨x, 2, none⟩ = some (.slice (some ad) ts.length tc) := (Cw3.out.cell (by rw [HS.out]; exact World.block_lt_of_cell? w2 ⟨x, 2, none⟩ q2w2)).trans q2w2
          have O3 : Hid (w3.ownsRow s 50 3 v3 ps.length (cellsP ps)) := by have h := hown; rw [Nat.zero_add, List.nil_append] at h; exact h
          clear hown hgrow
          have d0w3 : w3.cell? ⟨bP, oP, none⟩ = some (.string x0) := FIRST.out _ (NW.out w3 Cw3.out).rp
          have S3 : s ≤ w3.heap.size := by rw [HS.out]; exact Cw3.out.size
          have g3 : s ≤ (w3.alloc (.cells #[.string x0, .int .i64 0, .int .i64 0] 50)).heap.size := by rw [World.size_alloc]; omega
          skip))
        | (at_builtin; (
          refine wpList_append_own _ rfl (.tmp 42) (.tmp 49) 22 rfl s 50 i0 (.agg #[.string ⟨#[]⟩, .int .i64 0, .int .i64 0]) 3 32 Try.underlying22 HZI.out HZ0.out HZ1.out HZ2.out rfl (by decide) v3 ps.length _ rfl (O3.out.alloc (.cells #[.string x0, .int .i64 0, .int .i64 0] 50)) ⟨w3.heap.size, 0, none⟩ 1 1 [.string x0, .int .i64 0, .int .i64 0] rfl rfl (cell3_new _ _ _ _ _) (by simp [Value.oneCell']) (by unfold maxLen; omega) (by omega) g3 ?_
          intro v4 w4 hown hgrow _
          have Cw4 := Lib.hid ((Cw3.out.alloc (by rw [HS.out]; exact Cw3.out.size) _).grown hgrow (by rw [World.size_alloc, HS.out]; have := Cw3.out.size; omega) (fun q e => (O3.out.lt q e).1))
          have q0w4 : w4.cell? ⟨x, 0, none⟩ = some (.string nm) := (Cw4.out.cell (by rw [HS.out]; exact World.block_lt_of_cell? w2 ⟨x, 0, none⟩ q0w2)).trans q0w2
          have q1w4 : w4.cell? ⟨x, 1, none⟩ = some (.slice (some ⟨bP, oP, none⟩) ps.length pc) := (Cw4.out.cell (by rw [HS.out]; exact World.block_lt_of_cell? w2 ⟨x, 1, none⟩ q1w2)).trans q1w2
          have q2w4 : w4.cell? ⟨x, 2, none⟩ = some (.slice (some ad) ts.length tc) := (Cw4.out.cell (by rw [HS.out]; exact World.block_lt_of_cell? w2 ⟨x, 2, none⟩ q2w2)).trans q2w2
          have O4 : w4.ownsRow s 50 3 v4 (ps.length + 1) (cellsP (ps ++ [⟨x0, 0, 0⟩])) := by rw [cellsP_snoc]; exact hown
          clear hown hgrow
          obtain ⟨PA2, pc2, rfl, hc2, RP2⟩ := readsP_own O4 (by omega)
          have HA : NetR w4 ⟨nm, PA2, ps ++ [⟨x0, 0, 0⟩], pc2, (some ad), ts, tc⟩ := ⟨hR.out.hnm, okP_snoc hR.out.okp h24 HX0.out, hR.out.okt, hc2, hR.out.htc, RP2, (NW.out w4 Cw4.out).rt⟩
          have EP : (ps ++ [(⟨x0, 0, 0⟩ : PlaceV)]).length = ps.length + 1 := by simp
          have CKA := fun W (hW : Below w4.heap.size w4 W) => check_any ⟨nm, PA2, ps ++ [⟨x0, 0, 0⟩], pc2, (some ad), ts, tc⟩ W (HA.below hW (Nat.le_refl _))
          dsimp only at CKA
          unfold FPost at CKA
          rw [show chkV ⟨nm, PA2, ps ++ [⟨x0, 0, 0⟩], pc2, (some ad), ts, tc⟩ = (6, (ps.length : Int)) from SPA.out] at CKA
          rw [EP] at CKA
          rw [EP]
          have CKA := Lib.hid CKA
          clear O4 RP2 HA hc2 EP
          skip)))
      go_upto_region 10 with fail
      obtain ⟨w5, hww5⟩ : ∃ w5, w5 = w4.alloc (.cells #[.string nm, .slice PA2 (ps.length + 1) pc2, .slice (some ad) ts.length tc] 25) := ⟨_, rfl⟩
      have Cw5 : Hid (Below s w2 w5) := by rw [hww5]; exact Cw4.out.alloc (by rw [HS.out]; exact Cw4.out.size) _
      have Lw5 : Hid (Below w4.heap.size w4 w5) := by rw [hww5]; exact (Below.refl _ _).alloc (Nat.le_refl _) _
      have a0 : w5.cell? ⟨w4.heap.size, 0, none⟩ = some (.string nm) := by rw [hww5]; simp
      have a1 : w5.cell? ⟨w4.heap.size, 1, none⟩ = some (.slice PA2 (ps.length + 1) pc2) := by rw [hww5]; simp
      have a2 : w5.cell? ⟨w4.heap.size, 2, none⟩ = some (.slice (some ad) ts.length tc) := by rw [hww5]; simp
      have q0w5 : w5.cell? ⟨x, 0, none⟩ = some (.string nm) := (Cw5.out.cell (by rw [HS.out]; exact World.block_lt_of_cell? w2 ⟨x, 0, none⟩ q0w2)).trans q0w2
      have q1w5 : w5.cell? ⟨x, 1, none⟩ = some (.slice (some ⟨bP, oP, none⟩) ps.length pc) := (Cw5.out.cell (by rw [HS.out]; exact World.block_lt_of_cell? w2 ⟨x, 1, none⟩ q1w2)).trans q1w2
      have q2w5 : w5.cell? ⟨x, 2, none⟩ = some (.slice (some ad) ts.length tc) := (Cw5.out.cell (by rw [HS.out]; exact World.block_lt_of_cell? w2 ⟨x, 2, none⟩ q2w2)).trans q2w2
      rw [← hww5]
      clear hww5
      have ne1 : ∀ W, (binOp .neq 31 (.agg #[.int .i64 6, .int .i64 (ps.length : Int)]) (.agg #[.int .i64 6, .int .i64 (ps.length : Int)])).run Try.prog W = .ok (.bool false) W := fun W => by rw [faultNeq]; simp
      refine wp_region_held_drew (S := fun w' => w'.cell? ⟨w4.heap.size, 0, none⟩ = some (.string nm) ∧ w'.cell? ⟨w4.heap.size, 1, none⟩ = some (.slice PA2 (ps.length + 1) pc2) ∧ w'.cell? ⟨w4.heap.size, 2, none⟩ = some (.slice (some ad) ts.length tc) ∧ w'.cell? ⟨x, 0, none⟩ = some (.string nm) ∧ w'.cell? ⟨x, 1, none⟩ = some (.slice (some ⟨bP, oP, none⟩) ps.length pc) ∧ w'.cell? ⟨x, 2, none⟩ = some (.slice (some ad) ts.length tc) ∧ Hid (Below s w2 w') ∧ Hid (Below w4.heap.size w4 w')) (by kernel_rfl) ?_ (fun hHeld => ?_)
      · exact ⟨a0, a1, a2, q0w5, q1w5, q2w5, Cw5.out.drew, Lw5.out.drew⟩
      refine wpAnyH_take (oi := ⟨_, _, _, _, _, _⟩) (i := 0) (v := ?_) rfl (by kernel_rfl) (by kernel_rfl) (by kernel_rfl) (fun _ _ _ h => h) (Or.inl ⟨by rfl, ?ya0⟩) (by assumption) ?ra0
      case ya0 => (intro w hSw; (try dsimp only at hSw); go_simp; (try with_reducible rfl))
      try simp only [Act.put, List.setIfInBounds_toArray, List.set_cons_zero, List.set_cons_succ]
      refine wpAnyH_take (oi := ⟨_, _, _, _, _, _⟩) (i := 2) (v := ?_) rfl (by kernel_rfl) (by kernel_rfl) (by kernel_rfl) (fun _ _ _ h => h) (Or.inl ⟨by rfl, ?ya2⟩) (by assumption) ?ra2
      case ya2 => (intro w hSw; (try dsimp only at hSw); go_simp; (try with_reducible rfl))
      try simp only [Act.put, List.setIfInBounds_toArray, List.set_cons_zero, List.set_cons_succ]
      refine wpAnyH_take (oi := ⟨_, _, _, _, _, _⟩) (i := 3) (v := ?_) rfl (by kernel_rfl) (by kernel_rfl) (by kernel_rfl) (fun _ _ _ h => h) (Or.inl ⟨by rfl, ?ya3⟩) (by assumption) ?ra3
      case ya3 => (intro w hSw; (try dsimp only at hSw); go_simp; (try with_reducible rfl))
      try simp only [Act.put, List.setIfInBounds_toArray, List.set_cons_zero, List.set_cons_succ]
      refine wpAnyH_take (oi := ⟨_, _, _, _, _, _⟩) (i := 4) (v := ?_) rfl (by kernel_rfl) (by kernel_rfl) (by kernel_rfl) (fun _ _ _ h => h) (Or.inl ⟨by rfl, ?ya4⟩) (by assumption) ?ra4
      case ya4 => (intro w hSw; (try dsimp only at hSw); go_simp; (try with_reducible rfl))
      try simp only [Act.put, List.setIfInBounds_toArray, List.set_cons_zero, List.set_cons_succ]
      refine wpAnyH_take (oi := ⟨_, _, _, _, _, _⟩) (i := 5) (v := ?_) rfl (by kernel_rfl) (by kernel_rfl) (by kernel_rfl) (fun _ _ _ h => h) (Or.inl ⟨by rfl, ?ya5⟩) (by assumption) ?ra5
      case ya5 => (intro w hSw; (try dsimp only at hSw); go_simp; (try with_reducible rfl))
      try simp only [Act.put, List.setIfInBounds_toArray, List.set_cons_zero, List.set_cons_succ]
      refine wpAnyH_ready (rs := [1]) (by kernel_rfl) (by simp) ?_
      refine AllReadyH.cons (o := ⟨_, _, _, _, _, _⟩) rfl (fun K hK => ?_) AllReadyH.nil
      go_simp
      go_at_call 13; refine (CKA.out _ hHeld.2.2.2.2.2.2.2.out).mono ?_; rintro e w6 ⟨rfl, LL⟩; (try go_wp2_with fail)
      refine hK.out _ _ ?_ (fun hHeld2 => ?_)
      · obtain ⟨h1, h2, h3, h4, h5, h6, h7, h8⟩ := hHeld; exact ⟨keepc h1 LL, keepc h2 LL, keepc h3 LL, keepc h4 LL, keepc h5 LL, keepc h6 LL, h7.out.trans (LL.mono (by rw [HS.out]; exact h7.out.size)), h8.out.trans (LL.mono h8.out.size)⟩
      clear hK K hHeld
      have hHeld := hHeld2
      clear hHeld2
      try simp only [Act.put, List.setIfInBounds_toArray, List.set_cons_zero, List.set_cons_succ]
      refine wpAnyH_take (oi := ⟨_, _, _, _, _, _⟩) (i := 6) (v := ?_) rfl (by kernel_rfl) (by kernel_rfl) (by kernel_rfl) (fun _ _ _ h => h) (Or.inl ⟨by rfl, ?ya6⟩) (by assumption) ?ra6
      case ya6 => (intro w hSw; (try dsimp only at hSw); go_simp; (try with_reducible rfl))
      try simp only [Act.put, List.setIfInBounds_toArray, List.set_cons_zero, List.set_cons_succ]
      refine wpAnyH_done (by kernel_rfl) ?_ _
      have Cw6 := Lib.hid hHeld.2.2.2.2.2.2.1.out
      have q0w6 := hHeld.2.2.2.1
      have q1w6 := hHeld.2.2.2.2.1
      have q2w6 := hHeld.2.2.2.2.2.1
      clear hHeld LL a0 a1 a2
      focus
        have HNTb := Lib.hid (NEWT.out _ (NW.out w6 Cw6.out).rt)
        go_wp2_with (first
          | (at_builtin; (
            refine wpList_append_own _ rfl (.tmp 64) (.tmp 66) 23 rfl s 53 j0 (.agg #[.string ⟨#[]⟩, .slice none 0 0, .slice none 0 0, .slice none 0 0, .int .i64 0]) 5 96 Try.underlying23 JZI.out JZ0.out JZ1.out JZ2.out rfl (by decide) (.slice none 0 0) 0 [] rfl (World.ownsRow_nil _ _ _ _) ad ts.length tc (cellsT ts) rfl (cellsT_len ts) HNTb.out (one_cellT ts) (by unfold maxLen; omega) (by omega) (by rw [HS.out]; exact Cw6.out.size) ?_
            intro vw7 w7 hown hgrow _
            have Cw7 := Lib.hid (Cw6.out.grown hgrow (by rw [HS.out]; exact Cw6.out.size) (fun q e => by cases e))
            have q0w7 : w7.cell? ⟨x, 0, none⟩ = some (.string nm) := (Cw7.out.cell (by rw [HS.out]; exact World.block_lt_of_cell? w2 ⟨x, 0, none⟩ q0w2)).trans q0w2
            have q1w7 : w7.cell? ⟨x, 1, none⟩ = some (.slice (some ⟨bP, oP, none⟩) ps.length pc) := (Cw7.out.cell (by rw [HS.out]; exact World.block_lt_of_cell? w2 ⟨x, 1, none⟩ q1w2)).trans q1w2
            have q2w7 : w7.cell? ⟨x, 2, none⟩ = some (.slice (some ad) ts.length tc) := (Cw7.out.cell (by rw [HS.out]; exact World.block_lt_of_cell? w2 ⟨x, 2, none⟩ q2w2)).trans q2w2
            have Ow7 : Hid (w7.ownsRow s 53 5 vw7 ts.length (cellsT ts)) := by have h := hown; rw [Nat.zero_add, List.nil_append] at h; exact h
            clear hown hgrow
            have d0w7 : w7.cell? ⟨bP, oP, none⟩ = some (.string x0) := FIRST.out _ (NW.out w7 Cw7.out).rp
            have Sw7 : s ≤ w7.heap.size := by rw [HS.out]; exact Cw7.out.size
            have gw7 : s ≤ (w7.alloc (.cells #[.string x0, .slice none 0 0, .slice none 0 0, .slice none 0 0, .int .i64 0] 53)).heap.size := by rw [World.size_alloc]; omega
            skip))
          | (at_builtin; (
            refine wpList_append_own _ rfl (.tmp 68) (.tmp 75) 23 rfl s 53 j0 (.agg #[.string ⟨#[]⟩, .slice none 0 0, .slice none 0 0, .slice none 0 0, .int .i64 0]) 5 96 Try.underlying23 JZI.out JZ0.out JZ1.out JZ2.out rfl (by decide) vw7 ts.length _ rfl (Ow7.out.alloc (.cells #[.string x0, .slice none 0 0, .slice none 0 0, .slice none 0 0, .int .i64 0] 53)) ⟨w7.heap.size, 0, none⟩ 1 1 [.string x0, .slice none 0 0, .slice none 0 0, .slice none 0 0, .int .i64 0] rfl rfl (cell5_new _ _ _ _ _ _ _) (by simp [Value.oneCell']) (by unfold maxLen; omega) (by omega) gw7 ?_
            intro vw8 w8 hown hgrow _
            have Cw8 := Lib.hid ((Cw7.out.alloc (by rw [HS.out]; exact Cw7.out.size) _).grown hgrow (by rw [World.size_alloc, HS.out]; have := Cw7.out.size; omega) (fun q e => (Ow7.out.lt q e).1))
            have q0w8 : w8.cell? ⟨x, 0, none⟩ = some (.string nm) := (Cw8.out.cell (by rw [HS.out]; exact World.block_lt_of_cell? w2 ⟨x, 0, none⟩ q0w2)).trans q0w2
            have q1w8 : w8.cell? ⟨x, 1, none⟩ = some (.slice (some ⟨bP, oP, none⟩) ps.length pc) := (Cw8.out.cell (by rw [HS.out]; exact World.block_lt_of_cell? w2 ⟨x, 1, none⟩ q1w2)).trans q1w2
            have q2w8 : w8.cell? ⟨x, 2, none⟩ = some (.slice (some ad) ts.length tc) := (Cw8.out.cell (by rw [HS.out]; exact World.block_lt_of_cell? w2 ⟨x, 2, none⟩ q2w2)).trans q2w2
            have Ow8 : w8.ownsRow s 53 5 vw8 (ts.length + 1) (cellsT (ts ++ [⟨x0, ⟨none, 0, []⟩, ⟨none, 0, []⟩, ⟨none, 0, []⟩, 0⟩])) := by rw [cellsT_snoc]; exact hown
            clear hown hgrow
            obtain ⟨TAb, tcb, rfl, hcb, RTb⟩ := readsT_own Ow8 (by omega) (arcs_snoc (NW.out w8 Cw8.out).rt)
            have HAb : NetR w8 ⟨nm, (some ⟨bP, oP, none⟩), ps, pc, TAb, ts ++ [⟨x0, ⟨none, 0, []⟩, ⟨none, 0, []⟩, ⟨none, 0, []⟩, 0⟩], tcb⟩ := ⟨hR.out.hnm, hR.out.okp, okT_snoc hR.out.okt t24 HX0.out, hR.out.hpc, hcb, (NW.out w8 Cw8.out).rp, RTb⟩
            have EPb : (ts ++ [(⟨x0, ⟨none, 0, []⟩, ⟨none, 0, []⟩, ⟨none, 0, []⟩, 0⟩ : TransV)]).length = ts.length + 1 := by simp
            have CKB := fun W (hW : Below w8.heap.size w8 W) => check_any ⟨nm, (some ⟨bP, oP, none⟩), ps, pc, TAb, ts ++ [⟨x0, ⟨none, 0, []⟩, ⟨none, 0, []⟩, ⟨none, 0, []⟩, 0⟩], tcb⟩ W (HAb.below hW (Nat.le_refl _))
            dsimp only at CKB
            unfold FPost at CKB
            rw [show chkV ⟨nm, (some ⟨bP, oP, none⟩), ps, pc, TAb, ts ++ [⟨x0, ⟨none, 0, []⟩, ⟨none, 0, []⟩, ⟨none, 0, []⟩, 0⟩], tcb⟩ = (6, (ps.length : Int) + (ts.length : Int)) from SPB.out] at CKB
            rw [EPb] at CKB
            rw [EPb]
            have CKB := Lib.hid CKB
            clear Ow8 RTb HAb hcb EPb
            skip)))
        go_upto_region 16 with fail
        obtain ⟨w9, hww9⟩ : ∃ w9, w9 = w8.alloc (.cells #[.string nm, .slice (some ⟨bP, oP, none⟩) ps.length pc, .slice TAb (ts.length + 1) tcb] 25) := ⟨_, rfl⟩
        have Cw9 : Hid (Below s w2 w9) := by rw [hww9]; exact Cw8.out.alloc (by rw [HS.out]; exact Cw8.out.size) _
        have Lw9 : Hid (Below w8.heap.size w8 w9) := by rw [hww9]; exact (Below.refl _ _).alloc (Nat.le_refl _) _
        have b0 : w9.cell? ⟨w8.heap.size, 0, none⟩ = some (.string nm) := by rw [hww9]; simp
        have b1 : w9.cell? ⟨w8.heap.size, 1, none⟩ = some (.slice (some ⟨bP, oP, none⟩) ps.length pc) := by rw [hww9]; simp
        have b2 : w9.cell? ⟨w8.heap.size, 2, none⟩ = some (.slice TAb (ts.length + 1) tcb) := by rw [hww9]; simp
        have q0w9 : w9.cell? ⟨x, 0, none⟩ = some (.string nm) := (Cw9.out.cell (by rw [HS.out]; exact World.block_lt_of_cell? w2 ⟨x, 0, none⟩ q0w2)).trans q0w2
        have q1w9 : w9.cell? ⟨x, 1, none⟩ = some (.slice (some ⟨bP, oP, none⟩) ps.length pc) := (Cw9.out.cell (by rw [HS.out]; exact World.block_lt_of_cell? w2 ⟨x, 1, none⟩ q1w2)).trans q1w2
        have q2w9 : w9.cell? ⟨x, 2, none⟩ = some (.slice (some ad) ts.length tc) := (Cw9.out.cell (by rw [HS.out]; exact World.block_lt_of_cell? w2 ⟨x, 2, none⟩ q2w2)).trans q2w2
        rw [← hww9]
        clear hww9
        have neb : ∀ W, (binOp .neq 31 (.agg #[.int .i64 6, .int .i64 ((ps.length : Int) + (ts.length : Int))]) (.agg #[.int .i64 6, .int .i64 ((ps.length : Int) + (ts.length : Int))])).run Try.prog W = .ok (.bool false) W := fun W => by rw [faultNeq]; simp
        have hwp0 : IntKind.i64.wrap (ps.length : Int) = (ps.length : Int) := by rw [IntKind.wrap_i64]; omega
        have hwp1 : IntKind.i64.wrap ((ps.length : Int) + (ts.length : Int)) = (ps.length : Int) + (ts.length : Int) := by rw [IntKind.wrap_i64]; omega
        refine wp_region_held_drew (S := fun w' => w'.cell? ⟨w8.heap.size, 0, none⟩ = some (.string nm) ∧ w'.cell? ⟨w8.heap.size, 1, none⟩ = some (.slice (some ⟨bP, oP, none⟩) ps.length pc) ∧ w'.cell? ⟨w8.heap.size, 2, none⟩ = some (.slice TAb (ts.length + 1) tcb) ∧ w'.cell? ⟨x, 0, none⟩ = some (.string nm) ∧ w'.cell? ⟨x, 1, none⟩ = some (.slice (some ⟨bP, oP, none⟩) ps.length pc) ∧ w'.cell? ⟨x, 2, none⟩ = some (.slice (some ad) ts.length tc) ∧ Hid (Below s w2 w') ∧ Hid (Below w8.heap.size w8 w')) (by kernel_rfl) ?_ (fun hHeld => ?_)
        · exact ⟨b0, b1, b2, q0w9, q1w9, q2w9, Cw9.out.drew, Lw9.out.drew⟩
        refine wpAnyH_take (oi := ⟨_, _, _, _, _, _⟩) (i := 0) (v := ?_) rfl (by kernel_rfl) (by kernel_rfl) (by kernel_rfl) (fun _ _ _ h => h) (Or.inl ⟨by rfl, ?yb0⟩) (by assumption) ?rb0
        case yb0 => (intro w hSw; (try dsimp only at hSw); go_simp; (try with_reducible rfl))
        try simp only [Act.put, List.setIfInBounds_toArray, List.set_cons_zero, List.set_cons_succ]
        refine wpAnyH_take (oi := ⟨_, _, _, _, _, _⟩) (i := 2) (v := ?_) rfl (by kernel_rfl) (by kernel_rfl) (by kernel_rfl) (fun _ _ _ h => h) (Or.inl ⟨by rfl, ?yb2⟩) (by assumption) ?rb2
        case yb2 => (intro w hSw; (try dsimp only at hSw); go_simp; (try with_reducible rfl))
        try simp only [Act.put, List.setIfInBounds_toArray, List.set_cons_zero, List.set_cons_succ]
        refine wpAnyH_take (oi := ⟨_, _, _, _, _, _⟩) (i := 3) (v := ?_) rfl (by kernel_rfl) (by kernel_rfl) (by kernel_rfl) (fun _ _ _ h => h) (Or.inl ⟨by rfl, ?yb3⟩) (by assumption) ?rb3
        case yb3 => (intro w hSw; (try dsimp only at hSw); go_simp; (try with_reducible rfl))
        try simp only [Act.put, List.setIfInBounds_toArray, List.set_cons_zero, List.set_cons_succ]
        refine wpAnyH_take (oi := ⟨_, _, _, _, _, _⟩) (i := 4) (v := ?_) rfl (by kernel_rfl) (by kernel_rfl) (by kernel_rfl) (fun _ _ _ h => h) (Or.inl ⟨by rfl, ?yb4⟩) (by assumption) ?rb4
        case yb4 => (intro w hSw; (try dsimp only at hSw); go_simp; (try with_reducible rfl))
        try simp only [Act.put, List.setIfInBounds_toArray, List.set_cons_zero, List.set_cons_succ]
        refine wpAnyH_take (oi := ⟨_, _, _, _, _, _⟩) (i := 5) (v := ?_) rfl (by kernel_rfl) (by kernel_rfl) (by kernel_rfl) (fun _ _ _ h => h) (Or.inl ⟨by rfl, ?yb5⟩) (by assumption) ?rb5
        case yb5 => (intro w hSw; (try dsimp only at hSw); go_simp; (try with_reducible rfl))
        try simp only [Act.put, List.setIfInBounds_toArray, List.set_cons_zero, List.set_cons_succ]
        refine wpAnyH_take (oi := ⟨_, _, _, _, _, _⟩) (i := 6) (v := ?_) rfl (by kernel_rfl) (by kernel_rfl) (by kernel_rfl) (fun _ _ _ h => h) (Or.inl ⟨by rfl, ?yb6⟩) (by assumption) ?rb6
        case yb6 => (intro w hSw; (try dsimp only at hSw); go_simp; (try with_reducible rfl))
        try simp only [Act.put, List.setIfInBounds_toArray, List.set_cons_zero, List.set_cons_succ]
        refine wpAnyH_take (oi := ⟨_, _, _, _, _, _⟩) (i := 7) (v := ?_) rfl (by kernel_rfl) (by kernel_rfl) (by kernel_rfl) (fun _ _ _ h => h) (Or.inl ⟨by rfl, ?yb7⟩) (by assumption) ?rb7
        case yb7 => (intro w hSw; (try dsimp only at hSw); go_simp; (try with_reducible rfl))
        try simp only [Act.put, List.setIfInBounds_toArray, List.set_cons_zero, List.set_cons_succ]
        refine wpAnyH_take (oi := ⟨_, _, _, _, _, _⟩) (i := 8) (v := ?_) rfl (by kernel_rfl) (by kernel_rfl) (by kernel_rfl) (fun _ _ _ h => h) (Or.inl ⟨by rfl, ?yb8⟩) (by assumption) ?rb8
        case yb8 => (intro w hSw; (try dsimp only at hSw); go_simp; (try with_reducible rfl))
        try simp only [Act.put, List.setIfInBounds_toArray, List.set_cons_zero, List.set_cons_succ]
        refine wpAnyH_take (oi := ⟨_, _, _, _, _, _⟩) (i := 9) (v := ?_) rfl (by kernel_rfl) (by kernel_rfl) (by kernel_rfl) (fun _ _ _ h => h) (Or.inl ⟨by rfl, ?yb9⟩) (by assumption) ?rb9
        case yb9 => (intro w hSw; (try dsimp only at hSw); go_simp; (try with_reducible rfl))
        try simp only [Act.put, List.setIfInBounds_toArray, List.set_cons_zero, List.set_cons_succ]
        refine wpAnyH_ready (rs := [1]) (by kernel_rfl) (by simp) ?_
        refine AllReadyH.cons (o := ⟨_, _, _, _, _, _⟩) rfl (fun K hK => ?_) AllReadyH.nil
        go_simp
        go_at_call 13; refine (CKB.out _ hHeld.2.2.2.2.2.2.2.out).mono ?_; rintro e wa ⟨rfl, LL⟩; (try go_wp2_with fail)
        refine hK.out _ _ ?_ (fun hHeld2 => ?_)
        · obtain ⟨h1, h2, h3, h4, h5, h6, h7, h8⟩ := hHeld; exact ⟨keepc h1 LL, keepc h2 LL, keepc h3 LL, keepc h4 LL, keepc h5 LL, keepc h6 LL, h7.out.trans (LL.mono (by rw [HS.out]; exact h7.out.size)), h8.out.trans (LL.mono h8.out.size)⟩
        clear hK K hHeld
        have hHeld := hHeld2
        clear hHeld2
        try simp only [Act.put, List.setIfInBounds_toArray, List.set_cons_zero, List.set_cons_succ]
        refine wpAnyH_take (oi := ⟨_, _, _, _, _, _⟩) (i := 10) (v := ?_) rfl (by kernel_rfl) (by kernel_rfl) (by kernel_rfl) (fun _ _ _ h => h) (Or.inl ⟨by rfl, ?yb10⟩) (by assumption) ?rb10
        case yb10 => (intro w hSw; (try dsimp only at hSw); go_simp; (try with_reducible rfl))
        try simp only [Act.put, List.setIfInBounds_toArray, List.set_cons_zero, List.set_cons_succ]
        refine wpAnyH_done (by kernel_rfl) ?_ _
        have Cwa := Lib.hid hHeld.2.2.2.2.2.2.1.out
        have q0wa := hHeld.2.2.2.1
        have q1wa := hHeld.2.2.2.2.1
        have q2wa := hHeld.2.2.2.2.2.1
        clear hHeld LL b0 b1 b2
        focus
          have HNTc := Lib.hid (NEWT.out _ (NW.out wa Cwa.out).rt)
          go_wp2_with (first
            | (at_builtin; (
              refine wpList_append_own _ rfl (.tmp 94) (.tmp 96) 23 rfl s 53 j0 (.agg #[.string ⟨#[]⟩, .slice none 0 0, .slice none 0 0, .slice none 0 0, .int .i64 0]) 5 96 Try.underlying23 JZI.out JZ0.out JZ1.out JZ2.out rfl (by decide) (.slice none 0 0) 0 [] rfl (World.ownsRow_nil _ _ _ _) ad ts.length tc (cellsT ts) rfl (cellsT_len ts) HNTc.out (one_cellT ts) (by unfold maxLen; omega) (by omega) (by rw [HS.out]; exact Cwa.out.size) ?_
              intro vwb wb hown hgrow _
              have Cwb := Lib.hid (Cwa.out.grown hgrow (by rw [HS.out]; exact Cwa.out.size) (fun q e => by cases e))
              have q0wb : wb.cell? ⟨x, 0, none⟩ = some (.string nm) := (Cwb.out.cell (by rw [HS.out]; exact World.block_lt_of_cell? w2 ⟨x, 0, none⟩ q0w2)).trans q0w2
              have q1wb : wb.cell? ⟨x, 1, none⟩ = some (.slice (some ⟨bP, oP, none⟩) ps.length pc) := (Cwb.out.cell (by rw [HS.out]; exact World.block_lt_of_cell? w2 ⟨x, 1, none⟩ q1w2)).trans q1w2
              have q2wb : wb.cell? ⟨x, 2, none⟩ = some (.slice (some ad) ts.length tc) := (Cwb.out.cell (by rw [HS.out]; exact World.block_lt_of_cell? w2 ⟨x, 2, none⟩ q2w2)).trans q2w2
              have Owb : Hid (wb.ownsRow s 53 5 vwb ts.length (cellsT ts)) := by have h := hown; rw [Nat.zero_add, List.nil_append] at h; exact h
              clear hown hgrow
              have Swb : s ≤ wb.heap.size := by rw [HS.out]; exact Cwb.out.size
              have gwb : s ≤ (wb.alloc (.cells #[.string ⟨#[]⟩, .slice none 0 0, .slice none 0 0, .slice none 0 0, .int .i64 0] 53)).heap.size := by rw [World.size_alloc]; omega
              skip))
            | (at_builtin; (
              refine wpList_append_own _ rfl (.tmp 98) (.tmp 100) 23 rfl s 53 j0 (.agg #[.string ⟨#[]⟩, .slice none 0 0, .slice none 0 0, .slice none 0 0, .int .i64 0]) 5 96 Try.underlying23 JZI.out JZ0.out JZ1.out JZ2.out rfl (by decide) vwb ts.length _ rfl (Owb.out.alloc (.cells #[.string ⟨#[]⟩, .slice none 0 0, .slice none 0 0, .slice none 0 0, .int .i64 0] 53)) ⟨wb.heap.size, 0, none⟩ 1 1 [.string ⟨#[]⟩, .slice none 0 0, .slice none 0 0, .slice none 0 0, .int .i64 0] rfl rfl (cell5_new _ _ _ _ _ _ _) (by simp [Value.oneCell']) (by unfold maxLen; omega) (by omega) gwb ?_
              intro vwc wc hown hgrow _
              have Cwc := Lib.hid ((Cwb.out.alloc (by rw [HS.out]; exact Cwb.out.size) _).grown hgrow (by rw [World.size_alloc, HS.out]; have := Cwb.out.size; omega) (fun q e => (Owb.out.lt q e).1))
              have q0wc : wc.cell? ⟨x, 0, none⟩ = some (.string nm) := (Cwc.out.cell (by rw [HS.out]; exact World.block_lt_of_cell? w2 ⟨x, 0, none⟩ q0w2)).trans q0w2
              have q1wc : wc.cell? ⟨x, 1, none⟩ = some (.slice (some ⟨bP, oP, none⟩) ps.length pc) := (Cwc.out.cell (by rw [HS.out]; exact World.block_lt_of_cell? w2 ⟨x, 1, none⟩ q1w2)).trans q1w2
              have q2wc : wc.cell? ⟨x, 2, none⟩ = some (.slice (some ad) ts.length tc) := (Cwc.out.cell (by rw [HS.out]; exact World.block_lt_of_cell? w2 ⟨x, 2, none⟩ q2w2)).trans q2w2
              have Owc : wc.ownsRow s 53 5 vwc (ts.length + 1) (cellsT (ts ++ [⟨⟨#[]⟩, ⟨none, 0, []⟩, ⟨none, 0, []⟩, ⟨none, 0, []⟩, 0⟩])) := by rw [cellsT_snoc]; exact hown
              clear hown hgrow
              obtain ⟨TAc, tcc, rfl, hcc, RTc⟩ := readsT_own Owc (by omega) (arcs_snoc (NW.out wc Cwc.out).rt)
              have HAc : NetR wc ⟨nm, (some ⟨bP, oP, none⟩), ps, pc, TAc, ts ++ [⟨⟨#[]⟩, ⟨none, 0, []⟩, ⟨none, 0, []⟩, ⟨none, 0, []⟩, 0⟩], tcc⟩ := ⟨hR.out.hnm, hR.out.okp, okT_snoc hR.out.okt t24 (Nat.zero_le _), hR.out.hpc, hcc, (NW.out wc Cwc.out).rp, RTc⟩
              have EPc : (ts ++ [(⟨⟨#[]⟩, ⟨none, 0, []⟩, ⟨none, 0, []⟩, ⟨none, 0, []⟩, 0⟩ : TransV)]).length = ts.length + 1 := by simp
              have CKC := fun W (hW : Below wc.heap.size wc W) => check_any ⟨nm, (some ⟨bP, oP, none⟩), ps, pc, TAc, ts ++ [⟨⟨#[]⟩, ⟨none, 0, []⟩, ⟨none, 0, []⟩, ⟨none, 0, []⟩, 0⟩], tcc⟩ W (HAc.below hW (Nat.le_refl _))
              dsimp only at CKC
              unfold FPost at CKC
              rw [show chkV ⟨nm, (some ⟨bP, oP, none⟩), ps, pc, TAc, ts ++ [⟨⟨#[]⟩, ⟨none, 0, []⟩, ⟨none, 0, []⟩, ⟨none, 0, []⟩, 0⟩], tcc⟩ = (5, (ps.length : Int) + (ts.length : Int)) from SPC.out] at CKC
              rw [EPc] at CKC
              rw [EPc]
              have CKC := Lib.hid CKC
              clear Owc RTc HAc hcc EPc
              skip)))
          go_upto_region 22 with fail
          obtain ⟨wd, hwwd⟩ : ∃ wd, wd = wc.alloc (.cells #[.string nm, .slice (some ⟨bP, oP, none⟩) ps.length pc, .slice TAc (ts.length + 1) tcc] 25) := ⟨_, rfl⟩
          have Cwd : Hid (Below s w2 wd) := by rw [hwwd]; exact Cwc.out.alloc (by rw [HS.out]; exact Cwc.out.size) _
          have Lwd : Hid (Below wc.heap.size wc wd) := by rw [hwwd]; exact (Below.refl _ _).alloc (Nat.le_refl _) _
          have c0 : wd.cell? ⟨wc.heap.size, 0, none⟩ = some (.string nm) := by rw [hwwd]; simp
          have c1 : wd.cell? ⟨wc.heap.size, 1, none⟩ = some (.slice (some ⟨bP, oP, none⟩) ps.length pc) := by rw [hwwd]; simp
          have c2 : wd.cell? ⟨wc.heap.size, 2, none⟩ = some (.slice TAc (ts.length + 1) tcc) := by rw [hwwd]; simp
          have q0wd : wd.cell? ⟨x, 0, none⟩ = some (.string nm) := (Cwd.out.cell (by rw [HS.out]; exact World.block_lt_of_cell? w2 ⟨x, 0, none⟩ q0w2)).trans q0w2
          have q1wd : wd.cell? ⟨x, 1, none⟩ = some (.slice (some ⟨bP, oP, none⟩) ps.length pc) := (Cwd.out.cell (by rw [HS.out]; exact World.block_lt_of_cell? w2 ⟨x, 1, none⟩ q1w2)).trans q1w2
          have q2wd : wd.cell? ⟨x, 2, none⟩ = some (.slice (some ad) ts.length tc) := (Cwd.out.cell (by rw [HS.out]; exact World.block_lt_of_cell? w2 ⟨x, 2, none⟩ q2w2)).trans q2w2
          rw [← hwwd]
          clear hwwd
          have nec : ∀ W, (binOp .neq 31 (.agg #[.int .i64 5, .int .i64 ((ps.length : Int) + (ts.length : Int))]) (.agg #[.int .i64 5, .int .i64 ((ps.length : Int) + (ts.length : Int))])).run Try.prog W = .ok (.bool false) W := fun W => by rw [faultNeq]; simp
          have hwp0 : IntKind.i64.wrap (ps.length : Int) = (ps.length : Int) := by rw [IntKind.wrap_i64]; omega
          have hwp1 : IntKind.i64.wrap ((ps.length : Int) + (ts.length : Int)) = (ps.length : Int) + (ts.length : Int) := by rw [IntKind.wrap_i64]; omega
          refine wp_region_held_drew (S := fun w' => w'.cell? ⟨wc.heap.size, 0, none⟩ = some (.string nm) ∧ w'.cell? ⟨wc.heap.size, 1, none⟩ = some (.slice (some ⟨bP, oP, none⟩) ps.length pc) ∧ w'.cell? ⟨wc.heap.size, 2, none⟩ = some (.slice TAc (ts.length + 1) tcc) ∧ w'.cell? ⟨x, 0, none⟩ = some (.string nm) ∧ w'.cell? ⟨x, 1, none⟩ = some (.slice (some ⟨bP, oP, none⟩) ps.length pc) ∧ w'.cell? ⟨x, 2, none⟩ = some (.slice (some ad) ts.length tc) ∧ Hid (Below s w2 w') ∧ Hid (Below wc.heap.size wc w')) (by kernel_rfl) ?_ (fun hHeld => ?_)
          · exact ⟨c0, c1, c2, q0wd, q1wd, q2wd, Cwd.out.drew, Lwd.out.drew⟩
          refine wpAnyH_take (oi := ⟨_, _, _, _, _, _⟩) (i := 0) (v := ?_) rfl (by kernel_rfl) (by kernel_rfl) (by kernel_rfl) (fun _ _ _ h => h) (Or.inl ⟨by rfl, ?yc0⟩) (by assumption) ?rc0
          case yc0 => (intro w hSw; (try dsimp only at hSw); go_simp; (try with_reducible rfl))
          try simp only [Act.put, List.setIfInBounds_toArray, List.set_cons_zero, List.set_cons_succ]
          refine wpAnyH_take (oi := ⟨_, _, _, _, _, _⟩) (i := 2) (v := ?_) rfl (by kernel_rfl) (by kernel_rfl) (by kernel_rfl) (fun _ _ _ h => h) (Or.inl ⟨by rfl, ?yc2⟩) (by assumption) ?rc2
          case yc2 => (intro w hSw; (try dsimp only at hSw); go_simp; (try with_reducible rfl))
          try simp only [Act.put, List.setIfInBounds_toArray, List.set_cons_zero, List.set_cons_succ]
          refine wpAnyH_take (oi := ⟨_, _, _, _, _, _⟩) (i := 3) (v := ?_) rfl (by kernel_rfl) (by kernel_rfl) (by kernel_rfl) (fun _ _ _ h => h) (Or.inl ⟨by rfl, ?yc3⟩) (by assumption) ?rc3
          case yc3 => (intro w hSw; (try dsimp only at hSw); go_simp; (try with_reducible rfl))
          try simp only [Act.put, List.setIfInBounds_toArray, List.set_cons_zero, List.set_cons_succ]
          refine wpAnyH_take (oi := ⟨_, _, _, _, _, _⟩) (i := 4) (v := ?_) rfl (by kernel_rfl) (by kernel_rfl) (by kernel_rfl) (fun _ _ _ h => h) (Or.inl ⟨by rfl, ?yc4⟩) (by assumption) ?rc4
          case yc4 => (intro w hSw; (try dsimp only at hSw); go_simp; (try with_reducible rfl))
          try simp only [Act.put, List.setIfInBounds_toArray, List.set_cons_zero, List.set_cons_succ]
          refine wpAnyH_take (oi := ⟨_, _, _, _, _, _⟩) (i := 5) (v := ?_) rfl (by kernel_rfl) (by kernel_rfl) (by kernel_rfl) (fun _ _ _ h => h) (Or.inl ⟨by rfl, ?yc5⟩) (by assumption) ?rc5
          case yc5 => (intro w hSw; (try dsimp only at hSw); go_simp; (try with_reducible rfl))
          try simp only [Act.put, List.setIfInBounds_toArray, List.set_cons_zero, List.set_cons_succ]
          refine wpAnyH_take (oi := ⟨_, _, _, _, _, _⟩) (i := 6) (v := ?_) rfl (by kernel_rfl) (by kernel_rfl) (by kernel_rfl) (fun _ _ _ h => h) (Or.inl ⟨by rfl, ?yc6⟩) (by assumption) ?rc6
          case yc6 => (intro w hSw; (try dsimp only at hSw); go_simp; (try with_reducible rfl))
          try simp only [Act.put, List.setIfInBounds_toArray, List.set_cons_zero, List.set_cons_succ]
          refine wpAnyH_take (oi := ⟨_, _, _, _, _, _⟩) (i := 7) (v := ?_) rfl (by kernel_rfl) (by kernel_rfl) (by kernel_rfl) (fun _ _ _ h => h) (Or.inl ⟨by rfl, ?yc7⟩) (by assumption) ?rc7
          case yc7 => (intro w hSw; (try dsimp only at hSw); go_simp; (try with_reducible rfl))
          try simp only [Act.put, List.setIfInBounds_toArray, List.set_cons_zero, List.set_cons_succ]
          refine wpAnyH_take (oi := ⟨_, _, _, _, _, _⟩) (i := 8) (v := ?_) rfl (by kernel_rfl) (by kernel_rfl) (by kernel_rfl) (fun _ _ _ h => h) (Or.inl ⟨by rfl, ?yc8⟩) (by assumption) ?rc8
          case yc8 => (intro w hSw; (try dsimp only at hSw); go_simp; (try with_reducible rfl))
          try simp only [Act.put, List.setIfInBounds_toArray, List.set_cons_zero, List.set_cons_succ]
          refine wpAnyH_take (oi := ⟨_, _, _, _, _, _⟩) (i := 9) (v := ?_) rfl (by kernel_rfl) (by kernel_rfl) (by kernel_rfl) (fun _ _ _ h => h) (Or.inl ⟨by rfl, ?yc9⟩) (by assumption) ?rc9
          case yc9 => (intro w hSw; (try dsimp only at hSw); go_simp; (try with_reducible rfl))
          try simp only [Act.put, List.setIfInBounds_toArray, List.set_cons_zero, List.set_cons_succ]
          refine wpAnyH_ready (rs := [1]) (by kernel_rfl) (by simp) ?_
          refine AllReadyH.cons (o := ⟨_, _, _, _, _, _⟩) rfl (fun K hK => ?_) AllReadyH.nil
          go_simp
          go_at_call 13; refine (CKC.out _ hHeld.2.2.2.2.2.2.2.out).mono ?_; rintro e we ⟨rfl, LL⟩; (try go_wp2_with fail)
          refine hK.out _ _ ?_ (fun hHeld2 => ?_)
          · obtain ⟨h1, h2, h3, h4, h5, h6, h7, h8⟩ := hHeld; exact ⟨keepc h1 LL, keepc h2 LL, keepc h3 LL, keepc h4 LL, keepc h5 LL, keepc h6 LL, h7.out.trans (LL.mono (by rw [HS.out]; exact h7.out.size)), h8.out.trans (LL.mono h8.out.size)⟩
          clear hK K hHeld
          have hHeld := hHeld2
          clear hHeld2
          try simp only [Act.put, List.setIfInBounds_toArray, List.set_cons_zero, List.set_cons_succ]
          refine wpAnyH_take (oi := ⟨_, _, _, _, _, _⟩) (i := 10) (v := ?_) rfl (by kernel_rfl) (by kernel_rfl) (by kernel_rfl) (fun _ _ _ h => h) (Or.inl ⟨by rfl, ?yc10⟩) (by assumption) ?rc10
          case yc10 => (intro w hSw; (try dsimp only at hSw); go_simp; (try with_reducible rfl))
          try simp only [Act.put, List.setIfInBounds_toArray, List.set_cons_zero, List.set_cons_succ]
          refine wpAnyH_done (by kernel_rfl) ?_ _
          have Cwe := Lib.hid hHeld.2.2.2.2.2.2.1.out
          have q0we := hHeld.2.2.2.1
          have q1we := hHeld.2.2.2.2.1
          have q2we := hHeld.2.2.2.2.2.1
          clear hHeld LL c0 c1 c2
          focus
            have HD := NW.out we Cwe.out
            have CKD := Lib.hid (fun W (hW : Below we.heap.size we W) => check_any ⟨⟨#[]⟩, (some ⟨bP, oP, none⟩), ps, pc, (some ad), ts, tc⟩ W ((⟨Nat.zero_le _, HD.okp, HD.okt, HD.hpc, HD.htc, HD.rp, HD.rt⟩ : NetR we ⟨⟨#[]⟩, (some ⟨bP, oP, none⟩), ps, pc, (some ad), ts, tc⟩).below hW (Nat.le_refl _)))
            have CKE := Lib.hid (fun W (hW : Below we.heap.size we W) => check_any ⟨nm, none, [], 0, (some ad), ts, tc⟩ W ((⟨HD.hnm, ⟨Nat.zero_le _, fun j => by simp [pA]⟩, HD.okt, Nat.le_refl _, HD.htc, fun j hj => absurd hj (by simp), HD.rt⟩ : NetR we ⟨nm, none, [], 0, (some ad), ts, tc⟩).below hW (Nat.le_refl _)))
            dsimp only at CKD CKE
            unfold FPost at CKD CKE
            rw [show chkV ⟨⟨#[]⟩, (some ⟨bP, oP, none⟩), ps, pc, (some ad), ts, tc⟩ = (5, 0) from spoil_empty _ _] at CKD
            rw [show chkV ⟨nm, none, [], 0, (some ad), ts, tc⟩ = (2, 0) from SPE.out] at CKE
            have eq5 : ∀ W, (binOp .eql 31 (.agg #[.int .i64 5, .int .i64 0]) (.agg #[.int .i64 5, .int .i64 0])).run Try.prog W = .ok (.bool true) W := fun W => by rw [faultEql]; simp
            have eq2 : ∀ W, (binOp .eql 31 (.agg #[.int .i64 2, .int .i64 0]) (.agg #[.int .i64 2, .int .i64 0])).run Try.prog W = .ok (.bool true) W := fun W => by rw [faultEql]; simp
            have BX := Lib.hid ((Below.refl we.heap.size we).alloc (Nat.le_refl _) (.cells #[.string ⟨#[]⟩, .slice (some ⟨bP, oP, none⟩) ps.length pc, .slice (some ad) ts.length tc] 25))
            clear HD
            go_wp2_with fail
            refine (CKD.out _ BX.out).mono ?_
            rintro e wf ⟨rfl, K⟩
            have BY := Lib.hid (BX.out.trans (K.mono BX.out.size))
            have q0wf := keepc q0we BY.out
            have q1wf := keepc q1we BY.out
            have q2wf := keepc q2we BY.out
            clear K BX
            go_wp2_with fail
            refine (CKE.out _ BY.out).mono ?_
            rintro e wg ⟨rfl, K⟩
            have BZ := Lib.hid (Cwe.out.trans ((BY.out.trans (K.mono BY.out.size)).mono (by rw [HS.out]; exact Cwe.out.size)))
            clear K BY
            go_wp2
            go_ret
            exact ⟨rfl, BW.out.trans ((B2.out.trans (BZ.out.mono (by rw [HS.out]; exact B2.out.size))).mono BW.out.size)⟩
end Go.Proofs.Ytlmchanciegggaa
