/- Graphs: the search of Reach, walked. -/
import Derived.Test.YtdfljeonoallfaaSC
import Derived.Laws.EntriesVeiled
namespace Go.Proofs.Ytdfljeonoallfaa
open Go.RowKit

/-- what the search is about: the rows and where its variables lie -/
structure RcC where
  n : Nat
  gA : Option Addr
  gc : Nat
  g : Nat
  Bg : Nat
  Bs : Nat
  Bl : Nat
  Bv : Nat
  S : Nat
  RA : Nat → Option Addr
  RL : Nat → List Int
  RK : Nat → Nat
def RcC.fn (C : RcC) : Value := .func (.func 33) #[] #[.pointer (some ⟨C.Bg, 0, none⟩), .pointer (some ⟨C.Bs, 0, none⟩), .pointer (some ⟨C.Bl, 0, none⟩), .pointer (some ⟨C.Bv, 0, none⟩)]
structure GeoR (C : RcC) (w0 : World) : Prop where
  gs : C.g = w0.heap.size
  ng : C.Bg ≠ C.S
  ns : C.Bs ≠ C.S
  nl : C.Bl ≠ C.S
  nv : C.Bv ≠ C.S
  hS : C.g ≤ C.S
  hn : C.n ≤ 4000
  row : ∀ i, i < C.n → ∃ b off, C.gA = some ⟨b, off, none⟩ ∧ b < w0.heap.size ∧ w0.cell? ⟨b, off + i, none⟩ = some (.slice (C.RA i) (C.RL i).length (C.RK i))
  rd : ∀ i, i < C.n → ReadsV w0 (C.RA i) (C.RL i)
  ll : ∀ i, i < C.n → (C.RL i).length ≤ 1000000
structure EnvR (C : RcC) (w0 : World) (seen : List Bool) (W : World) : Prop where
  bg : W.cell? ⟨C.Bg, 0, none⟩ = some (.slice C.gA C.n C.gc)
  bs : W.cell? ⟨C.Bs, 0, none⟩ = some (.slice (some ⟨C.S, 0, none⟩) C.n C.n)
  bl : W.cell? ⟨C.Bl, 0, none⟩ = some (.slice none 0 0)
  bv : W.cell? ⟨C.Bv, 0, none⟩ = some C.fn
  sb : W.ownsRow C.g 4 1 (.slice (some ⟨C.S, 0, none⟩) C.n C.n) C.n (seen.map Value.bool)
  len : seen.length = C.n
  bw : Below C.g w0 W
theorem EnvR.set {C : RcC} {w0 : World} {seen : List Bool} {W : World} (h : EnvR C w0 seen W) (G : GeoR C w0) (i : Nat) : EnvR C w0 (seen.set i true) (W.setCell ⟨C.S, i, none⟩ (.bool true)) where
  bg := (World.cell?_setCell_other _ _ _ _ (by simp; exact fun h => absurd h.symm G.ng)).trans h.bg
  bs := (World.cell?_setCell_other _ _ _ _ (by simp; exact fun h => absurd h.symm G.ns)).trans h.bs
  bl := (World.cell?_setCell_other _ _ _ _ (by simp; exact fun h => absurd h.symm G.nl)).trans h.bl
  bv := (World.cell?_setCell_other _ _ _ _ (by simp; exact fun h => absurd h.symm G.nv)).trans h.bv
  sb := by
    rw [List.map_set]
    exact (h.sb.stored i (.bool true)).1
  len := by rw [List.length_set]; exact h.len
  bw := h.bw.setCell G.hS _
theorem EnvR.at {C : RcC} {w0 : World} {seen : List Bool} {W : World} (h : EnvR C w0 seen W) {i : Nat} (hi : i < C.n) : W.cell? ⟨C.S, i, none⟩ = some (.bool (atT seen i)) := by
  rw [h.sb.cellAt i (by omega)]
  have hl : i < seen.length := by rw [h.len]; exact hi
  unfold atT
  rw [List.getElem?_map, List.getElem?_eq_getElem hl]
  rfl
theorem EnvR.row {C : RcC} {w0 : World} {seen : List Bool} {W : World} (h : EnvR C w0 seen W) (G : GeoR C w0) {i : Nat} (hi : i < C.n) : ∃ b off, C.gA = some ⟨b, off, none⟩ ∧ W.cell? ⟨b, off + i, none⟩ = some (.slice (C.RA i) (C.RL i).length (C.RK i)) := by
  obtain ⟨b, off, e, h1, h2⟩ := G.row i hi
  exact ⟨b, off, e, (h.bw.cell (p := ⟨b, off + i, none⟩) (by rw [G.gs]; exact h1)).trans h2⟩
theorem EnvR.rd {C : RcC} {w0 : World} {seen : List Bool} {W : World} (h : EnvR C w0 seen W) (G : GeoR C w0) {i : Nat} (hi : i < C.n) : ReadsV W (C.RA i) (C.RL i) := (G.rd i hi).below h.bw (by rw [G.gs]; exact Nat.le_refl _)
theorem isv_any (A : Option Addr) (n c : Nat) (v : Int) (w : World) :
    Calls Try.prog 31 #[.slice A n c, .int .i64 v] w fun e w' => e = .returned (.bool (inR v n)) ∧ w = w' := by
  unfold inR
  by_cases h0 : 0 ≤ v
  · have z0 : (0 ≤ v) = True := by simp [h0]
    by_cases h1 : v < n
    · have z1 : (v < (n : Int)) = True := by simp [h1]
      rw [decide_eq_true h0, decide_eq_true h1]
      clear h0 h1
      go_enter Try.func31, Try.ntmps31
      go_wp2
      go_ret
      exact ⟨rfl, rfl⟩
    · have z1 : (v < (n : Int)) = False := by simp; omega
      rw [decide_eq_true h0, decide_eq_false h1]
      clear h0 h1
      go_enter Try.func31, Try.ntmps31
      go_wp2
      go_ret
      exact ⟨rfl, rfl⟩
  · have z0 : (0 ≤ v) = False := by simp; omega
    rw [decide_eq_false h0]
    clear h0
    go_enter Try.func31, Try.ntmps31
    go_wp2
    go_ret
    exact ⟨rfl, rfl⟩
set_option maxHeartbeats 4000000 in
set_option maxRecDepth 100000 in
theorem visit_any {C : RcC} {w0 : World} (G : GeoR C w0) : ∀ (f : Nat) (v : Int) (d : Nat) (seen : List Bool) (W : World), EnvR C w0 seen W → unS seen < f → d + f ≤ 4096 →
    Calls Try.prog 33 #[.int .i64 v, .int .i64 (d : Nat), .pointer (some ⟨C.Bg, 0, none⟩), .pointer (some ⟨C.Bs, 0, none⟩), .pointer (some ⟨C.Bl, 0, none⟩), .pointer (some ⟨C.Bv, 0, none⟩)] W fun e W' => (∃ z, e = .returned z) ∧ EnvR C w0 (dfsF C.RL C.n f seen v) W'
  | 0, _, _, _, _, _, h, _ => absurd h (by omega)
  | f + 1, v, d, seen, W, E, hu, hd => by
    have CI : Hid (∀ x seen W, EnvR C w0 seen W → unS seen < f → Calls Try.prog 33 #[.int .i64 x, .int .i64 ((d : Int) + 1), .pointer (some ⟨C.Bg, 0, none⟩), .pointer (some ⟨C.Bs, 0, none⟩), .pointer (some ⟨C.Bl, 0, none⟩), .pointer (some ⟨C.Bv, 0, none⟩)] W fun e W' => (∃ z, e = .returned z) ∧ EnvR C w0 (dfsF C.RL C.n f seen x) W') := fun x seen W h1 h2 => by
      have h := visit_any G f x (d + 1) seen W h1 h2 (by omega)
      rw [show ((d + 1 : Nat) : Int) = (d : Int) + 1 from rfl] at h
      exact h
    have HG := Lib.hid G
    have hn := G.hn
    have CV := Lib.hid (isv_any C.gA C.n C.gc v W)
    have q0 := E.bg
    have q1 := E.bs
    have q2 := E.bl
    have q3 := E.bv
    have HE := Lib.hid E
    by_cases hv : 0 ≤ v ∧ v < C.n
    · obtain ⟨i, rfl⟩ : ∃ i : Nat, v = i := ⟨v.toNat, by omega⟩
      have hi : i < C.n := by omega
      have q4 := E.at hi
      rw [show inR (i : Int) (C.n : Int) = true from inR_iff.2 hv] at CV
      cases hb : atT seen i
      · rw [hb] at q4
        have hst := un_set (S := seen) (i := i) (by rw [E.len]; exact hi) hb
        have e1 : dfsF C.RL C.n (f + 1) seen (i : Int) = dfsL C.RL C.n f (seen.set i true) (C.RL i) := dfs_hit hi hb
        have E1 := Lib.hid (E.set G i)
        have q5 := E1.out.bg
        have q6 := E1.out.bv
        obtain ⟨b, off, eA, q7⟩ := E1.out.row G hi
        have R1 : Hid (∀ seen W, EnvR C w0 seen W → ReadsV W (C.RA i) (C.RL i)) := fun seen W h => h.rd G hi
        have hfz := E.sb.frozenAt i
        have hll := G.ll i hi
        have he0 : dfsL C.RL C.n f (seen.set i true) ((C.RL i).take 0) = seen.set i true := rfl
        have HU : Hid (∀ k, unS (dfsL C.RL C.n f (seen.set i true) ((C.RL i).take k)) < f) := fun k => by
          have := dfsL_un C.RL C.n f (seen.set i true) ((C.RL i).take k) (by rw [List.length_set]; exact E.len)
          omega
        have HST := Lib.hid (fun k (h : k < (C.RL i).length) => dfsL_step (R := C.RL) (n := C.n) (f := f) (S := seen.set i true) h)
        have HALL : Hid (dfsL C.RL C.n f (seen.set i true) ((C.RL i).take (C.RL i).length) = dfsL C.RL C.n f (seen.set i true) (C.RL i)) := by show _ = _; rw [List.take_length]
        rw [eA] at CV q0 q5
        clear eA
        rw [e1]
        clear e1 hst hb hu hv E
        have E10 : Hid (EnvR C w0 (dfsL C.RL C.n f (seen.set i true) ((C.RL i).take 0)) (W.setCell ⟨C.S, i, none⟩ (.bool true))) := by show EnvR _ _ _ _; rw [he0]; exact E1.out
        generalize dfsL C.RL C.n f (seen.set i true) (C.RL i) = RES at *
        obtain ⟨St, hSt⟩ : ∃ St : Nat → List Bool, St = fun k => dfsL C.RL C.n f (seen.set i true) ((C.RL i).take k) := ⟨_, rfl⟩
        have hSk : ∀ k, dfsL C.RL C.n f (seen.set i true) ((C.RL i).take k) = St k := fun k => by rw [hSt]
        simp only [hSk] at HU HST HALL E10
        clear hSk hSt he0 E1
        generalize C.RA i = ra at *
        generalize C.RL i = rl at *
        generalize C.RK i = rk at *
        have hd1 : d < 4096 := by omega
        have ed : ((d : Int) == 4096) = false := by simp; omega
        go_enter Try.func33, Try.ntmps33
        go_wp2_with fail
        refine CV.out.mono ?_
        rintro e W1 ⟨rfl, rfl⟩
        go_wp2
        go_loopg [34] rl.length (fun gg q wr => ∃ k : Nat, gg = rl.length - k ∧ k ≤ rl.length ∧ q = .int .i64 k ∧ Hid (EnvR C w0 (St k) wr))
        case atStart => exact ⟨0, rfl, Nat.zero_le _, rfl, E10.out⟩
        case round =>
          obtain ⟨k, hgg, hk, rfl, EK⟩ := hrel
          by_cases hkl : k < rl.length
          · obtain ⟨b2, o2, rfl, h2⟩ := at_of_reads (R1.out _ _ EK.out) k hkl
            have hs := HST.out k hkl
            have hu := HU.out k
            have CC := CI.out (at0 rl k) _ _ EK.out hu
            rw [← hs] at CC
            replace CC := Lib.hid CC
            have p6 := EK.out.bv
            unfold RcC.fn at p6
            clear hs
            generalize at0 rl k = x at *
            go_wp2_with fail
            refine CC.out.mono ?_
            rintro e w3 ⟨⟨z, rfl⟩, E3⟩
            have E3 := Lib.hid E3
            go_wp2
            go_roundg (rl.length - (k + 1))
            case rel => exact ⟨k + 1, rfl, by omega, by go_num, E3.out⟩
            case measure => omega
          · obtain rfl : k = rl.length := by omega
            have EF : Hid (EnvR C w0 RES wr) := by
              show EnvR _ _ _ _
              rw [← HALL.out]
              exact EK.out
            go_wp2
            go_end0
            exact ⟨⟨_, rfl⟩, EF.out⟩
      · rw [hb] at q4
        rw [dfs_seen hb]
        clear hb hv
        go_enter Try.func33, Try.ntmps33
        go_wp2_with fail
        refine CV.out.mono ?_
        rintro e W1 ⟨rfl, rfl⟩
        go_wp2
        try simp only [Exit.inBlock, Exit.then]
        refine bodyPost_ret (results_none rfl _ _ _) rfl ?_
        exact ⟨⟨_, rfl⟩, HE.out⟩
    · rw [dfs_no hv]
      have hz : inR v C.n = false := by
        cases h : inR v C.n
        · rfl
        · exact absurd (inR_iff.1 h) hv
      rw [hz] at CV
      clear hv hz
      go_enter Try.func33, Try.ntmps33
      go_wp2_with fail
      refine CV.out.mono ?_
      rintro e W1 ⟨rfl, rfl⟩
      go_wp2
      try simp only [Exit.inBlock, Exit.then]
      refine bodyPost_ret (results_none rfl _ _ _) rfl ?_
      exact ⟨⟨_, rfl⟩, HE.out⟩
end Go.Proofs.Ytdfljeonoallfaa
