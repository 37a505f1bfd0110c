/- Event logs: the law Mirrors. -/
import Derived.Test.YtgjgohnomophnaaDoorMM
namespace Go.Proofs.YtgjgohnomophnaaDoor
open Go.RowKit

theorem RowsC.below {w w' : World} {A : Option Addr} {L : List Row} {c B : Nat} (h : RowsC w A L c) (hb : Below B w w') (hB : w.heap.size ≤ B) : RowsC w' A L c where
  nz := h.nz
  len := h.len
  cells := h.cells.below hb hB
  rows := fun r hr => ⟨(h.rows r hr).1.below hb hB, (h.rows r hr).2⟩
theorem add_in {s f : Nat} (h : s + f ≤ 400) : IntKind.i64.wrap ((s : Int) + (f : Int)) = ((s + f : Nat) : Int) := by
  rw [IntKind.wrap_i64]; omega
theorem max_none : max (0 : Int) (-1) = 0 := rfl
theorem max_some (m : Nat) : max (0 : Int) (m : Int) = m := Int.max_eq_right (by omega)
set_option maxHeartbeats 4000000 in
set_option maxRecDepth 100000 in
theorem mirrors_log (A : Option Addr) (L : List Row) (c : Nat) (w : World) (hW : RowsC w A L c) (LR : LogR w A L) :
    Calls Tryd.prog 8 #[.slice A L.length c] w fun e w' => e = .returned (.bool true) ∧ Below w.heap.size w w' := by
  have C0 := Lib.hid (acts_any A L c w LR)
  have CF := Lib.hid (fun W (h : Below w.heap.size w W) => few_c A L c W (hW.below h (Nat.le_refl _)))
  have CA := Lib.hid (fun W (h : Below w.heap.size w W) => (alive_any W).mono fun e w' k => (⟨k.1, h.trans (k.2.mono h.size)⟩ : e = .returned (.bool true) ∧ Below w.heap.size w w'))
  have HR : Hid (FewP L → FewP L ∧ ∀ W, Below w.heap.size w W → ReadsL W A L) := fun h => ⟨h, fun W hb => (RowsC.reads hW h).1.below hb (Nat.le_refl _)⟩
  have HSUM := Lib.hid (mirrors_sum (rowsL L))
  generalize hFP : FewP L = FP at *
  replace hFP := Lib.hid hFP
  clear hW LR
  generalize hav : actV (rowsL L) = av at *
  have HAV := Lib.hid hav
  clear hav
  go_enter Tryd.func8, Tryd.ntmps8
  go_wp2_with fail
  refine C0.out.mono ?_
  rintro e w1 ⟨aA, ac, rfl, RA, K1⟩
  have B1 := Lib.hid K1
  have RA1 := Lib.hid RA
  clear K1 RA C0
  go_wp2_with fail
  refine (CF.out w1 B1.out).mono ?_
  rintro e w2 ⟨⟨fb, rfl, hfb⟩, rfl⟩
  cases fb
  · clear hfb HR CF HSUM
    go_wp2_with fail
    refine (CA.out w1 B1.out).mono ?_
    rintro e w2 ⟨rfl, K⟩
    have K := Lib.hid K
    go_wp2
    go_ret
    exact ⟨rfl, K.out⟩
  · obtain ⟨hf', R⟩ := HR.out (hfb rfl)
    have hf : FewP L := by rw [hFP.out]; exact hf'
    have hl := hf.1
    have C2 := ract_any A L c w1 (R w1 B1.out) hf
    rw [HAV.out] at C2
    replace C2 := Lib.hid C2
    have RL := Lib.hid R
    have HST : Hid (∀ j, j ≤ L.length → stepK (rowsL L) j ≤ 400) := fun j hj => by
      have h1 := stepK_le (rowsL L) j
      have h2 := totL_mono (rowsL L) hj
      have h3 := hf.2.2
      omega
    have HSS : Hid (∀ j, stepK (rowsL L) (j + 1) = stepK (rowsL L) j + ((rA L j).zs.length - 1)) := fun j => by
      show _ = _
      rw [stepK, rows_at]
    have HXL : Hid (∀ j, j < L.length → (rA L j).zs.length ≤ 80) := fun j hj => (hf.2.1 j hj).1
    have HN : Hid (stepK (rowsL L) (rowsL L).length = stepK (rowsL L) L.length) := by show _ = _; rw [rowsL_len]
    have CFO : Hid (∀ W a b, Below w.heap.size w W → Calls Tryd.prog 30 #[.slice A L.length c, .string ⟨a.toArray⟩, .string ⟨b.toArray⟩] W fun e w' => e = .returned (.int .i64 (folV (rowsL L) a b : Nat)) ∧ W = w') := fun W a b hb => follows_any A L c a b W (R W hb) (by omega)
    have CRE : Hid (∀ W a b, Below w.heap.size w W → Calls Tryd.prog 32 #[.slice A L.length c, .string ⟨a.toArray⟩, .string ⟨b.toArray⟩] W fun e w' => e = .returned (.int .i64 (relV (folV (rowsL L) a b) (folV (rowsL L) b a))) ∧ W = w') := fun W a b hb => relation_any A L c a b W (R W hb) (by omega)
    clear hfb HR CF R hf hf' HAV
    by_cases h12 : 12 < av.length
    · have ea : ((12 : Int) < (av.length : Int)) = True := by simp; omega
      clear HSUM CFO CRE h12
      go_wp2_with fail
      refine C2.out.mono ?_
      rintro e w2 ⟨A2, c2, rfl, -, K2⟩
      have B2 := Lib.hid (B1.out.trans (K2.mono B1.out.size))
      clear K2
      go_wp2_with fail
      refine (CA.out w2 B2.out).mono ?_
      rintro e w3 ⟨rfl, K⟩
      have K := Lib.hid K
      go_wp2
      go_ret
      exact ⟨rfl, K.out⟩
    · have ea : ((12 : Int) < (av.length : Int)) = False := by simp; omega
      go_wp2_with fail
      refine C2.out.mono ?_
      rintro e w2 ⟨A2, c2, rfl, -, K2⟩
      have B2 := Lib.hid (B1.out.trans (K2.mono B1.out.size))
      have RA2 : Hid (∀ W, Below w2.heap.size w2 W → ReadsS W aA av) := fun W h => (RA1.out.below K2 (Nat.le_refl _)).below h (Nat.le_refl _)
      clear K2 C2 RA1 B1
      have hn : av.length ≤ 12 := by omega
      go_wp2
      go_loopg [5, 6] L.length (fun gg p q wr => ∃ j z : Nat, gg = L.length - j ∧ j ≤ L.length ∧ p = .int .i64 z ∧ q = .int .i64 j ∧ Hid (z = stepK (rowsL L) j) ∧ w2 = wr)
      case atStart => exact ⟨0, 0, rfl, Nat.zero_le _, rfl, rfl, rfl, rfl⟩
      case round =>
        obtain ⟨j, z, hgg, hj, rfl, rfl, hz, rfl⟩ := hrel
        by_cases hlt : j < L.length
        · obtain ⟨bo, oo, rfl, hx1⟩ := (RL.out w2 B2.out).1.at j hlt
          have hs := HSS.out j
          have hb1 := HST.out (j + 1) (by omega)
          have hxl := HXL.out j hlt
          have hz' := hz.out
          generalize rA L j = r at *
          obtain ⟨xA, xs, xc⟩ := r
          dsimp only at *
          have hz2 : Hid (z + (xs.length - 1) = stepK (rowsL L) (j + 1)) := by show _ = _; omega
          have hb2 : z + (xs.length - 1) ≤ 400 := by omega
          clear hs hb1 hz' hz
          generalize xs.length = m at *
          by_cases hm : m = 0
          · subst hm
            go_wp2
            go_roundg (L.length - (j + 1))
            case rel => exact ⟨j + 1, z, rfl, by omega, by go_num, by go_num, hz2.out, rfl⟩
            case measure => omega
          · obtain ⟨m', rfl⟩ : ∃ m', m = m' + 1 := ⟨m - 1, by omega⟩
            go_wp2
            go_roundg (L.length - (j + 1))
            case rel => exact ⟨j + 1, z + m', rfl, by omega, by go_num, by go_num, hz2.out, rfl⟩
            case measure => omega
        · obtain rfl : j = L.length := by omega
          have hz400 : z ≤ 400 := by have h1 := hz.out; have h2 := HST.out L.length (Nat.le_refl _); omega
          have HTOT : Hid (psum (fun i => psum (fun k => folV (rowsL L) (atS av i) (atS av k)) av.length) av.length = z) := by
            show _ = _
            rw [hz.out, ← HN.out]
            exact HSUM.out
          clear hz HSUM HST HSS HXL HN RL hgg hlt hj
          have HPS : Hid (∀ i, psum (fun i => psum (fun k => folV (rowsL L) (atS av i) (atS av k)) av.length) (i + 1) = psum (fun i => psum (fun k => folV (rowsL L) (atS av i) (atS av k)) av.length) i + psum (fun k => folV (rowsL L) (atS av i) (atS av k)) av.length) := fun i => rfl
          have HPI : Hid (∀ i k, psum (fun k => folV (rowsL L) (atS av i) (atS av k)) (k + 1) = psum (fun k => folV (rowsL L) (atS av i) (atS av k)) k + folV (rowsL L) (atS av i) (atS av k)) := fun i k => rfl
          have HPM : Hid (∀ i, i ≤ av.length → psum (fun i => psum (fun k => folV (rowsL L) (atS av i) (atS av k)) av.length) i ≤ z) := fun i hi => by
            rw [← HTOT.out]
            exact psum_mono _ hi
          have HPN : Hid (∀ i k, k ≤ av.length → psum (fun k => folV (rowsL L) (atS av i) (atS av k)) k ≤ psum (fun k => folV (rowsL L) (atS av i) (atS av k)) av.length) := fun i k hk => psum_mono _ hk
          have HP0 : Hid (∀ i, psum (fun k => folV (rowsL L) (atS av i) (atS av k)) 0 = 0) := fun i => rfl
          have HP00 : Hid (psum (fun i => psum (fun k => folV (rowsL L) (atS av i) (atS av k)) av.length) 0 = 0) := rfl
          generalize psum (fun i => psum (fun k => folV (rowsL L) (atS av i) (atS av k)) av.length) = OS at *
          generalize hIS : (fun i => psum (fun k => folV (rowsL L) (atS av i) (atS av k))) = IS at *
          have HISe : ∀ i, psum (fun k => folV (rowsL L) (atS av i) (atS av k)) = IS i := fun i => by rw [← hIS]
          simp only [HISe] at HPS HPI HPN HP0
          clear hIS HISe
          generalize hnn : av.length = n at *
          have HNN := Lib.hid hnn
          clear hnn
          go_wp2
          go_loopg [4, 7] n (fun gg p q wr => ∃ i s : Nat, gg = n - i ∧ i ≤ n ∧ p = .int .i64 s ∧ q = .int .i64 i ∧ Hid (s = OS i) ∧ Hid (Below w2.heap.size w2 wr))
          case atStart => exact ⟨0, 0, rfl, Nat.zero_le _, rfl, rfl, HP00.out.symm, Below.refl _ _⟩
          case round =>
            obtain ⟨i, s, hgg, hi, rfl, rfl, hs, BW⟩ := hrel
            by_cases hlt : i < n
            · obtain ⟨bo, oo, rfl, hx1⟩ := at_of_reads (RA2.out wr BW.out) i (by rw [HNN.out]; exact hlt)
              clear hx1
              obtain ⟨wo, rfl⟩ : ∃ wo, wo = wr := ⟨_, rfl⟩
              have hC : Hid (∀ W, Below w2.heap.size w2 W → ∀ k, k < n → W.cell? ⟨bo, oo + k, none⟩ = some (.string ⟨(atS av k).toArray⟩)) := fun W hW k hk => by
                obtain ⟨b', o', e', h'⟩ := at_of_reads (RA2.out W hW) k (by rw [HNN.out]; exact hk)
                injection e' with e'
                injection e' with e1 e2
                rw [e1, e2]; exact h'
              go_wp2
              go_loopg [4, 8] n (fun gg p q wr => ∃ k s : Nat, gg = n - k ∧ k ≤ n ∧ p = .int .i64 s ∧ q = .int .i64 k ∧ Hid (s = OS i + IS i k) ∧ Hid (Below w2.heap.size w2 wr))
              case atStart => exact ⟨0, s, rfl, Nat.zero_le _, rfl, rfl, by show _ = _; rw [HP0.out, Nat.add_zero]; exact hs.out, BW.out⟩
              case round =>
                obtain ⟨k, s1, hgk, hk, rfl, rfl, hs1, B1⟩ := hrel
                by_cases hkl : k < n
                · have q0 := hC.out wr B1.out i hlt
                  have q1 := hC.out wr B1.out k hkl
                  have hy := rel_pair (folV (rowsL L) (atS av i) (atS av k)) (folV (rowsL L) (atS av k) (atS av i))
                  have CF1 : Hid (∀ W, Below w2.heap.size w2 W → Calls Tryd.prog 30 #[.slice A L.length c, .string ⟨(atS av i).toArray⟩, .string ⟨(atS av k).toArray⟩] W fun e w' => e = .returned (.int .i64 (folV (rowsL L) (atS av i) (atS av k) : Nat)) ∧ W = w') := fun W hW => CFO.out W _ _ (B2.out.trans (hW.mono B2.out.size))
                  obtain ⟨rl, hrl⟩ : ∃ rl : Txt → Txt → Int, rl = fun a b => relV (folV (rowsL L) a b) (folV (rowsL L) b a) := ⟨_, rfl⟩
                  have CR : Hid (∀ W a b, Below w2.heap.size w2 W → Calls Tryd.prog 32 #[.slice A L.length c, .string ⟨a.toArray⟩, .string ⟨b.toArray⟩] W fun e w' => e = .returned (.int .i64 (rl a b)) ∧ W = w') := fun W a b hW => by
                    rw [hrl]
                    exact CRE.out W a b (B2.out.trans (hW.mono B2.out.size))
                  have hy2 : (rl (atS av i) (atS av k) = 3 ∧ rl (atS av k) (atS av i) = 3) ∨ (rl (atS av i) (atS av k) = 1 ∧ rl (atS av k) (atS av i) = 2) ∨ (rl (atS av i) (atS av k) = 2 ∧ rl (atS av k) (atS av i) = 1) ∨ (rl (atS av i) (atS av k) = 0 ∧ rl (atS av k) (atS av i) = 0) := by
                    rw [hrl]; exact hy
                  clear hrl hy
                  have hst := HPI.out i k
                  have hb1 := HPN.out i (k + 1) (by omega)
                  have hb2 := HPM.out (i + 1) (by omega)
                  have hb3 := HPS.out i
                  have hs1' := hs1.out
                  generalize folV (rowsL L) (atS av i) (atS av k) = f at *
                  have hs2 : Hid (s1 + f = OS i + IS i (k + 1)) := by show _ = _; omega
                  have hb4 : s1 + f ≤ 400 := by omega
                  clear hst hb1 hb2 hb3 hs1' hs1
                  generalize atS av i = y at *
                  generalize atS av k = y' at *
                  have HY := Lib.hid hy2
                  clear hy2
                  go_wp2_with fail
                  go_region_held3 (fun w' => w'.cell? ⟨bo, oo + i, none⟩ = some (.string ⟨y.toArray⟩) ∧ w'.cell? ⟨bo, oo + k, none⟩ = some (.string ⟨y'.toArray⟩) ∧ Hid (Below w2.heap.size w2 w'))
                    (first
                      | exact ⟨q0, q1, B1.out.drew⟩
                      | go_keep)
                    ((go_at_call 30; go_split_ands; refine (CF1.out _ (Hid.out (by assumption))).mono ?_; rintro _ _ ⟨rfl, rfl⟩))
                  rename_i hHeld
                  obtain ⟨p0, p1, BD⟩ := hHeld
                  clear CF1 q0 q1 B1
                  go_wp2_with fail
                  go_region_held3 (fun w' => w'.cell? ⟨bo, oo + i, none⟩ = some (.string ⟨y.toArray⟩) ∧ w'.cell? ⟨bo, oo + k, none⟩ = some (.string ⟨y'.toArray⟩) ∧ Hid (Below w2.heap.size w2 w'))
                    (first
                      | exact ⟨p0, p1, BD.out.drew⟩
                      | go_keep)
                    ((go_at_call 32; go_split_ands; refine (CR.out _ _ _ (Hid.out (by assumption))).mono ?_; rintro _ _ ⟨rfl, rfl⟩))
                  rename_i hHeld
                  obtain ⟨-, -, BE⟩ := hHeld
                  clear CR p0 p1 BD
                  have hy := HY.out
                  clear HY
                  generalize rl y y' = r1 at *
                  generalize rl y' y = r2 at *
                  rcases hy with ⟨rfl, rfl⟩ | ⟨rfl, rfl⟩ | ⟨rfl, rfl⟩ | ⟨rfl, rfl⟩
                  all_goals
                    go_wp2
                    go_roundg (n - (k + 1))
                    case rel => exact ⟨k + 1, s1 + f, rfl, by omega, congrArg (Value.int .i64) (add_in hb4), by go_num, hs2.out, BE⟩
                    case measure => omega
                · obtain rfl : k = n := by omega
                  have hs3 : Hid (s1 = OS (i + 1)) := by show _ = _; rw [HPS.out]; exact hs1.out
                  clear hs1 hs
                  go_wp2
                  go_roundg (k - (i + 1))
                  case rel => exact ⟨i + 1, s1, rfl, by omega, rfl, by go_num, hs3.out, B1.out⟩
                  case measure => omega
            · obtain rfl : i = n := by omega
              obtain rfl : s = z := hs.out.trans HTOT.out
              have BZ := Lib.hid (B2.out.trans (BW.out.mono B2.out.size))
              go_wp2_with fail
              refine (CA.out wr BZ.out).mono ?_
              rintro e w3 ⟨rfl, K⟩
              have K := Lib.hid K
              go_wp2
              go_ret
              exact ⟨rfl, K.out⟩
end Go.Proofs.YtgjgohnomophnaaDoor
