/- Event logs: the law Back. -/
import Derived.Test.YtgjgohnomophnaaDoorBL
import Derived.Test.YtgjgohnomophnaaDoorPC
namespace Go.Proofs.YtgjgohnomophnaaDoor
open Go.RowKit

set_option maxHeartbeats 4000000 in
set_option maxRecDepth 100000 in
theorem back_log (A : Option Addr) (L : List Row) (c : Nat) (m : Int) (w : World) (hW : RowsC w A L c) :
    Calls Tryd.prog 7 #[.slice A L.length c, .int .i64 m] w fun e w' => e = .returned (.bool true) ∧ Below w.heap.size w w' := by
  have CF := Lib.hid (few_c A L c w hW)
  have CA := Lib.hid (fun W (h : Below w.heap.size w W) => (alive_any W).mono fun e w' k => (⟨k.1, h.trans (k.2.mono h.size)⟩ : e = .returned (.bool true) ∧ Below w.heap.size w w'))
  have Z : Hid (Below w.heap.size w w) := Below.refl _ _
  have HR : Hid (FewP L → FewP L ∧ ReadsL w A L ∧ ∀ j, j < L.length → (rA L j).zs.length ≤ (rA L j).cap) := fun h => ⟨h, (RowsC.reads hW h).1, fun j hj => (hW.rows _ (rA_mem hj)).2.2⟩
  generalize hFP : FewP L = FP at *
  replace hFP := Lib.hid hFP
  clear hW
  go_enter Tryd.func7, Tryd.ntmps7
  go_wp2_with fail
  refine CF.out.mono ?_
  rintro e w1 ⟨⟨fb, rfl, hfb⟩, rfl⟩
  cases fb
  · clear hfb HR CF
    go_wp2_with fail
    refine (CA.out w Z.out).mono ?_
    rintro e w1 ⟨rfl, K⟩
    have K := Lib.hid K
    go_wp2
    go_ret
    exact ⟨rfl, K.out⟩
  · obtain ⟨hf', R, hcap⟩ := HR.out (hfb rfl)
    have hf : FewP L := by rw [hFP.out]; exact hf'
    by_cases h0 : m < 0
    · have ea : (m < (0 : Int)) = True := by simp; omega
      clear hfb HR CF R hcap hf hf' h0
      go_wp2_with fail
      refine (CA.out w Z.out).mono ?_
      rintro e w1 ⟨rfl, K⟩
      have K := Lib.hid K
      go_wp2
      go_ret
      exact ⟨rfl, K.out⟩
    · by_cases h5 : 5 < m
      · have ea : (m < (0 : Int)) = False := by simp; omega
        have eb : ((5 : Int) < m) = True := by simp; omega
        clear hfb HR CF R hcap hf hf' h0 h5
        go_wp2_with fail
        refine (CA.out w Z.out).mono ?_
        rintro e w1 ⟨rfl, K⟩
        have K := Lib.hid K
        go_wp2
        go_ret
        exact ⟨rfl, K.out⟩
      · obtain ⟨M, rfl⟩ : ∃ M : Nat, m = M := ⟨m.toNat, by omega⟩
        have hM : M ≤ 5 := by omega
        have ea : ((M : Int) < (0 : Int)) = False := by simp
        have eb : ((5 : Int) < (M : Int)) = False := by simp; omega
        have hl := hf.1
        have C1 := Lib.hid (variants_any A L c w R hf)
        have C2 := Lib.hid (fun W (h : Below w.heap.size w W) => text_log A L c W (R.below h (Nat.le_refl _)) hf hcap)
        have C6 := Lib.hid (fun W (h : Below w.heap.size w W) => rcheck_log A L c W (R.below h (Nat.le_refl _)) (by have := hf.1; omega) (fun j i _ _ => Nat.le_trans (hf.str j i) (by decide)))
        have RX := Lib.hid (fun W (h : Below w.heap.size w W) => R.below h (Nat.le_refl _))
        have HK := Lib.hid (@back_ok L hf)
        have HB := Lib.hid (@back_bad L)
        have HN : Hid ((rowsL L).length = L.length) := rowsL_len L
        have HSUM : Hid (preN (cnK (rowsL L) (vsK (rowsL L) (rowsL L).length) (rowsL L).length) (vsK (rowsL L) (rowsL L).length).length = L.length) := by
          show _ = _
          have h := preN_all (cnK (rowsL L) (vsK (rowsL L) (rowsL L).length) (rowsL L).length)
          rw [cn_len] at h
          rw [h, cn_sum, rowsL_len]
        have HPL : Hid (∀ j, preN (cnK (rowsL L) (vsK (rowsL L) (rowsL L).length) (rowsL L).length) j ≤ L.length) := fun j => by
          have := preN_le (cnK (rowsL L) (vsK (rowsL L) (rowsL L).length) (rowsL L).length) j
          rw [cn_sum] at this
          exact Nat.le_trans this (Nat.le_of_eq (rowsL_len L))
        have HCL := Lib.hid (cnI_len (rowsL L) (vsK (rowsL L) (rowsL L).length) (rowsL L).length)
        have hn80 : (vsK (rowsL L) (rowsL L).length).length ≤ 80 := by
          have := vs_len (rowsL L) (rowsL L).length
          rw [rowsL_len] at this ⊢
          omega
        clear hfb HR CF R hcap hf hf' h0 h5
        unfold VarPost at C1
        generalize textV (rowsL L) = tv at *
        generalize chkL (rowsL L) = ck at *
        generalize hcs : cnK (rowsL L) (vsK (rowsL L) (rowsL L).length) (rowsL L).length = ns at *
        have hci : cnI (rowsL L) (vsK (rowsL L) (rowsL L).length) (rowsL L).length = ns.map Int.ofNat := by unfold cnI; rw [hcs]
        rw [hci] at C1 HCL
        generalize (vsK (rowsL L) (rowsL L).length).length = n at *
        have hnl : ns.length = n := by have := HCL.out; rw [List.length_map] at this; exact this
        clear hcs hci HCL
        go_wp2_with fail
        refine C1.out.mono ?_
        rintro e w1 ⟨v, u, L', rfl, -, -, o1, k1⟩
        obtain ⟨cA, cc, rfl, RI⟩ := ReadsI.own o1
        have B1 := Lib.hid k1
        have RI := Lib.hid RI
        clear k1 o1 C1
        have hcl : (ns.map Int.ofNat).length = n := by rw [List.length_map]; exact hnl
        rw [hcl]
        go_wp2
        go_loopg [7, 8] n (fun gg p q wr => ∃ j z : Nat, gg = n - j ∧ j ≤ n ∧ p = .int .i64 z ∧ q = .int .i64 j ∧ Hid (z = preN ns j) ∧ w1 = wr)
        case atStart => exact ⟨0, 0, rfl, Nat.zero_le _, rfl, rfl, rfl, rfl⟩
        case round =>
          obtain ⟨j, z, hgg, hj, rfl, rfl, hz, rfl⟩ := hrel
          by_cases hlt : j < n
          · obtain ⟨b, off, rfl, h1⟩ := atI_of_reads RI.out j (by omega)
            rw [at0_nat] at h1
            have hs := Lib.hid (preN_step (ns := ns) (j := j) (by omega))
            have hb1 := HPL.out (j + 1)
            have hb2 : z + ns[j]?.getD 0 ≤ 80 := by have := hs.out; have := hz.out; omega
            have hz2 : Hid (z + ns[j]?.getD 0 = preN ns (j + 1)) := by have := hs.out; have := hz.out; show _ = _; omega
            clear hz hs hb1
            generalize ns[j]?.getD 0 = y at *
            go_wp2
            go_roundg (n - (j + 1))
            case rel => exact ⟨j + 1, z + y, rfl, by omega, by go_num, by go_num, hz2, rfl⟩
            case measure => omega
          · obtain rfl : j = n := by omega
            obtain rfl : z = L.length := hz.out.trans HSUM.out
            clear hz HSUM HPL RI
            go_wp2_with fail
            refine (C2.out w1 B1.out).mono ?_
            rintro e w2 ⟨rfl, k2⟩
            have B2 := Lib.hid (B1.out.trans (k2.mono B1.out.size))
            clear k2 B1
            obtain ⟨E, K⟩ := ck
            dsimp only at *
            by_cases hE : E = 0
            · obtain ⟨s, rfl, hs, hp1, hp2⟩ := HK.out hE
              have hp2' := hp2 M hM
              clear HK HB hp2 C2 C6
              have HSL := Lib.hid (fun i => spT_len M (s.take i))
              dsimp only
              unfold flt
              obtain ⟨w3, hw3⟩ : ∃ w3, w3 = w2.alloc (.cells #[.int .i64 0, .int .i64 0] 27) := ⟨_, rfl⟩
              have B3 : Hid (Below w.heap.size w w3) := by show Below _ _ _; rw [hw3]; exact B2.out.alloc B2.out.size _
              have HW3 := Lib.hid hw3
              clear hw3
              go_wp2_with fail
              rw [← HW3.out]
              go_loopg [11, 12] s.length (fun gg p q wr => ∃ i : Nat, gg = s.length - i ∧ i ≤ s.length ∧ p = .string ⟨(spT M (s.take i)).toArray⟩ ∧ q = .int .i64 i ∧ w3 = wr)
              case atStart => exact ⟨0, rfl, Nat.zero_le _, rfl, rfl, rfl⟩
              case round =>
                obtain ⟨i, hgg, hi, rfl, rfl, rfl⟩ := hrel
                by_cases hlt : i < s.length
                · have HStep0 := Lib.hid (spT_step M hlt)
                  have hXL : (spT M (s.take i)).length ≤ 6 * 7000 := by
                    have h1 := HSL.out i
                    have h2 : (s.take i).length ≤ s.length := List.length_take_le' _ _
                    have h3 : (M + 1) * (s.take i).length ≤ 6 * 7000 := Nat.mul_le_mul (by omega) (by omega)
                    omega
                  have HE : Hid ((⟨s.toArray⟩ : ByteArray).extract i (i + 1) = ⟨[atB s i].toArray⟩) := ext_one hlt
                  have hbx : ((⟨s.toArray⟩ : ByteArray)[i]'hlt) = atB s i := by
                    show s[i] = _
                    unfold atB
                    rw [List.getElem?_eq_getElem hlt]
                    rfl
                  generalize spT M (s.take i) = X at *
                  generalize atB s i = b at *
                  have HC := Lib.hid (cat_bytes X [b])
                  by_cases hb : b = 32
                  · have HStep : Hid (spT M (s.take (i + 1)) = X ++ List.replicate (M + 1) b) := by
                      show _ = _
                      rw [HStep0.out, spB_rep b (by simp [hb])]
                    have e2 : ((((⟨s.toArray⟩ : ByteArray)[i]'hlt).toNat : Int) == 32) = true := by rw [hbx, hb]; rfl
                    clear hb hbx HStep0
                    go_wp2
                    all_goals first
                      | (exfalso; simp at *; omega)
                      | skip
                    go_loopg [11, 13] M (fun gg p q wr => ∃ k : Nat, gg = M - k ∧ k ≤ M ∧ p = .string ⟨(X ++ List.replicate (k + 1) b).toArray⟩ ∧ q = .int .i64 k ∧ w3 = wr)
                    case atStart => exact ⟨0, rfl, Nat.zero_le _, by rw [HE.out]; exact congrArg Value.string HC.out, rfl, rfl⟩
                    case round =>
                      obtain ⟨k, hgg, hk, rfl, rfl, rfl⟩ := hrel
                      have HC2 := Lib.hid (cat_bytes (X ++ List.replicate (k + 1) b) [b])
                      have HR2 : Hid ((X ++ List.replicate (k + 1) b) ++ [b] = X ++ List.replicate (k + 1 + 1) b) := by
                        show _ = _
                        rw [List.append_assoc, ← List.replicate_succ']
                      have hxk : (X ++ List.replicate (k + 1) b).length + 1 ≤ 70000 := by rw [List.length_append, List.length_replicate]; omega
                      by_cases hkl : k < M
                      · have ek : ((k : Int) < (M : Int)) = True := by simp; omega
                        generalize X ++ List.replicate (k + 1) b = Y at *
                        go_wp2
                        all_goals first
                          | (exfalso; simp at *; omega)
                          | skip
                        go_roundg (M - (k + 1))
                        case rel => exact ⟨k + 1, rfl, by omega, by rw [HE.out, ← HR2.out]; exact congrArg Value.string HC2.out, by go_num, rfl⟩
                        case measure => omega
                      · obtain rfl : k = M := by omega
                        have ek : ((k : Int) < (k : Int)) = False := by simp
                        have HF : Hid (X ++ List.replicate (k + 1) b = spT k (s.take (i + 1))) := HStep.out.symm
                        clear HR2 HC2
                        rw [HF.out]
                        go_wp2
                        go_roundg (s.length - (i + 1))
                        case rel => exact ⟨i + 1, rfl, by omega, rfl, by go_num, rfl⟩
                        case measure => omega
                  · by_cases hb10 : b = 10
                    · have HStep : Hid (spT M (s.take (i + 1)) = X ++ List.replicate (M + 1) b) := by
                        show _ = _
                        rw [HStep0.out, spB_rep b (by simp [hb10])]
                      have e2 : ((((⟨s.toArray⟩ : ByteArray)[i]'hlt).toNat : Int) == 32) = false := by rw [hbx, hb10]; rfl
                      have e3 : ((((⟨s.toArray⟩ : ByteArray)[i]'hlt).toNat : Int) == 10) = true := by rw [hbx, hb10]; rfl
                      clear hb hb10 hbx HStep0
                      go_wp2
                      all_goals first
                        | (exfalso; simp at *; omega)
                        | skip
                      go_loopg [11, 13] M (fun gg p q wr => ∃ k : Nat, gg = M - k ∧ k ≤ M ∧ p = .string ⟨(X ++ List.replicate (k + 1) b).toArray⟩ ∧ q = .int .i64 k ∧ w3 = wr)
                      case atStart => exact ⟨0, rfl, Nat.zero_le _, by rw [HE.out]; exact congrArg Value.string HC.out, rfl, rfl⟩
                      case round =>
                        obtain ⟨k, hgg, hk, rfl, rfl, rfl⟩ := hrel
                        have HC2 := Lib.hid (cat_bytes (X ++ List.replicate (k + 1) b) [b])
                        have HR2 : Hid ((X ++ List.replicate (k + 1) b) ++ [b] = X ++ List.replicate (k + 1 + 1) b) := by
                          show _ = _
                          rw [List.append_assoc, ← List.replicate_succ']
                        have hxk : (X ++ List.replicate (k + 1) b).length + 1 ≤ 70000 := by rw [List.length_append, List.length_replicate]; omega
                        by_cases hkl : k < M
                        · have ek : ((k : Int) < (M : Int)) = True := by simp; omega
                          generalize X ++ List.replicate (k + 1) b = Y at *
                          go_wp2
                          all_goals first
                            | (exfalso; simp at *; omega)
                            | skip
                          go_roundg (M - (k + 1))
                          case rel => exact ⟨k + 1, rfl, by omega, by rw [HE.out, ← HR2.out]; exact congrArg Value.string HC2.out, by go_num, rfl⟩
                          case measure => omega
                        · obtain rfl : k = M := by omega
                          have ek : ((k : Int) < (k : Int)) = False := by simp
                          have HF : Hid (X ++ List.replicate (k + 1) b = spT k (s.take (i + 1))) := HStep.out.symm
                          clear HR2 HC2
                          rw [HF.out]
                          go_wp2
                          go_roundg (s.length - (i + 1))
                          case rel => exact ⟨i + 1, rfl, by omega, rfl, by go_num, rfl⟩
                          case measure => omega
                    · have HStep : Hid (spT M (s.take (i + 1)) = X ++ [b]) := by
                        show _ = _
                        rw [HStep0.out, spB_one b (by simp [hb, hb10])]
                      have e2 : ((((⟨s.toArray⟩ : ByteArray)[i]'hlt).toNat : Int) == 32) = false := by
                        rw [hbx]
                        simp only [beq_eq_false_iff_ne, ne_eq]
                        intro h
                        exact hb (UInt8.toNat_inj.1 (by show b.toNat = 32; omega))
                      have e3 : ((((⟨s.toArray⟩ : ByteArray)[i]'hlt).toNat : Int) == 10) = false := by
                        rw [hbx]
                        simp only [beq_eq_false_iff_ne, ne_eq]
                        intro h
                        exact hb10 (UInt8.toNat_inj.1 (by show b.toNat = 10; omega))
                      clear hb hb10 hbx HStep0
                      go_wp2
                      all_goals first
                        | (exfalso; simp at *; omega)
                        | skip
                      go_loopg [11, 13] 0 (fun gg p q wr => gg = 0 ∧ p = .string ⟨(X ++ [b]).toArray⟩ ∧ q = .int .i64 0 ∧ w3 = wr)
                      case atStart => exact ⟨rfl, by rw [HE.out]; exact congrArg Value.string HC.out, rfl, rfl⟩
                      case round =>
                        obtain ⟨hgg, rfl, rfl, rfl⟩ := hrel
                        rw [← HStep.out]
                        by_cases hM0 : (0 : Int) < (M : Int)
                        · have ek : ((0 : Int) < (M : Int)) = True := by simpa using hM0
                          clear hM0
                          go_wp2
                          all_goals
                            go_roundg (s.length - (i + 1))
                            case rel => exact ⟨i + 1, rfl, by omega, rfl, by go_num, rfl⟩
                            case measure => omega
                        · have ek : ((0 : Int) < (M : Int)) = False := by simpa using hM0
                          clear hM0
                          go_wp2
                          all_goals
                            go_roundg (s.length - (i + 1))
                            case rel => exact ⟨i + 1, rfl, by omega, rfl, by go_num, rfl⟩
                            case measure => omega
                · obtain rfl : i = s.length := by omega
                  rw [List.take_length]
                  obtain ⟨hp3, hp4⟩ := hp2'
                  have CP1 : Hid (∀ W, Calls Tryd.prog 17 #[.string ⟨s.toArray⟩] W (PPost W.heap.size W (rowsL L, 0, 0))) := fun W => by rw [← hp1]; exact parse_any s W (by omega)
                  have CP2 : Hid (∀ W, Calls Tryd.prog 17 #[.string ⟨(spT M s).toArray⟩] W (PPost W.heap.size W (rowsL L, 0, 0))) := fun W => by rw [← hp3]; exact parse_any (spT M s) W (by omega)
                  clear hp1 hp3 hp4 HSL hs
                  generalize spT M s = t at *
                  clear hlt hi hgg
                  go_wp2_with fail
                  refine (CP1.out w3).mono ?_
                  rintro e w4 ⟨pA, pc, PL, rfl, hPL, pR, k4⟩
                  dsimp only
                  unfold flt
                  have hpl : PL.length = L.length := by rw [← rowsL_len PL, hPL, rowsL_len]
                  have B4 := Lib.hid (B3.out.trans (k4.mono B3.out.size))
                  obtain ⟨w5, hw5⟩ : ∃ w5, w5 = w4.alloc (.cells #[.int .i64 0, .int .i64 0] 27) := ⟨_, rfl⟩
                  have B5 : Hid (Below w.heap.size w w5) := by show Below _ _ _; rw [hw5]; exact B4.out.alloc B4.out.size _
                  have F5 : Hid (FBx w5 w4.heap.size 0 0) := by show FBx _ _ _ _; rw [hw5]; exact FBx.new w4 0 0
                  have R5 : Hid (ReadsL w5 pA PL) := by show ReadsL _ _ _; rw [hw5]; exact pR.below ((Below.refl w4.heap.size w4).alloc (Nat.le_refl _) _) (Nat.le_refl _)
                  have HW5 := Lib.hid hw5
                  clear hw5 pR
                  have HSR : Hid (sameR L PL = true) := by show _ = _; exact decide_eq_true hPL.symm
                  have CE1 := requal_any A pA L PL c pc w5 (RX.out w5 B5.out) (by omega) R5.out (by omega)
                  rw [hpl, HSR.out] at CE1
                  replace CE1 := Lib.hid CE1
                  go_wp2_with fail
                  rw [← HW5.out]
                  refine CE1.out.mono ?_
                  rintro e w6 ⟨rfl, k6⟩
                  have B6 := Lib.hid (B5.out.trans (k6.mono B5.out.size))
                  have F6 := F5.out.keep (KeepOn.of_below (fun _ => True) k6) trivial
                  clear k6 CE1 HSR R5 F5 HW5 CP1 hPL hpl
                  go_wp2_with fail
                  refine (CP2.out w6).mono ?_
                  rintro e w7 ⟨qA, qc, QL, rfl, hQL, qR, k7⟩
                  dsimp only
                  unfold flt
                  have hql : QL.length = L.length := by rw [← rowsL_len QL, hQL, rowsL_len]
                  have B7 := Lib.hid (B6.out.trans (k7.mono B6.out.size))
                  have F7 := F6.keep (KeepOn.of_below (fun _ => True) k7) trivial
                  have z0 := F7.c0
                  have z1 := F7.c1
                  have z2 := F7.fr 0
                  have z3 := F7.fr 1
                  clear F6 k7
                  have HSR : Hid (sameR L QL = true) := by show _ = _; exact decide_eq_true hQL.symm
                  go_wp2_with fail
                  rw [fbx_same F7]
                  have CE2 := requal_any A qA L QL c qc w7 (RX.out w7 B7.out) (by omega) qR (by omega)
                  rw [hql, HSR.out] at CE2
                  refine CE2.mono ?_
                  rintro e w8 ⟨rfl, k8⟩
                  have B8 := Lib.hid (B7.out.trans (k8.mono B7.out.size))
                  clear k8 CE2 HSR F7 qR z0 z1 z2 z3 hQL hql
                  go_wp2_with fail
                  refine (CA.out w8 B8.out).mono ?_
                  rintro e w9 ⟨rfl, K9⟩
                  have K9 := Lib.hid K9
                  go_wp2
                  go_ret
                  exact ⟨rfl, K9.out⟩
            · obtain rfl := HB.out hE
              clear HK HB C2
              dsimp only
              unfold flt
              obtain ⟨w3, hw3⟩ : ∃ w3, w3 = w2.alloc (.cells #[.int .i64 E, .int .i64 (K : Int)] 27) := ⟨_, rfl⟩
              have B3 : Hid (Below w.heap.size w w3) := by show Below _ _ _; rw [hw3]; exact B2.out.alloc B2.out.size _
              have F3 : FBx w3 w2.heap.size E (K : Int) := by rw [hw3]; exact FBx.new w2 E (K : Int)
              have q0 := F3.c0
              have q1 := F3.c1
              have HW3 := Lib.hid hw3
              clear hw3 F3
              have C7 : Hid (∀ W, Below w.heap.size w W → Calls Tryd.prog 16 #[.slice A L.length c] W fun e w' => e = .returned (.agg #[.int .i64 E, .int .i64 (K : Int)]) ∧ Below W.heap.size W w') := fun W h => C6.out W h
              clear C6
              go_wp2_with fail
              rw [← HW3.out]
              clear HW3
              go_region_held3 (fun w' => w'.cell? ⟨w2.heap.size, 0, none⟩ = some (.int .i64 E) ∧ w'.cell? ⟨w2.heap.size, 1, none⟩ = some (.int .i64 (K : Int)) ∧ Hid (Below w.heap.size w w'))
                (first
                  | exact ⟨q0, q1, B3.out.drew⟩
                  | (go_split_ands
                     refine ⟨(hb.cell ?_).trans ?_, (hb.cell ?_).trans ?_, ?_⟩
                     · exact World.block_lt_of_cell? _ ⟨w2.heap.size, 0, none⟩ (by assumption)
                     · assumption
                     · exact World.block_lt_of_cell? _ ⟨w2.heap.size, 0, none⟩ (by assumption)
                     · assumption
                     · exact Below.trans (Hid.out (by assumption)) (hb.mono (Below.size (Hid.out (by assumption)))))
                  | go_keep)
                (first
                  | (go_at_call 16; go_split_ands; refine (C7.out _ (Hid.out (by assumption))).mono ?_; rintro _ w4 ⟨rfl, hb⟩)
                  | (go_at_call 10; go_split_ands; refine (alive_any _).mono ?_; rintro _ w4 ⟨rfl, hb⟩))
              rename_i hHeld
              obtain ⟨E1, E2, K9⟩ := hHeld
              go_wp2
              go_ret
              exact ⟨rfl, K9.out⟩
theorem back_all (A : Option Addr) (L : List Row) (c : Nat) (m : Int) (w : World) (hW : RowsC w A L c) :
    Calls Tryd.prog 7 #[.slice A L.length c, .int .i64 m] w fun e w' => e = .returned (.bool true) ∧ Below w.heap.size w w' := back_log A L c m w hW
end Go.Proofs.YtgjgohnomophnaaDoor
