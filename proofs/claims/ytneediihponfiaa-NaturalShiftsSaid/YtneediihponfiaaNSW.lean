/- Bounded natural solutions: the law on rows that are repeated or doubled, and on greater bounds; the main case. -/
import Derived.Test.YtneediihponfiaaNSN
namespace Go.Proofs.Ytneediihponfiaa
open Go.RowKit

set_option maxHeartbeats 8000000 in
set_option maxRecDepth 100000 in
theorem shifts_yes (p : PV) (hf : fewB p = true) (hc : chkP p.L p.b p.u = 0) (h0 : 0 < p.L.length) (h60 : p.L.length ≤ 60) (w : World) (hr : PW w p) :
    Calls Try.prog 8 #[.agg #[.slice p.A p.L.length p.ca, .slice p.B p.b.length p.cb, .slice p.U p.u.length p.cu]] w fun e w' => e = .returned (.bool true) ∧ Below w.heap.size w w' := by
  have CF : Hid (∀ W, Below w.heap.size w W → Calls Try.prog 9 #[.agg #[.slice p.A p.L.length p.ca, .slice p.B p.b.length p.cb, .slice p.U p.u.length p.cu]] W (VPost W.heap.size W (.bool (fewB p)))) := fun W hW => few_any p W (hr.below hW)
  have CX : Hid (∀ W, Calls Try.prog 10 #[] W (VPost W.heap.size W (.bool true))) := alive_any
  have B0 : Hid (Below w.heap.size w (w.alloc (.cells #[.slice p.A p.L.length p.ca, .slice p.B p.b.length p.cb, .slice p.U p.u.length p.cu] 25))) := (Below.refl _ _).alloc (Nat.le_refl _) _
  have q0 : (w.alloc (.cells #[.slice p.A p.L.length p.ca, .slice p.B p.b.length p.cb, .slice p.U p.u.length p.cu] 25)).cell? ⟨w.heap.size, 0, none⟩ = some (.slice p.A p.L.length p.ca) := by simp
  have q1 : (w.alloc (.cells #[.slice p.A p.L.length p.ca, .slice p.B p.b.length p.cb, .slice p.U p.u.length p.cu] 25)).cell? ⟨w.heap.size, 1, none⟩ = some (.slice p.B p.b.length p.cb) := by simp
  have q2 : (w.alloc (.cells #[.slice p.A p.L.length p.ca, .slice p.B p.b.length p.cb, .slice p.U p.u.length p.cu] 25)).cell? ⟨w.heap.size, 2, none⟩ = some (.slice p.U p.u.length p.cu) := by simp
  rw [hf] at CF
  have fp := few_parts hf
  have hs : PR w p := hr.small fp.1
  have hl : lensOk p := ⟨by have := fp.2.1; omega, by have := fp.2.2.1; omega, by have := fp.2.2.2.1; omega⟩
  have CK : Hid (∀ W, Below w.heap.size w W → Calls Try.prog 12 #[.slice p.A p.L.length p.ca, .slice p.B p.b.length p.cb, .slice p.U p.u.length p.cu] W (fun e w' => e = .returned (.int .i64 (chkP p.L p.b p.u)) ∧ W = w')) := fun W hW => rcheck_any _ _ _ _ _ _ _ _ _ W (hs.below hW).rA hl.1 (hs.below hW).rB hl.2.1 (hs.below hW).rU hl.2.2
  have C1 : Hid (∀ W, Below w.heap.size w W → Calls Try.prog 16 #[.slice p.A p.L.length p.ca, .slice p.B p.b.length p.cb, .slice p.U p.u.length p.cu] W (VPost W.heap.size W (cntE p))) := fun W hW => count_any p W (hs.below hW) hl
  have SH : Shi p := ⟨chk0 hc, h0, h60⟩
  rw [hc] at CK
  unfold cntE at C1
  rw [if_pos hc, hc] at C1
  have D0 := SH.fine
  have HS := Lib.hid hs
  have C2 : Hid (∀ W f R cr A c B d, FacOk p f p.u.length → Below w.heap.size w W → PR W ⟨A, p.L ++ [⟨R, newRow p f, cr⟩], c, B, p.b ++ [f * at0 p.b 0], d, p.U, p.u, p.cu⟩ → Calls Try.prog 16 #[.slice A (p.L.length + 1) c, .slice B (p.b.length + 1) d, .slice p.U p.u.length p.cu] W (VPost W.heap.size W (.tuple #[.int .i64 ((solT p.L p.b p.u).length : Int), .int .i64 0]))) := fun W f R cr A c B d hfac hW hp => by
    have h := count_any ⟨A, p.L ++ [⟨R, newRow p f, cr⟩], c, B, p.b ++ [f * at0 p.b 0], d, p.U, p.u, p.cu⟩ W hp ⟨by simp; omega, by simp; have := D0.bl; omega, hl.2.2⟩
    have e1 : cntE ⟨A, p.L ++ [⟨R, newRow p f, cr⟩], c, B, p.b ++ [f * at0 p.b 0], d, p.U, p.u, p.cu⟩ = .tuple #[.int .i64 ((solT p.L p.b p.u).length : Int), .int .i64 0] := by
      rw [cnt_fine (chk_of_fine (fine_again SH hfac R cr))]
      dsimp only
      unfold newRow
      rw [solT_again (fac_ne hfac) D0.bl h0]
    rw [e1] at h
    simpa using h
  have C3 : Hid (∀ W M c (u' : List Int), u'.length = p.u.length → Below w.heap.size w W → ReadsV W M u' → Calls Try.prog 16 #[.slice p.A p.L.length p.ca, .slice p.B p.b.length p.cb, .slice M u'.length c] W (VPost W.heap.size W (.tuple #[.int .i64 (if chkP p.L p.b u' = 0 then ((solT p.L p.b u').length : Int) else 0), .int .i64 (chkP p.L p.b u')]))) := fun W M c u' hu hW hM =>
    count_any ⟨p.A, p.L, p.ca, p.B, p.b, p.cb, M, u', c⟩ W ⟨(HS.out.below hW).rA, (HS.out.below hW).rB, hM⟩ ⟨hl.1, hl.2.1, by show u'.length ≤ 1000; rw [hu]; exact hl.2.2⟩
  have z1 : ((p.L.length : Int) == 0) = false := by rw [beq_eq_false_iff_ne]; omega
  have z2 : decide ((60 : Int) < (p.L.length : Int)) = false := decide_eq_false (by omega)
  have HBL := Lib.hid D0.bl
  have RA : Hid (∀ W i, Below w.heap.size w W → i < p.L.length → ∃ b off, p.A = some ⟨b, off, none⟩ ∧ W.cell? ⟨b, off + i, none⟩ = some (.slice (rA p.L i).A (rA p.L i).zs.length (rA p.L i).cap)) := fun W i hW hi => (HS.out.below hW).rA.1.at i hi
  have RB : Hid (∀ W i, Below w.heap.size w W → i < p.L.length → ∃ b off, p.B = some ⟨b, off, none⟩ ∧ W.cell? ⟨b, off + i, none⟩ = some (.int .i64 (at0 p.b i))) := fun W i hW hi => at_of_reads (HS.out.below hW).rB i (by rw [← HBL.out]; exact hi)
  have RU : Hid (∀ W i, Below w.heap.size w W → i < p.u.length → ∃ b off, p.U = some ⟨b, off, none⟩ ∧ W.cell? ⟨b, off + i, none⟩ = some (.int .i64 (at0 p.u i))) := fun W i hW hi => at_of_reads (HS.out.below hW).rU i hi
  have R0 : Hid (∀ W k, Below w.heap.size w W → k < p.u.length → ∃ b off, (rA p.L 0).A = some ⟨b, off, none⟩ ∧ W.cell? ⟨b, off + k, none⟩ = some (.int .i64 (at0 (rA p.L 0).zs k))) := fun W k hW hk => at_of_reads ((HS.out.below hW).rA.2 _ (rA_mem h0)).1 k (by rw [D0.len 0 h0]; exact hk)
  have HSH := Lib.hid SH
  have UB0 := withB_at D0.ub 0 D0.u1
  have FIN : Hid (∀ v, (v = at0 p.u 0 + 1 ∨ v = at0 p.u 0) → (solT p.L p.b p.u).length ≤ (solT p.L p.b (p.u.set 0 v)).length) := fun v hv => sol_final D0.u1 UB0.1 hv
  generalize (solT p.L p.b p.u).length = N0 at *
  have zN : ((N0 : Int) != (N0 : Int)) = false := by simp
  have hu1 := D0.u1
  have hu64 := D0.u64
  obtain ⟨i0, hi, hz0, hz1, hz2⟩ := info_parts infoJ
  have HI := Lib.hid hi
  have HZ0 := Lib.hid hz0
  have HZ1 := Lib.hid hz1
  have HZ2 := Lib.hid hz2
  clear hi hz0 hz1 hz2 hr hf fp hc D0 hs SH
  go_enter Try.func8, Try.ntmps8
  go_wp2_with fail
  refine (CF.out _ B0.out).mono ?_
  rintro e x1 ⟨rfl, K⟩
  have q0 := keepc q0 K
  have q1 := keepc q1 K
  have q2 := keepc q2 K
  have Dx1 := Lib.hid (B0.out.trans (K.mono B0.out.size))
  clear K
  go_wp2_with fail
  refine (CK.out _ Dx1.out).mono ?_
  rintro e x2 ⟨rfl, rfl⟩
  go_wp2_with fail
  refine (C1.out _ Dx1.out).mono ?_
  rintro e x3 ⟨rfl, K⟩
  have q0 := keepc q0 K
  have q1 := keepc q1 K
  have q2 := keepc q2 K
  have Dx3 := Lib.hid (Dx1.out.trans (K.mono Dx1.out.size))
  clear K
  clear CF CK C1 B0 Dx1
  go_wp2_with fail
  have A0 := Lib.hid (AB.start p x3.heap.size x3)
  have QX : Hid (∀ W, Below x3.heap.size x3 W → W.cell? ⟨w.heap.size, 0, none⟩ = some (.slice p.A p.L.length p.ca) ∧ W.cell? ⟨w.heap.size, 1, none⟩ = some (.slice p.B p.b.length p.cb) ∧ W.cell? ⟨w.heap.size, 2, none⟩ = some (.slice p.U p.u.length p.cu) ∧ Below w.heap.size w W) := fun W hW => ⟨keepc q0 hW, keepc q1 hW, keepc q2 hW, Dx3.out.trans (hW.mono Dx3.out.size)⟩
  clear q0 q1 q2
  go_loopw [5, 6, 7] (fun a b q wr => ∃ (i : Nat) (A : Option Addr) (c : Nat) (B : Option Addr) (d : Nat), i ≤ p.L.length ∧ q = .int .i64 i ∧ a = .slice A i c ∧ b = .slice B i d ∧ Hid (AB p x3.heap.size i (.slice A i c) (.slice B i d) wr) ∧ Hid (Below x3.heap.size x3 wr)) (fun _ _ q _ => p.L.length - (intOf q).toNat)
  case atStart => exact ⟨0, none, 0, none, 0, Nat.zero_le _, rfl, rfl, rfl, A0, Below.refl _ _⟩
  case round =>
    clear A0
    obtain ⟨i, A, c, B, d, hi, rfl, rfl, rfl, HA, HB⟩ := hrel
    obtain ⟨q0, q1, q2, bw⟩ := QX.out _ HB.out
    by_cases hlt : i < p.L.length
    · have z3 : decide ((i : Int) < (p.L.length : Int)) = true := decide_eq_true (by omega)
      obtain ⟨ba, oa, ea, ca⟩ := RA.out _ i bw hlt
      rw [ea] at q0
      clear ea
      have hib : i < p.b.length := by rw [← HBL.out]; exact hlt
      have e1 := take_map (f := Row.v) hlt
      have e2 := take_map (f := Value.int .i64) hib
      have e3 : p.L[i] = rA p.L i := by unfold rA; rw [List.getElem?_eq_getElem hlt]; rfl
      have e4 : p.b[i] = at0 p.b i := by unfold at0; rw [List.getElem?_eq_getElem hib]; rfl
      rw [e3] at e1
      rw [e4] at e2
      have E1 := Lib.hid e1
      have E2 := Lib.hid e2
      have RBi := Lib.hid (fun W hW => RB.out W i hW hlt)
      clear e1 e2 e3 e4 bw
      have hib2 : (i : Int) < (p.b.length : Int) := by omega
      generalize rA p.L i = row at *
      generalize at0 p.b i = y at *
      obtain ⟨rwA, rwz, rwc⟩ := row
      dsimp only at ca
      have o5 : Hid ((wr.alloc (.cells #[.slice rwA rwz.length rwc] 23)).ownsRow x3.heap.size 23 1 (.slice A i c) i ((p.L.take i).map Row.v)) := HA.out.ao.alloc _
      have p5 : Hid ((wr.alloc (.cells #[.slice rwA rwz.length rwc] 23)).ownsRow x3.heap.size 2 1 (.slice B i d) i ((p.b.take i).map (Value.int .i64))) := HA.out.bo.alloc _
      have n5 : Hid ((wr.alloc (.cells #[.slice rwA rwz.length rwc] 23)).cell? ⟨wr.heap.size, 0, none⟩ = some (.slice rwA rwz.length rwc)) := (Boxed.new wr _ _).cell
      have b5 := Lib.hid (HB.out.alloc HB.out.size (.cells #[.slice rwA rwz.length rwc] 23))
      have s5 : x3.heap.size ≤ (wr.alloc (.cells #[.slice rwA rwz.length rwc] 23)).heap.size := b5.out.size
      go_wp2_with first | (at_builtin; refine wpList_one rfl (.tmp 61) (.tmp 67) 22 23 (.slice none 0 0) 24 rfl infoR Try.underlying22 rfl (by decide) x3.heap.size (.slice A i c) i _ (.slice rwA rwz.length rwc) rfl o5.out wr.heap.size rfl n5.out rfl (by omega) s5 ?_; intro A6 c6 w6 o6 k6; have b6 : Hid (Below x3.heap.size x3 w6) := own_grow o5.out (Nat.le_refl _) b5.out s5 k6; obtain ⟨-, q1b, -, bw6⟩ := QX.out _ b6.out; obtain ⟨bb, ob, eb, cb⟩ := RBi.out w6 bw6; rw [eb] at q1b; clear eb; have p6 := own_other o5.out p5.out (by decide) k6; have n7 : Hid ((w6.alloc (.cells #[.int .i64 y] 2)).cell? ⟨w6.heap.size, 0, none⟩ = some (.int .i64 y)) := (Boxed.new w6 _ _).cell; have o7 : Hid ((w6.alloc (.cells #[.int .i64 y] 2)).ownsRow x3.heap.size 23 1 (.slice A6 (i + 1) c6) (i + 1) _) := o6.alloc _; have p7 : Hid ((w6.alloc (.cells #[.int .i64 y] 2)).ownsRow x3.heap.size 2 1 (.slice B i d) i ((p.b.take i).map (Value.int .i64))) := p6.alloc _; have b7 := Lib.hid (b6.out.alloc b6.out.size (.cells #[.int .i64 y] 2)); have s7 : x3.heap.size ≤ (w6.alloc (.cells #[.int .i64 y] 2)).heap.size := b7.out.size) | (at_builtin; refine wpList_one rfl (.tmp 69) (.tmp 75) 23 2 (.int .i64 0) 8 rfl infoJ Try.underlying23 rfl (by decide) x3.heap.size (.slice B i d) i _ (.int .i64 y) rfl p7.out w6.heap.size rfl n7.out rfl (by omega) s7 ?_; intro B8 d8 w8 o8 k8)
      have o9 := own_other p7.out o7.out (by decide) k8
      have b9 := Lib.hid (own_grow p7.out (Nat.le_refl _) b7.out s7 k8)
      rw [E2.out] at o8
      have A9 : Hid (AB p x3.heap.size (i + 1) (.slice A6 (i + 1) c6) (.slice B8 (i + 1) d8) w8) := ⟨by rw [← E1.out]; exact o9, o8⟩
      clear o5 p5 n5 b5 s5 o6 k6 b6 q1b p6 n7 o7 p7 b7 s7 o8 k8 o9 E1 E2 RBi HA HB q0 q1 q2 ca cb
      (try go_wp2_with fail)
      go_roundw
      case rel => exact ⟨i + 1, A6, c6, B8, d8, by omega, by go_num, rfl, rfl, A9, b9⟩
      case measure => simp [intOf]; omega
    · have z3 : decide ((i : Int) < (p.L.length : Int)) = false := decide_eq_false (by omega)
      obtain rfl : i = p.L.length := by omega
      have HAo : Hid (wr.ownsRow x3.heap.size 23 1 (.slice A p.L.length c) p.L.length (p.L.map Row.v)) := by
        have h := HA.out.ao
        rw [List.take_length] at h
        exact h
      have HBo : Hid (wr.ownsRow x3.heap.size 2 1 (.slice B p.L.length d) p.L.length (p.b.map (Value.int .i64))) := by
        have h := HA.out.bo
        rw [List.take_of_length_le (by rw [HBL.out]; exact Nat.le_refl _)] at h
        exact h
      have HBW := Lib.hid bw
      have HBs := Lib.hid HB.out.size
      clear HA bw q1
      go_wp2_with (at_make; refine wpList_make_full _ rfl _ _ 23 rfl wr.heap.size 2 i0 (.int .i64 0) 1 Try.underlying23 HI.out HZ0.out HZ1.out .i64 .i64 _ _ p.u.length rfl rfl rfl rfl (by rw [HZ2.out]; omega) (by unfold maxLen; omega) (Nat.le_refl _) ?_; intro w5 hown5 hgrow5)
      have K5 : Below wr.heap.size wr w5 := (Below.refl _ _).grown hgrow5 (Nat.le_refl _) (fun _ h => by cases h)
      obtain ⟨R, hR⟩ : ∃ R, R = wr.heap.size := ⟨_, rfl⟩
      have HAo := Lib.hid (OwnLt.of HAo.out K5)
      have HBo := Lib.hid (OwnLt.of HBo.out K5)
      have HB := Lib.hid (HB.out.trans (K5.mono HB.out.size))
      have HXR : Hid (x3.heap.size ≤ R) := by show _ ≤ _; rw [hR]; exact HBs.out
      rw [← hR] at HAo HBo
      have HR0 : Hid (w5.ownsRow R 2 1 (.slice (some ⟨R, 0, none⟩) p.u.length p.u.length) p.u.length ((List.replicate p.u.length (0 : Int)).map (Value.int .i64))) := by
        show World.ownsRow _ _ _ _ _ _ _
        rw [hR]
        rw [show madeCells (Value.int IntKind.i64 0).cells (p.u.length * 1) = madeCells #[.int .i64 0] (p.u.length * 1) from rfl, toList_madeCells_one, Nat.mul_one] at hown5
        rw [List.map_replicate]
        exact hown5
      clear K5 hgrow5 hown5 HBW q2 q0 z3 HBs
      rw [← hR]
      clear hR
      obtain ⟨mL, hmL⟩ : ∃ m, m = p.L.length := ⟨_, rfl⟩
      rw [← hmL] at HAo HBo ⊢
      have HML := Lib.hid hmL
      have hm60 : mL ≤ 60 := by rw [hmL]; exact h60
      clear hmL
      (try go_wp2_with fail)
      obtain ⟨q0, q1, q2, bw⟩ := QX.out _ HB.out
      obtain ⟨ba, oa, ea, ca⟩ := RA.out _ 0 bw h0
      obtain ⟨bb, ob, eb, cb⟩ := RB.out _ 0 bw h0
      rw [Nat.add_zero] at ca cb
      rw [ea] at q0
      rw [eb] at q1
      have hbl1 : 0 < p.b.length := by rw [← HBL.out]; exact h0
      have hzl : (rA p.L 0).zs.length = p.u.length := HSH.out.fine.len 0 h0
      have HZL := Lib.hid hzl
      have F0 : Hid (FacOk p 2 0) := .inr ⟨rfl, fun j hj => absurd hj (by omega)⟩
      have FS : Hid (∀ f k, FacOk p f k → SmallJ p k → FacOk p f (k + 1)) := fun f k h1 h2 => fac_step h1 h2
      have HBW := Lib.hid bw
      clear ea eb hzl bw
      go_loop [9, 10] (fun f q => ∃ (k : Nat) (fv : Int), k ≤ p.u.length ∧ q = .int .i64 k ∧ f = .int .i64 fv ∧ Hid (FacOk p fv k)) (fun _ q => p.u.length - (intOf q).toNat)
      case atStart => exact ⟨0, 2, Nat.zero_le _, rfl, rfl, F0⟩
      case round =>
        obtain ⟨k, fv, hk, rfl, rfl, HF⟩ := hrel
        by_cases hkl : k < p.u.length
        · have z3 : decide ((k : Int) < (p.u.length : Int)) = true := decide_eq_true (by omega)
          obtain ⟨b3, o3, e3, c3⟩ := R0.out _ k HBW.out hkl
          have FSk := Lib.hid (FS.out fv k HF.out)
          have SJ : Hid (SmallJ p k ↔ ((-5000 ≤ at0 (rA p.L 0).zs k ∧ at0 (rA p.L 0).zs k ≤ 5000) ∧ -5000 ≤ at0 p.b 0 ∧ at0 p.b 0 ≤ 5000)) := Iff.rfl
          rw [e3] at ca
          have hkz : k < (rA p.L 0).zs.length := by rw [HZL.out]; exact hkl
          clear e3 HF
          generalize at0 (rA p.L 0).zs k = v at *
          generalize at0 p.b 0 = y at *
          generalize (rA p.L 0).zs.length = zl at *
          generalize (rA p.L 0).cap = zc at *
          by_cases y0 : 5000 < v
          · have x00 : decide ((5000 : Int) < v) = true := decide_eq_true y0
            clear FSk SJ
            go_wp2
            go_round
            case rel => exact ⟨k + 1, 1, by omega, by go_num, rfl, .inl rfl⟩
            case measure => simp [intOf]; omega
          have x00 : decide ((5000 : Int) < v) = false := decide_eq_false y0
          by_cases y1 : v < -5000
          · have x10 : decide (v < (-5000 : Int)) = true := decide_eq_true y1
            clear FSk SJ
            go_wp2
            go_round
            case rel => exact ⟨k + 1, 1, by omega, by go_num, rfl, .inl rfl⟩
            case measure => simp [intOf]; omega
          have x10 : decide (v < (-5000 : Int)) = false := decide_eq_false y1
          by_cases y2 : 5000 < y
          · have x20 : decide ((5000 : Int) < y) = true := decide_eq_true y2
            clear FSk SJ
            go_wp2
            go_round
            case rel => exact ⟨k + 1, 1, by omega, by go_num, rfl, .inl rfl⟩
            case measure => simp [intOf]; omega
          have x20 : decide ((5000 : Int) < y) = false := decide_eq_false y2
          by_cases y3 : y < -5000
          · have x30 : decide (y < (-5000 : Int)) = true := decide_eq_true y3
            clear FSk SJ
            go_wp2
            go_round
            case rel => exact ⟨k + 1, 1, by omega, by go_num, rfl, .inl rfl⟩
            case measure => simp [intOf]; omega
          have x30 : decide (y < (-5000 : Int)) = false := decide_eq_false y3
          have R9 := Lib.hid (FSk.out (SJ.out.2 (by omega)))
          clear FSk SJ
          go_wp2
          go_round
          case rel => exact ⟨k + 1, fv, by omega, by go_num, rfl, R9⟩
          case measure => simp [intOf]; omega
        · have z3 : decide ((k : Int) < (p.u.length : Int)) = false := decide_eq_false (by omega)
          obtain rfl : k = p.u.length := by omega
          have RK0 : Hid (RowK p fv R 0 w5 w5) := ⟨by rw [← zero_tab]; exact HR0.out, Below.refl _ _⟩
          have FB := Lib.hid (fun j (hj : j < p.u.length) => fac_row HSH.out HF.out hj)
          have FBb := fac_b HSH.out HF.out
          clear HR0 FS q1 cb
          go_wp2_with fail
          go_loopw [11] (fun q wr => ∃ k : Nat, k ≤ p.u.length ∧ q = .int .i64 k ∧ Hid (RowK p fv R k w5 wr)) (fun q _ => p.u.length - (intOf q).toNat)
          case atStart => exact ⟨0, Nat.zero_le _, rfl, RK0⟩
          case round =>
            clear RK0 z3 q0 ca
            obtain ⟨k, hk, rfl, HK⟩ := hrel
            have HBk := Lib.hid (HB.out.trans (HK.out.kb.mono HXR.out))
            obtain ⟨q0, q1, q2, bw⟩ := QX.out _ HBk.out
            by_cases hkl : k < p.u.length
            · have z3 : decide ((k : Int) < (p.u.length : Int)) = true := decide_eq_true (by omega)
              obtain ⟨ba, oa, ea, ca⟩ := RA.out _ 0 bw h0
              rw [Nat.add_zero] at ca
              rw [ea] at q0
              obtain ⟨b3, o3, e3, c3⟩ := R0.out _ k bw hkl
              rw [e3] at ca
              have hkz : k < (rA p.L 0).zs.length := by rw [HZL.out]; exact hkl
              have R9 := Lib.hid HK.out.put
              have fb := FB.out k hkl
              have hc := own_cell HK.out.ro k (by rw [tab_len]; exact hkl)
              have hf := HK.out.ro.frozenAt k
              clear ea e3 bw HBk q1 q2 HK
              generalize at0 (rA p.L 0).zs k = v at *
              generalize (rA p.L 0).zs.length = zl at *
              generalize (rA p.L 0).cap = zc at *
              have b5 : wrap64 (fv * v) = fv * v := by unfold wrap64; omega
              go_wp2
              go_roundw
              case rel => exact ⟨k + 1, by omega, by go_num, by first | exact R9 | (rw [b5]; exact R9)⟩
              case measure => simp [intOf]; omega
            · have z3 : decide ((k : Int) < (p.u.length : Int)) = false := decide_eq_false (by omega)
              obtain rfl : k = p.u.length := by omega
              have HAw := Lib.hid (HAo.out.keep HK.out.kb)
              have HBw := Lib.hid (HBo.out.keep HK.out.kb)
              have ROW := Lib.hid HK.out.all
              have o5 : Hid ((wr.alloc (.cells #[.slice (some ⟨R, 0, none⟩) p.u.length p.u.length] 23)).ownsRow x3.heap.size 23 1 (.slice A mL c) mL (p.L.map Row.v)) := HAw.out.1.alloc _
              have p5 : Hid ((wr.alloc (.cells #[.slice (some ⟨R, 0, none⟩) p.u.length p.u.length] 23)).ownsRow x3.heap.size 2 1 (.slice B mL d) mL (p.b.map (Value.int .i64))) := HBw.out.1.alloc _
              have r5 := Lib.hid (ROW.out.alloc (.cells #[.slice (some ⟨R, 0, none⟩) p.u.length p.u.length] 23))
              have n5 : Hid ((wr.alloc (.cells #[.slice (some ⟨R, 0, none⟩) p.u.length p.u.length] 23)).cell? ⟨wr.heap.size, 0, none⟩ = some (.slice (some ⟨R, 0, none⟩) p.u.length p.u.length)) := (Boxed.new wr _ _).cell
              have b5 := Lib.hid (HBk.out.alloc HBk.out.size (.cells #[.slice (some ⟨R, 0, none⟩) p.u.length p.u.length] 23))
              have s5 : x3.heap.size ≤ (wr.alloc (.cells #[.slice (some ⟨R, 0, none⟩) p.u.length p.u.length] 23)).heap.size := b5.out.size
              have RB0 := Lib.hid (fun W hW => RB.out W 0 hW h0)
              have AO2 := Lib.hid HAw.out.2
              have BO2 := Lib.hid HBw.out.2
              clear HAw HBw ROW HAo HBo HK q0 q1 q2 bw HBk
              generalize hy : at0 p.b 0 = y at *
              have HY := Lib.hid hy
              clear hy
              have b6w : wrap64 (fv * y) = fv * y := by unfold wrap64; omega
              have hbl2 : (0 : Int) < (p.b.length : Int) := by omega
              go_wp2_with first | (at_builtin; refine wpList_one rfl (.tmp 137) (.tmp 139) 22 23 (.slice none 0 0) 24 rfl infoR Try.underlying22 rfl (by decide) x3.heap.size (.slice A mL c) mL _ (.slice (some ⟨R, 0, none⟩) p.u.length p.u.length) rfl o5.out wr.heap.size rfl n5.out rfl (by omega) s5 ?_; intro A6 c6 w6 o6 k6; have b6 : Hid (Below x3.heap.size x3 w6) := own_grow o5.out (Nat.le_refl _) b5.out s5 k6; obtain ⟨-, q1b, q2b, bw6⟩ := QX.out _ b6.out; obtain ⟨bb, ob, eb, cb⟩ := RB0.out w6 bw6; rw [Nat.add_zero] at cb; rw [eb] at q1b; clear eb; have p6 := own_other o5.out p5.out (by decide) k6; have r6 := own_row_kept r5.out AO2.out k6; have n7 : Hid ((w6.alloc (.cells #[.int .i64 (fv * y)] 2)).cell? ⟨w6.heap.size, 0, none⟩ = some (.int .i64 (fv * y))) := (Boxed.new w6 _ _).cell; have o7 : Hid ((w6.alloc (.cells #[.int .i64 (fv * y)] 2)).ownsRow x3.heap.size 23 1 (.slice A6 (mL + 1) c6) (mL + 1) _) := o6.alloc _; have p7 : Hid ((w6.alloc (.cells #[.int .i64 (fv * y)] 2)).ownsRow x3.heap.size 2 1 (.slice B mL d) mL (p.b.map (Value.int .i64))) := p6.alloc _; have r7 := Lib.hid (r6.alloc (.cells #[.int .i64 (fv * y)] 2)); have b7 := Lib.hid (b6.out.alloc b6.out.size (.cells #[.int .i64 (fv * y)] 2)); have s7 : x3.heap.size ≤ (w6.alloc (.cells #[.int .i64 (fv * y)] 2)).heap.size := b7.out.size) | (at_builtin; refine wpList_one rfl (.tmp 141) (.tmp 148) 23 2 (.int .i64 0) 8 rfl infoJ Try.underlying23 rfl (by decide) x3.heap.size (.slice B mL d) mL _ (.int .i64 (fv * y)) rfl p7.out w6.heap.size rfl n7.out rfl (by omega) s7 ?_; intro B8 d8 w8 o8 k8; have b9 := Lib.hid (own_grow p7.out (Nat.le_refl _) b7.out s7 k8); obtain ⟨q0c, q1c, q2c, bw8⟩ := QX.out _ b9.out)
              have o9 := own_other p7.out o7.out (by decide) k8
              have r9 := own_row_kept r7.out BO2.out k8
              have o9' : w8.ownsRow x3.heap.size 23 1 (.slice A6 (p.L.length + 1) c6) (p.L.length + 1) (p.L.map Row.v ++ [(⟨some ⟨R, 0, none⟩, newRow p fv, p.u.length⟩ : Row).v]) := by
                rw [← HML.out]
                unfold Row.v
                rw [newRow_len]
                exact o9
              have o8' : w8.ownsRow x3.heap.size 2 1 (.slice B8 (p.b.length + 1) d8) (p.b.length + 1) (p.b.map (Value.int .i64) ++ [.int .i64 (fv * y)]) := by
                rw [← HBL.out, ← HML.out]
                exact o8
              obtain ⟨A99, c99, e99, rd⟩ := ReadsV.own r9
              rw [newRow_len] at e99
              cases e99
              have PRW := again_pr HS.out bw8 o9' o8' rd (by rw [newRow_len]; omega)
              have CN := C2.out w8 fv (some ⟨R, 0, none⟩) p.u.length A6 c6 B8 d8 HF.out bw8 PRW
              rw [← HBL.out, ← HML.out] at CN
              clear PRW rd o9' o8' o9 r9 o8 k8 o5 p5 r5 n5 b5 s5 RB0 AO2 BO2 o6 k6 b6 q1b q2b bw6 cb p6 r6 n7 o7 p7 r7 b7 s7 C2 FB FBb HF
              refine CN.mono ?_
              rintro e w10 ⟨rfl, K⟩
              have HB10 := Lib.hid (b9.out.trans (K.mono b9.out.size))
              obtain ⟨q0, q1, q2, bw⟩ := QX.out _ HB10.out
              clear K CN b9 q0c q1c q2c bw8
              have M0 : Hid (w10.ownsRow w10.heap.size 2 1 (.slice none 0 0) 0 ((p.u.take 0).map (Value.int .i64))) := World.ownsRow_nil _ _ _ _
              go_wp2_with fail
              go_loopw [14, 15] (fun a q wr => ∃ (i : Nat) (M : Option Addr) (cm : Nat), i ≤ p.u.length ∧ q = .int .i64 i ∧ a = .slice M i cm ∧ Hid (wr.ownsRow w10.heap.size 2 1 (.slice M i cm) i ((p.u.take i).map (Value.int .i64))) ∧ Hid (Below w10.heap.size w10 wr)) (fun _ q _ => p.u.length - (intOf q).toNat)
              case atStart => exact ⟨0, none, 0, Nat.zero_le _, rfl, rfl, M0, Below.refl _ _⟩
              case round =>
                clear M0 q0 q1 q2 bw
                obtain ⟨i, M, cm, hi, rfl, rfl, HM, HW⟩ := hrel
                have HBi := Lib.hid (HB10.out.trans (HW.out.mono HB10.out.size))
                obtain ⟨q0, q1, q2, bw⟩ := QX.out _ HBi.out
                by_cases hiu : i < p.u.length
                · have z4 : decide ((i : Int) < (p.u.length : Int)) = true := decide_eq_true (by omega)
                  obtain ⟨bu, ou, eu, cu⟩ := RU.out _ i bw hiu
                  rw [eu] at q2
                  have e2 := take_map (f := Value.int .i64) hiu
                  have e4 : p.u[i] = at0 p.u i := by unfold at0; rw [List.getElem?_eq_getElem hiu]; rfl
                  rw [e4] at e2
                  have E2 := Lib.hid e2
                  clear eu e2 e4 bw q0 q1
                  generalize at0 p.u i = y2 at *
                  have m5 : Hid ((wr.alloc (.cells #[.int .i64 y2] 2)).ownsRow w10.heap.size 2 1 (.slice M i cm) i ((p.u.take i).map (Value.int .i64))) := HM.out.alloc _
                  have n5 : Hid ((wr.alloc (.cells #[.int .i64 y2] 2)).cell? ⟨wr.heap.size, 0, none⟩ = some (.int .i64 y2)) := (Boxed.new wr _ _).cell
                  have b5 := Lib.hid (HW.out.alloc HW.out.size (.cells #[.int .i64 y2] 2))
                  have s5 : w10.heap.size ≤ (wr.alloc (.cells #[.int .i64 y2] 2)).heap.size := b5.out.size
                  go_wp2_with (at_builtin; refine wpList_one rfl (.tmp 172) (.tmp 178) 23 2 (.int .i64 0) 8 rfl infoJ Try.underlying23 rfl (by decide) w10.heap.size (.slice M i cm) i _ (.int .i64 y2) rfl m5.out wr.heap.size rfl n5.out rfl (by omega) s5 ?_; intro M6 c6' w12 o12 k12)
                  have b12 := Lib.hid (own_grow m5.out (Nat.le_refl _) b5.out s5 k12)
                  rw [E2.out] at o12
                  have O12 := Lib.hid o12
                  clear m5 n5 b5 s5 o12 k12 E2 q2 cu HM HW HBi
                  (try go_wp2_with fail)
                  go_roundw
                  case rel => exact ⟨i + 1, M6, c6', by omega, by go_num, rfl, O12, b12⟩
                  case measure => simp [intOf]; omega
                · have z4 : decide ((i : Int) < (p.u.length : Int)) = false := decide_eq_false (by omega)
                  obtain rfl : i = p.u.length := by omega
                  have hM := HM.out
                  rw [List.take_length] at hM
                  obtain ⟨gM, rfl⟩ : ∃ gM, M = some ⟨gM, 0, none⟩ := by
                    rcases hM.2 with ⟨e1, h9⟩ | ⟨g9, cap9, cur9, e1, _⟩
                    · omega
                    · injection e1 with e1
                      exact ⟨g9, e1⟩
                  have hMg : w10.heap.size ≤ gM := (hM.lt gM rfl).1
                  have cM := own_cell hM 0 hu1
                  have fM := hM.frozenAt 0
                  have PUT := Lib.hid (fun v => own_put hM 0 v)
                  have BSET := Lib.hid (fun v => HW.out.setCell (p := ⟨gM, 0, none⟩) hMg (Value.int .i64 v))
                  have hu0 : (0 : Int) < (p.u.length : Int) := by omega
                  have QY := Lib.hid (fun v => QX.out _ (HB10.out.trans ((BSET.out v).mono HB10.out.size)))
                  have C4 : Hid (∀ v, (v = at0 p.u 0 + 1 ∨ v = at0 p.u 0) → Calls Try.prog 16 #[.slice p.A p.L.length p.ca, .slice p.B p.b.length p.cb, .slice (some ⟨gM, 0, none⟩) p.u.length cm] (wr.setCell ⟨gM, 0, none⟩ (.int .i64 v)) fun e w' => ∃ (k : Nat) (E : Int), (E = 0 → N0 ≤ k) ∧ e = .returned (.tuple #[.int .i64 (k : Int), .int .i64 E]) ∧ Below (wr.setCell ⟨gM, 0, none⟩ (.int .i64 v)).heap.size (wr.setCell ⟨gM, 0, none⟩ (.int .i64 v)) w') := fun v hv => by
                    obtain ⟨A99, c99, e99, rd⟩ := ReadsV.own (PUT.out v)
                    rw [List.length_set] at e99
                    have hl9 : (p.u.set 0 v).length = p.u.length := List.length_set ..
                    have h := C3.out (wr.setCell ⟨gM, 0, none⟩ (.int .i64 v)) A99 c99 (p.u.set 0 v) hl9 (QY.out v).2.2.2 rd
                    rw [hl9, ← e99] at h
                    refine h.mono ?_
                    rintro e w' ⟨rfl, K⟩
                    by_cases hE : chkP p.L p.b (p.u.set 0 v) = 0
                    · rw [if_pos hE]
                      exact ⟨_, _, fun _ => FIN.out v hv, rfl, K⟩
                    · rw [if_neg hE]
                      exact ⟨0, _, fun h => absurd h hE, rfl, K⟩
                  clear hM PUT C3 FIN q0 q1 bw HM HW
                  generalize at0 p.u 0 = v0 at *
                  have b8 : wrap64 (v0 + 1) = v0 + 1 := by unfold wrap64; omega
                  by_cases hv : 1000 ≤ v0 + 1
                  · have hv2 : 999 ≤ v0 := by omega
                    have C := Lib.hid (C4.out 1000 (by omega))
                    have Q := Lib.hid (QY.out 1000)
                    obtain ⟨r0, r1, r2, rw9⟩ := Q.out
                    have RW9 := Lib.hid rw9
                    clear C4 QY Q rw9
                    go_wp2_with fail
                    refine C.out.mono ?_
                    rintro e w13 ⟨k, E, hE, rfl, K⟩
                    have D13 := Lib.hid (RW9.out.trans (K.mono RW9.out.size))
                    clear K C RW9 r0 r1 r2
                    by_cases e0 : E = 0
                    · have h9 := hE e0
                      subst e0
                      have z9 : decide ((N0 : Int) ≤ (k : Int)) = true := decide_eq_true (by omega)
                      clear hE
                      go_wp2_with fail
                      refine (CX.out _).mono ?_
                      rintro e w14 ⟨rfl, K⟩
                      have D14 := Lib.hid (D13.out.trans (K.mono D13.out.size))
                      clear K
                      go_wp2
                      go_ret
                      exact ⟨rfl, D14.out⟩
                    · have z9 : (E != 0) = true := by simpa using e0
                      clear hE
                      go_wp2_with fail
                      refine (CX.out _).mono ?_
                      rintro e w14 ⟨rfl, K⟩
                      have D14 := Lib.hid (D13.out.trans (K.mono D13.out.size))
                      clear K
                      go_wp2
                      go_ret
                      exact ⟨rfl, D14.out⟩
                  · have hv2 : ¬ 999 ≤ v0 := by omega
                    have C := Lib.hid (C4.out (v0 + 1) (by omega))
                    have Q := Lib.hid (QY.out (v0 + 1))
                    obtain ⟨r0, r1, r2, rw9⟩ := Q.out
                    have RW9 := Lib.hid rw9
                    clear C4 QY Q rw9
                    go_wp2_with fail
                    refine C.out.mono ?_
                    rintro e w13 ⟨k, E, hE, rfl, K⟩
                    have D13 := Lib.hid (RW9.out.trans (K.mono RW9.out.size))
                    clear K C RW9 r0 r1 r2
                    by_cases e0 : E = 0
                    · have h9 := hE e0
                      subst e0
                      have z9 : decide ((N0 : Int) ≤ (k : Int)) = true := decide_eq_true (by omega)
                      clear hE
                      go_wp2_with fail
                      refine (CX.out _).mono ?_
                      rintro e w14 ⟨rfl, K⟩
                      have D14 := Lib.hid (D13.out.trans (K.mono D13.out.size))
                      clear K
                      go_wp2
                      go_ret
                      exact ⟨rfl, D14.out⟩
                    · have z9 : (E != 0) = true := by simpa using e0
                      clear hE
                      go_wp2_with fail
                      refine (CX.out _).mono ?_
                      rintro e w14 ⟨rfl, K⟩
                      have D14 := Lib.hid (D13.out.trans (K.mono D13.out.size))
                      clear K
                      go_wp2
                      go_ret
                      exact ⟨rfl, D14.out⟩
end Go.Proofs.Ytneediihponfiaa
