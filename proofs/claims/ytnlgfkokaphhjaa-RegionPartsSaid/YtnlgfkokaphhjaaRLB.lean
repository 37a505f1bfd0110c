/- Regions: the minimal ones, by the program and by the reference. -/
import Derived.Test.YtnlgfkokaphhjaaRLA
namespace Go.Proofs.Ytnlgfkokaphhjaa
open Go.RowKit

def keepB (al : Nat) (x : Bt.U64) : Bool := decide (x.1 ≠ 0) && decide (x.1 ≠ al)
def fiL (al : Nat) (L : List Bt.U64) (i : Nat) : List Bt.U64 := (L.take i).filter (keepB al)
theorem fi_snoc (al : Nat) {L : List Bt.U64} {i : Nat} (h : i < L.length) : fiL al L (i + 1) = if keepB al (Bt.ug L i) = true then fiL al L i ++ [Bt.ug L i] else fiL al L i := by
  unfold fiL
  rw [List.take_succ_eq_append_getElem h, List.filter_append, Bt.ug_lt h]
  by_cases hk : keepB al L[i] = true
  · rw [if_pos hk]; simp [hk]
  · rw [if_neg hk]; simp [hk]
theorem fi_len (al : Nat) (L : List Bt.U64) (i : Nat) : (fiL al L i).length ≤ i := Nat.le_trans (List.length_filter_le _ _) (by rw [List.length_take]; omega)
theorem fi_all (al : Nat) (L : List Bt.U64) : fiL al L L.length = L.filter fun x => decide (x.1 ≠ 0) && decide (x.1 ≠ al) := by unfold fiL; rw [List.take_length]; rfl
theorem keep_zero {al : Nat} {x : Bt.U64} (h : x.1 = 0) : keepB al x = false := by unfold keepB; simp [h]
theorem keep_full {al : Nat} {x : Bt.U64} (h : x.1 = al) : keepB al x = false := by unfold keepB; simp [h]
theorem keep_yes {al : Nat} {x : Bt.U64} (h : x.1 ≠ 0) (h2 : x.1 ≠ al) : keepB al x = true := by unfold keepB; simp [h, h2]
set_option maxHeartbeats 4000000 in
theorem min_law (s : SysV) (w : World) (hr : SysR w s) : Calls Try.prog 24 #[.agg #[.int .i64 s.st, .slice s.EA s.el s.ec, .slice s.AA s.ar.length s.ac]] w (AllP w.heap.size w (mnL s) (anyE s)) := by
  have CA : Hid (∀ W, Below w.heap.size w W → Calls Try.prog 21 #[.agg #[.int .i64 s.st, .slice s.EA s.el s.ec, .slice s.AA s.ar.length s.ac]] W (AllC W.heap.size W (anyL s) (anyE s))) := fun W hW => all_law s W (hr.below hW (Nat.le_refl _))
  have CM : Hid (∀ A c l W, Bt.Reads W A (Bt.vV l) → l.length ≤ 512 → Calls Try.prog 38 #[.slice A l.length c] W (Bt.ListPost W.heap.size W (Bt.vV (Bt.minU l)))) := fun A c l W h hl => Bt.minimal_any A l c W h (by omega)
  have B0 : Hid (Below w.heap.size w (w.alloc (.cells #[.int .i64 s.st, .slice s.EA s.el s.ec, .slice s.AA s.ar.length s.ac] 25))) := (Below.refl _ _).alloc (Nat.le_refl _) _
  have q0 : (w.alloc (.cells #[.int .i64 s.st, .slice s.EA s.el s.ec, .slice s.AA s.ar.length s.ac] 25)).cell? ⟨w.heap.size, 0, none⟩ = some (.int .i64 s.st) := by simp
  have q1 : (w.alloc (.cells #[.int .i64 s.st, .slice s.EA s.el s.ec, .slice s.AA s.ar.length s.ac] 25)).cell? ⟨w.heap.size, 1, none⟩ = some (.slice s.EA s.el s.ec) := by simp
  have q2 : (w.alloc (.cells #[.int .i64 s.st, .slice s.EA s.el s.ec, .slice s.AA s.ar.length s.ac] 25)).cell? ⟨w.heap.size, 2, none⟩ = some (.slice s.AA s.ar.length s.ac) := by simp
  clear hr
  by_cases hE : anyE s = 0
  · obtain ⟨h1, h2, h3⟩ := anyE_zero hE
    have e1 := (any_ok h1 h2).1.trans (resL_yes h3).1
    have e2 := allR_split h1 h2
    have e3 := midR_len h1 h2
    rw [mnL_yes hE, show minR s = Bt.minU (midR s) from rfl, hE]
    rw [hE, e1] at CA
    have hl := e3
    rw [e3] at h3
    clear h1 h2 hE e1 e3
    generalize allR s = L at *
    generalize midR s = M at *
    have HL := Lib.hid hl
    have hM : M.length ≤ 512 := by omega
    have CMl := Lib.hid (fun A c W h => CM.out A c M W h hM)
    clear hl CM
    go_enter Try.func24, Try.ntmps24
    go_wp2_with fail
    refine (CA.out _ B0.out).mono ?_
    rintro e x1 ⟨A, c, rfl, R, hc, K⟩
    have D1 := Lib.hid (B0.out.trans (K.mono B0.out.size))
    rw [HL.out] at hc ⊢
    obtain ⟨b, off, rfl, _, _⟩ := R 0 (Bt.eU (toU 0)) (by rw [e2]; rfl)
    have SUB : Hid (Bt.Reads x1 (some ⟨b, off + 1, none⟩) (Bt.vV M)) := fun j v hj => by
      have hjl : j < (Bt.vV M).length := (List.getElem?_eq_some_iff.1 hj).1
      obtain ⟨b', o', e, h1, h2⟩ := R (j + 1) v (by
        rw [e2]
        unfold Bt.vV at hj hjl ⊢
        rw [List.map_append, List.map_append, List.append_assoc, List.map_singleton, List.singleton_append, List.getElem?_cons_succ, List.getElem?_append_left hjl]
        exact hj)
      cases e
      exact ⟨b, off + 1, rfl, h1, by rw [show off + 1 + j = off + (j + 1) by omega]; exact h2⟩
    clear K B0 CA R e2 HL
    generalize M.length = n at *
    have y1 : n + 2 - 1 = n + 1 := by omega
    have y2 : ¬ c = 1 := by omega
    have y3 : ¬ c < n + 1 := by omega
    have y4 : n + 1 ≤ c := by omega
    have y5 : IntKind.i64.wrap (((n + 2 : Nat) : Int) - 1) = ((n + 1 : Nat) : Int) := by rw [IntKind.wrap_i64]; omega
    go_wp2_with fail
    refine (CMl.out _ _ _ SUB.out).mono ?_
    rintro e x2 ⟨A2, c2, rfl, R2, K⟩
    have R2 := Lib.hid R2
    have D2 := Lib.hid (D1.out.trans (K.mono D1.out.size))
    clear K
    go_wp2
    go_ret2
    exact ⟨A2, c2, by rw [Bt.vV_len]; rfl, R2.out, D2.out⟩
  · have z1 : (anyE s == 0) = false := by simpa using hE
    rw [mnL_no hE]
    generalize anyE s = E at *
    go_enter Try.func24, Try.ntmps24
    go_wp2_with fail
    refine (CA.out _ B0.out).mono ?_
    rintro e x1 ⟨A, c, rfl, R, hc, K⟩
    have D1 := Lib.hid (B0.out.trans (K.mono B0.out.size))
    clear K B0 CA CM R hc
    go_wp2
    go_ret2
    exact AllP.fail D1.out
theorem below_drew0 (W : World) : Below W.heap.size W W.drew := (Below.refl _ _).drew
theorem beqI' {a b : Int} (h : a = b) : (a == b) = true := by rw [h]; simp
theorem nbeqI' {a b : Int} (h : ¬ a = b) : (a == b) = false := by simpa using h
set_option maxHeartbeats 4000000 in
theorem rmin_law (s : SysV) (w : World) (hr : SysR w s) (hw : ¬ (8 < s.st ∧ s.st ≤ 12)) : Calls Try.prog 25 #[.agg #[.int .i64 s.st, .slice s.EA s.el s.ec, .slice s.AA s.ar.length s.ac]] w (AllP w.heap.size w (mnL s) (anyE s)) := by
  have CA : Hid (∀ W, Below w.heap.size w W → Calls Try.prog 22 #[.agg #[.int .i64 s.st, .slice s.EA s.el s.ec, .slice s.AA s.ar.length s.ac]] W (AllP W.heap.size W (anyL s) (anyE s))) := fun W hW => rall_law s W (hr.below hW (Nat.le_refl _)) hw
  have B0 : Hid (Below w.heap.size w (w.alloc (.cells #[.int .i64 s.st, .slice s.EA s.el s.ec, .slice s.AA s.ar.length s.ac] 25))) := (Below.refl _ _).alloc (Nat.le_refl _) _
  have q0 : (w.alloc (.cells #[.int .i64 s.st, .slice s.EA s.el s.ec, .slice s.AA s.ar.length s.ac] 25)).cell? ⟨w.heap.size, 0, none⟩ = some (.int .i64 s.st) := by simp
  have q1 : (w.alloc (.cells #[.int .i64 s.st, .slice s.EA s.el s.ec, .slice s.AA s.ar.length s.ac] 25)).cell? ⟨w.heap.size, 1, none⟩ = some (.slice s.EA s.el s.ec) := by simp
  have q2 : (w.alloc (.cells #[.int .i64 s.st, .slice s.EA s.el s.ec, .slice s.AA s.ar.length s.ac] 25)).cell? ⟨w.heap.size, 2, none⟩ = some (.slice s.AA s.ar.length s.ac) := by simp
  clear hr
  by_cases hE : anyE s = 0
  rotate_left
  · have z1 : (anyE s == 0) = false := by simpa using hE
    rw [mnL_no hE]
    generalize anyE s = E at *
    go_enter Try.func25, Try.ntmps25
    go_wp2_with fail
    refine (CA.out _ B0.out).mono ?_
    rintro e x1 ⟨A, c, rfl, R, K⟩
    have D1 := Lib.hid (B0.out.trans (K.mono B0.out.size))
    clear K B0 CA R
    go_wp2
    go_ret2
    exact AllP.fail D1.out
  · obtain ⟨h1, h2, h3⟩ := anyE_zero hE
    have hp := okS_parts h1
    have e1 := (any_ok h1 h2).1.trans (resL_yes h3).1
    have e4 := mid_filter h1 h2
    rw [mnL_yes hE, show minR s = Bt.minU (midR s) from rfl, hE]
    rw [hE, e1] at CA
    have CAl : Hid (∀ W, Calls Try.prog 26 #[.int .i64 s.st] W (fun e w' => e = .returned (.int .u64 (Bt.allV s.st : Nat)) ∧ W = w')) := fun W => Bt.rall_any _ W (by omega) (by omega)
    clear h1 h2 hE e1 hp hw
    generalize allR s = L at *
    rw [← fi_all] at e4
    have CM : Hid (∀ A c W, Bt.Reads W A (Bt.vV (midR s)) → Calls Try.prog 39 #[.slice A (midR s).length c] W (Bt.ListPost W.heap.size W (Bt.vV (Bt.minU (midR s))))) := fun A c W h => by
      have hl : (midR s).length ≤ 1000 := by rw [← e4]; have := fi_len (Bt.allV s.st) L L.length; omega
      have := Bt.rminimal_law A (midR s) c W h hl
      rw [Bt.acc_min] at this
      exact this
    have E4 := Lib.hid e4
    clear e4
    generalize midR s = M at *
    generalize Bt.allV s.st = al at *
    unfold AllP at CA
    have FS : Hid (∀ i, i < L.length → fiL al L (i + 1) = if keepB al (Bt.ug L i) = true then fiL al L i ++ [Bt.ug L i] else fiL al L i) := fun i hi => fi_snoc al hi
    have FL : Hid (∀ i, (fiL al L i).length ≤ i) := fi_len al L
    have F0 : Hid (fiL al L 0 = []) := rfl
    generalize fiL al L = cf at *
    have GE : Hid (∀ i, i < L.length → (Bt.vV L)[i]? = some (.int .u64 (((Bt.ug L i).1 : Nat) : Int))) := fun i hi => Bt.vV_at (Bt.ug_some hi)
    generalize Bt.ug L = ge at *
    generalize Bt.vV L = VL at *
    generalize L.length = n at *
    go_enter Try.func25, Try.ntmps25
    go_wp2_with fail
    refine (CA.out _ B0.out).mono ?_
    rintro e wq ⟨A, c, rfl, RA, K⟩
    have q0 := keepc q0 K
    have q1 := keepc q1 K
    have q2 := keepc q2 K
    have RA := Lib.hid RA
    have D1 := Lib.hid (B0.out.trans (K.mono B0.out.size))
    clear K B0 CA
    go_wp2_with fail
    obtain ⟨z, hz⟩ : ∃ z, z = wq.heap.size := ⟨_, rfl⟩
    have PZ : Hid (∀ W, Below z wq W → W.cell? ⟨w.heap.size, 0, none⟩ = some (.int .i64 s.st) ∧ Below w.heap.size w W ∧ Bt.Reads W A VL) := fun W hW => by
      rw [hz] at hW
      exact ⟨keepc q0 hW, D1.out.trans (hW.mono D1.out.size), RA.out.below hW (Nat.le_refl _)⟩
    have HZ := Lib.hid hz
    clear hz q0 q1 q2 D1 RA
    go_loopw [6, 7] (fun o q wr => ∃ i : Nat, i ≤ n ∧ q = .int .i64 (i : Int) ∧ Hid (OwnU wr z o (cf i)) ∧ Hid (Below z wq wr)) (fun _ q _ => n - (intOf q).toNat)
    case atStart => exact ⟨0, by omega, rfl, by show OwnU _ _ _ _; rw [F0.out]; exact OwnU.nil _ _, Below.refl _ _⟩
    case round =>
      obtain ⟨i, hi, rfl, O, HB2⟩ := hrel
      obtain ⟨q0, hW, hRd⟩ := PZ.out _ HB2.out
      have HW := Lib.hid hW
      have HRd := Lib.hid hRd
      have hs2 := HB2.out.size
      rw [← HZ.out] at hs2
      clear hW hRd
      by_cases hlt : i < n
      · obtain ⟨b, off, rfl, hx⟩ := HRd.out.at_ (GE.out i hlt)
        have FSi := Lib.hid (FS.out i hlt)
        have hli := FL.out i
        clear FS FL GE HRd PZ
        generalize hg : ge i = gi at *
        clear hg
        obtain ⟨x, hx64⟩ := gi
        dsimp only at *
        have hlt' : (i : Int) < (n : Int) := by omega
        go_wp2_with fail
        by_cases hx0 : x = 0
        · have E : Hid (cf (i + 1) = cf i) := by show _ = _; rw [FSi.out, keep_zero hx0]; rfl
          have y0 : ((x : Int) == 0) = true := beqI' (by omega)
          have y0' : ((x : Int) != 0) = false := by rw [bne, y0]; rfl
          clear FSi CAl hx0
          go_upto_region 8 with fail
          refine wp_region_held_drew (S := fun w' => w'.cell? ⟨b, off + i, none⟩ = some (.int .u64 (x : Int)) ∧ w'.cell? ⟨w.heap.size, 0, none⟩ = some (.int .i64 s.st) ∧ Hid (Below z wq w')) (by kernel_rfl) ?_ (fun hHeld => ?_)
          · exact ⟨hx, q0, HB2.out.drew⟩
          refine wpAnyH_take (oi := ⟨_, _, _, _, _, _⟩) (i := 0) (v := ?_) rfl (by kernel_rfl) (by kernel_rfl) (by kernel_rfl) (fun _ _ _ h => h) (Or.inl ⟨by rfl, ?yp0⟩) (by assumption) ?rp0
          case yp0 => (intro w hSw; (try dsimp only at hSw); go_simp; (try with_reducible rfl))
          try simp only [Act.put, List.setIfInBounds_toArray, List.set_cons_zero, List.set_cons_succ]
          refine wpAnyH_take (oi := ⟨_, _, _, _, _, _⟩) (i := 1) (v := ?_) rfl (by kernel_rfl) (by kernel_rfl) (by kernel_rfl) (fun _ _ _ h => h) (Or.inl ⟨by rfl, ?yp1⟩) (by assumption) ?rp1
          case yp1 => (intro w hSw; (try dsimp only at hSw); go_simp; (try with_reducible rfl))
          try simp only [Act.put, List.setIfInBounds_toArray, List.set_cons_zero, List.set_cons_succ]
          refine wpAnyH_take (oi := ⟨_, _, _, _, _, _⟩) (i := 2) (v := ?_) rfl (by kernel_rfl) (by kernel_rfl) (by kernel_rfl) (fun _ _ _ h => h) (Or.inl ⟨by rfl, ?yp2⟩) (by assumption) ?rp2
          case yp2 => (intro w hSw; (try dsimp only at hSw); go_simp; (try with_reducible rfl))
          try simp only [Act.put, List.setIfInBounds_toArray, List.set_cons_zero, List.set_cons_succ]
          refine wpAnyH_take (oi := ⟨_, _, _, _, _, _⟩) (i := 3) (v := ?_) rfl (by kernel_rfl) (by kernel_rfl) (by kernel_rfl) (fun _ _ _ h => h) (Or.inl ⟨by rfl, ?yp3⟩) (by assumption) ?rp3
          case yp3 => (intro w hSw; (try dsimp only at hSw); go_simp; (try with_reducible rfl))
          try simp only [Act.put, List.setIfInBounds_toArray, List.set_cons_zero, List.set_cons_succ]
          refine wpAnyH_take (oi := ⟨_, _, _, _, _, _⟩) (i := 4) (v := ?_) rfl (by kernel_rfl) (by kernel_rfl) (by kernel_rfl) (fun _ _ _ h => h) (Or.inl ⟨by rfl, ?yp4⟩) (by assumption) ?rp4
          case yp4 => (intro w hSw; (try dsimp only at hSw); go_simp; (try with_reducible rfl))
          try simp only [Act.put, List.setIfInBounds_toArray, List.set_cons_zero, List.set_cons_succ]
          refine wpAnyH_take (oi := ⟨_, _, _, _, _, _⟩) (i := 5) (v := ?_) rfl (by kernel_rfl) (by kernel_rfl) (by kernel_rfl) (fun _ _ _ h => h) (Or.inl ⟨by rfl, ?yp5⟩) (by assumption) ?rp5
          case yp5 => (intro w hSw; (try dsimp only at hSw); go_simp; (try with_reducible rfl))
          try simp only [Act.put, List.setIfInBounds_toArray, List.set_cons_zero, List.set_cons_succ]
          refine wpAnyH_take (oi := ⟨_, _, _, _, _, _⟩) (i := 6) rfl (by kernel_rfl) (by kernel_rfl) (by kernel_rfl) (fun _ _ _ h => h) (Or.inr ⟨by rfl, rfl⟩) (by assumption) ?rp6
          try simp only [Act.put, List.setIfInBounds_toArray, List.set_cons_zero, List.set_cons_succ]
          refine wpAnyH_take (oi := ⟨_, _, _, _, _, _⟩) (i := 7) rfl (by kernel_rfl) (by kernel_rfl) (by kernel_rfl) (fun _ _ _ h => h) (Or.inr ⟨by rfl, rfl⟩) (by assumption) ?rp7
          try simp only [Act.put, List.setIfInBounds_toArray, List.set_cons_zero, List.set_cons_succ]
          refine wpAnyH_take (oi := ⟨_, _, _, _, _, _⟩) (i := 8) rfl (by kernel_rfl) (by kernel_rfl) (by kernel_rfl) (fun _ _ _ h => h) (Or.inr ⟨by rfl, rfl⟩) (by assumption) ?rp8
          try simp only [Act.put, List.setIfInBounds_toArray, List.set_cons_zero, List.set_cons_succ]
          refine wpAnyH_take (oi := ⟨_, _, _, _, _, _⟩) (i := 9) rfl (by kernel_rfl) (by kernel_rfl) (by kernel_rfl) (fun _ _ _ h => h) (Or.inr ⟨by rfl, rfl⟩) (by assumption) ?rp9
          try simp only [Act.put, List.setIfInBounds_toArray, List.set_cons_zero, List.set_cons_succ]
          refine wpAnyH_take (oi := ⟨_, _, _, _, _, _⟩) (i := 10) rfl (by kernel_rfl) (by kernel_rfl) (by kernel_rfl) (fun _ _ _ h => h) (Or.inr ⟨by rfl, rfl⟩) (by assumption) ?rp10
          try simp only [Act.put, List.setIfInBounds_toArray, List.set_cons_zero, List.set_cons_succ]
          refine wpAnyH_take (oi := ⟨_, _, _, _, _, _⟩) (i := 11) rfl (by kernel_rfl) (by kernel_rfl) (by kernel_rfl) (fun _ _ _ h => h) (Or.inr ⟨by rfl, rfl⟩) (by assumption) ?rp11
          try simp only [Act.put, List.setIfInBounds_toArray, List.set_cons_zero, List.set_cons_succ]
          refine wpAnyH_take (oi := ⟨_, _, _, _, _, _⟩) (i := 12) rfl (by kernel_rfl) (by kernel_rfl) (by kernel_rfl) (fun _ _ _ h => h) (Or.inr ⟨by rfl, rfl⟩) (by assumption) ?rp12
          try simp only [Act.put, List.setIfInBounds_toArray, List.set_cons_zero, List.set_cons_succ]
          refine wpAnyH_take (oi := ⟨_, _, _, _, _, _⟩) (i := 13) rfl (by kernel_rfl) (by kernel_rfl) (by kernel_rfl) (fun _ _ _ h => h) (Or.inr ⟨by rfl, rfl⟩) (by assumption) ?rp13
          try simp only [Act.put, List.setIfInBounds_toArray, List.set_cons_zero, List.set_cons_succ]
          refine wpAnyH_take (oi := ⟨_, _, _, _, _, _⟩) (i := 14) (v := ?_) rfl (by kernel_rfl) (by kernel_rfl) (by kernel_rfl) (fun _ _ _ h => h) (Or.inl ⟨by rfl, ?yp14⟩) (by assumption) ?rp14
          case yp14 => (intro w hSw; (try dsimp only at hSw); go_simp; (try with_reducible rfl))
          try simp only [Act.put, List.setIfInBounds_toArray, List.set_cons_zero, List.set_cons_succ]
          refine wpAnyH_done (by kernel_rfl) ?_ _
          have HB3 := hHeld.2.2
          have O3 := Lib.hid (O.out.below (below_drew0 wr) (Nat.le_refl _))
          rw [← E.out] at O3
          clear hHeld O
          go_wp2
          go_roundw
          case rel => exact ⟨i + 1, by omega, by go_num, O3, HB3⟩
          case measure => simp [intOf]; omega
        · have y0 : ((x : Int) == 0) = false := nbeqI' (by omega)
          have y0' : ((x : Int) != 0) = true := by rw [bne, y0]; rfl
          by_cases hxa : x = al
          · have E : Hid (cf (i + 1) = cf i) := by show _ = _; rw [FSi.out, keep_full hxa]; rfl
            have y1 : ((x : Int) == (al : Int)) = true := beqI' (by omega)
            have y1' : ((x : Int) != (al : Int)) = false := by rw [bne, y1]; rfl
            clear FSi hxa hx0
            go_upto_region 8 with fail
            refine wp_region_held_drew (S := fun w' => w'.cell? ⟨b, off + i, none⟩ = some (.int .u64 (x : Int)) ∧ w'.cell? ⟨w.heap.size, 0, none⟩ = some (.int .i64 s.st) ∧ Hid (Below z wq w')) (by kernel_rfl) ?_ (fun hHeld => ?_)
            · exact ⟨hx, q0, HB2.out.drew⟩
            refine wpAnyH_take (oi := ⟨_, _, _, _, _, _⟩) (i := 0) (v := ?_) rfl (by kernel_rfl) (by kernel_rfl) (by kernel_rfl) (fun _ _ _ h => h) (Or.inl ⟨by rfl, ?yq0⟩) (by assumption) ?rq0
            case yq0 => (intro w hSw; (try dsimp only at hSw); go_simp; (try with_reducible rfl))
            try simp only [Act.put, List.setIfInBounds_toArray, List.set_cons_zero, List.set_cons_succ]
            refine wpAnyH_take (oi := ⟨_, _, _, _, _, _⟩) (i := 1) (v := ?_) rfl (by kernel_rfl) (by kernel_rfl) (by kernel_rfl) (fun _ _ _ h => h) (Or.inl ⟨by rfl, ?yq1⟩) (by assumption) ?rq1
            case yq1 => (intro w hSw; (try dsimp only at hSw); go_simp; (try with_reducible rfl))
            try simp only [Act.put, List.setIfInBounds_toArray, List.set_cons_zero, List.set_cons_succ]
            refine wpAnyH_take (oi := ⟨_, _, _, _, _, _⟩) (i := 2) (v := ?_) rfl (by kernel_rfl) (by kernel_rfl) (by kernel_rfl) (fun _ _ _ h => h) (Or.inl ⟨by rfl, ?yq2⟩) (by assumption) ?rq2
            case yq2 => (intro w hSw; (try dsimp only at hSw); go_simp; (try with_reducible rfl))
            try simp only [Act.put, List.setIfInBounds_toArray, List.set_cons_zero, List.set_cons_succ]
            refine wpAnyH_take (oi := ⟨_, _, _, _, _, _⟩) (i := 3) (v := ?_) rfl (by kernel_rfl) (by kernel_rfl) (by kernel_rfl) (fun _ _ _ h => h) (Or.inl ⟨by rfl, ?yq3⟩) (by assumption) ?rq3
            case yq3 => (intro w hSw; (try dsimp only at hSw); go_simp; (try with_reducible rfl))
            try simp only [Act.put, List.setIfInBounds_toArray, List.set_cons_zero, List.set_cons_succ]
            refine wpAnyH_take (oi := ⟨_, _, _, _, _, _⟩) (i := 4) (v := ?_) rfl (by kernel_rfl) (by kernel_rfl) (by kernel_rfl) (fun _ _ _ h => h) (Or.inl ⟨by rfl, ?yq4⟩) (by assumption) ?rq4
            case yq4 => (intro w hSw; (try dsimp only at hSw); go_simp; (try with_reducible rfl))
            try simp only [Act.put, List.setIfInBounds_toArray, List.set_cons_zero, List.set_cons_succ]
            refine wpAnyH_take (oi := ⟨_, _, _, _, _, _⟩) (i := 5) (v := ?_) rfl (by kernel_rfl) (by kernel_rfl) (by kernel_rfl) (fun _ _ _ h => h) (Or.inl ⟨by rfl, ?yq5⟩) (by assumption) ?rq5
            case yq5 => (intro w hSw; (try dsimp only at hSw); go_simp; (try with_reducible rfl))
            try simp only [Act.put, List.setIfInBounds_toArray, List.set_cons_zero, List.set_cons_succ]
            refine wpAnyH_take (oi := ⟨_, _, _, _, _, _⟩) (i := 6) (v := ?_) rfl (by kernel_rfl) (by kernel_rfl) (by kernel_rfl) (fun _ _ _ h => h) (Or.inl ⟨by rfl, ?yq6⟩) (by assumption) ?rq6
            case yq6 => (intro w hSw; (try dsimp only at hSw); go_simp; (try with_reducible rfl))
            try simp only [Act.put, List.setIfInBounds_toArray, List.set_cons_zero, List.set_cons_succ]
            refine wpAnyH_take (oi := ⟨_, _, _, _, _, _⟩) (i := 7) (v := ?_) rfl (by kernel_rfl) (by kernel_rfl) (by kernel_rfl) (fun _ _ _ h => h) (Or.inl ⟨by rfl, ?yq7⟩) (by assumption) ?rq7
            case yq7 => (intro w hSw; (try dsimp only at hSw); go_simp; (try with_reducible rfl))
            try simp only [Act.put, List.setIfInBounds_toArray, List.set_cons_zero, List.set_cons_succ]
            refine wpAnyH_take (oi := ⟨_, _, _, _, _, _⟩) (i := 8) (v := ?_) rfl (by kernel_rfl) (by kernel_rfl) (by kernel_rfl) (fun _ _ _ h => h) (Or.inl ⟨by rfl, ?yq8⟩) (by assumption) ?rq8
            case yq8 => (intro w hSw; (try dsimp only at hSw); go_simp; (try with_reducible rfl))
            try simp only [Act.put, List.setIfInBounds_toArray, List.set_cons_zero, List.set_cons_succ]
            refine wpAnyH_take (oi := ⟨_, _, _, _, _, _⟩) (i := 9) (v := ?_) rfl (by kernel_rfl) (by kernel_rfl) (by kernel_rfl) (fun _ _ _ h => h) (Or.inl ⟨by rfl, ?yq9⟩) (by assumption) ?rq9
            case yq9 => (intro w hSw; (try dsimp only at hSw); go_simp; (try with_reducible rfl))
            try simp only [Act.put, List.setIfInBounds_toArray, List.set_cons_zero, List.set_cons_succ]
            refine wpAnyH_take (oi := ⟨_, _, _, _, _, _⟩) (i := 10) (v := ?_) rfl (by kernel_rfl) (by kernel_rfl) (by kernel_rfl) (fun _ _ _ h => h) (Or.inl ⟨by rfl, ?yq10⟩) (by assumption) ?rq10
            case yq10 => (intro w hSw; (try dsimp only at hSw); go_simp; (try with_reducible rfl))
            try simp only [Act.put, List.setIfInBounds_toArray, List.set_cons_zero, List.set_cons_succ]
            refine wpAnyH_take (oi := ⟨_, _, _, _, _, _⟩) (i := 11) (v := ?_) rfl (by kernel_rfl) (by kernel_rfl) (by kernel_rfl) (fun _ _ _ h => h) (Or.inl ⟨by rfl, ?yq11⟩) (by assumption) ?rq11
            case yq11 => (intro w hSw; (try dsimp only at hSw); go_simp; (try with_reducible rfl))
            try simp only [Act.put, List.setIfInBounds_toArray, List.set_cons_zero, List.set_cons_succ]
            refine wpAnyH_ready (rs := [12]) (by kernel_rfl) (by simp) ?_
            refine AllReadyH.cons (o := ⟨_, _, _, _, _, _⟩) rfl (fun K hK => ?_) AllReadyH.nil
            go_simp
            go_at_call 26; refine (CAl.out _).mono ?_; rintro e w4 ⟨rfl, rfl⟩; (try go_wp2_with fail)
            refine hK.out _ _ ?_ (fun hHeld2 => ?_)
            · exact hHeld
            clear hK K hHeld
            have hHeld := hHeld2
            clear hHeld2
            try simp only [Act.put, List.setIfInBounds_toArray, List.set_cons_zero, List.set_cons_succ]
            refine wpAnyH_take (oi := ⟨_, _, _, _, _, _⟩) (i := 13) (v := ?_) rfl (by kernel_rfl) (by kernel_rfl) (by kernel_rfl) (fun _ _ _ h => h) (Or.inl ⟨by rfl, ?yq13⟩) (by assumption) ?rq13
            case yq13 => (intro w hSw; (try dsimp only at hSw); go_simp; (try with_reducible rfl))
            try simp only [Act.put, List.setIfInBounds_toArray, List.set_cons_zero, List.set_cons_succ]
            refine wpAnyH_take (oi := ⟨_, _, _, _, _, _⟩) (i := 14) (v := ?_) rfl (by kernel_rfl) (by kernel_rfl) (by kernel_rfl) (fun _ _ _ h => h) (Or.inl ⟨by rfl, ?yq14⟩) (by assumption) ?rq14
            case yq14 => (intro w hSw; (try dsimp only at hSw); go_simp; (try with_reducible rfl))
            try simp only [Act.put, List.setIfInBounds_toArray, List.set_cons_zero, List.set_cons_succ]
            refine wpAnyH_done (by kernel_rfl) ?_ _
            have HB3 := hHeld.2.2
            have O3 := Lib.hid (O.out.below (below_drew0 wr) (Nat.le_refl _))
            rw [← E.out] at O3
            clear hHeld O
            go_wp2
            go_roundw
            case rel => exact ⟨i + 1, by omega, by go_num, O3, HB3⟩
            case measure => simp [intOf]; omega
          · have y1 : ((x : Int) == (al : Int)) = false := nbeqI' (by omega)
            have y1' : ((x : Int) != (al : Int)) = true := by rw [bne, y1]; rfl
            have E : Hid (cf (i + 1) = cf i ++ [⟨x, hx64⟩]) := by show _ = _; rw [FSi.out, keep_yes hx0 hxa]; rfl
            clear FSi hxa hx0
            go_upto_region 8 with fail
            refine wp_region_held_drew (S := fun w' => w'.cell? ⟨b, off + i, none⟩ = some (.int .u64 (x : Int)) ∧ w'.cell? ⟨w.heap.size, 0, none⟩ = some (.int .i64 s.st) ∧ Hid (Below z wq w')) (by kernel_rfl) ?_ (fun hHeld => ?_)
            · exact ⟨hx, q0, HB2.out.drew⟩
            refine wpAnyH_take (oi := ⟨_, _, _, _, _, _⟩) (i := 0) (v := ?_) rfl (by kernel_rfl) (by kernel_rfl) (by kernel_rfl) (fun _ _ _ h => h) (Or.inl ⟨by rfl, ?yr0⟩) (by assumption) ?rr0
            case yr0 => (intro w hSw; (try dsimp only at hSw); go_simp; (try with_reducible rfl))
            try simp only [Act.put, List.setIfInBounds_toArray, List.set_cons_zero, List.set_cons_succ]
            refine wpAnyH_take (oi := ⟨_, _, _, _, _, _⟩) (i := 1) (v := ?_) rfl (by kernel_rfl) (by kernel_rfl) (by kernel_rfl) (fun _ _ _ h => h) (Or.inl ⟨by rfl, ?yr1⟩) (by assumption) ?rr1
            case yr1 => (intro w hSw; (try dsimp only at hSw); go_simp; (try with_reducible rfl))
            try simp only [Act.put, List.setIfInBounds_toArray, List.set_cons_zero, List.set_cons_succ]
            refine wpAnyH_take (oi := ⟨_, _, _, _, _, _⟩) (i := 2) (v := ?_) rfl (by kernel_rfl) (by kernel_rfl) (by kernel_rfl) (fun _ _ _ h => h) (Or.inl ⟨by rfl, ?yr2⟩) (by assumption) ?rr2
            case yr2 => (intro w hSw; (try dsimp only at hSw); go_simp; (try with_reducible rfl))
            try simp only [Act.put, List.setIfInBounds_toArray, List.set_cons_zero, List.set_cons_succ]
            refine wpAnyH_take (oi := ⟨_, _, _, _, _, _⟩) (i := 3) (v := ?_) rfl (by kernel_rfl) (by kernel_rfl) (by kernel_rfl) (fun _ _ _ h => h) (Or.inl ⟨by rfl, ?yr3⟩) (by assumption) ?rr3
            case yr3 => (intro w hSw; (try dsimp only at hSw); go_simp; (try with_reducible rfl))
            try simp only [Act.put, List.setIfInBounds_toArray, List.set_cons_zero, List.set_cons_succ]
            refine wpAnyH_take (oi := ⟨_, _, _, _, _, _⟩) (i := 4) (v := ?_) rfl (by kernel_rfl) (by kernel_rfl) (by kernel_rfl) (fun _ _ _ h => h) (Or.inl ⟨by rfl, ?yr4⟩) (by assumption) ?rr4
            case yr4 => (intro w hSw; (try dsimp only at hSw); go_simp; (try with_reducible rfl))
            try simp only [Act.put, List.setIfInBounds_toArray, List.set_cons_zero, List.set_cons_succ]
            refine wpAnyH_take (oi := ⟨_, _, _, _, _, _⟩) (i := 5) (v := ?_) rfl (by kernel_rfl) (by kernel_rfl) (by kernel_rfl) (fun _ _ _ h => h) (Or.inl ⟨by rfl, ?yr5⟩) (by assumption) ?rr5
            case yr5 => (intro w hSw; (try dsimp only at hSw); go_simp; (try with_reducible rfl))
            try simp only [Act.put, List.setIfInBounds_toArray, List.set_cons_zero, List.set_cons_succ]
            refine wpAnyH_take (oi := ⟨_, _, _, _, _, _⟩) (i := 6) (v := ?_) rfl (by kernel_rfl) (by kernel_rfl) (by kernel_rfl) (fun _ _ _ h => h) (Or.inl ⟨by rfl, ?yr6⟩) (by assumption) ?rr6
            case yr6 => (intro w hSw; (try dsimp only at hSw); go_simp; (try with_reducible rfl))
            try simp only [Act.put, List.setIfInBounds_toArray, List.set_cons_zero, List.set_cons_succ]
            refine wpAnyH_take (oi := ⟨_, _, _, _, _, _⟩) (i := 7) (v := ?_) rfl (by kernel_rfl) (by kernel_rfl) (by kernel_rfl) (fun _ _ _ h => h) (Or.inl ⟨by rfl, ?yr7⟩) (by assumption) ?rr7
            case yr7 => (intro w hSw; (try dsimp only at hSw); go_simp; (try with_reducible rfl))
            try simp only [Act.put, List.setIfInBounds_toArray, List.set_cons_zero, List.set_cons_succ]
            refine wpAnyH_take (oi := ⟨_, _, _, _, _, _⟩) (i := 8) (v := ?_) rfl (by kernel_rfl) (by kernel_rfl) (by kernel_rfl) (fun _ _ _ h => h) (Or.inl ⟨by rfl, ?yr8⟩) (by assumption) ?rr8
            case yr8 => (intro w hSw; (try dsimp only at hSw); go_simp; (try with_reducible rfl))
            try simp only [Act.put, List.setIfInBounds_toArray, List.set_cons_zero, List.set_cons_succ]
            refine wpAnyH_take (oi := ⟨_, _, _, _, _, _⟩) (i := 9) (v := ?_) rfl (by kernel_rfl) (by kernel_rfl) (by kernel_rfl) (fun _ _ _ h => h) (Or.inl ⟨by rfl, ?yr9⟩) (by assumption) ?rr9
            case yr9 => (intro w hSw; (try dsimp only at hSw); go_simp; (try with_reducible rfl))
            try simp only [Act.put, List.setIfInBounds_toArray, List.set_cons_zero, List.set_cons_succ]
            refine wpAnyH_take (oi := ⟨_, _, _, _, _, _⟩) (i := 10) (v := ?_) rfl (by kernel_rfl) (by kernel_rfl) (by kernel_rfl) (fun _ _ _ h => h) (Or.inl ⟨by rfl, ?yr10⟩) (by assumption) ?rr10
            case yr10 => (intro w hSw; (try dsimp only at hSw); go_simp; (try with_reducible rfl))
            try simp only [Act.put, List.setIfInBounds_toArray, List.set_cons_zero, List.set_cons_succ]
            refine wpAnyH_take (oi := ⟨_, _, _, _, _, _⟩) (i := 11) (v := ?_) rfl (by kernel_rfl) (by kernel_rfl) (by kernel_rfl) (fun _ _ _ h => h) (Or.inl ⟨by rfl, ?yr11⟩) (by assumption) ?rr11
            case yr11 => (intro w hSw; (try dsimp only at hSw); go_simp; (try with_reducible rfl))
            try simp only [Act.put, List.setIfInBounds_toArray, List.set_cons_zero, List.set_cons_succ]
            refine wpAnyH_ready (rs := [12]) (by kernel_rfl) (by simp) ?_
            refine AllReadyH.cons (o := ⟨_, _, _, _, _, _⟩) rfl (fun K hK => ?_) AllReadyH.nil
            go_simp
            go_at_call 26; refine (CAl.out _).mono ?_; rintro e w4 ⟨rfl, rfl⟩; (try go_wp2_with fail)
            refine hK.out _ _ ?_ (fun hHeld2 => ?_)
            · exact hHeld
            clear hK K hHeld
            have hHeld := hHeld2
            clear hHeld2
            try simp only [Act.put, List.setIfInBounds_toArray, List.set_cons_zero, List.set_cons_succ]
            refine wpAnyH_take (oi := ⟨_, _, _, _, _, _⟩) (i := 13) (v := ?_) rfl (by kernel_rfl) (by kernel_rfl) (by kernel_rfl) (fun _ _ _ h => h) (Or.inl ⟨by rfl, ?yr13⟩) (by assumption) ?rr13
            case yr13 => (intro w hSw; (try dsimp only at hSw); go_simp; (try with_reducible rfl))
            try simp only [Act.put, List.setIfInBounds_toArray, List.set_cons_zero, List.set_cons_succ]
            refine wpAnyH_take (oi := ⟨_, _, _, _, _, _⟩) (i := 14) (v := ?_) rfl (by kernel_rfl) (by kernel_rfl) (by kernel_rfl) (fun _ _ _ h => h) (Or.inl ⟨by rfl, ?yr14⟩) (by assumption) ?rr14
            case yr14 => (intro w hSw; (try dsimp only at hSw); go_simp; (try with_reducible rfl))
            try simp only [Act.put, List.setIfInBounds_toArray, List.set_cons_zero, List.set_cons_succ]
            refine wpAnyH_done (by kernel_rfl) ?_ _
            have HB3 := hHeld.2.2
            have O3 := Lib.hid (O.out.below (below_drew0 wr) (Nat.le_refl _))
            have hx2 := hHeld.1
            have hs3 : z ≤ wr.drew.heap.size := hs2
            clear hHeld O HB2 hx
            generalize wr.drew = w5 at *
            go_wp2_with (at_builtin; refine wpList_u64 rfl (.tmp 37) (.tmp 42) rfl z _ (cf i) ⟨x, hx64⟩ _ rfl rfl (O3.out.alloc _) _ rfl (cell_new1 _ _ _) (by omega) (size_le_alloc hs3 _) ?_; intro v' w6 hown' hb')
            have O5 : Hid (OwnU w6 z v' (cf (i + 1))) := by
              show OwnU _ _ _ _
              rw [E.out]
              exact hown'
            have B5 : Hid (Below z wq w6) := (HB3.out.alloc hs3 _).trans hb'
            clear hown' hb'
            go_wp2
            go_roundw
            case rel => exact ⟨i + 1, by omega, by go_num, O5, B5⟩
            case measure => simp [intOf]; omega
      · obtain rfl : i = n := by omega
        have hO := O.out
        rw [E4.out] at hO
        obtain ⟨_, A5, c5, e5, R5⟩ := Bt.Reads.own hO
        subst e5
        have CM5 := Lib.hid (CM.out A5 c5 _ R5)
        clear FS FL GE HRd PZ R5 hO O CM CAl
        go_wp2_with fail
        refine (CM5.out).mono ?_
        rintro e w6 ⟨A6, c6, rfl, R6, K⟩
        have R6 := Lib.hid R6
        have D2 := Lib.hid (HW.out.trans (K.mono HW.out.size))
        clear K
        go_wp2
        go_ret2
        exact ⟨A6, c6, by rw [Bt.vV_len]; rfl, R6.out, D2.out⟩
end Go.Proofs.Ytnlgfkokaphhjaa
