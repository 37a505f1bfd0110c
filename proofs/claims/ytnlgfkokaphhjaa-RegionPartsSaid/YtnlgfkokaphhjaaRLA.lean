/- Regions: all of them, by the reference; the errors of both. -/
import Derived.Test.YtnlgfkokaphhjaaRUA
namespace Go.Proofs.Ytnlgfkokaphhjaa
open Go.RowKit

def OwnU (w : World) (s : Nat) (v : Value) (L : List Bt.U64) : Prop := w.ownsRow s 26 1 v L.length (Bt.vV L)
theorem OwnU.nil (w : World) (s : Nat) : OwnU w s (.slice none 0 0) [] := World.ownsRow_nil _ _ _ _
theorem OwnU.below {w w' : World} {s B : Nat} {v : Value} {L : List Bt.U64} (h : OwnU w s v L) (hb : Below B w w') (hB : w.heap.size ≤ B) : OwnU w' s v L := own_below h hb hB
theorem OwnU.alloc {w : World} {s : Nat} {v : Value} {L : List Bt.U64} (h : OwnU w s v L) (o : Obj) : OwnU (w.alloc o) s v L := h.below (B := w.heap.size) ((Below.refl _ _).alloc (Nat.le_refl _) _) (Nat.le_refl _)
theorem wpList_u64 {ops : Array Oper} {rest : List Oper} {o : Oper} {a : Act} {w : World} {Q : Exit → Act → World → Prop} (hgd : o.guard = none) (s x : Operand)
    (ho : o.op = .call { callee := .builtin .append, args := #[s, x], argTypes := #[37, 37] })
    (base : Nat) (v : Value) (L : List Bt.U64) (z : Bt.U64) (u : Int) (hu : Bt.eU z = .int .u64 u) (hs : a.eval s = v) (hO : OwnU w base v L) (g : Nat) (hx : a.eval x = .slice (some ⟨g, 0, none⟩) 1 1)
    (hc : w.cell? ⟨g, 0, none⟩ = some (.int .u64 u)) (hl : L.length ≤ 17592186043904) (hbase : base ≤ w.heap.size)
    (h : ∀ v' w', OwnU w' base v' (L ++ [z]) → Below base w w' → wpList Try.prog ops Q rest (a.put o.dst v') w') : wpList Try.prog ops Q (o :: rest) a w := by
  obtain ⟨i, hi, hz, h1, h2⟩ := Bt.info_parts Bt.infoU
  rw [← hu] at hc
  refine wpList_append_own _ hgd s x 37 ho base 26 i (.int .u64 0) 1 8 Try.underlying37 hi hz h1 h2 rfl (by decide) v L.length (Bt.vV L) hs hO ⟨g, 0, none⟩ 1 1 [Bt.eU z] hx rfl ?_ ?_ (by unfold maxLen; omega) (by omega) hbase ?_
  · intro j u hj
    cases j with
    | zero => simp at hj; subst hj; simpa [Addr.add] using hc
    | succ j => simp at hj
  · intro u hu
    simp at hu
    subst hu
    simp [Value.oneCell', Bt.eU]
  · intro v' w' hown hgrow _
    refine h v' w' ?_ ((Below.refl base w).grown hgrow hbase fun q e => (World.ownsRow.lt hO q e).1)
    unfold OwnU
    rw [vV_snoc, List.length_append]
    exact hown
theorem zU_snoc (j : Nat) : zU (j + 1) = zU j ++ [toU j] := by simp [zU, List.range_succ]
theorem AllP.own {g b : Nat} {w w' : World} {L : List Bt.U64} {v : Value} (h : OwnU w' b v L) (hb : Below g w w') : AllP g w L 0 (.returned (.tuple #[v, .int .i64 0])) w' := by
  obtain ⟨_, A, c, e, R⟩ := Bt.Reads.own h
  subst e
  exact ⟨A, c, rfl, R, hb⟩
theorem AllP.fail {g : Nat} {w w' : World} {E : Int} (hb : Below g w w') : AllP g w [] E (.returned (.tuple #[.slice none 0 0, .int .i64 E])) w' := ⟨none, 0, rfl, Bt.Reads.nil _ _, hb⟩
set_option maxHeartbeats 1000000 in
theorem rall_bad (s : SysV) (w : World) (hr : SysR w s) (hok : okS s = false) : Calls Try.prog 22 #[.agg #[.int .i64 s.st, .slice s.EA s.el s.ec, .slice s.AA s.ar.length s.ac]] w (AllP w.heap.size w [] 15) := by
  have CV : Hid (∀ W, Below w.heap.size w W → Calls Try.prog 37 #[.agg #[.int .i64 s.st, .slice s.EA s.el s.ec, .slice s.AA s.ar.length s.ac]] W (VPost W.heap.size W (.bool false))) := fun W hW => by have h := rvalid_any s W (hr.below hW (Nat.le_refl _)); rw [hok] at h; exact h
  have B0 : Hid (Below w.heap.size w (w.alloc (.cells #[.int .i64 s.st, .slice s.EA s.el s.ec, .slice s.AA s.ar.length s.ac] 25))) := (Below.refl _ _).alloc (Nat.le_refl _) _
  have q0 : (w.alloc (.cells #[.int .i64 s.st, .slice s.EA s.el s.ec, .slice s.AA s.ar.length s.ac] 25)).cell? ⟨w.heap.size, 0, none⟩ = some (.int .i64 s.st) := by simp
  have q1 : (w.alloc (.cells #[.int .i64 s.st, .slice s.EA s.el s.ec, .slice s.AA s.ar.length s.ac] 25)).cell? ⟨w.heap.size, 1, none⟩ = some (.slice s.EA s.el s.ec) := by simp
  have q2 : (w.alloc (.cells #[.int .i64 s.st, .slice s.EA s.el s.ec, .slice s.AA s.ar.length s.ac] 25)).cell? ⟨w.heap.size, 2, none⟩ = some (.slice s.AA s.ar.length s.ac) := by simp
  clear hr hok
  go_enter Try.func22, Try.ntmps22
  go_wp2_with fail
  refine (CV.out _ B0.out).mono ?_
  rintro e wq ⟨rfl, K⟩
  have q0 := keepc q0 K
  have q1 := keepc q1 K
  have q2 := keepc q2 K
  have D1 := Lib.hid (B0.out.trans (K.mono B0.out.size))
  clear K B0 CV
  go_wp2
  go_ret2
  exact AllP.fail D1.out
set_option maxHeartbeats 1000000 in
theorem rall_wide (s : SysV) (w : World) (hr : SysR w s) (hok : okS s = true) (h12 : 12 < s.st) : Calls Try.prog 22 #[.agg #[.int .i64 s.st, .slice s.EA s.el s.ec, .slice s.AA s.ar.length s.ac]] w (AllP w.heap.size w [] 2) := by
  have CV : Hid (∀ W, Below w.heap.size w W → Calls Try.prog 37 #[.agg #[.int .i64 s.st, .slice s.EA s.el s.ec, .slice s.AA s.ar.length s.ac]] W (VPost W.heap.size W (.bool true))) := fun W hW => by have h := rvalid_any s W (hr.below hW (Nat.le_refl _)); rw [hok] at h; exact h
  have B0 : Hid (Below w.heap.size w (w.alloc (.cells #[.int .i64 s.st, .slice s.EA s.el s.ec, .slice s.AA s.ar.length s.ac] 25))) := (Below.refl _ _).alloc (Nat.le_refl _) _
  have q0 : (w.alloc (.cells #[.int .i64 s.st, .slice s.EA s.el s.ec, .slice s.AA s.ar.length s.ac] 25)).cell? ⟨w.heap.size, 0, none⟩ = some (.int .i64 s.st) := by simp
  have q1 : (w.alloc (.cells #[.int .i64 s.st, .slice s.EA s.el s.ec, .slice s.AA s.ar.length s.ac] 25)).cell? ⟨w.heap.size, 1, none⟩ = some (.slice s.EA s.el s.ec) := by simp
  have q2 : (w.alloc (.cells #[.int .i64 s.st, .slice s.EA s.el s.ec, .slice s.AA s.ar.length s.ac] 25)).cell? ⟨w.heap.size, 2, none⟩ = some (.slice s.AA s.ar.length s.ac) := by simp
  have z1 : decide ((12 : Int) < s.st) = true := decide_eq_true h12
  clear hr hok
  go_enter Try.func22, Try.ntmps22
  go_wp2_with fail
  refine (CV.out _ B0.out).mono ?_
  rintro e wq ⟨rfl, K⟩
  have q0 := keepc q0 K
  have q1 := keepc q1 K
  have q2 := keepc q2 K
  have D1 := Lib.hid (B0.out.trans (K.mono B0.out.size))
  clear K B0 CV
  go_wp2
  go_ret2
  exact AllP.fail D1.out
set_option maxHeartbeats 4000000 in
theorem rall_small (s : SysV) (w : World) (hr : SysR w s) (hok : okS s = true) (h8 : s.st ≤ 8) : Calls Try.prog 22 #[.agg #[.int .i64 s.st, .slice s.EA s.el s.ec, .slice s.AA s.ar.length s.ac]] w (AllP w.heap.size w (allR s) 0) := by
  have hpp := okS_parts hok
  obtain ⟨p, hp⟩ : ∃ p : Nat, s.st = p := ⟨s.st.toNat, by omega⟩
  have hp8 : p ≤ 8 := by omega
  have hpi : ¬ (12 : Int) < (p : Int) := by omega
  have CV : Hid (∀ W, Below w.heap.size w W → Calls Try.prog 37 #[.agg #[.int .i64 s.st, .slice s.EA s.el s.ec, .slice s.AA s.ar.length s.ac]] W (VPost W.heap.size W (.bool true))) := fun W hW => by have h := rvalid_any s W (hr.below hW (Nat.le_refl _)); rw [hok] at h; exact h
  have B0 : Hid (Below w.heap.size w (w.alloc (.cells #[.int .i64 s.st, .slice s.EA s.el s.ec, .slice s.AA s.ar.length s.ac] 25))) := (Below.refl _ _).alloc (Nat.le_refl _) _
  have q0 : (w.alloc (.cells #[.int .i64 s.st, .slice s.EA s.el s.ec, .slice s.AA s.ar.length s.ac] 25)).cell? ⟨w.heap.size, 0, none⟩ = some (.int .i64 s.st) := by simp
  have q1 : (w.alloc (.cells #[.int .i64 s.st, .slice s.EA s.el s.ec, .slice s.AA s.ar.length s.ac] 25)).cell? ⟨w.heap.size, 1, none⟩ = some (.slice s.EA s.el s.ec) := by simp
  have q2 : (w.alloc (.cells #[.int .i64 s.st, .slice s.EA s.el s.ec, .slice s.AA s.ar.length s.ac] 25)).cell? ⟨w.heap.size, 2, none⟩ = some (.slice s.AA s.ar.length s.ac) := by simp
  have CR : Hid (∀ (S : Nat) W, S < 18446744073709551616 → Below w.heap.size w W → Calls Try.prog 33 #[.agg #[.int .i64 s.st, .slice s.EA s.el s.ec, .slice s.AA s.ar.length s.ac], .int .u64 (S : Nat)] W (VPost W.heap.size W (.bool (regB s.ar s.el S)))) := fun S W hS hW => rregion_any s S W (hr.below hW (Nat.le_refl _)) hS
  have CA : Hid (∀ W, Calls Try.prog 26 #[.int .i64 s.st] W (fun e w' => e = .returned (.int .u64 (Bt.allV s.st : Nat)) ∧ W = w')) := fun W => Bt.rall_any _ W (by omega) (by omega)
  have HA : Bt.allV s.st + 1 = 2 ^ p := by
    have := allV_pow hp (by omega)
    have h1 := Nat.one_le_two_pow (n := p)
    omega
  have H2 : 2 ^ p ≤ 256 := Nat.pow_le_pow_right (n := 2) (by omega) hp8
  have HAL : allR s = rgU s (zU (2 ^ p)) := by unfold allR; rw [hp, Int.toNat_natCast]
  rw [HAL]
  have CFS : Hid (∀ j, j < 256 → rgU s (zU (j + 1)) = if regB s.ar s.el j = true then rgU s (zU j) ++ [toU j] else rgU s (zU j)) := fun j hj => by
    show _ = _
    rw [zU_snoc, rgU_snoc, toU_val (by omega)]
  have CFL : Hid (∀ j, (rgU s (zU j)).length ≤ j) := fun j => Nat.le_trans (rgU_len _ _) (by rw [zU_len]; exact Nat.le_refl _)
  have CF0 : Hid (rgU s (zU 0) = []) := by show _ = _; rfl
  clear hr hok HAL h8 hpp
  obtain ⟨cf, hcf⟩ : ∃ cf, cf = fun j => rgU s (zU j) := ⟨_, rfl⟩
  have hcf2 : ∀ j, rgU s (zU j) = cf j := fun j => by rw [hcf]
  simp only [hcf2] at CFS CFL CF0 ⊢
  clear hcf hcf2
  generalize regB s.ar s.el = cb at *
  generalize Bt.allV s.st = al at *
  generalize 2 ^ p = m at *
  obtain ⟨sst, EA, el, ev, ec, AA, ar, ac⟩ := s
  dsimp only at *
  subst hp
  go_enter Try.func22, Try.ntmps22
  go_wp2_with fail
  refine (CV.out _ B0.out).mono ?_
  rintro e wq ⟨rfl, K⟩
  have q0 := keepc q0 K
  have q1 := keepc q1 K
  have q2 := keepc q2 K
  have D1 := Lib.hid (B0.out.trans (K.mono B0.out.size))
  clear K B0 CV
  go_wp2_with fail
  obtain ⟨z, hz⟩ : ∃ z, z = wq.heap.size := ⟨_, rfl⟩
  have PZ : Hid (∀ W, Below z wq W → W.cell? ⟨w.heap.size, 0, none⟩ = some (.int .i64 (p : Int)) ∧ W.cell? ⟨w.heap.size, 1, none⟩ = some (.slice EA el ec) ∧ W.cell? ⟨w.heap.size, 2, none⟩ = some (.slice AA ar.length ac) ∧ Below w.heap.size w W) := fun W hW => by
    rw [hz] at hW
    exact ⟨keepc q0 hW, keepc q1 hW, keepc q2 hW, D1.out.trans (hW.mono D1.out.size)⟩
  have HZ := Lib.hid hz
  clear hz q0 q1 q2 D1
  go_loopw [4, 5] (fun o q wr => ∃ j : Nat, j ≤ m ∧ q = .int .u64 (j : Int) ∧ Hid (OwnU wr z o (cf j)) ∧ Hid (Below z wq wr)) (fun _ q _ => m - (intOf q).toNat)
  case atStart => exact ⟨0, by omega, rfl, by show OwnU _ _ _ _; rw [CF0.out]; exact OwnU.nil _ _, Below.refl _ _⟩
  case round =>
    obtain ⟨j, hj, rfl, O, HB2⟩ := hrel
    obtain ⟨q0, q1, q2, hW⟩ := PZ.out _ HB2.out
    have HW := Lib.hid hW
    have hs2 := HB2.out.size
    rw [← HZ.out] at hs2
    clear hW
    by_cases hlt : j < m
    · have CFj := CFS.out j (by omega)
      have hlj := CFL.out j
      have CRj := Lib.hid (CR.out j wr (by omega) HW.out)
      have hu : Bt.eU (toU j) = .int .u64 (j : Int) := by show Value.int .u64 _ = _; rw [toU_val (by omega)]
      have z1 : decide ((j : Int) ≤ (al : Int)) = true := decide_eq_true (by omega)
      have z2 : IntKind.u64.wrap ((j : Int) + 1) = ((j + 1 : Nat) : Int) := by rw [IntKind.wrap_u64]; omega
      have HU := Lib.hid hu
      clear hu CFS CFL CR
      generalize cb j = v at *
      cases v
      · have E : Hid (cf (j + 1) = cf j) := by show _ = _; rw [CFj]; rfl
        clear CFj
        go_wp2_with fail
        refine (CA.out _).mono ?_
        rintro e x1 ⟨rfl, rfl⟩
        go_wp2_with fail
        refine (CRj.out).mono ?_
        rintro e w4 ⟨rfl, K⟩
        have O3 := Lib.hid (O.out.below K (Nat.le_refl _))
        rw [← E.out] at O3
        have B4 : Hid (Below z wq w4) := HB2.out.trans (K.mono hs2)
        clear K O HB2 CRj
        go_wp2
        go_roundw
        case rel => exact ⟨j + 1, by omega, by first | go_num | (congr 1), O3, B4⟩
        case measure => simp [intOf]; omega
      · have E : Hid (cf (j + 1) = cf j ++ [toU j]) := by show _ = _; rw [CFj]; rfl
        clear CFj
        go_wp2_with fail
        refine (CA.out _).mono ?_
        rintro e x1 ⟨rfl, rfl⟩
        go_wp2_with fail
        refine (CRj.out).mono ?_
        rintro e w4 ⟨rfl, K⟩
        have O3 : Hid (OwnU w4 z _ (cf j)) := O.out.below K (Nat.le_refl _)
        have B4 : Hid (Below z wq w4) := HB2.out.trans (K.mono hs2)
        clear K O HB2 CRj
        have hs4 := B4.out.size
        rw [← HZ.out] at hs4
        go_wp2_with (at_builtin; refine wpList_u64 rfl (.tmp 22) (.tmp 24) rfl z _ (cf j) (toU j) _ HU.out rfl (O3.out.alloc _) _ rfl (cell_new1 _ _ _) (by omega) (size_le_alloc hs4 _) ?_; intro v' w5 hown' hb')
        have O5 : Hid (OwnU w5 z v' (cf (j + 1))) := by
          show OwnU _ _ _ _
          rw [E.out]
          exact hown'
        have B5 : Hid (Below z wq w5) := (B4.out.alloc hs4 _).trans hb'
        clear hown' hb'
        go_wp2
        go_roundw
        case rel => exact ⟨j + 1, by omega, by first | go_num | (congr 1), O5, B5⟩
        case measure => simp [intOf]; omega
    · obtain rfl : j = m := by omega
      have hlj := CFL.out j
      have z1 : decide ((j : Int) ≤ (al : Int)) = false := decide_eq_false (by omega)
      have z3 : ¬ (j : Int) ≤ (al : Int) := by omega
      obtain ⟨_, A5, c5, e5, -⟩ := Bt.Reads.own O.out
      subst e5
      have n512 : decide ((512 : Int) < (((cf j).length : Nat) : Int)) = false := decide_eq_false (by omega)
      have z5 : ¬ (512 : Int) < (((cf j).length : Nat) : Int) := by omega
      clear CFS CFL CR
      go_wp2_with fail
      refine (CA.out _).mono ?_
      rintro e x1 ⟨rfl, rfl⟩
      go_wp2
      go_ret2
      exact AllP.own O.out HW.out
theorem rall_law (s : SysV) (w : World) (hr : SysR w s) (h : ¬ (8 < s.st ∧ s.st ≤ 12)) : Calls Try.prog 22 #[.agg #[.int .i64 s.st, .slice s.EA s.el s.ec, .slice s.AA s.ar.length s.ac]] w (AllP w.heap.size w (anyL s) (anyE s)) := by
  cases hok : okS s
  · obtain ⟨e1, e2⟩ := any_bad hok
    rw [e1, e2]
    exact rall_bad s w hr hok
  · by_cases h8 : s.st ≤ 8
    · obtain ⟨e1, e2⟩ := any_few hok h8
      rw [e1, e2]
      exact rall_small s w hr hok h8
    · obtain ⟨e1, e2⟩ := any_wide hok (by omega)
      rw [e1, e2]
      exact rall_wide s w hr hok (by omega)
set_option maxHeartbeats 2000000 in
set_option maxRecDepth 100000 in
theorem all_bad (s : SysV) (w : World) (hr : SysR w s) (hok : okS s = false) : Calls Try.prog 21 #[.agg #[.int .i64 s.st, .slice s.EA s.el s.ec, .slice s.AA s.ar.length s.ac]] w (AllC w.heap.size w [] 15) := by
  have CK : Hid (∀ W, Below w.heap.size w W → Calls Try.prog 35 #[.agg #[.int .i64 s.st, .slice s.EA s.el s.ec, .slice s.AA s.ar.length s.ac]] W (FPost W.heap.size W false)) := fun W hW => by have h := check_any s W (hr.below hW (Nat.le_refl _)); rw [hok] at h; exact h
  have hfd := field_fault
  clear hr hok
  have B0 : Hid (Below w.heap.size w (((w.alloc (.cells #[.int .i64 s.st, .slice s.EA s.el s.ec, .slice s.AA s.ar.length s.ac] 25)).alloc (.cells #[.slice none 0 0] 37)).alloc (.cells #[.int .i64 0] 38))) := (((Below.refl _ _).alloc (Nat.le_refl _) _).alloc (by simp) _).alloc (by simp; omega) _
  have q0 : (((w.alloc (.cells #[.int .i64 s.st, .slice s.EA s.el s.ec, .slice s.AA s.ar.length s.ac] 25)).alloc (.cells #[.slice none 0 0] 37)).alloc (.cells #[.int .i64 0] 38)).cell? ⟨w.heap.size, 0, none⟩ = some (.int .i64 s.st) := cellA (cellA (by simp) _) _
  have q1 : (((w.alloc (.cells #[.int .i64 s.st, .slice s.EA s.el s.ec, .slice s.AA s.ar.length s.ac] 25)).alloc (.cells #[.slice none 0 0] 37)).alloc (.cells #[.int .i64 0] 38)).cell? ⟨w.heap.size, 1, none⟩ = some (.slice s.EA s.el s.ec) := cellA (cellA (by simp) _) _
  have q2 : (((w.alloc (.cells #[.int .i64 s.st, .slice s.EA s.el s.ec, .slice s.AA s.ar.length s.ac] 25)).alloc (.cells #[.slice none 0 0] 37)).alloc (.cells #[.int .i64 0] 38)).cell? ⟨w.heap.size, 2, none⟩ = some (.slice s.AA s.ar.length s.ac) := cellA (cellA (by simp) _) _
  have r2 : (((w.alloc (.cells #[.int .i64 s.st, .slice s.EA s.el s.ec, .slice s.AA s.ar.length s.ac] 25)).alloc (.cells #[.slice none 0 0] 37)).alloc (.cells #[.int .i64 0] 38)).cell? ⟨w.heap.size + 1, 0, none⟩ = some (.slice none 0 0) := cellA (by rw [← World.size_alloc w (.cells #[.int .i64 s.st, .slice s.EA s.el s.ec, .slice s.AA s.ar.length s.ac] 25)]; simp) _
  have hz : ((w.alloc (.cells #[.int .i64 s.st, .slice s.EA s.el s.ec, .slice s.AA s.ar.length s.ac] 25)).alloc (.cells #[.slice none 0 0] 37)).heap.size = w.heap.size + 1 + 1 := by rw [World.size_alloc, World.size_alloc]
  have r3 : (((w.alloc (.cells #[.int .i64 s.st, .slice s.EA s.el s.ec, .slice s.AA s.ar.length s.ac] 25)).alloc (.cells #[.slice none 0 0] 37)).alloc (.cells #[.int .i64 0] 38)).cell? ⟨w.heap.size + 1 + 1, 0, none⟩ = some (.int .i64 0) := cell_at _ _ _ _ hz
  have rf : (∀ o, (((w.alloc (.cells #[.int .i64 s.st, .slice s.EA s.el s.ec, .slice s.AA s.ar.length s.ac] 25)).alloc (.cells #[.slice none 0 0] 37)).alloc (.cells #[.int .i64 0] 38)).frozen? ⟨w.heap.size + 1, o, none⟩ = false) ∧ (∀ o, (((w.alloc (.cells #[.int .i64 s.st, .slice s.EA s.el s.ec, .slice s.AA s.ar.length s.ac] 25)).alloc (.cells #[.slice none 0 0] 37)).alloc (.cells #[.int .i64 0] 38)).frozen? ⟨w.heap.size + 1 + 1, o, none⟩ = false) := by
    refine ⟨fun o => ?_, fun o => frozen_at _ _ _ _ _ hz⟩
    rw [((Below.refl (World.heap ((w.alloc (.cells #[.int .i64 s.st, .slice s.EA s.el s.ec, .slice s.AA s.ar.length s.ac] 25)).alloc (.cells #[.slice none 0 0] 37))).size _).alloc (Nat.le_refl _) _).frozen (p := ⟨w.heap.size + 1, o, none⟩) (by simp)]
    exact frozen_at _ _ _ _ _ (by rw [World.size_alloc])
  clear hz
  refine (callsIn_wide (n := 6)).1 (callsIn_of_wp_marks Try.func21 rfl trivial ?_ rfl)
  simp only [Try.ntmps21, List.size_toArray, List.length_cons, List.length_nil, Nat.reduceAdd, Nat.reduceSub, Array.replicate_succ, Array.replicate_zero, List.push_toArray, List.append_toArray, List.nil_append, List.cons_append]
  refine wpIn_wide.2 ?_
  have hzW : (((w.alloc (.cells #[.int .i64 s.st, .slice s.EA s.el s.ec, .slice s.AA s.ar.length s.ac] 25)).alloc (.cells #[.slice none 0 0] 37)).alloc (.cells #[.int .i64 0] 38)).heap.size = w.heap.size + 1 + 1 + 1 := by rw [World.size_alloc, World.size_alloc, World.size_alloc]
  go_wp2_with fail
  refine (CK.out _ B0.out).mono ?_
  rintro e x1 ⟨E, At, rfl, hE, K⟩
  have hE0 : ¬ E = 0 := fun h => absurd (hE.1 h) (by decide)
  have z1 : (E == 0) = false := by simpa using hE0
  have q0 := keepc q0 K
  have q1 := keepc q1 K
  have q2 := keepc q2 K
  have r2 := keepc r2 K
  have r3 := keepc r3 K
  have f2 : x1.frozen? ⟨w.heap.size + 1, 0, none⟩ = false := (K.frozen (p := ⟨w.heap.size + 1, 0, none⟩) (by show w.heap.size + 1 < _; omega)).trans (rf.1 0)
  have f3 : x1.frozen? ⟨w.heap.size + 1 + 1, 0, none⟩ = false := (K.frozen (p := ⟨w.heap.size + 1 + 1, 0, none⟩) (by show w.heap.size + 1 + 1 < _; omega)).trans (rf.2 0)
  have D1 := Lib.hid (B0.out.trans (K.mono B0.out.size))
  clear K B0 hE hzW rf CK
  go_wp2
  have s2 := World.cell?_setCell_same' x1 ⟨w.heap.size + 1, 0, none⟩ (.slice none 0 0) (by rw [r2]; rfl)
  have o3 := (World.cell?_setCell_other x1 ⟨w.heap.size + 1, 0, none⟩ ⟨w.heap.size + 1 + 1, 0, none⟩ (.slice none 0 0) (by intro h; simp only [Addr.mk.injEq] at h; omega)).trans r3
  have s3 := World.cell?_setCell_same' (x1.setCell ⟨w.heap.size + 1, 0, none⟩ (.slice none 0 0)) ⟨w.heap.size + 1 + 1, 0, none⟩ (.int .i64 15) (by rw [o3]; rfl)
  have s2' := (World.cell?_setCell_other (x1.setCell ⟨w.heap.size + 1, 0, none⟩ (.slice none 0 0)) ⟨w.heap.size + 1 + 1, 0, none⟩ ⟨w.heap.size + 1, 0, none⟩ (.int .i64 15) (by intro h; simp only [Addr.mk.injEq] at h; omega)).trans s2
  refine ⟨.tuple #[.slice none 0 0, .int .i64 15], ?_, ⟨none, 0, rfl, Bt.Reads.nil _ _, Nat.le_refl _, (D1.out.setCell (p := ⟨w.heap.size + 1, 0, none⟩) (by simp) _).setCell (p := ⟨w.heap.size + 1 + 1, 0, none⟩) (by simp; omega) _⟩⟩
  simp [results, Try.f21, go_sem, s2', s3]
set_option maxHeartbeats 2000000 in
set_option maxRecDepth 100000 in
theorem all_wide (s : SysV) (w : World) (hr : SysR w s) (hok : okS s = true) (h12 : 12 < s.st) : Calls Try.prog 21 #[.agg #[.int .i64 s.st, .slice s.EA s.el s.ec, .slice s.AA s.ar.length s.ac]] w (AllC w.heap.size w [] 2) := by
  have CK : Hid (∀ W, Below w.heap.size w W → Calls Try.prog 35 #[.agg #[.int .i64 s.st, .slice s.EA s.el s.ec, .slice s.AA s.ar.length s.ac]] W (FPost W.heap.size W true)) := fun W hW => by have h := check_any s W (hr.below hW (Nat.le_refl _)); rw [hok] at h; exact h
  have hfd := field_fault
  have z2 : decide ((12 : Int) < s.st) = true := decide_eq_true h12
  clear hr hok
  have B0 : Hid (Below w.heap.size w (((w.alloc (.cells #[.int .i64 s.st, .slice s.EA s.el s.ec, .slice s.AA s.ar.length s.ac] 25)).alloc (.cells #[.slice none 0 0] 37)).alloc (.cells #[.int .i64 0] 38))) := (((Below.refl _ _).alloc (Nat.le_refl _) _).alloc (by simp) _).alloc (by simp; omega) _
  have q0 : (((w.alloc (.cells #[.int .i64 s.st, .slice s.EA s.el s.ec, .slice s.AA s.ar.length s.ac] 25)).alloc (.cells #[.slice none 0 0] 37)).alloc (.cells #[.int .i64 0] 38)).cell? ⟨w.heap.size, 0, none⟩ = some (.int .i64 s.st) := cellA (cellA (by simp) _) _
  have q1 : (((w.alloc (.cells #[.int .i64 s.st, .slice s.EA s.el s.ec, .slice s.AA s.ar.length s.ac] 25)).alloc (.cells #[.slice none 0 0] 37)).alloc (.cells #[.int .i64 0] 38)).cell? ⟨w.heap.size, 1, none⟩ = some (.slice s.EA s.el s.ec) := cellA (cellA (by simp) _) _
  have q2 : (((w.alloc (.cells #[.int .i64 s.st, .slice s.EA s.el s.ec, .slice s.AA s.ar.length s.ac] 25)).alloc (.cells #[.slice none 0 0] 37)).alloc (.cells #[.int .i64 0] 38)).cell? ⟨w.heap.size, 2, none⟩ = some (.slice s.AA s.ar.length s.ac) := cellA (cellA (by simp) _) _
  have r2 : (((w.alloc (.cells #[.int .i64 s.st, .slice s.EA s.el s.ec, .slice s.AA s.ar.length s.ac] 25)).alloc (.cells #[.slice none 0 0] 37)).alloc (.cells #[.int .i64 0] 38)).cell? ⟨w.heap.size + 1, 0, none⟩ = some (.slice none 0 0) := cellA (by rw [← World.size_alloc w (.cells #[.int .i64 s.st, .slice s.EA s.el s.ec, .slice s.AA s.ar.length s.ac] 25)]; simp) _
  have hz : ((w.alloc (.cells #[.int .i64 s.st, .slice s.EA s.el s.ec, .slice s.AA s.ar.length s.ac] 25)).alloc (.cells #[.slice none 0 0] 37)).heap.size = w.heap.size + 1 + 1 := by rw [World.size_alloc, World.size_alloc]
  have r3 : (((w.alloc (.cells #[.int .i64 s.st, .slice s.EA s.el s.ec, .slice s.AA s.ar.length s.ac] 25)).alloc (.cells #[.slice none 0 0] 37)).alloc (.cells #[.int .i64 0] 38)).cell? ⟨w.heap.size + 1 + 1, 0, none⟩ = some (.int .i64 0) := cell_at _ _ _ _ hz
  have rf : (∀ o, (((w.alloc (.cells #[.int .i64 s.st, .slice s.EA s.el s.ec, .slice s.AA s.ar.length s.ac] 25)).alloc (.cells #[.slice none 0 0] 37)).alloc (.cells #[.int .i64 0] 38)).frozen? ⟨w.heap.size + 1, o, none⟩ = false) ∧ (∀ o, (((w.alloc (.cells #[.int .i64 s.st, .slice s.EA s.el s.ec, .slice s.AA s.ar.length s.ac] 25)).alloc (.cells #[.slice none 0 0] 37)).alloc (.cells #[.int .i64 0] 38)).frozen? ⟨w.heap.size + 1 + 1, o, none⟩ = false) := by
    refine ⟨fun o => ?_, fun o => frozen_at _ _ _ _ _ hz⟩
    rw [((Below.refl (World.heap ((w.alloc (.cells #[.int .i64 s.st, .slice s.EA s.el s.ec, .slice s.AA s.ar.length s.ac] 25)).alloc (.cells #[.slice none 0 0] 37))).size _).alloc (Nat.le_refl _) _).frozen (p := ⟨w.heap.size + 1, o, none⟩) (by simp)]
    exact frozen_at _ _ _ _ _ (by rw [World.size_alloc])
  clear hz
  refine (callsIn_wide (n := 6)).1 (callsIn_of_wp_marks Try.func21 rfl trivial ?_ rfl)
  simp only [Try.ntmps21, List.size_toArray, List.length_cons, List.length_nil, Nat.reduceAdd, Nat.reduceSub, Array.replicate_succ, Array.replicate_zero, List.push_toArray, List.append_toArray, List.nil_append, List.cons_append]
  refine wpIn_wide.2 ?_
  have hzW : (((w.alloc (.cells #[.int .i64 s.st, .slice s.EA s.el s.ec, .slice s.AA s.ar.length s.ac] 25)).alloc (.cells #[.slice none 0 0] 37)).alloc (.cells #[.int .i64 0] 38)).heap.size = w.heap.size + 1 + 1 + 1 := by rw [World.size_alloc, World.size_alloc, World.size_alloc]
  go_wp2_with fail
  refine (CK.out _ B0.out).mono ?_
  rintro e x1 ⟨E, At, rfl, hE, K⟩
  have hE0 : E = 0 := hE.2 rfl
  subst hE0
  have q0 := keepc q0 K
  have q1 := keepc q1 K
  have q2 := keepc q2 K
  have r2 := keepc r2 K
  have r3 := keepc r3 K
  have f2 : x1.frozen? ⟨w.heap.size + 1, 0, none⟩ = false := (K.frozen (p := ⟨w.heap.size + 1, 0, none⟩) (by show w.heap.size + 1 < _; omega)).trans (rf.1 0)
  have f3 : x1.frozen? ⟨w.heap.size + 1 + 1, 0, none⟩ = false := (K.frozen (p := ⟨w.heap.size + 1 + 1, 0, none⟩) (by show w.heap.size + 1 + 1 < _; omega)).trans (rf.2 0)
  have D1 := Lib.hid (B0.out.trans (K.mono B0.out.size))
  clear K B0 hE hzW rf CK
  go_wp2
  have s2 := World.cell?_setCell_same' x1 ⟨w.heap.size + 1, 0, none⟩ (.slice none 0 0) (by rw [r2]; rfl)
  have o3 := (World.cell?_setCell_other x1 ⟨w.heap.size + 1, 0, none⟩ ⟨w.heap.size + 1 + 1, 0, none⟩ (.slice none 0 0) (by intro h; simp only [Addr.mk.injEq] at h; omega)).trans r3
  have s3 := World.cell?_setCell_same' (x1.setCell ⟨w.heap.size + 1, 0, none⟩ (.slice none 0 0)) ⟨w.heap.size + 1 + 1, 0, none⟩ (.int .i64 2) (by rw [o3]; rfl)
  have s2' := (World.cell?_setCell_other (x1.setCell ⟨w.heap.size + 1, 0, none⟩ (.slice none 0 0)) ⟨w.heap.size + 1 + 1, 0, none⟩ ⟨w.heap.size + 1, 0, none⟩ (.int .i64 2) (by intro h; simp only [Addr.mk.injEq] at h; omega)).trans s2
  refine ⟨.tuple #[.slice none 0 0, .int .i64 2], ?_, ⟨none, 0, rfl, Bt.Reads.nil _ _, Nat.le_refl _, (D1.out.setCell (p := ⟨w.heap.size + 1, 0, none⟩) (by simp) _).setCell (p := ⟨w.heap.size + 1 + 1, 0, none⟩) (by simp; omega) _⟩⟩
  simp [results, Try.f21, go_sem, s2', s3]
theorem all_law (s : SysV) (w : World) (hr : SysR w s) : Calls Try.prog 21 #[.agg #[.int .i64 s.st, .slice s.EA s.el s.ec, .slice s.AA s.ar.length s.ac]] w (AllC w.heap.size w (anyL s) (anyE s)) := by
  cases hok : okS s
  · obtain ⟨e1, e2⟩ := any_bad hok
    rw [e1, e2]
    exact all_bad s w hr hok
  · by_cases h12 : s.st ≤ 12
    · obtain ⟨e1, e2⟩ := any_ok hok h12
      rw [e1, e2]
      exact all_upto s w hr hok h12
    · obtain ⟨e1, e2⟩ := any_wide hok (by omega)
      rw [e1, e2]
      exact all_wide s w hr hok (by omega)
end Go.Proofs.Ytnlgfkokaphhjaa
