/- Bounded natural solutions: one element of the vector is set, and the rest follows. -/
import Derived.Test.YtneediihponfiaaNW
namespace Go.Proofs.Ytneediihponfiaa
open Go.RowKit

theorem mul_small2 {a d : Int} (h1 : -10000 ≤ a) (h2 : a ≤ 10000) (h3 : -1000 ≤ d) (h4 : d ≤ 1000) : -10000000 ≤ d * a ∧ d * a ≤ 10000000 := by
  have e1 : 0 ≤ (a + 10000) * (d + 1000) := Int.mul_nonneg (by omega) (by omega)
  have e2 : 0 ≤ (10000 - a) * (1000 - d) := Int.mul_nonneg (by omega) (by omega)
  have e3 : 0 ≤ (a + 10000) * (1000 - d) := Int.mul_nonneg (by omega) (by omega)
  have e4 : 0 ≤ (10000 - a) * (d + 1000) := Int.mul_nonneg (by omega) (by omega)
  rw [Int.mul_comm d a]
  simp only [Int.add_mul, Int.mul_add, Int.sub_mul, Int.mul_sub] at e1 e2 e3 e4
  omega
theorem rest_small {C : ItC} (D : Good C) {x r : List Int} {W : World} (S : St C x r W) : ∀ k, k < C.L.length → -1000000000 ≤ at0 r k ∧ at0 r k ≤ 1000000000 := fun k hk => by
  have h := dot_small (r := (rA C.L k).zs) (x := x) (fun j hj => withB_at (D.row k hk) j (by rw [D.len k hk, ← S.xl]; exact hj)) S.xb x.length (Nat.le_refl _)
  have e := S.eq k hk
  have hb := withB_at D.bb k (by rw [← D.bl]; exact hk)
  have := S.xl
  have := D.u64
  omega
/-- what the loop has done -/
structure SetK (C : ItC) (x r : List Int) (i : Nat) (v : Int) (W : World) (k : Nat) (rr : List Int) (wr : World) : Prop where
  rl : rr.length = C.L.length
  at_ : ∀ j, j < C.L.length → at0 rr j = if j < k then at0 r j - (v - at0 x i) * at0 (rA C.L j).zs i else at0 r j
  ro : wr.ownsRow C.lo 2 1 (.slice C.RA C.L.length C.cr) C.L.length (rr.map (Value.int .i64))
  kp : KeepOn (fun b => ¬ C.rb b) W wr
theorem SetK.drew {C : ItC} {x r rr : List Int} {i k : Nat} {v : Int} {W wr : World} (h : SetK C x r i v W k rr wr) : SetK C x r i v W k rr wr.drew :=
  ⟨h.rl, h.at_, (KeepOn.drew (S := fun _ => True) wr).own h.ro (fun _ _ => trivial), h.kp.trans (KeepOn.drew wr)⟩
theorem SetK.put {C : ItC} {x r rr : List Int} {i k : Nat} {v q : Int} {W wr : World} (hk : k < C.L.length) (hR : C.RA = some ⟨C.R0, 0, none⟩) (h : SetK C x r i v W k rr wr) (hq : q = at0 r k - (v - at0 x i) * at0 (rA C.L k).zs i) :
    SetK C x r i v W (k + 1) (rr.set k q) (wr.setCell ⟨C.R0, k, none⟩ (.int .i64 q)) := by
  have ho := h.ro
  rw [hR] at ho
  refine ⟨by rw [List.length_set]; exact h.rl, fun j hj => ?_, by rw [hR]; exact own_put ho k q, h.kp.trans (KeepOn.set _ _ _ (fun c => c ⟨by omega, rfl⟩))⟩
  rw [at0_set j (by rw [h.rl]; exact hk)]
  by_cases e : j = k
  · subst e
    rw [if_pos rfl, if_pos (by omega), hq]
  · rw [if_neg e, h.at_ j hj]
    by_cases e2 : j < k
    · rw [if_pos e2, if_pos (by omega)]
    · rw [if_neg e2, if_neg (by omega)]
/-- behind the loop and the last store -/
theorem set_end {C : ItC} (G : Geo C) (D : Good C) {x r rr : List Int} {i : Nat} {v : Int} {W wr : World} (S : St C x r W) (hi : i < C.u.length) (h0 : 0 ≤ v) (h1 : v ≤ 1000) (h : SetK C x r i v W C.L.length rr wr) :
    St C (x.set i v) rr (wr.setCell ⟨C.X0, i, none⟩ (.int .i64 v)) ∧ KeepOn (fun k => k ≠ C.X0 ∧ ¬ C.rb k) W (wr.setCell ⟨C.X0, i, none⟩ (.int .i64 v)) := by
  have hx : i < x.length := by rw [S.xl]; exact hi
  obtain ⟨g1, g2, g3, g4, g5⟩ := G.xn
  obtain ⟨r1, r2, r3, r4, r5⟩ := G.rn
  have kp : KeepOn (fun k => k ≠ C.X0 ∧ ¬ C.rb k) W (wr.setCell ⟨C.X0, i, none⟩ (.int .i64 v)) := (h.kp.mono fun k _ hk => hk.2).trans (KeepOn.set _ _ _ (fun c => c.1 rfl))
  have hw0 := G.w0
  have hX := G.X0
  have hR : ∀ k, k < C.lo → ¬ C.rb k := fun k hk c => by have := G.R0 k c; omega
  have haB := G.aB
  have huB := G.uB
  have xw : wr.ownsRow C.lo 2 1 (.slice (some ⟨C.X0, 0, none⟩) C.u.length C.u.length) C.u.length (x.map (Value.int .i64)) := by
    exact h.kp.own S.xo (fun g e' => by cases e'; exact G.rx)
  refine ⟨⟨S.fx.keep kp (fun k hk => ⟨by omega, hR k (by omega)⟩) ⟨⟨by omega, hR _ haB⟩, ⟨by omega, hR _ huB⟩, ⟨by omega, r1⟩, ⟨by omega, r2⟩, ⟨by omega, r3⟩, ⟨by omega, r4⟩, ⟨by omega, r5⟩⟩, by rw [List.length_set]; exact S.xl, h.rl, own_put xw i v, ?_, ?_, ?_⟩, kp⟩
  · exact (KeepOn.set (S := fun k => k ≠ C.X0) wr ⟨C.X0, i, none⟩ _ (fun c => c rfl)).own h.ro (fun g e => (G.rk g e).2.2)
  · intro k hk
    rw [h.at_ k hk, if_pos hk, List.length_set, dot_set _ _ _ _ hx, if_pos hx, S.eq k hk]
    omega
  · intro k hk
    rw [List.length_set] at hk
    rw [at0_set k hx]
    by_cases e : k = i
    · rw [if_pos e]; exact ⟨h0, h1⟩
    · rw [if_neg e]; exact S.xb k hk
set_option maxHeartbeats 8000000 in
set_option maxRecDepth 100000 in
theorem set_any {C : ItC} (G : Geo C) (D : Good C) {x r : List Int} {i : Nat} {v : Int} {W : World} (S : St C x r W) (hi : i < C.u.length) (h0 : 0 ≤ v) (h1 : v ≤ 1000) :
    Calls Try.prog 33 #[.int .i64 (i : Nat), .int .i64 v, .pointer (some ⟨C.aB, 0, none⟩), .pointer (some ⟨C.rB, 0, none⟩), .pointer (some ⟨C.xB, 0, none⟩)] W fun e W' => (∃ z, e = .returned z) ∧ (∃ r', St C (x.set i v) r' W') ∧ KeepOn (fun k => k ≠ C.X0 ∧ ¬ C.rb k) W W' := by
  have qa := S.fx.a
  have END : Hid (∀ rr wr, SetK C x r i v W C.L.length rr wr → (∃ r', St C (x.set i v) r' (wr.setCell ⟨C.X0, i, none⟩ (.int .i64 v))) ∧ KeepOn (fun k => k ≠ C.X0 ∧ ¬ C.rb k) W (wr.setCell ⟨C.X0, i, none⟩ (.int .i64 v))) := fun rr wr h => ⟨⟨rr, (set_end G D S hi h0 h1 h).1⟩, (set_end G D S hi h0 h1 h).2⟩
  have K0 : Hid (SetK C x r i v W 0 r W) := ⟨S.rl, fun j _ => by rw [if_neg (by omega)], S.ro, KeepOn.refl _ _⟩
  have CX : Hid (∀ rr k wr, SetK C x r i v W k rr wr → wr.cell? ⟨C.xB, 0, none⟩ = some (.slice (some ⟨C.X0, 0, none⟩) C.u.length C.u.length) ∧ wr.cell? ⟨C.X0, i, none⟩ = some (.int .i64 (at0 x i)) ∧ (∀ o, wr.frozen? ⟨C.X0, o, none⟩ = false)) := fun rr k wr h => by
    have xw : wr.ownsRow C.lo 2 1 (.slice (some ⟨C.X0, 0, none⟩) C.u.length C.u.length) C.u.length (x.map (Value.int .i64)) := h.kp.own S.xo (fun g e => by cases e; exact G.rx)
    exact ⟨h.kp.cell S.fx.x G.rn.2.1, own_cell xw i (by rw [S.xl]; exact hi), xw.frozenAt⟩
  have CR : Hid (∀ rr k wr, k < C.L.length → SetK C x r i v W k rr wr → wr.cell? ⟨C.rB, 0, none⟩ = some (.slice (some ⟨C.R0, 0, none⟩) C.L.length C.cr) ∧ wr.cell? ⟨C.R0, k, none⟩ = some (.int .i64 (at0 r k)) ∧ wr.frozen? ⟨C.R0, k, none⟩ = false ∧ ∃ b2 o2, C.A = some ⟨b2, o2, none⟩ ∧ wr.cell? ⟨b2, o2 + k, none⟩ = some (.slice (rA C.L k).A (rA C.L k).zs.length (rA C.L k).cap) ∧ ∃ b3 o3, (rA C.L k).A = some ⟨b3, o3, none⟩ ∧ b3 < C.lo ∧ wr.cell? ⟨b3, o3 + i, none⟩ = some (.int .i64 (at0 (rA C.L k).zs i))) := fun rr k wr hk h => by
    have hR := G.ra (by omega)
    have e := S.fx.r
    rw [hR] at e
    have ho := h.ro
    rw [hR] at ho
    have hat := h.at_ k hk
    rw [if_neg (by omega)] at hat
    have hw0 := G.w0
    have bw : Below C.w0.heap.size C.w0 wr := S.fx.bw.trans (h.kp.below S.fx.bw.size (fun j hj c => by have := G.R0 j c; omega))
    obtain ⟨b2, o2, e2, hc2⟩ := (D.rows.below bw (Nat.le_refl _)).1.at k hk
    obtain ⟨b3, o3, e3, hb3, hc3⟩ := (D.rows.2 _ (rA_mem hk)).1 i (by rw [D.len k hk]; exact hi)
    refine ⟨h.kp.cell e G.rn.2.2.1, by rw [← hat]; exact own_cell ho k (by rw [h.rl]; exact hk), ho.frozenAt k, b2, o2, e2, hc2, b3, o3, e3, by omega, (bw.cell (p := ⟨b3, o3 + i, none⟩) hb3).trans hc3⟩
  have RS := Lib.hid (rest_small D S)
  have HR1 : Hid (∀ k, k < C.L.length → -10000 ≤ at0 (rA C.L k).zs i ∧ at0 (rA C.L k).zs i ≤ 10000) := fun k hk => withB_at (D.row k hk) i (by rw [D.len k hk]; exact hi)
  have HZ : Hid (∀ k, k < C.L.length → (rA C.L k).zs.length = C.u.length) := D.len
  obtain ⟨x1, x2⟩ := S.xb i (by rw [S.xl]; exact hi)
  have PUT : Hid (∀ k rr wr, k < C.L.length → SetK C x r i v W k rr wr → SetK C x r i v W (k + 1) (rr.set k (at0 r k - (v - at0 x i) * at0 (rA C.L k).zs i)) (wr.setCell ⟨C.R0, k, none⟩ (.int .i64 (at0 r k - (v - at0 x i) * at0 (rA C.L k).zs i)))) := fun k rr wr hk h => h.put hk (G.ra (by omega)) rfl
  have hL := D.L64
  have hu64 := D.u64
  have NN : Hid (C.L.length ≠ 0 → C.rB ≠ C.R0 ∧ C.xB ≠ C.R0 ∧ C.X0 ≠ C.R0 ∧ C.lo ≤ C.R0) := fun h => ⟨fun c => G.rn.2.2.1 ⟨h, c⟩, fun c => G.rn.2.1 ⟨h, c⟩, fun c => G.rx ⟨h, c⟩, (G.R0 _ ⟨h, rfl⟩).1⟩
  obtain ⟨xi, hxi⟩ : ∃ xi, xi = at0 x i := ⟨_, rfl⟩
  rw [← hxi] at CX PUT x1 x2
  clear S G D hxi
  go_enter Try.func33, Try.ntmps33
  go_wp2_with fail
  go_loopw [11] (fun p wr => ∃ (k : Nat) (rr : List Int), k ≤ C.L.length ∧ p = .int .i64 k ∧ Hid (SetK C x r i v W k rr wr)) (fun p _ => C.L.length - (intOf p).toNat)
  case atStart => exact ⟨0, r, Nat.zero_le _, rfl, K0⟩
  case round =>
    clear qa K0
    obtain ⟨k, rr, hk, rfl, HK⟩ := hrel
    by_cases hlt : k < C.L.length
    · obtain ⟨cr, c0, f0, b2, o2, e2, c2, b3, o3, e3, hb3, c3⟩ := CR.out rr k wr hlt HK.out
      obtain ⟨cx, ci, -⟩ := CX.out rr k wr HK.out
      have P2 := Lib.hid (PUT.out k rr wr.drew hlt HK.out.drew)
      obtain ⟨s1, s2⟩ := RS.out k hlt
      obtain ⟨a1, a2⟩ := HR1.out k hlt
      have hz := HZ.out k hlt
      clear HK CR CX PUT END
      generalize at0 (rA C.L k).zs i = y at *
      generalize rA C.L k = row at *
      obtain ⟨rwA, rwz, rwc⟩ := row
      dsimp only at *
      subst e3
      obtain ⟨CA, hCA⟩ : ∃ CA, CA = C.A := ⟨_, rfl⟩
      rw [← hCA] at e2 ⊢
      clear hCA
      subst e2
      generalize at0 r k = rk at *
      obtain ⟨n1, n2, n3, n4⟩ := NN.out (by omega)
      have n5 : b3 ≠ C.R0 := by omega
      clear NN
      have mm := mul_small2 (d := v - xi) a1 a2 (by omega) (by omega)
      generalize hp : (v - xi) * y = p at *
      have b4 : wrap64 (v - xi) = v - xi := by unfold wrap64; omega
      have b5 : wrap64 ((v - xi) * y) = p := by rw [hp]; unfold wrap64; omega
      clear hp
      have b6 : wrap64 (rk - p) = rk - p := by unfold wrap64; omega
      have b7 : wrap64 p = p := by unfold wrap64; omega
      have p0 : wr.drew.cell? ⟨C.R0, k, none⟩ = some (.int .i64 rk) := c0
      have pf : wr.drew.frozen? ⟨C.R0, k, none⟩ = false := f0
      have hkz : i < rwz.length := by rw [hz]; exact hi
      go_upto_region 16 with fail
      refine wp_region_held_drew (S := fun w' => w'.cell? ⟨C.rB, 0, none⟩ = some (.slice (some ⟨C.R0, 0, none⟩) C.L.length C.cr) ∧ w'.cell? ⟨C.xB, 0, none⟩ = some (.slice (some ⟨C.X0, 0, none⟩) C.u.length C.u.length) ∧ w'.cell? ⟨C.X0, i, none⟩ = some (.int .i64 xi) ∧ w'.cell? ⟨b3, o3 + i, none⟩ = some (.int .i64 y)) (by kernel_rfl) ?_ (fun hHeld => ?_)
      · exact ⟨cr, cx, ci, c3⟩
      refine wpAnyH_take (oi := ⟨_, _, _, _, _, _⟩) (i := 0) (v := ?_) rfl (by kernel_rfl) (by kernel_rfl) (by kernel_rfl) (fun _ _ _ h => h) (Or.inl ⟨by rfl, ?ya0⟩) (by assumption) ?ra0
      case ya0 => (intro w hSw; (try dsimp only at hSw); go_simp; (try with_reducible rfl))
      try simp only [Act.put, List.setIfInBounds_toArray, List.set_cons_zero, List.set_cons_succ]
      refine wpAnyH_take (oi := ⟨_, _, _, _, _, _⟩) (i := 1) (v := ?_) rfl (by kernel_rfl) (by kernel_rfl) (by kernel_rfl) (fun _ _ _ h => h) (Or.inl ⟨by rfl, ?ya1⟩) (by assumption) ?ra1
      case ya1 => (intro w hSw; (try dsimp only at hSw); go_simp; (try with_reducible rfl))
      try simp only [Act.put, List.setIfInBounds_toArray, List.set_cons_zero, List.set_cons_succ]
      refine wpAnyH_take (oi := ⟨_, _, _, _, _, _⟩) (i := 2) (v := ?_) rfl (by kernel_rfl) (by kernel_rfl) (by kernel_rfl) (fun _ _ _ h => h) (Or.inl ⟨by rfl, ?ya2⟩) (by assumption) ?ra2
      case ya2 => (intro w hSw; (try dsimp only at hSw); go_simp; (try with_reducible rfl))
      try simp only [Act.put, List.setIfInBounds_toArray, List.set_cons_zero, List.set_cons_succ]
      refine wpAnyH_take (oi := ⟨_, _, _, _, _, _⟩) (i := 4) (v := ?_) rfl (by kernel_rfl) (by kernel_rfl) (by kernel_rfl) (fun _ _ _ h => h) (Or.inl ⟨by rfl, ?ya4⟩) (by assumption) ?ra4
      case ya4 => (intro w hSw; (try dsimp only at hSw); go_simp; (try with_reducible rfl))
      try simp only [Act.put, List.setIfInBounds_toArray, List.set_cons_zero, List.set_cons_succ]
      refine wpAnyH_take (oi := ⟨_, _, _, _, _, _⟩) (i := 5) (v := ?_) rfl (by kernel_rfl) (by kernel_rfl) (by kernel_rfl) (fun _ _ _ h => h) (Or.inl ⟨by rfl, ?ya5⟩) (by assumption) ?ra5
      case ya5 => (intro w hSw; (try dsimp only at hSw); go_simp; (try with_reducible rfl))
      try simp only [Act.put, List.setIfInBounds_toArray, List.set_cons_zero, List.set_cons_succ]
      refine wpAnyH_take (oi := ⟨_, _, _, _, _, _⟩) (i := 6) (v := ?_) rfl (by kernel_rfl) (by kernel_rfl) (by kernel_rfl) (fun _ _ _ h => h) (Or.inl ⟨by rfl, ?ya6⟩) (by assumption) ?ra6
      case ya6 => (intro w hSw; (try dsimp only at hSw); go_simp; (try with_reducible rfl))
      try simp only [Act.put, List.setIfInBounds_toArray, List.set_cons_zero, List.set_cons_succ]
      refine wpAnyH_take (oi := ⟨_, _, _, _, _, _⟩) (i := 7) (v := ?_) rfl (by kernel_rfl) (by kernel_rfl) (by kernel_rfl) (fun _ _ _ h => h) (Or.inl ⟨by rfl, ?ya7⟩) (by assumption) ?ra7
      case ya7 => (intro w hSw; (try dsimp only at hSw); go_simp; (try with_reducible rfl))
      try simp only [Act.put, List.setIfInBounds_toArray, List.set_cons_zero, List.set_cons_succ]
      refine wpAnyH_take (oi := ⟨_, _, _, _, _, _⟩) (i := 8) (v := ?_) rfl (by kernel_rfl) (by kernel_rfl) (by kernel_rfl) (fun _ _ _ h => h) (Or.inl ⟨by rfl, ?ya8⟩) (by assumption) ?ra8
      case ya8 => (intro w hSw; (try dsimp only at hSw); go_simp; (try with_reducible rfl))
      try simp only [Act.put, List.setIfInBounds_toArray, List.set_cons_zero, List.set_cons_succ]
      refine wpAnyH_take (oi := ⟨_, _, _, _, _, _⟩) (i := 9) (v := ?_) rfl (by kernel_rfl) (by kernel_rfl) (by kernel_rfl) (fun _ _ _ h => h) (Or.inl ⟨by rfl, ?ya9⟩) (by assumption) ?ra9
      case ya9 => (intro w hSw; (try dsimp only at hSw); go_simp; (try with_reducible rfl))
      try simp only [Act.put, List.setIfInBounds_toArray, List.set_cons_zero, List.set_cons_succ]
      refine wpAnyH_take (oi := ⟨_, _, _, _, _, _⟩) (i := 10) (v := ?_) rfl (by kernel_rfl) (by kernel_rfl) (by kernel_rfl) (fun _ _ _ h => h) (Or.inl ⟨by rfl, ?ya10⟩) (by assumption) ?ra10
      case ya10 => (intro w hSw; (try dsimp only at hSw); go_simp; (try with_reducible rfl))
      try simp only [Act.put, List.setIfInBounds_toArray, List.set_cons_zero, List.set_cons_succ]
      refine wpAnyH_take (oi := ⟨_, _, _, _, _, _⟩) (i := 11) (v := ?_) rfl (by kernel_rfl) (by kernel_rfl) (by kernel_rfl) (fun _ _ _ h => h) (Or.inl ⟨by rfl, ?ya11⟩) (by assumption) ?ra11
      case ya11 => (intro w hSw; (try dsimp only at hSw); go_simp; (try with_reducible rfl))
      try simp only [Act.put, List.setIfInBounds_toArray, List.set_cons_zero, List.set_cons_succ]
      refine wpAnyH_take (oi := ⟨_, _, _, _, _, _⟩) (i := 12) (v := ?_) rfl (by kernel_rfl) (by kernel_rfl) (by kernel_rfl) (fun _ _ _ h => h) (Or.inl ⟨by rfl, ?ya12⟩) (by assumption) ?ra12
      case ya12 => (intro w hSw; (try dsimp only at hSw); go_simp; (try with_reducible rfl))
      try simp only [Act.put, List.setIfInBounds_toArray, List.set_cons_zero, List.set_cons_succ]
      refine wpAnyH_take (oi := ⟨_, _, _, _, _, _⟩) (i := 13) (v := ?_) rfl (by kernel_rfl) (by kernel_rfl) (by kernel_rfl) (fun _ _ _ h => h) (Or.inl ⟨by rfl, ?ya13⟩) (by assumption) ?ra13
      case ya13 => (intro w hSw; (try dsimp only at hSw); go_simp; (try with_reducible rfl))
      try simp only [Act.put, List.setIfInBounds_toArray, List.set_cons_zero, List.set_cons_succ]
      refine wpAnyH_take (oi := ⟨_, _, _, _, _, _⟩) (i := 14) (v := ?_) rfl (by kernel_rfl) (by kernel_rfl) (by kernel_rfl) (fun _ _ _ h => h) (Or.inl ⟨by rfl, ?ya14⟩) (by assumption) ?ra14
      case ya14 => (intro w hSw; (try dsimp only at hSw); go_simp; (try with_reducible rfl))
      try simp only [Act.put, List.setIfInBounds_toArray, List.set_cons_zero, List.set_cons_succ]
      clear c0 f0 cr cx ci c3 c2
      generalize wr.drew = wdr at *
      refine wpAnyH_ready (rs := [3]) (by kernel_rfl) (by simp) ?_
      refine AllReadyH.cons (o := ⟨_, _, _, _, _, _⟩) rfl (fun K hK => ?_) AllReadyH.nil
      go_simp
      refine hK.out _ _ ?_ (fun hHeld2 => ?_)
      · exact hHeld
      clear hK K hHeld
      have hHeld := hHeld2
      clear hHeld2
      try simp only [Act.put, List.setIfInBounds_toArray, List.set_cons_zero, List.set_cons_succ]
      refine wpAnyH_take (oi := ⟨_, _, _, _, _, _⟩) (i := 15) (v := ?_) rfl (by kernel_rfl) (by kernel_rfl) (by kernel_rfl) (fun _ _ _ h => h) (Or.inl ⟨by rfl, ?yb15⟩) (by assumption) ?rb15
      case yb15 => (intro w hSw; (try dsimp only at hSw); go_simp; (try with_reducible rfl))
      try simp only [Act.put, List.setIfInBounds_toArray, List.set_cons_zero, List.set_cons_succ]
      refine wpAnyH_take (oi := ⟨_, _, _, _, _, _⟩) (i := 16) (v := ?_) rfl (by kernel_rfl) (by kernel_rfl) (by kernel_rfl) (fun _ _ _ h => h) (Or.inl ⟨by rfl, ?yb16⟩) (by assumption) ?rb16
      case yb16 => (intro w hSw; (try dsimp only at hSw); go_simp; (try with_reducible rfl))
      try simp only [Act.put, List.setIfInBounds_toArray, List.set_cons_zero, List.set_cons_succ]
      refine wpAnyH_ready (rs := [17]) (by kernel_rfl) (by simp) ?_
      refine AllReadyH.cons (o := ⟨_, _, _, _, _, _⟩) rfl (fun K hK => ?_) AllReadyH.nil
      go_simp
      refine hK.out _ _ ?_ (fun hHeld2 => ?_)
      · exact ⟨(World.cell?_of_block (a := ⟨C.rB, 0, none⟩) (Below.heap_setCell _ _ _ C.rB n1)).trans hHeld.1, (World.cell?_of_block (a := ⟨C.xB, 0, none⟩) (Below.heap_setCell _ _ _ C.xB n2)).trans hHeld.2.1, (World.cell?_of_block (a := ⟨C.X0, i, none⟩) (Below.heap_setCell _ _ _ C.X0 n3)).trans hHeld.2.2.1, (World.cell?_of_block (a := ⟨b3, o3 + i, none⟩) (Below.heap_setCell _ _ _ b3 n5)).trans hHeld.2.2.2⟩
      clear hK K hHeld
      have hHeld := hHeld2
      clear hHeld2
      try simp only [Act.put, List.setIfInBounds_toArray, List.set_cons_zero, List.set_cons_succ]
      refine wpAnyH_done (by kernel_rfl) ?_ _
      clear hHeld p0 pf
      go_wp2_with fail
      go_roundw
      case rel => exact ⟨k + 1, rr.set k (rk - p), by omega, by go_num, by rw [b5, b6]; exact P2⟩
      case measure => simp [intOf]; omega
    · obtain rfl : k = C.L.length := by omega
      obtain ⟨cx, ci, fx⟩ := CX.out rr _ wr HK.out
      have fx := fx i
      have E := Lib.hid (END.out rr wr HK.out)
      clear HK CR CX PUT END
      go_wp2
      go_end0
      exact ⟨⟨_, rfl⟩, E.out⟩
end Go.Proofs.Ytneediihponfiaa
