/- Graphs: Path. -/
import Derived.Test.YtdfljeonoallfaaGI
import Derived.Test.YtdfljeonoallfaaGY
namespace Go.Proofs.Ytdfljeonoallfaa
open Go.RowKit Go.Deep

/-- what Path answers -/
def pathS (R : Nat → List Int) (n : Nat) (f t : Int) : List Int × Bool := if (inR f n && inR t n) = true then (if dstV R n t.toNat n f.toNat < 0 then ([], false) else (pthV R n t.toNat f.toNat, true)) else ([], false)
theorem pathS_no {R : Nat → List Int} {n : Nat} {f t : Int} (h : (inR f n && inR t n) = false) : pathS R n f t = ([], false) := by unfold pathS; rw [h]; rfl
theorem pathS_none {R : Nat → List Int} {n f t : Nat} (hf : f < n) (ht : t < n) (h : dstV R n t n f < 0) : pathS R n (f : Int) (t : Int) = ([], false) := by
  unfold pathS
  rw [show inR (f : Int) n = true from inR_iff.2 (by omega), show inR (t : Int) n = true from inR_iff.2 (by omega), Bool.true_and, if_pos rfl, Int.toNat_natCast, Int.toNat_natCast, if_pos h]
theorem pathS_some {R : Nat → List Int} {n f t : Nat} (hf : f < n) (ht : t < n) (h : ¬ dstV R n t n f < 0) : pathS R n (f : Int) (t : Int) = (pthV R n t f, true) := by
  unfold pathS
  rw [show inR (f : Int) n = true from inR_iff.2 (by omega), show inR (t : Int) n = true from inR_iff.2 (by omega), Bool.true_and, if_pos rfl, Int.toNat_natCast, Int.toNat_natCast, if_neg h]
def PthPost (g : Nat) (w : World) (x : List Int × Bool) (e : Ending) (w' : World) : Prop := ∃ A c, e = .returned (.tuple #[.slice A x.1.length c, .bool x.2]) ∧ ReadsV w' A x.1 ∧ Below g w w'
/-- the least of the next vertices among the first i -/
def LeastI (R : Nat → List Int) (n : Nat) (D : Nat → Int) (v i x : Nat) : Prop := x ≤ n ∧ (∀ a, a < i → ∀ u : Nat, u < n → at0 (R v) a = (u : Int) → D u = D v - 1 → x ≤ u) ∧ (x = n ∨ (x < n ∧ tabB R v x = true ∧ D x = D v - 1))
theorem least_step {R : Nat → List Int} {n : Nat} {D : Nat → Int} {v i x u : Nat} (I : LeastI R n D v i x) (hi : i < (R v).length) (hu : u < n) (e : at0 (R v) i = (u : Int)) (h : D u = D v - 1) : LeastI R n D v (i + 1) (if x ≤ u then x else u) := by
  obtain ⟨h1, h2, h3⟩ := I
  have ht : tabB R v u = true := by
    unfold tabB
    rw [List.contains_iff_mem, ← e]
    unfold at0
    rw [List.getElem?_eq_getElem hi]
    exact List.getElem_mem hi
  refine ⟨by split <;> omega, fun a ha y hy e2 h4 => ?_, ?_⟩
  · by_cases c : a = i
    · subst c
      have : y = u := by omega
      subst this
      split <;> omega
    · have := h2 a (by omega) y hy e2 h4
      split <;> omega
  · split
    · exact h3
    · exact Or.inr ⟨hu, ht, h⟩
theorem least_skip {R : Nat → List Int} {n : Nat} {D : Nat → Int} {v i x : Nat} (I : LeastI R n D v i x) (h : ∀ u : Nat, u < n → at0 (R v) i = (u : Int) → D u ≠ D v - 1) : LeastI R n D v (i + 1) x := by
  obtain ⟨h1, h2, h3⟩ := I
  refine ⟨h1, fun a ha y hy e2 h4 => ?_, h3⟩
  by_cases c : a = i
  · subst c
    exact absurd h4 (h y hy e2)
  · exact h2 a (by omega) y hy e2 h4
theorem least_end {R : Nat → List Int} {n t v m x : Nat} (h : dstV R n t n v = ((m + 1 : Nat) : Int)) (I : LeastI R n (dstV R n t n) v (R v).length x) : x = nxtV R n t v := by
  obtain ⟨h1, h2, h3, h4⟩ := nxt_spec h
  obtain ⟨i1, i2, i3⟩ := I
  have hon := h2
  unfold onB at hon
  rw [Bool.and_eq_true, decide_eq_true_eq] at hon
  have hm : ((nxtV R n t v : Nat) : Int) ∈ R v := by have := hon.1; unfold tabB at this; simpa using this
  obtain ⟨a, ha, e⟩ := List.mem_iff_getElem.1 hm
  have hle := i2 a ha _ h1 (by unfold at0; rw [List.getElem?_eq_getElem ha, e]; rfl) hon.2
  rcases i3 with i3 | ⟨j1, j2, j3⟩
  · omega
  · rcases Nat.lt_or_ge x (nxtV R n t v) with c | c
    · have := h4 x c
      unfold onB at this
      rw [j2, j3] at this
      simp at this
    · omega
set_option maxHeartbeats 8000000 in
set_option maxRecDepth 100000 in
theorem path_any (gA : Option Addr) (n gc : Nat) (RA : Nat → Option Addr) (RL : Nat → List Int) (RK : Nat → Nat) (f t : Int) (w : World) (GR : GraphR w gA n RA RL RK) :
    Calls Try.prog 29 #[.slice gA n gc, .int .i64 f, .int .i64 t] w (PthPost w.heap.size w (pathS RL n f t)) := by
  have hn := GR.hn
  have RW : Hid (∀ W, Below w.heap.size w W → GraphR W gA n RA RL RK) := fun W hW => GR.below hW
  have CI : Hid (∀ x W, Calls Try.prog 31 #[.slice gA n gc, .int .i64 x] W fun e w' => e = .returned (.bool (inR x n)) ∧ W = w') := fun x W => isv_any gA n gc x W
  have CIf := Lib.hid (CI.out f)
  have CIt := Lib.hid (CI.out t)
  have CD : Hid (∀ t : Nat, t < n → Calls Try.prog 41 #[.slice gA n gc, .int .i64 (t : Nat)] w fun e w' => ∃ d, e = .returned (.slice (some ⟨d, 0, none⟩) n n) ∧ w'.rowIs d 3 n (fun j => .int .i64 (dstV RL n t n j)) ∧ w.heap.size ≤ d ∧ Below w.heap.size w w') := fun t ht => distances_any gA n gc RA RL RK t w GR ht
  clear GR
  by_cases hin : (inR f n && inR t n) = true
  rotate_left
  · have hb : (inR f n && inR t n) = false := by simpa using hin
    rw [pathS_no hb]
    have Bw : Hid (Below w.heap.size w w) := Below.refl _ _
    clear hin CD CI
    cases hf : inR f n
    · rw [hf] at CIf
      clear hf hb CIt
      go_enter Try.func29, Try.ntmps29
      go_wp2_with fail
      refine (CIf.out _).mono ?_
      rintro e w1 ⟨rfl, rfl⟩
      go_wp2
      go_ret2
      exact ⟨none, 0, rfl, ReadsV.nil _ _, Bw.out⟩
    · rw [hf, Bool.true_and] at hb
      rw [hf] at CIf
      rw [hb] at CIt
      clear hf hb
      go_enter Try.func29, Try.ntmps29
      go_wp2_with fail
      refine (CIf.out _).mono ?_
      rintro e w1 ⟨rfl, rfl⟩
      go_wp2_with fail
      refine (CIt.out _).mono ?_
      rintro e w1 ⟨rfl, rfl⟩
      go_wp2
      go_ret2
      exact ⟨none, 0, rfl, ReadsV.nil _ _, Bw.out⟩
  rw [Bool.and_eq_true, inR_iff, inR_iff] at hin
  have hf1 : inR f n = true := inR_iff.2 hin.1
  have ht1 : inR t n = true := inR_iff.2 hin.2
  rw [hf1] at CIf
  rw [ht1] at CIt
  obtain ⟨f, rfl⟩ : ∃ y : Nat, f = y := ⟨f.toNat, by omega⟩
  obtain ⟨t, rfl⟩ : ∃ y : Nat, t = y := ⟨t.toNat, by omega⟩
  have hf : f < n := by omega
  have ht : t < n := by omega
  have CD := Lib.hid (CD.out t ht)
  have PN := Lib.hid (pathS_none (R := RL) hf ht)
  have PS := Lib.hid (pathS_some (R := RL) hf ht)
  have IT := Lib.hid (fun m (h : dstV RL n t n f = ((m : Nat) : Int)) => it_spec (R := RL) hf h)
  have DZ := Lib.hid (fun v => dst_zero (R := RL) (n := n) (t := t) (v := v))
  have DL := Lib.hid (fun v => dst_le RL n t v)
  have LE := Lib.hid (fun v m x => least_end (R := RL) (n := n) (t := t) (v := v) (m := m) (x := x))
  have DS : Hid (¬ dstV RL n t n f < 0 → ∃ m : Nat, dstV RL n t n f = (m : Int) ∧ pthV RL n t f = tab (m + 1) (fun j => (itV RL n t f j : Int))) := fun h => ⟨(dstV RL n t n f).toNat, by omega, rfl⟩
  have I0 : Hid (itV RL n t f 0 = f) := rfl
  have IS : Hid (∀ j, itV RL n t f (j + 1) = nxtV RL n t (itV RL n t f j)) := fun _ => rfl
  clear hin hf1 ht1
  unfold PthPost
  generalize pathS RL n (f : Int) (t : Int) = PO at *
  generalize pthV RL n t f = PT at *
  generalize dstV RL n t n = D at *
  generalize itV RL n t f = it at *
  generalize nxtV RL n t = nx at *
  go_enter Try.func29, Try.ntmps29
  go_wp2_with fail
  refine (CIf.out _).mono ?_
  rintro e w1 ⟨rfl, rfl⟩
  go_wp2_with fail
  refine (CIt.out _).mono ?_
  rintro e w1 ⟨rfl, rfl⟩
  go_wp2_with fail
  refine CD.out.mono ?_
  rintro e w1 ⟨d, rfl, DR, hd, K1⟩
  have DR := Lib.hid DR
  have K1 := Lib.hid K1
  have c0 := DR.out.cell hf
  clear CD CIf CIt
  by_cases hneg : D f < 0
  · have E := PN.out hneg
    clear PN PS IT DZ DL LE DS I0 IS
    go_wp2
    go_ret2
    exact ⟨none, 0, by rw [E]; rfl, by rw [E]; exact ReadsV.nil _ _, K1.out⟩
  obtain ⟨m, hm, hpt⟩ := DS.out (by first | exact hneg | omega)
  have E := Lib.hid (PS.out (by first | exact hneg | omega))
  have IT := Lib.hid (IT.out m hm)
  have HPT := Lib.hid hpt
  have O0 : Hid (OwnI (w1.alloc (.cells #[.int .i64 (f : Nat)] 3)) w1.heap.size (.slice (some ⟨w1.heap.size, 0, none⟩) 1 1) (tab 1 (fun j => (it j : Int)))) := by
    show OwnI _ _ _ _
    have h := World.ownsRow_lit w1 (e := 3) (size := 1) (base := w1.heap.size) #[.int .i64 (f : Nat)] 1 (Nat.le_refl _) (by unfold maxLen; omega) rfl
    have e1 : tab 1 (fun j => (it j : Int)) = [(f : Int)] := by show [(it 0 : Int)] = _; rw [I0.out]
    unfold OwnI
    rw [e1]
    exact h
  have S0 : Hid (Below w1.heap.size w1 (w1.alloc (.cells #[.int .i64 (f : Nat)] 3))) := (Below.refl _ _).alloc (Nat.le_refl _) _
  have CV : Hid (∀ W v, Below w1.heap.size w1 W → v < n → W.cell? ⟨d, v, none⟩ = some (.int .i64 (D v))) := fun W v hW hv => keepc (DR.out.cell hv) hW
  have WG : Hid (∀ W, Below w1.heap.size w1 W → Below w.heap.size w W) := fun W hW => K1.out.trans (hW.mono K1.out.size)
  have hmn : m ≤ n := by have := (DL.out f).2; omega
  clear PN PS DS DR K1 hpt hd
  go_wp2_with fail
  clear hneg c0
  go_loopg [10, 9] m (fun gg q pv wr => ∃ j : Nat, gg = m - j ∧ j ≤ m ∧ q = .int .i64 (it j : Nat) ∧ Hid (OwnI wr w1.heap.size pv (tab (j + 1) (fun i => (it i : Int)))) ∧ Hid (Below w1.heap.size w1 wr))
  case atStart => exact ⟨0, rfl, by omega, by rw [I0.out], O0, S0⟩
  case round =>
    clear O0 S0
    obtain ⟨wo, rfl⟩ : ∃ wo, wo = wr := ⟨_, rfl⟩
    obtain ⟨j, hgg, hj, rfl, OW, BB⟩ := hrel
    obtain ⟨hvn, hvd⟩ := IT.out j hj
    have DZj := DZ.out (it j)
    have ISj := Lib.hid (IS.out j)
    obtain ⟨v, hv⟩ : ∃ v, it j = v := ⟨_, rfl⟩
    rw [hv] at hvn hvd DZj ISj ⊢
    have HVD := Lib.hid hvd
    have HGG := Lib.hid hgg
    have HV := Lib.hid hv
    clear hv hgg
    by_cases hjm : j < m
    · have hvt : ¬ v = t := fun h => by have := DZj.2 h; omega
      have hvt2 : ((v : Int) != (t : Int)) = true := by simp; omega
      have LEv := Lib.hid (fun x => LE.out v (m - j - 1) x (by rw [hvd]; congr 1; omega))
      obtain ⟨b, off, eg, _, c0⟩ := (RW.out _ (WG.out _ BB.out)).row v hvn
      have RD : Hid (∀ W, Below w.heap.size w W → ReadsV W (RA v) (RL v)) := fun W hW => (RW.out W hW).rd v hvn
      have hll : (RL v).length ≤ 1000000 := (RW.out _ (WG.out _ BB.out)).ll v hvn
      have L0 : Hid (LeastI RL n D v 0 n) := ⟨Nat.le_refl _, fun a ha => absurd ha (by omega), Or.inl rfl⟩
      have B0 : Hid (Below wo.heap.size wo wo) := Below.refl _ _
      have hsz := BB.out.size
      have CVo : Hid (∀ W u, Below wo.heap.size wo W → u < n → W.cell? ⟨d, u, none⟩ = some (.int .i64 (D u))) := fun W u hW hu => CV.out W u (BB.out.trans (hW.mono hsz)) hu
      have WGo : Hid (∀ W, Below wo.heap.size wo W → Below w.heap.size w W) := fun W hW => (WG.out _ BB.out).trans (hW.mono (WG.out _ BB.out).size)
      have DLv := DL.out v
      have hwd : IntKind.i64.wrap (D v - 1) = D v - 1 := by rw [IntKind.wrap_i64]; omega
      clear DZj hvd hvt
      subst eg
      go_wp2_with fail
      go_loopw [45, 11] (fun q xv wr => ∃ i x : Nat, i ≤ (RL v).length ∧ q = .int .i64 (i : Nat) ∧ xv = .int .i64 (x : Nat) ∧ Hid (LeastI RL n D v i x) ∧ Hid (Below wo.heap.size wo wr)) (fun q _ _ => (RL v).length - (intOf q).toNat)
      case atStart => exact ⟨0, n, by omega, rfl, rfl, L0, B0⟩
      case round =>
        clear L0 B0 c0
        obtain ⟨i, y, hi, rfl, rfl, LL, BI⟩ := hrel
        by_cases hli : i < (RL v).length
        · have HLI := Lib.hid hli
          obtain ⟨b2, off2, e2, _, c1⟩ := RD.out _ (WGo.out _ BI.out) i hli
          rw [e2]
          clear e2
          have LSK : Hid ((∀ u : Nat, u < n → at0 (RL v) i = (u : Int) → D u ≠ D v - 1) → LeastI RL n D v (i + 1) y) := fun h => least_skip LL.out h
          have LST : Hid (∀ u : Nat, u < n → at0 (RL v) i = (u : Int) → D u = D v - 1 → LeastI RL n D v (i + 1) (if y ≤ u then y else u)) := fun u hu e h => least_step LL.out hli hu e h
          have hyn := LL.out.1
          have c3 := CVo.out _ v BI.out hvn
          have CX : Hid (∀ x, x < n → wr.cell? ⟨d, x, none⟩ = some (.int .i64 (D x))) := fun x hx => CVo.out _ x BI.out hx
          have BD := Lib.hid BI.out.drew
          have CIx := Lib.hid (CI.out (at0 (RL v) i))
          clear LL
          generalize at0 (RL v) i = x at *
          by_cases hx : 0 ≤ x ∧ x < (n : Int)
          · rw [show inR x (n : Int) = true from inR_iff.2 hx] at CIx
            obtain ⟨x, rfl⟩ : ∃ z : Nat, x = z := ⟨x.toNat, by omega⟩
            have hxn : x < n := by omega
            have c2 := CX.out x hxn
            by_cases hd : D x = D v - 1
            · have L2 := Lib.hid (LST.out x hxn rfl hd)
              clear LSK LST CX hx
              generalize hdx : D x = dx at *
              generalize hdv : D v = dv at *
              have hde : (dx == dv - 1) = true := by simpa using hd
              by_cases hyx : y ≤ x
              · rw [if_pos hyx] at L2
                have hmin : min (y : Int) (x : Int) = (y : Int) := Int.min_eq_left (by omega)
                clear hdx hdv
                go_wp2
                go_upto_region 15 with fail
                refine wp_region_held_drew (S := fun w' => w'.cell? ⟨d, x, none⟩ = some (.int .i64 dx) ∧ w'.cell? ⟨d, v, none⟩ = some (.int .i64 dv)) (by kernel_rfl) ?_ (fun hHeld => ?_)
                · exact ⟨c2, c3⟩
                refine wpAnyH_take (oi := ⟨_, _, _, _, _, _⟩) (i := 0) (v := ?_) rfl (by kernel_rfl) (by kernel_rfl) (by kernel_rfl) (fun _ _ _ h => h) (Or.inl ⟨by rfl, ?ya0⟩) (by assumption) ?ra0
                case ya0 => (intro w hSw; (try dsimp only at hSw); go_simp; (try with_reducible rfl))
                try simp only [Act.put, List.setIfInBounds_toArray, List.set_cons_zero, List.set_cons_succ]
                refine wpAnyH_take (oi := ⟨_, _, _, _, _, _⟩) (i := 1) (v := ?_) rfl (by kernel_rfl) (by kernel_rfl) (by kernel_rfl) (fun _ _ _ h => h) (Or.inl ⟨by rfl, ?ya1⟩) (by assumption) ?ra1
                case ya1 => (intro w hSw; (try dsimp only at hSw); go_simp; (try with_reducible rfl))
                try simp only [Act.put, List.setIfInBounds_toArray, List.set_cons_zero, List.set_cons_succ]
                refine wpAnyH_ready (rs := [2]) (by kernel_rfl) (by simp) ?_
                refine AllReadyH.cons (o := ⟨_, _, _, _, _, _⟩) rfl (fun K hK => ?_) AllReadyH.nil
                go_simp
                go_at_call 31; refine (CIx.out _).mono ?_; rintro e9 w9 ⟨rfl, rfl⟩; (try go_wp2_with fail)
                refine hK.out _ _ ?_ (fun hHeld2 => ?_)
                · exact hHeld
                clear hK K hHeld
                have hHeld := hHeld2
                clear hHeld2
                try simp only [Act.put, List.setIfInBounds_toArray, List.set_cons_zero, List.set_cons_succ]
                refine wpAnyH_take (oi := ⟨_, _, _, _, _, _⟩) (i := 3) (v := ?_) rfl (by kernel_rfl) (by kernel_rfl) (by kernel_rfl) (fun _ _ _ h => h) (Or.inl ⟨by rfl, ?ya3⟩) (by assumption) ?ra3
                case ya3 => (intro w hSw; (try dsimp only at hSw); go_simp; (try with_reducible rfl))
                try simp only [Act.put, List.setIfInBounds_toArray, List.set_cons_zero, List.set_cons_succ]
                refine wpAnyH_take (oi := ⟨_, _, _, _, _, _⟩) (i := 4) (v := ?_) rfl (by kernel_rfl) (by kernel_rfl) (by kernel_rfl) (fun _ _ _ h => h) (Or.inl ⟨by rfl, ?ya4⟩) (by assumption) ?ra4
                case ya4 => (intro w hSw; (try dsimp only at hSw); go_simp; (try with_reducible rfl))
                try simp only [Act.put, List.setIfInBounds_toArray, List.set_cons_zero, List.set_cons_succ]
                refine wpAnyH_take (oi := ⟨_, _, _, _, _, _⟩) (i := 5) (v := ?_) rfl (by kernel_rfl) (by kernel_rfl) (by kernel_rfl) (fun _ _ _ h => h) (Or.inl ⟨by rfl, ?ya5⟩) (by assumption) ?ra5
                case ya5 => (intro w hSw; (try dsimp only at hSw); go_simp; (try with_reducible rfl))
                try simp only [Act.put, List.setIfInBounds_toArray, List.set_cons_zero, List.set_cons_succ]
                refine wpAnyH_take (oi := ⟨_, _, _, _, _, _⟩) (i := 6) (v := ?_) rfl (by kernel_rfl) (by kernel_rfl) (by kernel_rfl) (fun _ _ _ h => h) (Or.inl ⟨by rfl, ?ya6⟩) (by assumption) ?ra6
                case ya6 => (intro w hSw; (try dsimp only at hSw); go_simp; (try with_reducible rfl))
                try simp only [Act.put, List.setIfInBounds_toArray, List.set_cons_zero, List.set_cons_succ]
                refine wpAnyH_take (oi := ⟨_, _, _, _, _, _⟩) (i := 7) (v := ?_) rfl (by kernel_rfl) (by kernel_rfl) (by kernel_rfl) (fun _ _ _ h => h) (Or.inl ⟨by rfl, ?ya7⟩) (by assumption) ?ra7
                case ya7 => (intro w hSw; (try dsimp only at hSw); go_simp; (try with_reducible rfl))
                try simp only [Act.put, List.setIfInBounds_toArray, List.set_cons_zero, List.set_cons_succ]
                refine wpAnyH_take (oi := ⟨_, _, _, _, _, _⟩) (i := 8) (v := ?_) rfl (by kernel_rfl) (by kernel_rfl) (by kernel_rfl) (fun _ _ _ h => h) (Or.inl ⟨by rfl, ?ya8⟩) (by assumption) ?ra8
                case ya8 => (intro w hSw; (try dsimp only at hSw); go_simp; (try with_reducible rfl))
                try simp only [Act.put, List.setIfInBounds_toArray, List.set_cons_zero, List.set_cons_succ]
                refine wpAnyH_take (oi := ⟨_, _, _, _, _, _⟩) (i := 9) (v := ?_) rfl (by kernel_rfl) (by kernel_rfl) (by kernel_rfl) (fun _ _ _ h => h) (Or.inl ⟨by rfl, ?ya9⟩) (by assumption) ?ra9
                case ya9 => (intro w hSw; (try dsimp only at hSw); go_simp; (try with_reducible rfl))
                try simp only [Act.put, List.setIfInBounds_toArray, List.set_cons_zero, List.set_cons_succ]
                refine wpAnyH_take (oi := ⟨_, _, _, _, _, _⟩) (i := 10) (v := ?_) rfl (by kernel_rfl) (by kernel_rfl) (by kernel_rfl) (fun _ _ _ h => h) (Or.inl ⟨by rfl, ?ya10⟩) (by assumption) ?ra10
                case ya10 => (intro w hSw; (try dsimp only at hSw); go_simp; (try with_reducible rfl))
                try simp only [Act.put, List.setIfInBounds_toArray, List.set_cons_zero, List.set_cons_succ]
                refine wpAnyH_take (oi := ⟨_, _, _, _, _, _⟩) (i := 11) (v := ?_) rfl (by kernel_rfl) (by kernel_rfl) (by kernel_rfl) (fun _ _ _ h => h) (Or.inl ⟨by rfl, ?ya11⟩) (by assumption) ?ra11
                case ya11 => (intro w hSw; (try dsimp only at hSw); go_simp; (try with_reducible rfl))
                try simp only [Act.put, List.setIfInBounds_toArray, List.set_cons_zero, List.set_cons_succ]
                refine wpAnyH_take (oi := ⟨_, _, _, _, _, _⟩) (i := 12) (v := ?_) rfl (by kernel_rfl) (by kernel_rfl) (by kernel_rfl) (fun _ _ _ h => h) (Or.inl ⟨by rfl, ?ya12⟩) (by assumption) ?ra12
                case ya12 => (intro w hSw; (try dsimp only at hSw); go_simp; (try with_reducible rfl))
                try simp only [Act.put, List.setIfInBounds_toArray, List.set_cons_zero, List.set_cons_succ]
                refine wpAnyH_take (oi := ⟨_, _, _, _, _, _⟩) (i := 13) (v := ?_) rfl (by kernel_rfl) (by kernel_rfl) (by kernel_rfl) (fun _ _ _ h => h) (Or.inl ⟨by rfl, ?ya13⟩) (by assumption) ?ra13
                case ya13 => (intro w hSw; (try dsimp only at hSw); go_simp; (try with_reducible rfl))
                try simp only [Act.put, List.setIfInBounds_toArray, List.set_cons_zero, List.set_cons_succ]
                refine wpAnyH_take (oi := ⟨_, _, _, _, _, _⟩) (i := 14) (v := ?_) rfl (by kernel_rfl) (by kernel_rfl) (by kernel_rfl) (fun _ _ _ h => h) (Or.inl ⟨by rfl, ?ya14⟩) (by assumption) ?ra14
                case ya14 => (intro w hSw; (try dsimp only at hSw); go_simp; (try with_reducible rfl))
                try simp only [Act.put, List.setIfInBounds_toArray, List.set_cons_zero, List.set_cons_succ]
                refine wpAnyH_done (by kernel_rfl) ?_ _
                clear hHeld
                generalize wr.drew = wd at *
                go_wp2
                go_roundw
                case rel => exact ⟨i + 1, y, by have := HLI.out; omega, by go_num, by go_num, L2, BD⟩
                case measure => have := HLI.out; simp [intOf]; omega
              · rw [if_neg hyx] at L2
                have hmin : min (y : Int) (x : Int) = (x : Int) := Int.min_eq_right (by omega)
                clear hdx hdv
                go_wp2
                go_upto_region 15 with fail
                refine wp_region_held_drew (S := fun w' => w'.cell? ⟨d, x, none⟩ = some (.int .i64 dx) ∧ w'.cell? ⟨d, v, none⟩ = some (.int .i64 dv)) (by kernel_rfl) ?_ (fun hHeld => ?_)
                · exact ⟨c2, c3⟩
                refine wpAnyH_take (oi := ⟨_, _, _, _, _, _⟩) (i := 0) (v := ?_) rfl (by kernel_rfl) (by kernel_rfl) (by kernel_rfl) (fun _ _ _ h => h) (Or.inl ⟨by rfl, ?yb0⟩) (by assumption) ?rb0
                case yb0 => (intro w hSw; (try dsimp only at hSw); go_simp; (try with_reducible rfl))
                try simp only [Act.put, List.setIfInBounds_toArray, List.set_cons_zero, List.set_cons_succ]
                refine wpAnyH_take (oi := ⟨_, _, _, _, _, _⟩) (i := 1) (v := ?_) rfl (by kernel_rfl) (by kernel_rfl) (by kernel_rfl) (fun _ _ _ h => h) (Or.inl ⟨by rfl, ?yb1⟩) (by assumption) ?rb1
                case yb1 => (intro w hSw; (try dsimp only at hSw); go_simp; (try with_reducible rfl))
                try simp only [Act.put, List.setIfInBounds_toArray, List.set_cons_zero, List.set_cons_succ]
                refine wpAnyH_ready (rs := [2]) (by kernel_rfl) (by simp) ?_
                refine AllReadyH.cons (o := ⟨_, _, _, _, _, _⟩) rfl (fun K hK => ?_) AllReadyH.nil
                go_simp
                go_at_call 31; refine (CIx.out _).mono ?_; rintro e9 w9 ⟨rfl, rfl⟩; (try go_wp2_with fail)
                refine hK.out _ _ ?_ (fun hHeld2 => ?_)
                · exact hHeld
                clear hK K hHeld
                have hHeld := hHeld2
                clear hHeld2
                try simp only [Act.put, List.setIfInBounds_toArray, List.set_cons_zero, List.set_cons_succ]
                refine wpAnyH_take (oi := ⟨_, _, _, _, _, _⟩) (i := 3) (v := ?_) rfl (by kernel_rfl) (by kernel_rfl) (by kernel_rfl) (fun _ _ _ h => h) (Or.inl ⟨by rfl, ?yb3⟩) (by assumption) ?rb3
                case yb3 => (intro w hSw; (try dsimp only at hSw); go_simp; (try with_reducible rfl))
                try simp only [Act.put, List.setIfInBounds_toArray, List.set_cons_zero, List.set_cons_succ]
                refine wpAnyH_take (oi := ⟨_, _, _, _, _, _⟩) (i := 4) (v := ?_) rfl (by kernel_rfl) (by kernel_rfl) (by kernel_rfl) (fun _ _ _ h => h) (Or.inl ⟨by rfl, ?yb4⟩) (by assumption) ?rb4
                case yb4 => (intro w hSw; (try dsimp only at hSw); go_simp; (try with_reducible rfl))
                try simp only [Act.put, List.setIfInBounds_toArray, List.set_cons_zero, List.set_cons_succ]
                refine wpAnyH_take (oi := ⟨_, _, _, _, _, _⟩) (i := 5) (v := ?_) rfl (by kernel_rfl) (by kernel_rfl) (by kernel_rfl) (fun _ _ _ h => h) (Or.inl ⟨by rfl, ?yb5⟩) (by assumption) ?rb5
                case yb5 => (intro w hSw; (try dsimp only at hSw); go_simp; (try with_reducible rfl))
                try simp only [Act.put, List.setIfInBounds_toArray, List.set_cons_zero, List.set_cons_succ]
                refine wpAnyH_take (oi := ⟨_, _, _, _, _, _⟩) (i := 6) (v := ?_) rfl (by kernel_rfl) (by kernel_rfl) (by kernel_rfl) (fun _ _ _ h => h) (Or.inl ⟨by rfl, ?yb6⟩) (by assumption) ?rb6
                case yb6 => (intro w hSw; (try dsimp only at hSw); go_simp; (try with_reducible rfl))
                try simp only [Act.put, List.setIfInBounds_toArray, List.set_cons_zero, List.set_cons_succ]
                refine wpAnyH_take (oi := ⟨_, _, _, _, _, _⟩) (i := 7) (v := ?_) rfl (by kernel_rfl) (by kernel_rfl) (by kernel_rfl) (fun _ _ _ h => h) (Or.inl ⟨by rfl, ?yb7⟩) (by assumption) ?rb7
                case yb7 => (intro w hSw; (try dsimp only at hSw); go_simp; (try with_reducible rfl))
                try simp only [Act.put, List.setIfInBounds_toArray, List.set_cons_zero, List.set_cons_succ]
                refine wpAnyH_take (oi := ⟨_, _, _, _, _, _⟩) (i := 8) (v := ?_) rfl (by kernel_rfl) (by kernel_rfl) (by kernel_rfl) (fun _ _ _ h => h) (Or.inl ⟨by rfl, ?yb8⟩) (by assumption) ?rb8
                case yb8 => (intro w hSw; (try dsimp only at hSw); go_simp; (try with_reducible rfl))
                try simp only [Act.put, List.setIfInBounds_toArray, List.set_cons_zero, List.set_cons_succ]
                refine wpAnyH_take (oi := ⟨_, _, _, _, _, _⟩) (i := 9) (v := ?_) rfl (by kernel_rfl) (by kernel_rfl) (by kernel_rfl) (fun _ _ _ h => h) (Or.inl ⟨by rfl, ?yb9⟩) (by assumption) ?rb9
                case yb9 => (intro w hSw; (try dsimp only at hSw); go_simp; (try with_reducible rfl))
                try simp only [Act.put, List.setIfInBounds_toArray, List.set_cons_zero, List.set_cons_succ]
                refine wpAnyH_take (oi := ⟨_, _, _, _, _, _⟩) (i := 10) (v := ?_) rfl (by kernel_rfl) (by kernel_rfl) (by kernel_rfl) (fun _ _ _ h => h) (Or.inl ⟨by rfl, ?yb10⟩) (by assumption) ?rb10
                case yb10 => (intro w hSw; (try dsimp only at hSw); go_simp; (try with_reducible rfl))
                try simp only [Act.put, List.setIfInBounds_toArray, List.set_cons_zero, List.set_cons_succ]
                refine wpAnyH_take (oi := ⟨_, _, _, _, _, _⟩) (i := 11) (v := ?_) rfl (by kernel_rfl) (by kernel_rfl) (by kernel_rfl) (fun _ _ _ h => h) (Or.inl ⟨by rfl, ?yb11⟩) (by assumption) ?rb11
                case yb11 => (intro w hSw; (try dsimp only at hSw); go_simp; (try with_reducible rfl))
                try simp only [Act.put, List.setIfInBounds_toArray, List.set_cons_zero, List.set_cons_succ]
                refine wpAnyH_take (oi := ⟨_, _, _, _, _, _⟩) (i := 12) (v := ?_) rfl (by kernel_rfl) (by kernel_rfl) (by kernel_rfl) (fun _ _ _ h => h) (Or.inl ⟨by rfl, ?yb12⟩) (by assumption) ?rb12
                case yb12 => (intro w hSw; (try dsimp only at hSw); go_simp; (try with_reducible rfl))
                try simp only [Act.put, List.setIfInBounds_toArray, List.set_cons_zero, List.set_cons_succ]
                refine wpAnyH_take (oi := ⟨_, _, _, _, _, _⟩) (i := 13) (v := ?_) rfl (by kernel_rfl) (by kernel_rfl) (by kernel_rfl) (fun _ _ _ h => h) (Or.inl ⟨by rfl, ?yb13⟩) (by assumption) ?rb13
                case yb13 => (intro w hSw; (try dsimp only at hSw); go_simp; (try with_reducible rfl))
                try simp only [Act.put, List.setIfInBounds_toArray, List.set_cons_zero, List.set_cons_succ]
                refine wpAnyH_take (oi := ⟨_, _, _, _, _, _⟩) (i := 14) (v := ?_) rfl (by kernel_rfl) (by kernel_rfl) (by kernel_rfl) (fun _ _ _ h => h) (Or.inl ⟨by rfl, ?yb14⟩) (by assumption) ?rb14
                case yb14 => (intro w hSw; (try dsimp only at hSw); go_simp; (try with_reducible rfl))
                try simp only [Act.put, List.setIfInBounds_toArray, List.set_cons_zero, List.set_cons_succ]
                refine wpAnyH_done (by kernel_rfl) ?_ _
                clear hHeld
                generalize wr.drew = wd at *
                go_wp2
                go_roundw
                case rel => exact ⟨i + 1, x, by have := HLI.out; omega, by go_num, by go_num, L2, BD⟩
                case measure => have := HLI.out; simp [intOf]; omega
            · have L2 := Lib.hid (LSK.out fun u hu e h => hd (by rw [← h]; congr 1; omega))
              clear LSK LST CX hx
              generalize hdx : D x = dx at *
              generalize hdv : D v = dv at *
              have hde : (dx == dv - 1) = false := by simpa using hd
              clear hdx hdv
              go_wp2
              go_upto_region 15 with fail
              refine wp_region_held_drew (S := fun w' => w'.cell? ⟨d, x, none⟩ = some (.int .i64 dx) ∧ w'.cell? ⟨d, v, none⟩ = some (.int .i64 dv)) (by kernel_rfl) ?_ (fun hHeld => ?_)
              · exact ⟨c2, c3⟩
              refine wpAnyH_take (oi := ⟨_, _, _, _, _, _⟩) (i := 0) (v := ?_) rfl (by kernel_rfl) (by kernel_rfl) (by kernel_rfl) (fun _ _ _ h => h) (Or.inl ⟨by rfl, ?yc0⟩) (by assumption) ?rc0
              case yc0 => (intro w hSw; (try dsimp only at hSw); go_simp; (try with_reducible rfl))
              try simp only [Act.put, List.setIfInBounds_toArray, List.set_cons_zero, List.set_cons_succ]
              refine wpAnyH_take (oi := ⟨_, _, _, _, _, _⟩) (i := 1) (v := ?_) rfl (by kernel_rfl) (by kernel_rfl) (by kernel_rfl) (fun _ _ _ h => h) (Or.inl ⟨by rfl, ?yc1⟩) (by assumption) ?rc1
              case yc1 => (intro w hSw; (try dsimp only at hSw); go_simp; (try with_reducible rfl))
              try simp only [Act.put, List.setIfInBounds_toArray, List.set_cons_zero, List.set_cons_succ]
              refine wpAnyH_ready (rs := [2]) (by kernel_rfl) (by simp) ?_
              refine AllReadyH.cons (o := ⟨_, _, _, _, _, _⟩) rfl (fun K hK => ?_) AllReadyH.nil
              go_simp
              go_at_call 31; refine (CIx.out _).mono ?_; rintro e9 w9 ⟨rfl, rfl⟩; (try go_wp2_with fail)
              refine hK.out _ _ ?_ (fun hHeld2 => ?_)
              · exact hHeld
              clear hK K hHeld
              have hHeld := hHeld2
              clear hHeld2
              try simp only [Act.put, List.setIfInBounds_toArray, List.set_cons_zero, List.set_cons_succ]
              refine wpAnyH_take (oi := ⟨_, _, _, _, _, _⟩) (i := 3) (v := ?_) rfl (by kernel_rfl) (by kernel_rfl) (by kernel_rfl) (fun _ _ _ h => h) (Or.inl ⟨by rfl, ?yc3⟩) (by assumption) ?rc3
              case yc3 => (intro w hSw; (try dsimp only at hSw); go_simp; (try with_reducible rfl))
              try simp only [Act.put, List.setIfInBounds_toArray, List.set_cons_zero, List.set_cons_succ]
              refine wpAnyH_take (oi := ⟨_, _, _, _, _, _⟩) (i := 4) (v := ?_) rfl (by kernel_rfl) (by kernel_rfl) (by kernel_rfl) (fun _ _ _ h => h) (Or.inl ⟨by rfl, ?yc4⟩) (by assumption) ?rc4
              case yc4 => (intro w hSw; (try dsimp only at hSw); go_simp; (try with_reducible rfl))
              try simp only [Act.put, List.setIfInBounds_toArray, List.set_cons_zero, List.set_cons_succ]
              refine wpAnyH_take (oi := ⟨_, _, _, _, _, _⟩) (i := 5) (v := ?_) rfl (by kernel_rfl) (by kernel_rfl) (by kernel_rfl) (fun _ _ _ h => h) (Or.inl ⟨by rfl, ?yc5⟩) (by assumption) ?rc5
              case yc5 => (intro w hSw; (try dsimp only at hSw); go_simp; (try with_reducible rfl))
              try simp only [Act.put, List.setIfInBounds_toArray, List.set_cons_zero, List.set_cons_succ]
              refine wpAnyH_take (oi := ⟨_, _, _, _, _, _⟩) (i := 6) (v := ?_) rfl (by kernel_rfl) (by kernel_rfl) (by kernel_rfl) (fun _ _ _ h => h) (Or.inl ⟨by rfl, ?yc6⟩) (by assumption) ?rc6
              case yc6 => (intro w hSw; (try dsimp only at hSw); go_simp; (try with_reducible rfl))
              try simp only [Act.put, List.setIfInBounds_toArray, List.set_cons_zero, List.set_cons_succ]
              refine wpAnyH_take (oi := ⟨_, _, _, _, _, _⟩) (i := 7) (v := ?_) rfl (by kernel_rfl) (by kernel_rfl) (by kernel_rfl) (fun _ _ _ h => h) (Or.inl ⟨by rfl, ?yc7⟩) (by assumption) ?rc7
              case yc7 => (intro w hSw; (try dsimp only at hSw); go_simp; (try with_reducible rfl))
              try simp only [Act.put, List.setIfInBounds_toArray, List.set_cons_zero, List.set_cons_succ]
              refine wpAnyH_take (oi := ⟨_, _, _, _, _, _⟩) (i := 8) (v := ?_) rfl (by kernel_rfl) (by kernel_rfl) (by kernel_rfl) (fun _ _ _ h => h) (Or.inl ⟨by rfl, ?yc8⟩) (by assumption) ?rc8
              case yc8 => (intro w hSw; (try dsimp only at hSw); go_simp; (try with_reducible rfl))
              try simp only [Act.put, List.setIfInBounds_toArray, List.set_cons_zero, List.set_cons_succ]
              refine wpAnyH_take (oi := ⟨_, _, _, _, _, _⟩) (i := 9) (v := ?_) rfl (by kernel_rfl) (by kernel_rfl) (by kernel_rfl) (fun _ _ _ h => h) (Or.inl ⟨by rfl, ?yc9⟩) (by assumption) ?rc9
              case yc9 => (intro w hSw; (try dsimp only at hSw); go_simp; (try with_reducible rfl))
              try simp only [Act.put, List.setIfInBounds_toArray, List.set_cons_zero, List.set_cons_succ]
              refine wpAnyH_take (oi := ⟨_, _, _, _, _, _⟩) (i := 10) (v := ?_) rfl (by kernel_rfl) (by kernel_rfl) (by kernel_rfl) (fun _ _ _ h => h) (Or.inl ⟨by rfl, ?yc10⟩) (by assumption) ?rc10
              case yc10 => (intro w hSw; (try dsimp only at hSw); go_simp; (try with_reducible rfl))
              try simp only [Act.put, List.setIfInBounds_toArray, List.set_cons_zero, List.set_cons_succ]
              refine wpAnyH_take (oi := ⟨_, _, _, _, _, _⟩) (i := 11) (v := ?_) rfl (by kernel_rfl) (by kernel_rfl) (by kernel_rfl) (fun _ _ _ h => h) (Or.inl ⟨by rfl, ?yc11⟩) (by assumption) ?rc11
              case yc11 => (intro w hSw; (try dsimp only at hSw); go_simp; (try with_reducible rfl))
              try simp only [Act.put, List.setIfInBounds_toArray, List.set_cons_zero, List.set_cons_succ]
              refine wpAnyH_take (oi := ⟨_, _, _, _, _, _⟩) (i := 12) (v := ?_) rfl (by kernel_rfl) (by kernel_rfl) (by kernel_rfl) (fun _ _ _ h => h) (Or.inl ⟨by rfl, ?yc12⟩) (by assumption) ?rc12
              case yc12 => (intro w hSw; (try dsimp only at hSw); go_simp; (try with_reducible rfl))
              try simp only [Act.put, List.setIfInBounds_toArray, List.set_cons_zero, List.set_cons_succ]
              refine wpAnyH_take (oi := ⟨_, _, _, _, _, _⟩) (i := 13) (v := ?_) rfl (by kernel_rfl) (by kernel_rfl) (by kernel_rfl) (fun _ _ _ h => h) (Or.inl ⟨by rfl, ?yc13⟩) (by assumption) ?rc13
              case yc13 => (intro w hSw; (try dsimp only at hSw); go_simp; (try with_reducible rfl))
              try simp only [Act.put, List.setIfInBounds_toArray, List.set_cons_zero, List.set_cons_succ]
              refine wpAnyH_take (oi := ⟨_, _, _, _, _, _⟩) (i := 14) (v := ?_) rfl (by kernel_rfl) (by kernel_rfl) (by kernel_rfl) (fun _ _ _ h => h) (Or.inl ⟨by rfl, ?yc14⟩) (by assumption) ?rc14
              case yc14 => (intro w hSw; (try dsimp only at hSw); go_simp; (try with_reducible rfl))
              try simp only [Act.put, List.setIfInBounds_toArray, List.set_cons_zero, List.set_cons_succ]
              refine wpAnyH_done (by kernel_rfl) ?_ _
              clear hHeld
              generalize wr.drew = wd at *
              go_wp2
              go_roundw
              case rel => exact ⟨i + 1, y, by have := HLI.out; omega, by go_num, rfl, L2, BD⟩
              case measure => have := HLI.out; simp [intOf]; omega
          · have hb : inR x (n : Int) = false := by
              cases h : inR x (n : Int)
              · rfl
              · exact absurd (inR_iff.1 h) hx
            rw [hb] at CIx
            have L2 := Lib.hid (LSK.out fun u hu e h => hx (by omega))
            clear LSK LST CX hx hb c3
            go_wp2
            go_upto_region 15 with fail
            refine wp_region_held_drew (S := fun w' => True) (by kernel_rfl) ?_ (fun hHeld => ?_)
            · exact trivial
            refine wpAnyH_take (oi := ⟨_, _, _, _, _, _⟩) (i := 0) (v := ?_) rfl (by kernel_rfl) (by kernel_rfl) (by kernel_rfl) (fun _ _ _ h => h) (Or.inl ⟨by rfl, ?yd0⟩) (by assumption) ?rd0
            case yd0 => (intro w hSw; (try dsimp only at hSw); go_simp; (try with_reducible rfl))
            try simp only [Act.put, List.setIfInBounds_toArray, List.set_cons_zero, List.set_cons_succ]
            refine wpAnyH_take (oi := ⟨_, _, _, _, _, _⟩) (i := 1) (v := ?_) rfl (by kernel_rfl) (by kernel_rfl) (by kernel_rfl) (fun _ _ _ h => h) (Or.inl ⟨by rfl, ?yd1⟩) (by assumption) ?rd1
            case yd1 => (intro w hSw; (try dsimp only at hSw); go_simp; (try with_reducible rfl))
            try simp only [Act.put, List.setIfInBounds_toArray, List.set_cons_zero, List.set_cons_succ]
            refine wpAnyH_ready (rs := [2]) (by kernel_rfl) (by simp) ?_
            refine AllReadyH.cons (o := ⟨_, _, _, _, _, _⟩) rfl (fun K hK => ?_) AllReadyH.nil
            go_simp
            go_at_call 31; refine (CIx.out _).mono ?_; rintro e9 w9 ⟨rfl, rfl⟩; (try go_wp2_with fail)
            refine hK.out _ _ ?_ (fun hHeld2 => ?_)
            · exact hHeld
            clear hK K hHeld
            have hHeld := hHeld2
            clear hHeld2
            try simp only [Act.put, List.setIfInBounds_toArray, List.set_cons_zero, List.set_cons_succ]
            refine wpAnyH_take (oi := ⟨_, _, _, _, _, _⟩) (i := 3) (v := ?_) rfl (by kernel_rfl) (by kernel_rfl) (by kernel_rfl) (fun _ _ _ h => h) (Or.inl ⟨by rfl, ?yd3⟩) (by assumption) ?rd3
            case yd3 => (intro w hSw; (try dsimp only at hSw); go_simp; (try with_reducible rfl))
            try simp only [Act.put, List.setIfInBounds_toArray, List.set_cons_zero, List.set_cons_succ]
            refine wpAnyH_take (oi := ⟨_, _, _, _, _, _⟩) (i := 4) rfl (by kernel_rfl) (by kernel_rfl) (by kernel_rfl) (fun _ _ _ h => h) (Or.inr ⟨by rfl, rfl⟩) (by assumption) ?rd4
            try simp only [Act.put, List.setIfInBounds_toArray, List.set_cons_zero, List.set_cons_succ]
            refine wpAnyH_take (oi := ⟨_, _, _, _, _, _⟩) (i := 5) rfl (by kernel_rfl) (by kernel_rfl) (by kernel_rfl) (fun _ _ _ h => h) (Or.inr ⟨by rfl, rfl⟩) (by assumption) ?rd5
            try simp only [Act.put, List.setIfInBounds_toArray, List.set_cons_zero, List.set_cons_succ]
            refine wpAnyH_take (oi := ⟨_, _, _, _, _, _⟩) (i := 6) rfl (by kernel_rfl) (by kernel_rfl) (by kernel_rfl) (fun _ _ _ h => h) (Or.inr ⟨by rfl, rfl⟩) (by assumption) ?rd6
            try simp only [Act.put, List.setIfInBounds_toArray, List.set_cons_zero, List.set_cons_succ]
            refine wpAnyH_take (oi := ⟨_, _, _, _, _, _⟩) (i := 7) rfl (by kernel_rfl) (by kernel_rfl) (by kernel_rfl) (fun _ _ _ h => h) (Or.inr ⟨by rfl, rfl⟩) (by assumption) ?rd7
            try simp only [Act.put, List.setIfInBounds_toArray, List.set_cons_zero, List.set_cons_succ]
            refine wpAnyH_take (oi := ⟨_, _, _, _, _, _⟩) (i := 8) rfl (by kernel_rfl) (by kernel_rfl) (by kernel_rfl) (fun _ _ _ h => h) (Or.inr ⟨by rfl, rfl⟩) (by assumption) ?rd8
            try simp only [Act.put, List.setIfInBounds_toArray, List.set_cons_zero, List.set_cons_succ]
            refine wpAnyH_take (oi := ⟨_, _, _, _, _, _⟩) (i := 9) rfl (by kernel_rfl) (by kernel_rfl) (by kernel_rfl) (fun _ _ _ h => h) (Or.inr ⟨by rfl, rfl⟩) (by assumption) ?rd9
            try simp only [Act.put, List.setIfInBounds_toArray, List.set_cons_zero, List.set_cons_succ]
            refine wpAnyH_take (oi := ⟨_, _, _, _, _, _⟩) (i := 10) rfl (by kernel_rfl) (by kernel_rfl) (by kernel_rfl) (fun _ _ _ h => h) (Or.inr ⟨by rfl, rfl⟩) (by assumption) ?rd10
            try simp only [Act.put, List.setIfInBounds_toArray, List.set_cons_zero, List.set_cons_succ]
            refine wpAnyH_take (oi := ⟨_, _, _, _, _, _⟩) (i := 11) rfl (by kernel_rfl) (by kernel_rfl) (by kernel_rfl) (fun _ _ _ h => h) (Or.inr ⟨by rfl, rfl⟩) (by assumption) ?rd11
            try simp only [Act.put, List.setIfInBounds_toArray, List.set_cons_zero, List.set_cons_succ]
            refine wpAnyH_take (oi := ⟨_, _, _, _, _, _⟩) (i := 12) rfl (by kernel_rfl) (by kernel_rfl) (by kernel_rfl) (fun _ _ _ h => h) (Or.inr ⟨by rfl, rfl⟩) (by assumption) ?rd12
            try simp only [Act.put, List.setIfInBounds_toArray, List.set_cons_zero, List.set_cons_succ]
            refine wpAnyH_take (oi := ⟨_, _, _, _, _, _⟩) (i := 13) rfl (by kernel_rfl) (by kernel_rfl) (by kernel_rfl) (fun _ _ _ h => h) (Or.inr ⟨by rfl, rfl⟩) (by assumption) ?rd13
            try simp only [Act.put, List.setIfInBounds_toArray, List.set_cons_zero, List.set_cons_succ]
            refine wpAnyH_take (oi := ⟨_, _, _, _, _, _⟩) (i := 14) (v := ?_) rfl (by kernel_rfl) (by kernel_rfl) (by kernel_rfl) (fun _ _ _ h => h) (Or.inl ⟨by rfl, ?yd14⟩) (by assumption) ?rd14
            case yd14 => (intro w hSw; (try dsimp only at hSw); go_simp; (try with_reducible rfl))
            try simp only [Act.put, List.setIfInBounds_toArray, List.set_cons_zero, List.set_cons_succ]
            refine wpAnyH_done (by kernel_rfl) ?_ _
            clear hHeld
            generalize wr.drew = wd at *
            go_wp2
            go_roundw
            case rel => exact ⟨i + 1, y, by have := HLI.out; omega, by go_num, rfl, L2, BD⟩
            case measure => have := HLI.out; simp [intOf]; omega
        · have ei : i = (RL v).length := by omega
          have hy : y = it (j + 1) := by
            rw [ISj.out]
            exact LEv.out y (by rw [← ei]; exact LL.out)
          have O1 : Hid (OwnI wr w1.heap.size u9 (tab (j + 1) (fun i => (it i : Int)))) := OW.out.below BI.out (Nat.le_refl _)
          have BB1 := Lib.hid (BB.out.trans (BI.out.mono hsz))
          have hsz1 := BB1.out.size
          have htl : (tab (j + 1) (fun i => (it i : Int))).length = j + 1 := tab_len _ _
          have HTS : Hid (tab (j + 1 + 1) (fun i => (it i : Int)) = tab (j + 1) (fun i => (it i : Int)) ++ [(y : Int)]) := by
            show _ = _
            rw [tab_snoc, hy]
          have HY := Lib.hid hy
          have HJM := Lib.hid hjm
          generalize hTB : tab (j + 1) (fun i => (it i : Int)) = TB at *
          clear LL OW BB BI hy LEv ISj hTB CVo WGo
          go_wp2_with (at_builtin; go_loud (refine wpList_int rfl (.tmp 68) (.tmp 70) rfl w1.heap.size u9 TB (y : Int) rfl (O1.out.alloc _) wr.heap.size rfl (cell_new1 _ _ _) (by omega) (by rw [World.size_alloc]; omega) ?_); intro v' w6 ho6 hb6; have O6 : Hid (OwnI w6 w1.heap.size v' (tab (j + 1 + 1) (fun i => (it i : Int)))) := (by show OwnI _ _ _ _; rw [HTS.out]; exact ho6); have B6 := Lib.hid ((BB1.out.alloc hsz1 _).trans hb6); clear ho6 hb6)
          go_roundg (m - (j + 1))
          case rel => exact ⟨j + 1, rfl, by have := HJM.out; omega, by rw [HY.out], O6, B6⟩
          case measure => have h1 := HGG.out; have h2 := HJM.out; omega
    · obtain rfl : j = m := by omega
      have hvt : v = t := DZj.1 (by rw [hvd]; simp)
      have hvt2 : ((v : Int) != (t : Int)) = false := by simp [hvt]
      have FIN : Hid (∃ A c, u9 = .slice A PT.length c ∧ ReadsV wo A PT) := by
        have ho := OW.out
        rw [← HPT.out] at ho
        obtain ⟨A, c, e1, h1⟩ := ReadsV.own ho
        exact ⟨A, c, e1, h1⟩
      have BF := WG.out _ BB.out
      clear OW BB IS IT DZ DL LE DZj hvd HVD ISj HGG hjm
      obtain ⟨A, c, e1, R1⟩ := FIN.out
      subst e1
      have R1 := Lib.hid R1
      have BF := Lib.hid BF
      subst hvt
      clear hvt2
      go_wp2
      go_ret2
      exact ⟨A, c, by rw [E.out]; rfl, by rw [E.out]; exact R1.out, BF.out⟩
end Go.Proofs.Ytdfljeonoallfaa
