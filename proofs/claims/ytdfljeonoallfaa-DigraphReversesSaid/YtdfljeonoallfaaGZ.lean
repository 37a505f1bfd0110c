/- Graphs: Bottom. -/
import Derived.Test.YtdfljeonoallfaaGY
namespace Go.Proofs.Ytdfljeonoallfaa
open Go.RowKit Go.Deep

theorem lefK_step (R : Nat → List Int) (n k v : Nat) : lefK R n (k + 1) v = (lefK R n k v || (decide (cmpV R n k = v) && outB R n k)) := by
  unfold lefK anyN
  rw [List.range_succ, List.any_append]
  simp
set_option maxHeartbeats 8000000 in
set_option maxRecDepth 100000 in
theorem bottom_any (gA : Option Addr) (n gc : Nat) (RA : Nat → Option Addr) (RL : Nat → List Int) (RK : Nat → Nat) (w : World) (GR : GraphR w gA n RA RL RK) :
    Calls Try.prog 25 #[.slice gA n gc] w (IsPost w.heap.size w (botV RL n)) := by
  have hn := GR.hn
  have hmkb := run_make_bools n (by omega)
  have RW : Hid (∀ W, Below w.heap.size w W → GraphR W gA n RA RL RK) := fun W hW => GR.below hW
  have CI : Hid (∀ x W, Calls Try.prog 31 #[.slice gA n gc, .int .i64 x] W fun e w' => e = .returned (.bool (inR x n)) ∧ W = w') := fun x W => isv_any gA n gc x W
  have CC := Lib.hid (components_any gA n gc RA RL RK w GR)
  have CS : Hid (∀ v, v < n → cmpV RL n v < n) := fun v hv => by have := (cmp_spec (R := RL) hv).1; omega
  have LS := Lib.hid (lefK_step RL n)
  have OE : Hid (∀ k i, outE RL n k i = (inR (at0 (RL k) i) n && !decide (cmpV RL n (at0 (RL k) i).toNat = cmpV RL n k))) := fun _ _ => rfl
  have OY : Hid (∀ k i, i < (RL k).length → outE RL n k i = true → outB RL n k = true) := fun k i hi h => anyN_yes hi h
  have ON : Hid (∀ k, (∀ i, i < (RL k).length → outE RL n k i = false) → outB RL n k = false) := fun k h => anyN_no h
  have BV : Hid (botV RL n = pickI (fun v => decide (cmpV RL n v = v) && !lefK RL n n v) n) := rfl
  have L0 : Hid (∀ v, lefK RL n 0 v = false) := fun _ => rfl
  clear GR
  generalize botV RL n = bot at *
  generalize outE RL n = oe at *
  generalize outB RL n = ob at *
  generalize lefK RL n = lk at *
  generalize cmpV RL n = cmp at *
  go_enter Try.func25, Try.ntmps25
  try go_step3
  go_wp2_with fail
  try go_step3
  try go_wp2_with fail
  refine CC.out.mono ?_
  rintro e w1 ⟨rfl, CR, K1⟩
  have CR := Lib.hid CR
  have K1 := Lib.hid K1
  have hz1 : w.heap.size < w1.heap.size := World.rowIs.lt CR.out
  have R0 : Hid (RowB (w1.alloc (.cells (madeCells #[.bool false] n) 4)) w1.heap.size n (fun v => lk 0 v)) := (RowB.made w1 n).congr fun i _ => (L0.out i).symm
  have S0 : Hid (Below w1.heap.size w1 (w1.alloc (.cells (madeCells #[.bool false] n) 4))) := (Below.refl _ _).alloc (Nat.le_refl _) _
  have CV : Hid (∀ W v, Below w1.heap.size w1 W → v < n → W.cell? ⟨w.heap.size, v, none⟩ = some (.int .i64 (cmp v : Nat))) := fun W v hW hv => keepc (CR.out.cell hv) hW
  have WG : Hid (∀ W, Below w1.heap.size w1 W → Below w.heap.size w W) := fun W hW => K1.out.trans (hW.mono K1.out.size)
  clear CC L0 K1
  go_wp2_with fail
  try go_step3
  try go_wp2_with fail
  go_loopw [18] (fun q wr => ∃ k : Nat, k ≤ n ∧ q = .int .i64 (k : Nat) ∧ Hid (RowB wr w1.heap.size n (fun v => lk k v)) ∧ Hid (Below w1.heap.size w1 wr)) (fun q _ => n - (intOf q).toNat)
  case atStart => exact ⟨0, by omega, rfl, R0, S0⟩
  case round =>
    clear R0 S0
    obtain ⟨wo, rfl⟩ : ∃ wo, wo = wr := ⟨_, rfl⟩
    obtain ⟨k, hk, rfl, RB, BB⟩ := hrel
    by_cases hlt : k < n
    · have BG := WG.out _ BB.out
      obtain ⟨b, off, rfl, _, c0⟩ := (RW.out _ BG).row k hlt
      have RD : Hid (∀ W, Below w.heap.size w W → ReadsV W (RA k) (RL k)) := fun W hW => (RW.out W hW).rd k hlt
      have hll : (RL k).length ≤ 1000000 := (RW.out _ BG).ll k hlt
      have F0 : Hid (∀ j, j < 0 → oe k j = false) := fun j hj => absurd hj (by omega)
      have OYk := Lib.hid (OY.out k)
      have ONk := Lib.hid (ON.out k)
      have OEk := Lib.hid (OE.out k)
      have LSk := Lib.hid (LS.out k)
      have hckn := CS.out k hlt
      clear BG
      go_wp2_with fail
      go_loopw [25] (fun q wr => ∃ i : Nat, i ≤ (RL k).length ∧ q = .int .i64 (i : Nat) ∧ Hid (∀ j, j < i → oe k j = false) ∧ Hid (RowB wr w1.heap.size n (fun v => lk k v)) ∧ Hid (Below w1.heap.size w1 wr)) (fun q _ => (RL k).length - (intOf q).toNat)
      case atStart => exact ⟨0, by omega, rfl, F0, RB, BB⟩
      case round =>
        clear RB BB F0 c0
        obtain ⟨i, hi, rfl, HF, RB, BB⟩ := hrel
        by_cases hli : i < (RL k).length
        · obtain ⟨b2, off2, e2, _, c1⟩ := RD.out _ (WG.out _ BB.out) i hli
          rw [e2]
          clear e2
          have OEi := Lib.hid (OEk.out i)
          have OYi := Lib.hid (OYk.out i hli)
          have HF2 : Hid (oe k i = false → ∀ j, j < i + 1 → oe k j = false) := fun h j hj => by
            by_cases e : j = i
            · rw [e]; exact h
            · exact HF.out j (by omega)
          have c3 := CV.out _ k BB.out hlt
          have CIx := Lib.hid (CI.out (at0 (RL k) i))
          have CX : Hid (∀ x : Nat, x < n → wr.cell? ⟨w.heap.size, x, none⟩ = some (.int .i64 (cmp x : Nat))) := fun x hx => CV.out _ x BB.out hx
          clear OYk ONk OEk HF OE OY ON
          generalize at0 (RL k) i = x at *
          generalize oe k i = z at *
          by_cases hx : 0 ≤ x ∧ x < (n : Int)
          · have hin : inR x (n : Int) = true := inR_iff.2 hx
            rw [hin] at CIx OEi
            obtain ⟨x, rfl⟩ : ∃ y : Nat, x = y := ⟨x.toNat, by omega⟩
            have hxn : x < n := by omega
            have c2 := CX.out x hxn
            rw [Int.toNat_natCast, Bool.true_and] at OEi
            have hlc : wr.cell? ⟨w1.heap.size, cmp k, none⟩ = some (.bool (lk k (cmp k))) := RB.out.get hckn
            have hfz : wr.frozen? ⟨w1.heap.size, cmp k, none⟩ = false := World.rowIs.frozen RB.out _
            have RS : Hid (lk (k + 1) = (fun v => if v = cmp k then true else lk k v) ∨ ob k = false) := by
              cases ho : ob k
              · exact Or.inr rfl
              · left
                funext v
                rw [LSk.out v, ho]
                by_cases c : v = cmp k
                · rw [if_pos c, c]; simp
                · rw [if_neg c, decide_eq_false fun h => c h.symm]; simp
            have RN : Hid (ob k = true → RowB (wr.drew.setCell ⟨w1.heap.size, cmp k, none⟩ (.bool true)) w1.heap.size n (fun v => lk (k + 1) v)) := fun ho => by
              rcases RS.out with h | h
              · rw [h]; exact RowB.set (w := wr.drew) RB.out (cmp k) true
              · rw [h] at ho; cases ho
            have BN : Hid (Below w1.heap.size w1 (wr.drew.setCell ⟨w1.heap.size, cmp k, none⟩ (.bool true))) := BB.out.drew.setCell (Nat.le_refl _) _
            have RB2 : Hid (RowB wr.drew w1.heap.size n (fun v => lk k v)) := RB.out
            have BB2 := Lib.hid BB.out.drew
            clear hx hin CX CV RS RB BB LSk
            generalize hck : cmp k = ck at *
            generalize cmp x = cx at *
            by_cases hne : cx = ck
            · have hz : Hid (z = false) := by show _ = _; rw [OEi.out, hne]; simp
              have HF3 := Lib.hid (HF2.out hz.out)
              have hb : (cx != ck) = false := by simp [hne]
              clear hck OEi OYi HF2 hz RN BN hlc hfz
              go_wp2
              go_upto_region 14 with fail
              refine wp_region_held_drew (S := fun w' => w'.cell? ⟨w.heap.size, x, none⟩ = some (.int .i64 (cx : Nat)) ∧ w'.cell? ⟨w.heap.size, k, none⟩ = some (.int .i64 (ck : Nat))) (by kernel_rfl) ?_ (fun hHeld => ?_)
              · exact ⟨c2, c3⟩
              refine wpAnyH_take (oi := ⟨_, _, _, _, _, _⟩) (i := 0) (v := ?_) rfl (by kernel_rfl) (by kernel_rfl) (by kernel_rfl) (fun _ _ _ h => h) (Or.inl ⟨by rfl, ?ya0⟩) (by assumption) ?ra0
              case ya0 => (intro w hSw; (try dsimp only at hSw); go_simp; (try with_reducible rfl))
              try simp only [Act.put, List.setIfInBounds_toArray, List.set_cons_zero, List.set_cons_succ]
              refine wpAnyH_take (oi := ⟨_, _, _, _, _, _⟩) (i := 1) (v := ?_) rfl (by kernel_rfl) (by kernel_rfl) (by kernel_rfl) (fun _ _ _ h => h) (Or.inl ⟨by rfl, ?ya1⟩) (by assumption) ?ra1
              case ya1 => (intro w hSw; (try dsimp only at hSw); go_simp; (try with_reducible rfl))
              try simp only [Act.put, List.setIfInBounds_toArray, List.set_cons_zero, List.set_cons_succ]
              refine wpAnyH_ready (rs := [2]) (by kernel_rfl) (by simp) ?_
              refine AllReadyH.cons (o := ⟨_, _, _, _, _, _⟩) rfl (fun K hK => ?_) AllReadyH.nil
              go_simp
              go_at_call 31; refine (CIx.out _).mono ?_; rintro e9 w9 ⟨rfl, rfl⟩; (try go_wp2_with fail)
              refine hK.out _ _ ?_ (fun hHeld2 => ?_)
              · exact hHeld
              clear hK K hHeld
              have hHeld := hHeld2
              clear hHeld2
              try simp only [Act.put, List.setIfInBounds_toArray, List.set_cons_zero, List.set_cons_succ]
              refine wpAnyH_take (oi := ⟨_, _, _, _, _, _⟩) (i := 3) (v := ?_) rfl (by kernel_rfl) (by kernel_rfl) (by kernel_rfl) (fun _ _ _ h => h) (Or.inl ⟨by rfl, ?ya3⟩) (by assumption) ?ra3
              case ya3 => (intro w hSw; (try dsimp only at hSw); go_simp; (try with_reducible rfl))
              try simp only [Act.put, List.setIfInBounds_toArray, List.set_cons_zero, List.set_cons_succ]
              refine wpAnyH_take (oi := ⟨_, _, _, _, _, _⟩) (i := 4) (v := ?_) rfl (by kernel_rfl) (by kernel_rfl) (by kernel_rfl) (fun _ _ _ h => h) (Or.inl ⟨by rfl, ?ya4⟩) (by assumption) ?ra4
              case ya4 => (intro w hSw; (try dsimp only at hSw); go_simp; (try with_reducible rfl))
              try simp only [Act.put, List.setIfInBounds_toArray, List.set_cons_zero, List.set_cons_succ]
              refine wpAnyH_take (oi := ⟨_, _, _, _, _, _⟩) (i := 5) (v := ?_) rfl (by kernel_rfl) (by kernel_rfl) (by kernel_rfl) (fun _ _ _ h => h) (Or.inl ⟨by rfl, ?ya5⟩) (by assumption) ?ra5
              case ya5 => (intro w hSw; (try dsimp only at hSw); go_simp; (try with_reducible rfl))
              try simp only [Act.put, List.setIfInBounds_toArray, List.set_cons_zero, List.set_cons_succ]
              refine wpAnyH_take (oi := ⟨_, _, _, _, _, _⟩) (i := 6) (v := ?_) rfl (by kernel_rfl) (by kernel_rfl) (by kernel_rfl) (fun _ _ _ h => h) (Or.inl ⟨by rfl, ?ya6⟩) (by assumption) ?ra6
              case ya6 => (intro w hSw; (try dsimp only at hSw); go_simp; (try with_reducible rfl))
              try simp only [Act.put, List.setIfInBounds_toArray, List.set_cons_zero, List.set_cons_succ]
              refine wpAnyH_take (oi := ⟨_, _, _, _, _, _⟩) (i := 7) (v := ?_) rfl (by kernel_rfl) (by kernel_rfl) (by kernel_rfl) (fun _ _ _ h => h) (Or.inl ⟨by rfl, ?ya7⟩) (by assumption) ?ra7
              case ya7 => (intro w hSw; (try dsimp only at hSw); go_simp; (try with_reducible rfl))
              try simp only [Act.put, List.setIfInBounds_toArray, List.set_cons_zero, List.set_cons_succ]
              refine wpAnyH_take (oi := ⟨_, _, _, _, _, _⟩) (i := 8) (v := ?_) rfl (by kernel_rfl) (by kernel_rfl) (by kernel_rfl) (fun _ _ _ h => h) (Or.inl ⟨by rfl, ?ya8⟩) (by assumption) ?ra8
              case ya8 => (intro w hSw; (try dsimp only at hSw); go_simp; (try with_reducible rfl))
              try simp only [Act.put, List.setIfInBounds_toArray, List.set_cons_zero, List.set_cons_succ]
              refine wpAnyH_take (oi := ⟨_, _, _, _, _, _⟩) (i := 9) (v := ?_) rfl (by kernel_rfl) (by kernel_rfl) (by kernel_rfl) (fun _ _ _ h => h) (Or.inl ⟨by rfl, ?ya9⟩) (by assumption) ?ra9
              case ya9 => (intro w hSw; (try dsimp only at hSw); go_simp; (try with_reducible rfl))
              try simp only [Act.put, List.setIfInBounds_toArray, List.set_cons_zero, List.set_cons_succ]
              refine wpAnyH_take (oi := ⟨_, _, _, _, _, _⟩) (i := 10) (v := ?_) rfl (by kernel_rfl) (by kernel_rfl) (by kernel_rfl) (fun _ _ _ h => h) (Or.inl ⟨by rfl, ?ya10⟩) (by assumption) ?ra10
              case ya10 => (intro w hSw; (try dsimp only at hSw); go_simp; (try with_reducible rfl))
              try simp only [Act.put, List.setIfInBounds_toArray, List.set_cons_zero, List.set_cons_succ]
              refine wpAnyH_take (oi := ⟨_, _, _, _, _, _⟩) (i := 11) (v := ?_) rfl (by kernel_rfl) (by kernel_rfl) (by kernel_rfl) (fun _ _ _ h => h) (Or.inl ⟨by rfl, ?ya11⟩) (by assumption) ?ra11
              case ya11 => (intro w hSw; (try dsimp only at hSw); go_simp; (try with_reducible rfl))
              try simp only [Act.put, List.setIfInBounds_toArray, List.set_cons_zero, List.set_cons_succ]
              refine wpAnyH_take (oi := ⟨_, _, _, _, _, _⟩) (i := 12) (v := ?_) rfl (by kernel_rfl) (by kernel_rfl) (by kernel_rfl) (fun _ _ _ h => h) (Or.inl ⟨by rfl, ?ya12⟩) (by assumption) ?ra12
              case ya12 => (intro w hSw; (try dsimp only at hSw); go_simp; (try with_reducible rfl))
              try simp only [Act.put, List.setIfInBounds_toArray, List.set_cons_zero, List.set_cons_succ]
              refine wpAnyH_take (oi := ⟨_, _, _, _, _, _⟩) (i := 13) (v := ?_) rfl (by kernel_rfl) (by kernel_rfl) (by kernel_rfl) (fun _ _ _ h => h) (Or.inl ⟨by rfl, ?ya13⟩) (by assumption) ?ra13
              case ya13 => (intro w hSw; (try dsimp only at hSw); go_simp; (try with_reducible rfl))
              try simp only [Act.put, List.setIfInBounds_toArray, List.set_cons_zero, List.set_cons_succ]
              refine wpAnyH_done (by kernel_rfl) ?_ _
              clear hHeld
              generalize wr.drew = wd at *
              go_wp2
              go_roundw
              case rel => exact ⟨i + 1, by omega, by go_num, HF3, RB2, BB2⟩
              case measure => simp [intOf]; omega
            · have hz : Hid (z = true) := by show _ = _; rw [OEi.out]; simp [hne]
              have HO := OYi.out hz.out
              have RN := Lib.hid (RN.out HO)
              have hne2 : ¬ (cx : Int) = (ck : Int) := by omega
              clear hck OEi OYi HF2 hz HO
              go_wp2
              go_upto_region 14 with fail
              refine wp_region_held_drew (S := fun w' => w'.cell? ⟨w.heap.size, x, none⟩ = some (.int .i64 (cx : Nat)) ∧ w'.cell? ⟨w.heap.size, k, none⟩ = some (.int .i64 (ck : Nat))) (by kernel_rfl) ?_ (fun hHeld => ?_)
              · exact ⟨c2, c3⟩
              refine wpAnyH_take (oi := ⟨_, _, _, _, _, _⟩) (i := 0) (v := ?_) rfl (by kernel_rfl) (by kernel_rfl) (by kernel_rfl) (fun _ _ _ h => h) (Or.inl ⟨by rfl, ?yb0⟩) (by assumption) ?rb0
              case yb0 => (intro w hSw; (try dsimp only at hSw); go_simp; (try with_reducible rfl))
              try simp only [Act.put, List.setIfInBounds_toArray, List.set_cons_zero, List.set_cons_succ]
              refine wpAnyH_take (oi := ⟨_, _, _, _, _, _⟩) (i := 1) (v := ?_) rfl (by kernel_rfl) (by kernel_rfl) (by kernel_rfl) (fun _ _ _ h => h) (Or.inl ⟨by rfl, ?yb1⟩) (by assumption) ?rb1
              case yb1 => (intro w hSw; (try dsimp only at hSw); go_simp; (try with_reducible rfl))
              try simp only [Act.put, List.setIfInBounds_toArray, List.set_cons_zero, List.set_cons_succ]
              refine wpAnyH_ready (rs := [2]) (by kernel_rfl) (by simp) ?_
              refine AllReadyH.cons (o := ⟨_, _, _, _, _, _⟩) rfl (fun K hK => ?_) AllReadyH.nil
              go_simp
              go_at_call 31; refine (CIx.out _).mono ?_; rintro e9 w9 ⟨rfl, rfl⟩; (try go_wp2_with fail)
              refine hK.out _ _ ?_ (fun hHeld2 => ?_)
              · exact hHeld
              clear hK K hHeld
              have hHeld := hHeld2
              clear hHeld2
              try simp only [Act.put, List.setIfInBounds_toArray, List.set_cons_zero, List.set_cons_succ]
              refine wpAnyH_take (oi := ⟨_, _, _, _, _, _⟩) (i := 3) (v := ?_) rfl (by kernel_rfl) (by kernel_rfl) (by kernel_rfl) (fun _ _ _ h => h) (Or.inl ⟨by rfl, ?yb3⟩) (by assumption) ?rb3
              case yb3 => (intro w hSw; (try dsimp only at hSw); go_simp; (try with_reducible rfl))
              try simp only [Act.put, List.setIfInBounds_toArray, List.set_cons_zero, List.set_cons_succ]
              refine wpAnyH_take (oi := ⟨_, _, _, _, _, _⟩) (i := 4) (v := ?_) rfl (by kernel_rfl) (by kernel_rfl) (by kernel_rfl) (fun _ _ _ h => h) (Or.inl ⟨by rfl, ?yb4⟩) (by assumption) ?rb4
              case yb4 => (intro w hSw; (try dsimp only at hSw); go_simp; (try with_reducible rfl))
              try simp only [Act.put, List.setIfInBounds_toArray, List.set_cons_zero, List.set_cons_succ]
              refine wpAnyH_take (oi := ⟨_, _, _, _, _, _⟩) (i := 5) (v := ?_) rfl (by kernel_rfl) (by kernel_rfl) (by kernel_rfl) (fun _ _ _ h => h) (Or.inl ⟨by rfl, ?yb5⟩) (by assumption) ?rb5
              case yb5 => (intro w hSw; (try dsimp only at hSw); go_simp; (try with_reducible rfl))
              try simp only [Act.put, List.setIfInBounds_toArray, List.set_cons_zero, List.set_cons_succ]
              refine wpAnyH_take (oi := ⟨_, _, _, _, _, _⟩) (i := 6) (v := ?_) rfl (by kernel_rfl) (by kernel_rfl) (by kernel_rfl) (fun _ _ _ h => h) (Or.inl ⟨by rfl, ?yb6⟩) (by assumption) ?rb6
              case yb6 => (intro w hSw; (try dsimp only at hSw); go_simp; (try with_reducible rfl))
              try simp only [Act.put, List.setIfInBounds_toArray, List.set_cons_zero, List.set_cons_succ]
              refine wpAnyH_take (oi := ⟨_, _, _, _, _, _⟩) (i := 7) (v := ?_) rfl (by kernel_rfl) (by kernel_rfl) (by kernel_rfl) (fun _ _ _ h => h) (Or.inl ⟨by rfl, ?yb7⟩) (by assumption) ?rb7
              case yb7 => (intro w hSw; (try dsimp only at hSw); go_simp; (try with_reducible rfl))
              try simp only [Act.put, List.setIfInBounds_toArray, List.set_cons_zero, List.set_cons_succ]
              refine wpAnyH_take (oi := ⟨_, _, _, _, _, _⟩) (i := 8) (v := ?_) rfl (by kernel_rfl) (by kernel_rfl) (by kernel_rfl) (fun _ _ _ h => h) (Or.inl ⟨by rfl, ?yb8⟩) (by assumption) ?rb8
              case yb8 => (intro w hSw; (try dsimp only at hSw); go_simp; (try with_reducible rfl))
              try simp only [Act.put, List.setIfInBounds_toArray, List.set_cons_zero, List.set_cons_succ]
              refine wpAnyH_take (oi := ⟨_, _, _, _, _, _⟩) (i := 9) (v := ?_) rfl (by kernel_rfl) (by kernel_rfl) (by kernel_rfl) (fun _ _ _ h => h) (Or.inl ⟨by rfl, ?yb9⟩) (by assumption) ?rb9
              case yb9 => (intro w hSw; (try dsimp only at hSw); go_simp; (try with_reducible rfl))
              try simp only [Act.put, List.setIfInBounds_toArray, List.set_cons_zero, List.set_cons_succ]
              refine wpAnyH_take (oi := ⟨_, _, _, _, _, _⟩) (i := 10) (v := ?_) rfl (by kernel_rfl) (by kernel_rfl) (by kernel_rfl) (fun _ _ _ h => h) (Or.inl ⟨by rfl, ?yb10⟩) (by assumption) ?rb10
              case yb10 => (intro w hSw; (try dsimp only at hSw); go_simp; (try with_reducible rfl))
              try simp only [Act.put, List.setIfInBounds_toArray, List.set_cons_zero, List.set_cons_succ]
              refine wpAnyH_take (oi := ⟨_, _, _, _, _, _⟩) (i := 11) (v := ?_) rfl (by kernel_rfl) (by kernel_rfl) (by kernel_rfl) (fun _ _ _ h => h) (Or.inl ⟨by rfl, ?yb11⟩) (by assumption) ?rb11
              case yb11 => (intro w hSw; (try dsimp only at hSw); go_simp; (try with_reducible rfl))
              try simp only [Act.put, List.setIfInBounds_toArray, List.set_cons_zero, List.set_cons_succ]
              refine wpAnyH_take (oi := ⟨_, _, _, _, _, _⟩) (i := 12) (v := ?_) rfl (by kernel_rfl) (by kernel_rfl) (by kernel_rfl) (fun _ _ _ h => h) (Or.inl ⟨by rfl, ?yb12⟩) (by assumption) ?rb12
              case yb12 => (intro w hSw; (try dsimp only at hSw); go_simp; (try with_reducible rfl))
              try simp only [Act.put, List.setIfInBounds_toArray, List.set_cons_zero, List.set_cons_succ]
              refine wpAnyH_take (oi := ⟨_, _, _, _, _, _⟩) (i := 13) (v := ?_) rfl (by kernel_rfl) (by kernel_rfl) (by kernel_rfl) (fun _ _ _ h => h) (Or.inl ⟨by rfl, ?yb13⟩) (by assumption) ?rb13
              case yb13 => (intro w hSw; (try dsimp only at hSw); go_simp; (try with_reducible rfl))
              try simp only [Act.put, List.setIfInBounds_toArray, List.set_cons_zero, List.set_cons_succ]
              refine wpAnyH_done (by kernel_rfl) ?_ _
              clear hHeld
              obtain ⟨wd, hwd⟩ : ∃ wd, wd = wr.drew := ⟨_, rfl⟩
              have hlc2 : wd.cell? ⟨w1.heap.size, ck, none⟩ = some (.bool (lk k ck)) := by rw [hwd]; exact hlc
              have hfz2 : wd.frozen? ⟨w1.heap.size, ck, none⟩ = false := by rw [hwd]; exact hfz
              have c3' : wd.cell? ⟨w.heap.size, k, none⟩ = some (.int .i64 (ck : Nat)) := by rw [hwd]; exact c3
              rw [← hwd] at RN BN RB2 BB2 ⊢
              clear hwd hlc hfz c1 c2 c3
              go_wp2
              go_roundw
              case rel => exact ⟨k + 1, by omega, by go_num, RN, BN⟩
              case measure => simp [intOf]; omega
          · have hb : inR x (n : Int) = false := by
              cases h : inR x (n : Int)
              · rfl
              · exact absurd (inR_iff.1 h) hx
            rw [hb] at CIx OEi
            have HF3 := Lib.hid (HF2.out OEi.out)
            have RB2 : Hid (RowB wr.drew w1.heap.size n (fun v => lk k v)) := RB.out
            have BB2 := Lib.hid BB.out.drew
            clear hx hb OEi OYi HF2 CX CV RB BB c3
            go_wp2
            go_upto_region 14 with fail
            refine wp_region_held_drew (S := fun w' => True) (by kernel_rfl) ?_ (fun hHeld => ?_)
            · exact trivial
            refine wpAnyH_take (oi := ⟨_, _, _, _, _, _⟩) (i := 0) (v := ?_) rfl (by kernel_rfl) (by kernel_rfl) (by kernel_rfl) (fun _ _ _ h => h) (Or.inl ⟨by rfl, ?yc0⟩) (by assumption) ?rc0
            case yc0 => (intro w hSw; (try dsimp only at hSw); go_simp; (try with_reducible rfl))
            try simp only [Act.put, List.setIfInBounds_toArray, List.set_cons_zero, List.set_cons_succ]
            refine wpAnyH_take (oi := ⟨_, _, _, _, _, _⟩) (i := 1) (v := ?_) rfl (by kernel_rfl) (by kernel_rfl) (by kernel_rfl) (fun _ _ _ h => h) (Or.inl ⟨by rfl, ?yc1⟩) (by assumption) ?rc1
            case yc1 => (intro w hSw; (try dsimp only at hSw); go_simp; (try with_reducible rfl))
            try simp only [Act.put, List.setIfInBounds_toArray, List.set_cons_zero, List.set_cons_succ]
            refine wpAnyH_ready (rs := [2]) (by kernel_rfl) (by simp) ?_
            refine AllReadyH.cons (o := ⟨_, _, _, _, _, _⟩) rfl (fun K hK => ?_) AllReadyH.nil
            go_simp
            go_at_call 31; refine (CIx.out _).mono ?_; rintro e9 w9 ⟨rfl, rfl⟩; (try go_wp2_with fail)
            refine hK.out _ _ ?_ (fun hHeld2 => ?_)
            · exact hHeld
            clear hK K hHeld
            have hHeld := hHeld2
            clear hHeld2
            try simp only [Act.put, List.setIfInBounds_toArray, List.set_cons_zero, List.set_cons_succ]
            refine wpAnyH_take (oi := ⟨_, _, _, _, _, _⟩) (i := 3) (v := ?_) rfl (by kernel_rfl) (by kernel_rfl) (by kernel_rfl) (fun _ _ _ h => h) (Or.inl ⟨by rfl, ?yc3⟩) (by assumption) ?rc3
            case yc3 => (intro w hSw; (try dsimp only at hSw); go_simp; (try with_reducible rfl))
            try simp only [Act.put, List.setIfInBounds_toArray, List.set_cons_zero, List.set_cons_succ]
            refine wpAnyH_take (oi := ⟨_, _, _, _, _, _⟩) (i := 4) rfl (by kernel_rfl) (by kernel_rfl) (by kernel_rfl) (fun _ _ _ h => h) (Or.inr ⟨by rfl, rfl⟩) (by assumption) ?rc4
            try simp only [Act.put, List.setIfInBounds_toArray, List.set_cons_zero, List.set_cons_succ]
            refine wpAnyH_take (oi := ⟨_, _, _, _, _, _⟩) (i := 5) rfl (by kernel_rfl) (by kernel_rfl) (by kernel_rfl) (fun _ _ _ h => h) (Or.inr ⟨by rfl, rfl⟩) (by assumption) ?rc5
            try simp only [Act.put, List.setIfInBounds_toArray, List.set_cons_zero, List.set_cons_succ]
            refine wpAnyH_take (oi := ⟨_, _, _, _, _, _⟩) (i := 6) rfl (by kernel_rfl) (by kernel_rfl) (by kernel_rfl) (fun _ _ _ h => h) (Or.inr ⟨by rfl, rfl⟩) (by assumption) ?rc6
            try simp only [Act.put, List.setIfInBounds_toArray, List.set_cons_zero, List.set_cons_succ]
            refine wpAnyH_take (oi := ⟨_, _, _, _, _, _⟩) (i := 7) rfl (by kernel_rfl) (by kernel_rfl) (by kernel_rfl) (fun _ _ _ h => h) (Or.inr ⟨by rfl, rfl⟩) (by assumption) ?rc7
            try simp only [Act.put, List.setIfInBounds_toArray, List.set_cons_zero, List.set_cons_succ]
            refine wpAnyH_take (oi := ⟨_, _, _, _, _, _⟩) (i := 8) rfl (by kernel_rfl) (by kernel_rfl) (by kernel_rfl) (fun _ _ _ h => h) (Or.inr ⟨by rfl, rfl⟩) (by assumption) ?rc8
            try simp only [Act.put, List.setIfInBounds_toArray, List.set_cons_zero, List.set_cons_succ]
            refine wpAnyH_take (oi := ⟨_, _, _, _, _, _⟩) (i := 9) rfl (by kernel_rfl) (by kernel_rfl) (by kernel_rfl) (fun _ _ _ h => h) (Or.inr ⟨by rfl, rfl⟩) (by assumption) ?rc9
            try simp only [Act.put, List.setIfInBounds_toArray, List.set_cons_zero, List.set_cons_succ]
            refine wpAnyH_take (oi := ⟨_, _, _, _, _, _⟩) (i := 10) rfl (by kernel_rfl) (by kernel_rfl) (by kernel_rfl) (fun _ _ _ h => h) (Or.inr ⟨by rfl, rfl⟩) (by assumption) ?rc10
            try simp only [Act.put, List.setIfInBounds_toArray, List.set_cons_zero, List.set_cons_succ]
            refine wpAnyH_take (oi := ⟨_, _, _, _, _, _⟩) (i := 11) rfl (by kernel_rfl) (by kernel_rfl) (by kernel_rfl) (fun _ _ _ h => h) (Or.inr ⟨by rfl, rfl⟩) (by assumption) ?rc11
            try simp only [Act.put, List.setIfInBounds_toArray, List.set_cons_zero, List.set_cons_succ]
            refine wpAnyH_take (oi := ⟨_, _, _, _, _, _⟩) (i := 12) rfl (by kernel_rfl) (by kernel_rfl) (by kernel_rfl) (fun _ _ _ h => h) (Or.inr ⟨by rfl, rfl⟩) (by assumption) ?rc12
            try simp only [Act.put, List.setIfInBounds_toArray, List.set_cons_zero, List.set_cons_succ]
            refine wpAnyH_take (oi := ⟨_, _, _, _, _, _⟩) (i := 13) (v := ?_) rfl (by kernel_rfl) (by kernel_rfl) (by kernel_rfl) (fun _ _ _ h => h) (Or.inl ⟨by rfl, ?yc13⟩) (by assumption) ?rc13
            case yc13 => (intro w hSw; (try dsimp only at hSw); go_simp; (try with_reducible rfl))
            try simp only [Act.put, List.setIfInBounds_toArray, List.set_cons_zero, List.set_cons_succ]
            refine wpAnyH_done (by kernel_rfl) ?_ _
            clear hHeld
            generalize wr.drew = wd at *
            go_wp2
            go_roundw
            case rel => exact ⟨i + 1, by omega, by go_num, HF3, RB2, BB2⟩
            case measure => simp [intOf]; omega
        · obtain rfl : i = (RL k).length := by omega
          have HB := ONk.out HF.out
          have RN : Hid (RowB wr w1.heap.size n (fun v => lk (k + 1) v)) := RB.out.congr fun v _ => by rw [LSk.out v, HB]; simp
          clear HB HF RB OYk ONk OEk
          go_wp2
          go_roundw
          case rel => exact ⟨k + 1, by omega, by go_num, RN, BB⟩
          case measure => simp [intOf]; omega
    · obtain rfl : k = n := by omega
      have O0 : Hid (OwnI wo w1.heap.size (.slice none 0 0) (pickI (fun v => decide (cmp v = v) && !lk k v) 0)) := OwnI.nil _ _
      have hsw := BB.out.size
      have CW : Hid (∀ W, Below wo.heap.size wo W → ∀ v, v < k → W.cell? ⟨w.heap.size, v, none⟩ = some (.int .i64 (cmp v : Nat)) ∧ W.cell? ⟨w1.heap.size, v, none⟩ = some (.bool (lk k v))) := fun W hW v hv => ⟨keepc (CV.out _ v BB.out hv) hW, keepc (RB.out.get hv) hW⟩
      have WG2 : Hid (∀ W, Below wo.heap.size wo W → Below w.heap.size w W) := fun W hW => (WG.out _ BB.out).trans (hW.mono (by have := (WG.out _ BB.out).size; exact this))
      have O0 : Hid (OwnI wo wo.heap.size (.slice none 0 0) (pickI (fun v => decide (cmp v = v) && !lk k v) 0)) := OwnI.nil _ _
      have B0 : Hid (Below wo.heap.size wo wo) := Below.refl _ _
      clear RB BB OE OY ON LS CV
      go_wp2_with fail
      go_loopw [53, 9] (fun q bv wr => ∃ i : Nat, i ≤ k ∧ q = .int .i64 (i : Nat) ∧ Hid (OwnI wr wo.heap.size bv (pickI (fun v => decide (cmp v = v) && !lk k v) i)) ∧ Hid (Below wo.heap.size wo wr)) (fun q _ _ => k - (intOf q).toNat)
      case atStart => exact ⟨0, by omega, rfl, O0, B0⟩
      case round =>
        clear O0 B0
        obtain ⟨wp, rfl⟩ : ∃ wp, wp = wr := ⟨_, rfl⟩
        obtain ⟨i, hi, rfl, OW, BB⟩ := hrel
        by_cases hlt2 : i < k
        · obtain ⟨c1, c2⟩ := CW.out _ BB.out i hlt2
          have PY := Lib.hid (pickI_yes (fun v => decide (cmp v = v) && !lk k v) i)
          have PN := Lib.hid (pickI_no (fun v => decide (cmp v = v) && !lk k v) i)
          have hpl := pickI_len (fun v => decide (cmp v = v) && !lk k v) i
          have hsz := BB.out.size
          by_cases h1 : cmp i = i
          · rw [h1] at c1
            have hi1 : ((i : Int) == (i : Int)) = true := by simp
            cases h2 : lk k i
            · rw [h2] at c2
              have PYi := Lib.hid (PY.out (by simp [h1, h2]))
              clear PY PN h1 h2 CW
              generalize pickI (fun v => decide (cmp v = v) && !lk k v) i = P0 at *
              go_wp2_with (at_builtin; go_loud (refine wpList_int rfl (.tmp 69) (.tmp 71) rfl wo.heap.size u9 P0 (i : Int) rfl (OW.out.alloc _) wp.heap.size rfl (cell_new1 _ _ _) (by omega) (by rw [World.size_alloc]; omega) ?_); intro v' w6 ho6 hb6; have O6 : Hid (OwnI w6 wo.heap.size v' (pickI (fun v => decide (cmp v = v) && !lk k v) (i + 1))) := (by show OwnI _ _ _ _; rw [PYi.out]; exact ho6); have B6 := Lib.hid ((BB.out.alloc hsz _).trans hb6); clear ho6 hb6)
              go_roundw
              case rel => exact ⟨i + 1, by omega, by go_num, O6, B6⟩
              case measure => simp [intOf]; omega
            · rw [h2] at c2
              have O6 : Hid (OwnI wp wo.heap.size u9 (pickI (fun v => decide (cmp v = v) && !lk k v) (i + 1))) := by
                show OwnI _ _ _ _
                rw [PN.out (by simp [h2])]; exact OW.out
              clear PY PN h1 h2 CW
              go_wp2
              go_roundw
              case rel => exact ⟨i + 1, by omega, by go_num, O6, BB⟩
              case measure => simp [intOf]; omega
          · have h1' : ¬ ((cmp i : Nat) : Int) = (i : Int) := by omega
            have h1b : (((cmp i : Nat) : Int) == (i : Int)) = false := by simpa using h1'
            have O6 : Hid (OwnI wp wo.heap.size u9 (pickI (fun v => decide (cmp v = v) && !lk k v) (i + 1))) := by
              show OwnI _ _ _ _
              rw [PN.out (by simp [h1])]; exact OW.out
            clear PY PN CW h1
            go_wp2
            go_roundw
            case rel => exact ⟨i + 1, by omega, by go_num, O6, BB⟩
            case measure => simp [intOf]; omega
        · obtain rfl : i = k := by omega
          have FIN : Hid (IsPost w.heap.size w bot (.returned u9) wp) := by
            show IsPost _ _ _ _ _
            have hb := WG2.out _ BB.out
            have ho := OW.out
            rw [← BV.out] at ho
            obtain ⟨A, c, e1, h1⟩ := ReadsV.own ho
            exact ⟨A, c, by rw [e1], h1, hb⟩
          clear OW CW
          go_wp2
          rw [Exit.noGoto_ret]
          go_ret
          exact FIN.out
end Go.Proofs.Ytdfljeonoallfaa
