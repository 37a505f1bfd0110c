/- The law on greater markings. -/
import Derived.Test.YtlppoablhipinaaUPA
namespace Go.Proofs.Ytlppoablhipinaa
open Go.RowKit

theorem oper_int {o : Oper} {a : Act} {w : World} {K : Act → World → Prop} {Q : Exit → Act → World → Prop} (s x : Operand)
    (ho : o.op = .call { callee := .builtin .append, args := #[s, x], argTypes := #[28, 28] })
    (base : Nat) (v : Value) (zs : List Int) (z : Int) (hs : a.eval s = v) (hO : OwnI w base v zs) (g : Nat) (hx : a.eval x = .slice (some ⟨g, 0, none⟩) 1 1)
    (hc : w.cell? ⟨g, 0, none⟩ = some (.int .i64 z)) (hl : zs.length ≤ 100000) (hbase : base ≤ w.heap.size)
    (h : ∀ v' w', OwnI w' base v' (zs ++ [z]) → Below base w w' → K (a.put o.dst v') w') : Oper.wp Try.prog o a w K Q := by
  obtain ⟨i, hi, hz, h1, h2⟩ := info_parts infoI
  refine oper_append_own_at w s x 28 ho base 3 i (.int .i64 0) 1 8 Try.underlying28 hi hz h1 h2 rfl (by decide) v zs.length (zs.map (Value.int .i64)) hs hO ⟨g, 0, none⟩ 1 1 [.int .i64 z] hx rfl ?_ ?_ (by unfold maxLen; omega) (by omega) hbase ?_
  · intro j u hj
    cases j with
    | zero => simp at hj; subst hj; simpa [Addr.add] using hc
    | succ j => simp at hj
  · intro u hu
    simp at hu
    subst hu
    simp [Value.oneCell']
  · intro v' w' hown hgrow
    refine h v' w' ?_ ((Below.refl base w).grown hgrow hbase fun q e => (World.ownsRow.lt hO q e).1)
    unfold OwnI
    rw [List.map_append, List.length_append]
    exact hown
def plusL (m d : List Int) : List Int := tab m.length fun k => at0 m k + at0 d k
theorem plus_up {u : List (List Int)} {m d : List Int} (h : hasV u m = true) (hk : ∀ k, k < m.length → 0 ≤ at0 d k ∧ at0 d k ≤ 100000 ∧ at0 m k ≤ 900000) : hasV u (plusL m d) = true := by
  have hn := (has_iff.1 h).1
  unfold natL at hn
  rw [allB_iff] at hn
  refine has_up h (leqL_iff.2 ⟨by simp [plusL, tab_len], fun k hk2 => ?_⟩) ?_
  · unfold plusL
    rw [tab_at _ _ _ hk2]
    have := hk k hk2
    omega
  · unfold natL
    rw [allB_iff]
    intro k hk2
    have hk3 : k < m.length := by simpa [plusL, tab_len] using hk2
    unfold plusL
    rw [tab_at _ _ _ hk3]
    have h1 := hk k hk3
    have h2 := of_decide_eq_true (hn k hk3)
    refine decide_eq_true ?_
    unfold NatP at *
    omega

set_option maxHeartbeats 8000000 in
set_option maxRecDepth 100000 in
theorem upsetUpward_law (A B C : Option Addr) (L : List Row) (m d : List Int) (c cb cc : Nat) (w : World) (hr : RowsW w A L c) (rb : ReadsV w B m) (rc : ReadsV w C d) (hml : m.length ≤ maxLen) (hdl : d.length ≤ maxLen) :
    Calls Try.prog 8 #[.slice A L.length c, .slice B m.length cb, .slice C d.length cc] w fun e w' => e = .returned (.bool true) ∧ Below w.heap.size w w' := by
  unfold maxLen at hml hdl
  have LV : Hid (∀ W, Below w.heap.size w W → Calls Try.prog 11 #[] W (BPost W.heap.size W true)) := fun W _ => lives_any W
  have B0 : Hid (Below w.heap.size w w) := Below.refl _ _
  have Fa := Lib.hid (hr.at)
  cases fa : fewB L
  · rw [fa] at Fa
    clear fa hr rb rc
    generalize m.length = ml at *
    generalize d.length = dl at *
    go_enter Try.func8, Try.ntmps8
    go_wp2_with fail
    refine (LV.out w B0.out).mono ?_
    rintro e w1 ⟨rfl, K⟩
    have Bw1 := Lib.hid (B0.out.trans (K.mono B0.out.size))
    clear K
    go_wp2_with fail
    refine (Fa.out w1 Bw1.out).mono ?_
    rintro e w2 ⟨rfl, K⟩
    have Bw2 := Lib.hid (Bw1.out.trans (K.mono Bw1.out.size))
    clear K
    go_wp2
    go_ret
    exact ⟨rfl, Bw2.out⟩
  rw [fa] at Fa
  obtain ⟨Ra, la⟩ := hr.few fa
  have Ra : Hid (∀ W, Below w.heap.size w W → ReadsL W A L) := fun W hW => Ra.below hW (Nat.le_refl _)
  have nza := Lib.hid hr.nz
  clear hr fa
  by_cases h24 : 24 < m.length
  · have h24 : (24 : Int) < m.length := by omega
    clear rb rc
    generalize m.length = ml at *
    generalize d.length = dl at *
    go_enter Try.func8, Try.ntmps8
    go_wp2_with fail
    refine (LV.out w B0.out).mono ?_
    rintro e w1 ⟨rfl, K⟩
    have Bw1 := Lib.hid (B0.out.trans (K.mono B0.out.size))
    clear K
    go_wp2_with fail
    refine (Fa.out w1 Bw1.out).mono ?_
    rintro e w2 ⟨rfl, K⟩
    have Bw2 := Lib.hid (Bw1.out.trans (K.mono Bw1.out.size))
    clear K
    go_wp2
    go_ret
    exact ⟨rfl, Bw2.out⟩
  have h24' : ¬ ((24 : Int) < m.length) := by omega
  by_cases hdm : d.length = m.length
  case neg =>
    have hb : ((d.length : Int) != (m.length : Int)) = true := by simp; omega
    clear hdm
    clear rb rc
    generalize m.length = ml at *
    generalize d.length = dl at *
    go_enter Try.func8, Try.ntmps8
    go_wp2_with fail
    refine (LV.out w B0.out).mono ?_
    rintro e w1 ⟨rfl, K⟩
    have Bw1 := Lib.hid (B0.out.trans (K.mono B0.out.size))
    clear K
    go_wp2_with fail
    refine (Fa.out w1 Bw1.out).mono ?_
    rintro e w2 ⟨rfl, K⟩
    have Bw2 := Lib.hid (Bw1.out.trans (K.mono Bw1.out.size))
    clear K
    go_wp2
    go_ret
    exact ⟨rfl, Bw2.out⟩
  have hb : ((m.length : Int) != (m.length : Int)) = false := by simp
  have RB : Hid (∀ W, Below w.heap.size w W → ReadsV W B m) := fun W hW => rb.below hW (Nat.le_refl _)
  have RC : Hid (∀ W, Below w.heap.size w W → ReadsV W C d) := fun W hW => rc.below hW (Nat.le_refl _)
  have hm24 : m.length ≤ 24 := by omega
  have PHA : Hid (∀ W, Below w.heap.size w W → Calls Try.prog 17 #[.slice A L.length c, .slice B m.length cb] W (BPost W.heap.size W (hasV (rowsL L) m))) := fun W hW => has_any A B L m c cb W (Ra.out W hW) (by omega) (RB.out W hW) (by omega)
  have PHS : Hid (∀ W S cs, Below w.heap.size w W → ReadsV W S (plusL m d) → Calls Try.prog 17 #[.slice A L.length c, .slice S m.length cs] W (BPost W.heap.size W (hasV (rowsL L) (plusL m d)))) := fun W S cs hW hS => by
    have h := has_any A S L (plusL m d) c cs W (Ra.out W hW) (by omega) hS (by simp [plusL, tab_len]; omega)
    rw [show (plusL m d).length = m.length by simp [plusL, tab_len]] at h
    exact h
  rw [hdm]
  have HDM := Lib.hid hdm
  clear rb rc hdm
  cases hh : hasV (rowsL L) m
  · rw [hh] at PHA
    clear hh PHS
    generalize m.length = ml at *
    go_enter Try.func8, Try.ntmps8
    go_wp2_with fail
    refine (LV.out w B0.out).mono ?_
    rintro e w1 ⟨rfl, K⟩
    have Bw1 := Lib.hid (B0.out.trans (K.mono B0.out.size))
    clear K
    go_wp2_with fail
    refine (Fa.out w1 Bw1.out).mono ?_
    rintro e w2 ⟨rfl, K⟩
    have Bw2 := Lib.hid (Bw1.out.trans (K.mono Bw1.out.size))
    clear K
    go_wp2_with fail
    refine (PHA.out w2 Bw2.out).mono ?_
    rintro e w3 ⟨rfl, K⟩
    have Bw3 := Lib.hid (Bw2.out.trans (K.mono Bw2.out.size))
    clear K
    go_wp2
    go_ret
    exact ⟨rfl, Bw3.out⟩
  rw [hh] at PHA
  have UPW : Hid ((∀ k, k < m.length → 0 ≤ at0 d k ∧ at0 d k ≤ 100000 ∧ at0 m k ≤ 900000) → hasV (rowsL L) (plusL m d) = true) := fun h => plus_up hh h
  have NM : Hid (∀ k, k < m.length → 0 ≤ at0 m k ∧ at0 m k ≤ 1048576) := fun k hk => by
    have hn := (has_iff.1 hh).1
    unfold natL at hn
    rw [allB_iff] at hn
    exact of_decide_eq_true (hn k hk)
  have TS : Hid (∀ k, tab (k + 1) (fun k => at0 m k + at0 d k) = tab k (fun k => at0 m k + at0 d k) ++ [at0 m k + at0 d k]) := fun k => tab_snoc k _
  have TE : Hid (plusL m d = tab m.length fun k => at0 m k + at0 d k) := rfl
  clear hh
  generalize hn : m.length = n at *
  have HN := Lib.hid hn
  clear hn
  go_enter Try.func8, Try.ntmps8
  go_wp2_with fail
  refine (LV.out w B0.out).mono ?_
  rintro e w1 ⟨rfl, K⟩
  have Bw1 := Lib.hid (B0.out.trans (K.mono B0.out.size))
  clear K
  go_wp2_with fail
  refine (Fa.out w1 Bw1.out).mono ?_
  rintro e w2 ⟨rfl, K⟩
  have Bw2 := Lib.hid (Bw1.out.trans (K.mono Bw1.out.size))
  clear K
  go_wp2_with fail
  refine (PHA.out w2 Bw2.out).mono ?_
  rintro e w3 ⟨rfl, K⟩
  have Bw3 := Lib.hid (Bw2.out.trans (K.mono Bw2.out.size))
  clear K
  go_wp2_with fail
  obtain ⟨s, hs⟩ : ∃ s, s = w3.heap.size := ⟨_, rfl⟩
  have HS := Lib.hid hs
  clear hs
  go_loopw [7, 8] (fun p q wr => ∃ k : Nat, k ≤ n ∧ q = .int .i64 k ∧ Hid (OwnI wr s p (tab k fun k => at0 m k + at0 d k)) ∧ Hid (∀ j, j < k → 0 ≤ at0 d j ∧ at0 d j ≤ 100000 ∧ at0 m j ≤ 900000) ∧ Hid (Below s w3 wr)) (fun _ q _ => n - (intOf q).toNat)
  case atStart => exact ⟨0, by omega, rfl, OwnI.nil _ _, fun j hj => absurd hj (by omega), Below.refl _ _⟩
  case round =>
    obtain ⟨k, hk, rfl, O, HE, BB⟩ := hrel
    have hsz := BB.out.size
    rw [← HS.out] at hsz
    have BG := Lib.hid (Bw3.out.trans (BB.out.mono (by rw [HS.out]; exact Bw3.out.size)))
    by_cases hlt : k < n
    · obtain ⟨ba, oa, e1, hx⟩ := at_of_reads (RB.out wr BG.out) k (by rw [HN.out]; exact hlt)
      obtain ⟨bb, ob, e2, hy⟩ := at_of_reads (RC.out wr BG.out) k (by rw [HDM.out]; exact hlt)
      have XW : Hid (∀ W, Below w.heap.size w W → W.cell? ⟨ba, oa + k, none⟩ = some (.int .i64 (at0 m k))) := fun W hW => by
        obtain ⟨b2, o2, e3, h2⟩ := at_of_reads (RB.out W hW) k (by rw [HN.out]; exact hlt)
        rw [e1] at e3
        injection e3 with e3
        injection e3 with e4 e5
        subst e4 e5
        exact h2
      have YW : Hid (∀ W, Below w.heap.size w W → W.cell? ⟨bb, ob + k, none⟩ = some (.int .i64 (at0 d k))) := fun W hW => by
        obtain ⟨b2, o2, e3, h2⟩ := at_of_reads (RC.out W hW) k (by rw [HDM.out]; exact hlt)
        rw [e2] at e3
        injection e3 with e3
        injection e3 with e4 e5
        subst e4 e5
        exact h2
      subst e1 e2
      have nm := NM.out k hlt
      have HT := Lib.hid (TS.out k)
      have HE2 : Hid (0 ≤ at0 d k ∧ at0 d k ≤ 100000 ∧ at0 m k ≤ 900000 → ∀ j, j < k + 1 → 0 ≤ at0 d j ∧ at0 d j ≤ 100000 ∧ at0 m j ≤ 900000) := fun h j hj => by
        by_cases e : j < k
        · exact HE.out j e
        · obtain rfl : j = k := by omega
          exact h
      have ht : (tab k fun k => at0 m k + at0 d k).length ≤ 1000 := by rw [tab_len]; omega
      generalize at0 m k = x at *
      generalize at0 d k = y at *
      generalize (tab k fun k => at0 m k + at0 d k) = T at *
      by_cases y0 : y < 0
      · clear HE2 HT
        go_wp2_with fail
        go_ret
        exact ⟨rfl, BG.out⟩
      by_cases y1 : 100000 < y
      · clear HE2 HT
        go_wp2_with fail
        go_ret
        exact ⟨rfl, BG.out⟩
      by_cases x1 : 900000 < x
      · clear HE2 HT
        go_wp2_with fail
        go_ret
        exact ⟨rfl, BG.out⟩
      have HE3 := Lib.hid (HE2.out (by omega))
      have hwr : wrap64 (x + y) = x + y := by unfold wrap64; omega
      have hwr2 : IntKind.i64.wrap (x + y) = x + y := by rw [IntKind.wrap_i64]; omega
      clear HE2
      go_upto_region 11 with fail
      refine wp_region_held_drew (S := fun w' => w'.cell? ⟨ba, oa + k, none⟩ = some (.int .i64 x) ∧ w'.cell? ⟨bb, ob + k, none⟩ = some (.int .i64 y) ∧ Hid (Below s w3 w')) (by kernel_rfl) ?_ (fun hHeld => ?_)
      · exact ⟨hx, hy, BB.out.drew⟩
      refine wpAnyH_take (oi := ⟨_, _, _, _, _, _⟩) (i := 0) (v := ?_) rfl (by kernel_rfl) (by kernel_rfl) (by kernel_rfl) (fun _ _ _ h => h) (Or.inl ⟨by rfl, ?ya0⟩) (by assumption) ?ra0
      case ya0 => (intro w hSw; (try dsimp only at hSw); go_simp; (try with_reducible rfl))
      try simp only [Act.put, List.setIfInBounds_toArray, List.set_cons_zero, List.set_cons_succ]
      refine wpAnyH_take (oi := ⟨_, _, _, _, _, _⟩) (i := 1) (v := ?_) rfl (by kernel_rfl) (by kernel_rfl) (by kernel_rfl) (fun _ _ _ h => h) (Or.inl ⟨by rfl, ?ya1⟩) (by assumption) ?ra1
      case ya1 => (intro w hSw; (try dsimp only at hSw); go_simp; (try with_reducible rfl))
      try simp only [Act.put, List.setIfInBounds_toArray, List.set_cons_zero, List.set_cons_succ]
      refine wpAnyH_take (oi := ⟨_, _, _, _, _, _⟩) (i := 2) (v := ?_) rfl (by kernel_rfl) (by kernel_rfl) (by kernel_rfl) (fun _ _ _ h => h) (Or.inl ⟨by rfl, ?ya2⟩) (by assumption) ?ra2
      case ya2 => (intro w hSw; (try dsimp only at hSw); go_simp; (try with_reducible rfl))
      try simp only [Act.put, List.setIfInBounds_toArray, List.set_cons_zero, List.set_cons_succ]
      refine wpAnyH_take (oi := ⟨_, _, _, _, _, _⟩) (i := 3) (v := ?_) rfl (by kernel_rfl) (by kernel_rfl) (by kernel_rfl) (fun _ _ _ h => h) (Or.inl ⟨by rfl, ?ya3⟩) (by assumption) ?ra3
      case ya3 => (intro w hSw; (try dsimp only at hSw); go_simp; (try with_reducible rfl))
      try simp only [Act.put, List.setIfInBounds_toArray, List.set_cons_zero, List.set_cons_succ]
      refine wpAnyH_take (oi := ⟨_, _, _, _, _, _⟩) (i := 4) (v := ?_) rfl (by kernel_rfl) (by kernel_rfl) (by kernel_rfl) (fun _ _ _ h => h) (Or.inl ⟨by rfl, ?ya4⟩) (by assumption) ?ra4
      case ya4 => (intro w hSw; (try dsimp only at hSw); go_simp; (try with_reducible rfl))
      try simp only [Act.put, List.setIfInBounds_toArray, List.set_cons_zero, List.set_cons_succ]
      refine wpAnyH_take (oi := ⟨_, _, _, _, _, _⟩) (i := 5) (v := ?_) rfl (by kernel_rfl) (by kernel_rfl) (by kernel_rfl) (fun _ _ _ h => h) (Or.inl ⟨by rfl, ?ya5⟩) (by assumption) ?ra5
      case ya5 => (intro w hSw; (try dsimp only at hSw); go_simp; (try with_reducible rfl))
      try simp only [Act.put, List.setIfInBounds_toArray, List.set_cons_zero, List.set_cons_succ]
      refine wpAnyH_take (oi := ⟨_, _, _, _, _, _⟩) (i := 6) (v := ?_) rfl (by kernel_rfl) (by kernel_rfl) (by kernel_rfl) (fun _ _ _ h => h) (Or.inl ⟨by rfl, ?ya6⟩) (by assumption) ?ra6
      case ya6 => (intro w hSw; (try dsimp only at hSw); go_simp; (try with_reducible rfl))
      try simp only [Act.put, List.setIfInBounds_toArray, List.set_cons_zero, List.set_cons_succ]
      refine wpAnyH_take (oi := ⟨_, _, _, _, _, _⟩) (i := 7) (v := ?_) rfl (by kernel_rfl) (by kernel_rfl) (by kernel_rfl) (fun _ _ _ h => h) (Or.inl ⟨by rfl, ?ya7⟩) (by assumption) ?ra7
      case ya7 => (intro w hSw; (try dsimp only at hSw); go_simp; (try with_reducible rfl))
      try simp only [Act.put, List.setIfInBounds_toArray, List.set_cons_zero, List.set_cons_succ]
      refine wpAnyH_take (oi := ⟨_, _, _, _, _, _⟩) (i := 8) (v := ?_) rfl (by kernel_rfl) (by kernel_rfl) (by kernel_rfl) (fun _ _ _ h => h) (Or.inl ⟨by rfl, ?ya8⟩) (by assumption) ?ra8
      case ya8 => (intro w hSw; (try dsimp only at hSw); go_simp; (try with_reducible rfl))
      try simp only [Act.put, List.setIfInBounds_toArray, List.set_cons_zero, List.set_cons_succ]
      refine wpAnyH_take (oi := ⟨_, _, _, _, _, _⟩) (i := 9) (v := ?_) rfl (by kernel_rfl) (by kernel_rfl) (by kernel_rfl) (fun _ _ _ h => h) (Or.inl ⟨by rfl, ?ya9⟩) (by assumption) ?ra9
      case ya9 => (intro w hSw; (try dsimp only at hSw); go_simp; (try with_reducible rfl))
      try simp only [Act.put, List.setIfInBounds_toArray, List.set_cons_zero, List.set_cons_succ]
      have O3 : Hid (OwnI wr.drew s u7 T) := O.out.below ((Below.refl wr.heap.size wr).drew) (Nat.le_refl _)
      generalize wr.drew = w4 at *
      have hs4 : s ≤ w4.heap.size := by rw [HS.out]; exact hHeld.2.2.out.size
      have O4 := Lib.hid (O3.out.alloc (.cells #[.int .i64 (x + y)] 3))
      refine wpAnyH_ready (rs := [10]) (by kernel_rfl) (by simp) ?_
      refine AllReadyH.cons (o := ⟨_, _, _, _, _, _⟩) rfl (fun K hK => ?_) AllReadyH.nil
      rw [if_pos (by rfl)]
      have LA : Below w4.heap.size w4 (w4.alloc (.cells #[.int .i64 (x + y)] 3)) := (Below.refl _ _).alloc (Nat.le_refl _) _
      go_simp
      refine hK.out _ _ ?_ (fun hHeld2 => ?_)
      · obtain ⟨h1, h2, h4⟩ := hHeld; exact ⟨keepc h1 LA, keepc h2 LA, h4.out.trans (LA.mono (by rw [HS.out]; exact h4.out.size))⟩
      clear hK K hHeld
      have hHeld := hHeld2
      clear hHeld2
      try simp only [Act.put, List.setIfInBounds_toArray, List.set_cons_zero, List.set_cons_succ]
      refine wpAnyH_ready (rs := [11]) (by kernel_rfl) (by simp) ?_
      refine AllReadyH.cons (o := ⟨_, _, _, _, _, _⟩) rfl (fun K hK => ?_) AllReadyH.nil
      rw [if_pos (by rfl)]
      refine oper_int (.tmp 57) (.tmp 67) rfl s _ T (x + y) rfl O4.out w4.heap.size rfl (cell_new1 _ _ _) (by omega) (size_le_alloc hs4 _) ?_
      intro v' w6 hown' hb'
      have BG6 : Below s w3 w6 := hHeld.2.2.out.trans hb'
      have BW6 : Below w.heap.size w w6 := Bw3.out.trans (BG6.mono (by rw [HS.out]; exact Bw3.out.size))
      refine hK.out _ _ ?_ (fun hHeld2 => ?_)
      · exact ⟨XW.out w6 BW6, YW.out w6 BW6, BG6⟩
      clear hK K hHeld
      have B5 := hHeld2.2.2
      have hHeld := hHeld2
      clear hHeld2
      try simp only [Act.put, List.setIfInBounds_toArray, List.set_cons_zero, List.set_cons_succ]
      refine wpAnyH_take (oi := ⟨_, _, _, _, _, _⟩) (i := 12) (v := ?_) rfl (by kernel_rfl) (by kernel_rfl) (by kernel_rfl) (fun _ _ _ h => h) (Or.inl ⟨by rfl, ?yb12⟩) (by assumption) ?rb12
      case yb12 => (intro w hSw; (try dsimp only at hSw); go_simp; (try with_reducible rfl))
      try simp only [Act.put, List.setIfInBounds_toArray, List.set_cons_zero, List.set_cons_succ]
      refine wpAnyH_done (by kernel_rfl) ?_ _
      have O5 : Hid (OwnI w6 s v' (tab (k + 1) fun k => at0 m k + at0 d k)) := by
        show OwnI _ _ _ _
        rw [HT.out]
        exact hown'
      clear hown' hHeld HT
      go_wp2
      go_roundw
      case rel => exact ⟨k + 1, by omega, by go_num, O5, HE3, B5⟩
      case measure => simp [intOf]; omega
    · obtain rfl : k = n := by omega
      have E := UPW.out HE.out
      rw [← TE.out] at O
      obtain ⟨S5, c5, e5, R5⟩ := FreshV.own O.out
      have hl5 : (plusL m d).length = k := by rw [TE.out, tab_len]
      rw [hl5] at e5
      subst e5
      have CK := PHS.out wr S5 c5 BG.out R5.1
      rw [E] at CK
      have CK := Lib.hid CK
      clear R5 O E HE UPW PHS
      go_wp2_with fail
      refine CK.out.mono ?_
      rintro e w7 ⟨rfl, K⟩
      have B7 := Lib.hid (BG.out.trans (K.mono BG.out.size))
      clear K
      go_wp2
      go_ret
      exact ⟨rfl, B7.out⟩
end Go.Proofs.Ytlppoablhipinaa
