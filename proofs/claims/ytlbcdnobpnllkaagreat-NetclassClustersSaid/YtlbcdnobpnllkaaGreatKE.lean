/- Classes of nets: connected and strongly connected nets, by the program. -/
import Derived.Test.YtlbcdnobpnllkaaGreatKD
import Derived.Test.YtlbcdnobpnllkaaGreatDgM3
namespace Go.Proofs.YtlbcdnobpnllkaaGreat
open Go.RowKit Go.Deep

theorem grow_graph' {w : World} {T B N : Nat} {L : Nat → List Int} {vs : Nat → Value} (h : Dg.GrowT w T B N 34 3 1 (fun e => (L e).length) (fun e => Dg.vI (L e)) vs) (hn : N ≤ 4000) (hl : ∀ e, e < N → (L e).length ≤ 1000000) : ∃ RA RK, Dg.GraphR w (some ⟨T, 0, none⟩) N RA L RK := by
  have key : ∀ e, e < N → ∃ A c, vs e = .slice A (L e).length c ∧ Dg.ReadsV w A (L e) := fun e he => Dg.ReadsV.own (h.2.2.2.1 e he)
  refine ⟨fun e => match vs e with | .slice A _ _ => A | _ => none, fun e => match vs e with | .slice _ _ c => c | _ => 0, hn, fun e he => ?_, fun e he => ?_, hl⟩
  · obtain ⟨A, c, e1, _⟩ := key e he
    refine ⟨T, 0, rfl, h.2.2.1.lt, ?_⟩
    rw [Nat.zero_add, h.2.2.1.cell he, e1]
  · obtain ⟨A, c, e1, h2⟩ := key e he
    rw [e1]
    exact h2
def undV (R : Nat → List Int) (n v : Nat) : List Int := Dg.revV R n v ++ R v
theorem own_form2 {w : World} {B : Nat} {te : TypeId} {v : Value} {n : Nat} {xs : List Value} (h : w.ownsRow B te 1 v n xs) : ∃ A c, v = .slice A n c := by
  rcases h.2 with ⟨e, h0⟩ | ⟨g, cap, cur, e, _⟩
  · exact ⟨none, 0, by rw [e, h0]⟩
  · exact ⟨_, _, e⟩
set_option maxRecDepth 100000 in
theorem oper_rows {o : Oper} {a : Act} {w : World} {K : Act → World → Prop} {Q : Exit → Act → World → Prop} (s x : Operand)
    (ho : o.op = .call { callee := .builtin .append, args := #[s, x], argTypes := #[34, 34] })
    (base : Nat) (v : Value) (l : List Int) (hs : a.eval s = v) (hO : w.ownsRow base 3 1 v l.length (Dg.vI l)) (u : Value) (m : List Int) (hx : a.eval x = u)
    (hu : (u = .slice none 0 0 ∧ m = []) ∨ ∃ g c, u = .slice (some ⟨g, 0, none⟩) m.length c ∧ Dg.ReadsV w (some ⟨g, 0, none⟩) m) (hl : l.length + m.length ≤ 100000) (hbase : base ≤ w.heap.size)
    (h : ∀ v' w', w'.ownsRow base 3 1 v' (l.length + m.length) (Dg.vI l ++ Dg.vI m) → w.grownBy w' v.ownBlock → (v'.ownBlock = v.ownBlock ∨ v'.ownBlock = some w.heap.size) → K (a.put o.dst v') w') : Oper.wp Tryz.prog o a w K Q := by
  obtain ⟨i, hi, hz, h1, h2⟩ := Dg.info_parts Dg.infoI
  rcases hu with ⟨rfl, rfl⟩ | ⟨g, c, rfl, hr⟩
  · have hrun := run_append_owned_none (P := Tryz.prog) (w := w) base 34 o.type 3 i 1 Tryz.underlying34 hi v l.length _ hO
    unfold Oper.wp
    simp [execOp, ho, resolve, invoke, builtin, hs, hx, hrun, Result.andThen]
    exact h v w (by simpa [Dg.vI] using hO) ⟨rfl, rfl, rfl, Nat.le_refl _, fun _ _ _ => rfl⟩ (Or.inl rfl)
  · refine Dg.oper_append_blk w s x 34 ho base 3 i (.int .i64 0) 1 8 Tryz.underlying34 hi hz h1 h2 rfl (by decide) v l.length _ hs hO ⟨g, 0, none⟩ m.length c (Dg.vI m) hx (by simp [Dg.vI]) ?_ ?_ (by unfold maxLen; omega) (by omega) hbase fun v' w' x1 x2 x3 => h v' w' x1 x2 x3
    · intro j u hj
      have hj2 : j < m.length := by
        have := (List.getElem?_eq_some_iff.1 hj).1
        simpa [Dg.vI] using this
      obtain ⟨b, off, e, _, h3⟩ := hr j hj2
      injection e with e
      injection e with e1 e2
      subst e1 e2
      unfold Dg.vI at hj
      rw [List.getElem?_map, List.getElem?_eq_getElem hj2] at hj
      have hj : Value.int .i64 m[j] = u := by simpa using hj
      have h4 : w.cell? ⟨g, 0 + j, none⟩ = some (.int .i64 m[j]) := by
        rw [h3]
        simp [Dg.at0, hj2]
      rw [← hj]
      cases j with
      | zero => simpa [Addr.add] using h4
      | succ j => simpa [Addr.add] using h4
    · intro u hu
      unfold Dg.vI at hu
      obtain ⟨z, _, rfl⟩ := List.mem_map.1 hu
      simp [Value.oneCell']
set_option maxHeartbeats 8000000 in
set_option maxRecDepth 100000 in
theorem und_any (T B N : Nat) (L : Nat → List Int) (vs0 : Nat → Value) (w : World) (M : Dg.GrowT w T B N 34 3 1 (fun e => (L e).length) (fun e => Dg.vI (L e)) vs0) (hN : N ≤ 1000) (hL : ∀ v, v < N → (L v).length ≤ 2000) :
    Calls Tryz.prog 43 #[.slice (some ⟨T, 0, none⟩) N N] w fun e w' => ∃ T' vs', e = .returned (.slice (some ⟨T', 0, none⟩) N N) ∧ Dg.GrowT w' T' (T' + 1) N 34 3 1 (fun e => (undV L N e).length) (fun e => Dg.vI (undV L N e)) vs' ∧ Below w.heap.size w w' := by
  obtain ⟨RA, RK, GR⟩ := grow_graph' M (by omega) fun v hv => by have := hL v hv; omega
  have CR := Lib.hid (Dg.reverse_any (some ⟨T, 0, none⟩) N N RA L RK w GR)
  have RVL : Hid (∀ v, (Dg.revV L N v).length ≤ N) := fun v => Dg.pickI_len _ _
  have UV : Hid (∀ v, undV L N v = Dg.revV L N v ++ L v) := fun _ => rfl
  have MW : Hid (∀ W, Below w.heap.size w W → Dg.GrowT W T B N 34 3 1 (fun e => (L e).length) (fun e => Dg.vI (L e)) vs0) := fun W hW => M.below hW
  have HL := Lib.hid hL
  clear M GR hL
  generalize undV L N = uv at *
  generalize Dg.revV L N = rs at *
  go_enter Tryz.func43, Tryz.ntmps43
  go_wp2_with fail
  refine CR.out.mono ?_
  rintro e w2 ⟨vs1, rfl, M1, K1⟩
  have M0 : Hid (Dg.GrowT w2 w.heap.size (w.heap.size + 1) N 34 3 1 (fun e => (if e < 0 then uv e else rs e).length) (fun e => Dg.vI (if e < 0 then uv e else rs e)) vs1) := M1.congr (fun e _ => by rw [if_neg (by omega)]) (fun e _ => by rw [if_neg (by omega)])
  have K1 := Lib.hid K1
  clear CR M1
  go_wp2_with fail
  go_loopw [9] (fun q wr => ∃ (k : Nat) (vs : Nat → Value), k ≤ N ∧ q = .int .i64 (k : Nat) ∧ Hid (Dg.GrowT wr w.heap.size (w.heap.size + 1) N 34 3 1 (fun e => (if e < k then uv e else rs e).length) (fun e => Dg.vI (if e < k then uv e else rs e)) vs) ∧ Hid (Below w.heap.size w wr)) (fun q _ => N - (intOf q).toNat)
  case atStart => exact ⟨0, vs1, by omega, rfl, M0, K1⟩
  case round =>
    clear M0 K1
    obtain ⟨k, vs, hk, rfl, MR, BB⟩ := hrel
    by_cases hlt : k < N
    · have hrk := RVL.out k
      have hlk := HL.out k hlt
      have UVk := UV.out k
      have hsz0 := MR.out.2.1
      have G0 := MW.out _ (BB.out.drew)
      have hq0' := G0.2.2.1.cell hlt
      have hO0 := G0.2.2.2.1 k hlt
      have hT0 := (MW.out w (Below.refl _ _)).2.2.1.lt
      have HR0 : ∃ A0 c0, vs0 k = .slice A0 (L k).length c0 ∧ ((Value.slice A0 (L k).length c0 = .slice none 0 0 ∧ L k = []) ∨ ∃ g c, Value.slice A0 (L k).length c0 = .slice (some ⟨g, 0, none⟩) (L k).length c ∧ Dg.ReadsV wr.drew (some ⟨g, 0, none⟩) (L k)) := by
        rcases hO0.2 with ⟨h1, h0⟩ | ⟨g, cap, cur, h1, _⟩
        · have h0 : (L k).length = 0 := h0
          exact ⟨none, 0, by rw [h1, h0], Or.inl ⟨by rw [h0], List.eq_nil_of_length_eq_zero h0⟩⟩
        · obtain ⟨A, c, e1, h2⟩ := Dg.ReadsV.own hO0
          rw [h1] at e1
          injection e1 with e1 e2 e3
          subst e1
          exact ⟨_, _, h1, Or.inr ⟨g, cap, rfl, h2⟩⟩
      obtain ⟨A0, c0, ev0, ROW⟩ := HR0
      have ROW := Lib.hid ROW
      rw [ev0] at hq0'
      have hq0 : wr.drew.cell? ⟨T, k, none⟩ = some (.slice A0 (L k).length c0) := hq0'
      have hv := MR.out.drew.2.2.1.cell hlt
      have hO := MR.out.drew.2.2.2.1 k hlt
      dsimp only at hO
      rw [if_neg (Nat.lt_irrefl k)] at hO
      have OWN : Hid (wr.drew.ownsRow (w.heap.size + 1) 3 1 (vs k) (rs k).length (Dg.vI (rs k))) := hO
      have PACK : Hid (∀ v' w6, w6.ownsRow (w.heap.size + 1) 3 1 v' ((rs k).length + (L k).length) (Dg.vI (rs k) ++ Dg.vI (L k)) → wr.drew.grownBy w6 (vs k).ownBlock → (v'.ownBlock = (vs k).ownBlock ∨ v'.ownBlock = some wr.drew.heap.size) →
          (∃ vs', Dg.GrowT (w6.setCell ⟨w.heap.size, k, none⟩ v') w.heap.size (w.heap.size + 1) N 34 3 1 (fun e => (if e < k + 1 then uv e else rs e).length) (fun e => Dg.vI (if e < k + 1 then uv e else rs e)) vs') ∧ Below w.heap.size w (w6.setCell ⟨w.heap.size, k, none⟩ v') ∧ (∃ u, w6.cell? ⟨w.heap.size, k, none⟩ = some u) ∧ w6.frozen? ⟨w.heap.size, k, none⟩ = false ∧ (w6.cell? ⟨T, k, none⟩ = some (.slice A0 (L k).length c0) ∧ ∀ x, (w6.setCell ⟨w.heap.size, k, none⟩ x).cell? ⟨T, k, none⟩ = some (.slice A0 (L k).length c0))) := fun v' w6 h1 h2 h3 => by
        have M5 := MR.out.drew
        have ne : ∀ q, q ≤ w.heap.size → some q ≠ (vs k).ownBlock := fun q hq c => by
          rcases Dg.own_ge hO with h4 | ⟨g', h4, h5, h6⟩
          · rw [h4] at c; cases c
          · rw [h4] at c; injection c with c; omega
        have h3' := M5.2.2.1.of_block (h2.block _ M5.2.2.1.lt (ne _ (Nat.le_refl _)))
        have BG6 : Below w.heap.size w w6 := BB.out.drew.trans ((Below.refl _ wr.drew).grown h2 (by show _ ≤ wr.heap.size; omega) fun q hq => by
          by_cases c : w.heap.size ≤ q
          · exact c
          · exact absurd hq.symm (ne q (by omega)))
        have cT : w6.cell? ⟨T, k, none⟩ = some (.slice A0 (L k).length c0) := (World.cell?_of_block (w := wr.drew) (a := ⟨T, k, none⟩) (h2.block T (by show T < wr.heap.size; omega) (ne T (by omega)))).trans hq0
        have h1' : w6.ownsRow (w.heap.size + 1) 3 1 v' ((fun e => (if e < k then uv e else rs e).length) k + (L k).length) ((fun e => Dg.vI (if e < k then uv e else rs e)) k ++ Dg.vI (L k)) := by
          dsimp only
          rw [if_neg (Nat.lt_irrefl k)]
          exact h1
        refine ⟨⟨_, (M5.step hlt h1' h2 h3).congr (fun i hi => ?_) (fun i hi => ?_)⟩, BG6.setCell (Nat.le_refl _) _, ⟨_, h3'.cell hlt⟩, h3'.frozen k, cT, fun x => ?_⟩
        · by_cases c : i = k
          · rw [if_pos c, c, if_neg (Nat.lt_irrefl k), if_pos (Nat.lt_succ_self k), UVk, List.length_append]
          · rw [if_neg c]
            by_cases d : i < k
            · rw [if_pos d, if_pos (by omega)]
            · rw [if_neg d, if_neg (by omega)]
        · by_cases c : i = k
          · rw [if_pos c, c, if_neg (Nat.lt_irrefl k), if_pos (Nat.lt_succ_self k), UVk]
            unfold Dg.vI
            rw [List.map_append]
          · rw [if_neg c]
            by_cases d : i < k
            · rw [if_pos d, if_pos (by omega)]
            · rw [if_neg d, if_neg (by omega)]
        · exact (World.cell?_of_block (w := w6) (a := ⟨T, k, none⟩) (blk_setCell_other _ _ _ _ (by show T ≠ w.heap.size; omega))).trans cT
      have hsz : w.heap.size + 1 ≤ wr.drew.heap.size := hsz0
      clear hO hO0 G0 MR ev0 hq0' BB UVk
      go_upto_region 14 with fail
      refine wp_region_held_drew (S := fun w' => w'.cell? ⟨T, k, none⟩ = some (.slice A0 (L k).length c0)) (by kernel_rfl) ?_ (fun hHeld => ?_)
      · exact hq0
      refine wpAnyH_take (oi := ⟨_, _, _, _, _, _⟩) (i := 0) (v := ?_) rfl (by kernel_rfl) (by kernel_rfl) (by kernel_rfl) (fun _ _ _ h => h) (Or.inl ⟨by rfl, ?yu0⟩) (by assumption) ?ru0
      case yu0 => (intro w hSw; (try dsimp only at hSw); go_simp; (try with_reducible rfl))
      try simp only [Act.put, List.setIfInBounds_toArray, List.set_cons_zero, List.set_cons_succ]
      refine wpAnyH_take (oi := ⟨_, _, _, _, _, _⟩) (i := 1) (v := ?_) rfl (by kernel_rfl) (by kernel_rfl) (by kernel_rfl) (fun _ _ _ h => h) (Or.inl ⟨by rfl, ?yu1⟩) (by assumption) ?ru1
      case yu1 => (intro w hSw; (try dsimp only at hSw); go_simp; (try with_reducible rfl))
      try simp only [Act.put, List.setIfInBounds_toArray, List.set_cons_zero, List.set_cons_succ]
      refine wpAnyH_take (oi := ⟨_, _, _, _, _, _⟩) (i := 2) (v := ?_) rfl (by kernel_rfl) (by kernel_rfl) (by kernel_rfl) (fun _ _ _ h => h) (Or.inl ⟨by rfl, ?yu2⟩) (by assumption) ?ru2
      case yu2 => (intro w hSw; (try dsimp only at hSw); go_simp; (try with_reducible rfl))
      try simp only [Act.put, List.setIfInBounds_toArray, List.set_cons_zero, List.set_cons_succ]
      refine wpAnyH_take (oi := ⟨_, _, _, _, _, _⟩) (i := 3) (v := ?_) rfl (by kernel_rfl) (by kernel_rfl) (by kernel_rfl) (fun _ _ _ h => h) (Or.inl ⟨by rfl, ?yu3⟩) (by assumption) ?ru3
      case yu3 => (intro w hSw; (try dsimp only at hSw); go_simp; (try with_reducible rfl))
      try simp only [Act.put, List.setIfInBounds_toArray, List.set_cons_zero, List.set_cons_succ]
      refine wpAnyH_take (oi := ⟨_, _, _, _, _, _⟩) (i := 6) (v := ?_) rfl (by kernel_rfl) (by kernel_rfl) (by kernel_rfl) (fun _ _ _ h => h) (Or.inl ⟨by rfl, ?yu6⟩) (by assumption) ?ru6
      case yu6 => (intro w hSw; (try dsimp only at hSw); go_simp; (try with_reducible rfl))
      try simp only [Act.put, List.setIfInBounds_toArray, List.set_cons_zero, List.set_cons_succ]
      refine wpAnyH_take (oi := ⟨_, _, _, _, _, _⟩) (i := 7) (v := ?_) rfl (by kernel_rfl) (by kernel_rfl) (by kernel_rfl) (fun _ _ _ h => h) (Or.inl ⟨by rfl, ?yu7⟩) (by assumption) ?ru7
      case yu7 => (intro w hSw; (try dsimp only at hSw); go_simp; (try with_reducible rfl))
      try simp only [Act.put, List.setIfInBounds_toArray, List.set_cons_zero, List.set_cons_succ]
      refine wpAnyH_take (oi := ⟨_, _, _, _, _, _⟩) (i := 8) (v := ?_) rfl (by kernel_rfl) (by kernel_rfl) (by kernel_rfl) (fun _ _ _ h => h) (Or.inl ⟨by rfl, ?yu8⟩) (by assumption) ?ru8
      case yu8 => (intro w hSw; (try dsimp only at hSw); go_simp; (try with_reducible rfl))
      try simp only [Act.put, List.setIfInBounds_toArray, List.set_cons_zero, List.set_cons_succ]
      refine wpAnyH_take (oi := ⟨_, _, _, _, _, _⟩) (i := 9) (v := ?_) rfl (by kernel_rfl) (by kernel_rfl) (by kernel_rfl) (fun _ _ _ h => h) (Or.inl ⟨by rfl, ?yu9⟩) (by assumption) ?ru9
      case yu9 => (intro w hSw; (try dsimp only at hSw); go_simp; (try with_reducible rfl))
      try simp only [Act.put, List.setIfInBounds_toArray, List.set_cons_zero, List.set_cons_succ]
      refine wpAnyH_take (oi := ⟨_, _, _, _, _, _⟩) (i := 4) (v := ?_) rfl (by kernel_rfl) (by kernel_rfl) (by kernel_rfl) (fun _ _ _ h => h) (Or.inl ⟨by rfl, ?yu4⟩) (by assumption) ?ru4
      case yu4 => (intro w hSw; (try dsimp only at hSw); go_simp; (try with_reducible rfl))
      try simp only [Act.put, List.setIfInBounds_toArray, List.set_cons_zero, List.set_cons_succ]
      generalize wr.drew = w5 at *
      refine wpAnyH_ready (rs := [5]) (by kernel_rfl) (by simp) ?_
      refine AllReadyH.cons (o := ⟨_, _, _, _, _, _⟩) rfl (fun K hK => ?_) AllReadyH.nil
      rw [if_pos (by rfl)]
      go_simp
      refine hK.out _ _ (hHeld) (fun hHeld2 => ?_)
      clear hK K hHeld
      have hHeld := hHeld2
      clear hHeld2
      try simp only [Act.put, List.setIfInBounds_toArray, List.set_cons_zero, List.set_cons_succ]
      refine wpAnyH_ready (rs := [10]) (by kernel_rfl) (by simp) ?_
      refine AllReadyH.cons (o := ⟨_, _, _, _, _, _⟩) rfl (fun K hK => ?_) AllReadyH.nil
      rw [if_pos (by rfl)]
      refine oper_rows (.tmp 17) (.tmp 21) rfl (w.heap.size + 1) (vs k) (rs k) rfl OWN.out (.slice A0 (L k).length c0) (L k) rfl ROW.out (by omega) hsz ?_
      intro v' w6 ho6 hg6 hb6
      obtain ⟨vB, vd, ev⟩ := own_form2 ho6
      subst ev
      obtain ⟨⟨vs', m6⟩, b6, ⟨u6, cu⟩, cf, cq⟩ := PACK.out _ w6 ho6 hg6 hb6
      have M6 := Lib.hid m6
      have B6 := Lib.hid b6
      clear m6 b6 ho6 hg6 hb6 PACK
      refine hK.out _ _ (cq.1) (fun hHeld2 => ?_)
      clear hK K hHeld
      have hHeld := hHeld2
      clear hHeld2
      try simp only [Act.put, List.setIfInBounds_toArray, List.set_cons_zero, List.set_cons_succ]
      refine wpAnyH_take (oi := ⟨_, _, _, _, _, _⟩) (i := 11) (v := ?_) rfl (by kernel_rfl) (by kernel_rfl) (by kernel_rfl) (fun _ _ _ h => h) (Or.inl ⟨by rfl, ?yv11⟩) (by assumption) ?rv11
      case yv11 => (intro w hSw; (try dsimp only at hSw); go_simp; (try with_reducible rfl))
      try simp only [Act.put, List.setIfInBounds_toArray, List.set_cons_zero, List.set_cons_succ]
      refine wpAnyH_ready (rs := [12]) (by kernel_rfl) (by simp) ?_
      refine AllReadyH.cons (o := ⟨_, _, _, _, _, _⟩) rfl (fun K hK => ?_) AllReadyH.nil
      rw [if_pos (by rfl)]
      go_simp
      refine hK.out _ _ (cq.2 _) (fun hHeld2 => ?_)
      clear hK K hHeld hHeld2
      try simp only [Act.put, List.setIfInBounds_toArray, List.set_cons_zero, List.set_cons_succ]
      refine wpAnyH_done (by kernel_rfl) ?_ _
      go_wp2
      go_roundw
      case rel => exact ⟨k + 1, vs', by omega, by go_num, M6, B6⟩
      case measure => simp [intOf]; omega
    · have hkN : k = N := by omega
      have M6 : Hid (Dg.GrowT wr w.heap.size (w.heap.size + 1) N 34 3 1 (fun e => (uv e).length) (fun e => Dg.vI (uv e)) vs) := MR.out.congr (fun e he => by rw [if_pos (by omega)]) (fun e he => by rw [if_pos (by omega)])
      clear MR
      go_wp2
      go_ret
      exact ⟨_, _, rfl, M6.out, BB.out⟩
end Go.Proofs.YtlbcdnobpnllkaaGreat
