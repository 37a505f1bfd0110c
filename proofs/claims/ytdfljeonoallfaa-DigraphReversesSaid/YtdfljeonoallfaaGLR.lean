/- Graphs: Reverse of the reference. -/
import Derived.Test.YtdfljeonoallfaaGLI
namespace Go.Proofs.Ytdfljeonoallfaa
open Go.RowKit Go.Deep

/-- a row that no append to a list above s turns -/
def FarR (w : World) (s : Nat) (r : Row) : Prop := OkR w r ∧ (r.zs ≠ [] → ∀ b off, r.A = some ⟨b, off, none⟩ → b < s ∨ ∃ cs, w.heap[b]? = some (.cells cs 3 (0, 0)))
theorem block_of_reads {w : World} {A : Option Addr} {zs : List Int} (h : ReadsV w A zs) (hn : zs ≠ []) {b off : Nat} (e : A = some ⟨b, off, none⟩) : b < w.heap.size := by
  obtain ⟨b', off', e', h1, _⟩ := h 0 (List.length_pos_iff.2 hn)
  rw [e] at e'
  injection e' with e'
  injection e' with e'
  rw [e']; exact h1
theorem FarR.old {w w0 : World} {s B : Nat} {r : Row} (h : OkR w0 r) (hb : Below B w0 w) (hB : w0.heap.size ≤ B) (hs : w0.heap.size ≤ s) : FarR w s r :=
  ⟨h.below hb hB, fun hn b off e => .inl (Nat.lt_of_lt_of_le (block_of_reads h.1 hn e) hs)⟩
theorem FarR.below {w w' : World} {r : Row} {s B : Nat} (h : FarR w s r) (hb : Below B w w') (hB : w.heap.size ≤ B) : FarR w' s r :=
  ⟨h.1.below hb hB, fun hn b off e => (h.2 hn b off e).imp id fun ⟨cs, hc⟩ => ⟨cs, by
    rw [hb.block b (Nat.lt_of_lt_of_le (block_of_reads h.1.1 hn e) hB)]; exact hc⟩⟩
def OwnL (w : World) (s : Nat) (v : Value) (L : List Row) : Prop := w.ownsRow s 27 1 v L.length (L.map Row.v) ∧ ∀ r ∈ L, FarR w s r
theorem OwnL.nil (w : World) (s : Nat) : OwnL w s (.slice none 0 0) [] := ⟨World.ownsRow_nil _ _ _ _, fun _ h => by cases h⟩
theorem OwnL.below {w w' : World} {s B : Nat} {v : Value} {L : List Row} (h : OwnL w s v L) (hb : Below B w w') (hB : w.heap.size ≤ B) : OwnL w' s v L :=
  ⟨own_below h.1 hb hB, fun r hr => (h.2 r hr).below hb hB⟩
theorem OwnL.reads {w : World} {s : Nat} {v : Value} {L : List Row} (h : OwnL w s v L) : ∃ A c, v = .slice A L.length c ∧ ReadsL w A L := by
  have ho := h.1
  rcases ho.2 with ⟨rfl, h0⟩ | ⟨g, cap, cur, rfl, _, hg, _⟩
  · obtain rfl : L = [] := List.eq_nil_of_length_eq_zero (by omega)
    exact ⟨none, 0, rfl, ReadsL.nil _ _⟩
  · refine ⟨_, cap, rfl, fun j hj => ?_, fun r hr => (h.2 r hr).1⟩
    have hc := ho.cellAt j (by omega)
    have e : (L.map Row.v)[j]? = some (rA L j).v := by
      unfold rA
      rw [List.getElem?_map, List.getElem?_eq_getElem hj]
      rfl
    rw [e] at hc
    exact ⟨g, 0, rfl, World.block_lt_of_cell? w ⟨g, j, none⟩ hc, by rw [Nat.zero_add]; exact hc⟩
theorem OwnL.alloc {w : World} {s : Nat} {v : Value} {L : List Row} (h : OwnL w s v L) (o : Obj) : OwnL (w.alloc o) s v L := h.below (B := w.heap.size) ((Below.refl _ _).alloc (Nat.le_refl _) _) (Nat.le_refl _)
theorem FarR.alloc {w : World} {s : Nat} {r : Row} (h : FarR w s r) (o : Obj) : FarR (w.alloc o) s r := h.below (B := w.heap.size) ((Below.refl _ _).alloc (Nat.le_refl _) _) (Nat.le_refl _)
theorem infoR : (Try.prog.info? 27).map (fun i => (i.zero, i.size, i.bytes)) = some (some (.slice none 0 0), 1, 24) := by kernel_rfl
theorem own_grown {w w' : World} {s : Nat} {v : Value} {L : List Row} (h : OwnL w s v L) (hg : w.grownBy w' v.ownBlock) (r : Row) (hr : FarR w s r) : FarR w' s r := by
  have key : r.zs ≠ [] → ∀ b off, r.A = some ⟨b, off, none⟩ → w'.heap[b]? = w.heap[b]? := fun hn b off e => by
    refine hg.block b (block_of_reads hr.1.1 hn e) fun e2 => ?_
    rcases h.1.2 with ⟨e1, _⟩ | ⟨g, cap, cur, e1, hb, h2, _⟩
    · rw [e1] at e2; cases e2
    · rw [e1] at e2
      have e3 : g = b := by simpa [Value.ownBlock] using e2.symm
      subst e3
      rcases hr.2 hn _ off e with h3 | ⟨cs, h3⟩
      · omega
      · rw [h2] at h3
        simp at h3
  by_cases hn : r.zs = []
  · refine ⟨⟨?_, hr.1.2⟩, fun h => absurd hn h⟩
    rw [hn]
    exact ReadsV.nil _ _
  · refine ⟨⟨fun j hj => ?_, hr.1.2⟩, fun hn' b off e => (hr.2 hn' b off e).imp id fun ⟨cs, hc⟩ => ⟨cs, by rw [key hn b off e]; exact hc⟩⟩
    obtain ⟨b, off, e, h1, h2⟩ := hr.1.1 j hj
    have kb := key hn b off e
    refine ⟨b, off, e, ?_, ?_⟩
    · rcases Nat.lt_or_ge b w'.heap.size with h3 | h3
      · exact h3
      · rw [Array.getElem?_eq_none h3, Array.getElem?_eq_getElem h1] at kb
        cases kb
    · rw [← h2]
      simp only [World.cell?, kb]
theorem own_snoc {w w' : World} {s : Nat} {v v' : Value} {L : List Row} (h : OwnL w s v L) (r : Row) (hr : FarR w s r) (hg : w.grownBy w' v.ownBlock) (ho : w'.ownsRow s 27 1 v' (L.length + 1) (L.map Row.v ++ [r.v])) : OwnL w' s v' (L ++ [r]) := by
  refine ⟨?_, fun x hx => ?_⟩
  · rw [List.map_append, List.length_append]
    exact ho
  · rcases List.mem_append.1 hx with hx | hx
    · exact own_grown h hg x (h.2 x hx)
    · simp at hx
      subst hx
      exact own_grown h hg _ hr
/-- one row is appended -/
theorem wpList_row {ops : Array Oper} {rest : List Oper} {o : Oper} {a : Act} {w : World} {Q : Exit → Act → World → Prop} (hgd : o.guard = none) (s x : Operand)
    (ho : o.op = .call { callee := .builtin .append, args := #[s, x], argTypes := #[22, 22] })
    (base : Nat) (v : Value) (L : List Row) (r : Row) (hs : a.eval s = v) (hO : OwnL w base v L) (g : Nat) (hx : a.eval x = .slice (some ⟨g, 0, none⟩) 1 1)
    (hc : w.cell? ⟨g, 0, none⟩ = some r.v) (hr : FarR w base r) (hl : L.length ≤ 100000) (hbase : base ≤ w.heap.size)
    (h : ∀ v' w', OwnL w' base v' (L ++ [r]) → Below base w w' → wpList Try.prog ops Q rest (a.put o.dst v') w') : wpList Try.prog ops Q (o :: rest) a w := by
  obtain ⟨i, hi, hz, h1, h2⟩ := info_parts infoR
  refine wpList_append_own _ hgd s x 22 ho base 27 i (.slice none 0 0) 1 24 Try.underlying22 hi hz h1 h2 rfl (by decide) v L.length (L.map Row.v) hs hO.1 ⟨g, 0, none⟩ 1 1 [r.v] hx rfl ?_ ?_ (by unfold maxLen; omega) (by omega) hbase ?_
  · intro j u hj
    cases j with
    | zero => simp at hj; subst hj; simpa [Addr.add] using hc
    | succ j => simp at hj
  · intro u hu
    simp at hu
    subst hu
    simp [Value.oneCell', Row.v]
  · intro v' w' hown hgrow _
    refine h v' w' (own_snoc hO r hr hgrow hown) ((Below.refl base w).grown hgrow hbase fun q e => ?_)
    rcases hO.1.2 with ⟨e1, _⟩ | ⟨g', cap, cur, e1, hb, _⟩
    · rw [e1] at e; cases e
    · rw [e1] at e
      have : q = g' := by simpa [Value.ownBlock] using e.symm
      omega
theorem FarR.ofOwn {w : World} {s B : Nat} {A : Option Addr} {zs : List Int} {c : Nat} (h : w.ownsRow B 3 1 (.slice A zs.length c) zs.length (zs.map (Value.int .i64))) (hl : zs.length ≤ 1000) : FarR w s ⟨A, zs, c⟩ := by
  obtain ⟨A2, c2, e, hr⟩ := ReadsV.own h
  injection e with e1 _ e3
  subst e1 e3
  refine ⟨⟨hr, hl⟩, fun hn b off e => .inr ?_⟩
  rcases h.2 with ⟨h1, h2⟩ | ⟨g, cap, cur, e1, hb, hg, _⟩
  · exact absurd (List.eq_nil_of_length_eq_zero h2) hn
  · injection e1 with e1
    have e : A = some ⟨b, off, none⟩ := e
    rw [e] at e1
    injection e1 with e1
    injection e1 with e1
    subst e1
    exact ⟨cur, hg⟩
set_option maxHeartbeats 4000000 in
set_option maxRecDepth 100000 in
theorem rreverse_any (gA : Option Addr) (n gc : Nat) (RA : Nat → Option Addr) (RL : Nat → List Int) (RK : Nat → Nat) (w : World) (GR : GraphR w gA n RA RL RK) (hn : n ≤ 1000) :
    Calls Try.prog 16 #[.slice gA n gc] w fun e w' => ∃ A c RA' RK', e = .returned (.slice A n c) ∧ GraphR w' A n RA' (revV RL n) RK' ∧ Below w.heap.size w w' := by
  have CT := Lib.hid (table_any gA n gc RA RL RK w GR)
  have RV : Hid (∀ v, revV RL n v = pickI (fun u => tabB RL u v) n) := fun _ => rfl
  clear GR
  generalize revV RL n = rv at *
  generalize tabB RL = T at *
  go_enter Try.func16, Try.ntmps16
  go_wp2_with fail
  refine CT.out.mono ?_
  rintro e w1 ⟨tv, ad, rfl, M1, K1⟩
  have M1 := Lib.hid M1
  have K1 := Lib.hid K1
  have O0 : Hid (OwnL w1 w1.heap.size (.slice none 0 0) []) := OwnL.nil _ _
  have R0 : Hid (∀ v, v < 0 → (rA [] v).zs = rv v) := fun v hv => absurd hv (by omega)
  have B0 : Hid (Below w1.heap.size w1 w1) := Below.refl _ _
  clear CT
  go_wp2_with fail
  go_loopw [5, 4] (fun q ov wr => ∃ L : List Row, L.length ≤ n ∧ q = .int .i64 (L.length : Nat) ∧ Hid (OwnL wr w1.heap.size ov L) ∧ Hid (∀ v, v < L.length → (rA L v).zs = rv v) ∧ Hid (Below w1.heap.size w1 wr)) (fun q _ _ => n - (intOf q).toNat)
  case atStart => exact ⟨[], by simp, rfl, O0, R0, B0⟩
  case round =>
    clear O0 B0 R0
    obtain ⟨wo, rfl⟩ : ∃ wo, wo = wr := ⟨_, rfl⟩
    obtain ⟨L, hL, rfl, OW, RR, BB⟩ := hrel
    obtain ⟨k, hk⟩ : ∃ k, k = L.length := ⟨_, rfl⟩
    rw [← hk] at hL RR ⊢
    have HK := Lib.hid hk
    clear hk
    by_cases hlt : k < n
    · have P0 : Hid (OwnI wo wo.heap.size (.slice none 0 0) (pickI (fun u => T u k) 0)) := OwnI.nil _ _
      have B0 : Hid (Below wo.heap.size wo wo) := Below.refl _ _
      have RVk := Lib.hid (RV.out k)
      have MR := Lib.hid (M1.out.below BB.out)
      have hsz := BB.out.size
      go_wp2_with fail
      go_loopw [7, 6] (fun q lv wr => ∃ u : Nat, u ≤ n ∧ q = .int .i64 (u : Nat) ∧ Hid (OwnI wr wo.heap.size lv (pickI (fun u => T u k) u)) ∧ Hid (Below wo.heap.size wo wr)) (fun q _ _ => n - (intOf q).toNat)
      case atStart => exact ⟨0, by omega, rfl, P0, B0⟩
      case round =>
        clear P0 B0
        obtain ⟨wp, rfl⟩ : ∃ wp, wp = wr := ⟨_, rfl⟩
        obtain ⟨u, hu, rfl, OP, BP⟩ := hrel
        by_cases hun : u < n
        · have M3 := MR.out.below BP.out
          obtain ⟨tg, tc, rfl, c1⟩ := M3.cell hun
          have c2 := M3.get hun hlt
          have PY := Lib.hid (pickI_yes (fun u => T u k) u)
          have PN := Lib.hid (pickI_no (fun u => T u k) u)
          have hpl := pickI_len (fun u => T u k) u
          have hsp := BP.out.size
          clear M3
          cases hz : T u k
          · rw [hz] at c2
            have O6 : Hid (OwnI wp wo.heap.size u6 (pickI (fun u => T u k) (u + 1))) := by
              show OwnI _ _ _ _
              rw [PN.out hz]; exact OP.out
            clear PY PN hz
            go_wp2
            go_roundw
            case rel => exact ⟨u + 1, by omega, by go_num, O6, BP⟩
            case measure => simp [intOf]; omega
          · rw [hz] at c2
            have PYi := Lib.hid (PY.out hz)
            clear PY PN hz
            generalize hP0 : pickI (fun u => T u k) u = P0 at *
            clear hP0
            go_wp2_with (at_builtin; go_loud (refine wpList_int rfl (.tmp 29) (.tmp 31) rfl wo.heap.size u6 P0 (u : Int) rfl (OP.out.alloc _) wp.heap.size rfl (cell_new1 _ _ _) (by omega) (by rw [World.size_alloc]; omega) ?_); intro v' w6 ho6 hb6; have O6 : Hid (OwnI w6 wo.heap.size v' (pickI (fun u => T u k) (u + 1))) := (by show OwnI _ _ _ _; rw [PYi.out]; exact ho6); have B6 := Lib.hid ((BP.out.alloc hsp _).trans hb6); clear ho6 hb6)
            go_roundw
            case rel => exact ⟨u + 1, by omega, by go_num, O6, B6⟩
            case measure => simp [intOf]; omega
        · obtain rfl : u = n := by omega
          have hpl := pickI_len (fun u => T u k) u
          have ho := OP.out
          unfold OwnI at ho
          obtain ⟨pA, pc, ep, -⟩ := ReadsV.own ho
          subst ep
          have FR : Hid (FarR wp w1.heap.size ⟨pA, pickI (fun u => T u k) u, pc⟩) := FarR.ofOwn ho (by omega)
          have O2 := Lib.hid (OW.out.below BP.out (Nat.le_refl _))
          have B2 := Lib.hid (BB.out.trans (BP.out.mono hsz))
          have hs2 := B2.out.size
          have RN : Hid (∀ v, v < k + 1 → (rA (L ++ [⟨pA, pickI (fun u => T u k) u, pc⟩]) v).zs = rv v) := fun v hv => by
            by_cases e : v = k
            · rw [e, RVk.out]
              unfold rA
              rw [HK.out, List.getElem?_append_right (Nat.le_refl _), Nat.sub_self]
              rfl
            · have h := RR.out v (by omega)
              unfold rA at h ⊢
              rw [List.getElem?_append_left (by rw [← HK.out]; omega)]
              exact h
          have hll : L.length ≤ 100000 := by rw [← HK.out]; omega
          clear ho OP OW BP BB RR RVk MR
          generalize pickI (fun u => T u k) u = PL at *
          go_wp2_with (at_builtin; go_loud (refine wpList_row rfl (.tmp 33) (.tmp 35) rfl w1.heap.size u4 L ⟨pA, PL, pc⟩ rfl (O2.out.alloc _) wp.heap.size rfl (cell_new1 _ _ _) (FR.out.alloc _) hll (by rw [World.size_alloc]; omega) ?_); intro v' w6 ho6 hb6; have O6 := Lib.hid ho6; have B6 := Lib.hid ((B2.out.alloc hs2 _).trans hb6); clear ho6 hb6)
          go_roundw
          case rel => exact ⟨L ++ [⟨pA, PL, pc⟩], by rw [List.length_append, List.length_singleton, ← HK.out]; omega, by rw [List.length_append, List.length_singleton, ← HK.out]; go_num, O6, by rw [List.length_append, List.length_singleton, ← HK.out]; exact RN, B6⟩
          case measure => simp [intOf]; omega
    · obtain rfl : k = n := by omega
      obtain ⟨A, c, e1, R1⟩ := OW.out.reads
      rw [← HK.out] at e1
      subst e1
      have FIN : Hid (GraphR wo A k (fun i => (rA L i).A) rv (fun i => (rA L i).cap)) := by
        refine ⟨by omega, fun i hi => ?_, fun i hi => ?_, fun i hi => ?_⟩
        · obtain ⟨b, off, e, h1, h2⟩ := R1.1 i (by rw [← HK.out]; exact hi)
          refine ⟨b, off, e, h1, ?_⟩
          rw [h2]
          unfold Row.v
          rw [RR.out i hi]
        · have h := (R1.2 _ (rA_mem (show i < L.length by rw [← HK.out]; exact hi))).1
          rw [RR.out i hi] at h
          exact h
        · have h := (R1.2 _ (rA_mem (show i < L.length by rw [← HK.out]; exact hi))).2
          rw [RR.out i hi] at h
          omega
      have BF := Lib.hid (K1.out.trans (BB.out.mono K1.out.size))
      clear OW RR R1 BB
      go_wp2
      go_ret
      exact ⟨_, _, _, _, rfl, FIN.out, BF.out⟩
end Go.Proofs.Ytdfljeonoallfaa
