/- Graphs: rows of numbers that come in. Graphs: Reverse of the reference. Graphs: Reach returns a row of its own. Graphs: Components and Bottom of the reference. Graphs: the memory of Components. Graphs: Components. Graphs: equality of lists, and of lists of lists. Lists of booleans: Contains. -/
import Derived.Test.YtlbcdnobpnllkaaGreatDgM1
import Derived.OpenShut
import Derived.ChangeSlices
import Derived.Deep.Slices
import Derived.Test.YtlbcdnobpnllkaaGreatDgM2
import Derived.Test.YtlbcdnobpnllkaaGreatShelf
namespace Go.Proofs.YtlbcdnobpnllkaaGreat.Dg
open Go.RowKit Go.ChangeShapes Go.WideShapes Go.Deep

structure Row where
  A : Option Addr
  zs : List Int
  cap : Nat
instance : Inhabited Row := ⟨⟨none, [], 0⟩⟩
def Row.v (r : Row) : Value := .slice r.A r.zs.length r.cap
def OkR (w : World) (r : Row) : Prop := ReadsV w r.A r.zs ∧ r.zs.length ≤ 1000
def rowsL (L : List Row) : List (List Int) := L.map Row.zs
def rA (L : List Row) (j : Nat) : Row := L[j]?.getD ⟨none, [], 0⟩
def CellsL (w : World) (A : Option Addr) (L : List Row) : Prop :=
  ∀ j, j < L.length → ∃ b off, A = some ⟨b, off, none⟩ ∧ b < w.heap.size ∧ w.cell? ⟨b, off + j, none⟩ = some (rA L j).v
def ReadsL (w : World) (A : Option Addr) (L : List Row) : Prop := CellsL w A L ∧ ∀ r ∈ L, OkR w r
theorem rowsL_len (L : List Row) : (rowsL L).length = L.length := by simp [rowsL]
theorem rA_mem {L : List Row} {j : Nat} (h : j < L.length) : rA L j ∈ L := by
  unfold rA
  rw [List.getElem?_eq_getElem h]
  exact List.getElem_mem h
theorem rA_get {L : List Row} {j : Nat} (h : j < L.length) : (rowsL L)[j]'(by rw [rowsL_len]; exact h) = (rA L j).zs := by
  unfold rA rowsL
  rw [List.getElem?_eq_getElem h]
  simp
theorem rowsL_take (L : List Row) (k : Nat) : rowsL (L.take k) = (rowsL L).take k := by simp [rowsL, List.map_take]
theorem rowsL_snoc (L : List Row) (r : Row) : rowsL (L ++ [r]) = rowsL L ++ [r.zs] := by simp [rowsL]
theorem rowsL_all (L : List Row) : (rowsL L).take L.length = rowsL L := by rw [← rowsL_len L, List.take_length]
theorem OkR.below {w w' : World} {r : Row} {B : Nat} (h : OkR w r) (hb : Below B w w') (hB : w.heap.size ≤ B) : OkR w' r := ⟨h.1.below hb hB, h.2⟩
theorem CellsL.below {w w' : World} {A : Option Addr} {L : List Row} {B : Nat} (h : CellsL w A L) (hb : Below B w w') (hB : w.heap.size ≤ B) : CellsL w' A L := fun j hj => by
  obtain ⟨b, off, e, h1, h2⟩ := h j hj
  exact ⟨b, off, e, Nat.lt_of_lt_of_le h1 hb.size, (hb.cell (p := ⟨b, off + j, none⟩) (Nat.lt_of_lt_of_le h1 hB)).trans h2⟩
theorem ReadsL.below {w w' : World} {A : Option Addr} {L : List Row} {B : Nat} (h : ReadsL w A L) (hb : Below B w w') (hB : w.heap.size ≤ B) : ReadsL w' A L :=
  ⟨h.1.below hb hB, fun r hr => (h.2 r hr).below hb hB⟩
theorem CellsL.at {w : World} {A : Option Addr} {L : List Row} (h : CellsL w A L) (k : Nat) (hk : k < L.length) : ∃ b off, A = some ⟨b, off, none⟩ ∧ w.cell? ⟨b, off + k, none⟩ = some (.slice (rA L k).A (rA L k).zs.length (rA L k).cap) := by
  obtain ⟨b, off, e, _, h2⟩ := h k hk
  exact ⟨b, off, e, h2⟩
theorem ReadsL.nil (w : World) (A : Option Addr) : ReadsL w A [] := ⟨fun _ h => absurd h (by simp), fun _ h => by cases h⟩

end Go.Proofs.YtlbcdnobpnllkaaGreat.Dg

namespace Go.Proofs.YtlbcdnobpnllkaaGreat.Dg
open Go.RowKit Go.Deep

/-- a row that no append to a list above s turns -/
def FarR (w : World) (s : Nat) (r : Row) : Prop := OkR w r ∧ (r.zs ≠ [] → ∀ b off, r.A = some ⟨b, off, none⟩ → b < s ∨ ∃ cs, w.heap[b]? = some (.cells cs 3 (0, 0)))
theorem block_of_reads {w : World} {A : Option Addr} {zs : List Int} (h : ReadsV w A zs) (hn : zs ≠ []) {b off : Nat} (e : A = some ⟨b, off, none⟩) : b < w.heap.size := by
  obtain ⟨b', off', e', h1, _⟩ := h 0 (List.length_pos_iff.2 hn)
  rw [e] at e'
  injection e' with e'
  injection e' with e'
  rw [e']; exact h1
theorem FarR.old {w w0 : World} {s B : Nat} {r : Row} (h : OkR w0 r) (hb : Below B w0 w) (hB : w0.heap.size ≤ B) (hs : w0.heap.size ≤ s) : FarR w s r :=
  ⟨h.below hb hB, fun hn b off e => .inl (Nat.lt_of_lt_of_le (block_of_reads h.1 hn e) hs)⟩
theorem FarR.below {w w' : World} {r : Row} {s B : Nat} (h : FarR w s r) (hb : Below B w w') (hB : w.heap.size ≤ B) : FarR w' s r :=
  ⟨h.1.below hb hB, fun hn b off e => (h.2 hn b off e).imp id fun ⟨cs, hc⟩ => ⟨cs, by
    rw [hb.block b (Nat.lt_of_lt_of_le (block_of_reads h.1.1 hn e) hB)]; exact hc⟩⟩
def OwnL (w : World) (s : Nat) (v : Value) (L : List Row) : Prop := w.ownsRow s 34 1 v L.length (L.map Row.v) ∧ ∀ r ∈ L, FarR w s r
theorem OwnL.nil (w : World) (s : Nat) : OwnL w s (.slice none 0 0) [] := ⟨World.ownsRow_nil _ _ _ _, fun _ h => by cases h⟩
theorem OwnL.below {w w' : World} {s B : Nat} {v : Value} {L : List Row} (h : OwnL w s v L) (hb : Below B w w') (hB : w.heap.size ≤ B) : OwnL w' s v L :=
  ⟨own_below h.1 hb hB, fun r hr => (h.2 r hr).below hb hB⟩
theorem OwnL.reads {w : World} {s : Nat} {v : Value} {L : List Row} (h : OwnL w s v L) : ∃ A c, v = .slice A L.length c ∧ ReadsL w A L := by
  have ho := h.1
  rcases ho.2 with ⟨rfl, h0⟩ | ⟨g, cap, cur, rfl, _, hg, _⟩
  · obtain rfl : L = [] := List.eq_nil_of_length_eq_zero (by omega)
    exact ⟨none, 0, rfl, ReadsL.nil _ _⟩
  · refine ⟨_, cap, rfl, fun j hj => ?_, fun r hr => (h.2 r hr).1⟩
    have hc := ho.cellAt j (by omega)
    have e : (L.map Row.v)[j]? = some (rA L j).v := by
      unfold rA
      rw [List.getElem?_map, List.getElem?_eq_getElem hj]
      rfl
    rw [e] at hc
    exact ⟨g, 0, rfl, World.block_lt_of_cell? w ⟨g, j, none⟩ hc, by rw [Nat.zero_add]; exact hc⟩
theorem OwnL.alloc {w : World} {s : Nat} {v : Value} {L : List Row} (h : OwnL w s v L) (o : Obj) : OwnL (w.alloc o) s v L := h.below (B := w.heap.size) ((Below.refl _ _).alloc (Nat.le_refl _) _) (Nat.le_refl _)
theorem FarR.alloc {w : World} {s : Nat} {r : Row} (h : FarR w s r) (o : Obj) : FarR (w.alloc o) s r := h.below (B := w.heap.size) ((Below.refl _ _).alloc (Nat.le_refl _) _) (Nat.le_refl _)
theorem infoR : (Tryz.prog.info? 34).map (fun i => (i.zero, i.size, i.bytes)) = some (some (.slice none 0 0), 1, 24) := by kernel_rfl
theorem own_grown {w w' : World} {s : Nat} {v : Value} {L : List Row} (h : OwnL w s v L) (hg : w.grownBy w' v.ownBlock) (r : Row) (hr : FarR w s r) : FarR w' s r := by
  have key : r.zs ≠ [] → ∀ b off, r.A = some ⟨b, off, none⟩ → w'.heap[b]? = w.heap[b]? := fun hn b off e => by
    refine hg.block b (block_of_reads hr.1.1 hn e) fun e2 => ?_
    rcases h.1.2 with ⟨e1, _⟩ | ⟨g, cap, cur, e1, hb, h2, _⟩
    · rw [e1] at e2; cases e2
    · rw [e1] at e2
      have e3 : g = b := by simpa [Value.ownBlock] using e2.symm
      subst e3
      rcases hr.2 hn _ off e with h3 | ⟨cs, h3⟩
      · omega
      · rw [h2] at h3
        simp at h3
  by_cases hn : r.zs = []
  · refine ⟨⟨?_, hr.1.2⟩, fun h => absurd hn h⟩
    rw [hn]
    exact ReadsV.nil _ _
  · refine ⟨⟨fun j hj => ?_, hr.1.2⟩, fun hn' b off e => (hr.2 hn' b off e).imp id fun ⟨cs, hc⟩ => ⟨cs, by rw [key hn b off e]; exact hc⟩⟩
    obtain ⟨b, off, e, h1, h2⟩ := hr.1.1 j hj
    have kb := key hn b off e
    refine ⟨b, off, e, ?_, ?_⟩
    · rcases Nat.lt_or_ge b w'.heap.size with h3 | h3
      · exact h3
      · rw [Array.getElem?_eq_none h3, Array.getElem?_eq_getElem h1] at kb
        cases kb
    · rw [← h2]
      simp only [World.cell?, kb]
theorem own_snoc {w w' : World} {s : Nat} {v v' : Value} {L : List Row} (h : OwnL w s v L) (r : Row) (hr : FarR w s r) (hg : w.grownBy w' v.ownBlock) (ho : w'.ownsRow s 34 1 v' (L.length + 1) (L.map Row.v ++ [r.v])) : OwnL w' s v' (L ++ [r]) := by
  refine ⟨?_, fun x hx => ?_⟩
  · rw [List.map_append, List.length_append]
    exact ho
  · rcases List.mem_append.1 hx with hx | hx
    · exact own_grown h hg x (h.2 x hx)
    · simp at hx
      subst hx
      exact own_grown h hg _ hr
/-- one row is appended -/
theorem wpList_row {ops : Array Oper} {rest : List Oper} {o : Oper} {a : Act} {w : World} {Q : Exit → Act → World → Prop} (hgd : o.guard = none) (s x : Operand)
    (ho : o.op = .call { callee := .builtin .append, args := #[s, x], argTypes := #[30, 30] })
    (base : Nat) (v : Value) (L : List Row) (r : Row) (hs : a.eval s = v) (hO : OwnL w base v L) (g : Nat) (hx : a.eval x = .slice (some ⟨g, 0, none⟩) 1 1)
    (hc : w.cell? ⟨g, 0, none⟩ = some r.v) (hr : FarR w base r) (hl : L.length ≤ 100000) (hbase : base ≤ w.heap.size)
    (h : ∀ v' w', OwnL w' base v' (L ++ [r]) → Below base w w' → wpList Tryz.prog ops Q rest (a.put o.dst v') w') : wpList Tryz.prog ops Q (o :: rest) a w := by
  obtain ⟨i, hi, hz, h1, h2⟩ := info_parts infoR
  refine wpList_append_own _ hgd s x 30 ho base 34 i (.slice none 0 0) 1 24 Tryz.underlying30 hi hz h1 h2 rfl (by decide) v L.length (L.map Row.v) hs hO.1 ⟨g, 0, none⟩ 1 1 [r.v] hx rfl ?_ ?_ (by unfold maxLen; omega) (by omega) hbase ?_
  · intro j u hj
    cases j with
    | zero => simp at hj; subst hj; simpa [Addr.add] using hc
    | succ j => simp at hj
  · intro u hu
    simp at hu
    subst hu
    simp [Value.oneCell', Row.v]
  · intro v' w' hown hgrow _
    refine h v' w' (own_snoc hO r hr hgrow hown) ((Below.refl base w).grown hgrow hbase fun q e => ?_)
    rcases hO.1.2 with ⟨e1, _⟩ | ⟨g', cap, cur, e1, hb, _⟩
    · rw [e1] at e; cases e
    · rw [e1] at e
      have : q = g' := by simpa [Value.ownBlock] using e.symm
      omega
theorem FarR.ofOwn {w : World} {s B : Nat} {A : Option Addr} {zs : List Int} {c : Nat} (h : w.ownsRow B 3 1 (.slice A zs.length c) zs.length (zs.map (Value.int .i64))) (hl : zs.length ≤ 1000) : FarR w s ⟨A, zs, c⟩ := by
  obtain ⟨A2, c2, e, hr⟩ := ReadsV.own h
  injection e with e1 _ e3
  subst e1 e3
  refine ⟨⟨hr, hl⟩, fun hn b off e => .inr ?_⟩
  rcases h.2 with ⟨h1, h2⟩ | ⟨g, cap, cur, e1, hb, hg, _⟩
  · exact absurd (List.eq_nil_of_length_eq_zero h2) hn
  · injection e1 with e1
    have e : A = some ⟨b, off, none⟩ := e
    rw [e] at e1
    injection e1 with e1
    injection e1 with e1
    subst e1
    exact ⟨cur, hg⟩
set_option maxHeartbeats 4000000 in
set_option maxRecDepth 100000 in
theorem rreverse_any (gA : Option Addr) (n gc : Nat) (RA : Nat → Option Addr) (RL : Nat → List Int) (RK : Nat → Nat) (w : World) (GR : GraphR w gA n RA RL RK) (hn : n ≤ 1000) :
    Calls Tryz.prog 87 #[.slice gA n gc] w fun e w' => ∃ A c RA' RK', e = .returned (.slice A n c) ∧ GraphR w' A n RA' (revV RL n) RK' ∧ Below w.heap.size w w' := by
  have CT := Lib.hid (table_any gA n gc RA RL RK w GR)
  have RV : Hid (∀ v, revV RL n v = pickI (fun u => tabB RL u v) n) := fun _ => rfl
  clear GR
  generalize revV RL n = rv at *
  generalize tabB RL = T at *
  go_enter Tryz.func87, Tryz.ntmps87
  go_wp2_with fail
  refine CT.out.mono ?_
  rintro e w1 ⟨tv, ad, rfl, M1, K1⟩
  have M1 := Lib.hid M1
  have K1 := Lib.hid K1
  have O0 : Hid (OwnL w1 w1.heap.size (.slice none 0 0) []) := OwnL.nil _ _
  have R0 : Hid (∀ v, v < 0 → (rA [] v).zs = rv v) := fun v hv => absurd hv (by omega)
  have B0 : Hid (Below w1.heap.size w1 w1) := Below.refl _ _
  clear CT
  go_wp2_with fail
  go_loopw [5, 4] (fun q ov wr => ∃ L : List Row, L.length ≤ n ∧ q = .int .i64 (L.length : Nat) ∧ Hid (OwnL wr w1.heap.size ov L) ∧ Hid (∀ v, v < L.length → (rA L v).zs = rv v) ∧ Hid (Below w1.heap.size w1 wr)) (fun q _ _ => n - (intOf q).toNat)
  case atStart => exact ⟨[], by simp, rfl, O0, R0, B0⟩
  case round =>
    clear O0 B0 R0
    obtain ⟨wo, rfl⟩ : ∃ wo, wo = wr := ⟨_, rfl⟩
    obtain ⟨L, hL, rfl, OW, RR, BB⟩ := hrel
    obtain ⟨k, hk⟩ : ∃ k, k = L.length := ⟨_, rfl⟩
    rw [← hk] at hL RR ⊢
    have HK := Lib.hid hk
    clear hk
    by_cases hlt : k < n
    · have P0 : Hid (OwnI wo wo.heap.size (.slice none 0 0) (pickI (fun u => T u k) 0)) := OwnI.nil _ _
      have B0 : Hid (Below wo.heap.size wo wo) := Below.refl _ _
      have RVk := Lib.hid (RV.out k)
      have MR := Lib.hid (M1.out.below BB.out)
      have hsz := BB.out.size
      go_wp2_with fail
      go_loopw [7, 6] (fun q lv wr => ∃ u : Nat, u ≤ n ∧ q = .int .i64 (u : Nat) ∧ Hid (OwnI wr wo.heap.size lv (pickI (fun u => T u k) u)) ∧ Hid (Below wo.heap.size wo wr)) (fun q _ _ => n - (intOf q).toNat)
      case atStart => exact ⟨0, by omega, rfl, P0, B0⟩
      case round =>
        clear P0 B0
        obtain ⟨wp, rfl⟩ : ∃ wp, wp = wr := ⟨_, rfl⟩
        obtain ⟨u, hu, rfl, OP, BP⟩ := hrel
        by_cases hun : u < n
        · have M3 := MR.out.below BP.out
          obtain ⟨tg, tc, rfl, c1⟩ := M3.cell hun
          have c2 := M3.get hun hlt
          have PY := Lib.hid (pickI_yes (fun u => T u k) u)
          have PN := Lib.hid (pickI_no (fun u => T u k) u)
          have hpl := pickI_len (fun u => T u k) u
          have hsp := BP.out.size
          clear M3
          cases hz : T u k
          · rw [hz] at c2
            have O6 : Hid (OwnI wp wo.heap.size u6 (pickI (fun u => T u k) (u + 1))) := by
              show OwnI _ _ _ _
              rw [PN.out hz]; exact OP.out
            clear PY PN hz
            go_wp2
            go_roundw
            case rel => exact ⟨u + 1, by omega, by go_num, O6, BP⟩
            case measure => simp [intOf]; omega
          · rw [hz] at c2
            have PYi := Lib.hid (PY.out hz)
            clear PY PN hz
            generalize hP0 : pickI (fun u => T u k) u = P0 at *
            clear hP0
            go_wp2_with (at_builtin; go_loud (refine wpList_int rfl (.tmp 29) (.tmp 31) rfl wo.heap.size u6 P0 (u : Int) rfl (OP.out.alloc _) wp.heap.size rfl (cell_new1 _ _ _) (by omega) (by rw [World.size_alloc]; omega) ?_); intro v' w6 ho6 hb6; have O6 : Hid (OwnI w6 wo.heap.size v' (pickI (fun u => T u k) (u + 1))) := (by show OwnI _ _ _ _; rw [PYi.out]; exact ho6); have B6 := Lib.hid ((BP.out.alloc hsp _).trans hb6); clear ho6 hb6)
            go_roundw
            case rel => exact ⟨u + 1, by omega, by go_num, O6, B6⟩
            case measure => simp [intOf]; omega
        · obtain rfl : u = n := by omega
          have hpl := pickI_len (fun u => T u k) u
          have ho := OP.out
          unfold OwnI at ho
          obtain ⟨pA, pc, ep, -⟩ := ReadsV.own ho
          subst ep
          have FR : Hid (FarR wp w1.heap.size ⟨pA, pickI (fun u => T u k) u, pc⟩) := FarR.ofOwn ho (by omega)
          have O2 := Lib.hid (OW.out.below BP.out (Nat.le_refl _))
          have B2 := Lib.hid (BB.out.trans (BP.out.mono hsz))
          have hs2 := B2.out.size
          have RN : Hid (∀ v, v < k + 1 → (rA (L ++ [⟨pA, pickI (fun u => T u k) u, pc⟩]) v).zs = rv v) := fun v hv => by
            by_cases e : v = k
            · rw [e, RVk.out]
              unfold rA
              rw [HK.out, List.getElem?_append_right (Nat.le_refl _), Nat.sub_self]
              rfl
            · have h := RR.out v (by omega)
              unfold rA at h ⊢
              rw [List.getElem?_append_left (by rw [← HK.out]; omega)]
              exact h
          have hll : L.length ≤ 100000 := by rw [← HK.out]; omega
          clear ho OP OW BP BB RR RVk MR
          generalize pickI (fun u => T u k) u = PL at *
          go_wp2_with (at_builtin; go_loud (refine wpList_row rfl (.tmp 33) (.tmp 35) rfl w1.heap.size u4 L ⟨pA, PL, pc⟩ rfl (O2.out.alloc _) wp.heap.size rfl (cell_new1 _ _ _) (FR.out.alloc _) hll (by rw [World.size_alloc]; omega) ?_); intro v' w6 ho6 hb6; have O6 := Lib.hid ho6; have B6 := Lib.hid ((B2.out.alloc hs2 _).trans hb6); clear ho6 hb6)
          go_roundw
          case rel => exact ⟨L ++ [⟨pA, PL, pc⟩], by rw [List.length_append, List.length_singleton, ← HK.out]; omega, by rw [List.length_append, List.length_singleton, ← HK.out]; go_num, O6, by rw [List.length_append, List.length_singleton, ← HK.out]; exact RN, B6⟩
          case measure => simp [intOf]; omega
    · obtain rfl : k = n := by omega
      obtain ⟨A, c, e1, R1⟩ := OW.out.reads
      rw [← HK.out] at e1
      subst e1
      have FIN : Hid (GraphR wo A k (fun i => (rA L i).A) rv (fun i => (rA L i).cap)) := by
        refine ⟨by omega, fun i hi => ?_, fun i hi => ?_, fun i hi => ?_⟩
        · obtain ⟨b, off, e, h1, h2⟩ := R1.1 i (by rw [← HK.out]; exact hi)
          refine ⟨b, off, e, h1, ?_⟩
          rw [h2]
          unfold Row.v
          rw [RR.out i hi]
        · have h := (R1.2 _ (rA_mem (show i < L.length by rw [← HK.out]; exact hi))).1
          rw [RR.out i hi] at h
          exact h
        · have h := (R1.2 _ (rA_mem (show i < L.length by rw [← HK.out]; exact hi))).2
          rw [RR.out i hi] at h
          omega
      have BF := Lib.hid (K1.out.trans (BB.out.mono K1.out.size))
      clear OW RR R1 BB
      go_wp2
      go_ret
      exact ⟨_, _, _, _, rfl, FIN.out, BF.out⟩
end Go.Proofs.YtlbcdnobpnllkaaGreat.Dg

namespace Go.Proofs.YtlbcdnobpnllkaaGreat.Dg
open Go.RowKit

theorem row_of_own {W : World} {base g n m : Nat} {l : List Bool} (h : W.ownsRow base 4 1 (.slice (some ⟨g, 0, none⟩) n n) n (l.map Value.bool)) (hl : l.length = m) : W.rowIs g 4 n (fun j => .bool (atT l j)) := by
  have hln : l.length = n := by have := h.1; simpa using this
  rcases h.2 with ⟨h', _⟩ | ⟨g', cap, cur, h1, h2, h3, h4, h5, h6, h7⟩
  · cases h'
  · injection h1 with a1 a2 a3
    injection a1 with a1
    injection a1 with a1
    subst a1 a3
    refine ⟨cur, h3, by omega, fun i hi => ?_⟩
    have e : cur.toList.take (n * 1) = cur.toList := List.take_of_length_le (by simp; omega)
    rw [e] at h7
    have h8 : cur.toList[i]? = (l.map Value.bool)[i]? := by rw [h7]
    rw [Array.getElem?_toList, List.getElem?_map, List.getElem?_eq_getElem (by omega)] at h8
    rw [h8]
    unfold atT
    show some (Value.bool l[i]) = some (Value.bool (l[i]?.getD true))
    rw [List.getElem?_eq_getElem (show i < l.length by omega)]
    rfl
set_option maxHeartbeats 4000000 in
set_option maxRecDepth 100000 in
theorem reach_own (gA : Option Addr) (n gc : Nat) (RA : Nat → Option Addr) (RL : Nat → List Int) (RK : Nat → Nat) (fA : Option Addr) (l : List Int) (fc : Nat) (w : World) (GR : GraphR w gA n RA RL RK) (rf : ReadsV w fA l) (hl : l.length ≤ 1000000) :
    Calls Tryz.prog 42 #[.slice gA n gc, .slice fA l.length fc] w fun e w' => ∃ r, e = .returned (.slice (some ⟨r, 0, none⟩) n n) ∧ w.heap.size ≤ r ∧ w'.rowIs r 4 n (fun j => .bool (atT (reachL RL n l) j)) ∧ Below w.heap.size w w' := by
  have hn := GR.hn
  have RF := Lib.hid rf
  clear rf
  obtain ⟨i0, hi, hz0, hz1, hz2⟩ := info_parts infoT
  have HI := Lib.hid hi
  have HZ0 := Lib.hid hz0
  have HZ1 := Lib.hid hz1
  have HZ2 := Lib.hid hz2
  clear hi hz0 hz1 hz2
  obtain ⟨w1, hw1⟩ : ∃ w1, w1 = w.alloc (.cells #[.slice gA n gc] 30) := ⟨_, rfl⟩
  have B1 : Hid (Below w.heap.size w w1) := by show Below _ _ _; rw [hw1]; exact (Below.refl _ _).alloc (Nat.le_refl _) _
  have hs1 : w1.heap.size = w.heap.size + 1 := by rw [hw1, World.size_alloc]
  have q0 : w1.cell? ⟨w.heap.size, 0, none⟩ = some (.slice gA n gc) := by rw [hw1]; simp
  have HW1 := Lib.hid hw1
  clear hw1
  go_enter Tryz.func42, Tryz.ntmps42
  go_wp2_with (at_make; rw [← HW1.out]; go_loud (refine wpList_make_full _ rfl _ _ 54 rfl w1.heap.size 4 i0 (.bool false) 1 Tryz.underlying54 HI.out HZ0.out HZ1.out .i64 .i64 _ _ n rfl rfl rfl rfl (by rw [HZ2.out]; omega) (by unfold maxLen; omega) (Nat.le_refl _) ?_); intro w2 hown2 hgrow2)
  have B12 : Below w1.heap.size w1 w2 := (Below.refl _ _).grown hgrow2 (Nat.le_refl _) (fun _ h => by cases h)
  have hs2 : w1.heap.size < w2.heap.size := (hown2.lt w1.heap.size rfl).2
  have hown2 : w2.ownsRow w1.heap.size 4 1 (.slice (some ⟨w1.heap.size, 0, none⟩) n n) n (madeCells #[.bool false] (n * 1)).toList := hown2
  rw [toList_madeCells_one, Nat.mul_one] at hown2
  obtain ⟨C, hC⟩ : ∃ C : RcC, C = ⟨n, gA, gc, w.heap.size, w.heap.size, w2.heap.size, w2.heap.size + 1, w2.heap.size + 1 + 1, w.heap.size + 1, RA, RL, RK⟩ := ⟨_, rfl⟩
  have G : GeoR C w := by
    rw [hC]
    exact ⟨rfl, by show w.heap.size ≠ w.heap.size + 1; omega, by show w2.heap.size ≠ w.heap.size + 1; omega, by show w2.heap.size + 1 ≠ w.heap.size + 1; omega, by show w2.heap.size + 1 + 1 ≠ w.heap.size + 1; omega, by show w.heap.size ≤ w.heap.size + 1; omega, GR.hn, GR.row, GR.rd, GR.ll⟩
  obtain ⟨w3, hw3⟩ : ∃ w3, w3 = ((w2.alloc (.cells #[.slice (some ⟨w.heap.size + 1, 0, none⟩) n n] 54)).alloc (.cells #[.slice none 0 0] 34)).alloc (.cells #[C.fn] 75) := ⟨_, rfl⟩
  have BW : Below w1.heap.size w1 w3 := by
    rw [hw3]
    exact ((B12.alloc B12.size _).alloc (by rw [World.size_alloc]; omega) _).alloc (by rw [World.size_alloc, World.size_alloc]; omega) _
  have E0 : Hid (EnvR C w (List.replicate n false) w3) := by
    show EnvR _ _ _ _
    refine ⟨?_, ?_, ?_, ?_, ?_, ?_, ?_⟩
    · rw [hC]; exact (BW.cell (p := ⟨w.heap.size, 0, none⟩) (by show w.heap.size < w1.heap.size; omega)).trans q0
    · rw [hw3, hC]; exact cellA (cellA (cell_new1 _ _ _) _) _
    · rw [hw3, hC]
      refine cellA ?_ _
      rw [← World.size_alloc w2 (.cells #[.slice (some ⟨w.heap.size + 1, 0, none⟩) n n] 54)]
      exact cell_new1 _ _ _
    · rw [hw3]
      have e : C.Bv = ((w2.alloc (.cells #[.slice (some ⟨w.heap.size + 1, 0, none⟩) n n] 54)).alloc (.cells #[.slice none 0 0] 34)).heap.size := by rw [hC, World.size_alloc, World.size_alloc]
      rw [e]
      exact cell_new1 _ _ _
    · rw [hw3, hC]
      refine World.ownsRow.alloc (World.ownsRow.alloc (World.ownsRow.alloc ?_ _) _) _
      rw [List.map_replicate, ← hs1]
      exact own_mono hown2 (by show w.heap.size ≤ w1.heap.size; omega)
    · rw [hC]; exact List.length_replicate
    · rw [hC]; exact B1.out.trans (BW.mono (by show w.heap.size ≤ w1.heap.size; omega))
  have CI : Hid (∀ x seen W, EnvR C w seen W → unS seen < n + 1 → Calls Tryz.prog 84 #[.int .i64 x, .int .i64 0, .pointer (some ⟨w.heap.size, 0, none⟩), .pointer (some ⟨w2.heap.size, 0, none⟩), .pointer (some ⟨w2.heap.size + 1, 0, none⟩), .pointer (some ⟨w2.heap.size + 1 + 1, 0, none⟩)] W fun e W' => (∃ z, e = .returned z) ∧ EnvR C w (dfsF RL n (n + 1) seen x) W') := fun x seen W h1 h2 => by
    have h := visit_any G (n + 1) x 0 seen W h1 h2 (by omega)
    rw [hC] at h ⊢
    exact h
  have HX : Hid (∀ seen W, EnvR C w seen W → W.cell? ⟨w2.heap.size, 0, none⟩ = some (.slice (some ⟨w.heap.size + 1, 0, none⟩) n n) ∧ W.cell? ⟨w2.heap.size + 1, 0, none⟩ = some (.slice none 0 0) ∧ W.cell? ⟨w2.heap.size + 1 + 1, 0, none⟩ = some (.func (.func 84) #[] #[.pointer (some ⟨w.heap.size, 0, none⟩), .pointer (some ⟨w2.heap.size, 0, none⟩), .pointer (some ⟨w2.heap.size + 1, 0, none⟩), .pointer (some ⟨w2.heap.size + 1 + 1, 0, none⟩)]) ∧ Below w.heap.size w W ∧ (∀ i, i < n → W.cell? ⟨w.heap.size + 1, i, none⟩ = some (.bool (atT seen i))) ∧ w.heap.size + 1 < W.heap.size ∧ seen.length = n ∧ W.rowIs (w.heap.size + 1) 4 n (fun j => .bool (atT seen j))) := fun seen W h => by
    have h8 := row_of_own h.sb h.len
    have h5 := fun i (hi : i < C.n) => h.at hi
    have h6 := (h.sb.lt C.S rfl).2
    have h1 := h.bs
    have h2 := h.bl
    have h3 := h.bv
    have h4 := h.bw
    have h7 := h.len
    unfold RcC.fn at h3
    rw [hC] at h1 h2 h3 h4 h5 h6 h7 h8
    exact ⟨h1, h2, h3, h4, h5, h6, h7, h8⟩
  have HU : Hid (∀ k, unS (dfsL RL n (n + 1) (List.replicate n false) (l.take k)) < n + 1) := fun k => by
    have := dfsL_un RL n (n + 1) (List.replicate n false) (l.take k) List.length_replicate
    have h2 : unS (List.replicate n false) = n := List.count_replicate_self
    omega
  have HST := Lib.hid (fun k (h : k < l.length) => dfsL_step (R := RL) (n := n) (f := n + 1) (S := List.replicate n false) h)
  have HALL : Hid (dfsL RL n (n + 1) (List.replicate n false) (l.take l.length) = reachL RL n l) := by show _ = _; rw [List.take_length]; rfl
  have HW3 : Hid (((w2.alloc (.cells #[.slice (some ⟨w.heap.size + 1, 0, none⟩) n n] 54)).alloc (.cells #[.slice none 0 0] 34)).alloc (.cells #[.func (.func 84) #[] #[.pointer (some ⟨w.heap.size, 0, none⟩), .pointer (some ⟨w2.heap.size, 0, none⟩), .pointer (some ⟨w2.heap.size + 1, 0, none⟩), .pointer (some ⟨w2.heap.size + 1 + 1, 0, none⟩)]] 75) = w3) := by
    show _ = _
    rw [hw3, hC]
    rfl
  have E00 : Hid (EnvR C w (dfsL RL n (n + 1) (List.replicate n false) (l.take 0)) w3) := E0
  rw [HW3.out]
  clear hC hw3 HW3 B12 hown2 hgrow2 G BW E0 q0 HW1 B1 HI HZ0 HZ1 HZ2 GR
  obtain ⟨St, hSt⟩ : ∃ St : Nat → List Bool, St = fun k => dfsL RL n (n + 1) (List.replicate n false) (l.take k) := ⟨_, rfl⟩
  have hSk : ∀ k, dfsL RL n (n + 1) (List.replicate n false) (l.take k) = St k := fun k => by rw [hSt]
  simp only [hSk] at HU HST HALL E00
  clear hSk hSt
  go_loopg [17] l.length (fun gg q wr => ∃ k : Nat, gg = l.length - k ∧ k ≤ l.length ∧ q = .int .i64 k ∧ Hid (EnvR C w (St k) wr))
  case atStart => exact ⟨0, rfl, Nat.zero_le _, rfl, E00.out⟩
  case round =>
    obtain ⟨k, hgg, hk, rfl, EK⟩ := hrel
    obtain ⟨p1, p2, p3, BK, -, -, -, -⟩ := HX.out _ _ EK.out
    by_cases hkl : k < l.length
    · obtain ⟨b2, o2, rfl, h2⟩ := at_of_reads (RF.out.below BK (Nat.le_refl _)) k hkl
      have hs := HST.out k hkl
      have CC := CI.out (at0 l k) _ _ EK.out (HU.out k)
      rw [← hs] at CC
      replace CC := Lib.hid CC
      clear hs BK
      generalize at0 l k = x at *
      go_wp2_with fail
      refine CC.out.mono ?_
      rintro e w4 ⟨⟨z, rfl⟩, E3⟩
      have E3 := Lib.hid E3
      go_wp2
      go_roundg (l.length - (k + 1))
      case rel => exact ⟨k + 1, rfl, by omega, by go_num, E3.out⟩
      case measure => omega
    · obtain rfl : k = l.length := by omega
      have EF := EK.out
      rw [HALL.out] at EF
      obtain ⟨-, -, -, BF, AT, LT, LN, RI⟩ := HX.out _ _ EF
      have FIN : Hid (wr.rowIs (w.heap.size + 1) 4 n (fun j => .bool (atT (reachL RL n l) j)) ∧ Below w.heap.size w wr) := ⟨RI, BF⟩
      clear EF BF AT LT LN BK RI
      go_wp2
      refine wp_loop_rounds 1 ?_
      rw [rounds_succ]
      go_wp2
      go_ret
      exact ⟨_, rfl, by omega, FIN.out.1, FIN.out.2⟩
end Go.Proofs.YtlbcdnobpnllkaaGreat.Dg

namespace Go.Proofs.YtlbcdnobpnllkaaGreat.Dg
open Go.RowKit Go.Deep

theorem cmp_hit {R : Nat → List Int} {n v : Nat} (h : cmpV R n v < v) : mutB R n (cmpV R n v) v = true := by
  unfold cmpV at h ⊢
  cases hf : (List.range v).find? fun u => mutB R n u v with
  | none => rw [hf] at h; exact absurd h (by simp)
  | some x =>
    have hx := List.find?_some hf
    exact hx
set_option maxHeartbeats 4000000 in
set_option maxRecDepth 100000 in
theorem rcomponents_any (gA : Option Addr) (n gc : Nat) (RA : Nat → Option Addr) (RL : Nat → List Int) (RK : Nat → Nat) (w : World) (GR : GraphR w gA n RA RL RK) :
    Calls Tryz.prog 74 #[.slice gA n gc] w (IsPost w.heap.size w (tab n (fun v => (cmpV RL n v : Int)))) := by
  have hn := GR.hn
  have CP := Lib.hid (paths_any gA n gc RA RL RK w GR)
  have MB : Hid (∀ u v, mutB RL n u v = (warN (tabB RL) n u v && warN (tabB RL) n v u)) := fun _ _ => rfl
  have CS : Hid (∀ v, v < n → cmpV RL n v ≤ v ∧ ∀ i, i < cmpV RL n v → mutB RL n i v = false) := fun v hv => ⟨(cmp_spec (R := RL) hv).1, (cmp_spec (R := RL) hv).2.2.2⟩
  have CH := Lib.hid (fun v => cmp_hit (R := RL) (n := n) (v := v))
  clear GR
  unfold IsPost
  generalize mutB RL n = mu at *
  generalize cmpV RL n = cm at *
  generalize warN (tabB RL) n = P at *
  go_enter Tryz.func74, Tryz.ntmps74
  go_wp2_with fail
  refine CP.out.mono ?_
  rintro e w1 ⟨pv, ad, rfl, M1, K1⟩
  have M1 := Lib.hid M1
  have K1 := Lib.hid K1
  have O0 : Hid (OwnI w1 w1.heap.size (.slice none 0 0) (tab 0 (fun v => (cm v : Int)))) := OwnI.nil _ _
  have B0 : Hid (Below w1.heap.size w1 w1) := Below.refl _ _
  clear CP
  go_wp2_with fail
  go_loopw [5, 4] (fun q ov wr => ∃ k : Nat, k ≤ n ∧ q = .int .i64 (k : Nat) ∧ Hid (OwnI wr w1.heap.size ov (tab k (fun v => (cm v : Int)))) ∧ Hid (Below w1.heap.size w1 wr)) (fun q _ _ => n - (intOf q).toNat)
  case atStart => exact ⟨0, by omega, rfl, O0, B0⟩
  case round =>
    clear O0 B0
    obtain ⟨wo, rfl⟩ : ∃ wo, wo = wr := ⟨_, rfl⟩
    obtain ⟨k, hk, rfl, OW, BB⟩ := hrel
    by_cases hlt : k < n
    · obtain ⟨hck, hno⟩ := CS.out k hlt
      have HNO := Lib.hid hno
      have HCH := Lib.hid (CH.out k)
      have hcn : cm k < n := by omega
      have MR := Lib.hid (M1.out.below BB.out)
      clear hno
      go_wp2_with fail
      go_loopw [6] (fun q wr => ∃ u : Nat, u ≤ cm k ∧ q = .int .i64 (u : Nat) ∧ Hid (wo = wr)) (fun q _ => n - (intOf q).toNat)
      case atStart => exact ⟨0, by omega, rfl, rfl⟩
      case round =>
        obtain ⟨u, hu, rfl, HW⟩ := hrel
        have hw := HW.out
        subst hw
        by_cases huk : u < k
        · obtain ⟨g, c, rfl, c1⟩ := MR.out.cell (show u < n by omega)
          obtain ⟨g', c', e', c2⟩ := MR.out.cell hlt
          simp only [Value.slice.injEq, Option.some.injEq, Addr.mk.injEq, and_true, true_and] at e'
          obtain ⟨rfl, rfl⟩ := e'
          have c3 := MR.out.get (show u < n by omega) hlt
          have c4 := MR.out.get hlt (show u < n by omega)
          have hun : u < n := by omega
          by_cases huc : u < cm k
          · have hm := HNO.out u huc
            rw [MB.out] at hm
            clear HNO HCH MB CS CH
            generalize P u k = z1 at *
            generalize P k u = z2 at *
            generalize ad u = au at *
            generalize ad k = ak at *
            cases z1
            · clear hm
              go_wp2
              go_roundw
              case rel => exact ⟨u + 1, by omega, by go_num, by first | exact HW | exact True.intro⟩
              case measure => simp [intOf]; omega
            · have hm : z2 = false := hm
              subst hm
              go_wp2
              go_roundw
              case rel => exact ⟨u + 1, by omega, by go_num, by first | exact HW | exact True.intro⟩
              case measure => simp [intOf]; omega
          · have eu : u = cm k := by omega
            have hm := HCH.out (by omega)
            rw [MB.out, ← eu, Bool.and_eq_true] at hm
            obtain ⟨m1, m2⟩ := hm
            rw [m1] at c3
            rw [m2] at c4
            have O1 : Hid (OwnI (wo.alloc (.cells #[.int .i64 (u : Nat)] 3)) w1.heap.size u4 (tab k (fun v => (cm v : Int)))) := OW.out.alloc _
            have hsz := BB.out.size
            have htl : (tab k (fun v => (cm v : Int))).length = k := tab_len _ _
            have HTS : Hid (tab (k + 1) (fun v => (cm v : Int)) = tab k (fun v => (cm v : Int)) ++ [(u : Int)]) := by show _ = _; rw [tab_snoc, ← eu]
            clear HNO HCH MB CS CH m1 m2 eu huc OW
            generalize tab k (fun v => (cm v : Int)) = TB at *
            go_wp2_with (at_builtin; go_loud (refine wpList_int rfl (.tmp 39) (.tmp 41) rfl w1.heap.size u4 TB (u : Int) rfl O1.out wo.heap.size rfl (cell_new1 _ _ _) (by omega) (by rw [World.size_alloc]; omega) ?_); intro v' w6 ho6 hb6; have O6 : Hid (OwnI w6 w1.heap.size v' (tab (k + 1) (fun v => (cm v : Int)))) := (by show OwnI _ _ _ _; rw [HTS.out]; exact ho6); have B6 := Lib.hid ((BB.out.alloc hsz _).trans hb6); clear ho6 hb6)
            go_roundw
            case rel => exact ⟨k + 1, by omega, by go_num, O6, B6⟩
            case measure => simp [intOf]; omega
        · have eu : u = k := by omega
          have ec : cm k = k := by omega
          have O1 : Hid (OwnI (wo.alloc (.cells #[.int .i64 (u : Nat)] 3)) w1.heap.size u4 (tab k (fun v => (cm v : Int)))) := OW.out.alloc _
          have hsz := BB.out.size
          have htl : (tab k (fun v => (cm v : Int))).length = k := tab_len _ _
          have HTS : Hid (tab (k + 1) (fun v => (cm v : Int)) = tab k (fun v => (cm v : Int)) ++ [(u : Int)]) := by show _ = _; rw [tab_snoc, ec, eu]
          clear HNO HCH MB CS CH eu ec OW
          generalize tab k (fun v => (cm v : Int)) = TB at *
          go_wp2_with (at_builtin; go_loud (refine wpList_int rfl (.tmp 39) (.tmp 41) rfl w1.heap.size u4 TB (u : Int) rfl O1.out wo.heap.size rfl (cell_new1 _ _ _) (by omega) (by rw [World.size_alloc]; omega) ?_); intro v' w6 ho6 hb6; have O6 : Hid (OwnI w6 w1.heap.size v' (tab (k + 1) (fun v => (cm v : Int)))) := (by show OwnI _ _ _ _; rw [HTS.out]; exact ho6); have B6 := Lib.hid ((BB.out.alloc hsz _).trans hb6); clear ho6 hb6)
          go_roundw
          case rel => exact ⟨k + 1, by omega, by go_num, O6, B6⟩
          case measure => simp [intOf]; omega
    · obtain rfl : k = n := by omega
      obtain ⟨A, c, e1, R1⟩ := ReadsV.own OW.out
      subst e1
      have R1 := Lib.hid R1
      have B2 := Lib.hid (K1.out.trans (BB.out.mono K1.out.size))
      clear OW BB MB CS CH
      go_wp2
      go_ret
      exact ⟨_, _, rfl, R1.out, B2.out⟩
theorem lev_step (R : Nat → List Int) (n u v : Nat) : levB R n (u + 1) v = (levB R n u v || (warN (tabB R) n v u && !decide (cmpV R n u = v))) := by
  unfold levB anyN
  rw [List.range_succ, List.any_append, Bool.or_assoc]
  simp
end Go.Proofs.YtlbcdnobpnllkaaGreat.Dg

namespace Go.Proofs.YtlbcdnobpnllkaaGreat.Dg
open Go.RowKit Go.Deep

theorem GrowT.keepOn {w w' : World} {T B N : Nat} {st te : TypeId} {sz : Nat} {ln : Nat → Nat} {X : Nat → List Value} {vs : Nat → Value} (h : GrowT w T B N st te sz ln X vs) (hs : w.heap.size ≤ w'.heap.size) (hk : ∀ k, T ≤ k → k < w.heap.size → w'.heap[k]? = w.heap[k]?) : GrowT w' T B N st te sz ln X vs := by
  obtain ⟨h1, h2, h3, h4, h5⟩ := h
  refine ⟨h1, Nat.le_trans h2 hs, h3.of_block (hk _ (Nat.le_refl _) h3.lt), fun e he => own_block (h4 e he) fun g hg => ?_, h5⟩
  rcases own_ge (h4 e he) with e0 | ⟨g', e1, h6, h7⟩
  · rw [e0] at hg; cases hg
  · rw [e1] at hg
    injection hg with hg
    subst hg
    exact hk _ (by omega) h7
theorem GrowT.rows {w : World} {T B N : Nat} {L : Nat → List Int} {vs : Nat → Value} (h : GrowT w T B N 34 3 1 (fun e => (L e).length) (fun e => vI (L e)) vs) {e : Nat} (he : e < N) : ∃ A c, w.cell? ⟨T, e, none⟩ = some (.slice A (L e).length c) ∧ ReadsV w A (L e) := by
  obtain ⟨A, c, e1, h1⟩ := ReadsV.own (h.2.2.2.1 e he)
  have h2 := h.2.2.1.cell he
  rw [e1] at h2
  exact ⟨A, c, h2, h1⟩
theorem GrowT.rowOf {w : World} {T B N : Nat} {L : Nat → List Int} {vs : Nat → Value} (h : GrowT w T B N 34 3 1 (fun e => (L e).length) (fun e => vI (L e)) vs) {e : Nat} (he : e < N) {A : Option Addr} {m c : Nat} (hv : vs e = .slice A m c) : w.cell? ⟨T, e, none⟩ = some (.slice A (L e).length c) ∧ ReadsV w A (L e) := by
  obtain ⟨A', c', e1, h1⟩ := ReadsV.own (h.2.2.2.1 e he)
  have h2 := h.2.2.1.cell he
  rw [hv] at e1
  injection e1 with x1 x2 x3
  subst x1 x3
  rw [hv, x2] at h2
  exact ⟨h2, h1⟩
/-- what the loop has made so far -/
structure InvC (w0 : World) (g n : Nat) (A : Nat → Bool) (Ls : Nat → Int) (W : World) : Prop where
  kp : KeepOn (fun k => k < w0.heap.size ∧ k ≠ g ∧ k ≠ g + 2) w0 W
  lr : W.rowIs g 3 n (fun j => .int .i64 (Ls j))
  ar : RowB W (g + 2) n A
theorem InvC.keep {w0 A B : World} {g n hi : Nat} {S : Nat → Bool} {Ls : Nat → Int} (h : InvC w0 g n S Ls A) (hg : g + 2 < w0.heap.size) (k : KeepOn (fun k => k < w0.heap.size ∨ hi ≤ k) A B) : InvC w0 g n S Ls B :=
  ⟨h.kp.trans (k.mono fun i _ hi => .inl hi.1), h.lr.of_block (k.block _ h.lr.lt (.inl (by omega))), h.ar.of_block (k.block _ (World.rowIs.lt h.ar) (.inl (by omega)))⟩
/-- a round's memory: the members -/
structure BodC (W : World) (g n : Nat) (S : Nat → Bool) (Ls : Nat → Int) (q : List Nat) (mv : Value) (wr : World) : Prop where
  kb : KeepOn (fun k => k < W.heap.size ∧ k ≠ g ∧ k ≠ g + 2) W wr
  lr : wr.rowIs g 3 n (fun j => .int .i64 (Ls j))
  ar : RowB wr (g + 2) n S
  mo : wr.ownsRow W.heap.size 3 1 mv (zN q).length (vI (zN q))
section
variable {W wr w' : World} {g n : Nat} {S : Nat → Bool} {Ls : Nat → Int} {q : List Nat} {mv : Value}
theorem BodC.drew (h : BodC W g n S Ls q mv wr) : BodC W g n S Ls q mv wr.drew := ⟨h.kb.trans (KeepOn.drew _), h.lr, h.ar, h.mo⟩
theorem BodC.mark (h : BodC W g n S Ls q mv wr) (hg : g + 2 < W.heap.size) (v : Nat) : BodC W g n (fun x => if x = v then true else S x) Ls q mv (wr.setCell ⟨g + 2, v, none⟩ (.bool true)) :=
  ⟨h.kb.trans (KeepOn.set _ _ _ (by rintro ⟨_, _, h⟩; exact h rfl)), h.lr.setOther (by show g ≠ g + 2; omega) _, h.ar.set v true, own_other h.mo hg⟩
theorem BodC.put (h : BodC W g n S Ls q mv wr) (hg : g + 2 < W.heap.size) (v : Nat) (m : Int) : BodC W g n S (fun x => if x = v then m else Ls x) q mv (wr.setCell ⟨g, v, none⟩ (.int .i64 m)) :=
  ⟨h.kb.trans (KeepOn.set _ _ _ (by rintro ⟨_, h, _⟩; exact h rfl)), (h.lr.set v (.int .i64 m)).congr fun j _ => by by_cases c : j = v <;> simp [c], h.ar.of_block (blk_setCell_other _ _ _ _ (by show g + 2 ≠ g; omega)), own_other h.mo (by omega)⟩
theorem BodC.push (h : BodC W g n S Ls q mv wr) (hg : g + 2 < W.heap.size) {mv' : Value} {v : Nat} {ob : Obj} (ho : w'.ownsRow W.heap.size 3 1 mv' ((zN q).length + 1) (vI (zN q) ++ [.int .i64 (v : Nat)])) (hgr : (wr.alloc ob).grownBy w' mv.ownBlock) : BodC W g n S Ls (q ++ [v]) mv' w' := by
  have hge : ∀ k, mv.ownBlock = some k → W.heap.size ≤ k := fun k hk => (h.mo.lt k hk).1
  have hsz : W.heap.size ≤ wr.heap.size := h.kb.size
  have keep : ∀ k, k < W.heap.size → w'.heap[k]? = wr.heap[k]? := fun k hk => by
    have h1 := hgr.block k (by rw [World.size_alloc]; omega) fun c => by have := hge k c.symm; omega
    rw [h1]
    exact blk_alloc_lt _ _ _ (by omega)
  refine ⟨h.kb.trans ⟨hgr.os, hgr.tape, hgr.output, by have := hgr.size; rw [World.size_alloc] at this; omega, fun k _ hk => keep k hk.1⟩, h.lr.of_block (keep _ (by omega)), h.ar.of_block (keep _ (by omega)), ?_⟩
  rw [zN_snoc, vI_snoc, List.length_append, List.length_singleton]
  exact ho
theorem BodC.inv {w0 : World} {S0 : Nat → Bool} {L0 : Nat → Int} (h : BodC W g n S Ls q mv wr) (hi : InvC w0 g n S0 L0 W) : InvC w0 g n S Ls wr :=
  ⟨hi.kp.trans (h.kb.mono fun k hk c => ⟨hk, c.2⟩), h.lr, h.ar⟩
end
theorem BodC.congr {W wr : World} {g n : Nat} {S S' : Nat → Bool} {Ls Ls' : Nat → Int} {q : List Nat} {mv : Value} (h : BodC W g n S Ls q mv wr) (e : ∀ y, y < n → S y = S' y) (e2 : ∀ y, y < n → Ls y = Ls' y) : BodC W g n S' Ls' q mv wr :=
  ⟨h.kb, h.lr.congr fun j hj => by rw [e2 j hj], h.ar.congr e, h.mo⟩
theorem BodC.start {w0 W : World} {g n : Nat} {S : Nat → Bool} {Ls : Nat → Int} (IC : InvC w0 g n S Ls W) (hg : g + 2 < W.heap.size) (r : Nat) : BodC W g n (fun y => S y || decide (y ∈ [r])) Ls [r] (.slice (some ⟨W.heap.size, 0, none⟩) 1 1) ((W.setCell ⟨g + 2, r, none⟩ (.bool true)).alloc (.cells #[.int .i64 (r : Nat)] 3)) := by
  have hs : (W.setCell ⟨g + 2, r, none⟩ (.bool true)).heap.size = W.heap.size := nblk_setCell _ _ _
  refine ⟨(KeepOn.set _ _ _ (by rintro ⟨_, _, h⟩; exact h rfl)).trans (KeepOn.alloc _ _), (IC.lr.setOther (by show g ≠ g + 2; omega) _).alloc _, ?_, ?_⟩
  · refine World.rowIs.alloc (World.rowIs.congr (IC.ar.set r true) fun j _ => ?_) _
    dsimp only
    by_cases c : j = r <;> simp [c]
  · have h := World.ownsRow_lit (W.setCell ⟨g + 2, r, none⟩ (.bool true)) (e := 3) (size := 1) (base := W.heap.size) #[.int .i64 (r : Nat)] 1 (by rw [hs]; exact Nat.le_refl _) (by unfold maxLen; omega) rfl
    rw [hs] at h
    exact h
theorem backward_any (A : Option Addr) (m c : Nat) (w : World) : Calls Tryz.prog 89 #[.slice A m c] w fun e w' => e = .returned (.func (.func 118) #[] #[.pointer (some ⟨w.heap.size, 0, none⟩)]) ∧ w' = w.alloc (.cells #[.slice A m c] 34) := by
  go_enter Tryz.func89, Tryz.ntmps89
  go_wp2
  go_ret
  exact ⟨rfl, rfl⟩
theorem wpIn_cut {F : Fence} {n : Nat} {P : Program} {c : Code} {Q : Exit → Act → World → Prop} {a : Act} {w : World} (a9 : Act) (w9 : World) (h : c.wpIn F n P (fun e a' w' => e = .normal ∧ a' = a9 ∧ w' = w9) a w) (k : Q .normal a9 w9) : c.wpIn F n P Q a w :=
  wpIn_mono h fun e a' w' h => by
    obtain ⟨rfl, rfl, rfl⟩ := h
    exact k
theorem wpListIn_intg {F : Fence} {n : Nat} {ops : Array Oper} {rest : List Oper} {o : Oper} {a : Act} {w : World} {Q : Exit → Act → World → Prop} (hgd : o.guard = none) (s x : Operand)
    (ho : o.op = .call { callee := .builtin .append, args := #[s, x], argTypes := #[34, 34] })
    (base : Nat) (v : Value) (l : List Int) (d : Int) (hs : a.eval s = v) (hO : w.ownsRow base 3 1 v l.length (vI l)) (g : Nat) (hx : a.eval x = .slice (some ⟨g, 0, none⟩) 1 1)
    (h0 : w.cell? ⟨g, 0, none⟩ = some (.int .i64 d)) (hl : l.length ≤ 100000) (hbase : base ≤ w.heap.size)
    (h : ∀ v' w', w'.ownsRow base 3 1 v' (l.length + 1) (vI l ++ [.int .i64 d]) → w.grownBy w' v.ownBlock → wpListIn F n Tryz.prog ops Q rest (a.put o.dst v') w') : wpListIn F n Tryz.prog ops Q (o :: rest) a w := by
  obtain ⟨i, hi, hz, h1, h2⟩ := info_parts infoI
  refine wpListIn_append_own _ hgd s x 34 ho base 3 i (.int .i64 0) 1 8 Tryz.underlying34 hi hz h1 h2 rfl (by decide) v l.length (vI l) hs hO ⟨g, 0, none⟩ 1 1 [.int .i64 d] hx rfl ?_ ?_ (by unfold maxLen; omega) (by omega) hbase ?_
  · intro j u hj
    match j, hj with
    | 0, hj => simp at hj; subst hj; simpa [Addr.add] using h0
    | j + 1, hj => simp at hj
  · intro u hu
    simp at hu
    subst hu
    rfl
  · intro v' w' h1 h2 _
    exact h v' w' h1 h2
end Go.Proofs.YtlbcdnobpnllkaaGreat.Dg

namespace Go.Proofs.YtlbcdnobpnllkaaGreat.Dg
open Go.RowKit Go.Deep
attribute [local go_sem] Oper.semAt_some

theorem min_take (zs : List Int) : ∀ k, 0 < k → k ≤ zs.length → (∃ j, j < k ∧ Lib.minOf (zs.take k) = zs.getD j 0) ∧ ∀ j, j < k → Lib.minOf (zs.take k) ≤ zs.getD j 0
  | 0, h, _ => absurd h (by omega)
  | k + 1, _, h => by
    by_cases c : k = 0
    · subst c
      rw [Lib.minOf_one]
      refine ⟨⟨0, by omega, rfl⟩, fun j hj => ?_⟩
      have e : j = 0 := by omega
      rw [e]
      exact Int.le_refl _
    · obtain ⟨⟨j, hj, e⟩, h2⟩ := min_take zs k (by omega) (by omega)
      rw [Lib.minOf_step zs k (by omega) (by omega)]
      refine ⟨?_, fun i hi => ?_⟩
      · rcases Int.le_total (Lib.minOf (zs.take k)) (zs.getD k 0) with h3 | h3
        · exact ⟨j, by omega, by rw [Int.min_eq_left h3]; exact e⟩
        · exact ⟨k, by omega, by rw [Int.min_eq_right h3]⟩
      · by_cases c2 : i = k
        · subst c2; exact Int.min_le_right _ _
        · exact Int.le_trans (Int.min_le_left _ _) (h2 i (by omega))
theorem zN_getD {q : List Nat} {j : Nat} (h : j < q.length) : (zN q).getD j 0 = (q[j] : Int) := by
  unfold zN
  rw [List.getD_eq_getElem?_getD, List.getElem?_map, List.getElem?_eq_getElem h]
  rfl
theorem min_q {q : List Nat} (h : 0 < q.length) : ∃ m, m ∈ q ∧ Lib.minOf ((zN q).take q.length) = (m : Int) ∧ ∀ x, x ∈ q → m ≤ x := by
  obtain ⟨⟨j, hj, e⟩, h2⟩ := min_take (zN q) q.length h (by rw [zN_len]; exact Nat.le_refl _)
  rw [zN_getD hj] at e
  refine ⟨q[j], List.getElem_mem hj, e, fun x hx => ?_⟩
  obtain ⟨i, hi, rfl⟩ := List.mem_iff_getElem.1 hx
  have h3 := h2 i hi
  rw [zN_getD hi, e] at h3
  omega
theorem ro_at {o : List Nat} {i : Nat} (h : i < o.length) : at0 (zN o) i = ((o[i]?.getD 0 : Nat) : Int) := by rw [zN_at h, List.getElem?_eq_getElem h]; rfl
set_option maxHeartbeats 16000000 in
set_option maxRecDepth 100000 in
theorem components_any (gA : Option Addr) (n gc : Nat) (RA : Nat → Option Addr) (RL : Nat → List Int) (RK : Nat → Nat) (w : World) (GR : GraphR w gA n RA RL RK) :
    Calls Tryz.prog 48 #[.slice gA n gc] w fun e w' => e = .returned (.slice (some ⟨w.heap.size, 0, none⟩) n n) ∧ w'.rowIs w.heap.size 3 n (fun j => .int .i64 ((cmpV RL n j : Nat) : Int)) ∧ Below w.heap.size w w' := by
  have hn := GR.hn
  have hmkb := run_make_bools n (by omega)
  have hmki := run_make_ints n (by omega)
  have CR : Hid (∀ W, Below w.heap.size w W → Calls Tryz.prog 86 #[.slice gA n gc] W fun e w' => ∃ vs, e = .returned (.slice (some ⟨W.heap.size, 0, none⟩) n n) ∧ GrowT w' W.heap.size (W.heap.size + 1) n 34 3 1 (fun e => (revV RL n e).length) (fun e => vI (revV RL n e)) vs ∧ Below W.heap.size W w') := fun W hW => reverse_any gA n gc RA RL RK W (GR.below hW)
  have CF : Hid (∀ W, Below w.heap.size w W → Calls Tryz.prog 90 #[.slice gA n gc] W fun e w' => ∃ A c o, e = .returned (.slice A (zN o).length c) ∧ ReadsV w' A (zN o) ∧ (∀ b off, A = some ⟨b, off, none⟩ → W.heap.size ≤ b) ∧ FinO RL n o ∧ Below W.heap.size W w') := fun W hW => finished_any gA n gc RA RL RK W (GR.below hW)
  have CB := Lib.hid backward_any
  clear GR
  obtain ⟨w1, hw1⟩ : ∃ w1, w1 = (((w.alloc (.cells (madeCells #[.int .i64 0] n) 3)).alloc (.cells #[.slice (some ⟨w.heap.size, 0, none⟩) n n] 34)).alloc (.cells (madeCells #[.bool false] n) 4)).alloc (.cells #[.slice (some ⟨w.heap.size + 1 + 1, 0, none⟩) n n] 54) := ⟨_, rfl⟩
  have z1 : (w.alloc (.cells (madeCells #[.int .i64 0] n) 3)).heap.size = w.heap.size + 1 := World.size_alloc _ _
  have z2 : ((w.alloc (.cells (madeCells #[.int .i64 0] n) 3)).alloc (.cells #[.slice (some ⟨w.heap.size, 0, none⟩) n n] 34)).heap.size = w.heap.size + 2 := by rw [World.size_alloc, z1]
  have z3 : (((w.alloc (.cells (madeCells #[.int .i64 0] n) 3)).alloc (.cells #[.slice (some ⟨w.heap.size, 0, none⟩) n n] 34)).alloc (.cells (madeCells #[.bool false] n) 4)).heap.size = w.heap.size + 3 := by rw [World.size_alloc, z2]
  have z4 : w1.heap.size = w.heap.size + 4 := by rw [hw1, World.size_alloc, z3]
  have a0 : w1.rowIs w.heap.size 3 n (fun j => .int .i64 0) := by rw [hw1]; exact (((World.rowIs_made w _ _ _).alloc _).alloc _).alloc _
  have a1 : w1.cell? ⟨w.heap.size + 1, 0, none⟩ = some (.slice (some ⟨w.heap.size, 0, none⟩) n n) := by
    rw [hw1]
    refine cellA (cellA ?_ _) _
    rw [← z1]
    exact cell_new1 _ _ _
  have a2 : RowB w1 (w.heap.size + 2) n (fun _ => false) := by
    rw [hw1]
    have h := RowB.made ((w.alloc (.cells (madeCells #[.int .i64 0] n) 3)).alloc (.cells #[.slice (some ⟨w.heap.size, 0, none⟩) n n] 34)) n
    rw [z2] at h
    exact World.rowIs.alloc h _
  have a3 : w1.cell? ⟨w.heap.size + 3, 0, none⟩ = some (.slice (some ⟨w.heap.size + 2, 0, none⟩) n n) := by
    rw [hw1, ← z3]
    exact cell_new1 _ _ _
  have B1 : Hid (Below w.heap.size w w1) := by rw [hw1]; exact ((((Below.refl _ _).alloc (Nat.le_refl _) _).alloc (by rw [z1]; omega) _).alloc (by rw [z2]; omega) _).alloc (by rw [z3]; omega) _
  have HW1 := Lib.hid hw1
  have A0 := Lib.hid a0
  have A2 := Lib.hid a2
  clear hw1 z1 z2 z3 a0 a2
  refine (callsIn_wide (n := 6)).1 (callsIn_of_wp_marks Tryz.func48 rfl trivial ?_ rfl)
  simp only [Tryz.ntmps48, List.size_toArray, List.length_cons, List.length_nil, Nat.reduceAdd, Nat.reduceSub, Array.replicate_succ, Array.replicate_zero, List.push_toArray, List.append_toArray, List.nil_append, List.cons_append]
  refine wpIn_wide.2 ?_
  go_wp2_with fail
  rw [← HW1.out]
  refine (CR.out _ B1.out).mono ?_
  rintro e w2 ⟨vs, rfl, GT, K2⟩
  have B2 := Lib.hid (B1.out.trans (K2.mono B1.out.size))
  have a1 := keepc a1 K2
  have a3 := keepc a3 K2
  have A0 := Lib.hid (A0.out.of_block (K2.block _ A0.out.lt))
  have A2 := Lib.hid (A2.out.of_block (K2.block _ (World.rowIs.lt A2.out)))
  have GT := Lib.hid GT
  have hz2 : w.heap.size + 4 < w2.heap.size := by have := GT.out.2.1; omega
  rw [z4] at GT
  rw [z4]
  clear CR K2 HW1 B1 z4
  obtain ⟨w3, hw3⟩ : ∃ w3, w3 = w2.alloc (.cells #[.slice (some ⟨w.heap.size + 4, 0, none⟩) n n] 30) := ⟨_, rfl⟩
  have K3 : Below w2.heap.size w2 w3 := by rw [hw3]; exact (Below.refl _ _).alloc (Nat.le_refl _) _
  have a4 : w3.cell? ⟨w2.heap.size, 0, none⟩ = some (.slice (some ⟨w.heap.size + 4, 0, none⟩) n n) := by rw [hw3]; exact cell_new1 _ _ _
  have a1 := keepc a1 K3
  have a3 := keepc a3 K3
  have A0 := Lib.hid (A0.out.of_block (K3.block _ A0.out.lt))
  have A2 := Lib.hid (A2.out.of_block (K3.block _ (World.rowIs.lt A2.out)))
  have GT := Lib.hid (GT.out.below K3)
  have B3 := Lib.hid (B2.out.trans (K3.mono B2.out.size))
  have HW3 := Lib.hid hw3
  clear hw3 K3 B2
  go_wp2_with fail
  rw [← HW3.out]
  refine (CF.out _ B3.out).mono ?_
  rintro e w4 ⟨oA, oc, o, rfl, RO, HA, F, K4⟩
  have hz3 : w3.heap.size = w2.heap.size + 1 := by rw [HW3.out, World.size_alloc]
  rw [hz3] at HA
  have HA := Lib.hid HA
  clear hz3
  have F := Lib.hid F
  have a1 := keepc a1 K4
  have a3 := keepc a3 K4
  have a4 := keepc a4 K4
  have A0 := Lib.hid (A0.out.of_block (K4.block _ A0.out.lt))
  have A2 := Lib.hid (A2.out.of_block (K4.block _ (World.rowIs.lt A2.out)))
  have GT := Lib.hid (GT.out.below K4)
  have B4 := Lib.hid (B3.out.trans (K4.mono B3.out.size))
  have hz4 : w2.heap.size < w4.heap.size := World.block_lt_of_cell? w4 ⟨w2.heap.size, 0, none⟩ a4
  clear K4 B3 HW3 CF
  go_wp2_with fail
  refine (CB.out _ _ _ _).mono ?_
  rintro e w5x ⟨rfl, rfl⟩
  obtain ⟨w5, hw5⟩ : ∃ w5, w5 = w4.alloc (.cells #[.slice oA (zN o).length oc] 34) := ⟨_, rfl⟩
  have K5 : Below w4.heap.size w4 w5 := by rw [hw5]; exact (Below.refl _ _).alloc (Nat.le_refl _) _
  have a5 : w5.cell? ⟨w4.heap.size, 0, none⟩ = some (.slice oA (zN o).length oc) := by rw [hw5]; exact cell_new1 _ _ _
  have a1 := keepc a1 K5
  have a3 := keepc a3 K5
  have a4 := keepc a4 K5
  have A0 := Lib.hid (A0.out.of_block (K5.block _ A0.out.lt))
  have A2 := Lib.hid (A2.out.of_block (K5.block _ (World.rowIs.lt A2.out)))
  have GT := Lib.hid (GT.out.below K5)
  have B5 := Lib.hid (B4.out.trans (K5.mono B4.out.size))
  have RO5 := RO.below K5 (Nat.le_refl _)
  have hz5 : w5.heap.size = w4.heap.size + 1 := by rw [hw5, World.size_alloc]
  rw [← hw5]
  clear hw5 K5 B4 CB RO
  go_wp2_with fail
  have hol : o.length ≤ n := nodup_le F.out.nd F.out.lt
  have HG : Hid (w.heap.size + 2 < w5.heap.size) := by show _ < _; omega
  have hPv : ∀ k, PvB w4.heap.size (zN o).length oA k → k < w5.heap.size ∧ k ≠ w.heap.size ∧ k ≠ w.heap.size + 2 := fun k hk => by
    rcases hk with rfl | ⟨h0, off, e⟩
    · omega
    · obtain ⟨b, off', e', h1, _⟩ := RO5 0 h0
      rw [e] at e'
      injection e' with e'
      injection e' with e1 e2
      subst e1
      have := HA.out k off e
      omega
  have HPV := Lib.hid hPv
  have SC : Hid (∀ W', KeepOn (fun k => k < w5.heap.size ∧ k ≠ w.heap.size ∧ k ≠ w.heap.size + 2) w5 W' → W'.cell? ⟨w.heap.size + 1, 0, none⟩ = some (.slice (some ⟨w.heap.size, 0, none⟩) n n) ∧ W'.cell? ⟨w.heap.size + 3, 0, none⟩ = some (.slice (some ⟨w.heap.size + 2, 0, none⟩) n n) ∧ W'.cell? ⟨w2.heap.size, 0, none⟩ = some (.slice (some ⟨w.heap.size + 4, 0, none⟩) n n)) := fun W' k =>
    ⟨k.cell a1 (by omega), k.cell a3 (by omega), k.cell a4 (by omega)⟩
  have SR : Hid (∀ e, e < n → ∃ A c, ∀ W', KeepOn (fun k => k < w5.heap.size ∧ k ≠ w.heap.size ∧ k ≠ w.heap.size + 2) w5 W' → W'.cell? ⟨w.heap.size + 4, e, none⟩ = some (.slice A (revV RL n e).length c) ∧ ReadsV W' A (revV RL n e)) := fun e he => by
    obtain ⟨A, c, e1, _⟩ := ReadsV.own (GT.out.2.2.2.1 e he)
    exact ⟨A, c, fun W' k => (GT.out.keepOn k.size fun j hj hj2 => k.block j hj2 (by omega)).rowOf he e1⟩
  refine (wpIn_wide (n := 6)).1 ?_
  refine rangeFunc_scr (gf := 118) (lb := #[.pointer (some ⟨w4.heap.size, 0, none⟩)]) rfl (enters_of Tryz.func118 (by kernel_rfl) rfl)
    (backward_seq (6 - 1) (by decide) w5 w4.heap.size oA oc (zN o) a5 RO5 (by rw [zN_len]; omega)) (fun k h => (HPV.out k h).1) (fun _ => rfl) (fun _ _ _ _ h _ => h)
    (fun hi pre W => ∃ S Ls, InvC w5 w.heap.size n S Ls W ∧ CmpI RL n o (o.length - pre.length) S Ls) (fun _ _ _ => False)
    (fun hi s A B hlo h k => by
      obtain ⟨S, Ls, h1, h2⟩ := h
      exact ⟨S, Ls, h1.keep HG.out k, h2⟩) (fun _ _ _ _ h _ => h)
    (fun hi W1 h1 h2 k => ⟨fun _ => false, fun _ => 0, ⟨KeepOn.of_belowN k fun j hj => hj.1, A0.out.of_block (k.block _ A0.out.lt), A2.out.of_block (k.block _ (World.rowIs.lt A2.out))⟩, cmp_start RL n o _⟩) ?a1 ?assign ?body ?done ?stop
  case assign =>
    intro l x W K hK
    gi_wp2
    exact hK
  case stop =>
    intro D c pre W _ _ h _
    exact h.elim
  case done =>
    rintro D hi W hD h1 h2 ⟨S, Ls, IC, CI⟩ hK
    have hlen : (List.range (zN o).length).reverse.length = o.length := by rw [List.length_reverse, List.length_range, zN_len]
    rw [hlen, Nat.sub_self] at CI
    have FIN : Hid (W.rowIs w.heap.size 3 n (fun j => .int .i64 ((cmpV RL n j : Nat) : Int))) := IC.lr.congr fun j hj => by rw [cmp_end F.out CI hj]
    obtain ⟨q0, -, -⟩ := SC.out W IC.kp
    have BW : Hid (Below w.heap.size w W) := B5.out.trans (IC.kp.below B5.out.size fun k hk => by omega)
    clear IC CI a1 a3 a4 a5 SC SR GT hPv hlen
    go_wp2
    refine ⟨by simp, .inl ⟨_, _, rfl, run_takeDeferred hK, ?_⟩⟩
    exact ⟨_, results_tmp rfl _ _ _, rfl, FIN.out.of_block (World.putObj_heap_other (by omega)), BW.out.trans (belowK_b (w := w) (Nat.le_refl _) W D _ _ (by have := B5.out.size; omega) hK rfl rfl)⟩
  case body =>
    rintro l hi pre x W h1 h2 h3 ⟨S, Ls, IC, CI⟩ -
    obtain ⟨hxm, hpl⟩ := pre_next h3
    rw [zN_len] at hxm hpl
    have e0 : o.length - pre.length = x + 1 := by omega
    rw [e0] at CI
    obtain ⟨r, hr⟩ : ∃ r, r = o[x] := ⟨_, rfl⟩
    have e1 : at0 (zN o) x = (r : Int) := by rw [hr]; exact zN_at hxm
    have hrn : r < n := by rw [hr]; exact F.out.lt _ (List.getElem_mem hxm)
    obtain ⟨q0, q1, -⟩ := SC.out W IC.kp
    have q2 := IC.ar.get hrn
    have q3 : W.frozen? ⟨w.heap.size + 2, r, none⟩ = false := World.rowIs.frozen IC.ar r
    have hgW : w.heap.size + 2 < W.heap.size := by have := HG.out; omega
    have e3 : o.length - (pre ++ [x]).length = x := by rw [List.length_append, List.length_singleton]; omega
    clear a1 a3 a4 a5 h3 GT
    rw [e1]
    cases hS : S r
    · rw [hS] at q2
      have BC := BodC.start IC hgW r
      have MM := mem_start (R := RL) (A0 := S) hrn hS
      obtain ⟨wz, hwz⟩ : ∃ wz, wz = (W.setCell ⟨w.heap.size + 2, r, none⟩ (.bool true)).alloc (.cells #[.int .i64 (r : Nat)] 3) := ⟨_, rfl⟩
      rw [← hwz] at BC
      have HWZ : Hid ((W.setCell ⟨w.heap.size + 1 + 1, r, none⟩ (.bool true)).alloc (.cells #[.int .i64 (r : Nat)] 3) = wz) := hwz.symm
      have BC := Lib.hid BC
      have MM := Lib.hid MM
      have SC2 : Hid (∀ wr S' L' q mv, BodC W w.heap.size n S' L' q mv wr → KeepOn (fun k => k < w5.heap.size ∧ k ≠ w.heap.size ∧ k ≠ w.heap.size + 2) w5 wr) := fun wr S' L' q mv h => (h.inv IC).kp
      have IC := Lib.hid IC
      have CI := Lib.hid CI
      have HGW := Lib.hid hgW
      have HR := Lib.hid hr
      have HXM := Lib.hid hxm
      have E3 := Lib.hid e3
      have E1 := Lib.hid e1
      clear hwz hS e0 e3 hpl hr hgW e1
      gi_wp2_with fail
      rw [HWZ.out]
      gi_loopw [9, 8] (fun ii mv wr => ∃ (i : Nat) (q : List Nat), ii = .int .i64 (i : Nat) ∧ Hid (BodC W w.heap.size n (fun y => S y || decide (y ∈ q)) Ls q mv wr) ∧ Hid (MemI RL n S r i 0 q)) (fun ii _ _ => n - (intOf ii).toNat)
      case atStart => exact ⟨0, [r], rfl, BC, MM⟩
      case round =>
        clear BC MM HWZ q0 q1 q2 q3
        obtain ⟨wo, rfl⟩ : ∃ wo, wo = wr := ⟨_, rfl⟩
        obtain ⟨i, q, rfl, BC, MM⟩ := hrel
        have hql : q.length ≤ n := nodup_le MM.out.nd MM.out.lt
        have hq0 : 0 < q.length := List.length_pos_iff.2 (List.ne_nil_of_mem MM.out.root)
        obtain ⟨mb, mc, hmv, hcell⟩ : ∃ b c, u8 = .slice (some ⟨b, 0, none⟩) q.length c ∧ ∀ j, j < q.length → wo.cell? ⟨b, j, none⟩ = some (.int .i64 ((q[j]?.getD 0 : Nat) : Int)) := by
          have ho := BC.out.mo
          rw [zN_len] at ho
          rcases ho.2 with ⟨_, h0⟩ | ⟨b, cap, cur, h1, _⟩
          · omega
          · refine ⟨b, cap, h1, fun j hj => ?_⟩
            rw [h1] at ho
            rw [ho.cellAt j (by omega)]
            unfold vI zN
            rw [List.getElem?_map, List.getElem?_map, List.getElem?_eq_getElem hj]
            rfl
        subst hmv
        have HC := Lib.hid hcell
        clear hcell
        by_cases hlt : i < q.length
        · obtain ⟨c, hc⟩ : ∃ c, q[i] = c := ⟨_, rfl⟩
          have hcn : c < n := by rw [← hc]; exact MM.out.lt _ (List.getElem_mem hlt)
          have c0 := HC.out i hlt
          rw [List.getElem?_eq_getElem hlt, hc] at c0
          simp only [Option.getD_some] at c0
          obtain ⟨rA, rc, hrow⟩ := SR.out c hcn
          have HROW := Lib.hid hrow
          obtain ⟨c1, -⟩ := hrow _ (SC2.out _ _ _ _ _ BC.out)
          obtain ⟨-, -, c2⟩ := SC.out _ (SC2.out _ _ _ _ _ BC.out)
          have BD := Lib.hid BC.out.drew
          have HCI : Hid (∃ h : i < q.length, q[i] = c) := ⟨hlt, hc⟩
          clear hc hrow
          gi_wp2_with fail
          apply wpIn_cut (w9 := wo.drew)
          case h =>
            gi_region
            all_goals exact ⟨rfl, rfl, rfl⟩
          generalize wo.drew = wd at *
          have MM0 := MM
          gi_wp2_with fail
          gi_loopw [51, 8] (fun kk mv wr => ∃ (k : Nat) (q : List Nat), kk = .int .i64 (k : Nat) ∧ k ≤ (revV RL n c).length ∧ Hid (BodC W w.heap.size n (fun y => S y || decide (y ∈ q)) Ls q mv wr) ∧ Hid (MemI RL n S r i k q) ∧ Hid (∃ h : i < q.length, q[i] = c)) (fun kk _ _ => (revV RL n c).length - (intOf kk).toNat)
          case atStart => exact ⟨0, q, rfl, by omega, BD, MM, HCI⟩
          case round =>
            clear BD MM MM0 HCI BC c0 c1 c2 HC
            obtain ⟨wp, rfl⟩ : ∃ wp, wp = wr := ⟨_, rfl⟩
            obtain ⟨k, q, rfl, hk, BC, MM, HCI⟩ := hrel
            by_cases hkl : k < (revV RL n c).length
            · have HKL := Lib.hid hkl
              have hrl : (revV RL n c).length ≤ n := pickI_len _ _
              obtain ⟨-, RD⟩ := HROW.out _ (SC2.out _ _ _ _ _ BC.out)
              obtain ⟨b2, off2, e2, _, c4⟩ := RD k hkl
              rw [e2]
              obtain ⟨e, he, hen, het⟩ := pick_at (f := fun u => (RL u).contains (c : Int)) (n := n) hkl
              have he : at0 (revV RL n c) k = (e : Int) := he
              rw [he] at c4
              obtain ⟨hiq, hqc⟩ := HCI.out
              have hE : EdgeR RL n e q[i] := by
                rw [hqc]
                exact ⟨hen, hcn, by simpa using het⟩
              obtain ⟨-, c3, -⟩ := SC.out _ (SC2.out _ _ _ _ _ BC.out)
              have c5 := BC.out.ar.get hen
              have c6 : wp.frozen? ⟨w.heap.size + 2, e, none⟩ = false := World.rowIs.frozen BC.out.ar e
              have hqn : q.length ≤ n := nodup_le MM.out.nd MM.out.lt
              have AT : Hid (at0 (revV RL n q[i]) k = (e : Int)) := by show _ = _; rw [hqc]; exact he
              clear RD e2 he het
              cases hs : (S e || decide (e ∈ q))
              · rw [hs] at c5
                rw [Bool.or_eq_false_iff, decide_eq_false_iff_not] at hs
                have M2 : Hid (MemI RL n S r i (k + 1) (q ++ [e])) := mem_new MM.out hiq hen AT.out hs.1 hs.2 hE
                have HCI2 : Hid (∃ h : i < (q ++ [e]).length, (q ++ [e])[i] = c) := ⟨by simp; omega, by rw [List.getElem_append_left hiq]; exact hqc⟩
                have BM := BC.out.mark HGW.out e
                obtain ⟨wq, hwq⟩ : ∃ wq, wq = wp.setCell ⟨w.heap.size + 2, e, none⟩ (.bool true) := ⟨_, rfl⟩
                rw [← hwq] at BM
                have hqs : wq.heap.size = wp.heap.size := by rw [hwq, nblk_setCell]
                have HWQ : Hid (wp.setCell ⟨w.heap.size + 1 + 1, e, none⟩ (.bool true) = wq) := hwq.symm
                have g0 : (wq.alloc (.cells #[.int .i64 (e : Nat)] 3)).cell? ⟨wp.heap.size, 0, none⟩ = some (.int .i64 (e : Nat)) := by rw [← hqs]; exact cell_new1 _ _ _
                have HO := Lib.hid (BM.mo.alloc (.cells #[.int .i64 (e : Nat)] 3))
                have hlq : (zN q).length ≤ 100000 := by rw [zN_len]; omega
                have hbs : W.heap.size ≤ (wq.alloc (.cells #[.int .i64 (e : Nat)] 3)).heap.size := by rw [World.size_alloc]; have := BM.kb.size; omega
                have PUSH : Hid (∀ mv' w', w'.ownsRow W.heap.size 3 1 mv' ((zN q).length + 1) (vI (zN q) ++ [.int .i64 (e : Nat)]) → (wq.alloc (.cells #[.int .i64 (e : Nat)] 3)).grownBy w' u8.ownBlock → BodC W w.heap.size n (fun y => S y || decide (y ∈ q ++ [e])) Ls (q ++ [e]) mv' w') := fun mv' w' h1 h2 => (BM.push HGW.out h1 h2).congr (fun y _ => by
                  by_cases c : y = e
                  · rw [if_pos c, c]; simp
                  · rw [if_neg c]; simp [c]) (fun _ _ => rfl)
                clear hs BM hwq hE hqs BC MM HCI
                gi_wp2_with (gi_at_builtin; rw [HWQ.out]; (refine wpListIn_intg rfl (.tmp 63) (.tmp 65) rfl W.heap.size u8 (zN q) (e : Int) rfl HO.out wp.heap.size rfl g0 hlq hbs ?_); intro mv' w6 ho6 hg6; have E9 := Lib.hid (PUSH.out _ w6 ho6 hg6); clear ho6 hg6 PUSH)
                go_roundw
                case rel => exact ⟨k + 1, _, by go_num, by have := HKL.out; omega, E9, M2, HCI2⟩
                case measure => have := HKL.out; simp [intOf] <;> omega
              · rw [hs] at c5
                have M2 : Hid (MemI RL n S r i (k + 1) q) := mem_old MM.out hiq AT.out (by
                  rw [Bool.or_eq_true, decide_eq_true_eq] at hs; exact hs)
                clear hs hE MM
                gi_wp2
                go_roundw
                case rel => exact ⟨k + 1, q, by go_num, by have := HKL.out; omega, BC, M2, HCI⟩
                case measure => have := HKL.out; simp [intOf] <;> omega
            · obtain rfl : k = (revV RL n c).length := by omega
              have M2 : Hid (MemI RL n S r (i + 1) 0 q) := by
                obtain ⟨hiq, hqc⟩ := HCI.out
                exact mem_next hiq (by rw [hqc]; exact MM.out)
              have hqn : q.length ≤ n := nodup_le MM.out.nd MM.out.lt
              have hil : i < n := by obtain ⟨hiq, _⟩ := HCI.out; omega
              have HIL := Lib.hid hil
              clear MM HCI
              gi_wp2
              go_roundw
              case rel => exact ⟨i + 1, q, by go_num, BC, M2⟩
              case measure => have := HIL.out; simp [intOf] <;> omega
        · have ei : i = q.length := by have := MM.out.len; omega
          have M2 : MemI RL n S r q.length 0 q := by rw [← ei]; exact MM.out
          obtain ⟨m, hmq, hmin, hmle⟩ := min_q hq0
          have CM : Hid (Calls Tryz.prog 91 #[.slice (some ⟨mb, 0, none⟩) q.length mc] wo (fun e w' => e = .returned (.int .i64 (m : Nat)) ∧ w' = wo)) := by
            have h := Tryz.slices_Min_int mb 0 q.length mc (zN q) wo hq0 (by rw [zN_len]; exact Nat.le_refl _) (by omega) (fun j hj => by
              rw [zN_len] at hj
              rw [Nat.zero_add, HC.out j hj, zN_getD hj, List.getElem?_eq_getElem hj]
              rfl)
            rw [hmin] at h
            exact h
          have CMP : Hid (CmpI RL n o x (fun v => S v || decide (v ∈ q)) (fun v => if v ∈ q then (m : Int) else Ls v)) := cmp_new F.out CI.out HXM.out (by have e := HR.out; rw [← e]; exact M2) hmq hmle
          have B0 : Hid (BodC W w.heap.size n (fun y => S y || decide (y ∈ q)) (fun y => if y ∈ q.take 0 then (m : Int) else Ls y) q (.slice (some ⟨mb, 0, none⟩) q.length mc) wo) := BC.out.congr (fun _ _ => rfl) (fun y _ => by simp)
          have QN : Hid (∀ j, j < q.length → ∃ v, q[j]?.getD 0 = v ∧ v < n ∧ ∀ y, (y ∈ q.take (j + 1) ↔ y = v ∨ y ∈ q.take j)) := fun j hj => by
            refine ⟨q[j], by rw [List.getElem?_eq_getElem hj]; rfl, MM.out.lt _ (List.getElem_mem hj), fun y => ?_⟩
            rw [List.take_add_one, List.getElem?_eq_getElem hj, Option.toList_some, List.mem_append, List.mem_singleton]
            exact or_comm
          clear MM BC M2 hmq hmin hmle HC SR
          gi_wp2_with (refine ⟨trivial, ?_⟩; gi_at_call 91; refine (callsIn_wide.2 CM.out).mono ?_; rintro e w4x ⟨rfl, hw4x⟩; subst hw4x)
          gi_loopw [72] (fun kk wr => ∃ k : Nat, kk = .int .i64 (k : Nat) ∧ k ≤ q.length ∧ Hid (BodC W w.heap.size n (fun y => S y || decide (y ∈ q)) (fun y => if y ∈ q.take k then (m : Int) else Ls y) q (.slice (some ⟨mb, 0, none⟩) q.length mc) wr)) (fun kk _ => q.length - (intOf kk).toNat)
          case atStart => exact ⟨0, rfl, by omega, B0⟩
          case round =>
            clear B0 CM
            obtain ⟨k, rfl, hk, BC⟩ := hrel
            by_cases hkl : k < q.length
            · have HKL := Lib.hid hkl
              obtain ⟨v, hv, hvn, hvt⟩ := QN.out k hkl
              have c0 : wr.cell? ⟨mb, k, none⟩ = some (.int .i64 (v : Nat)) := by
                have ho := BC.out.mo
                rw [zN_len] at ho
                rw [ho.cellAt k (by omega)]
                unfold vI zN
                rw [List.getElem?_map, List.getElem?_map, List.getElem?_eq_getElem hkl]
                rw [List.getElem?_eq_getElem hkl] at hv
                rw [← hv]
                rfl
              obtain ⟨c1, -, -⟩ := SC.out _ (SC2.out _ _ _ _ _ BC.out)
              have c2 := BC.out.lr.cell hvn
              have c3 : wr.frozen? ⟨w.heap.size, v, none⟩ = false := World.rowIs.frozen BC.out.lr v
              have B2 : Hid (BodC W w.heap.size n (fun y => S y || decide (y ∈ q)) (fun y => if y ∈ q.take (k + 1) then (m : Int) else Ls y) q (.slice (some ⟨mb, 0, none⟩) q.length mc) (wr.setCell ⟨w.heap.size, v, none⟩ (.int .i64 (m : Nat)))) := (BC.out.put HGW.out v (m : Int)).congr (fun _ _ => rfl) (fun y _ => by
                by_cases c : y = v
                · rw [if_pos c, if_pos ((hvt y).2 (Or.inl c))]
                · rw [if_neg c]
                  by_cases c2 : y ∈ q.take k
                  · rw [if_pos c2, if_pos ((hvt y).2 (Or.inr c2))]
                  · rw [if_neg c2, if_neg fun h => ((hvt y).1 h).elim c c2])
              clear BC hv hvt QN
              gi_wp2
              go_roundw
              case rel => exact ⟨k + 1, by go_num, by have := HKL.out; omega, B2⟩
              case measure => have := HKL.out; simp [intOf] <;> omega
            · obtain rfl : k = q.length := by omega
              have BF := BC.out
              rw [List.take_length] at BF
              have FIN : Hid (∃ S Ls, InvC w5 w.heap.size n S Ls wr ∧ CmpI RL n o (o.length - (pre ++ [x]).length) S Ls) := ⟨_, _, BF.inv IC.out, by rw [E3.out]; exact CMP.out⟩
              have KF : Hid (KeepOn (fun k => PvB w4.heap.size (zN o).length oA k ∨ (w5.heap.size ≤ k ∧ k < hi)) W wr) := BF.kb.mono fun j hj h => by
                rcases h with h | h
                · exact ⟨hj, (HPV.out j h).2⟩
                · have := HG.out
                  exact ⟨hj, by omega, by omega⟩
              clear BC BF CMP QN IC CI
              gi_wp2
              exact ⟨KF.out, FIN.out⟩
    · rw [hS] at q2
      have CI2 := cmp_old CI hxm (by rw [← hr]; exact hS)
      have FIN : Hid (∃ S Ls, InvC w5 w.heap.size n S Ls W ∧ CmpI RL n o (o.length - (pre ++ [x]).length) S Ls) := ⟨S, Ls, IC, by rw [e3]; exact CI2⟩
      clear IC CI CI2 SC SR hS hpl e0 e3 hr e1
      gi_wp2
      exact ⟨KeepOn.refl _ _, FIN.out⟩
end Go.Proofs.YtlbcdnobpnllkaaGreat.Dg

namespace Go.Proofs.YtlbcdnobpnllkaaGreat.Dg
open Go.RowKit Go.Deep

theorem list_ext0 {a b : List Int} (hl : a.length = b.length) (h : ∀ k, k < a.length → at0 a k = at0 b k) : a = b := by
  apply List.ext_getElem hl
  intro i h1 h2
  have := h i h1
  unfold at0 at this
  rw [List.getElem?_eq_getElem h1, List.getElem?_eq_getElem h2] at this
  exact this
set_option maxHeartbeats 2000000 in
set_option maxRecDepth 100000 in
theorem same_any (A B : Option Addr) (a b : List Int) (ca cb : Nat) (w : World) (ra : ReadsV w A a) (rb : ReadsV w B b) (hl : a.length ≤ 1000000) :
    Calls Tryz.prog 26 #[.slice A a.length ca, .slice B b.length cb] w (VPost w.heap.size w (.bool (decide (a = b)))) := by
  by_cases hab : a.length = b.length
  rotate_left
  · have E : decide (a = b) = false := decide_eq_false fun e => hab (by rw [e])
    rw [E]
    have h2 : ((a.length : Int) != (b.length : Int)) = true := by simp; omega
    clear E hab ra rb hl
    generalize a.length = n at *
    generalize b.length = m at *
    go_enter Tryz.func26, Tryz.ntmps26
    go_wp2
    go_ret
    exact ⟨rfl, Below.refl _ _⟩
  have HT : Hid ((∀ j, j < a.length → at0 a j = at0 b j) → decide (a = b) = true) := fun h => decide_eq_true (list_ext0 hab h)
  have HF : Hid (∀ j, j < a.length → ¬ at0 a j = at0 b j → decide (a = b) = false) := fun j hj h => decide_eq_false fun e => h (by rw [e])
  have RA := Lib.hid ra
  have RB := Lib.hid rb
  generalize decide (a = b) = R at *
  have HB : Hid (b.length = a.length) := hab.symm
  rw [← hab]
  clear ra rb hab
  obtain ⟨n, hn⟩ : ∃ n, n = a.length := ⟨_, rfl⟩
  rw [← hn] at HT HF HB hl ⊢
  have HN := Lib.hid hn
  clear hn
  have e1 : ((n : Int) != (n : Int)) = false := by simp
  have B0 : Hid (Below w.heap.size w w) := Below.refl _ _
  have F0 : Hid (∀ j, j < 0 → at0 a j = at0 b j) := fun j hj => absurd hj (by omega)
  go_enter Tryz.func26, Tryz.ntmps26
  go_wp2_with fail
  go_loopw [5] (fun q wr => ∃ k : Nat, k ≤ n ∧ q = .int .i64 k ∧ Hid (∀ j, j < k → at0 a j = at0 b j) ∧ Hid (Below w.heap.size w wr)) (fun q _ => n - (intOf q).toNat)
  case atStart => exact ⟨0, by omega, rfl, F0, B0⟩
  case round =>
    clear B0 F0
    obtain ⟨k, hk, rfl, HX, BB⟩ := hrel
    by_cases hlt : k < n
    · obtain ⟨ba, oa, rfl, _, c1⟩ := (RA.out.below BB.out (Nat.le_refl _)) k (by rw [← HN.out]; exact hlt)
      obtain ⟨bb, ob, rfl, _, c2⟩ := (RB.out.below BB.out (Nat.le_refl _)) k (by rw [HB.out]; exact hlt)
      have HFk := Lib.hid (HF.out k hlt)
      have HS : Hid (at0 a k = at0 b k → ∀ j, j < k + 1 → at0 a j = at0 b j) := fun h j hj => by
        by_cases e : j = k
        · rw [e]; exact h
        · exact HX.out j (by omega)
      have B2 := Lib.hid BB.out.drew
      clear HX HF HT
      generalize at0 a k = x at *
      generalize at0 b k = y at *
      by_cases z : x = y
      · have H2 := Lib.hid (HS.out z)
        have z2 : (x != y) = false := by simp [z]
        clear HS HFk
        go_wp2
        go_region
        generalize wr.drew = wd at *
        go_wp2
        go_roundw
        case rel => exact ⟨k + 1, by omega, by go_num, H2, B2⟩
        case measure => simp [intOf]; omega
      · have E := Lib.hid (HFk.out z)
        have z2 : (x != y) = true := by simpa using z
        clear HS HFk
        go_wp2
        go_region
        generalize wr.drew = wd at *
        go_wp2
        go_ret
        exact ⟨by rw [E.out]; rfl, B2.out⟩
    · have E := Lib.hid (HT.out fun j hj => HX.out j (by omega))
      clear HX HF HT
      go_wp2
      go_ret
      exact ⟨by rw [E.out]; rfl, BB.out⟩
set_option maxHeartbeats 4000000 in
set_option maxRecDepth 100000 in
theorem lists_yes (A B : Option Addr) (n ca cb : Nat) (RA RB : Nat → Option Addr) (RL : Nat → List Int) (RK RKb : Nat → Nat) (w : World) (GA : GraphR w A n RA RL RK) (GB : GraphR w B n RB RL RKb) :
    Calls Tryz.prog 9 #[.slice A n ca, .slice B n cb] w (VPost w.heap.size w (.bool true)) := by
  have hn := GA.hn
  have RW : Hid (∀ W, Below w.heap.size w W → GraphR W A n RA RL RK) := fun W hW => GA.below hW
  have RX : Hid (∀ W, Below w.heap.size w W → GraphR W B n RB RL RKb) := fun W hW => GB.below hW
  have B0 : Hid (Below w.heap.size w w) := Below.refl _ _
  have e1 : ((n : Int) != (n : Int)) = false := by simp
  clear GA GB
  go_enter Tryz.func9, Tryz.ntmps9
  go_wp2_with fail
  go_loopw [5] (fun q wr => ∃ k : Nat, k ≤ n ∧ q = .int .i64 (k : Nat) ∧ Hid (Below w.heap.size w wr)) (fun q _ => n - (intOf q).toNat)
  case atStart => exact ⟨0, by omega, rfl, B0⟩
  case round =>
    clear B0
    obtain ⟨k, hk, rfl, BB⟩ := hrel
    by_cases hlt : k < n
    · obtain ⟨ba, oa, rfl, _, c1⟩ := (RW.out _ BB.out).row k hlt
      obtain ⟨bb, ob, rfl, _, c2⟩ := (RX.out _ BB.out).row k hlt
      have CS : Hid (∀ W, Below w.heap.size w W → Calls Tryz.prog 26 #[.slice (RA k) (RL k).length (RK k), .slice (RB k) (RL k).length (RKb k)] W (VPost W.heap.size W (.bool true))) := fun W hW => by
        have h := same_any (RA k) (RB k) (RL k) (RL k) (RK k) (RKb k) W ((RW.out W hW).rd k hlt) ((RX.out W hW).rd k hlt) ((RW.out W hW).ll k hlt)
        rw [decide_eq_true rfl] at h
        exact h
      have B2 := Lib.hid BB.out.drew
      go_wp2
      go_upto_region 10 with fail
      refine wp_region_held_drew (S := fun w' => w'.cell? ⟨ba, oa + k, none⟩ = some (.slice (RA k) (RL k).length (RK k)) ∧ w'.cell? ⟨bb, ob + k, none⟩ = some (.slice (RB k) (RL k).length (RKb k)) ∧ Hid (Below w.heap.size w w')) (by kernel_rfl) ?_ (fun hHeld => ?_)
      · exact ⟨c1, c2, B2⟩
      refine wpAnyH_take (oi := ⟨_, _, _, _, _, _⟩) (i := 0) (v := ?_) rfl (by kernel_rfl) (by kernel_rfl) (by kernel_rfl) (fun _ _ _ h => h) (Or.inl ⟨by rfl, ?ya0⟩) (by assumption) ?ra0
      case ya0 => (intro w hSw; (try dsimp only at hSw); go_simp; (try with_reducible rfl))
      try simp only [Act.put, List.setIfInBounds_toArray, List.set_cons_zero, List.set_cons_succ]
      refine wpAnyH_take (oi := ⟨_, _, _, _, _, _⟩) (i := 1) (v := ?_) rfl (by kernel_rfl) (by kernel_rfl) (by kernel_rfl) (fun _ _ _ h => h) (Or.inl ⟨by rfl, ?ya1⟩) (by assumption) ?ra1
      case ya1 => (intro w hSw; (try dsimp only at hSw); go_simp; (try with_reducible rfl))
      try simp only [Act.put, List.setIfInBounds_toArray, List.set_cons_zero, List.set_cons_succ]
      refine wpAnyH_take (oi := ⟨_, _, _, _, _, _⟩) (i := 2) (v := ?_) rfl (by kernel_rfl) (by kernel_rfl) (by kernel_rfl) (fun _ _ _ h => h) (Or.inl ⟨by rfl, ?ya2⟩) (by assumption) ?ra2
      case ya2 => (intro w hSw; (try dsimp only at hSw); go_simp; (try with_reducible rfl))
      try simp only [Act.put, List.setIfInBounds_toArray, List.set_cons_zero, List.set_cons_succ]
      refine wpAnyH_take (oi := ⟨_, _, _, _, _, _⟩) (i := 3) (v := ?_) rfl (by kernel_rfl) (by kernel_rfl) (by kernel_rfl) (fun _ _ _ h => h) (Or.inl ⟨by rfl, ?ya3⟩) (by assumption) ?ra3
      case ya3 => (intro w hSw; (try dsimp only at hSw); go_simp; (try with_reducible rfl))
      try simp only [Act.put, List.setIfInBounds_toArray, List.set_cons_zero, List.set_cons_succ]
      refine wpAnyH_take (oi := ⟨_, _, _, _, _, _⟩) (i := 4) (v := ?_) rfl (by kernel_rfl) (by kernel_rfl) (by kernel_rfl) (fun _ _ _ h => h) (Or.inl ⟨by rfl, ?ya4⟩) (by assumption) ?ra4
      case ya4 => (intro w hSw; (try dsimp only at hSw); go_simp; (try with_reducible rfl))
      try simp only [Act.put, List.setIfInBounds_toArray, List.set_cons_zero, List.set_cons_succ]
      refine wpAnyH_take (oi := ⟨_, _, _, _, _, _⟩) (i := 5) (v := ?_) rfl (by kernel_rfl) (by kernel_rfl) (by kernel_rfl) (fun _ _ _ h => h) (Or.inl ⟨by rfl, ?ya5⟩) (by assumption) ?ra5
      case ya5 => (intro w hSw; (try dsimp only at hSw); go_simp; (try with_reducible rfl))
      try simp only [Act.put, List.setIfInBounds_toArray, List.set_cons_zero, List.set_cons_succ]
      refine wpAnyH_take (oi := ⟨_, _, _, _, _, _⟩) (i := 6) (v := ?_) rfl (by kernel_rfl) (by kernel_rfl) (by kernel_rfl) (fun _ _ _ h => h) (Or.inl ⟨by rfl, ?ya6⟩) (by assumption) ?ra6
      case ya6 => (intro w hSw; (try dsimp only at hSw); go_simp; (try with_reducible rfl))
      try simp only [Act.put, List.setIfInBounds_toArray, List.set_cons_zero, List.set_cons_succ]
      refine wpAnyH_take (oi := ⟨_, _, _, _, _, _⟩) (i := 7) (v := ?_) rfl (by kernel_rfl) (by kernel_rfl) (by kernel_rfl) (fun _ _ _ h => h) (Or.inl ⟨by rfl, ?ya7⟩) (by assumption) ?ra7
      case ya7 => (intro w hSw; (try dsimp only at hSw); go_simp; (try with_reducible rfl))
      try simp only [Act.put, List.setIfInBounds_toArray, List.set_cons_zero, List.set_cons_succ]
      refine wpAnyH_ready (rs := [8]) (by kernel_rfl) (by simp) ?_
      refine AllReadyH.cons (o := ⟨_, _, _, _, _, _⟩) rfl (fun K hK => ?_) AllReadyH.nil
      go_simp
      go_at_call 26; refine (CS.out _ hHeld.2.2.out).mono ?_; rintro e9 w9 ⟨rfl, K9⟩; (try go_wp2_with fail)
      refine hK.out _ _ ?_ (fun hHeld2 => ?_)
      · obtain ⟨h1, h2, h3⟩ := hHeld; exact ⟨keepc h1 K9, keepc h2 K9, h3.out.trans (K9.mono h3.out.size)⟩
      clear hK K hHeld
      have hHeld := hHeld2
      clear hHeld2
      try simp only [Act.put, List.setIfInBounds_toArray, List.set_cons_zero, List.set_cons_succ]
      refine wpAnyH_take (oi := ⟨_, _, _, _, _, _⟩) (i := 9) (v := ?_) rfl (by kernel_rfl) (by kernel_rfl) (by kernel_rfl) (fun _ _ _ h => h) (Or.inl ⟨by rfl, ?ya9⟩) (by assumption) ?ra9
      case ya9 => (intro w hSw; (try dsimp only at hSw); go_simp; (try with_reducible rfl))
      try simp only [Act.put, List.setIfInBounds_toArray, List.set_cons_zero, List.set_cons_succ]
      refine wpAnyH_done (by kernel_rfl) ?_ _
      have B9 := hHeld.2.2
      clear hHeld
      go_wp2
      go_roundw
      case rel => exact ⟨k + 1, by omega, by go_num, B9⟩
      case measure => simp [intOf]; omega
    · go_wp2
      go_ret
      exact ⟨rfl, BB.out⟩
end Go.Proofs.YtlbcdnobpnllkaaGreat.Dg

namespace Go.Proofs.YtlbcdnobpnllkaaGreat.Dg
open Go.RowKit

def allB (zs : List Bool) : Bool := zs.all fun b => b
theorem allB_yes {zs : List Bool} (h : ∀ j, j < zs.length → atT zs j = true) : allB zs = true := by
  unfold allB
  rw [List.all_eq_true]
  intro b hb
  obtain ⟨j, hj, e⟩ := List.getElem_of_mem hb
  have := h j hj
  unfold atT at this
  rw [List.getElem?_eq_getElem hj] at this
  rw [← e]; exact this
theorem allB_no {zs : List Bool} (j : Nat) (hj : j < zs.length) (h : atT zs j = false) : allB zs = false := by
  unfold allB
  rw [List.all_eq_false]
  refine ⟨zs[j], List.getElem_mem hj, ?_⟩
  unfold atT at h
  rw [List.getElem?_eq_getElem hj] at h
  simp at h ⊢
  exact h
theorem readsT_at {w : World} {A : Option Addr} {zs : List Bool} (h : ReadsT w A zs) (k : Nat) (hk : k < zs.length) : ∃ b off, A = some ⟨b, off, none⟩ ∧ w.cell? ⟨b, off + k, none⟩ = some (.bool (atT zs k)) := by
  obtain ⟨b, off, e, _, h2⟩ := h k hk
  exact ⟨b, off, e, h2⟩
theorem neg_all {zs : List Bool} {b : Bool} (h : allB zs = b) : (!allB zs) = !b := by rw [h]
set_option maxHeartbeats 2000000 in
set_option maxRecDepth 100000 in
theorem index_bool (A : Option Addr) (zs : List Bool) (c : Nat) (w : World) (R : ReadsT w A zs) (hl : zs.length ≤ 9223372036854775807) :
    Calls Tryz.prog 83 #[.slice A zs.length c, .bool false] w fun e w' => (∃ r : Int, e = .returned (.int .i64 r) ∧ decide (0 ≤ r) = !allB zs) ∧ w = w' := by
  have RA := Lib.hid R
  have HY := Lib.hid (@allB_yes zs)
  have HN := Lib.hid (fun j (hj : j < zs.length) (h : atT zs j = false) => neg_all (allB_no j hj h))
  clear R
  generalize allB zs = ok at *
  go_enter Tryz.func83, Tryz.ntmps83
  go_wp2
  go_loopg [8] zs.length (fun gg q wr => ∃ k : Nat, gg = zs.length - k ∧ k ≤ zs.length ∧ q = .int .i64 k ∧ Hid (∀ j, j < k → atT zs j = true) ∧ w = wr)
  case atStart => exact ⟨0, rfl, Nat.zero_le _, rfl, fun j hj => absurd hj (by omega), rfl⟩
  case round =>
    obtain ⟨k, hgg, hk, rfl, HJ, rfl⟩ := hrel
    by_cases hlt : k < zs.length
    · obtain ⟨b, off, rfl, h1⟩ := readsT_at RA.out k hlt
      have hno := HN.out k hlt
      have HJ2 : Hid (atT zs k = true → ∀ j, j < k + 1 → atT zs j = true) := fun h j hj => by
        by_cases e : j = k
        · rw [e]; exact h
        · exact HJ.out j (by omega)
      clear HN
      cases hb : atT zs k
      · rw [hb] at h1
        have E := Lib.hid (hno hb)
        clear hno HJ2 hb HY
        go_wp2
        go_ret
        exact ⟨⟨k, rfl, by rw [decide_eq_true (by omega)]; exact E.out.symm⟩, rfl⟩
      · rw [hb] at h1
        have HJ3 := Lib.hid (HJ2.out hb)
        clear hno HJ2 hb HY
        go_wp2
        go_roundg (zs.length - (k + 1))
        case rel => exact ⟨k + 1, rfl, by omega, by go_num, HJ3.out, rfl⟩
        case measure => omega
    · obtain rfl : k = zs.length := by omega
      have E := Lib.hid (HY.out HJ.out)
      clear HY HN
      go_wp2
      go_ret
      exact ⟨⟨-1, rfl, by rw [E.out]; rfl⟩, rfl⟩
theorem contains_bool (A : Option Addr) (zs : List Bool) (c : Nat) (w : World) (R : ReadsT w A zs) (hl : zs.length ≤ 9223372036854775807) :
    Calls Tryz.prog 41 #[.slice A zs.length c, .bool false] w fun e w' => e = .returned (.bool (!allB zs)) ∧ w = w' := by
  have C := Lib.hid (index_bool A zs c w R hl)
  clear R
  generalize (!allB zs) = ok at *
  go_enter Tryz.func41, Tryz.ntmps41
  go_wp2_with fail
  refine C.out.mono ?_
  rintro e w1 ⟨⟨r, rfl, hr⟩, rfl⟩
  have HR := Lib.hid hr
  clear hr
  go_wp2
  go_ret
  exact ⟨by rw [← HR.out]; rfl, rfl⟩
end Go.Proofs.YtlbcdnobpnllkaaGreat.Dg
