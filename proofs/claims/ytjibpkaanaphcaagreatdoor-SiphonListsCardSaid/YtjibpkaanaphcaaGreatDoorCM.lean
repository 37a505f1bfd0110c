/- Minimal siphons and traps with their errors, the condition of Commoner, by the program and the reference; the law on lists. -/
import Derived.Test.YtjibpkaanaphcaaGreatDoorSX
import Derived.Test.YtjibpkaanaphcaaGreatDoorSK
import Derived.Test.YtjibpkaanaphcaaGreatDoorS
import Derived.Test.YtjibpkaanaphcaaGreatDoorMK
import Derived.Test.YtjibpkaanaphcaaGreatDoorBtR
namespace Go.Proofs.YtjibpkaanaphcaaGreatDoor
open Go.RowKit Go.Shelf

attribute [local go_sem] Oper.semAt_some

def minE (n : NetV) : Int := if (chkV n).1 ≠ 0 then (chkV n).1 else if 12 < n.ps.length then 2 else 0
def minLs (n : NetV) (b : Bool) : List Bt.U64 := if minE n = 0 then Bt.minU (clU n b (upU (2 ^ n.ps.length - 1))) else []
theorem minE_chk {n : NetV} (h : (chkV n).1 ≠ 0) : minE n = (chkV n).1 := by unfold minE; rw [if_pos h]
theorem minE_size {n : NetV} (h : (chkV n).1 = 0) (h2 : 12 < n.ps.length) : minE n = 2 := by unfold minE; rw [if_neg (by simpa using h), if_pos h2]
theorem minE_ok {n : NetV} (h : (chkV n).1 = 0) (h2 : ¬ 12 < n.ps.length) : minE n = 0 := by unfold minE; rw [if_neg (by simpa using h), if_neg h2]
theorem minLs_no {n : NetV} {b : Bool} (h : minE n ≠ 0) : minLs n b = [] := if_neg h
theorem minLs_yes {n : NetV} {b : Bool} (h : minE n = 0) : minLs n b = Bt.minU (clU n b (upU (2 ^ n.ps.length - 1))) := if_pos h
def MinPE (g : Nat) (w : World) (L : List Bt.U64) (E : Int) (e : Ending) (w' : World) : Prop := ∃ A c, e = .returned (.tuple #[.slice A L.length c, .int .i64 E]) ∧ Bt.Reads w' A (Bt.vV L) ∧ Below g w w'
theorem MinPE.nil {g : Nat} {w w' : World} {E : Int} (h : Below g w w') : MinPE g w [] E (.returned (.tuple #[.slice none 0 0, .int .i64 E])) w' := ⟨none, 0, rfl, Bt.Reads.nil _ _, h⟩
def OwnU (w : World) (s : Nat) (v : Value) (L : List Bt.U64) : Prop := w.ownsRow s 45 1 v L.length (Bt.vV L)
theorem OwnU.nil (w : World) (s : Nat) : OwnU w s (.slice none 0 0) [] := World.ownsRow_nil _ _ _ _
theorem OwnU.below {w w' : World} {s B : Nat} {v : Value} {L : List Bt.U64} (h : OwnU w s v L) (hb : Below B w w') (hB : w.heap.size ≤ B) : OwnU w' s v L := own_below h hb hB
theorem OwnU.alloc {w : World} {s : Nat} {v : Value} {L : List Bt.U64} (h : OwnU w s v L) (o : Obj) : OwnU (w.alloc o) s v L := h.below (B := w.heap.size) ((Below.refl _ _).alloc (Nat.le_refl _) _) (Nat.le_refl _)
theorem OwnU.reads {w : World} {s : Nat} {v : Value} {L : List Bt.U64} (h : OwnU w s v L) : ∃ A c, v = .slice A L.length c ∧ Bt.Reads w A (Bt.vV L) := by
  rcases h.2 with ⟨rfl, h0⟩ | ⟨g, cap, cur, rfl, _, hg, _⟩
  · have : L = [] := List.eq_nil_of_length_eq_zero (by omega)
    subst this
    exact ⟨none, 0, rfl, Bt.Reads.nil _ _⟩
  · refine ⟨_, cap, rfl, fun j v hj => ?_⟩
    have hjl : j < L.length := by
      have := (List.getElem?_eq_some_iff.1 hj).1
      simpa [Bt.vV] using this
    have hc := World.ownsRow.cellAt h j (by omega)
    rw [hj] at hc
    exact ⟨g, 0, rfl, World.block_lt_of_cell? w ⟨g, j, none⟩ hc, by rw [Nat.zero_add]; exact hc⟩
theorem wpList_u64 {ops : Array Oper} {rest : List Oper} {o : Oper} {a : Act} {w : World} {Q : Exit → Act → World → Prop} (hgd : o.guard = none) (s x : Operand)
    (ho : o.op = .call { callee := .builtin .append, args := #[s, x], argTypes := #[30, 30] })
    (base : Nat) (v : Value) (L : List Bt.U64) (z : Bt.U64) (hs : a.eval s = v) (hO : OwnU w base v L) (g : Nat) (hx : a.eval x = .slice (some ⟨g, 0, none⟩) 1 1)
    (hc : w.cell? ⟨g, 0, none⟩ = some (.int .u64 (z.1 : Nat))) (hl : L.length ≤ 17592186043904) (hbase : base ≤ w.heap.size)
    (h : ∀ v' w', OwnU w' base v' (L ++ [z]) → Below base w w' → wpList Tryz.prog ops Q rest (a.put o.dst v') w') : wpList Tryz.prog ops Q (o :: rest) a w := by
  obtain ⟨i, hi, hz, h1, h2⟩ := Bt.info_parts Bt.infoU
  refine wpList_append_own _ hgd s x 30 ho base 45 i (.int .u64 0) 1 8 Tryz.underlying30 hi hz h1 h2 rfl (by decide) v L.length (Bt.vV L) hs hO ⟨g, 0, none⟩ 1 1 [.int .u64 (z.1 : Nat)] hx rfl ?_ ?_ (by unfold maxLen; omega) (by omega) hbase ?_
  · intro j u hj
    cases j with
    | zero => simp at hj; subst hj; simpa [Addr.add] using hc
    | succ j => simp at hj
  · intro u hu
    simp at hu
    subst hu
    simp [Value.oneCell']
  · intro v' w' hown hgrow _
    refine h v' w' ?_ ((Below.refl base w).grown hgrow hbase fun q e => (World.ownsRow.lt hO q e).1)
    unfold OwnU
    rw [vV_snoc, List.length_append]
    exact hown
theorem cell_new1 (w : World) (x : Value) (t : TypeId) : (w.alloc (.cells #[x] t)).cell? ⟨w.heap.size, 0, none⟩ = some x := by simp
theorem size_le_alloc {w : World} {g : Nat} (h : g ≤ w.heap.size) (o : Obj) : g ≤ (w.alloc o).heap.size := by rw [World.size_alloc]; omega
theorem upU_snoc (k : Nat) : upU (k + 1) = upU k ++ [toU (k + 1)] := by
  unfold upU
  rw [upL_snoc, List.map_append]
  rfl
theorem two_pow_le {p : Nat} (h : p ≤ 12) : 1 ≤ 2 ^ p ∧ 2 ^ p ≤ 4096 := ⟨Nat.one_le_two_pow, by have := Nat.pow_le_pow_right (n := 2) (by omega) h; omega⟩

set_option maxHeartbeats 4000000 in
set_option maxRecDepth 100000 in
theorem minSE_any (n : NetV) (w : World) (hr : NetR w n) :
    Calls Tryz.prog 13 #[.agg #[.string n.nm, .slice n.PA n.ps.length n.pc, .slice n.TA n.ts.length n.tc], .func (.func 14) #[] #[]] w (MinPE w.heap.size w (minLs n true) (minE n)) := by
  have CK : Hid (∀ W, Below w.heap.size w W → Calls Tryz.prog 26 #[.agg #[.string n.nm, .slice n.PA n.ps.length n.pc, .slice n.TA n.ts.length n.tc]] W (FPost W.heap.size W (chkV n))) := fun W hW => check_any n W (hr.below hW (Nat.le_refl _))
  have HE1 : Hid ((chkV n).1 ≠ 0 → minE n = (chkV n).1) := minE_chk
  have HE2 : Hid ((chkV n).1 = 0 → 12 < n.ps.length → minE n = 2) := minE_size
  have HE3 : Hid ((chkV n).1 = 0 → ¬ 12 < n.ps.length → minE n = 0) := minE_ok
  have HN : Hid (minE n ≠ 0 → minLs n true = []) := minLs_no
  have HY : Hid (minE n = 0 → minLs n true = Bt.minU (clU n true (upU (2 ^ n.ps.length - 1)))) := minLs_yes
  have OK : (chkV n).1 = 0 → ¬ 12 < n.ps.length → Calls Tryz.prog 13 #[.agg #[.string n.nm, .slice n.PA n.ps.length n.pc, .slice n.TA n.ts.length n.tc], .func (.func 14) #[] #[]] w (MinPE w.heap.size w (Bt.minU (clU n true (upU (2 ^ n.ps.length - 1)))) 0) := fun h1 h2 => minS_any n w hr (decide_eq_true h1) (by omega)
  clear hr
  generalize minLs n true = L at *
  generalize minE n = mE at *
  generalize chkV n = cv at *
  obtain ⟨e0, e1⟩ := cv
  dsimp only at *
  have B0 : Hid (Below w.heap.size w (w.alloc (.cells #[.string n.nm, .slice n.PA n.ps.length n.pc, .slice n.TA n.ts.length n.tc] 25))) := ((Below.refl _ _).alloc (Nat.le_refl _) _)
  have q0 : (w.alloc (.cells #[.string n.nm, .slice n.PA n.ps.length n.pc, .slice n.TA n.ts.length n.tc] 25)).cell? ⟨w.heap.size, 0, none⟩ = some (.string n.nm) := by simp
  have q1 : (w.alloc (.cells #[.string n.nm, .slice n.PA n.ps.length n.pc, .slice n.TA n.ts.length n.tc] 25)).cell? ⟨w.heap.size, 1, none⟩ = some (.slice n.PA n.ps.length n.pc) := by simp
  have q2 : (w.alloc (.cells #[.string n.nm, .slice n.PA n.ps.length n.pc, .slice n.TA n.ts.length n.tc] 25)).cell? ⟨w.heap.size, 2, none⟩ = some (.slice n.TA n.ts.length n.tc) := by simp
  by_cases h0 : e0 = 0
  rotate_left
  · have z0 : (e0 != 0) = true := by simpa using h0
    have E : Hid (mE = e0) := HE1.out h0
    have N : Hid (L = []) := HN.out (by rw [E.out]; exact h0)
    clear HE1 HE2 HE3 HN HY
    go_enter Tryz.func13, Tryz.ntmps13
    go_wp2_with fail
    refine (CK.out _ B0.out).mono ?_
    rintro e x1 ⟨rfl, K⟩
    have q0 := keepc q0 K
    have q1 := keepc q1 K
    have q2 := keepc q2 K
    have Dx1 := Lib.hid (B0.out.trans (K.mono B0.out.size))
    clear K
    have Dx1a := Lib.hid (Dx1.out.alloc Dx1.out.size (.cells #[.int .i64 e0, .int .i64 e1] 49))
    go_wp2_with fail
    (try go_quiet (fail))
    (try go_wp2)
    go_ret2
    rw [E.out, N.out]
    exact MinPE.nil (by first | exact Dx1a.out | exact Dx1a.out.drew | exact below_drewN Dx1a.out _ | exact below_drewN (below_drewN Dx1a.out _) _)
  subst h0
  by_cases h12 : 12 < n.ps.length
  · have z12 : decide (12 < n.ps.length) = true := decide_eq_true h12
    have E : Hid (mE = 2) := HE2.out rfl h12
    have N : Hid (L = []) := HN.out (by rw [E.out]; decide)
    clear HE1 HE2 HE3 HN HY
    go_enter Tryz.func13, Tryz.ntmps13
    go_wp2_with fail
    refine (CK.out _ B0.out).mono ?_
    rintro e x1 ⟨rfl, K⟩
    have q0 := keepc q0 K
    have q1 := keepc q1 K
    have q2 := keepc q2 K
    have Dx1 := Lib.hid (B0.out.trans (K.mono B0.out.size))
    clear K
    have Dx1a := Lib.hid (Dx1.out.alloc Dx1.out.size (.cells #[.int .i64 0, .int .i64 e1] 49))
    have q1 := cellA q1 (.cells #[.int .i64 0, .int .i64 e1] 49)
    go_wp2_with fail
    (try go_quiet (fail))
    (try go_wp2)
    go_ret2
    rw [E.out, N.out]
    exact MinPE.nil (by first | exact Dx1a.out | exact Dx1a.out.drew | exact below_drewN Dx1a.out _ | exact below_drewN (below_drewN Dx1a.out _) _)
  have E : mE = 0 := HE3.out rfl h12
  rw [E, HY.out E]
  exact OK rfl h12

set_option maxHeartbeats 4000000 in
set_option maxRecDepth 100000 in
theorem minTE_any (n : NetV) (w : World) (hr : NetR w n) :
    Calls Tryz.prog 13 #[.agg #[.string n.nm, .slice n.PA n.ps.length n.pc, .slice n.TA n.ts.length n.tc], .func (.func 19) #[] #[]] w (MinPE w.heap.size w (minLs n false) (minE n)) := by
  have CK : Hid (∀ W, Below w.heap.size w W → Calls Tryz.prog 26 #[.agg #[.string n.nm, .slice n.PA n.ps.length n.pc, .slice n.TA n.ts.length n.tc]] W (FPost W.heap.size W (chkV n))) := fun W hW => check_any n W (hr.below hW (Nat.le_refl _))
  have HE1 : Hid ((chkV n).1 ≠ 0 → minE n = (chkV n).1) := minE_chk
  have HE2 : Hid ((chkV n).1 = 0 → 12 < n.ps.length → minE n = 2) := minE_size
  have HE3 : Hid ((chkV n).1 = 0 → ¬ 12 < n.ps.length → minE n = 0) := minE_ok
  have HN : Hid (minE n ≠ 0 → minLs n false = []) := minLs_no
  have HY : Hid (minE n = 0 → minLs n false = Bt.minU (clU n false (upU (2 ^ n.ps.length - 1)))) := minLs_yes
  have OK : (chkV n).1 = 0 → ¬ 12 < n.ps.length → Calls Tryz.prog 13 #[.agg #[.string n.nm, .slice n.PA n.ps.length n.pc, .slice n.TA n.ts.length n.tc], .func (.func 19) #[] #[]] w (MinPE w.heap.size w (Bt.minU (clU n false (upU (2 ^ n.ps.length - 1)))) 0) := fun h1 h2 => minT_any n w hr (decide_eq_true h1) (by omega)
  clear hr
  generalize minLs n false = L at *
  generalize minE n = mE at *
  generalize chkV n = cv at *
  obtain ⟨e0, e1⟩ := cv
  dsimp only at *
  have B0 : Hid (Below w.heap.size w (w.alloc (.cells #[.string n.nm, .slice n.PA n.ps.length n.pc, .slice n.TA n.ts.length n.tc] 25))) := ((Below.refl _ _).alloc (Nat.le_refl _) _)
  have q0 : (w.alloc (.cells #[.string n.nm, .slice n.PA n.ps.length n.pc, .slice n.TA n.ts.length n.tc] 25)).cell? ⟨w.heap.size, 0, none⟩ = some (.string n.nm) := by simp
  have q1 : (w.alloc (.cells #[.string n.nm, .slice n.PA n.ps.length n.pc, .slice n.TA n.ts.length n.tc] 25)).cell? ⟨w.heap.size, 1, none⟩ = some (.slice n.PA n.ps.length n.pc) := by simp
  have q2 : (w.alloc (.cells #[.string n.nm, .slice n.PA n.ps.length n.pc, .slice n.TA n.ts.length n.tc] 25)).cell? ⟨w.heap.size, 2, none⟩ = some (.slice n.TA n.ts.length n.tc) := by simp
  by_cases h0 : e0 = 0
  rotate_left
  · have z0 : (e0 != 0) = true := by simpa using h0
    have E : Hid (mE = e0) := HE1.out h0
    have N : Hid (L = []) := HN.out (by rw [E.out]; exact h0)
    clear HE1 HE2 HE3 HN HY
    go_enter Tryz.func13, Tryz.ntmps13
    go_wp2_with fail
    refine (CK.out _ B0.out).mono ?_
    rintro e x1 ⟨rfl, K⟩
    have q0 := keepc q0 K
    have q1 := keepc q1 K
    have q2 := keepc q2 K
    have Dx1 := Lib.hid (B0.out.trans (K.mono B0.out.size))
    clear K
    have Dx1a := Lib.hid (Dx1.out.alloc Dx1.out.size (.cells #[.int .i64 e0, .int .i64 e1] 49))
    go_wp2_with fail
    (try go_quiet (fail))
    (try go_wp2)
    go_ret2
    rw [E.out, N.out]
    exact MinPE.nil (by first | exact Dx1a.out | exact Dx1a.out.drew | exact below_drewN Dx1a.out _ | exact below_drewN (below_drewN Dx1a.out _) _)
  subst h0
  by_cases h12 : 12 < n.ps.length
  · have z12 : decide (12 < n.ps.length) = true := decide_eq_true h12
    have E : Hid (mE = 2) := HE2.out rfl h12
    have N : Hid (L = []) := HN.out (by rw [E.out]; decide)
    clear HE1 HE2 HE3 HN HY
    go_enter Tryz.func13, Tryz.ntmps13
    go_wp2_with fail
    refine (CK.out _ B0.out).mono ?_
    rintro e x1 ⟨rfl, K⟩
    have q0 := keepc q0 K
    have q1 := keepc q1 K
    have q2 := keepc q2 K
    have Dx1 := Lib.hid (B0.out.trans (K.mono B0.out.size))
    clear K
    have Dx1a := Lib.hid (Dx1.out.alloc Dx1.out.size (.cells #[.int .i64 0, .int .i64 e1] 49))
    have q1 := cellA q1 (.cells #[.int .i64 0, .int .i64 e1] 49)
    go_wp2_with fail
    (try go_quiet (fail))
    (try go_wp2)
    go_ret2
    rw [E.out, N.out]
    exact MinPE.nil (by first | exact Dx1a.out | exact Dx1a.out.drew | exact below_drewN Dx1a.out _ | exact below_drewN (below_drewN Dx1a.out _) _)
  have E : mE = 0 := HE3.out rfl h12
  rw [E, HY.out E]
  exact OK rfl h12

set_option maxHeartbeats 2000000 in
set_option maxRecDepth 100000 in
theorem siphonsE_any (n : NetV) (w : World) (hr : NetR w n) :
    Calls Tryz.prog 7 #[.agg #[.string n.nm, .slice n.PA n.ps.length n.pc, .slice n.TA n.ts.length n.tc]] w (MinPE w.heap.size w (minLs n true) (minE n)) := by
  have CM : Hid (∀ W, Below w.heap.size w W → Calls Tryz.prog 13 #[.agg #[.string n.nm, .slice n.PA n.ps.length n.pc, .slice n.TA n.ts.length n.tc], .func (.func 14) #[] #[]] W (MinPE W.heap.size W (minLs n true) (minE n))) := fun W hW => minSE_any n W (hr.below hW (Nat.le_refl _))
  clear hr
  generalize minLs n true = L at *
  generalize minE n = mE at *
  have B0 : Hid (Below w.heap.size w (w.alloc (.cells #[.string n.nm, .slice n.PA n.ps.length n.pc, .slice n.TA n.ts.length n.tc] 25))) := ((Below.refl _ _).alloc (Nat.le_refl _) _)
  go_enter Tryz.func7, Tryz.ntmps7
  go_wp2_with fail
  refine (CM.out _ B0.out).mono ?_
  rintro e w1 ⟨A2, c2, rfl, R2, K⟩
  have R2 := Lib.hid R2
  have b0_0 : w1.cell? ⟨w.heap.size, 0, none⟩ = some (.string n.nm) := by rw [K.cell (by simp [go_sem] <;> omega)]; simp [go_sem]
  have b0_1 : w1.cell? ⟨w.heap.size, 1, none⟩ = some (.slice n.PA n.ps.length n.pc) := by rw [K.cell (by simp [go_sem] <;> omega)]; simp [go_sem]
  have b0_2 : w1.cell? ⟨w.heap.size, 2, none⟩ = some (.slice n.TA n.ts.length n.tc) := by rw [K.cell (by simp [go_sem] <;> omega)]; simp [go_sem]
  have Bw1 := Lib.hid (B0.out.trans (K.mono (by simp [go_sem] <;> omega)))
  have hs1 : w.heap.size + 1 ≤ w1.heap.size := by have := K.size; (try simp [go_sem] at this); omega
  clear K
  go_wp2
  go_ret2
  exact ⟨A2, c2, rfl, R2.out, Bw1.out⟩

set_option maxHeartbeats 2000000 in
set_option maxRecDepth 100000 in
theorem trapsE_any (n : NetV) (w : World) (hr : NetR w n) :
    Calls Tryz.prog 9 #[.agg #[.string n.nm, .slice n.PA n.ps.length n.pc, .slice n.TA n.ts.length n.tc]] w (MinPE w.heap.size w (minLs n false) (minE n)) := by
  have CM : Hid (∀ W, Below w.heap.size w W → Calls Tryz.prog 13 #[.agg #[.string n.nm, .slice n.PA n.ps.length n.pc, .slice n.TA n.ts.length n.tc], .func (.func 19) #[] #[]] W (MinPE W.heap.size W (minLs n false) (minE n))) := fun W hW => minTE_any n W (hr.below hW (Nat.le_refl _))
  clear hr
  generalize minLs n false = L at *
  generalize minE n = mE at *
  have B0 : Hid (Below w.heap.size w (w.alloc (.cells #[.string n.nm, .slice n.PA n.ps.length n.pc, .slice n.TA n.ts.length n.tc] 25))) := ((Below.refl _ _).alloc (Nat.le_refl _) _)
  go_enter Tryz.func9, Tryz.ntmps9
  go_wp2_with fail
  refine (CM.out _ B0.out).mono ?_
  rintro e w1 ⟨A2, c2, rfl, R2, K⟩
  have R2 := Lib.hid R2
  have b0_0 : w1.cell? ⟨w.heap.size, 0, none⟩ = some (.string n.nm) := by rw [K.cell (by simp [go_sem] <;> omega)]; simp [go_sem]
  have b0_1 : w1.cell? ⟨w.heap.size, 1, none⟩ = some (.slice n.PA n.ps.length n.pc) := by rw [K.cell (by simp [go_sem] <;> omega)]; simp [go_sem]
  have b0_2 : w1.cell? ⟨w.heap.size, 2, none⟩ = some (.slice n.TA n.ts.length n.tc) := by rw [K.cell (by simp [go_sem] <;> omega)]; simp [go_sem]
  have Bw1 := Lib.hid (B0.out.trans (K.mono (by simp [go_sem] <;> omega)))
  have hs1 : w.heap.size + 1 ≤ w1.heap.size := by have := K.size; (try simp [go_sem] at this); omega
  clear K
  go_wp2
  go_ret2
  exact ⟨A2, c2, rfl, R2.out, Bw1.out⟩

set_option maxHeartbeats 8000000 in
set_option maxRecDepth 100000 in
theorem rminE_any (n : NetV) (b : Bool) (w : World) (hr : NetR w n) (h8 : n.ps.length ≤ 8 ∨ 12 < n.ps.length) :
    Calls Tryz.prog 8 #[.agg #[.string n.nm, .slice n.PA n.ps.length n.pc, .slice n.TA n.ts.length n.tc], .bool b] w (MinPE w.heap.size w (minLs n b) (minE n)) := by
  have CK : Hid (∀ W, Below w.heap.size w W → Calls Tryz.prog 15 #[.agg #[.string n.nm, .slice n.PA n.ps.length n.pc, .slice n.TA n.ts.length n.tc]] W (FPost W.heap.size W (chkV n))) := fun W hW => rcheck_any n W (hr.below hW (Nat.le_refl _))
  have HE1 : Hid ((chkV n).1 ≠ 0 → minE n = (chkV n).1) := minE_chk
  have HE2 : Hid ((chkV n).1 = 0 → 12 < n.ps.length → minE n = 2) := minE_size
  have HE3 : Hid ((chkV n).1 = 0 → ¬ 12 < n.ps.length → minE n = 0) := minE_ok
  have HN : Hid (minE n ≠ 0 → minLs n b = []) := minLs_no
  have HY : Hid (minE n = 0 → minLs n b = Bt.minU (clU n b (upU (2 ^ n.ps.length - 1)))) := minLs_yes
  have CC : Hid (∀ W (s : Nat), Below w.heap.size w W → s < 18446744073709551616 → Calls Tryz.prog 17 #[.agg #[.string n.nm, .slice n.PA n.ps.length n.pc, .slice n.TA n.ts.length n.tc], .int .u64 (s : Nat), .bool b] W (VPost W.heap.size W (.bool (closedB n b s)))) := fun W s hW hs => rclosed_any n s b W (hr.below hW (Nat.le_refl _)) hs
  have CA : Hid (∀ W, Calls Tryz.prog 16 #[.int .i64 n.ps.length] W (fun e w' => e = .returned (.int .u64 (Bt.allV n.ps.length : Nat)) ∧ W = w')) := fun W => Bt.rall_any _ W (by omega) (by have := hr.okp.1; omega)
  have CM : Hid (∀ A (l : List Bt.U64) c W, Bt.Reads W A (Bt.vV l) → l.length ≤ 1000 → Calls Tryz.prog 18 #[.slice A l.length c] W (Bt.ListPost W.heap.size W (Bt.vV (Bt.minU l)))) := fun A l c W h hl => by
    have := Bt.rminimal_law A l c W h hl
    rw [Bt.acc_min] at this
    exact this
  have HA : n.ps.length ≤ 8 → Bt.allV n.ps.length = 2 ^ n.ps.length - 1 := fun h => by
    unfold Bt.allV
    congr 1
    congr 1
    omega
  have HU1 : Hid (∀ k, closedB n b (k + 1) = true → k + 1 < 18446744073709551616 → clU n b (upU (k + 1)) = clU n b (upU k) ++ [toU (k + 1)]) := fun k h hk => by
    rw [upU_snoc, clU_snoc, if_pos (by rw [toU_val hk]; exact h)]
  have HU0 : Hid (∀ k, closedB n b (k + 1) = false → k + 1 < 18446744073709551616 → clU n b (upU (k + 1)) = clU n b (upU k)) := fun k h hk => by
    rw [upU_snoc, clU_snoc, if_neg (by rw [toU_val hk, h]; decide)]
  have HUL : Hid (∀ k, (clU n b (upU k)).length ≤ k) := fun k => Nat.le_trans (clU_len _ _ _) (by rw [upU_len]; exact Nat.le_refl _)
  have HUN : clU n b (upU 0) = [] := rfl
  clear hr
  generalize minLs n b = L at *
  generalize minE n = mE at *
  generalize chkV n = cv at *
  obtain ⟨e0, e1⟩ := cv
  dsimp only at *
  have B0 : Hid (Below w.heap.size w (w.alloc (.cells #[.string n.nm, .slice n.PA n.ps.length n.pc, .slice n.TA n.ts.length n.tc] 25))) := ((Below.refl _ _).alloc (Nat.le_refl _) _)
  have q0 : (w.alloc (.cells #[.string n.nm, .slice n.PA n.ps.length n.pc, .slice n.TA n.ts.length n.tc] 25)).cell? ⟨w.heap.size, 0, none⟩ = some (.string n.nm) := by simp
  have q1 : (w.alloc (.cells #[.string n.nm, .slice n.PA n.ps.length n.pc, .slice n.TA n.ts.length n.tc] 25)).cell? ⟨w.heap.size, 1, none⟩ = some (.slice n.PA n.ps.length n.pc) := by simp
  have q2 : (w.alloc (.cells #[.string n.nm, .slice n.PA n.ps.length n.pc, .slice n.TA n.ts.length n.tc] 25)).cell? ⟨w.heap.size, 2, none⟩ = some (.slice n.TA n.ts.length n.tc) := by simp
  by_cases h0 : e0 = 0
  rotate_left
  · have z0 : (e0 != 0) = true := by simpa using h0
    have E : Hid (mE = e0) := HE1.out h0
    have N : Hid (L = []) := HN.out (by rw [E.out]; exact h0)
    clear HE1 HE2 HE3 HN HY
    go_enter Tryz.func8, Tryz.ntmps8
    go_wp2_with fail
    refine (CK.out _ B0.out).mono ?_
    rintro e x1 ⟨rfl, K⟩
    have q0 := keepc q0 K
    have q1 := keepc q1 K
    have q2 := keepc q2 K
    have Dx1 := Lib.hid (B0.out.trans (K.mono B0.out.size))
    clear K
    have Dx1a := Lib.hid (Dx1.out.alloc Dx1.out.size (.cells #[.int .i64 e0, .int .i64 e1] 49))
    go_wp2_with fail
    (try go_quiet (fail))
    (try go_wp2)
    go_ret2
    rw [E.out, N.out]
    exact MinPE.nil (by first | exact Dx1a.out | exact Dx1a.out.drew | exact below_drewN Dx1a.out _ | exact below_drewN (below_drewN Dx1a.out _) _)
  subst h0
  by_cases h12 : 12 < n.ps.length
  · have z12 : decide (12 < n.ps.length) = true := decide_eq_true h12
    have E : Hid (mE = 2) := HE2.out rfl h12
    have N : Hid (L = []) := HN.out (by rw [E.out]; decide)
    clear HE1 HE2 HE3 HN HY
    go_enter Tryz.func8, Tryz.ntmps8
    go_wp2_with fail
    refine (CK.out _ B0.out).mono ?_
    rintro e x1 ⟨rfl, K⟩
    have q0 := keepc q0 K
    have q1 := keepc q1 K
    have q2 := keepc q2 K
    have Dx1 := Lib.hid (B0.out.trans (K.mono B0.out.size))
    clear K
    have Dx1a := Lib.hid (Dx1.out.alloc Dx1.out.size (.cells #[.int .i64 0, .int .i64 e1] 49))
    have q1 := cellA q1 (.cells #[.int .i64 0, .int .i64 e1] 49)
    go_wp2_with fail
    (try go_quiet (fail))
    (try go_wp2)
    go_ret2
    rw [E.out, N.out]
    exact MinPE.nil (by first | exact Dx1a.out | exact Dx1a.out.drew | exact below_drewN Dx1a.out _ | exact below_drewN (below_drewN Dx1a.out _) _)
  have hp8 : n.ps.length ≤ 8 := by omega
  have hpw := two_pow_le (p := n.ps.length) (by omega)
  have hpw8 : 2 ^ n.ps.length ≤ 256 := by have := Nat.pow_le_pow_right (n := 2) (by omega) hp8; omega
  have E : mE = 0 := HE3.out rfl h12
  rw [E, HY.out E]
  rw [HA hp8] at CA
  clear HE1 HE2 HE3 HN HY E HA h8 L
  generalize hcl : (fun k => clU n b (upU k)) = cl at *
  have hcl' : ∀ k, clU n b (upU k) = cl k := fun k => by rw [← hcl]
  simp only [hcl'] at *
  clear hcl hcl'
  generalize 2 ^ n.ps.length = pw at *
  generalize closedB n b = cb at *
  go_enter Tryz.func8, Tryz.ntmps8
  go_wp2_with fail
  refine (CK.out _ B0.out).mono ?_
  rintro e x1 ⟨rfl, K⟩
  have q0 := keepc q0 K
  have q1 := keepc q1 K
  have q2 := keepc q2 K
  have Dx1 := Lib.hid (B0.out.trans (K.mono B0.out.size))
  clear K
  have Dx1a := Lib.hid (Dx1.out.alloc Dx1.out.size (.cells #[.int .i64 0, .int .i64 e1] 49))
  have q0 := cellA q0 (.cells #[.int .i64 0, .int .i64 e1] 49)
  have q1 := cellA q1 (.cells #[.int .i64 0, .int .i64 e1] 49)
  have q2 := cellA q2 (.cells #[.int .i64 0, .int .i64 e1] 49)
  go_wp2_with fail
  obtain ⟨x2, hx2⟩ : ∃ x2, x2 = x1.alloc (.cells #[.int .i64 0, .int .i64 e1] 49) := ⟨_, rfl⟩
  rw [← hx2] at q0 q1 q2 Dx1a ⊢
  clear hx2
  go_loopw [7, 8] (fun p q wr => ∃ k : Nat, k + 1 ≤ pw ∧ q = .int .u64 ((k + 1 : Nat) : Int) ∧ Hid (OwnU wr x2.heap.size p (cl k)) ∧ Hid (Below x2.heap.size x2 wr)) (fun _ q _ => pw - (intOf q).toNat)
  case atStart => exact ⟨0, by omega, rfl, by rw [HUN]; exact OwnU.nil _ _, Below.refl _ _⟩
  case round =>
    obtain ⟨k, hk, rfl, O, BB⟩ := hrel
    have k0 := keepc q0 BB.out
    have k1 := keepc q1 BB.out
    have k2 := keepc q2 BB.out
    have BG := Lib.hid (Dx1a.out.trans (BB.out.mono Dx1a.out.size))
    have hsz := BB.out.size
    clear q0 q1 q2
    go_wp2_with fail
    refine (CA.out _).mono ?_
    rintro e x3 ⟨rfl, rfl⟩
    by_cases hlt : k + 1 < pw
    · have zl : ((k + 1 : Nat) : Int) ≤ ((pw - 1 : Nat) : Int) := by omega
      have C := CC.out wr (k + 1) BG.out (by omega)
      have U1 := fun h => HU1.out k h (by omega)
      have U0 := fun h => HU0.out k h (by omega)
      have UL := HUL.out k
      generalize cb (k + 1) = z at *
      replace C := Lib.hid C
      cases z
      · have T := Lib.hid (U0 rfl)
        clear U0 U1
        go_wp2_with fail
        refine (C.out).mono ?_
        rintro e x4 ⟨rfl, K⟩
        have O4 : Hid (OwnU x4 x2.heap.size u7 (cl (k + 1))) := by
          show OwnU _ _ _ _
          rw [T.out]
          exact O.out.below K (Nat.le_refl _)
        have B4 := Lib.hid (BB.out.trans (K.mono hsz))
        clear K C
        go_wp2
        go_roundw
        case rel => exact ⟨k + 1, by omega, by go_num, O4, B4⟩
        case measure => simp [intOf]; omega
      · have T := Lib.hid (U1 rfl)
        clear U0 U1
        go_wp2_with fail
        refine (C.out).mono ?_
        rintro e x4 ⟨rfl, K⟩
        have O4 := Lib.hid (O.out.below K (Nat.le_refl _))
        have B4 := Lib.hid (BB.out.trans (K.mono hsz))
        have hs4 := Nat.le_trans hsz K.size
        have hv : ((toU (k + 1)).1 : Nat) = k + 1 := toU_val (by omega)
        clear K C O
        go_wp2_with (at_builtin; refine wpList_u64 rfl (.tmp 32) (.tmp 34) rfl x2.heap.size _ (cl k) (toU (k + 1)) rfl (O4.out.alloc _) _ rfl (by rw [hv]; exact cell_new1 _ _ _) (by omega) (size_le_alloc hs4 _) ?_; intro v' w5 hown' hb')
        have O5 : Hid (OwnU w5 x2.heap.size v' (cl (k + 1))) := by
          show OwnU _ _ _ _
          rw [T.out]
          exact hown'
        have B5 : Hid (Below x2.heap.size x2 w5) := (B4.out.alloc hs4 _).trans hb'
        clear hown' hb'
        go_wp2
        go_roundw
        case rel => exact ⟨k + 1, by omega, by go_num, O5, B5⟩
        case measure => simp [intOf]; omega
    · obtain rfl : k = pw - 1 := by omega
      have zl : ¬ ((pw - 1 + 1 : Nat) : Int) ≤ ((pw - 1 : Nat) : Int) := by omega
      obtain ⟨A5, c5, e5, R5⟩ := OwnU.reads O.out
      subst e5
      have UL := HUL.out (pw - 1)
      have CMk := Lib.hid (CM.out A5 (cl (pw - 1)) c5 wr R5 (by omega))
      generalize Bt.minU (cl (pw - 1)) = M at *
      go_wp2_with fail
      refine (CMk.out).mono ?_
      rintro e x4 ⟨A6, c6, rfl, R6, K⟩
      have R6 := Lib.hid R6
      have B4 := Lib.hid (BG.out.trans (K.mono BG.out.size))
      clear K
      go_wp2
      go_ret2
      exact ⟨A6, c6, by simp [Bt.vV], R6.out, B4.out⟩
end Go.Proofs.YtjibpkaanaphcaaGreatDoor
