/- Lists of rows in memory, and rows compared. -/
import Derived.Test.YtpfkkjgklhcejaaSE
import Derived.Lib.OwnBridge
namespace Go.Proofs.Ytpfkkjgklhcejaa
open Go.RowKit

structure Row where
  A : Option Addr
  zs : List Int
  cap : Nat
instance : Inhabited Row := ⟨⟨none, [], 0⟩⟩
def Row.v (r : Row) : Value := .slice r.A r.zs.length r.cap
def OkR (w : World) (r : Row) : Prop := ReadsV w r.A r.zs ∧ r.zs.length ≤ 1000
def rowsL (L : List Row) : List (List Int) := L.map Row.zs
def rA (L : List Row) (j : Nat) : Row := L[j]?.getD ⟨none, [], 0⟩
def CellsL (w : World) (A : Option Addr) (L : List Row) : Prop :=
  ∀ j, j < L.length → ∃ b off, A = some ⟨b, off, none⟩ ∧ b < w.heap.size ∧ w.cell? ⟨b, off + j, none⟩ = some (rA L j).v
def ReadsL (w : World) (A : Option Addr) (L : List Row) : Prop := CellsL w A L ∧ ∀ r ∈ L, OkR w r
theorem rowsL_len (L : List Row) : (rowsL L).length = L.length := by simp [rowsL]
theorem rA_mem {L : List Row} {j : Nat} (h : j < L.length) : rA L j ∈ L := by
  unfold rA
  rw [List.getElem?_eq_getElem h]
  exact List.getElem_mem h
theorem rA_get {L : List Row} {j : Nat} (h : j < L.length) : (rowsL L)[j]'(by rw [rowsL_len]; exact h) = (rA L j).zs := by
  unfold rA rowsL
  rw [List.getElem?_eq_getElem h]
  simp
theorem rowsL_take (L : List Row) (k : Nat) : rowsL (L.take k) = (rowsL L).take k := by simp [rowsL, List.map_take]
theorem rowsL_snoc (L : List Row) (r : Row) : rowsL (L ++ [r]) = rowsL L ++ [r.zs] := by simp [rowsL]
theorem rowsL_all (L : List Row) : (rowsL L).take L.length = rowsL L := by rw [← rowsL_len L, List.take_length]
theorem OkR.below {w w' : World} {r : Row} {B : Nat} (h : OkR w r) (hb : Below B w w') (hB : w.heap.size ≤ B) : OkR w' r := ⟨h.1.below hb hB, h.2⟩
theorem CellsL.below {w w' : World} {A : Option Addr} {L : List Row} {B : Nat} (h : CellsL w A L) (hb : Below B w w') (hB : w.heap.size ≤ B) : CellsL w' A L := fun j hj => by
  obtain ⟨b, off, e, h1, h2⟩ := h j hj
  exact ⟨b, off, e, Nat.lt_of_lt_of_le h1 hb.size, (hb.cell (p := ⟨b, off + j, none⟩) (Nat.lt_of_lt_of_le h1 hB)).trans h2⟩
theorem ReadsL.below {w w' : World} {A : Option Addr} {L : List Row} {B : Nat} (h : ReadsL w A L) (hb : Below B w w') (hB : w.heap.size ≤ B) : ReadsL w' A L :=
  ⟨h.1.below hb hB, fun r hr => (h.2 r hr).below hb hB⟩
theorem CellsL.at {w : World} {A : Option Addr} {L : List Row} (h : CellsL w A L) (k : Nat) (hk : k < L.length) : ∃ b off, A = some ⟨b, off, none⟩ ∧ w.cell? ⟨b, off + k, none⟩ = some (.slice (rA L k).A (rA L k).zs.length (rA L k).cap) := by
  obtain ⟨b, off, e, _, h2⟩ := h k hk
  exact ⟨b, off, e, h2⟩
theorem ReadsL.nil (w : World) (A : Option Addr) : ReadsL w A [] := ⟨fun _ h => absurd h (by simp), fun _ h => by cases h⟩

/-- a row that no append to a list above s turns -/
def FarR (w : World) (s : Nat) (r : Row) : Prop := OkR w r ∧ (r.zs ≠ [] → ∀ b off, r.A = some ⟨b, off, none⟩ → b < s ∨ ∃ cs, w.heap[b]? = some (.cells cs 3 (0, 0)))
theorem block_of_reads {w : World} {A : Option Addr} {zs : List Int} (h : ReadsV w A zs) (hn : zs ≠ []) {b off : Nat} (e : A = some ⟨b, off, none⟩) : b < w.heap.size := by
  obtain ⟨b', off', e', h1, _⟩ := h 0 (List.length_pos_iff.2 hn)
  rw [e] at e'
  injection e' with e'
  injection e' with e'
  rw [e']; exact h1
theorem FarR.old {w w0 : World} {s B : Nat} {r : Row} (h : OkR w0 r) (hb : Below B w0 w) (hB : w0.heap.size ≤ B) (hs : w0.heap.size ≤ s) : FarR w s r :=
  ⟨h.below hb hB, fun hn b off e => .inl (Nat.lt_of_lt_of_le (block_of_reads h.1 hn e) hs)⟩
theorem FarR.below {w w' : World} {r : Row} {s B : Nat} (h : FarR w s r) (hb : Below B w w') (hB : w.heap.size ≤ B) : FarR w' s r :=
  ⟨h.1.below hb hB, fun hn b off e => (h.2 hn b off e).imp id fun ⟨cs, hc⟩ => ⟨cs, by
    rw [hb.block b (Nat.lt_of_lt_of_le (block_of_reads h.1.1 hn e) hB)]; exact hc⟩⟩
def OwnL (w : World) (s : Nat) (v : Value) (L : List Row) : Prop := w.ownsRow s 26 1 v L.length (L.map Row.v) ∧ ∀ r ∈ L, FarR w s r
theorem OwnL.nil (w : World) (s : Nat) : OwnL w s (.slice none 0 0) [] := ⟨World.ownsRow_nil _ _ _ _, fun _ h => by cases h⟩
theorem OwnL.below {w w' : World} {s B : Nat} {v : Value} {L : List Row} (h : OwnL w s v L) (hb : Below B w w') (hB : w.heap.size ≤ B) : OwnL w' s v L :=
  ⟨own_below h.1 hb hB, fun r hr => (h.2 r hr).below hb hB⟩
theorem OwnL.reads {w : World} {s : Nat} {v : Value} {L : List Row} (h : OwnL w s v L) : ∃ A c, v = .slice A L.length c ∧ ReadsL w A L := by
  have ho := h.1
  rcases ho.2 with ⟨rfl, h0⟩ | ⟨g, cap, cur, rfl, _, hg, _⟩
  · obtain rfl : L = [] := List.eq_nil_of_length_eq_zero (by omega)
    exact ⟨none, 0, rfl, ReadsL.nil _ _⟩
  · refine ⟨_, cap, rfl, fun j hj => ?_, fun r hr => (h.2 r hr).1⟩
    have hc := ho.cellAt j (by omega)
    have e : (L.map Row.v)[j]? = some (rA L j).v := by
      unfold rA
      rw [List.getElem?_map, List.getElem?_eq_getElem hj]
      rfl
    rw [e] at hc
    exact ⟨g, 0, rfl, World.block_lt_of_cell? w ⟨g, j, none⟩ hc, by rw [Nat.zero_add]; exact hc⟩
theorem OwnL.alloc {w : World} {s : Nat} {v : Value} {L : List Row} (h : OwnL w s v L) (o : Obj) : OwnL (w.alloc o) s v L := h.below (B := w.heap.size) ((Below.refl _ _).alloc (Nat.le_refl _) _) (Nat.le_refl _)
theorem FarR.alloc {w : World} {s : Nat} {r : Row} (h : FarR w s r) (o : Obj) : FarR (w.alloc o) s r := h.below (B := w.heap.size) ((Below.refl _ _).alloc (Nat.le_refl _) _) (Nat.le_refl _)
theorem infoR : (Try.prog.info? 26).map (fun i => (i.zero, i.size, i.bytes)) = some (some (.slice none 0 0), 1, 24) := by kernel_rfl
theorem own_grown {w w' : World} {s : Nat} {v : Value} {L : List Row} (h : OwnL w s v L) (hg : w.grownBy w' v.ownBlock) (r : Row) (hr : FarR w s r) : FarR w' s r := by
  have key : r.zs ≠ [] → ∀ b off, r.A = some ⟨b, off, none⟩ → w'.heap[b]? = w.heap[b]? := fun hn b off e => by
    refine hg.block b (block_of_reads hr.1.1 hn e) fun e2 => ?_
    rcases h.1.2 with ⟨e1, _⟩ | ⟨g, cap, cur, e1, hb, h2, _⟩
    · rw [e1] at e2; cases e2
    · rw [e1] at e2
      have e3 : g = b := by simpa [Value.ownBlock] using e2.symm
      subst e3
      rcases hr.2 hn _ off e with h3 | ⟨cs, h3⟩
      · omega
      · rw [h2] at h3
        simp at h3
  by_cases hn : r.zs = []
  · refine ⟨⟨?_, hr.1.2⟩, fun h => absurd hn h⟩
    rw [hn]
    exact ReadsV.nil _ _
  · refine ⟨⟨fun j hj => ?_, hr.1.2⟩, fun hn' b off e => (hr.2 hn' b off e).imp id fun ⟨cs, hc⟩ => ⟨cs, by rw [key hn b off e]; exact hc⟩⟩
    obtain ⟨b, off, e, h1, h2⟩ := hr.1.1 j hj
    have kb := key hn b off e
    refine ⟨b, off, e, ?_, ?_⟩
    · rcases Nat.lt_or_ge b w'.heap.size with h3 | h3
      · exact h3
      · rw [Array.getElem?_eq_none h3, Array.getElem?_eq_getElem h1] at kb
        cases kb
    · rw [← h2]
      simp only [World.cell?, kb]
theorem own_snoc {w w' : World} {s : Nat} {v v' : Value} {L : List Row} (h : OwnL w s v L) (r : Row) (hr : FarR w s r) (hg : w.grownBy w' v.ownBlock) (ho : w'.ownsRow s 26 1 v' (L.length + 1) (L.map Row.v ++ [r.v])) : OwnL w' s v' (L ++ [r]) := by
  refine ⟨?_, fun x hx => ?_⟩
  · rw [List.map_append, List.length_append]
    exact ho
  · rcases List.mem_append.1 hx with hx | hx
    · exact own_grown h hg x (h.2 x hx)
    · simp at hx
      subst hx
      exact own_grown h hg _ hr
/-- one row is appended -/
theorem wpList_row {ops : Array Oper} {rest : List Oper} {o : Oper} {a : Act} {w : World} {Q : Exit → Act → World → Prop} (hgd : o.guard = none) (s x : Operand)
    (ho : o.op = .call { callee := .builtin .append, args := #[s, x], argTypes := #[37, 37] })
    (base : Nat) (v : Value) (L : List Row) (r : Row) (hs : a.eval s = v) (hO : OwnL w base v L) (g : Nat) (hx : a.eval x = .slice (some ⟨g, 0, none⟩) 1 1)
    (hc : w.cell? ⟨g, 0, none⟩ = some r.v) (hr : FarR w base r) (hl : L.length ≤ 100000) (hbase : base ≤ w.heap.size)
    (h : ∀ v' w', OwnL w' base v' (L ++ [r]) → Below base w w' → wpList Try.prog ops Q rest (a.put o.dst v') w') : wpList Try.prog ops Q (o :: rest) a w := by
  obtain ⟨i, hi, hz, h1, h2⟩ := info_parts infoR
  refine wpList_append_own _ hgd s x 37 ho base 26 i (.slice none 0 0) 1 24 Try.underlying37 hi hz h1 h2 rfl (by decide) v L.length (L.map Row.v) hs hO.1 ⟨g, 0, none⟩ 1 1 [r.v] hx rfl ?_ ?_ (by unfold maxLen; omega) (by omega) hbase ?_
  · intro j u hj
    cases j with
    | zero => simp at hj; subst hj; simpa [Addr.add] using hc
    | succ j => simp at hj
  · intro u hu
    simp at hu
    subst hu
    simp [Value.oneCell', Row.v]
  · intro v' w' hown hgrow _
    refine h v' w' (own_snoc hO r hr hgrow hown) ((Below.refl base w).grown hgrow hbase fun q e => ?_)
    rcases hO.1.2 with ⟨e1, _⟩ | ⟨g', cap, cur, e1, hb, _⟩
    · rw [e1] at e; cases e
    · rw [e1] at e
      have : q = g' := by simpa [Value.ownBlock] using e.symm
      omega
theorem FarR.freshG {w : World} {s g : Nat} {A : Option Addr} {zs : List Int} {c : Nat} (h : FreshG w g A zs) (hl : zs.length ≤ 1000) : FarR w s ⟨A, zs, c⟩ :=
  ⟨⟨h.1, hl⟩, fun hn b off e => .inr (h.2 hn b off e).2⟩
def sameR (L M : List Row) : Bool := decide (rowsL L = rowsL M)
theorem sameR_len {L M : List Row} (h : L.length ≠ M.length) : sameR L M = false := decide_eq_false fun e => h (by rw [← rowsL_len L, e, rowsL_len])
theorem rowsL_get (L : List Row) (k : Nat) : (rowsL L)[k]?.getD [] = (rA L k).zs := by
  unfold rowsL rA
  rw [List.getElem?_map]
  cases L[k]? <;> rfl
theorem sameR_no {L M : List Row} {k : Nat} (h : sameL (rA L k).zs (rA M k).zs = false) : sameR L M = false := decide_eq_false fun e => by
  rw [← rowsL_get, ← rowsL_get, e, sameL_iff.2 rfl] at h
  cases h
theorem sameR_yes {L M : List Row} (hl : L.length = M.length) (h : ∀ k, k < L.length → sameL (rA L k).zs (rA M k).zs = true) : sameR L M = true := decide_eq_true (by
  apply List.ext_getElem
  · rw [rowsL_len, rowsL_len, hl]
  · intro i h1 h2
    rw [rowsL_len] at h1 h2
    rw [rA_get h1, rA_get h2]
    exact sameL_iff.1 (h i h1))
theorem sameR_of {L M : List Row} {R : List (List Int)} (h1 : rowsL L = R) (h2 : rowsL M = R) : sameR L M = true := decide_eq_true (h1.trans h2.symm)

set_option maxHeartbeats 4000000 in
set_option maxRecDepth 100000 in
theorem lists_any (A B : Option Addr) (L M : List Row) (c cb : Nat) (w : World) (hr : ReadsL w A L) (hl : L.length ≤ 1000) (rb : ReadsL w B M) (hm : M.length ≤ 1000) :
    Calls Try.prog 15 #[.slice A L.length c, .slice B M.length cb] w (BPost w.heap.size w (sameR L M)) := by
  unfold BPost
  by_cases hab : L.length = M.length
  case neg =>
    rw [sameR_len hab]
    have h2 : ((L.length : Int) != (M.length : Int)) = true := by simp; omega
    clear hr rb
    generalize L.length = n at *
    generalize M.length = m at *
    go_enter Try.func15, Try.ntmps15
    go_wp2
    go_ret
    exact ⟨rfl, Below.refl _ _⟩
  have RA := Lib.hid hr
  have RB := Lib.hid rb
  clear hr rb
  have SN : Hid (∀ k, sameL (rA L k).zs (rA M k).zs = false → sameR L M = false) := fun k h => sameR_no h
  have SY : Hid ((∀ k, k < L.length → sameL (rA L k).zs (rA M k).zs = true) → sameR L M = true) := sameR_yes hab
  generalize sameR L M = S at *
  rw [← hab]
  generalize hg : w.heap.size = g at *
  have HG := Lib.hid hg
  clear hg
  have HAB := Lib.hid hab
  clear hab
  generalize hn : L.length = n at *
  have HN := Lib.hid hn
  clear hn
  have hne : ((n : Int) != (n : Int)) = false := by simp
  go_enter Try.func15, Try.ntmps15
  go_wp2_with fail
  go_loopw [5] (fun q wr => ∃ k : Nat, k ≤ n ∧ q = .int .i64 k ∧ Hid (∀ j, j < k → sameL (rA L j).zs (rA M j).zs = true) ∧ Hid (Below g w wr)) (fun q _ => n - (intOf q).toNat)
  case atStart => exact ⟨0, by omega, rfl, fun j hj => absurd hj (by omega), Below.refl _ _⟩
  case round =>
    obtain ⟨k, hk, rfl, HE, BB⟩ := hrel
    by_cases hlt : k < n
    · have hkl : k < L.length := by rw [HN.out]; exact hlt
      have hkm : k < M.length := by rw [← HAB.out]; exact hlt
      have RW := RA.out.below BB.out (by rw [HG.out]; exact Nat.le_refl _)
      have SW := RB.out.below BB.out (by rw [HG.out]; exact Nat.le_refl _)
      obtain ⟨ba, oa, e1, hx⟩ := RW.1.at k hkl
      subst e1
      obtain ⟨bb, ob, e2, hy⟩ := SW.1.at k hkm
      subst e2
      have OKx := RW.2 _ (rA_mem hkl)
      have OKy := SW.2 _ (rA_mem hkm)
      have CL : ∀ W, Below wr.heap.size wr W → Calls Try.prog 14 #[.slice (rA L k).A (rA L k).zs.length (rA L k).cap, .slice (rA M k).A (rA M k).zs.length (rA M k).cap] W (BPost W.heap.size W (sameL (rA L k).zs (rA M k).zs)) := fun W hW =>
        same_law (rA L k).A (rA M k).A (rA L k).zs (rA M k).zs (rA L k).cap (rA M k).cap W (OKx.1.below hW (Nat.le_refl _)) (OKy.1.below hW (Nat.le_refl _)) (by have := OKx.2; omega)
      have MK := Lib.hid (SN.out k)
      have HE2 : Hid (sameL (rA L k).zs (rA M k).zs = true → ∀ j, j < k + 1 → sameL (rA L j).zs (rA M j).zs = true) := fun h j hj => by
        by_cases e : j < k
        · exact HE.out j e
        · obtain rfl : j = k := by omega
          exact h
      clear RW SW OKx OKy hkl hkm
      generalize rA L k = r at *
      generalize rA M k = t at *
      obtain ⟨xA, xs, xc⟩ := r
      obtain ⟨yA, ys, yc⟩ := t
      dsimp only at *
      cases hle : sameL xs ys
      · have E := Lib.hid (MK.out hle)
        rw [hle] at CL
        have CL := Lib.hid CL
        clear HE2 MK hle
        go_upto_region 6 with fail
        refine wp_region_held_drew (S := fun w' => w'.cell? ⟨ba, oa + k, none⟩ = some (.slice xA xs.length xc) ∧ w'.cell? ⟨bb, ob + k, none⟩ = some (.slice yA ys.length yc) ∧ Hid (Below wr.heap.size wr w')) (by kernel_rfl) ?_ (fun hHeld => ?_)
        · exact ⟨hx, hy, (Below.refl _ _).drew⟩
        refine wpAnyH_take (oi := ⟨_, _, _, _, _, _⟩) (i := 0) (v := ?_) rfl (by kernel_rfl) (by kernel_rfl) (by kernel_rfl) (fun _ _ _ h => h) (Or.inl ⟨by rfl, ?ya0⟩) (by assumption) ?ra0
        case ya0 => (intro w hSw; (try dsimp only at hSw); go_simp; (try with_reducible rfl))
        try simp only [Act.put, List.setIfInBounds_toArray, List.set_cons_zero, List.set_cons_succ]
        refine wpAnyH_take (oi := ⟨_, _, _, _, _, _⟩) (i := 1) (v := ?_) rfl (by kernel_rfl) (by kernel_rfl) (by kernel_rfl) (fun _ _ _ h => h) (Or.inl ⟨by rfl, ?ya1⟩) (by assumption) ?ra1
        case ya1 => (intro w hSw; (try dsimp only at hSw); go_simp; (try with_reducible rfl))
        try simp only [Act.put, List.setIfInBounds_toArray, List.set_cons_zero, List.set_cons_succ]
        refine wpAnyH_take (oi := ⟨_, _, _, _, _, _⟩) (i := 2) (v := ?_) rfl (by kernel_rfl) (by kernel_rfl) (by kernel_rfl) (fun _ _ _ h => h) (Or.inl ⟨by rfl, ?ya2⟩) (by assumption) ?ra2
        case ya2 => (intro w hSw; (try dsimp only at hSw); go_simp; (try with_reducible rfl))
        try simp only [Act.put, List.setIfInBounds_toArray, List.set_cons_zero, List.set_cons_succ]
        refine wpAnyH_take (oi := ⟨_, _, _, _, _, _⟩) (i := 3) (v := ?_) rfl (by kernel_rfl) (by kernel_rfl) (by kernel_rfl) (fun _ _ _ h => h) (Or.inl ⟨by rfl, ?ya3⟩) (by assumption) ?ra3
        case ya3 => (intro w hSw; (try dsimp only at hSw); go_simp; (try with_reducible rfl))
        try simp only [Act.put, List.setIfInBounds_toArray, List.set_cons_zero, List.set_cons_succ]
        refine wpAnyH_take (oi := ⟨_, _, _, _, _, _⟩) (i := 4) (v := ?_) rfl (by kernel_rfl) (by kernel_rfl) (by kernel_rfl) (fun _ _ _ h => h) (Or.inl ⟨by rfl, ?ya4⟩) (by assumption) ?ra4
        case ya4 => (intro w hSw; (try dsimp only at hSw); go_simp; (try with_reducible rfl))
        try simp only [Act.put, List.setIfInBounds_toArray, List.set_cons_zero, List.set_cons_succ]
        refine wpAnyH_take (oi := ⟨_, _, _, _, _, _⟩) (i := 5) (v := ?_) rfl (by kernel_rfl) (by kernel_rfl) (by kernel_rfl) (fun _ _ _ h => h) (Or.inl ⟨by rfl, ?ya5⟩) (by assumption) ?ra5
        case ya5 => (intro w hSw; (try dsimp only at hSw); go_simp; (try with_reducible rfl))
        try simp only [Act.put, List.setIfInBounds_toArray, List.set_cons_zero, List.set_cons_succ]
        refine wpAnyH_take (oi := ⟨_, _, _, _, _, _⟩) (i := 6) (v := ?_) rfl (by kernel_rfl) (by kernel_rfl) (by kernel_rfl) (fun _ _ _ h => h) (Or.inl ⟨by rfl, ?ya6⟩) (by assumption) ?ra6
        case ya6 => (intro w hSw; (try dsimp only at hSw); go_simp; (try with_reducible rfl))
        try simp only [Act.put, List.setIfInBounds_toArray, List.set_cons_zero, List.set_cons_succ]
        refine wpAnyH_take (oi := ⟨_, _, _, _, _, _⟩) (i := 7) (v := ?_) rfl (by kernel_rfl) (by kernel_rfl) (by kernel_rfl) (fun _ _ _ h => h) (Or.inl ⟨by rfl, ?ya7⟩) (by assumption) ?ra7
        case ya7 => (intro w hSw; (try dsimp only at hSw); go_simp; (try with_reducible rfl))
        try simp only [Act.put, List.setIfInBounds_toArray, List.set_cons_zero, List.set_cons_succ]
        refine wpAnyH_ready (rs := [8]) (by kernel_rfl) (by simp) ?_
        refine AllReadyH.cons (o := ⟨_, _, _, _, _, _⟩) rfl (fun K hK => ?_) AllReadyH.nil
        go_simp
        go_at_call 14; refine (CL.out _ hHeld.2.2.out).mono ?_; rintro e w3 ⟨rfl, K⟩; (try go_wp2_with fail)
        refine hK.out _ _ ?_ (fun hHeld2 => ?_)
        · exact ⟨keepc hHeld.1 K, keepc hHeld.2.1 K, hHeld.2.2.out.trans (K.mono hHeld.2.2.out.size)⟩
        clear hK K hHeld
        have hHeld := hHeld2
        clear hHeld2
        try simp only [Act.put, List.setIfInBounds_toArray, List.set_cons_zero, List.set_cons_succ]
        refine wpAnyH_take (oi := ⟨_, _, _, _, _, _⟩) (i := 9) (v := ?_) rfl (by kernel_rfl) (by kernel_rfl) (by kernel_rfl) (fun _ _ _ h => h) (Or.inl ⟨by rfl, ?ya9⟩) (by assumption) ?ra9
        case ya9 => (intro w hSw; (try dsimp only at hSw); go_simp; (try with_reducible rfl))
        try simp only [Act.put, List.setIfInBounds_toArray, List.set_cons_zero, List.set_cons_succ]
        refine wpAnyH_done (by kernel_rfl) ?_ _
        have B3 := Lib.hid (BB.out.trans (hHeld.2.2.out.mono (by rw [← HG.out]; exact BB.out.size)))
        clear hHeld K CL hx hy
        go_wp2
        go_ret
        exact ⟨by rw [E.out]; rfl, B3.out⟩
      · have HE3 := Lib.hid (HE2.out hle)
        rw [hle] at CL
        have CL := Lib.hid CL
        clear HE2 MK hle
        go_upto_region 6 with fail
        refine wp_region_held_drew (S := fun w' => w'.cell? ⟨ba, oa + k, none⟩ = some (.slice xA xs.length xc) ∧ w'.cell? ⟨bb, ob + k, none⟩ = some (.slice yA ys.length yc) ∧ Hid (Below wr.heap.size wr w')) (by kernel_rfl) ?_ (fun hHeld => ?_)
        · exact ⟨hx, hy, (Below.refl _ _).drew⟩
        refine wpAnyH_take (oi := ⟨_, _, _, _, _, _⟩) (i := 0) (v := ?_) rfl (by kernel_rfl) (by kernel_rfl) (by kernel_rfl) (fun _ _ _ h => h) (Or.inl ⟨by rfl, ?yb0⟩) (by assumption) ?rb0
        case yb0 => (intro w hSw; (try dsimp only at hSw); go_simp; (try with_reducible rfl))
        try simp only [Act.put, List.setIfInBounds_toArray, List.set_cons_zero, List.set_cons_succ]
        refine wpAnyH_take (oi := ⟨_, _, _, _, _, _⟩) (i := 1) (v := ?_) rfl (by kernel_rfl) (by kernel_rfl) (by kernel_rfl) (fun _ _ _ h => h) (Or.inl ⟨by rfl, ?yb1⟩) (by assumption) ?rb1
        case yb1 => (intro w hSw; (try dsimp only at hSw); go_simp; (try with_reducible rfl))
        try simp only [Act.put, List.setIfInBounds_toArray, List.set_cons_zero, List.set_cons_succ]
        refine wpAnyH_take (oi := ⟨_, _, _, _, _, _⟩) (i := 2) (v := ?_) rfl (by kernel_rfl) (by kernel_rfl) (by kernel_rfl) (fun _ _ _ h => h) (Or.inl ⟨by rfl, ?yb2⟩) (by assumption) ?rb2
        case yb2 => (intro w hSw; (try dsimp only at hSw); go_simp; (try with_reducible rfl))
        try simp only [Act.put, List.setIfInBounds_toArray, List.set_cons_zero, List.set_cons_succ]
        refine wpAnyH_take (oi := ⟨_, _, _, _, _, _⟩) (i := 3) (v := ?_) rfl (by kernel_rfl) (by kernel_rfl) (by kernel_rfl) (fun _ _ _ h => h) (Or.inl ⟨by rfl, ?yb3⟩) (by assumption) ?rb3
        case yb3 => (intro w hSw; (try dsimp only at hSw); go_simp; (try with_reducible rfl))
        try simp only [Act.put, List.setIfInBounds_toArray, List.set_cons_zero, List.set_cons_succ]
        refine wpAnyH_take (oi := ⟨_, _, _, _, _, _⟩) (i := 4) (v := ?_) rfl (by kernel_rfl) (by kernel_rfl) (by kernel_rfl) (fun _ _ _ h => h) (Or.inl ⟨by rfl, ?yb4⟩) (by assumption) ?rb4
        case yb4 => (intro w hSw; (try dsimp only at hSw); go_simp; (try with_reducible rfl))
        try simp only [Act.put, List.setIfInBounds_toArray, List.set_cons_zero, List.set_cons_succ]
        refine wpAnyH_take (oi := ⟨_, _, _, _, _, _⟩) (i := 5) (v := ?_) rfl (by kernel_rfl) (by kernel_rfl) (by kernel_rfl) (fun _ _ _ h => h) (Or.inl ⟨by rfl, ?yb5⟩) (by assumption) ?rb5
        case yb5 => (intro w hSw; (try dsimp only at hSw); go_simp; (try with_reducible rfl))
        try simp only [Act.put, List.setIfInBounds_toArray, List.set_cons_zero, List.set_cons_succ]
        refine wpAnyH_take (oi := ⟨_, _, _, _, _, _⟩) (i := 6) (v := ?_) rfl (by kernel_rfl) (by kernel_rfl) (by kernel_rfl) (fun _ _ _ h => h) (Or.inl ⟨by rfl, ?yb6⟩) (by assumption) ?rb6
        case yb6 => (intro w hSw; (try dsimp only at hSw); go_simp; (try with_reducible rfl))
        try simp only [Act.put, List.setIfInBounds_toArray, List.set_cons_zero, List.set_cons_succ]
        refine wpAnyH_take (oi := ⟨_, _, _, _, _, _⟩) (i := 7) (v := ?_) rfl (by kernel_rfl) (by kernel_rfl) (by kernel_rfl) (fun _ _ _ h => h) (Or.inl ⟨by rfl, ?yb7⟩) (by assumption) ?rb7
        case yb7 => (intro w hSw; (try dsimp only at hSw); go_simp; (try with_reducible rfl))
        try simp only [Act.put, List.setIfInBounds_toArray, List.set_cons_zero, List.set_cons_succ]
        refine wpAnyH_ready (rs := [8]) (by kernel_rfl) (by simp) ?_
        refine AllReadyH.cons (o := ⟨_, _, _, _, _, _⟩) rfl (fun K hK => ?_) AllReadyH.nil
        go_simp
        go_at_call 14; refine (CL.out _ hHeld.2.2.out).mono ?_; rintro e w3 ⟨rfl, K⟩; (try go_wp2_with fail)
        refine hK.out _ _ ?_ (fun hHeld2 => ?_)
        · exact ⟨keepc hHeld.1 K, keepc hHeld.2.1 K, hHeld.2.2.out.trans (K.mono hHeld.2.2.out.size)⟩
        clear hK K hHeld
        have hHeld := hHeld2
        clear hHeld2
        try simp only [Act.put, List.setIfInBounds_toArray, List.set_cons_zero, List.set_cons_succ]
        refine wpAnyH_take (oi := ⟨_, _, _, _, _, _⟩) (i := 9) (v := ?_) rfl (by kernel_rfl) (by kernel_rfl) (by kernel_rfl) (fun _ _ _ h => h) (Or.inl ⟨by rfl, ?yb9⟩) (by assumption) ?rb9
        case yb9 => (intro w hSw; (try dsimp only at hSw); go_simp; (try with_reducible rfl))
        try simp only [Act.put, List.setIfInBounds_toArray, List.set_cons_zero, List.set_cons_succ]
        refine wpAnyH_done (by kernel_rfl) ?_ _
        have B3 := Lib.hid (BB.out.trans (hHeld.2.2.out.mono (by rw [← HG.out]; exact BB.out.size)))
        clear hHeld K CL hx hy
        go_wp2
        go_roundw
        case rel => exact ⟨k + 1, by omega, by go_num, HE3, B3⟩
        case measure => simp [intOf]; omega
    · obtain rfl : k = n := by omega
      have E := Lib.hid (SY.out HE.out)
      go_wp2
      go_ret
      exact ⟨by rw [E.out]; rfl, BB.out⟩
end Go.Proofs.Ytpfkkjgklhcejaa
