/- Classes of nets: places with common consumers. -/
import Derived.Test.YtlbcdnobpnllkaaGreatKB
import Derived.Test.YtlbcdnobpnllkaaGreatDgM1
import Derived.BigQuiet
import Derived.Deep.QuietTactic
namespace Go.Proofs.YtlbcdnobpnllkaaGreat
open Go.RowKit Go.Deep

def eqL (a b : List Int) : Bool := decide (a = b)
theorem eqL_no {a b : List Int} {k : Nat} (hk : k < a.length) (h : at0 a k ≠ at0 b k) : eqL a b = false := decide_eq_false fun e => h (by rw [e])
theorem eqL_len {a b : List Int} (h : a.length ≠ b.length) : eqL a b = false := decide_eq_false fun e => h (by rw [e])
theorem eqL_yes {a b : List Int} (h : a.length = b.length) (h2 : ∀ k, k < a.length → at0 a k = at0 b k) : eqL a b = true := decide_eq_true (List.ext_getElem h fun k h3 h4 => by
  have := h2 k h3
  unfold at0 at this
  rw [List.getElem?_eq_getElem h3, List.getElem?_eq_getElem h4] at this
  simpa using this)
set_option maxHeartbeats 1000000 in
theorem eqi_any (A B : Option Addr) (a b : List Int) (ca cb : Nat) (w : World) (ra : ReadsV w A a) (rb : ReadsV w B b) (hl : a.length ≤ 1000) :
    Calls Tryz.prog 63 #[.slice A a.length ca, .slice B b.length cb] w (VPost w.heap.size w (.bool (eqL a b))) := by
  by_cases hab : a.length = b.length
  case neg =>
    rw [eqL_len hab]
    have h2 : ((a.length : Int) != (b.length : Int)) = true := by simp; omega
    clear ra rb
    generalize a.length = n at *
    generalize b.length = m at *
    go_enter Tryz.func63, Tryz.ntmps63
    go_wp2
    go_ret
    exact ⟨rfl, Below.refl _ _⟩
  have RA := Lib.hid ra
  have RB := Lib.hid rb
  clear ra rb
  have SN : Hid (∀ k, k < a.length → at0 a k ≠ at0 b k → eqL a b = false) := fun k hk h => eqL_no hk h
  have SY : Hid ((∀ k, k < a.length → at0 a k = at0 b k) → eqL a b = true) := eqL_yes hab
  generalize eqL a b = S at *
  rw [← hab]
  generalize hg : w.heap.size = g at *
  have HG := Lib.hid hg
  clear hg
  have HAB := Lib.hid hab
  clear hab
  generalize hn : a.length = n at *
  have HN := Lib.hid hn
  clear hn
  have hne : ((n : Int) != (n : Int)) = false := by simp
  go_enter Tryz.func63, Tryz.ntmps63
  go_wp2_with fail
  go_loopw [13] (fun q wr => ∃ k : Nat, k ≤ n ∧ q = .int .i64 k ∧ Hid (∀ j, j < k → at0 a j = at0 b j) ∧ Hid (Below g w wr)) (fun q _ => n - (intOf q).toNat)
  case atStart => exact ⟨0, by omega, rfl, fun j hj => absurd hj (by omega), Below.refl _ _⟩
  case round =>
    obtain ⟨k, hk, rfl, HE, B1⟩ := hrel
    by_cases hlt : k < n
    · obtain ⟨ba, oa, e1, hx⟩ := at_of_reads (RA.out.below B1.out (by rw [HG.out]; exact Nat.le_refl _)) k (by rw [HN.out]; exact hlt)
      subst e1
      obtain ⟨bb, ob, e2, hy⟩ := at_of_reads (RB.out.below B1.out (by rw [HG.out]; exact Nat.le_refl _)) k (by rw [← HAB.out]; exact hlt)
      subst e2
      have MK := Lib.hid (SN.out k hlt)
      have HE2 : Hid (at0 a k = at0 b k → ∀ j, j < k + 1 → at0 a j = at0 b j) := fun h j hj => by
        by_cases e : j < k
        · exact HE.out j e
        · obtain rfl : j = k := by omega
          exact h
      generalize at0 a k = x at *
      generalize at0 b k = y at *
      by_cases hxy : x = y
      · have HE3 := Lib.hid (HE2.out hxy)
        subst hxy
        clear HE2 MK
        go_wp2_with fail
        go_quiet (fail)
        go_wp2
        go_roundw
        case rel => exact ⟨k + 1, by omega, by go_num, HE3, below_drewN B1.out _⟩
        case measure => simp [intOf]; omega
      · have E := Lib.hid (MK.out hxy)
        have hb : (x != y) = true := by simpa using hxy
        clear HE2 MK hxy
        go_wp2_with fail
        go_quiet (fail)
        go_wp2
        go_ret
        exact ⟨by rw [E.out]; rfl, below_drewN B1.out _⟩
    · obtain rfl : k = n := by omega
      have E := Lib.hid (SY.out HE.out)
      go_wp2
      go_ret
      exact ⟨by rw [E.out]; rfl, B1.out⟩
set_option maxHeartbeats 1000000 in
set_option maxRecDepth 100000 in
theorem as11_any (A B : Option Addr) (a b : List Int) (ca cb : Nat) (w : World) (ra : ReadsV w A a) (rb : ReadsV w B b) (hl : a.length ≤ 1000) (hm : b.length ≤ 1000) :
    Calls Tryz.prog 67 #[.slice A a.length ca, .slice B b.length cb] w (VPost w.heap.size w (.bool (amoB a b || amoB b a))) := by
  have C1 := Lib.hid (among_any A B a b ca cb w ra rb hl hm)
  have C2 := Lib.hid fun W (hW : Below w.heap.size w W) => among_any B A b a cb ca W (rb.below hW (Nat.le_refl _)) (ra.below hW (Nat.le_refl _)) hm hl
  clear ra rb
  generalize amoB a b = x at *
  generalize amoB b a = y at *
  go_enter Tryz.func67, Tryz.ntmps67
  go_wp2_with fail
  refine C1.out.mono ?_
  rintro e w1 ⟨rfl, K1⟩
  have K1 := Lib.hid K1
  clear C1
  cases x
  · go_wp2_with fail
    refine (C2.out _ K1.out).mono ?_
    rintro e w2 ⟨rfl, K2⟩
    have B2 := Lib.hid (K1.out.trans (K2.mono K1.out.size))
    clear K2 C2
    go_wp2
    go_ret
    exact ⟨rfl, B2.out⟩
  · clear C2
    go_wp2
    go_ret
    exact ⟨rfl, K1.out⟩
theorem row_slice {w : World} {T N : Nat} {te : TypeId} {f : Nat → Value} (hT : w.rowIs T te N f) (hf : ∀ i, i < N → ∃ A m c, f i = .slice A m c) {A : Option Addr} {zs : List Int} (h : ReadsV w A zs) (hz : zs ≠ []) {b off : Nat} (e : A = some ⟨b, off, none⟩) : b ≠ T := fun c => by
  have h0 : 0 < zs.length := List.length_pos_iff.2 hz
  obtain ⟨b', off', e', _, h2⟩ := h 0 h0
  rw [e] at e'
  injection e' with e'
  injection e' with e1 e2
  subst e1 e2
  subst c
  obtain ⟨cs, hb, hn, hc⟩ := hT
  by_cases hi : off + 0 < N
  · obtain ⟨A2, m, c2, e3⟩ := hf _ hi
    have h3 := hc _ hi
    simp [World.cell?, hb] at h2
    rw [e3] at h3
    simp at h3
    rw [h2] at h3
    simp at h3
  · have : cs[off + 0]? = none := Array.getElem?_eq_none (by omega)
    simp [World.cell?, hb] at h2
    simp at this
    have h4 := Array.getElem?_eq_some_iff.1 h2
    obtain ⟨h5, _⟩ := h4
    omega
theorem ReadsV.put {w : World} {T N : Nat} {te : TypeId} {f : Nat → Value} {A : Option Addr} {zs : List Int} (h : ReadsV w A zs) (hT : w.rowIs T te N f) (hf : ∀ i, i < N → ∃ A m c, f i = .slice A m c) (i : Nat) (v : Value) : ReadsV (w.setCell ⟨T, i, none⟩ v) A zs := fun j hj => by
  obtain ⟨b, off, e, h1, h2⟩ := h j hj
  have hb := row_slice hT hf h (fun c => by rw [c] at hj; exact absurd hj (by simp)) e
  exact ⟨b, off, e, by rw [nblk_setCell]; exact h1, (World.cell?_of_block (w := w) (a := ⟨b, off + j, none⟩) (blk_setCell_other _ _ _ _ hb)).trans h2⟩
/-- rows that are laid one after another -/
structure ConR (w : World) (T P k : Nat) (AA : Nat → Option Addr) (KK : Nat → Nat) (L : Nat → List Int) : Prop where
  row : w.rowIs T 34 P (fun i => if i < k then .slice (AA i) (L i).length (KK i) else .slice none 0 0)
  rd : ∀ i, i < k → ReadsV w (AA i) (L i)
theorem ConR.sl (k : Nat) (AA : Nat → Option Addr) (KK : Nat → Nat) (L : Nat → List Int) (P : Nat) : ∀ i, i < P → ∃ A m c, (if i < k then Value.slice (AA i) (L i).length (KK i) else .slice none 0 0) = .slice A m c := fun i _ => by
  split
  · exact ⟨_, _, _, rfl⟩
  · exact ⟨_, _, _, rfl⟩
theorem ConR.below {w w' : World} {T P k : Nat} {AA : Nat → Option Addr} {KK : Nat → Nat} {L : Nat → List Int} (h : ConR w T P k AA KK L) (hb : Below w.heap.size w w') : ConR w' T P k AA KK L := ⟨h.row.of_block (hb.block _ h.row.lt), fun i hi => (h.rd i hi).below hb (Nat.le_refl _)⟩
theorem ConR.start (w : World) (P : Nat) (L : Nat → List Int) : ConR (w.alloc (.cells (madeCells #[.slice none 0 0] P) 34)) w.heap.size P 0 (fun _ => none) (fun _ => 0) L := ⟨(World.rowIs_made w (.slice none 0 0) P 34).congr fun i _ => by rw [if_neg (by omega)], fun i hi => absurd hi (by omega)⟩
theorem ConR.step {w : World} {T P k c : Nat} {AA : Nat → Option Addr} {KK : Nat → Nat} {L : Nat → List Int} {A : Option Addr} (h : ConR w T P k AA KK L) (hr : ReadsV w A (L k)) : ConR (w.setCell ⟨T, k, none⟩ (.slice A (L k).length c)) T P (k + 1) (fun i => if i = k then A else AA i) (fun i => if i = k then c else KK i) L where
  row := (h.row.set k (.slice A (L k).length c)).congr fun i _ => by
    by_cases e : i = k
    · subst e; simp
    · by_cases e2 : i < k
      · simp [e, e2, Nat.lt_succ_of_lt e2]
      · have e3 : ¬ i < k + 1 := by omega
        simp [e, e2, e3]
  rd := fun i hi => by
    by_cases e : i = k
    · subst e
      rw [if_pos rfl]
      exact hr.put h.row (ConR.sl _ _ _ _ _) _ _
    · rw [if_neg e]
      exact (h.rd i (by omega)).put h.row (ConR.sl _ _ _ _ _) _ _
def fitF (n : NetV) (R : List Int → List Int → Bool) (i j : Nat) : Bool := comB (consumersN n i) (consumersN n j) && !R (consumersN n i) (consumersN n j)
def relF (n : NetV) (R : List Int → List Int → Bool) (i : Nat) : Bool := anyB (fitF n R i) i
def relV (n : NetV) (R : List Int → List Int → Bool) : Bool := !anyB (relF n R) n.ps.length
theorem relV_no {n : NetV} {R : List Int → List Int → Bool} {i j : Nat} (hi : i < n.ps.length) (hj : j < i) (h : fitF n R i j = true) : relV n R = false := by
  unfold relV
  rw [anyB_yes hi (by unfold relF; exact anyB_yes hj h)]
  rfl
theorem relV_yes {n : NetV} {R : List Int → List Int → Bool} (h : ∀ i, i < n.ps.length → ∀ j, j < i → fitF n R i j = false) : relV n R = true := by
  unfold relV
  rw [anyB_no fun i hi => by unfold relF; exact anyB_no fun j hj => h i hi j hj]
  rfl
theorem cons_few {n : NetV} (h : OkT n.ts) (p : Int) : (consumersN n p).length ≤ 1000 := by
  unfold consumersN
  split
  · have := pickI_len (conF n.ts p) n.ts.length
    have := h.1
    omega
  · exact Nat.zero_le _
theorem run_make_rowsI (n : Nat) (hn : n ≤ 100000) (w : World) : (Instr.makeSlice 30 (.int .i64 (n : Int)) (.int .i64 (n : Int))).run Tryz.prog w = .ok (.slice (some ⟨w.heap.size, 0, none⟩) n n) (w.alloc (.cells (madeCells #[.slice none 0 0] n) 34)) := Dg.run_make_rows n hn w

set_option maxHeartbeats 8000000 in
set_option maxRecDepth 100000 in
theorem relE_any (n : NetV) (w : World) (hr : NetR w n) :
    Calls Tryz.prog 62 #[(.agg #[.string n.nm, .slice n.PA n.ps.length n.pc, .slice n.TA n.ts.length n.tc]), .func (.func 63) #[] #[]] w (VPost w.heap.size w (.bool (relV n eqL))) := by
  have hpl := hr.okp.1
  have hmk := run_make_rowsI n.ps.length (by omega)
  have CC := Lib.hid fun (p : Int) W (hW : Below w.heap.size w W) => consumersN_any n p W (hr.below hW (Nat.le_refl _))
  have MY : Hid (∀ i, i < n.ps.length → ∀ j, j < i → fitF n eqL i j = true → relV n eqL = false) := fun i hi j hj h => relV_no hi hj h
  have MN : Hid ((∀ i, i < n.ps.length → ∀ j, j < i → fitF n eqL i j = false) → relV n eqL = true) := relV_yes
  have LC : Hid (∀ p : Nat, (consumersN n p).length ≤ 1000) := fun p => cons_few hr.okt p
  have CM : Hid (∀ A B (l m : List Int) c cm W, ReadsV W A l → ReadsV W B m → l.length ≤ 1000 → m.length ≤ 1000 → Calls Tryz.prog 70 #[.slice A l.length c, .slice B m.length cm] W (VPost W.heap.size W (.bool (comB l m)))) := fun A B l m c cm W h1 h2 h3 h4 => common_any A B l m c cm W h1 h2 h3 h4
  have CR : Hid (∀ A B (l m : List Int) c cm W, ReadsV W A l → ReadsV W B m → l.length ≤ 1000 → m.length ≤ 1000 → Calls Tryz.prog 63 #[.slice A l.length c, .slice B m.length cm] W (VPost W.heap.size W (.bool (eqL l m)))) := fun A B l m c cm W h1 h2 h3 h4 => eqi_any A B l m c cm W h1 h2 h3
  have FD : Hid (∀ i j : Nat, fitF n eqL i j = (comB (consumersN n i) (consumersN n j) && !eqL (consumersN n i) (consumersN n j))) := fun _ _ => rfl
  have B0 : Hid (Below w.heap.size w ((w.alloc (.cells #[.string n.nm, .slice n.PA n.ps.length n.pc, .slice n.TA n.ts.length n.tc] 25)).alloc (.cells (madeCells #[.slice none 0 0] n.ps.length) 34))) := ((Below.refl _ _).alloc (Nat.le_refl _) _).alloc (by simp) _
  have N0 : Hid (NBox ((w.alloc (.cells #[.string n.nm, .slice n.PA n.ps.length n.pc, .slice n.TA n.ts.length n.tc] 25)).alloc (.cells (madeCells #[.slice none 0 0] n.ps.length) 34)) w.heap.size n) := (NBox.new w n).below (B := w.heap.size + 1) ((Below.refl _ _).alloc (by simp) _) (by omega)
  have R0 : Hid (ConR ((w.alloc (.cells #[.string n.nm, .slice n.PA n.ps.length n.pc, .slice n.TA n.ts.length n.tc] 25)).alloc (.cells (madeCells #[.slice none 0 0] n.ps.length) 34)) (w.heap.size + 1) n.ps.length 0 (fun _ => none) (fun _ => 0) (fun p => consumersN n (p : Nat))) := by
    have h := ConR.start (w.alloc (.cells #[.string n.nm, .slice n.PA n.ps.length n.pc, .slice n.TA n.ts.length n.tc] 25)) n.ps.length (fun p => consumersN n (p : Nat))
    rw [World.size_alloc] at h
    exact h
  clear hr
  unfold IsPost at *
  generalize relV n eqL = V at *
  generalize fitF n eqL = F at *
  go_enter Tryz.func62, Tryz.ntmps62
  go_wp2_with fail
  go_loopw [18] (fun q wr => ∃ (k : Nat) (AA : Nat → Option Addr) (KK : Nat → Nat), k ≤ n.ps.length ∧ q = .int .i64 (k : Nat) ∧ Hid (NBox wr w.heap.size n) ∧ Hid (Below w.heap.size w wr) ∧ Hid (ConR wr (w.heap.size + 1) n.ps.length k AA KK (fun p => consumersN n (p : Nat)))) (fun q _ => n.ps.length - (intOf q).toNat)
  case atStart => exact ⟨0, _, _, by omega, rfl, N0, B0, R0⟩
  case round =>
    clear N0 B0 R0
    obtain ⟨wo, rfl⟩ : ∃ wo, wo = wr := ⟨_, rfl⟩
    obtain ⟨k, AA, KK, hk, rfl, NB, BB, CX⟩ := hrel
    have hsz := CX.out.row.lt
    by_cases hlt : k < n.ps.length
    · obtain ⟨c0, c1, c2⟩ := NB.out
      have CCk := Lib.hid (CC.out (k : Int) wo BB.out)
      clear CC MY MN LC CM CR FD
      have CSt : Hid (∀ w1, Below wo.heap.size wo w1 → ∀ A c, ReadsV w1 A (consumersN n (k : Nat)) → NBox (w1.setCell ⟨w.heap.size + 1, k, none⟩ (.slice A (consumersN n (k : Nat)).length c)) w.heap.size n ∧ Below w.heap.size w (w1.setCell ⟨w.heap.size + 1, k, none⟩ (.slice A (consumersN n (k : Nat)).length c)) ∧ ConR (w1.setCell ⟨w.heap.size + 1, k, none⟩ (.slice A (consumersN n (k : Nat)).length c)) (w.heap.size + 1) n.ps.length (k + 1) (fun i => if i = k then A else AA i) (fun i => if i = k then c else KK i) (fun p => consumersN n (p : Nat)) ∧ (∃ u, w1.cell? ⟨w.heap.size + 1, k, none⟩ = some u) ∧ w1.frozen? ⟨w.heap.size + 1, k, none⟩ = false) := fun w1 hb A c hr1 => by
        have C1 := CX.out.below hb
        have N1 := NB.out.below hb (show w.heap.size < wo.heap.size by omega)
        have B1 := BB.out.trans (hb.mono BB.out.size)
        exact ⟨N1.below (B := w.heap.size + 1) ((Below.refl (w.heap.size + 1) w1).setCell (p := ⟨w.heap.size + 1, k, none⟩) (Nat.le_refl _) _) (by omega), B1.setCell (by show _ ≤ w.heap.size + 1; omega) _, C1.step hr1, ⟨_, C1.row.cell hlt⟩, C1.row.frozen k⟩
      clear CX NB
      generalize consumersN n (k : Nat) = LK at *
      go_wp2_with fail
      refine CCk.out.mono ?_
      rintro e w1 ⟨A1, m1, rfl, R1, K1⟩
      obtain ⟨x1, x2, x3, ⟨u, x4⟩, x5⟩ := CSt.out w1 K1 A1 m1 R1
      have N2 := Lib.hid x1
      have B2 := Lib.hid x2
      have C2 := Lib.hid x3
      clear x1 x2 x3 c0 c1 c2 CCk CSt K1 R1
      go_wp2
      go_roundw
      case rel => exact ⟨k + 1, _, _, by omega, by go_num, N2, B2, C2⟩
      case measure => simp [intOf]; omega
    · have hkP : k = n.ps.length := by omega
      rw [hkP] at CX
      have CXX := CX
      have BBB := BB
      clear CX NB CC BB hmk
      generalize n.ps.length = P at *
      have hnk : ¬ (k : Int) < (P : Int) := by omega
      clear hkP hlt hk
      have RW : Hid (∀ W, Below wo.heap.size wo W → ∀ i, i < P → W.cell? ⟨w.heap.size + 1, i, none⟩ = some (.slice (AA i) (consumersN n (i : Nat)).length (KK i)) ∧ ReadsV W (AA i) (consumersN n (i : Nat))) := fun W hW i hi => by
        have h := CXX.out.below hW
        have h2 := h.row.cell hi
        rw [if_pos hi] at h2
        exact ⟨h2, h.rd i hi⟩
      have RB : Hid (∀ W, Below wo.heap.size wo W → Below w.heap.size w W) := fun W hW => BBB.out.trans (hW.mono BBB.out.size)
      have K0 : Hid (Below wo.heap.size wo wo) := Below.refl _ _
      have G0 : Hid (∀ i, i < 0 → ∀ j, j < i → F i j = false) := fun i hi => absurd hi (by omega)
      clear CXX BBB
      go_wp2_with fail
      go_loopw [30] (fun q wr => ∃ i : Nat, i ≤ P ∧ q = .int .i64 (i : Nat) ∧ Hid (∀ i', i' < i → ∀ j, j < i' → F i' j = false) ∧ Hid (Below wo.heap.size wo wr)) (fun q _ => P - (intOf q).toNat)
      case atStart => exact ⟨0, by omega, rfl, G0, K0⟩
      case round =>
        clear G0 K0
        obtain ⟨wp, rfl⟩ : ∃ wp, wp = wr := ⟨_, rfl⟩
        obtain ⟨i, hi, rfl, HG, HB⟩ := hrel
        by_cases hli : i < P
        · obtain ⟨d0, r0⟩ := RW.out _ HB.out i hli
          have MYi := Lib.hid (MY.out i hli)
          have FDi := Lib.hid (FD.out i)
          have li := LC.out i
          have G1 : Hid ((∀ j, j < i → F i j = false) → ∀ i', i' < i + 1 → ∀ j, j < i' → F i' j = false) := fun h i' hi' j hj => by
            by_cases e : i' = i
            · subst e; exact h j hj
            · exact HG.out i' (by omega) j hj
          have RI : Hid (∀ W, Below wo.heap.size wo W → ReadsV W (AA i) (consumersN n (i : Nat))) := fun W hW => (RW.out W hW i hli).2
          have G0 : Hid (∀ j, j < 0 → F i j = false) := fun j hj => absurd hj (by omega)
          clear HG MY MN FD r0
          generalize AA i = AI at *
          generalize KK i = KI at *
          generalize consumersN n (i : Nat) = LI at *
          go_wp2_with fail
          go_loopw [39] (fun q wr => ∃ j : Nat, j ≤ i ∧ q = .int .i64 (j : Nat) ∧ Hid (∀ j', j' < j → F i j' = false) ∧ Hid (Below wo.heap.size wo wr)) (fun q _ => i - (intOf q).toNat)
          case atStart => exact ⟨0, by omega, rfl, G0, HB⟩
          case round =>
            clear G0 HB d0
            obtain ⟨j, hj, rfl, HJ, HB⟩ := hrel
            by_cases hlj : j < i
            · obtain ⟨d1, r1⟩ := RW.out _ HB.out j (by omega)
              have lj := LC.out j
              have MYj := Lib.hid (MYi.out j hlj)
              have FDj := Lib.hid (FDi.out j)
              have C1 := Lib.hid (CM.out AI (AA j) LI (consumersN n (j : Nat)) KI (KK j) wr (RI.out _ HB.out) r1 li lj)
              have C2 : Hid (∀ W, Below wr.heap.size wr W → Calls Tryz.prog 63 #[.slice AI LI.length KI, .slice (AA j) (consumersN n (j : Nat)).length (KK j)] W (VPost W.heap.size W (.bool (eqL LI (consumersN n (j : Nat)))))) := fun W hW => CR.out AI (AA j) LI (consumersN n (j : Nat)) KI (KK j) W ((RI.out _ HB.out).below hW (Nat.le_refl _)) (r1.below hW (Nat.le_refl _)) li lj
              have HJ2 : Hid (F i j = false → ∀ j', j' < j + 1 → F i j' = false) := fun h j' hj' => by
                by_cases e : j' = j
                · rw [e]; exact h
                · exact HJ.out j' (by omega)
              have BT := Lib.hid fun W (hW : Below wr.heap.size wr W) => HB.out.trans (hW.mono HB.out.size)
              clear RW LC CM CR r1 HJ MYi FDi RI HB G1
              generalize consumersN n (j : Nat) = LJ at *
              generalize AA j = AJ at *
              generalize KK j = KJ at *
              generalize comB LI LJ = t1 at *
              generalize (eqL LI LJ) = t2 at *
              go_wp2_with fail
              refine C1.out.mono ?_
              rintro e w1 ⟨rfl, K1⟩
              have K1 := Lib.hid K1
              clear C1
              cases t1
              · have HB1 := Lib.hid (BT.out _ K1.out)
                have HJ3 := Lib.hid (HJ2.out FDj.out)
                clear HJ2 MYj FDj C2 BT
                go_wp2
                go_roundw
                case rel => exact ⟨j + 1, by omega, by go_num, HJ3, HB1⟩
                case measure => simp [intOf]; omega
              · have C3 := Lib.hid (C2.out _ K1.out)
                clear C2
                go_wp2_with fail
                refine C3.out.mono ?_
                rintro e w2 ⟨rfl, K2⟩
                have HB2 := Lib.hid (BT.out _ (K1.out.trans (K2.mono K1.out.size)))
                clear K2 C3 BT
                cases t2
                · have E := Lib.hid (MYj.out FDj.out)
                  have BF := Lib.hid (RB.out _ HB2.out)
                  clear HJ2 MYj FDj
                  go_wp2
                  go_ret
                  exact ⟨by rw [E.out]; rfl, BF.out⟩
                · have HJ3 := Lib.hid (HJ2.out FDj.out)
                  clear HJ2 MYj FDj
                  go_wp2
                  go_roundw
                  case rel => exact ⟨j + 1, by omega, by go_num, HJ3, HB2⟩
                  case measure => simp [intOf]; omega
            · have hji : j = i := by omega
              rw [hji] at HJ
              have G2 := Lib.hid (G1.out HJ.out)
              clear G1 HJ MYi FDi RI hji
              go_wp2
              go_roundw
              case rel => exact ⟨i + 1, by omega, by go_num, G2, HB⟩
              case measure => simp [intOf]; omega
        · have E := Lib.hid (MN.out fun i' h1 => HG.out i' (by omega))
          have BF := Lib.hid (RB.out _ HB.out)
          clear MN MY HG RW FD
          go_wp2
          go_ret
          exact ⟨by rw [E.out]; rfl, BF.out⟩
def asR (a b : List Int) : Bool := amoB a b || amoB b a

set_option maxHeartbeats 8000000 in
set_option maxRecDepth 100000 in
theorem relA_any (n : NetV) (w : World) (hr : NetR w n) :
    Calls Tryz.prog 62 #[(.agg #[.string n.nm, .slice n.PA n.ps.length n.pc, .slice n.TA n.ts.length n.tc]), .func (.func 67) #[] #[]] w (VPost w.heap.size w (.bool (relV n asR))) := by
  have hpl := hr.okp.1
  have hmk := run_make_rowsI n.ps.length (by omega)
  have CC := Lib.hid fun (p : Int) W (hW : Below w.heap.size w W) => consumersN_any n p W (hr.below hW (Nat.le_refl _))
  have MY : Hid (∀ i, i < n.ps.length → ∀ j, j < i → fitF n asR i j = true → relV n asR = false) := fun i hi j hj h => relV_no hi hj h
  have MN : Hid ((∀ i, i < n.ps.length → ∀ j, j < i → fitF n asR i j = false) → relV n asR = true) := relV_yes
  have LC : Hid (∀ p : Nat, (consumersN n p).length ≤ 1000) := fun p => cons_few hr.okt p
  have CM : Hid (∀ A B (l m : List Int) c cm W, ReadsV W A l → ReadsV W B m → l.length ≤ 1000 → m.length ≤ 1000 → Calls Tryz.prog 70 #[.slice A l.length c, .slice B m.length cm] W (VPost W.heap.size W (.bool (comB l m)))) := fun A B l m c cm W h1 h2 h3 h4 => common_any A B l m c cm W h1 h2 h3 h4
  have CR : Hid (∀ A B (l m : List Int) c cm W, ReadsV W A l → ReadsV W B m → l.length ≤ 1000 → m.length ≤ 1000 → Calls Tryz.prog 67 #[.slice A l.length c, .slice B m.length cm] W (VPost W.heap.size W (.bool (asR l m)))) := fun A B l m c cm W h1 h2 h3 h4 => as11_any A B l m c cm W h1 h2 h3 h4
  have FD : Hid (∀ i j : Nat, fitF n asR i j = (comB (consumersN n i) (consumersN n j) && !asR (consumersN n i) (consumersN n j))) := fun _ _ => rfl
  have B0 : Hid (Below w.heap.size w ((w.alloc (.cells #[.string n.nm, .slice n.PA n.ps.length n.pc, .slice n.TA n.ts.length n.tc] 25)).alloc (.cells (madeCells #[.slice none 0 0] n.ps.length) 34))) := ((Below.refl _ _).alloc (Nat.le_refl _) _).alloc (by simp) _
  have N0 : Hid (NBox ((w.alloc (.cells #[.string n.nm, .slice n.PA n.ps.length n.pc, .slice n.TA n.ts.length n.tc] 25)).alloc (.cells (madeCells #[.slice none 0 0] n.ps.length) 34)) w.heap.size n) := (NBox.new w n).below (B := w.heap.size + 1) ((Below.refl _ _).alloc (by simp) _) (by omega)
  have R0 : Hid (ConR ((w.alloc (.cells #[.string n.nm, .slice n.PA n.ps.length n.pc, .slice n.TA n.ts.length n.tc] 25)).alloc (.cells (madeCells #[.slice none 0 0] n.ps.length) 34)) (w.heap.size + 1) n.ps.length 0 (fun _ => none) (fun _ => 0) (fun p => consumersN n (p : Nat))) := by
    have h := ConR.start (w.alloc (.cells #[.string n.nm, .slice n.PA n.ps.length n.pc, .slice n.TA n.ts.length n.tc] 25)) n.ps.length (fun p => consumersN n (p : Nat))
    rw [World.size_alloc] at h
    exact h
  clear hr
  unfold IsPost at *
  generalize relV n asR = V at *
  generalize fitF n asR = F at *
  go_enter Tryz.func62, Tryz.ntmps62
  go_wp2_with fail
  go_loopw [18] (fun q wr => ∃ (k : Nat) (AA : Nat → Option Addr) (KK : Nat → Nat), k ≤ n.ps.length ∧ q = .int .i64 (k : Nat) ∧ Hid (NBox wr w.heap.size n) ∧ Hid (Below w.heap.size w wr) ∧ Hid (ConR wr (w.heap.size + 1) n.ps.length k AA KK (fun p => consumersN n (p : Nat)))) (fun q _ => n.ps.length - (intOf q).toNat)
  case atStart => exact ⟨0, _, _, by omega, rfl, N0, B0, R0⟩
  case round =>
    clear N0 B0 R0
    obtain ⟨wo, rfl⟩ : ∃ wo, wo = wr := ⟨_, rfl⟩
    obtain ⟨k, AA, KK, hk, rfl, NB, BB, CX⟩ := hrel
    have hsz := CX.out.row.lt
    by_cases hlt : k < n.ps.length
    · obtain ⟨c0, c1, c2⟩ := NB.out
      have CCk := Lib.hid (CC.out (k : Int) wo BB.out)
      clear CC MY MN LC CM CR FD
      have CSt : Hid (∀ w1, Below wo.heap.size wo w1 → ∀ A c, ReadsV w1 A (consumersN n (k : Nat)) → NBox (w1.setCell ⟨w.heap.size + 1, k, none⟩ (.slice A (consumersN n (k : Nat)).length c)) w.heap.size n ∧ Below w.heap.size w (w1.setCell ⟨w.heap.size + 1, k, none⟩ (.slice A (consumersN n (k : Nat)).length c)) ∧ ConR (w1.setCell ⟨w.heap.size + 1, k, none⟩ (.slice A (consumersN n (k : Nat)).length c)) (w.heap.size + 1) n.ps.length (k + 1) (fun i => if i = k then A else AA i) (fun i => if i = k then c else KK i) (fun p => consumersN n (p : Nat)) ∧ (∃ u, w1.cell? ⟨w.heap.size + 1, k, none⟩ = some u) ∧ w1.frozen? ⟨w.heap.size + 1, k, none⟩ = false) := fun w1 hb A c hr1 => by
        have C1 := CX.out.below hb
        have N1 := NB.out.below hb (show w.heap.size < wo.heap.size by omega)
        have B1 := BB.out.trans (hb.mono BB.out.size)
        exact ⟨N1.below (B := w.heap.size + 1) ((Below.refl (w.heap.size + 1) w1).setCell (p := ⟨w.heap.size + 1, k, none⟩) (Nat.le_refl _) _) (by omega), B1.setCell (by show _ ≤ w.heap.size + 1; omega) _, C1.step hr1, ⟨_, C1.row.cell hlt⟩, C1.row.frozen k⟩
      clear CX NB
      generalize consumersN n (k : Nat) = LK at *
      go_wp2_with fail
      refine CCk.out.mono ?_
      rintro e w1 ⟨A1, m1, rfl, R1, K1⟩
      obtain ⟨x1, x2, x3, ⟨u, x4⟩, x5⟩ := CSt.out w1 K1 A1 m1 R1
      have N2 := Lib.hid x1
      have B2 := Lib.hid x2
      have C2 := Lib.hid x3
      clear x1 x2 x3 c0 c1 c2 CCk CSt K1 R1
      go_wp2
      go_roundw
      case rel => exact ⟨k + 1, _, _, by omega, by go_num, N2, B2, C2⟩
      case measure => simp [intOf]; omega
    · have hkP : k = n.ps.length := by omega
      rw [hkP] at CX
      have CXX := CX
      have BBB := BB
      clear CX NB CC BB hmk
      generalize n.ps.length = P at *
      have hnk : ¬ (k : Int) < (P : Int) := by omega
      clear hkP hlt hk
      have RW : Hid (∀ W, Below wo.heap.size wo W → ∀ i, i < P → W.cell? ⟨w.heap.size + 1, i, none⟩ = some (.slice (AA i) (consumersN n (i : Nat)).length (KK i)) ∧ ReadsV W (AA i) (consumersN n (i : Nat))) := fun W hW i hi => by
        have h := CXX.out.below hW
        have h2 := h.row.cell hi
        rw [if_pos hi] at h2
        exact ⟨h2, h.rd i hi⟩
      have RB : Hid (∀ W, Below wo.heap.size wo W → Below w.heap.size w W) := fun W hW => BBB.out.trans (hW.mono BBB.out.size)
      have K0 : Hid (Below wo.heap.size wo wo) := Below.refl _ _
      have G0 : Hid (∀ i, i < 0 → ∀ j, j < i → F i j = false) := fun i hi => absurd hi (by omega)
      clear CXX BBB
      go_wp2_with fail
      go_loopw [30] (fun q wr => ∃ i : Nat, i ≤ P ∧ q = .int .i64 (i : Nat) ∧ Hid (∀ i', i' < i → ∀ j, j < i' → F i' j = false) ∧ Hid (Below wo.heap.size wo wr)) (fun q _ => P - (intOf q).toNat)
      case atStart => exact ⟨0, by omega, rfl, G0, K0⟩
      case round =>
        clear G0 K0
        obtain ⟨wp, rfl⟩ : ∃ wp, wp = wr := ⟨_, rfl⟩
        obtain ⟨i, hi, rfl, HG, HB⟩ := hrel
        by_cases hli : i < P
        · obtain ⟨d0, r0⟩ := RW.out _ HB.out i hli
          have MYi := Lib.hid (MY.out i hli)
          have FDi := Lib.hid (FD.out i)
          have li := LC.out i
          have G1 : Hid ((∀ j, j < i → F i j = false) → ∀ i', i' < i + 1 → ∀ j, j < i' → F i' j = false) := fun h i' hi' j hj => by
            by_cases e : i' = i
            · subst e; exact h j hj
            · exact HG.out i' (by omega) j hj
          have RI : Hid (∀ W, Below wo.heap.size wo W → ReadsV W (AA i) (consumersN n (i : Nat))) := fun W hW => (RW.out W hW i hli).2
          have G0 : Hid (∀ j, j < 0 → F i j = false) := fun j hj => absurd hj (by omega)
          clear HG MY MN FD r0
          generalize AA i = AI at *
          generalize KK i = KI at *
          generalize consumersN n (i : Nat) = LI at *
          go_wp2_with fail
          go_loopw [39] (fun q wr => ∃ j : Nat, j ≤ i ∧ q = .int .i64 (j : Nat) ∧ Hid (∀ j', j' < j → F i j' = false) ∧ Hid (Below wo.heap.size wo wr)) (fun q _ => i - (intOf q).toNat)
          case atStart => exact ⟨0, by omega, rfl, G0, HB⟩
          case round =>
            clear G0 HB d0
            obtain ⟨j, hj, rfl, HJ, HB⟩ := hrel
            by_cases hlj : j < i
            · obtain ⟨d1, r1⟩ := RW.out _ HB.out j (by omega)
              have lj := LC.out j
              have MYj := Lib.hid (MYi.out j hlj)
              have FDj := Lib.hid (FDi.out j)
              have C1 := Lib.hid (CM.out AI (AA j) LI (consumersN n (j : Nat)) KI (KK j) wr (RI.out _ HB.out) r1 li lj)
              have C2 : Hid (∀ W, Below wr.heap.size wr W → Calls Tryz.prog 67 #[.slice AI LI.length KI, .slice (AA j) (consumersN n (j : Nat)).length (KK j)] W (VPost W.heap.size W (.bool (asR LI (consumersN n (j : Nat)))))) := fun W hW => CR.out AI (AA j) LI (consumersN n (j : Nat)) KI (KK j) W ((RI.out _ HB.out).below hW (Nat.le_refl _)) (r1.below hW (Nat.le_refl _)) li lj
              have HJ2 : Hid (F i j = false → ∀ j', j' < j + 1 → F i j' = false) := fun h j' hj' => by
                by_cases e : j' = j
                · rw [e]; exact h
                · exact HJ.out j' (by omega)
              have BT := Lib.hid fun W (hW : Below wr.heap.size wr W) => HB.out.trans (hW.mono HB.out.size)
              clear RW LC CM CR r1 HJ MYi FDi RI HB G1
              generalize consumersN n (j : Nat) = LJ at *
              generalize AA j = AJ at *
              generalize KK j = KJ at *
              generalize comB LI LJ = t1 at *
              generalize (asR LI LJ) = t2 at *
              go_wp2_with fail
              refine C1.out.mono ?_
              rintro e w1 ⟨rfl, K1⟩
              have K1 := Lib.hid K1
              clear C1
              cases t1
              · have HB1 := Lib.hid (BT.out _ K1.out)
                have HJ3 := Lib.hid (HJ2.out FDj.out)
                clear HJ2 MYj FDj C2 BT
                go_wp2
                go_roundw
                case rel => exact ⟨j + 1, by omega, by go_num, HJ3, HB1⟩
                case measure => simp [intOf]; omega
              · have C3 := Lib.hid (C2.out _ K1.out)
                clear C2
                go_wp2_with fail
                refine C3.out.mono ?_
                rintro e w2 ⟨rfl, K2⟩
                have HB2 := Lib.hid (BT.out _ (K1.out.trans (K2.mono K1.out.size)))
                clear K2 C3 BT
                cases t2
                · have E := Lib.hid (MYj.out FDj.out)
                  have BF := Lib.hid (RB.out _ HB2.out)
                  clear HJ2 MYj FDj
                  go_wp2
                  go_ret
                  exact ⟨by rw [E.out]; rfl, BF.out⟩
                · have HJ3 := Lib.hid (HJ2.out FDj.out)
                  clear HJ2 MYj FDj
                  go_wp2
                  go_roundw
                  case rel => exact ⟨j + 1, by omega, by go_num, HJ3, HB2⟩
                  case measure => simp [intOf]; omega
            · have hji : j = i := by omega
              rw [hji] at HJ
              have G2 := Lib.hid (G1.out HJ.out)
              clear G1 HJ MYi FDi RI hji
              go_wp2
              go_roundw
              case rel => exact ⟨i + 1, by omega, by go_num, G2, HB⟩
              case measure => simp [intOf]; omega
        · have E := Lib.hid (MN.out fun i' h1 => HG.out i' (by omega))
          have BF := Lib.hid (RB.out _ HB.out)
          clear MN MY HG RW FD
          go_wp2
          go_ret
          exact ⟨by rw [E.out]; rfl, BF.out⟩

set_option maxHeartbeats 1000000 in
theorem fc1_any (n : NetV) (w : World) (hr : NetR w n) :
    Calls Tryz.prog 61 #[(.agg #[.string n.nm, .slice n.PA n.ps.length n.pc, .slice n.TA n.ts.length n.tc])] w (VPost w.heap.size w (.bool (relV n eqL))) := by
  have C := Lib.hid (relE_any n (w.alloc (.cells #[.string n.nm, .slice n.PA n.ps.length n.pc, .slice n.TA n.ts.length n.tc] 25)) (hr.below (B := w.heap.size) ((Below.refl _ _).alloc (Nat.le_refl _) _) (Nat.le_refl _)))
  have B0 : Hid (Below w.heap.size w (w.alloc (.cells #[.string n.nm, .slice n.PA n.ps.length n.pc, .slice n.TA n.ts.length n.tc] 25))) := (Below.refl _ _).alloc (Nat.le_refl _) _
  clear hr
  generalize relV n eqL = t at *
  go_enter Tryz.func61, Tryz.ntmps61
  go_wp2_with fail
  refine C.out.mono ?_
  rintro e w1 ⟨rfl, K⟩
  have K2 := Lib.hid (B0.out.trans (K.mono (by rw [World.size_alloc]; omega)))
  clear K
  go_wp2
  go_ret
  exact ⟨rfl, K2.out⟩

set_option maxHeartbeats 1000000 in
theorem as1_any (n : NetV) (w : World) (hr : NetR w n) :
    Calls Tryz.prog 66 #[(.agg #[.string n.nm, .slice n.PA n.ps.length n.pc, .slice n.TA n.ts.length n.tc])] w (VPost w.heap.size w (.bool (relV n asR))) := by
  have C := Lib.hid (relA_any n (w.alloc (.cells #[.string n.nm, .slice n.PA n.ps.length n.pc, .slice n.TA n.ts.length n.tc] 25)) (hr.below (B := w.heap.size) ((Below.refl _ _).alloc (Nat.le_refl _) _) (Nat.le_refl _)))
  have B0 : Hid (Below w.heap.size w (w.alloc (.cells #[.string n.nm, .slice n.PA n.ps.length n.pc, .slice n.TA n.ts.length n.tc] 25))) := (Below.refl _ _).alloc (Nat.le_refl _) _
  clear hr
  generalize relV n asR = t at *
  go_enter Tryz.func66, Tryz.ntmps66
  go_wp2_with fail
  refine C.out.mono ?_
  rintro e w1 ⟨rfl, K⟩
  have K2 := Lib.hid (B0.out.trans (K.mono (by rw [World.size_alloc]; omega)))
  clear K
  go_wp2
  go_ret
  exact ⟨rfl, K2.out⟩
end Go.Proofs.YtlbcdnobpnllkaaGreat
