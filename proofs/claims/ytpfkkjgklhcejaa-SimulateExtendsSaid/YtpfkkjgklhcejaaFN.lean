/- Run, by the program and by the reference. -/
import Derived.Test.YtpfkkjgklhcejaaFY
import Derived.Deep.DeepCutAuto
import Derived.Deep.Cut
import Derived.Deep.CutBlock
import Derived.Deep.RegionWith
namespace Go.Proofs.Ytpfkkjgklhcejaa
open Go.RowKit

def runS (n : NetV) : List Int → List Int → Nat → List Int × Int × Int
  | m, [], _ => (m, 0, 0)
  | m, t :: r, i => if fireE n m t = 0 then runS n (fireL n m t) r (i + 1) else ([], fireE n m t, (i : Int))
def runV (n : NetV) (m seq : List Int) : List Int × Int × Int := if errN n m = 0 then runS n m seq 0 else ([], errN n m, 0)
def RunAt (n : NetV) (seq : List Int) (S : List Int × Int × Int) (k : Nat) (M : List Int) : Prop := runS n M (seq.drop k) k = S
theorem run_err {n : NetV} {m seq : List Int} (h : errN n m ≠ 0) : runV n m seq = ([], errN n m, 0) := by unfold runV; rw [if_neg h]
theorem run_start {n : NetV} {m seq : List Int} (h : errN n m = 0) : RunAt n seq (runV n m seq) 0 m := by
  unfold RunAt runV
  rw [if_pos h]
  rfl
theorem drop_at {seq : List Int} {k : Nat} (h : k < seq.length) : seq.drop k = at0 seq k :: seq.drop (k + 1) := by
  rw [List.drop_eq_getElem_cons h]
  unfold at0
  rw [List.getElem?_eq_getElem h]
  rfl
theorem run_step {n : NetV} {seq M : List Int} {S : List Int × Int × Int} {k : Nat} (h : RunAt n seq S k M) (hk : k < seq.length) (he : fireE n M (at0 seq k) = 0) : RunAt n seq S (k + 1) (fireL n M (at0 seq k)) := by
  unfold RunAt at h ⊢
  rw [drop_at hk] at h
  unfold runS at h
  rw [if_pos he] at h
  exact h
theorem run_stop {n : NetV} {seq M : List Int} {S : List Int × Int × Int} {k : Nat} (h : RunAt n seq S k M) (hk : k < seq.length) (he : fireE n M (at0 seq k) ≠ 0) : S = ([], fireE n M (at0 seq k), (k : Int)) := by
  unfold RunAt at h
  rw [drop_at hk] at h
  unfold runS at h
  rw [if_neg he] at h
  exact h.symm
theorem run_end {n : NetV} {seq M : List Int} {S : List Int × Int × Int} (h : RunAt n seq S seq.length M) : S = (M, 0, 0) := by
  unfold RunAt at h
  rw [List.drop_length] at h
  exact h.symm
theorem fire_goodN {n : NetV} {m : List Int} {t : Int} (h : goodN n m = true) (he : fireE n m t = 0) : goodN n (fireL n m t) = true := by
  have hz := errN_zero.2 h
  rw [(fire_good (t := t) hz).1] at he
  rw [(fire_good (t := t) hz).2]
  have hL : listF n m t = aftL n m t.toNat := by unfold listF; rw [if_pos he]
  rw [hL]
  unfold errF at he
  split at he
  · simp at he
  rename_i h1
  split at he
  · simp at he
  rename_i h2
  split at he
  · simp at he
  rename_i h3
  have h1 : inT n t = true := by simpa using h1
  have h2 : mayB n m t.toNat = true := by simpa using h2
  obtain ⟨i0, i1⟩ := inT_iff.1 h1
  unfold goodN at h ⊢
  rw [Bool.and_eq_true] at h ⊢
  have hx := okN_arcs h.1 t.toNat (by omega)
  have hv := aft_valid hx (may_ready h2)
  refine ⟨h.1, ?_⟩
  unfold validL
  have hl : (aftL n m t.toNat).length = n.ps.length := tab_len _ _
  rw [hl, hv, decide_eq_true rfl]
  simpa using h3
def FBox (w : World) (b : Nat) : Prop := w.cell? ⟨b, 0, none⟩ = some (.int .i64 0) ∧ w.cell? ⟨b, 1, none⟩ = some (.int .i64 0) ∧ ∀ o, w.frozen? ⟨b, o, none⟩ = false
theorem FBox.below {w w' : World} {b : Nat} (h : FBox w b) (hb : Below w.heap.size w w') : FBox w' b := ⟨keepc h.1 hb, keepc h.2.1 hb, fun o => (hb.frozen (p := ⟨b, o, none⟩) (show b < w.heap.size from World.block_lt_of_cell? w ⟨b, 0, none⟩ h.1)).trans (h.2.2 o)⟩
theorem fbox_new (w : World) (ob : Array Value) (t : TypeId) : FBox ((w.alloc (.cells ob t)).alloc (.cells #[.int .i64 0, .int .i64 0] 57)) (w.heap.size + 1) := ⟨by simp, by simp, fun o => by simp⟩
theorem cell_same {w : World} {p a : Addr} {u v : Value} (hp : w.cell? p = some v) (ha : w.cell? a = some u) : (w.setCell p v).cell? a = some u := by
  by_cases e : p = a
  · subst e
    rw [World.cell?_setCell_same' w p v (by rw [hp]; rfl), ← hp, ha]
  · rw [World.cell?_setCell_other _ _ _ _ e]
    exact ha
theorem ReadsV.same {w : World} {A : Option Addr} {M : List Int} {p : Addr} {v : Value} (h : ReadsV w A M) (hp : w.cell? p = some v) : ReadsV (w.setCell p v) A M := fun j hj => by
  obtain ⟨b, o, e, h1, h2⟩ := h j hj
  have e1 : (w.setCell p v).heap.size = w.heap.size := by simp [World.setCell]
  exact ⟨b, o, e, by rw [e1]; exact h1, cell_same hp h2⟩
theorem ReadsV.stored {w : World} {A : Option Addr} {M : List Int} {b : Nat} (h : ReadsV w A M) (hb : FBox w b) : ReadsV ((w.setCell ⟨b, 0, none⟩ (.int .i64 0)).setCell ⟨b, 1, none⟩ (.int .i64 0)) A M := (h.same hb.1).same (cell_same hb.1 hb.2.1)
theorem good_len {n : NetV} {m : List Int} (h : goodN n m = true) : m.length ≤ 24 := by
  unfold goodN at h
  rw [Bool.and_eq_true] at h
  have h1 := (validL_parts h.2).1
  have h2 := (okN_parts h.1).2.2.1
  omega

set_option maxHeartbeats 16000000 in
set_option maxRecDepth 100000 in
theorem rrun_any (n : NetV) (A : Option Addr) (m : List Int) (c : Nat) (Q : Option Addr) (seq : List Int) (sc : Nat) (w : World) (hr : NetR w n) (hm : ReadsV w A m) (hl : m.length ≤ 9223372036854775807) (hq : ReadsV w Q seq) (hql : seq.length ≤ 60) :
    Calls Try.prog 18 #[.agg #[.string n.nm, .slice n.PA n.ps.length n.pc, .slice n.TA n.ts.length n.tc], .slice A m.length c, .slice Q seq.length sc] w (PairPost w.heap.size w (runV n m seq).1 (.agg #[.int .i64 (runV n m seq).2.1, .int .i64 (runV n m seq).2.2])) := by
  have CK : Hid (∀ W, Below w.heap.size w W → Calls Try.prog 28 #[.agg #[.string n.nm, .slice n.PA n.ps.length n.pc, .slice n.TA n.ts.length n.tc]] W (FPost W.heap.size W (chkV n))) := fun W hW => rcheck_any n W (hr.below hW (Nat.le_refl _))
  have CV : Hid (∀ W, Below w.heap.size w W → Calls Try.prog 34 #[.slice A m.length c, .int .i64 n.ps.length] W (fun e w' => e = .returned (.bool (validL m n.ps.length)) ∧ Below W.heap.size W w')) := fun W hW => (rvalidn_law A m n.ps.length c W (hm.below hW (Nat.le_refl _)) hl).mono fun e w' h => ⟨h.1, by rw [← h.2]; exact Below.refl _ _⟩
  have CF : Hid (∀ W B M c' t, Below w.heap.size w W → ReadsV W B M → goodN n M = true → Calls Try.prog 36 #[.agg #[.string n.nm, .slice n.PA n.ps.length n.pc, .slice n.TA n.ts.length n.tc], .slice B M.length c', .int .i64 t] W (PairPost W.heap.size W (fireL n M t) (.int .i64 (fireE n M t)))) := fun W B M c' t hW h1 h2 => by
    exact rFire_any n B M c' t W (hr.below hW (Nat.le_refl _)) h1 (by have := good_len h2; omega)
  have HS := Lib.hid hq
  have CL : Hid (goodN n m = true → ∀ W, Below w.heap.size w W → Calls Try.prog 35 #[.slice A m.length c] W (IsPost W.heap.size W m)) := fun hg W hW => by
    have hm24 := good_len hg
    exact copy_any A m c W (hm.below hW (Nat.le_refl _)) (by omega)
  have B0 : Hid (Below w.heap.size w ((w.alloc (.cells #[.string n.nm, .slice n.PA n.ps.length n.pc, .slice n.TA n.ts.length n.tc] 25)).alloc (.cells #[.int .i64 0, .int .i64 0] 57))) := (((Below.refl _ _).alloc (Nat.le_refl _) _).alloc (by simp) _)
  have q0 : ((w.alloc (.cells #[.string n.nm, .slice n.PA n.ps.length n.pc, .slice n.TA n.ts.length n.tc] 25)).alloc (.cells #[.int .i64 0, .int .i64 0] 57)).cell? ⟨w.heap.size, 0, none⟩ = some (.string n.nm) := by simp
  have q1 : ((w.alloc (.cells #[.string n.nm, .slice n.PA n.ps.length n.pc, .slice n.TA n.ts.length n.tc] 25)).alloc (.cells #[.int .i64 0, .int .i64 0] 57)).cell? ⟨w.heap.size, 1, none⟩ = some (.slice n.PA n.ps.length n.pc) := by simp
  have q2 : ((w.alloc (.cells #[.string n.nm, .slice n.PA n.ps.length n.pc, .slice n.TA n.ts.length n.tc] 25)).alloc (.cells #[.int .i64 0, .int .i64 0] 57)).cell? ⟨w.heap.size, 2, none⟩ = some (.slice n.TA n.ts.length n.tc) := by simp
  have RB : Hid (FBox ((w.alloc (.cells #[.string n.nm, .slice n.PA n.ps.length n.pc, .slice n.TA n.ts.length n.tc] 25)).alloc (.cells #[.int .i64 0, .int .i64 0] 57)) (w.heap.size + 1)) := fbox_new w _ _
  have lg : w.heap.size ≤ w.heap.size + 1 := by omega
  by_cases h0 : (chkV n).1 = 0
  rotate_left
  · have E := errN_chk (m := m) h0
    rw [run_err (by rw [E]; exact h0), E]
    clear hr hm CV E CF CL
    generalize chkV n = cv at *
    obtain ⟨e0, e1⟩ := cv
    dsimp only at *
    have z0 : (e0 != 0) = true := by simpa using h0
    clear h0
    go_enter Try.func18, Try.ntmps18
    go_wp2_with fail
    refine (CK.out _ B0.out).mono ?_
    rintro e x1 ⟨rfl, K⟩
    have q0 := keepc q0 K
    have q1 := keepc q1 K
    have q2 := keepc q2 K
    have RB := Lib.hid (RB.out.below K)
    have Dx1 := Lib.hid (B0.out.trans (K.mono B0.out.size))
    clear K
    have Dx1a := Lib.hid (Dx1.out.alloc Dx1.out.size (.cells #[.int .i64 e0, .int .i64 e1] 57))
    have hz1 : w.heap.size + 1 < x1.heap.size := World.block_lt_of_cell? x1 _ RB.out.1
    have RB := Lib.hid (RB.out.below ((Below.refl _ _).alloc (Nat.le_refl _) (.cells #[.int .i64 e0, .int .i64 e1] 57)))
    obtain ⟨r0, r1, rf⟩ := RB.out
    have d0 : (x1.alloc (.cells #[.int .i64 e0, .int .i64 e1] 57)).cell? ⟨x1.heap.size, 0, none⟩ = some (.int .i64 e0) := by simp
    go_wp2_with fail
    have DW := Lib.hid Dx1a.out.drew
    generalize (x1.alloc (.cells #[.int .i64 e0, .int .i64 e1] 57)) = wx at *
    clear RB
    go_region
    go_wp2
    exact bodyPost_ret (v := .tuple #[.slice none 0 0, .agg #[.int .i64 e0, .int .i64 0]]) (by simp [results, Try.results18, go_sem, r0, r1]) rfl (by exact ⟨none, 0, rfl, ReadsV.nil _ _, by first | exact (Dx1a.out.setCell lg _).setCell lg _ | exact ((below_drewN Dx1a.out _).setCell lg _).setCell lg _ | exact (Dx1a.out.drew.setCell lg _).setCell lg _ | exact ((Dx1a.out.setCell lg _).setCell lg _).drew⟩)
  cases hv : validL m n.ps.length
  · have E := errN_size h0 hv
    rw [run_err (by rw [E]; decide), E]
    rw [hv] at CV
    clear hr hm E hv CF CL
    generalize chkV n = cv at *
    obtain ⟨e0, e1⟩ := cv
    dsimp only at *
    subst h0
    go_enter Try.func18, Try.ntmps18
    go_wp2_with fail
    refine (CK.out _ B0.out).mono ?_
    rintro e x1 ⟨rfl, K⟩
    have q0 := keepc q0 K
    have q1 := keepc q1 K
    have q2 := keepc q2 K
    have RB := Lib.hid (RB.out.below K)
    have Dx1 := Lib.hid (B0.out.trans (K.mono B0.out.size))
    clear K
    have Dx1a := Lib.hid (Dx1.out.alloc Dx1.out.size (.cells #[.int .i64 0, .int .i64 e1] 57))
    have hz1 : w.heap.size + 1 < x1.heap.size := World.block_lt_of_cell? x1 _ RB.out.1
    have RB := Lib.hid (RB.out.below ((Below.refl _ _).alloc (Nat.le_refl _) (.cells #[.int .i64 0, .int .i64 e1] 57)))
    have q0 := cellA q0 (.cells #[.int .i64 0, .int .i64 e1] 57)
    have q1 := cellA q1 (.cells #[.int .i64 0, .int .i64 e1] 57)
    have q2 := cellA q2 (.cells #[.int .i64 0, .int .i64 e1] 57)
    go_wp2_with fail
    refine (CV.out _ Dx1a.out).mono ?_
    rintro e x2 ⟨rfl, K⟩
    have q0 := keepc q0 K
    have q1 := keepc q1 K
    have q2 := keepc q2 K
    have RB := Lib.hid (RB.out.below K)
    have Dx2 := Lib.hid (Dx1a.out.trans (K.mono Dx1a.out.size))
    clear K
    obtain ⟨r0, r1, rf⟩ := RB.out
    go_wp2
    exact bodyPost_ret (v := .tuple #[.slice none 0 0, .agg #[.int .i64 2, .int .i64 0]]) (by simp [results, Try.results18, go_sem, r0, r1]) rfl (by exact ⟨none, 0, rfl, ReadsV.nil _ _, by first | exact (Dx2.out.setCell lg _).setCell lg _ | exact ((below_drewN Dx2.out _).setCell lg _).setCell lg _ | exact (Dx2.out.drew.setCell lg _).setCell lg _ | exact ((Dx2.out.setCell lg _).setCell lg _).drew⟩)
  have E := errN_ok h0 hv
  have hg := errN_zero.1 E
  have RS := run_start (seq := seq) E
  rw [hv] at CV
  generalize runV n m seq = S at *
  clear hr hm hl hq E hv
  have HCK := CK.out
  have h0' := Lib.hid h0
  have CK : Hid (∃ e1 : Int, ∀ W, Below w.heap.size w W → Calls Try.prog 28 #[.agg #[.string n.nm, .slice n.PA n.ps.length n.pc, .slice n.TA n.ts.length n.tc]] W (FPost W.heap.size W (0, e1))) := ⟨(chkV n).2, fun W hW => by have := HCK W hW; rw [← h0]; exact this⟩
  clear HCK h0 h0'
  obtain ⟨e1, CK⟩ := CK.out
  have CK := Lib.hid CK
  go_enter Try.func18, Try.ntmps18
  go_wp2_with fail
  refine (CK.out _ B0.out).mono ?_
  rintro e x1 ⟨rfl, K⟩
  have q0 := keepc q0 K
  have q1 := keepc q1 K
  have q2 := keepc q2 K
  have RB := Lib.hid (RB.out.below K)
  have Dx1 := Lib.hid (B0.out.trans (K.mono B0.out.size))
  clear K
  have Dx1a := Lib.hid (Dx1.out.alloc Dx1.out.size (.cells #[.int .i64 0, .int .i64 e1] 57))
  have hz1 : w.heap.size + 1 < x1.heap.size := World.block_lt_of_cell? x1 _ RB.out.1
  have RB := Lib.hid (RB.out.below ((Below.refl _ _).alloc (Nat.le_refl _) (.cells #[.int .i64 0, .int .i64 e1] 57)))
  have q0 := cellA q0 (.cells #[.int .i64 0, .int .i64 e1] 57)
  have q1 := cellA q1 (.cells #[.int .i64 0, .int .i64 e1] 57)
  have q2 := cellA q2 (.cells #[.int .i64 0, .int .i64 e1] 57)
  go_wp2_with fail
  refine (CV.out _ Dx1a.out).mono ?_
  rintro e x2 ⟨rfl, K⟩
  have q0 := keepc q0 K
  have q1 := keepc q1 K
  have q2 := keepc q2 K
  have RB := Lib.hid (RB.out.below K)
  have Dx2 := Lib.hid (Dx1a.out.trans (K.mono Dx1a.out.size))
  clear K
  go_wp2_with fail
  refine (CL.out hg _ Dx2.out).mono ?_
  rintro e x3 ⟨A2, c2, rfl, R2, K⟩
  have q0 := keepc q0 K
  have q1 := keepc q1 K
  have q2 := keepc q2 K
  have RB := Lib.hid (RB.out.below K)
  have RI : Hid (ReadsV x3 A2 m ∧ goodN n m = true ∧ RunAt n seq S 0 m) := ⟨R2, hg, RS⟩
  clear R2 hg RS
  have Dx3 := Lib.hid (Dx2.out.trans (K.mono Dx2.out.size))
  clear K
  clear CL CK CV B0 Dx1 Dx1a Dx2
  go_wp2_with fail
  go_loopw [9, 10] (fun p q wr => ∃ (k : Nat) (M : List Int) (B : Option Addr) (c' : Nat), k ≤ seq.length ∧ p = .slice B M.length c' ∧ q = .int .i64 k ∧ Hid (ReadsV wr B M ∧ goodN n M = true ∧ RunAt n seq S k M) ∧ Hid (Below w.heap.size w wr) ∧ Hid (FBox wr (w.heap.size + 1)) ∧ Hid (wr.cell? ⟨w.heap.size, 0, none⟩ = some (.string n.nm)) ∧ Hid (wr.cell? ⟨w.heap.size, 1, none⟩ = some (.slice n.PA n.ps.length n.pc)) ∧ Hid (wr.cell? ⟨w.heap.size, 2, none⟩ = some (.slice n.TA n.ts.length n.tc))) (fun _ q _ => seq.length - (intOf q).toNat)
  case atStart => exact ⟨0, m, A2, c2, by omega, rfl, rfl, RI, Dx3, RB, q0, q1, q2⟩
  case round =>
    clear q0 q1 q2 RB RI Dx3
    obtain ⟨k, M, B, c', hk, rfl, rfl, HI, BW, RB, q0, q1, q2⟩ := hrel
    have q0 := q0.out
    have q1 := q1.out
    have q2 := q2.out
    obtain ⟨hrd, hgd, hrun⟩ := HI.out
    have HR := Lib.hid hrd
    clear HI hrd
    by_cases hlt : k < seq.length
    · have ST0 : Hid (fireE n M (at0 seq k) = 0 → goodN n (fireL n M (at0 seq k)) = true ∧ RunAt n seq S (k + 1) (fireL n M (at0 seq k))) := fun h => ⟨fire_goodN hgd h, run_step hrun hlt h⟩
      have ST1 : Hid (fireE n M (at0 seq k) ≠ 0 → S = ([], fireE n M (at0 seq k), (k : Int))) := fun h => run_stop hrun hlt h
      have CFk : Hid (∀ W, Below w.heap.size w W → ReadsV W B M → _) := fun W h1 h2 => CF.out W B M c' (at0 seq k) h1 h2 hgd
      obtain ⟨bs, os, eS, fS⟩ := at_of_reads (HS.out.below BW.out (Nat.le_refl _)) k hlt
      subst eS
      clear hrun hgd
      generalize fireE n M (at0 seq k) = E at *
      generalize fireL n M (at0 seq k) = L at *
      generalize at0 seq k = z at *
      go_upto_region 10 with fail
      refine wp_region_held_drew (S := fun w' => w'.cell? ⟨w.heap.size, 0, none⟩ = some (.string n.nm) ∧ w'.cell? ⟨w.heap.size, 1, none⟩ = some (.slice n.PA n.ps.length n.pc) ∧ w'.cell? ⟨w.heap.size, 2, none⟩ = some (.slice n.TA n.ts.length n.tc) ∧ w'.cell? ⟨bs, os + k, none⟩ = some (.int .i64 z) ∧ Hid (FBox w' (w.heap.size + 1)) ∧ Hid (Below wr.heap.size wr w')) (by kernel_rfl) ?_ (fun hHeld => ?_)
      · exact ⟨q0, q1, q2, fS, RB.out, (Below.refl _ _).drew⟩
      refine wpAnyH_take (oi := ⟨_, _, _, _, _, _⟩) (i := 0) (v := ?_) rfl (by kernel_rfl) (by kernel_rfl) (by kernel_rfl) (fun _ _ _ h => h) (Or.inl ⟨by rfl, ?ya0⟩) (by assumption) ?ra0
      case ya0 => (intro w hSw; (try dsimp only at hSw); go_simp; (try with_reducible rfl))
      try simp only [Act.put, List.setIfInBounds_toArray, List.set_cons_zero, List.set_cons_succ]
      refine wpAnyH_take (oi := ⟨_, _, _, _, _, _⟩) (i := 1) (v := ?_) rfl (by kernel_rfl) (by kernel_rfl) (by kernel_rfl) (fun _ _ _ h => h) (Or.inl ⟨by rfl, ?ya1⟩) (by assumption) ?ra1
      case ya1 => (intro w hSw; (try dsimp only at hSw); go_simp; (try with_reducible rfl))
      try simp only [Act.put, List.setIfInBounds_toArray, List.set_cons_zero, List.set_cons_succ]
      refine wpAnyH_take (oi := ⟨_, _, _, _, _, _⟩) (i := 2) (v := ?_) rfl (by kernel_rfl) (by kernel_rfl) (by kernel_rfl) (fun _ _ _ h => h) (Or.inl ⟨by rfl, ?ya2⟩) (by assumption) ?ra2
      case ya2 => (intro w hSw; (try dsimp only at hSw); go_simp; (try with_reducible rfl))
      try simp only [Act.put, List.setIfInBounds_toArray, List.set_cons_zero, List.set_cons_succ]
      refine wpAnyH_take (oi := ⟨_, _, _, _, _, _⟩) (i := 3) (v := ?_) rfl (by kernel_rfl) (by kernel_rfl) (by kernel_rfl) (fun _ _ _ h => h) (Or.inl ⟨by rfl, ?ya3⟩) (by assumption) ?ra3
      case ya3 => (intro w hSw; (try dsimp only at hSw); go_simp; (try with_reducible rfl))
      try simp only [Act.put, List.setIfInBounds_toArray, List.set_cons_zero, List.set_cons_succ]
      refine wpAnyH_take (oi := ⟨_, _, _, _, _, _⟩) (i := 4) (v := ?_) rfl (by kernel_rfl) (by kernel_rfl) (by kernel_rfl) (fun _ _ _ h => h) (Or.inl ⟨by rfl, ?ya4⟩) (by assumption) ?ra4
      case ya4 => (intro w hSw; (try dsimp only at hSw); go_simp; (try with_reducible rfl))
      try simp only [Act.put, List.setIfInBounds_toArray, List.set_cons_zero, List.set_cons_succ]
      refine wpAnyH_take (oi := ⟨_, _, _, _, _, _⟩) (i := 5) (v := ?_) rfl (by kernel_rfl) (by kernel_rfl) (by kernel_rfl) (fun _ _ _ h => h) (Or.inl ⟨by rfl, ?ya5⟩) (by assumption) ?ra5
      case ya5 => (intro w hSw; (try dsimp only at hSw); go_simp; (try with_reducible rfl))
      try simp only [Act.put, List.setIfInBounds_toArray, List.set_cons_zero, List.set_cons_succ]
      refine wpAnyH_ready (rs := [6]) (by kernel_rfl) (by simp) ?_
      refine AllReadyH.cons (o := ⟨_, _, _, _, _, _⟩) rfl (fun K hK => ?_) AllReadyH.nil
      go_simp
      go_at_call 36; refine (CFk.out _ (BW.out.trans (hHeld.2.2.2.2.2.out.mono BW.out.size)) (HR.out.below hHeld.2.2.2.2.2.out (Nat.le_refl _))).mono ?_; rintro e w9 ⟨A5, c5, rfl, R5, K⟩; have R5 := Lib.hid R5; (try go_wp2_with fail)
      refine hK.out _ _ ?_ (fun hHeld2 => ?_)
      · exact ⟨keepc hHeld.1 K, keepc hHeld.2.1 K, keepc hHeld.2.2.1 K, keepc hHeld.2.2.2.1 K, hHeld.2.2.2.2.1.out.below K, hHeld.2.2.2.2.2.out.trans (K.mono hHeld.2.2.2.2.2.out.size)⟩
      clear hK K hHeld
      have hHeld := hHeld2
      clear hHeld2
      try simp only [Act.put, List.setIfInBounds_toArray, List.set_cons_zero, List.set_cons_succ]
      refine wpAnyH_take (oi := ⟨_, _, _, _, _, _⟩) (i := 7) (v := ?_) rfl (by kernel_rfl) (by kernel_rfl) (by kernel_rfl) (fun _ _ _ h => h) (Or.inl ⟨by rfl, ?ya7⟩) (by assumption) ?ra7
      case ya7 => (intro w hSw; (try dsimp only at hSw); go_simp; (try with_reducible rfl))
      try simp only [Act.put, List.setIfInBounds_toArray, List.set_cons_zero, List.set_cons_succ]
      refine wpAnyH_take (oi := ⟨_, _, _, _, _, _⟩) (i := 8) (v := ?_) rfl (by kernel_rfl) (by kernel_rfl) (by kernel_rfl) (fun _ _ _ h => h) (Or.inl ⟨by rfl, ?ya8⟩) (by assumption) ?ra8
      case ya8 => (intro w hSw; (try dsimp only at hSw); go_simp; (try with_reducible rfl))
      try simp only [Act.put, List.setIfInBounds_toArray, List.set_cons_zero, List.set_cons_succ]
      refine wpAnyH_take (oi := ⟨_, _, _, _, _, _⟩) (i := 9) (v := ?_) rfl (by kernel_rfl) (by kernel_rfl) (by kernel_rfl) (fun _ _ _ h => h) (Or.inl ⟨by rfl, ?ya9⟩) (by assumption) ?ra9
      case ya9 => (intro w hSw; (try dsimp only at hSw); go_simp; (try with_reducible rfl))
      try simp only [Act.put, List.setIfInBounds_toArray, List.set_cons_zero, List.set_cons_succ]
      refine wpAnyH_take (oi := ⟨_, _, _, _, _, _⟩) (i := 10) (v := ?_) rfl (by kernel_rfl) (by kernel_rfl) (by kernel_rfl) (fun _ _ _ h => h) (Or.inl ⟨by rfl, ?ya10⟩) (by assumption) ?ra10
      case ya10 => (intro w hSw; (try dsimp only at hSw); go_simp; (try with_reducible rfl))
      try simp only [Act.put, List.setIfInBounds_toArray, List.set_cons_zero, List.set_cons_succ]
      refine wpAnyH_take (oi := ⟨_, _, _, _, _, _⟩) (i := 11) (v := ?_) rfl (by kernel_rfl) (by kernel_rfl) (by kernel_rfl) (fun _ _ _ h => h) (Or.inl ⟨by rfl, ?ya11⟩) (by assumption) ?ra11
      case ya11 => (intro w hSw; (try dsimp only at hSw); go_simp; (try with_reducible rfl))
      try simp only [Act.put, List.setIfInBounds_toArray, List.set_cons_zero, List.set_cons_succ]
      refine wpAnyH_done (by kernel_rfl) ?_ _
      have q0 := hHeld.1
      have q1 := hHeld.2.1
      have q2 := hHeld.2.2.1
      have RB := hHeld.2.2.2.2.1
      have B9 := Lib.hid (BW.out.trans (hHeld.2.2.2.2.2.out.mono BW.out.size))
      clear hHeld CFk BW fS HR
      by_cases hE : E = 0
      · have STx := ST0.out hE
        have G5 : Hid (ReadsV w9 A5 L ∧ goodN n L = true ∧ RunAt n seq S (k + 1) L) := ⟨R5.out, STx.1, STx.2⟩
        clear ST0 ST1 STx R5
        subst hE
        go_wp2
        go_roundw
        case rel => exact ⟨k + 1, L, A5, c5, by omega, rfl, by go_num, G5, B9, RB, q0, q1, q2⟩
        case measure => simp [intOf]; omega
      · have zb : (E != 0) = true := by simpa using hE
        have EQ := Lib.hid (ST1.out hE)
        clear ST0 ST1 R5
        obtain ⟨r0, r1, rf⟩ := RB.out
        go_wp2
        exact bodyPost_ret (v := .tuple #[.slice none 0 0, .agg #[.int .i64 E, .int .i64 k]]) (by simp [results, Try.results18, go_sem, r0, r1]) rfl (by rw [EQ.out]; exact ⟨none, 0, rfl, ReadsV.nil _ _, by first | exact (B9.out.setCell lg _).setCell lg _ | exact ((below_drewN B9.out _).setCell lg _).setCell lg _ | exact (B9.out.drew.setCell lg _).setCell lg _ | exact ((B9.out.setCell lg _).setCell lg _).drew⟩)
    · obtain rfl : k = seq.length := by omega
      have EQ := Lib.hid (run_end hrun)
      clear hrun hgd
      have R6 := Lib.hid (HR.out.stored RB.out)
      obtain ⟨r0, r1, rf⟩ := RB.out
      go_wp2
      exact bodyPost_ret (v := .tuple #[.slice B M.length c', .agg #[.int .i64 0, .int .i64 0]]) (by simp [results, Try.results18, go_sem, r0, r1]) rfl (by rw [EQ.out]; exact ⟨B, c', rfl, R6.out, (BW.out.setCell lg _).setCell lg _⟩)
end Go.Proofs.Ytpfkkjgklhcejaa
