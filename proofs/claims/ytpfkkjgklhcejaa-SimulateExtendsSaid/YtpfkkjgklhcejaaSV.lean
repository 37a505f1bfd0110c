/- Runs of a net by weights: the visitor of Many. Runs of a net by weights: what the statistics of several runs are, and what holds at the head of each run. -/
import Derived.Test.YtpfkkjgklhcejaaSRM
import Derived.Test.YtpfkkjgklhcejaaSDT
import Derived.Test.YtpfkkjgklhcejaaSRR
import Derived.Test.YtpfkkjgklhcejaaSN
namespace Go.Proofs.Ytpfkkjgklhcejaa
open Go.RowKit

structure St where
  F : Nat → Int
  dead : Nat
  mx : List Int
  seed : Nat
def incF (F : Nat → Int) (t : Nat) : Nat → Int := fun k => if k = t then F k + 1 else F k
def cntF (F : Nat → Int) (h : Hist) : Nat → Int := h.foldl (fun F x => incF F x.1) F
def maxH (mx : List Int) (h : Hist) : List Int := h.foldl (fun m x => maxL m x.2) mx
theorem cntF_nil (F : Nat → Int) : cntF F [] = F := rfl
theorem maxH_nil (m : List Int) : maxH m [] = m := rfl
theorem cntF_snoc (F : Nat → Int) (h : Hist) (x : Nat × List Int) : cntF F (h ++ [x]) = incF (cntF F h) x.1 := by simp [cntF, List.foldl_append]
theorem maxH_snoc (m : List Int) (h : Hist) (x : Nat × List Int) : maxH m (h ++ [x]) = maxL (maxH m h) x.2 := by simp [maxH, List.foldl_append]
theorem maxL_le (a b : List Int) : (maxL a b).length ≤ a.length := by
  unfold maxL
  split
  · rw [tab_len]; exact Nat.le_refl _
  · simp
def statObj (F : Value) (dead : Nat) (M : Value) : Obj := .cells #[F, .int .i64 (dead : Nat), M] 49 (0, 0)
def Off (A : Option Addr) (L : List Int) (b' : Nat) : Prop := L ≠ [] → ∀ b off, A = some ⟨b, off, none⟩ → b ≠ b'
structure InvM (g : Nat) (w0 : World) (z bq bl PF T D : Nat) (S : St) (s : Nat) (h : Hist) (W : World) : Prop where
  low : Below g w0 W
  box : Boxed W bq 3 (.int .i64 (h.length : Nat))
  row : W.rowIs PF 3 T (fun k => .int .i64 (cntF S.F h k))
  bd : ∀ k, 0 ≤ cntF S.F h k ∧ cntF S.F h k ≤ D + h.length
  len : (maxH S.mx h).length ≤ 24
  stat : ∃ M cM, W.heap[bl]? = some (statObj (.slice (some ⟨PF, 0, none⟩) T T) S.dead (.slice M (maxH S.mx h).length cM)) ∧ ReadsV W M (maxH S.mx h) ∧ FarZ z s M (maxH S.mx h) ∧ Off M (maxH S.mx h) PF ∧ Off M (maxH S.mx h) bl ∧ Off M (maxH S.mx h) bq ∧ Ge g M (maxH S.mx h)
variable {g : Nat} {w0 : World} {z bq bl PF T D : Nat} {S : St} {s : Nat} {h : Hist} {W W' : World}
theorem InvM.of (H : InvM g w0 z bq bl PF T D S s h W) (hb : Below g w0 W') (h1 : W'.heap[bq]? = W.heap[bq]?) (h2 : W'.heap[bl]? = W.heap[bl]?) (h3 : W'.heap[PF]? = W.heap[PF]?) (h4 : ∀ b, b < W.heap.size → (b < z ∨ s ≤ b) → W'.heap[b]? = W.heap[b]?) : InvM g w0 z bq bl PF T D S s h W' := by
  obtain ⟨M, cM, e1, e2, e3, e4⟩ := H.stat
  exact ⟨hb, boxed_of H.box h1, H.row.of_block h3, H.bd, H.len, M, cM, h2.trans e1, reads_of e2 (fun hn b off e => h4 b (block_reads e2 hn e) (e3 hn b off e)), e3, e4⟩
theorem InvM.blt (H : InvM g w0 z bq bl PF T D S s h W) : bl < W.heap.size := by
  obtain ⟨M, cM, e1, _⟩ := H.stat
  exact (Array.getElem?_eq_some_iff.1 e1).1
theorem InvM.keep (H : InvM g w0 z bq bl PF T D S s h W) (hg : g ≤ W.heap.size) (hb : Below W.heap.size W W') : InvM g w0 z bq bl PF T D S s h W' :=
  H.of (H.low.trans (hb.mono hg)) (hb.block _ H.box.lt) (hb.block _ H.blt) (hb.block _ H.row.lt) (fun b hb' _ => hb.block b hb')
theorem InvM.grow {P : Nat} (H : InvM g w0 z bq bl PF T D S s h W) (hq : bq < z) (hl : bl < z) (hf : PF < z) (hgq : g ≤ bq) (hz : z ≤ P) (hP : P < s) (hg : W.grownBy W' (some P)) : InvM g w0 z bq bl PF T D S s h W' := by
  have K : ∀ k, k < W.heap.size → k ≠ P → W'.heap[k]? = W.heap[k]? := fun k hk hn => hg.block k hk (by simpa using hn)
  have h1 := H.low
  have hq2 := H.box.lt
  refine H.of ⟨hg.os.trans h1.os, hg.tape.trans h1.tape, hg.output.trans h1.output, Nat.le_trans h1.size hg.size, fun k hk => ?_⟩ (K _ H.box.lt (by omega)) (K _ H.blt (by omega)) (K _ H.row.lt (by omega)) (fun b hb h2 => K b hb (by omega))
  exact (K k (by omega) (by omega)).trans (h1.block k hk)

set_option maxHeartbeats 4000000 in
set_option maxRecDepth 100000 in
theorem vis_many (g : Nat) (w0 : World) (z bq bl PF T D : Nat) (S : St) (s : Nat) (h : Hist) (n : NetV) (t : Nat) (m : List Int) (B : Option Addr) (cb : Nat) (W1 W : World) (hI : InvM g w0 z bq bl PF T D S s h W1) (hs : s ≤ W1.heap.size) (hz : z ≤ s) (hgq : g ≤ bq) (hgl : g ≤ bl) (hgp : g ≤ PF) (hq : bq < z) (hl : bl < z) (hp : PF < z) (hn1 : bq ≠ bl) (hn2 : bq ≠ PF) (hn3 : bl ≠ PF)
    (hb : Below W1.heap.size W1 W) (hF : FreshG W W1.heap.size B m) (hm : m.length ≤ 24) (ht : t < T) (hT : T ≤ 24) (hh : h.length < 10000) (hD : D ≤ 1000000) :
    Calls Try.prog 32 #[.int .i64 (t : Nat), .slice B m.length cb, .pointer (some ⟨bq, 0, none⟩), .pointer (some ⟨bl, 0, none⟩)] W fun e w' => e = .returned (.tuple #[]) ∧ InvM g w0 z bq bl PF T D S s (h ++ [(t, m)]) w' ∧ W.heap.size ≤ w'.heap.size ∧ (∀ k cc, z ≤ k → k < s → (W.heap[k]? = some (.cells cc 3 (0, 0)) ∨ W.heap[k]? = some (netObj n)) → w'.heap[k]? = W.heap[k]?) ∧ ReadsV w' B m := by
  have hI := hI.keep (by have := hI.low.size; omega) hb
  have hsz := hb.size
  obtain ⟨M, cM, hst, hrM, hfM, ho1, ho2, ho3, _⟩ := hI.stat
  have HI := Lib.hid hI
  have c0 := hI.box.cell
  have f0 := hI.box.frozen
  have s0 := cell_blk hst 0
  have s2 := cell_blk hst 2
  simp only [List.getElem?_toArray, List.getElem?_cons_zero, List.getElem?_cons_succ] at s0 s2
  have p0 := hI.row.cell ht
  have fp := hI.row.frozen t
  have bx := hI.bd t
  have hml := hI.len
  have HST := Lib.hid hst
  have KB : Hid (∀ u v k, k ≠ bq → k ≠ PF → ((W.setCell ⟨bq, 0, none⟩ u).setCell ⟨PF, t, none⟩ v).heap[k]? = W.heap[k]?) := fun u v k h1 h2 => (Below.heap_setCell _ _ _ k h2).trans (Below.heap_setCell _ _ _ k h1)
  have RM : Hid (∀ u v, ReadsV ((W.setCell ⟨bq, 0, none⟩ u).setCell ⟨PF, t, none⟩ v) M (maxH S.mx h)) := fun u v => reads_of hrM (fun hn b off e => KB.out u v b (ho3 hn b off e) (ho1 hn b off e))
  have RB : Hid (∀ u v, ReadsV ((W.setCell ⟨bq, 0, none⟩ u).setCell ⟨PF, t, none⟩ v) B m) := fun u v => reads_of hF.1 (fun hn b off e => by
    have := (hF.2 hn b off e).1
    exact KB.out u v b (by omega) (by omega))
  have HF := Lib.hid hF
  have CX : Hid (∀ W, ReadsV W M (maxH S.mx h) → ReadsV W B m → Calls Try.prog 33 #[.slice M (maxH S.mx h).length cM, .slice B m.length cb] W (FIs W.heap.size W (maxL (maxH S.mx h) m))) := fun W h1 h2 => max_f M B _ m cM cb W h1 h2 (by omega)
  have hML := maxL_le (maxH S.mx h) m
  have EM := Lib.hid (maxH_snoc S.mx h (t, m))
  have EC := Lib.hid (cntF_snoc S.F h (t, m))
  have hn1' := Ne.symm hn1
  have hn2' := Ne.symm hn2
  have hn3' := Ne.symm hn3
  have HNP : Hid (PF < W.heap.size ∧ bl < W.heap.size ∧ bq < W.heap.size) := ⟨hI.row.lt, hI.blt, hI.box.lt⟩
  clear hI hst hrM hfM ho1 ho2 ho3 hF
  generalize hx : cntF S.F h t = x at *
  have HX := Lib.hid hx
  clear hx
  generalize hln : h.length = ln at *
  have HLN := Lib.hid hln
  clear hln
  generalize hmx : maxH S.mx h = mx at *
  have HMX := Lib.hid hmx
  clear hmx
  go_enter Try.func32, Try.ntmps32
  go_wp2_with fail
  refine (CX.out _ (RM.out _ _) (RB.out _ _)).mono ?_
  rintro e x5 ⟨M5, c5, rfl, F5, K⟩
  have hsK := K.size
  have hsK' : W.heap.size ≤ x5.heap.size := by simpa using hsK
  obtain ⟨np1, np2, np3⟩ := HNP.out
  have hb5 : x5.heap[bl]? = some (statObj (.slice (some ⟨PF, 0, none⟩) T T) S.dead (.slice M mx.length cM)) := (K.block bl (by simp; exact np2)).trans ((KB.out _ _ bl hn1' hn3).trans HST.out)
  have d2 := cell_blk hb5 2
  have fd2 := frozen_blk hb5 2
  have HB5 := Lib.hid hb5
  have K5 := Lib.hid K
  have F5 := Lib.hid F5
  clear hb5 K hsK
  go_wp2_with fail
  have hFb := HF.out
  have K := K5.out
  have HK : ∀ k, k < W.heap.size → k ≠ bq → k ≠ PF → k ≠ bl → (x5.setCell ⟨bl, 2, none⟩ (.slice M5 (maxL mx m).length c5)).heap[k]? = W.heap[k]? := fun k hk h1 h2 h3 => (Below.heap_setCell _ _ _ k h3).trans ((K.block k (by simp; exact hk)).trans (KB.out _ _ k h1 h2))
  have hRM5 : ReadsV (x5.setCell ⟨bl, 2, none⟩ (.slice M5 (maxL mx m).length c5)) M5 (maxL mx m) := reads_of F5.out.1 (fun hn b off e => Below.heap_setCell _ _ _ b (by have := (F5.out.2 hn b off e).1; simp at this; show b ≠ bl; omega))
  have hM5 : ∀ (P : Nat), P < W.heap.size → Off M5 (maxL mx m) P := fun P hP hn b off e => by have := (F5.out.2 hn b off e).1; simp at this; omega
  go_end0
  refine ⟨rfl, ⟨?_, ?_, ?_, ?_, ?_, M5, c5, ?_, ?_, ?_, ?_, ?_, ?_, ?_⟩, ?_, ?_, ?_⟩
  · exact ((((HI.out.low.setCell (p := ⟨bq, 0, none⟩) hgq _).setCell (p := ⟨PF, t, none⟩) hgp _).trans (K.mono (by simp; omega)))).setCell (p := ⟨bl, 2, none⟩) hgl _
  · have b1 : Boxed (W.setCell ⟨bq, 0, none⟩ (.int .i64 ((ln : Int) + 1))) bq 3 (.int .i64 ((ln : Int) + 1)) := HI.out.box.set _
    have b2 := (Below.heap_setCell x5 ⟨bl, 2, none⟩ (.slice M5 (maxL mx m).length c5) bq hn1).trans ((K.block bq (by simp; exact np3)).trans (Below.heap_setCell _ _ _ bq hn2))
    have b3 := b2.trans b1
    rw [List.length_append, HLN.out]
    exact b3
  · have r1 := ((HI.out.row.setOther (a := ⟨bq, 0, none⟩) hn2' (.int .i64 ((ln : Int) + 1))).set t (.int .i64 (x + 1))).of_block (K.block PF (by simp; exact np1))
    rw [EC.out]
    refine (r1.setOther (a := ⟨bl, 2, none⟩) hn3' _).congr fun i hi => ?_
    unfold incF
    by_cases e : i = t
    · rw [if_pos e, if_pos e, e, HX.out]
    · rw [if_neg e, if_neg e]
  · intro k
    have := HI.out.bd k
    rw [EC.out, List.length_append, HLN.out]
    rw [HLN.out] at this
    unfold incF
    simp only [List.length_cons, List.length_nil]
    split <;> omega
  · rw [EM.out]
    show (maxL mx m).length ≤ 24
    omega
  · rw [EM.out]
    exact blk_set HB5.out 2 _
  · rw [EM.out]; exact hRM5
  · rw [EM.out]
    exact fun hn b off e => .inr (by have := (F5.out.2 hn b off e).1; simp at this; omega)
  · rw [EM.out]; exact hM5 PF np1
  · rw [EM.out]; exact hM5 bl np2
  · rw [EM.out]; exact hM5 bq np3
  · rw [EM.out]; exact fun hn b off e => by have := (F5.out.2 hn b off e).1; simp at this; omega
  · simp; omega
  · intro k cc h1 h2 _
    exact HK k (by omega) (by omega) (by omega) (by omega)
  · exact reads_of hFb.1 fun hn b off e => by
      have := (hFb.2 hn b off e).1
      exact HK b (block_reads hFb.1 hn e) (by omega) (by omega) (by omega)
end Go.Proofs.Ytpfkkjgklhcejaa

namespace Go.Proofs.Ytpfkkjgklhcejaa
open Go.RowKit

def stepS (N : Nat) (S : St) (r : Hist × Nat) : St := ⟨cntF S.F r.1, S.dead + (if r.1.length < N then 1 else 0), maxH S.mx r.1, r.2⟩
def manyR (n : NetV) (ws : List Int) (N : Nat) : Nat → St → Option St
  | 0, S => some S
  | k + 1, S => (simR n ws N (initialN n) S.seed).bind fun r => manyR n ws N k (stepS N S r)
def S0 (n : NetV) (s0 : Nat) : St := ⟨fun _ => 0, 0, initialN n, s0⟩
theorem many_end {n : NetV} {ws : List Int} {N : Nat} {S : St} {R : Option St} (h : R = manyR n ws N 0 S) : R = some S := h
theorem many_step {n : NetV} {ws : List Int} {N k : Nat} {S : St} {R : Option St} {r : Hist × Nat} (h : R = manyR n ws N (k + 1) S) (e : simR n ws N (initialN n) S.seed = some r) : R = manyR n ws N k (stepS N S r) := by
  rw [h, manyR, e]; rfl
theorem many_none {n : NetV} {ws : List Int} {N k : Nat} {S : St} {R : Option St} (h : R = manyR n ws N (k + 1) S) (e : simR n ws N (initialN n) S.seed = none) : R = none := by
  rw [h, manyR, e]; rfl
def manyV (n : NetV) (ws : List Int) (steps runs : Int) (s0 : Nat) : Option St × Int :=
  if runE n ws steps runs ≠ 0 then (none, runE n ws steps runs) else match manyR n ws steps.toNat runs.toNat (S0 n s0) with
    | some S => (some S, 0)
    | none => (none, 3)
theorem manyV_err {n : NetV} {ws : List Int} {steps runs : Int} (s0 : Nat) (h : runE n ws steps runs ≠ 0) : manyV n ws steps runs s0 = (none, runE n ws steps runs) := if_pos h
theorem manyV_some {n : NetV} {ws : List Int} {steps runs : Int} {s0 : Nat} {S : St} (h : runE n ws steps runs = 0) (h2 : manyR n ws steps.toNat runs.toNat (S0 n s0) = some S) : manyV n ws steps runs s0 = (some S, 0) := by
  unfold manyV
  rw [if_neg (by simpa using h), h2]
theorem manyV_none {n : NetV} {ws : List Int} {steps runs : Int} {s0 : Nat} (h : runE n ws steps runs = 0) (h2 : manyR n ws steps.toNat runs.toNat (S0 n s0) = none) : manyV n ws steps runs s0 = (none, 3) := by
  unfold manyV
  rw [if_neg (by simpa using h), h2]
theorem runE_ok {n : NetV} {ws : List Int} {steps runs : Int} (h : runE n ws steps runs = 0) : argE n ws steps = 0 ∧ 1 ≤ runs ∧ runs ≤ 100 := by
  unfold runE at h
  split at h
  · rename_i h1; exact absurd h h1
  · rename_i h1
    split at h
    · cases h
    · exact ⟨by simpa using h1, by omega, by omega⟩
def MPost (g : Nat) (w : World) (T : Nat) (R : Option St × Int) (e : Ending) (w' : World) : Prop :=
  (∃ S A1 c1 A2 c2, R.1 = some S ∧ e = .returned (.tuple #[.agg #[.slice A1 T c1, .int .i64 (S.dead : Nat), .slice A2 S.mx.length c2], .int .i64 R.2]) ∧ ReadsV w' A1 (tab T S.F) ∧ ReadsV w' A2 S.mx ∧ Below g w w' ∧ S.mx.length ≤ 24)
  ∨ (R.1 = none ∧ e = .returned (.tuple #[.agg #[.slice none 0 0, .int .i64 0, .slice none 0 0], .int .i64 R.2]) ∧ Below g w w')
def RowP (w : World) (P T : Nat) (f : Nat → Value) : Prop := w.rowIs P 3 T f
theorem RowP.below {w w' : World} {P T B : Nat} {f : Nat → Value} (h : RowP w P T f) (hb : Below B w w') (hB : w.heap.size ≤ B) : RowP w' P T f := World.rowIs.of_block h (hb.block _ (Nat.lt_of_lt_of_le (World.rowIs.lt h) hB))
def BlkIs (w : World) (b : Nat) (o : Obj) : Prop := w.heap[b]? = some o
theorem BlkIs.lt {w : World} {b : Nat} {o : Obj} (h : BlkIs w b o) : b < w.heap.size := (Array.getElem?_eq_some_iff.1 h).1
theorem BlkIs.below {w w' : World} {b B : Nat} {o : Obj} (h : BlkIs w b o) (hb : Below B w w') (hB : w.heap.size ≤ B) : BlkIs w' b o := (hb.block _ (Nat.lt_of_lt_of_le h.lt hB)).trans h
def statT (ty : TypeId) (F : Value) (dead : Nat) (M : Value) : Obj := .cells #[F, .int .i64 (dead : Nat), M] ty (0, 0)
structure LM (n : NetV) (ws : List Int) (R : Option St) (w1 : World) (ty : TypeId) (bl PF T N : Nat) (i runs : Nat) (S : St) (W : World) : Prop where
  low : Below w1.heap.size w1 W
  res : R = manyR n ws N (runs - i) S
  row : W.rowIs PF 3 T (fun k => .int .i64 (S.F k))
  bd : ∀ k, 0 ≤ S.F k ∧ S.F k ≤ 10000 * i
  dd : S.dead ≤ i
  len : S.mx.length ≤ 24
  pge : w1.heap.size ≤ PF
  bge : w1.heap.size ≤ bl
  pbl : bl ≠ PF
  stat : ∃ M cM, W.heap[bl]? = some (statT ty (.slice (some ⟨PF, 0, none⟩) T T) S.dead (.slice M S.mx.length cM)) ∧ ReadsV W M S.mx ∧ Off M S.mx PF ∧ Off M S.mx bl ∧ Ge w1.heap.size M S.mx
variable {n : NetV} {ws : List Int} {R : Option St} {w1 : World} {ty : TypeId} {bl PF T N i runs : Nat} {S : St} {W W' : World}
theorem lm_start {P fb q s0 cM : Nat} {M : Option Addr} {m0 : List Int} (hm0 : initialN n = m0) (hlow : Below w1.heap.size w1 W) (hR : R = manyR n ws N runs (S0 n s0)) (row : RowP W P T (fun _ => .int .i64 0)) (hM : FreshG W q M m0) (hlen : m0.length ≤ 24)
    (cb : BlkIs W fb (.cells #[.slice none 0 0, .int .i64 0, .slice none 0 0] ty (0, 0))) (hty : ty ≠ 3) (off : Off M m0 P) (hP : w1.heap.size ≤ P) (hfb : w1.heap.size ≤ fb) (hq : w1.heap.size ≤ q) :
    LM n ws R w1 ty fb P T N 0 runs (S0 n s0) (put3 W fb (.slice (some ⟨P, 0, none⟩) T T) (.int .i64 0) (.slice M m0.length cM)) := by
  subst hm0
  have hne : fb ≠ P := by
    obtain ⟨cc, hc, _⟩ := row
    exact blk_ne cb hc hty
  have hob : Off M (initialN n) fb := fun hn b off e => by
    obtain ⟨_, cs, hc⟩ := hM.2 hn b off e
    exact fun e2 => blk_ne cb hc hty e2.symm
  refine ⟨put3_below hlow hfb _ _ _, hR, World.rowIs.of_block row (put3_ne _ _ _ _ _ _ (Ne.symm hne)), fun k => ⟨by show (0 : Int) ≤ 0; omega, by show (0 : Int) ≤ _; omega⟩, Nat.zero_le _, hlen, hP, hfb, hne, M, cM, ?_, reads_of hM.1 (fun hn b off e => put3_ne _ _ _ _ _ _ (hob hn b off e)), off, hob, fun hn b off e => Nat.le_trans hq (hM.2 hn b off e).1⟩
  unfold put3
  exact blk_set (blk_set (blk_set cb 0 _) 1 _) 2 _
theorem LM.blt (H : LM n ws R w1 ty bl PF T N i runs S W) : bl < W.heap.size := by
  obtain ⟨M, cM, e1, _⟩ := H.stat
  exact (Array.getElem?_eq_some_iff.1 e1).1
/-- what perform's visitor starts from -/
theorem lm_inv (H : LM n ws R w1 49 bl PF T N i runs S W) (s : Nat) (hW : Below (W.heap.size + 1) (W.alloc (.cells #[.int .i64 0] 3)) W') : InvM w1.heap.size w1 (W.heap.size + 1) W.heap.size bl PF T (10000 * i) S s [] W' := by
  obtain ⟨M, cM, e1, e2, e3, e4, e5⟩ := H.stat
  have K : ∀ k, k < W.heap.size → W'.heap[k]? = W.heap[k]? := fun k hk => (hW.block k (by omega)).trans (Deep.blk_alloc_lt _ _ _ hk)
  have hlow : Below w1.heap.size w1 (W.alloc (.cells #[.int .i64 0] 3)) := H.low.alloc H.low.size _
  refine ⟨hlow.trans (hW.mono (by have := H.low.size; omega)), (hW.block _ (by omega)).trans (World.alloc_heap_new W _), H.row.of_block (K _ H.row.lt), fun k => by rw [cntF_nil]; have := H.bd k; simp; omega, H.len, M, cM, (K _ H.blt).trans e1, reads_of e2 (fun hn b off e => K b (block_reads e2 hn e)), fun hn b off e => .inl (by have := block_reads e2 hn e; omega), e3, e4, fun hn b off e => by have := block_reads e2 hn e; omega, e5⟩
/-- behind a run -/
theorem lm_next {z bq s : Nat} {r : Hist × Nat} (H : LM n ws R w1 49 bl PF T N i runs S W) (hi : i < runs) (hsim : simR n ws N (initialN n) S.seed = some r) (hl : r.1.length ≤ N) (hN : N ≤ 10000) (I : InvM w1.heap.size w1 z bq bl PF T (10000 * i) S s r.1 W') :
    (r.1.length < N → LM n ws R w1 49 bl PF T N (i + 1) runs (stepS N S r) (W'.setCell ⟨bl, 1, none⟩ (.int .i64 ((S.dead : Int) + 1)))) ∧ (¬ r.1.length < N → LM n ws R w1 49 bl PF T N (i + 1) runs (stepS N S r) W') ∧ W'.cell? ⟨bl, 1, none⟩ = some (.int .i64 (S.dead : Nat)) ∧ W'.frozen? ⟨bl, 1, none⟩ = false := by
  obtain ⟨M, cM, e1, e2, e3, e4, e5, _, e7⟩ := I.stat
  have hr : R = manyR n ws N (runs - (i + 1)) (stepS N S r) := many_step (by rw [H.res]; congr 1; omega) hsim
  have hd := H.dd
  refine ⟨fun h => ⟨I.low.setCell (p := ⟨bl, 1, none⟩) H.bge _, hr, I.row.setOther (a := ⟨bl, 1, none⟩) (Ne.symm H.pbl) _, fun k => by have := I.bd k; show 0 ≤ cntF S.F r.1 k ∧ _; unfold stepS; dsimp only; omega, by unfold stepS; dsimp only; rw [if_pos h]; omega, I.len, H.pge, H.bge, H.pbl, M, cM, ?_, reads_of e2 (fun hn b off e => Below.heap_setCell _ _ _ b (e5 hn b off e)), e4, e5, e7⟩,
    fun h => ⟨I.low, hr, I.row, fun k => by have := I.bd k; show 0 ≤ cntF S.F r.1 k ∧ _; unfold stepS; dsimp only; omega, by unfold stepS; dsimp only; rw [if_neg h]; omega, I.len, H.pge, H.bge, H.pbl, M, cM, ?_, e2, e4, e5, e7⟩, cell_blk e1 1, frozen_blk e1 1⟩
  · have := blk_set e1 1 (.int .i64 ((S.dead : Int) + 1))
    unfold stepS
    dsimp only
    rw [if_pos h]
    exact this
  · unfold stepS
    dsimp only
    rw [if_neg h]
    exact e1
/-- the result is stored -/
theorem lm_done {b : Nat} {x1 x2 x3 : Value} {tr : TypeId} (H : LM n ws R w1 ty bl PF T N i runs S W) (hb : b < w1.heap.size) (hres : W.heap[b]? = some (.cells #[x1, x2, x3] tr (0, 0))) (w0 : World) (g : Nat) (hg : g ≤ b) (h0 : Below g w0 w1) (hgw : g ≤ w1.heap.size) :
    ∃ M cM, W.heap[bl]? = some (statT ty (.slice (some ⟨PF, 0, none⟩) T T) S.dead (.slice M S.mx.length cM)) ∧ (put3 W b (.slice (some ⟨PF, 0, none⟩) T T) (.int .i64 (S.dead : Nat)) (.slice M S.mx.length cM)).heap[b]? = some (.cells #[.slice (some ⟨PF, 0, none⟩) T T, .int .i64 (S.dead : Nat), .slice M S.mx.length cM] tr (0, 0)) ∧
      ReadsV (put3 W b (.slice (some ⟨PF, 0, none⟩) T T) (.int .i64 (S.dead : Nat)) (.slice M S.mx.length cM)) (some ⟨PF, 0, none⟩) (tab T S.F) ∧ (ReadsV (put3 W b (.slice (some ⟨PF, 0, none⟩) T T) (.int .i64 (S.dead : Nat)) (.slice M S.mx.length cM)) M S.mx) ∧ Below g w0 (put3 W b (.slice (some ⟨PF, 0, none⟩) T T) (.int .i64 (S.dead : Nat)) (.slice M S.mx.length cM)) := by
  obtain ⟨M, cM, e1, e2, e3, e4, e5⟩ := H.stat
  have hp := H.pge
  refine ⟨M, cM, e1, ?_, ?_, reads_of e2 (fun hn b' off e => put3_ne _ _ _ _ _ _ (by have := e5 hn b' off e; omega)), put3_below (h0.trans (H.low.mono hgw)) hg _ _ _⟩
  · unfold put3
    exact blk_set (blk_set (blk_set hres 0 _) 1 _) 2 _
  · exact reads_row (H.row.of_block (put3_ne _ _ _ _ _ _ (by omega)))
end Go.Proofs.Ytpfkkjgklhcejaa
