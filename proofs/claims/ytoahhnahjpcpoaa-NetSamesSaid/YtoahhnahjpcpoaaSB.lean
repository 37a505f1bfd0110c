/- The law on equality: the reference's Same, and that equality keeps validity. -/
import Derived.Test.YtoahhnahjpcpoaaSA
import Derived.Test.YtoahhnahjpcpoaaLD0
import Derived.WideShapes
namespace Go.Proofs.Ytoahhnahjpcpoaa
open Go.RowKit

theorem eqS_eq {s t : ByteArray} (h : eqS s t = true) : s = t := by
  unfold eqS at h
  have h := eq_of_beq h
  rw [ByteArray.toList_eq, ByteArray.toList_eq] at h
  exact Go.WideShapes.bytes_inj h
theorem beqI (a b : Int) : (a == b) = (b == a) := by rw [Bool.eq_iff_iff, beq_iff_eq, beq_iff_eq]; exact eq_comm
theorem sameA_eq {l m : List (Int × Int)} (h : sameA l m = true) : l = m := by
  obtain ⟨e, hf⟩ := sameBy_of h
  apply List.ext_getElem e
  intro i h1 h2
  have := hf i h1
  simp only [eqArc, aP, aW, Bool.and_eq_true, beq_iff_eq, List.getElem?_eq_getElem h1, List.getElem?_eq_getElem h2, Option.getD_some] at this
  exact Prod.ext this.1 this.2
theorem sameP_eq {l m : List PlaceV} (h : sameP l m = true) : l = m := by
  obtain ⟨e, hf⟩ := sameBy_of h
  apply List.ext_getElem e
  intro i h1 h2
  have := hf i h1
  simp only [eqPl, pA, Bool.and_eq_true, beq_iff_eq, List.getElem?_eq_getElem h1, List.getElem?_eq_getElem h2, Option.getD_some] at this
  obtain ⟨a1, a2, a3⟩ := this
  have a1 := eqS_eq a1
  generalize l[i] = x at *
  generalize m[i] = y at *
  obtain ⟨x1, x2, x3⟩ := x
  obtain ⟨y1, y2, y3⟩ := y
  dsimp only at a1 a2 a3
  rw [a1, a2, a3]
theorem tA_out {l : List TransV} {j : Nat} (h : ¬ j < l.length) : tA l j = ⟨ByteArray.empty, ⟨none, 0, []⟩, ⟨none, 0, []⟩, ⟨none, 0, []⟩, 0⟩ := by
  unfold tA; rw [List.getElem?_eq_none (by omega)]; rfl
theorem sameT_at {l m : List TransV} (h : sameT l m = true) : l.length = m.length ∧ ∀ j, (tA l j).nm = (tA m j).nm ∧ (tA l j).prio = (tA m j).prio ∧ (tA l j).pre.l = (tA m j).pre.l ∧ (tA l j).post.l = (tA m j).post.l ∧ (tA l j).inh.l = (tA m j).inh.l := by
  obtain ⟨e, hf⟩ := sameBy_of h
  refine ⟨e, fun j => ?_⟩
  by_cases hj : j < l.length
  · have := hf j hj
    simp only [eqTr, Bool.and_eq_true, beq_iff_eq] at this
    obtain ⟨a1, a2, a3, a4, a5⟩ := this
    exact ⟨eqS_eq a1, a2, sameA_eq a3, sameA_eq a4, sameA_eq a5⟩
  · rw [tA_out hj, tA_out (l := m) (by omega)]; exact ⟨rfl, rfl, rfl, rfl, rfl⟩
theorem equalN_ok {a b : NetV} (h : equalN a b = true) : okN a = okN b := by
  simp only [equalN, Bool.and_eq_true] at h
  obtain ⟨h1, h2, h3⟩ := h
  have e1 := eqS_eq h1
  have e2 := sameP_eq h2
  obtain ⟨e3, e4⟩ := sameT_at h3
  have t1 : ∀ n s, transI a.ts n s = transI b.ts n s := fun n s => by unfold transI; simp only [fun j => (e4 j).1]
  have t2 : ∀ m ps i, transE m ps a.ts i = transE m ps b.ts i := fun m ps i => by
    unfold transE; rw [(e4 i).1, (e4 i).2.1, (e4 i).2.2.1, (e4 i).2.2.2.1, (e4 i).2.2.2.2, t1]
  have t3 : checkV b.nm b.ps a.ts = checkV b.nm b.ps b.ts := by unfold checkV; simp only [t2, e3]
  unfold okN chkV
  rw [e1, e2, t3]
theorem sameBy_comm {n m : Nat} {f g : Nat → Bool} (h : ∀ j, f j = g j) : sameBy n m f = sameBy m n g := by
  have key : ∀ {n m : Nat} {f g : Nat → Bool}, (∀ j, f j = g j) → sameBy n m f = true → sameBy m n g = true := fun h h1 => by
    obtain ⟨e, hf⟩ := sameBy_of h1
    exact sameBy_yes e.symm fun j hj => by rw [← h j]; exact hf j (by omega)
  exact Bool.eq_iff_iff.2 ⟨key h, key fun j => (h j).symm⟩
theorem sameA_comm (l m : List (Int × Int)) : sameA l m = sameA m l := sameBy_comm fun j => by unfold eqArc; rw [beqI (aP l j), beqI (aW l j)]
theorem equalN_comm (a b : NetV) : equalN a b = equalN b a := by
  have hp : sameP a.ps b.ps = sameP b.ps a.ps := sameBy_comm fun j => by unfold eqPl; rw [eqS_comm (pA a.ps j).nm, beqI (pA a.ps j).ini, beqI (pA a.ps j).cap]
  have ht : sameT a.ts b.ts = sameT b.ts a.ts := sameBy_comm fun j => by
    unfold eqTr; rw [eqS_comm (tA a.ts j).nm, beqI (tA a.ts j).prio, sameA_comm (tA a.ts j).pre.l, sameA_comm (tA a.ts j).post.l, sameA_comm (tA a.ts j).inh.l]
  unfold equalN
  rw [eqS_comm a.nm, hp, ht]
theorem sameA_self (l : List (Int × Int)) : sameA l l = true := sameBy_yes rfl fun j _ => by simp [eqArc]
theorem equalN_self (a : NetV) : equalN a a = true := by
  have hp : sameP a.ps a.ps = true := sameBy_yes rfl fun j _ => by simp [eqPl, eqS_self]
  have ht : sameT a.ts a.ts = true := sameBy_yes rfl fun j _ => by simp [eqTr, eqS_self, sameA_self]
  simp [equalN, eqS_self, hp, ht]
def rsameD (a b : NetV) : Bool := okN a && equalN a b
theorem sames1 (a b : NetV) : sameN a b = rsameD a b := by
  unfold sameN rsameD
  cases h : equalN a b
  · simp
  · rw [equalN_ok h]; cases okN b <;> rfl
theorem sames2 (a b : NetV) : sameN b a = rsameD a b := by
  rw [sames1]
  unfold rsameD
  rw [equalN_comm b a]
  cases h : equalN a b
  · simp
  · rw [equalN_ok h]
theorem sames3 (a : NetV) : sameN a a = okN a := by
  rw [sames1]; unfold rsameD; rw [equalN_self]; simp

set_option maxHeartbeats 8000000 in
set_option maxRecDepth 100000 in
theorem rsameN_any (a b : NetV) (w : World) (hr : NetR w a) (hs : NetR w b) :
    Calls Try.prog 43 #[.agg #[.string a.nm, .slice a.PA a.ps.length a.pc, .slice a.TA a.ts.length a.tc], .agg #[.string b.nm, .slice b.PA b.ps.length b.pc, .slice b.TA b.ts.length b.tc]] w (VPost w.heap.size w (.bool (rsameD a b))) := by
  have CA := fun W (hW : Below w.heap.size w W) => rvalidN_any a W (hr.below hW (Nat.le_refl _))
  have CE := fun W (hW : Below w.heap.size w W) => requalN_any a b W (hr.below hW (Nat.le_refl _)) (hs.below hW (Nat.le_refl _))
  have hD : rsameD a b = (okN a && equalN a b) := rfl
  generalize rsameD a b = S at *
  generalize okN a = t1 at *
  generalize equalN a b = t2 at *
  clear hr hs
  obtain ⟨nm, PA, ps, pc, TA, ts, tc⟩ := a
  obtain ⟨nm2, PB, qs, qc, TB, us, uc⟩ := b
  dsimp only at *
  replace CA := Lib.hid CA
  replace CE := Lib.hid CE
  have B0 : Hid (Below w.heap.size w ((w.alloc (.cells #[.string nm, .slice PA ps.length pc, .slice TA ts.length tc] 25)).alloc (.cells #[.string nm2, .slice PB qs.length qc, .slice TB us.length uc] 25))) := ((Below.refl _ _).alloc (Nat.le_refl _) _).alloc (by simp) _
  cases t1
  · have E : Hid (false = S) := by show _ = _; rw [hD]; rfl
    clear hD
    go_enter Try.func43, Try.ntmps43
    go_wp2_with fail
    refine (CA.out _ B0.out).mono ?_
    rintro e w1 ⟨rfl, K⟩
    have x0w1 : w1.cell? ⟨w.heap.size, 0, none⟩ = some (.string nm) := by rw [K.cell (by simp; omega)]; simp
    have x1w1 : w1.cell? ⟨w.heap.size, 1, none⟩ = some (.slice PA ps.length pc) := by rw [K.cell (by simp; omega)]; simp
    have x2w1 : w1.cell? ⟨w.heap.size, 2, none⟩ = some (.slice TA ts.length tc) := by rw [K.cell (by simp; omega)]; simp
    have x3w1 : w1.cell? ⟨w.heap.size + 1, 0, none⟩ = some (.string nm2) := by rw [K.cell (by simp)]; simp
    have x4w1 : w1.cell? ⟨w.heap.size + 1, 1, none⟩ = some (.slice PB qs.length qc) := by rw [K.cell (by simp)]; simp
    have x5w1 : w1.cell? ⟨w.heap.size + 1, 2, none⟩ = some (.slice TB us.length uc) := by rw [K.cell (by simp)]; simp
    have K1 := Lib.hid (B0.out.trans (K.mono (by simp; omega)))
    clear K
    go_wp2
    go_ret
    exact ⟨ret_b E.out, K1.out⟩
  · cases t2
    · have E : Hid (false = S) := by show _ = _; rw [hD]; rfl
      clear hD
      go_enter Try.func43, Try.ntmps43
      go_wp2_with fail
      refine (CA.out _ B0.out).mono ?_
      rintro e w1 ⟨rfl, K⟩
      have x0w1 : w1.cell? ⟨w.heap.size, 0, none⟩ = some (.string nm) := by rw [K.cell (by simp; omega)]; simp
      have x1w1 : w1.cell? ⟨w.heap.size, 1, none⟩ = some (.slice PA ps.length pc) := by rw [K.cell (by simp; omega)]; simp
      have x2w1 : w1.cell? ⟨w.heap.size, 2, none⟩ = some (.slice TA ts.length tc) := by rw [K.cell (by simp; omega)]; simp
      have x3w1 : w1.cell? ⟨w.heap.size + 1, 0, none⟩ = some (.string nm2) := by rw [K.cell (by simp)]; simp
      have x4w1 : w1.cell? ⟨w.heap.size + 1, 1, none⟩ = some (.slice PB qs.length qc) := by rw [K.cell (by simp)]; simp
      have x5w1 : w1.cell? ⟨w.heap.size + 1, 2, none⟩ = some (.slice TB us.length uc) := by rw [K.cell (by simp)]; simp
      have K1 := Lib.hid (B0.out.trans (K.mono (by simp; omega)))
      clear K
      go_wp2_with fail
      refine (CE.out _ K1.out).mono ?_
      rintro e w2 ⟨rfl, K⟩
      have x0w2 : w2.cell? ⟨w.heap.size, 0, none⟩ = some (.string nm) := (K.cell (World.block_lt_of_cell? w1 ⟨w.heap.size, 0, none⟩ x0w1)).trans x0w1
      have x1w2 : w2.cell? ⟨w.heap.size, 1, none⟩ = some (.slice PA ps.length pc) := (K.cell (World.block_lt_of_cell? w1 ⟨w.heap.size, 1, none⟩ x1w1)).trans x1w1
      have x2w2 : w2.cell? ⟨w.heap.size, 2, none⟩ = some (.slice TA ts.length tc) := (K.cell (World.block_lt_of_cell? w1 ⟨w.heap.size, 2, none⟩ x2w1)).trans x2w1
      have x3w2 : w2.cell? ⟨w.heap.size + 1, 0, none⟩ = some (.string nm2) := (K.cell (World.block_lt_of_cell? w1 ⟨w.heap.size + 1, 0, none⟩ x3w1)).trans x3w1
      have x4w2 : w2.cell? ⟨w.heap.size + 1, 1, none⟩ = some (.slice PB qs.length qc) := (K.cell (World.block_lt_of_cell? w1 ⟨w.heap.size + 1, 1, none⟩ x4w1)).trans x4w1
      have x5w2 : w2.cell? ⟨w.heap.size + 1, 2, none⟩ = some (.slice TB us.length uc) := (K.cell (World.block_lt_of_cell? w1 ⟨w.heap.size + 1, 2, none⟩ x5w1)).trans x5w1
      have K2 := Lib.hid (K1.out.trans (K.mono K1.out.size))
      clear x0w1 x1w1 x2w1 x3w1 x4w1 x5w1
      clear K
      go_wp2
      go_ret
      exact ⟨ret_b E.out, K2.out⟩
    · have E : Hid (true = S) := by show _ = _; rw [hD]; rfl
      clear hD
      go_enter Try.func43, Try.ntmps43
      go_wp2_with fail
      refine (CA.out _ B0.out).mono ?_
      rintro e w1 ⟨rfl, K⟩
      have x0w1 : w1.cell? ⟨w.heap.size, 0, none⟩ = some (.string nm) := by rw [K.cell (by simp; omega)]; simp
      have x1w1 : w1.cell? ⟨w.heap.size, 1, none⟩ = some (.slice PA ps.length pc) := by rw [K.cell (by simp; omega)]; simp
      have x2w1 : w1.cell? ⟨w.heap.size, 2, none⟩ = some (.slice TA ts.length tc) := by rw [K.cell (by simp; omega)]; simp
      have x3w1 : w1.cell? ⟨w.heap.size + 1, 0, none⟩ = some (.string nm2) := by rw [K.cell (by simp)]; simp
      have x4w1 : w1.cell? ⟨w.heap.size + 1, 1, none⟩ = some (.slice PB qs.length qc) := by rw [K.cell (by simp)]; simp
      have x5w1 : w1.cell? ⟨w.heap.size + 1, 2, none⟩ = some (.slice TB us.length uc) := by rw [K.cell (by simp)]; simp
      have K1 := Lib.hid (B0.out.trans (K.mono (by simp; omega)))
      clear K
      go_wp2_with fail
      refine (CE.out _ K1.out).mono ?_
      rintro e w2 ⟨rfl, K⟩
      have x0w2 : w2.cell? ⟨w.heap.size, 0, none⟩ = some (.string nm) := (K.cell (World.block_lt_of_cell? w1 ⟨w.heap.size, 0, none⟩ x0w1)).trans x0w1
      have x1w2 : w2.cell? ⟨w.heap.size, 1, none⟩ = some (.slice PA ps.length pc) := (K.cell (World.block_lt_of_cell? w1 ⟨w.heap.size, 1, none⟩ x1w1)).trans x1w1
      have x2w2 : w2.cell? ⟨w.heap.size, 2, none⟩ = some (.slice TA ts.length tc) := (K.cell (World.block_lt_of_cell? w1 ⟨w.heap.size, 2, none⟩ x2w1)).trans x2w1
      have x3w2 : w2.cell? ⟨w.heap.size + 1, 0, none⟩ = some (.string nm2) := (K.cell (World.block_lt_of_cell? w1 ⟨w.heap.size + 1, 0, none⟩ x3w1)).trans x3w1
      have x4w2 : w2.cell? ⟨w.heap.size + 1, 1, none⟩ = some (.slice PB qs.length qc) := (K.cell (World.block_lt_of_cell? w1 ⟨w.heap.size + 1, 1, none⟩ x4w1)).trans x4w1
      have x5w2 : w2.cell? ⟨w.heap.size + 1, 2, none⟩ = some (.slice TB us.length uc) := (K.cell (World.block_lt_of_cell? w1 ⟨w.heap.size + 1, 2, none⟩ x5w1)).trans x5w1
      have K2 := Lib.hid (K1.out.trans (K.mono K1.out.size))
      clear x0w1 x1w1 x2w1 x3w1 x4w1 x5w1
      clear K
      go_wp2
      go_ret
      exact ⟨ret_b E.out, K2.out⟩
end Go.Proofs.Ytoahhnahjpcpoaa
