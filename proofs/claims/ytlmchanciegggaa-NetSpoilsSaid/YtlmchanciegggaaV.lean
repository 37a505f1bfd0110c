/- Equality of arcs, places, transitions, nets. -/
import Derived.Test.YtlmchanciegggaaU
import Derived.Laws.StructEq
namespace Go.Proofs.Ytlmchanciegggaa
open Go.RowKit

def eqArc (l m : List (Int × Int)) (j : Nat) : Bool := aP l j == aP m j && aW l j == aW m j
def eqPl (ps qs : List PlaceV) (j : Nat) : Bool := eqS (pA ps j).nm (pA qs j).nm && ((pA ps j).ini == (pA qs j).ini && (pA ps j).cap == (pA qs j).cap)
def sameBy (n m : Nat) (f : Nat → Bool) : Bool := decide (n = m) && !anyB (fun j => !f j) n
def sameA (l m : List (Int × Int)) : Bool := sameBy l.length m.length (eqArc l m)
def sameP (ps qs : List PlaceV) : Bool := sameBy ps.length qs.length (eqPl ps qs)
def eqTr (ts us : List TransV) (j : Nat) : Bool :=
  eqS (tA ts j).nm (tA us j).nm && ((tA ts j).prio == (tA us j).prio && (sameA (tA ts j).pre.l (tA us j).pre.l && (sameA (tA ts j).post.l (tA us j).post.l && sameA (tA ts j).inh.l (tA us j).inh.l)))
def sameT (ts us : List TransV) : Bool := sameBy ts.length us.length (eqTr ts us)
def equalN (a b : NetV) : Bool := eqS a.nm b.nm && (sameP a.ps b.ps && sameT a.ts b.ts)
theorem sameBy_ne {n m : Nat} {f : Nat → Bool} (h : n ≠ m) : sameBy n m f = false := by simp [sameBy, h]
theorem sameBy_at {n m k : Nat} {f : Nat → Bool} (hk : k < n) (h : f k = false) : sameBy n m f = false := by
  have := anyB_yes (f := fun j => !f j) hk (by simp [h])
  simp [sameBy, this]
theorem sameBy_yes {n m : Nat} {f : Nat → Bool} (e : n = m) (h : ∀ j, j < n → f j = true) : sameBy n m f = true := by
  have := anyB_no (f := fun j => !f j) (n := n) (fun j hj => by simp [h j hj])
  simp [sameBy, this, e] at this ⊢
  subst e
  exact this
theorem sameBy_of {n m : Nat} {f : Nat → Bool} (h : sameBy n m f = true) : n = m ∧ ∀ j, j < n → f j = true := by
  by_cases e : n = m
  · refine ⟨e, fun j hj => ?_⟩
    cases hf : f j
    · rw [sameBy_at hj hf] at h; cases h
    · rfl
  · rw [sameBy_ne e] at h; cases h

theorem arcNeq (a b c d : Int) (w : World) : (binOp .neq 58 (.agg #[.int .i64 a, .int .i64 b]) (.agg #[.int .i64 c, .int .i64 d])).run Try.prog w = .ok (.bool (!(a == c && b == d))) w := by
  have hS : Try.prog.underlying 58 = some (.struct (Try.prog.fieldsOf 58)) := by kernel_rfl
  have hp : Try.prog.stoodInHeld 58 = false := by kernel_rfl
  rw [run_neq_struct, show (10000 : Nat) = 9999 + 1 from rfl, run_equalIn_agg w 9999 58 _ _ hS hp]
  simp only [Program.fieldsOf, Try.underlying58]
  go_simp
  by_cases h1 : a = c <;> by_cases h2 : b = d <;> simp [h1, h2]
theorem placeNeq (s t : ByteArray) (a b c d : Int) (w : World) : (binOp .neq 50 (.agg #[.string s, .int .i64 a, .int .i64 b]) (.agg #[.string t, .int .i64 c, .int .i64 d])).run Try.prog w = .ok (.bool (!(eqS s t && (a == c && b == d)))) w := by
  have hS : Try.prog.underlying 50 = some (.struct (Try.prog.fieldsOf 50)) := by kernel_rfl
  have hp : Try.prog.stoodInHeld 50 = false := by kernel_rfl
  rw [run_neq_struct, show (10000 : Nat) = 9999 + 1 from rfl, run_equalIn_agg w 9999 50 _ _ hS hp]
  simp only [Program.fieldsOf, Try.underlying50]
  unfold eqS
  go_simp
  by_cases h0 : s.toList = t.toList <;> by_cases h1 : a = c <;> by_cases h2 : b = d <;> simp [h0, h1, h2]
theorem faultNeq (a b c d : Int) (w : World) : (binOp .neq 31 (.agg #[.int .i64 a, .int .i64 b]) (.agg #[.int .i64 c, .int .i64 d])).run Try.prog w = .ok (.bool (!(a == c && b == d))) w := by
  have hS : Try.prog.underlying 31 = some (.struct (Try.prog.fieldsOf 31)) := by kernel_rfl
  have hp : Try.prog.stoodInHeld 31 = false := by kernel_rfl
  rw [run_neq_struct, show (10000 : Nat) = 9999 + 1 from rfl, run_equalIn_agg w 9999 31 _ _ hS hp]
  simp only [Program.fieldsOf, Try.underlying31]
  go_simp
  by_cases h1 : a = c <;> by_cases h2 : b = d <;> simp [h1, h2]

set_option maxHeartbeats 2000000 in
theorem rsameA_any (A B : Option Addr) (l m : List (Int × Int)) (c c2 : Nat) (w : World) (hr : ReadsA w A l) (hs : ReadsA w B m) (hl : l.length ≤ 1000) (hm : m.length ≤ 1000) :
    Calls Try.prog 86 #[.slice A l.length c, .slice B m.length c2] w (VPost w.heap.size w (.bool (sameA l m))) := by
  have hmg : Try.prog.eqGuardType Try.prog.depth 58 = false := by kernel_rfl
  have H1 : Hid (l.length ≠ m.length → false = sameA l m) := fun h => (sameBy_ne h).symm
  have H2 : Hid (∀ k, k < l.length → eqArc l m k = false → false = sameA l m) := fun k h1 h2 => (sameBy_at h1 h2).symm
  have H3 : Hid (l.length = m.length → (∀ k, k < l.length → eqArc l m k = true) → true = sameA l m) := fun h1 h2 => (sameBy_yes h1 h2).symm
  generalize sameA l m = S at *
  have HR := Lib.hid hr
  have HS := Lib.hid hs
  clear hr hs
  by_cases he : l.length = m.length
  · rw [← he]
    have HE := Lib.hid he
    clear he hm
    generalize hn : l.length = n at *
    have HN := Lib.hid hn
    clear hn
    have B0 : Hid (Below w.heap.size w w) := Below.refl _ _
    go_enter Try.func86, Try.ntmps86
    go_wp2
    go_loopw [5] (fun q wr => ∃ k : Nat, k ≤ n ∧ q = .int .i64 k ∧ Hid (Below w.heap.size w wr) ∧ Hid (∀ j, j < k → eqArc l m j = true)) (fun q _ => n - (intOf q).toNat)
    case atStart => exact ⟨0, by omega, rfl, B0, fun j hj => absurd hj (by omega)⟩
    case round =>
      obtain ⟨k, hk, rfl, HB, HM⟩ := hrel
      by_cases hlt : k < n
      · obtain ⟨b0, off, rfl, hb0, d0, d1⟩ := (HR.out.below HB.out (Nat.le_refl _)) k (by rw [HN.out]; exact hlt)
        obtain ⟨b1, off1, rfl, hb1, f0, f1⟩ := (HS.out.below HB.out (Nat.le_refl _)) k (by rw [← HE.out]; exact hlt)
        have HT := Lib.hid (H2.out k hlt)
        have HF : Hid (eqArc l m k = true → ∀ j, j < k + 1 → eqArc l m j = true) := upto_snoc HM.out
        have HQ : Hid (eqArc l m k = (aP l k == aP m k && aW l k == aW m k)) := rfl
        clear HM
        generalize aP l k = x1 at *
        generalize aW l k = x2 at *
        generalize aP m k = y1 at *
        generalize aW m k = y2 at *
        have hneq := fun w => arcNeq x1 x2 y1 y2 w
        generalize (x1 == y1 && x2 == y2) = q at *
        cases q
        · have E := Lib.hid (HT.out (HQ.out.trans rfl))
          clear HT HF
          simp only [Bool.not_false] at hneq
          go_wp2
          go_quiet (fail)
          go_wp2
          go_ret
          exact ⟨ret_b E.out, below_drewN HB.out _⟩
        · have G := Lib.hid (HF.out (HQ.out.trans rfl))
          clear HT HF
          simp only [Bool.not_true] at hneq
          go_wp2
          go_quiet (fail)
          go_wp2
          go_roundw
          case rel => exact ⟨k + 1, by omega, by go_num, below_drewN HB.out _, G⟩
          case measure => simp [intOf]; omega
      · have E := Lib.hid (H3.out HE.out (fun j hj => HM.out j (by omega)))
        clear HM
        go_wp2
        go_ret
        exact ⟨ret_b E.out, HB.out⟩
  · have E := Lib.hid (H1.out he)
    generalize l.length = n1 at *
    generalize m.length = n2 at *
    have hx : ((n1 : Int) != (n2 : Int)) = true := by simp; omega
    have hx2 : ((n1 : Int) == (n2 : Int)) = false := by simp; omega
    clear H1 H2 H3 he
    go_enter Try.func86, Try.ntmps86
    go_wp2
    go_ret
    exact ⟨ret_b E.out, Below.refl _ _⟩

set_option maxHeartbeats 2000000 in
theorem sameA_any (A B : Option Addr) (l m : List (Int × Int)) (c c2 : Nat) (w : World) (hr : ReadsA w A l) (hs : ReadsA w B m) (hl : l.length ≤ 1000) (hm : m.length ≤ 1000) :
    Calls Try.prog 87 #[.slice A l.length c, .slice B m.length c2] w (VPost w.heap.size w (.bool (sameA l m))) := by
  have hmg : Try.prog.eqGuardType Try.prog.depth 58 = false := by kernel_rfl
  have H1 : Hid (l.length ≠ m.length → false = sameA l m) := fun h => (sameBy_ne h).symm
  have H2 : Hid (∀ k, k < l.length → eqArc l m k = false → false = sameA l m) := fun k h1 h2 => (sameBy_at h1 h2).symm
  have H3 : Hid (l.length = m.length → (∀ k, k < l.length → eqArc l m k = true) → true = sameA l m) := fun h1 h2 => (sameBy_yes h1 h2).symm
  generalize sameA l m = S at *
  have HR := Lib.hid hr
  have HS := Lib.hid hs
  clear hr hs
  by_cases he : l.length = m.length
  · rw [← he]
    have HE := Lib.hid he
    clear he hm
    generalize hn : l.length = n at *
    have HN := Lib.hid hn
    clear hn
    have B0 : Hid (Below w.heap.size w w) := Below.refl _ _
    go_enter Try.func87, Try.ntmps87
    go_wp2
    go_loopw [13] (fun q wr => ∃ k : Nat, k ≤ n ∧ q = .int .i64 k ∧ Hid (Below w.heap.size w wr) ∧ Hid (∀ j, j < k → eqArc l m j = true)) (fun q _ => n - (intOf q).toNat)
    case atStart => exact ⟨0, by omega, rfl, B0, fun j hj => absurd hj (by omega)⟩
    case round =>
      obtain ⟨k, hk, rfl, HB, HM⟩ := hrel
      by_cases hlt : k < n
      · obtain ⟨b0, off, rfl, hb0, d0, d1⟩ := (HR.out.below HB.out (Nat.le_refl _)) k (by rw [HN.out]; exact hlt)
        obtain ⟨b1, off1, rfl, hb1, f0, f1⟩ := (HS.out.below HB.out (Nat.le_refl _)) k (by rw [← HE.out]; exact hlt)
        have HT := Lib.hid (H2.out k hlt)
        have HF : Hid (eqArc l m k = true → ∀ j, j < k + 1 → eqArc l m j = true) := upto_snoc HM.out
        have HQ : Hid (eqArc l m k = (aP l k == aP m k && aW l k == aW m k)) := rfl
        clear HM
        generalize aP l k = x1 at *
        generalize aW l k = x2 at *
        generalize aP m k = y1 at *
        generalize aW m k = y2 at *
        have hneq := fun w => arcNeq x1 x2 y1 y2 w
        generalize (x1 == y1 && x2 == y2) = q at *
        cases q
        · have E := Lib.hid (HT.out (HQ.out.trans rfl))
          clear HT HF
          simp only [Bool.not_false] at hneq
          go_wp2
          go_quiet (fail)
          go_wp2
          go_ret
          exact ⟨ret_b E.out, below_drewN HB.out _⟩
        · have G := Lib.hid (HF.out (HQ.out.trans rfl))
          clear HT HF
          simp only [Bool.not_true] at hneq
          go_wp2
          go_quiet (fail)
          go_wp2
          go_roundw
          case rel => exact ⟨k + 1, by omega, by go_num, below_drewN HB.out _, G⟩
          case measure => simp [intOf]; omega
      · have E := Lib.hid (H3.out HE.out (fun j hj => HM.out j (by omega)))
        clear HM
        go_wp2
        go_ret
        exact ⟨ret_b E.out, HB.out⟩
  · have E := Lib.hid (H1.out he)
    generalize l.length = n1 at *
    generalize m.length = n2 at *
    have hx : ((n1 : Int) != (n2 : Int)) = true := by simp; omega
    have hx2 : ((n1 : Int) == (n2 : Int)) = false := by simp; omega
    clear H1 H2 H3 he
    go_enter Try.func87, Try.ntmps87
    go_wp2
    go_ret
    exact ⟨ret_b E.out, Below.refl _ _⟩

set_option maxHeartbeats 2000000 in
theorem sameP_any (A B : Option Addr) (l m : List PlaceV) (c c2 : Nat) (w : World) (hr : ReadsP w A l) (hs : ReadsP w B m) (hl : l.length ≤ 1000) (hm : m.length ≤ 1000) :
    Calls Try.prog 74 #[.slice A l.length c, .slice B m.length c2] w (VPost w.heap.size w (.bool (sameP l m))) := by
  have hmg : Try.prog.eqGuardType Try.prog.depth 50 = false := by kernel_rfl
  have H1 : Hid (l.length ≠ m.length → false = sameP l m) := fun h => (sameBy_ne h).symm
  have H2 : Hid (∀ k, k < l.length → eqPl l m k = false → false = sameP l m) := fun k h1 h2 => (sameBy_at h1 h2).symm
  have H3 : Hid (l.length = m.length → (∀ k, k < l.length → eqPl l m k = true) → true = sameP l m) := fun h1 h2 => (sameBy_yes h1 h2).symm
  generalize sameP l m = S at *
  have HR := Lib.hid hr
  have HS := Lib.hid hs
  clear hr hs
  by_cases he : l.length = m.length
  · rw [← he]
    have HE := Lib.hid he
    clear he hm
    generalize hn : l.length = n at *
    have HN := Lib.hid hn
    clear hn
    have B0 : Hid (Below w.heap.size w w) := Below.refl _ _
    go_enter Try.func74, Try.ntmps74
    go_wp2
    go_loopw [13] (fun q wr => ∃ k : Nat, k ≤ n ∧ q = .int .i64 k ∧ Hid (Below w.heap.size w wr) ∧ Hid (∀ j, j < k → eqPl l m j = true)) (fun q _ => n - (intOf q).toNat)
    case atStart => exact ⟨0, by omega, rfl, B0, fun j hj => absurd hj (by omega)⟩
    case round =>
      obtain ⟨k, hk, rfl, HB, HM⟩ := hrel
      by_cases hlt : k < n
      · obtain ⟨b0, off, rfl, hb0, d0, d1, d2⟩ := (HR.out.below HB.out (Nat.le_refl _)) k (by rw [HN.out]; exact hlt)
        obtain ⟨b1, off1, rfl, hb1, f0, f1, f2⟩ := (HS.out.below HB.out (Nat.le_refl _)) k (by rw [← HE.out]; exact hlt)
        have HT := Lib.hid (H2.out k hlt)
        have HF : Hid (eqPl l m k = true → ∀ j, j < k + 1 → eqPl l m j = true) := upto_snoc HM.out
        have HQ : Hid (eqPl l m k = (eqS (pA l k).nm (pA m k).nm && ((pA l k).ini == (pA m k).ini && (pA l k).cap == (pA m k).cap))) := rfl
        clear HM
        generalize (pA l k).nm = x0 at *
        generalize (pA l k).ini = x1 at *
        generalize (pA l k).cap = x2 at *
        generalize (pA m k).nm = y0 at *
        generalize (pA m k).ini = y1 at *
        generalize (pA m k).cap = y2 at *
        have hneq := fun w => placeNeq x0 y0 x1 x2 y1 y2 w
        generalize (eqS x0 y0 && (x1 == y1 && x2 == y2)) = q at *
        cases q
        · have E := Lib.hid (HT.out (HQ.out.trans rfl))
          clear HT HF
          simp only [Bool.not_false] at hneq
          go_wp2
          go_quiet (fail)
          go_wp2
          go_ret
          exact ⟨ret_b E.out, below_drewN HB.out _⟩
        · have G := Lib.hid (HF.out (HQ.out.trans rfl))
          clear HT HF
          simp only [Bool.not_true] at hneq
          go_wp2
          go_quiet (fail)
          go_wp2
          go_roundw
          case rel => exact ⟨k + 1, by omega, by go_num, below_drewN HB.out _, G⟩
          case measure => simp [intOf]; omega
      · have E := Lib.hid (H3.out HE.out (fun j hj => HM.out j (by omega)))
        clear HM
        go_wp2
        go_ret
        exact ⟨ret_b E.out, HB.out⟩
  · have E := Lib.hid (H1.out he)
    generalize l.length = n1 at *
    generalize m.length = n2 at *
    have hx : ((n1 : Int) != (n2 : Int)) = true := by simp; omega
    have hx2 : ((n1 : Int) == (n2 : Int)) = false := by simp; omega
    clear H1 H2 H3 he
    go_enter Try.func74, Try.ntmps74
    go_wp2
    go_ret
    exact ⟨ret_b E.out, Below.refl _ _⟩
end Go.Proofs.Ytlmchanciegggaa
