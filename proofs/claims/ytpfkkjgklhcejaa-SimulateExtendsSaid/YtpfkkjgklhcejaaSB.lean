/- Runs of a net by weights: what a visitor keeps; a row that is cleared. -/
import Derived.Test.YtpfkkjgklhcejaaSA
import Derived.Test.YtpfkkjgklhcejaaSF
import Derived.Lib.SliceRun
import Derived.Deep.OwnRows
import Derived.WalkMore
namespace Go.Proofs.Ytpfkkjgklhcejaa
open Go.RowKit

theorem rowIs_fill {b : Nat} {t : TypeId} {N : Nat} (z : Value) : ∀ (k o : Nat) (w : World) (f : Nat → Value), w.rowIs b t N f → (w.setCells b o (List.replicate k z)).rowIs b t N (fun j => if o ≤ j ∧ j < o + k then z else f j)
  | 0, o, w, f, h => h.congr fun i _ => by rw [if_neg (by omega)]
  | k + 1, o, w, f, h => by
    have h1 := rowIs_fill z k (o + 1) (w.setCell ⟨b, o, none⟩ z) _ (h.set o z)
    refine World.rowIs.congr h1 fun i _ => ?_
    by_cases e : o + 1 ≤ i ∧ i < o + 1 + k
    · rw [if_pos e, if_pos (by omega)]
    · rw [if_neg e]
      by_cases e2 : i = o
      · rw [if_pos e2, if_pos (by omega)]
      · rw [if_neg e2, if_neg (by omega)]
theorem grown_fill (b : Nat) : ∀ (vs : List Value) (o : Nat) (w : World), w.grownBy (w.setCells b o vs) (some b)
  | [], _, w => World.grownBy.refl w _
  | v :: r, o, w => (⟨rfl, rfl, rfl, by simp, fun k _ hk => Below.heap_setCell _ _ _ k (fun e => hk (by rw [e]))⟩ : w.grownBy (w.setCell ⟨b, o, none⟩ v) (some b)).trans (grown_fill b r (o + 1) _)
theorem grown_set (w : World) (b k : Nat) (v : Value) : w.grownBy (w.setCell ⟨b, k, none⟩ v) (some b) := ⟨rfl, rfl, rfl, by simp, fun i _ hi => Below.heap_setCell _ _ _ i (fun e => hi (by rw [e]))⟩
theorem zero_int : ∀ w, (zeroValue 3).run Try.prog w = .ok (.int .i64 0) w := fun _ => by kernel_rfl
theorem run_clear {w : World} (ty P T c : Nat) (f : Nat → Value) (hr : w.rowIs P 3 T f) : ∃ w', (Builtin.clear_ #[26] ty #[.slice (some ⟨P, 0, none⟩) T c]).run Try.prog w = .ok (.tuple #[]) w' ∧ w'.rowIs P 3 T (fun _ => .int .i64 0) ∧ w.grownBy w' (some P) := by
  refine ⟨w.setCells P 0 (List.replicate T (.int .i64 0)), ?_, (rowIs_fill (.int .i64 0) T 0 w f hr).congr fun i hi => by rw [if_pos (by omega)], grown_fill P (List.replicate T (.int .i64 0)) 0 w⟩
  by_cases hT : T = 0
  · subst hT
    simp [Builtin.clear_, run_underlying Try.underlying26, World.setCells]
  · exact Lib.run_clear_slice w 26 3 ty (.int .i64 0) Try.underlying26 zero_int rfl rfl P 0 T c (by omega) (fun j hj => by rw [Nat.zero_add, hr.cell hj]; rfl) (fun j _ => hr.frozen _)
theorem reads_row {w : World} {P T : Nat} {f : Nat → Int} (h : w.rowIs P 3 T (fun j => .int .i64 (f j))) : ReadsV w (some ⟨P, 0, none⟩) (tab T f) := fun j hj => by
  rw [tab_len] at hj
  exact ⟨P, 0, rfl, h.lt, by rw [Nat.zero_add, tab_at _ _ _ hj]; exact h.cell hj⟩
theorem reads_rd {w : World} {A : Option Addr} {L : List Int} (h : ReadsV w A L) : Rd.ReadsI w A L := fun j hj => by
  obtain ⟨b, off, e, _, h2⟩ := h j hj
  exact ⟨b, off, e, h2⟩
theorem goodN_init {n : NetV} (h : okN n = true) : goodN n (initialN n) = true := by
  obtain ⟨_, _, _, _, hp, _⟩ := okN_parts h
  have e : initialN n = tab n.ps.length (iniF n.ps) := if_pos h
  unfold goodN validL
  rw [h, e, tab_len, decide_eq_true rfl, Bool.true_and, Bool.true_and]
  unfold natL
  refine allB_yes fun k hk => ?_
  rw [tab_len] at hk
  rw [tab_at _ _ _ hk]
  have h2 := hp k hk
  unfold placeE at h2
  have h3 : NatP (iniF n.ps k) := by
    unfold NatP iniF
    repeat' (split at h2)
    all_goals first | (exfalso; omega) | omega
  exact decide_eq_true h3
/-- what a run keeps of its list: not in row P -/
def NotAt (P : Nat) (A : Option Addr) (L : List Int) : Prop := L ≠ [] → ∀ b off, A = some ⟨b, off, none⟩ → b ≠ P
theorem ReadsV.grown {w w' : World} {A : Option Addr} {L : List Int} {P : Nat} (h : ReadsV w A L) (hn : NotAt P A L) (hg : w.grownBy w' (some P)) : ReadsV w' A L := fun j hj => by
  obtain ⟨b, off, e, h1, h2⟩ := h j hj
  have hb := hg.block b h1 (fun c => hn (fun c2 => by rw [c2] at hj; simp at hj) b off e (by injection c))
  exact ⟨b, off, e, Nat.lt_of_lt_of_le h1 hg.size, (World.cell?_of_block (a := ⟨b, off + j, none⟩) hb).trans h2⟩
theorem tCh_may {n : NetV} {ws m : List Int} {s : Nat} (hw : okW ws = true) (hl : ws.length = n.ts.length) (h : ¬ Rd.totR (posL n ws m) < 1) :
    Rd.chV s (posL n ws m) = (tCh n ws m s : Int) ∧ tCh n ws m s < n.ts.length ∧ mayB n m (tCh n ws m s) = true ∧ 1 ≤ at0 ws (tCh n ws m s) := by
  obtain ⟨t, e, h1, h2, h3⟩ := ch_may (s := s) hw hl h
  have e2 : tCh n ws m s = t := by unfold tCh; rw [e, Int.toNat_natCast]
  rw [e2]
  exact ⟨e, h1, h2, h3⟩
theorem fire_may {n : NetV} {m : List Int} {t : Nat} (hg : goodN n m = true) (ht : t < n.ts.length) (hm : mayB n m t = true) :
    (overB n m t = false → fireE n m t = 0 ∧ fireL n m t = aftL n m t) ∧ (overB n m t = true → fireE n m t = 3 ∧ fireL n m t = []) := by
  have hi : inT n (t : Int) = true := inT_iff.2 ⟨by omega, by omega⟩
  have hm' : mayB n m (t : Int).toNat = true := by rw [Int.toNat_natCast]; exact hm
  obtain ⟨e1, e2⟩ := fire_good (t := (t : Int)) (errN_zero.2 hg)
  rw [e1, e2]
  constructor
  · intro ho
    have h := errF_ok hi hm' (by rw [Int.toNat_natCast]; exact ho)
    rw [Int.toNat_natCast] at h
    exact h
  · intro ho
    exact errF_over hi hm' (by rw [Int.toNat_natCast]; exact ho)
end Go.Proofs.Ytpfkkjgklhcejaa
