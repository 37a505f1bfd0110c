/- Bounded natural solutions: the vector with a number, and the list of all solutions by number. -/
import Derived.Test.YtneediihponfiaaNRW
namespace Go.Proofs.Ytneediihponfiaa
open Go.RowKit

theorem prodN_drop {u : List Int} {j : Nat} (h : j < u.length) : prodN (u.drop j) = (at0 u j + 1).toNat * prodN (u.drop (j + 1)) := by
  rw [drop_at h]
  rfl
theorem prodN_split : ∀ (us : List Int) (j : Nat), prodN us = prodN (us.take j) * prodN (us.drop j)
  | us, 0 => by simp [prodN]
  | [], j + 1 => by simp [prodN]
  | u :: us, j + 1 => by
    show (u + 1).toNat * prodN us = (u + 1).toNat * prodN (us.take j) * prodN (us.drop j)
    rw [prodN_split us j, Nat.mul_assoc]
theorem nd_eq (u : List Int) (n : Nat) : ∀ d, d ≤ u.length → ndV u n d = n / prodN (u.drop (u.length - d))
  | 0, _ => by
    rw [Nat.sub_zero, List.drop_length]
    simp [ndV, prodN]
  | d + 1, h => by
    show ndV u n d / _ = _
    rw [nd_eq u n d (by omega), Nat.div_div_eq_div_mul]
    rw [show u.length - (d + 1) = u.length - 1 - d by omega, prodN_drop (by omega : u.length - 1 - d < u.length), show u.length - 1 - d + 1 = u.length - d by omega, Nat.mul_comm]
theorem mod_div_mod (n Q m R : Nat) : n % (Q * (m * R)) / R % m = n / R % m := by
  rw [show Q * (m * R) = R * (m * Q) by rw [← Nat.mul_assoc, Nat.mul_comm R, Nat.mul_comm Q m], Nat.mod_mul_right_div_self, Nat.mod_mul_right_mod]
theorem vecN_at : ∀ (u : List Int) (n j : Nat), j < u.length → at0 (vecN u n) j = ((n / prodN (u.drop (j + 1)) % (at0 u j + 1).toNat : Nat) : Int)
  | [], _, _, h => by simp at h
  | u :: us, n, 0, _ => rfl
  | u :: us, n, j + 1, h => by
    have h' : j < us.length := by simpa using h
    show at0 (vecN us (n % prodN us)) j = ((n / prodN (us.drop (j + 1)) % (at0 us j + 1).toNat : Nat) : Int)
    rw [vecN_at us _ j h', prodN_split us j, prodN_drop h', mod_div_mod]
theorem vecV_eq (u : List Int) (n : Nat) : vecV u n = vecN u n := by
  refine list_ext (by rw [vecN_len]; exact tab_len _ _) fun j hj => ?_
  have hj : j < u.length := by simpa [vecV, tab_len] using hj
  unfold vecV
  rw [tab_at _ _ _ hj, vecN_at u n j hj]
  unfold digV
  rw [nd_eq u n _ (by omega), show u.length - (u.length - 1 - j) = j + 1 by omega]
/-- the solutions among the first n vectors -/
def firstS (vf : Nat → List Int) (sb : List Int → Bool) (n : Nat) : List (List Int) := ((List.range n).map vf).filter sb
theorem firstS_succ (vf : Nat → List Int) (sb : List Int → Bool) (n : Nat) : firstS vf sb (n + 1) = firstS vf sb n ++ if sb (vf n) = true then [vf n] else [] := by
  unfold firstS
  rw [List.range_succ, List.map_append, List.filter_append, List.map_singleton]
  congr 1
  cases h : sb (vf n) <;> simp [h]
theorem firstS_pre (vf : Nat → List Int) (sb : List Int → Bool) {n m : Nat} (h : n ≤ m) : firstS vf sb n <+: firstS vf sb m := by
  obtain ⟨d, rfl⟩ : ∃ d, m = n + d := ⟨m - n, by omega⟩
  induction d with
  | zero => exact List.prefix_refl _
  | succ d ih =>
    rw [show n + (d + 1) = n + d + 1 by omega, firstS_succ]
    exact (ih (by omega)).trans (List.prefix_append _ _)
theorem firstS_all (L : List Row) (b u : List Int) : firstS (vecN u) (isB L b) (prodN u) = solT L b u := by
  unfold firstS solT
  rw [vecs_num]
theorem firstS_len (vf : Nat → List Int) (sb : List Int → Bool) (n : Nat) : (firstS vf sb n).length ≤ n := by
  unfold firstS
  have := List.length_filter_le sb ((List.range n).map vf)
  simpa using this
theorem take_pre {l t : List (List Int)} {n : Nat} (h : l <+: t) (hl : l.length = n) : t.take n = l := by
  obtain ⟨r, rfl⟩ := h
  rw [← hl, List.take_left' rfl]
theorem vecN_small {u : List Int} (h : withB u 0 1000 = true) (n : Nat) : ∀ k, k < (vecN u n).length → 0 ≤ at0 (vecN u n) k ∧ at0 (vecN u n) k ≤ 1000 := fun k hk => by
  rw [vecN_len] at hk
  rw [vecN_at u n k hk]
  obtain ⟨h1, h2⟩ := withB_at h k hk
  have := Nat.mod_lt (n / prodN (u.drop (k + 1))) (show 0 < (at0 u k + 1).toNat by omega)
  omega
/-- one row is appended -/
theorem wpList_row {ops : Array Oper} {rest : List Oper} {o : Oper} {a : Act} {w : World} {Q : Exit → Act → World → Prop} (hgd : o.guard = none) (s x : Operand)
    (ho : o.op = .call { callee := .builtin .append, args := #[s, x], argTypes := #[22, 22] })
    (base : Nat) (v : Value) (L : List Row) (r : Row) (hs : a.eval s = v) (hO : OwnG w base v L) (g : Nat) (hx : a.eval x = .slice (some ⟨g, 0, none⟩) 1 1)
    (hc : w.cell? ⟨g, 0, none⟩ = some r.v) (hr : FarG w base r) (hl : L.length ≤ 100000) (hbase : base ≤ w.heap.size)
    (h : ∀ A' c' w', OwnG w' base (.slice A' (L.length + 1) c') (L ++ [r]) → Below base w w' → wpList Try.prog ops Q rest (a.put o.dst (.slice A' (L.length + 1) c')) w') : wpList Try.prog ops Q (o :: rest) a w := by
  obtain ⟨i, hi, hz, h1, h2⟩ := info_parts infoR
  refine wpList_append_own _ hgd s x 22 ho base 23 i (.slice none 0 0) 1 24 Try.underlying22 hi hz h1 h2 rfl (by decide) v L.length (L.map Row.v) hs hO.1 ⟨g, 0, none⟩ 1 1 [r.v] hx rfl ?_ ?_ (by unfold maxLen; omega) (by omega) hbase ?_
  · intro j u hj
    cases j with
    | zero => simp at hj; subst hj; simpa [Addr.add] using hc
    | succ j => simp at hj
  · intro u hu
    simp at hu
    subst hu
    simp [Value.oneCell', Row.v]
  · intro v' w' hown hgrow _
    have hO' := own_snoc hO r hr hgrow hown
    obtain ⟨A', c', e, -⟩ := hO'.reads
    rw [List.length_append, List.length_singleton] at e
    subst e
    refine h A' c' w' hO' ((Below.refl base w).grown hgrow hbase fun q e => ?_)
    rcases hO.1.2 with ⟨e1, _⟩ | ⟨g', cap, cur, e1, hb, _⟩
    · rw [e1] at e; cases e
    · rw [e1] at e
      have : q = g' := by simpa [Value.ownBlock] using e.symm
      omega
end Go.Proofs.Ytneediihponfiaa
