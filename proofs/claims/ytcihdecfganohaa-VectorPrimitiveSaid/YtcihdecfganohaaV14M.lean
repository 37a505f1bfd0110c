/- Plain facts for the laws on sums and on primitive vectors: no program in sight. -/
import Derived.Test.YtcihdecfganohaaV12M
namespace Go.Proofs.Ytcihdecfganohaa
open Go.RowKit

theorem map_len {n : Nat} (f : Nat → Int) : ((List.range n).map f).length = n := by simp
theorem map_eq {a : List Int} (f : Nat → Int) (h : ∀ k, k < a.length → f k = at0 a k) : (List.range a.length).map f = a := by
  refine Eq.trans ?_ (list_at0 a)
  exact List.map_congr_left fun k hk => h k (List.mem_range.1 hk)
/-- all that the law on sums and differences compares -/
theorem group_facts {a b : List Int} (sa : smallV a = true) (sb : smallV b = true) (hb : a.length = b.length) :
    ∃ S D N : List Int, addV a b = (S, 0) ∧ addV b a = (S, 0) ∧ subV S b = (a, 0) ∧ subV a b = (D, 0) ∧ cmbV a 1 b (-1) = (D, 0) ∧ sclV b (-1) = (N, 0) ∧ addV a N = (D, 0) ∧
      S.length = a.length ∧ D.length = a.length ∧ N.length = a.length ∧ In64 S ∧ In64 N ∧ ∀ k, k < a.length → at0 S k = at0 a k + at0 b k ∧ at0 D k = at0 a k - at0 b k := by
  have e1 : addV a b = ((List.range a.length).map fun k => at0 a k + at0 b k, 0) := by
    unfold addV pairF
    rw [if_pos hb]
    refine trF_is _ fun k _ => ?_
    have h1 := smallV_at sa k
    have h2 := smallV_at sb k
    exact fitE (by omega) (by omega)
  have e2 : addV b a = ((List.range a.length).map fun k => at0 a k + at0 b k, 0) := by
    unfold addV pairF
    rw [if_pos hb.symm, ← hb]
    refine trF_is _ fun k _ => ?_
    have h1 := smallV_at sa k
    have h2 := smallV_at sb k
    unfold addE
    rw [Int.add_comm]
    exact fitE (by omega) (by omega)
  have e3 : subV ((List.range a.length).map fun k => at0 a k + at0 b k) b = (a, 0) := by
    unfold subV pairF
    rw [if_pos (by rw [map_len]; exact hb), map_len, trF_is (fun k => at0 a k) fun k hk => ?_, list_at0]
    have h1 := smallV_at sa k
    have h2 := smallV_at sb k
    unfold subE
    rw [map_at _ k hk, show at0 a k + at0 b k - at0 b k = at0 a k by omega]
    exact fitE (by omega) (by omega)
  have e4 : subV a b = ((List.range a.length).map fun k => at0 a k - at0 b k, 0) := by
    unfold subV pairF
    rw [if_pos hb]
    refine trF_is _ fun k _ => ?_
    have h1 := smallV_at sa k
    have h2 := smallV_at sb k
    exact fitE (by omega) (by omega)
  have e5 : cmbV a 1 b (-1) = ((List.range a.length).map fun k => at0 a k - at0 b k, 0) := by
    unfold cmbV pairF
    rw [if_pos hb]
    refine trF_is _ fun k _ => ?_
    have h1 := smallV_at sa k
    have h2 := smallV_at sb k
    unfold cmbE
    rw [cmbP_is (by omega) (by omega) (by omega) (by omega)]
    congr 1
    omega
  have e6 : sclV b (-1) = ((List.range a.length).map fun k => -at0 b k, 0) := by
    unfold sclV
    rw [← hb]
    refine trF_is _ fun k _ => ?_
    have h2 := smallV_at sb k
    unfold sclE
    rw [show at0 b k * -1 = -at0 b k by omega]
    exact fitE (by omega) (by omega)
  have e7 : addV a ((List.range a.length).map fun k => -at0 b k) = ((List.range a.length).map fun k => at0 a k - at0 b k, 0) := by
    unfold addV pairF
    rw [if_pos (by rw [map_len])]
    refine trF_is _ fun k hk => ?_
    have h1 := smallV_at sa k
    have h2 := smallV_at sb k
    unfold addE
    rw [map_at _ k hk, show at0 a k + -at0 b k = at0 a k - at0 b k by omega]
    exact fitE (by omega) (by omega)
  refine ⟨_, _, _, e1, e2, e3, e4, e5, e6, e7, map_len _, map_len _, map_len _, in64_map _ fun k _ => ?_, in64_map _ fun k _ => ?_, fun k hk => ⟨map_at _ k hk, map_at _ k hk⟩⟩
  · have h1 := smallV_at sa k
    have h2 := smallV_at sb k
    omega
  · have h2 := smallV_at sb k
    omega

theorem gcdS_pos {a : List Int} : ∀ {n : Nat}, gcdS a n = 0 → ∀ k, k < n → at0 a k = 0 := fun h k hk => gcdS_zero h k hk
theorem gcdS_all0 {a : List Int} : ∀ n, (∀ k, k < n → at0 a k = 0) → gcdS a n = 0
  | 0, _ => rfl
  | n + 1, h => by
    show Nat.gcd (gcdS a n) (at0 a n).natAbs = 0
    rw [gcdS_all0 n fun k hk => h k (by omega), h n (by omega)]
    rfl
theorem gcdS_mul {a L : List Int} (G : Nat) : ∀ n, (∀ k, k < n → at0 a k = at0 L k * G) → gcdS a n = G * gcdS L n
  | 0, _ => by simp [gcdS]
  | n + 1, h => by
    show Nat.gcd (gcdS a n) (at0 a n).natAbs = G * Nat.gcd (gcdS L n) (at0 L n).natAbs
    rw [gcdS_mul G n fun k hk => h k (by omega), h n (by omega), Int.natAbs_mul, Int.natAbs_natCast, Nat.mul_comm (at0 L n).natAbs, Nat.gcd_mul_left]
theorem tdiv_exact {x : Int} {g : Nat} (h : g ∣ x.natAbs) : x.tdiv g * g = x := by
  apply Int.tdiv_mul_cancel
  exact Int.ofNat_dvd_left.2 h

/-- all that the law on primitive vectors looks at -/
theorem prim_facts {a : List Int} (sa : smallV a = true) :
    ∃ (L : List Int) (G : Nat), primV a = (L, 0) ∧ L.length = a.length ∧ G ≤ 1048576 ∧ (∀ k, k < a.length → at0 a k = at0 L k * G) ∧ (∀ k, -1048576 ≤ at0 L k ∧ at0 L k ≤ 1048576) ∧
      (G = 0 → ∀ k, k < a.length → at0 L k = 0) ∧ (G = 0 → gcdS L a.length = 0) ∧ (1 ≤ G → gcdS L a.length = 1) := by
  have hl : leastV a = false := leastV_no fun k _ => by have := smallV_at sa k; omega
  have e0 : primV a = ((List.range a.length).map fun k => (at0 a k).tdiv (gcdS a a.length), 0) := by
    unfold primV
    rw [hl]
    exact trF_is _ fun k _ => rfl
  have hat : ∀ k, k < a.length → at0 ((List.range a.length).map fun k => (at0 a k).tdiv (gcdS a a.length)) k = (at0 a k).tdiv (gcdS a a.length) := fun k hk => map_at _ k hk
  have hex : ∀ k, k < a.length → at0 a k = at0 ((List.range a.length).map fun k => (at0 a k).tdiv (gcdS a a.length)) k * gcdS a a.length := fun k hk => by
    rw [hat k hk, tdiv_exact (gcdS_dvd a _ k hk)]
  have hm := gcdS_mul (gcdS a a.length) a.length hex
  have hz : gcdS a a.length = 0 → ∀ k, k < a.length → at0 ((List.range a.length).map fun k => (at0 a k).tdiv (gcdS a a.length)) k = 0 := fun h k hk => by
    rw [hat k hk, gcdS_zero h k hk]
    exact Int.zero_tdiv _
  refine ⟨_, gcdS a a.length, e0, map_len _, ?_, hex, fun k => ?_, hz, fun h => gcdS_all0 _ (hz h), fun h => ?_⟩
  · rcases Nat.eq_zero_or_pos (gcdS a a.length) with h | h
    · omega
    · have : ∃ k, k < a.length ∧ at0 a k ≠ 0 := by
        apply Classical.byContradiction
        intro c
        have : gcdS a a.length = 0 := gcdS_all0 _ fun k hk => by
          apply Classical.byContradiction
          intro d
          exact c ⟨k, hk, d⟩
        omega
      obtain ⟨k, hk, hne⟩ := this
      have h1 := Nat.le_of_dvd (by omega) (gcdS_dvd a _ k hk)
      have h2 := smallV_at sa k
      omega
  · by_cases hk : k < a.length
    · rw [hat k hk]
      have h1 := smallV_at sa k
      have h2 := Int.natAbs_tdiv_le_natAbs (at0 a k) (gcdS a a.length)
      omega
    · rw [map_at_out _ k (by omega)]
      omega
  · have : gcdS a a.length * 1 = gcdS a a.length * gcdS ((List.range a.length).map fun k => (at0 a k).tdiv (gcdS a a.length)) a.length := by rw [Nat.mul_one]; exact hm
    exact (Nat.eq_of_mul_eq_mul_left h this).symm
end Go.Proofs.Ytcihdecfganohaa
