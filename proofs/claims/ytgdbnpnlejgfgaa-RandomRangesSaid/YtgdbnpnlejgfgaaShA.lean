/- Contract of the shuffle. -/
import Derived.Test.YtgdbnpnlejgfgaaWalkB
import Derived.Test.YtgdbnpnlejgfgaaShM
import Derived.Test.YtgdbnpnlejgfgaaShelf
import Derived.BigRegion
namespace Go.Proofs.Ytgdbnpnlejgfgaa
open Go.RowKit

/-- a permutation has come back in a slice of its own, with the last state -/
def ShPost (n : Nat) (P : List Int × Nat) (w : World) (e : Ending) (w' : World) : Prop :=
  ∃ A c, e = .returned (.tuple #[.slice A n c, .int .u64 P.2]) ∧ P.1.length = n ∧ ReadsI w' A P.1 ∧ Below w.heap.size w w'

theorem shuffle_any (s : Nat) (n : Nat) (hn1 : 1 ≤ n) (hn2 : n ≤ 64) (w : World) :
    Calls Try.prog 18 #[.int .u64 s, .int .i64 n] w (ShPost n (shufF outR stepR (n - 1) (mkL n n) s) w) := by
  have HP0 : Hid ((shufF outR stepR (n - 1) (mkL 64 n) s).1.take n = (shufF outR stepR (n - 1) (mkL n n) s).1 ∧ (shufF outR stepR (n - 1) (mkL 64 n) s).2 = (shufF outR stepR (n - 1) (mkL n n) s).2) := by
    have h := shufF_take outR stepR n (n - 1) (mkL 64 n) s (by omega)
    rw [mkL_take n hn2] at h
    exact h
  generalize shufF outR stepR (n - 1) (mkL n n) s = P at *
  go_enter Try.func18, Try.ntmps18
  go_wp2
  generalize hW : w.alloc _ = W1
  obtain ⟨hrow, hB⟩ := row_start (n := 64) hW
  clear hW
  generalize hg : w.heap.size = g at *
  have HG := Lib.hid hg
  clear hg
  go_loopw [7, 19] (fun _ q wr => ∃ k : Nat, k ≤ n ∧ q = .int .i64 k ∧ Hid (RowI 44 g (mkL 64 k) wr) ∧ Hid (Below g w wr)) (fun _ q _ => n - (intOf q).toNat)
  case atStart => exact ⟨0, by omega, rfl, hrow, hB⟩
  case round =>
    obtain ⟨k, hk, rfl, R, B⟩ := hrel
    by_cases hlt : k < n
    · have c1 := R.out.cell k (by rw [mkL_len]; omega)
      have c2 := R.out.frozen k
      generalize (mkL 64 k)[k]?.getD 0 = x0 at c1
      go_wp2
      go_roundw
      case rel => exact ⟨k + 1, by omega, by go_num, by show RowI _ _ _ _; rw [← mkL_set]; exact R.out.put k k, B.out.setCell (Nat.le_refl _) _⟩
      case measure => simp [intOf]; omega
    · obtain rfl : k = n := by omega
      have hst : Hid (shufF outR stepR (k - 1) (mkL 64 k) s = shufF outR stepR (k - 1) (mkL 64 k) s) := rfl
      have HL : Hid ((mkL 64 k).length = 64) := mkL_len 64 k
      generalize hS : shufF outR stepR (k - 1) (mkL 64 k) s = SF at *
      go_wp2
      go_loopw [8, 9] (fun x q wr => ∃ (i st : Nat) (L : List Int), i < k ∧ x = .int .u64 st ∧ q = .int .i64 i ∧ Hid (L.length = 64) ∧ Hid (RowI 44 g L wr) ∧ Hid (Below g w wr) ∧ Hid (shufF outR stepR i L st = SF)) (fun _ q _ => (intOf q).toNat)
      case atStart => exact ⟨k - 1, s, mkL 64 k, by omega, rfl, by go_num, HL, R, B, hS⟩
      case round =>
        clear R B hS hst HL
        obtain ⟨i, st, L, hik, rfl, rfl, HL, R, B, HS⟩ := hrel
        by_cases hi : 1 ≤ i
        · have C := below_any st ((i : Int) + 1)
          obtain ⟨e1, e2⟩ := belV_yes (s := st) (n := (i : Int) + 1) (by omega) (by omega)
          have e3 : (outR (stepR st) : Int) % ((i : Int) + 1) = ((outR (stepR st) % (i + 1) : Nat) : Int) := by rw [Int.natCast_emod, Int.natCast_add]; rfl
          rw [e1, e2, e3] at C
          have hj : outR (stepR st) % (i + 1) < i + 1 := Nat.mod_lt _ (by omega)
          have HS2 : Hid (shufF outR stepR (i - 1) (swapL L i (outR (stepR st) % (i + 1))) (stepR st) = SF) := by
            show _ = _
            rw [← shufF_step _ _ _ _ _ hi]; exact HS.out
          clear e1 e2 e3 HS
          generalize outR (stepR st) % (i + 1) = j at *
          generalize stepR st = st1 at *
          have C := Lib.hid C
          have c1 := R.out.cell i (by rw [HL.out]; omega)
          have c2 := R.out.cell j (by rw [HL.out]; omega)
          have f1 := R.out.frozen i
          have f2 := R.out.frozen j
          have hl : i < 64 ∧ j < 64 := by omega
          by_cases hij : i = j
          · as_aux_lemma =>
            subst hij
            have HW : Hid (swapL L i i = L.set i (L[i]?.getD 0)) := swapL_self L i
            generalize L[i]?.getD 0 = a at *
            go_wp2_with fail
            refine (C.out _).mono ?_
            rintro e w1 ⟨rfl, rfl⟩
            go_wp2
            go_region
            all_goals
              go_wp2
              go_roundw
              case rel => exact ⟨i - 1, st1, swapL L i i, by omega, rfl, by go_num, by show _ = _; rw [swapL_len]; exact HL.out, by show RowI _ _ _ _; rw [HW.out, ← List.set_set]; exact ((R.out.put i a).put i a).drew, ((B.out.setCell (Nat.le_refl _) _).setCell (Nat.le_refl _) _).drew, HS2.out⟩
              case measure => simp [intOf]; omega
          · as_aux_lemma =>
            have HW : Hid (swapL L i j = (L.set i (L[j]?.getD 0)).set j (L[i]?.getD 0)) := rfl
            generalize L[i]?.getD 0 = a at *
            generalize L[j]?.getD 0 = b at *
            go_wp2_with fail
            refine (C.out _).mono ?_
            rintro e w1 ⟨rfl, rfl⟩
            go_wp2
            go_region
            all_goals
              go_wp2
              go_roundw
              case rel => exact ⟨i - 1, st1, swapL L i j, by omega, rfl, by go_num, by show _ = _; rw [swapL_len]; exact HL.out, by show RowI _ _ _ _; rw [HW.out]; exact ((R.out.put i b).put j a).drew, ((B.out.setCell (Nat.le_refl _) _).setCell (Nat.le_refl _) _).drew, HS2.out⟩
              case measure => simp [intOf]; omega
        · obtain rfl : i = 0 := by omega
          have HE : Hid (SF = (L, st)) := HS.out.symm
          go_wp2_with fail
          refine (Try.slices_Clone_int g 0 k 64 L wr (by rw [HL.out]; exact hn2) (by omega) (fun j hj => by have := R.out.cell j hj; simpa using this)).mono ?_
          rintro e w2 ⟨v, rfl, hown, hnil, hb⟩
          go_wp2
          obtain ⟨A, c, rfl, hlen, hreads⟩ := own_reads hown hn1
          have hp := HP0.out
          rw [HE.out] at hp
          go_ret2
          refine ⟨A, c, ?_, ?_, ?_, ?_⟩
          · rw [← hp.2]; rfl
          · rw [← hp.1]; exact hlen
          · rw [← hp.1]; exact hreads
          · rw [HG.out]; exact B.out.trans (hb.mono (by have := B.out.size; have := HG.out; omega))
end Go.Proofs.Ytgdbnpnlejgfgaa
