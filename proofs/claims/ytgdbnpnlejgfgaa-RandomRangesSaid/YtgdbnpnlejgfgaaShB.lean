/- Contract of the reference's shuffle, and of both outside the range. -/
import Derived.Test.YtgdbnpnlejgfgaaShA
import Derived.Maps.AppendAt
namespace Go.Proofs.Ytgdbnpnlejgfgaa
open Go.RowKit

theorem Try.info3 : (Try.prog.info? 3).map (fun i => (i.zero, i.size, i.bytes)) = some (some (.int .i64 0), 1, 8) := by kernel_rfl

theorem shuffle_no (s : Nat) (n : Int) (hn : n < 1 ∨ 64 < n) (w : World) :
    Calls Try.prog 18 #[.int .u64 s, .int .i64 n] w fun e w' => e = .returned (.tuple #[.slice none 0 0, .int .u64 s]) ∧ w = w' := by
  rcases hn with h | h
  · go_enter Try.func18, Try.ntmps18
    go_wp2
    go_ret2
    exact ⟨rfl, rfl⟩
  · have h1 : ¬ n < 1 := by omega
    go_enter Try.func18, Try.ntmps18
    go_wp2
    go_ret2
    exact ⟨rfl, rfl⟩
theorem rshuffle_no (s : Nat) (n : Int) (hn : n < 1 ∨ 64 < n) (w : World) :
    Calls Try.prog 19 #[.int .u64 s, .int .i64 n] w fun e w' => e = .returned (.tuple #[.slice none 0 0, .int .u64 s]) ∧ w = w' := by
  rcases hn with h | h
  · go_enter Try.func19, Try.ntmps19
    go_wp2
    go_ret2
    exact ⟨rfl, rfl⟩
  · have h1 : ¬ n < 1 := by omega
    go_enter Try.func19, Try.ntmps19
    go_wp2
    go_ret2
    exact ⟨rfl, rfl⟩

theorem own_form {w : World} {base : Nat} {e : TypeId} {v : Value} {n : Nat} {xs : List Value} (h : w.ownsRow base e 1 v n xs) (hn : 1 ≤ n) : ∃ g cap, v = .slice (some ⟨g, 0, none⟩) n cap := by
  rcases h.2 with ⟨_, h0⟩ | ⟨g, cap, cur, rfl, _⟩
  · omega
  · exact ⟨g, cap, rfl⟩

theorem own_cell {w : World} {base : Nat} {e : TypeId} {g n cap : Nat} {L : List Int} (h : w.ownsRow base e 1 (.slice (some ⟨g, 0, none⟩) n cap) n (L.map (Value.int .i64))) (i : Nat) (hi : i < L.length) :
    w.cell? ⟨g, i, none⟩ = some (.int .i64 (L[i]?.getD 0)) := by
  have hl : L.length = n := by have := h.1; simpa using this
  rw [h.cellAt i (by omega)]
  simp [hi]
theorem own_put {w : World} {base : Nat} {e : TypeId} {g n cap : Nat} {L : List Int} (h : w.ownsRow base e 1 (.slice (some ⟨g, 0, none⟩) n cap) n (L.map (Value.int .i64))) (i : Nat) (x : Int) :
    (w.setCell ⟨g, i, none⟩ (.int .i64 x)).ownsRow base e 1 (.slice (some ⟨g, 0, none⟩) n cap) n ((L.set i x).map (Value.int .i64)) := by
  rw [List.map_set]
  exact (h.stored i (.int .i64 x)).1

set_option maxHeartbeats 1000000 in
theorem rshuffle_any (s : Nat) (n : Nat) (hn1 : 1 ≤ n) (hn2 : n ≤ 64) (w : World) :
    Calls Try.prog 19 #[.int .u64 s, .int .i64 n] w (ShPost n (shufF outR stepR (n - 1) (mkL n n) s) w) := by
  generalize hP : shufF outR stepR (n - 1) (mkL n n) s = P
  have HP := Lib.hid hP
  clear hP
  obtain ⟨i0, hi, hz0, hz1, hz2⟩ := info_parts Try.info3
  have HI := Lib.hid hi
  have HZ0 := Lib.hid hz0
  have HZ1 := Lib.hid hz1
  have HZ2 := Lib.hid hz2
  clear hi hz0 hz1 hz2
  generalize hg : w.heap.size = g
  have HG := Lib.hid hg
  clear hg
  go_enter Try.func19, Try.ntmps19
  go_wp2
  go_loopw [6, 7] (fun v q wr => ∃ k : Nat, k ≤ n ∧ q = .int .i64 k ∧ Hid (wr.ownsRow g 3 1 v k ((mkL k k).map (Value.int .i64))) ∧ Hid (Below g w wr)) (fun _ q _ => n - (intOf q).toNat)
  case atStart => exact ⟨0, by omega, rfl, World.ownsRow_nil _ _ _ _, Below.refl _ _⟩
  case round =>
    obtain ⟨k, hk, rfl, O, B⟩ := hrel
    by_cases hlt : k < n
    · have b1 : k + 1 ≤ maxLen := by unfold maxLen; omega
      have b2 : (k + 1) * 8 ≤ 140737488355328 := by omega
      have b3 : g ≤ (wr.alloc (.cells #[.int .i64 k] 3)).heap.size := by have := B.out.size; have := HG.out; simp; omega
      have b4 : ∀ q, u6.ownBlock = some q → g ≤ q := fun q e => (O.out.lt q e).1
      have B1 : Hid (Below g w (wr.alloc (.cells #[.int .i64 k] 3))) := B.out.alloc (by have := B.out.size; have := HG.out; omega) _
      have B4 := Lib.hid b4
      clear b4
      have b5 : Hid (∀ u ∈ [Value.int .i64 (k : Int)], u.oneCell' = true) := by show ∀ u ∈ _, _; simp [Value.oneCell']
      go_wp2_with (at_builtin; (refine wpList_append_own _ rfl (.tmp 24) (.tmp 26) 31 rfl g 3 i0 (.int .i64 0) 1 8 Try.underlying31 HI.out HZ0.out HZ1.out HZ2.out rfl (by decide) u6 k _ rfl (O.out.alloc _) ⟨wr.heap.size, 0, none⟩ 1 1 [.int .i64 k] rfl rfl (cell_one_new _ _ _) b5.out b1 b2 b3 ?_); intro v' w1 hown' hgrow _)
      have O1 := Lib.hid hown'
      have B2 : Hid (Below g w w1) := B1.out.grown hgrow (by exact b3) B4.out
      clear hown' hgrow
      go_wp2
      go_roundw
      case rel => exact ⟨k + 1, by omega, by go_num, by show World.ownsRow _ _ _ _ _ _ _; rw [mkL_snoc, List.map_append]; exact O1.out, B2⟩
      case measure => simp [intOf]; omega
    · obtain rfl : k = n := by omega
      obtain ⟨g2, cap, rfl⟩ := own_form O.out hn1
      have HS0 : Hid (shufF outR stepR (k - 1) (mkL k k) s = P) := HP
      have HL0 : Hid ((mkL k k).length = k) := mkL_len k k
      go_wp2
      go_loopw [0, 8] (fun x q wr => ∃ (i st : Nat) (L : List Int), i < k ∧ x = .int .u64 st ∧ q = .int .i64 i ∧ Hid (L.length = k) ∧ Hid (wr.ownsRow g 3 1 (.slice (some ⟨g2, 0, none⟩) k cap) k (L.map (Value.int .i64))) ∧ Hid (Below g w wr) ∧ Hid (shufF outR stepR i L st = P)) (fun _ q _ => (intOf q).toNat)
      case atStart => exact ⟨k - 1, s, mkL k k, by omega, rfl, by go_num, HL0, O, B, HS0⟩
      case round =>
        clear O B HS0 HL0 HP
        obtain ⟨i, st, L, hik, rfl, rfl, HL, O, B, HS⟩ := hrel
        by_cases hi : 1 ≤ i
        · have C := rbelow_any st ((i : Int) + 1)
          obtain ⟨e1, e2⟩ := belV_yes (s := st) (n := (i : Int) + 1) (by omega) (by omega)
          have e3 : (outR (stepR st) : Int) % ((i : Int) + 1) = ((outR (stepR st) % (i + 1) : Nat) : Int) := by rw [Int.natCast_emod, Int.natCast_add]; rfl
          rw [e1, e2, e3] at C
          have hj : outR (stepR st) % (i + 1) < i + 1 := Nat.mod_lt _ (by omega)
          have HS2 : Hid (shufF outR stepR (i - 1) (swapL L i (outR (stepR st) % (i + 1))) (stepR st) = P) := by
            show _ = _
            rw [← shufF_step _ _ _ _ _ hi]; exact HS.out
          clear e1 e2 e3 HS
          generalize outR (stepR st) % (i + 1) = j at *
          generalize stepR st = st1 at *
          have C := Lib.hid C
          have c1 := own_cell O.out i (by rw [HL.out]; omega)
          have c2 := own_cell O.out j (by rw [HL.out]; omega)
          have f1 := O.out.frozenAt i
          have f2 := O.out.frozenAt j
          have hgb : g ≤ g2 := (O.out.lt g2 rfl).1
          have hjk : j < k := by omega
          by_cases hij : i = j
          · as_aux_lemma =>
            subst hij
            have HW : Hid (swapL L i i = L.set i (L[i]?.getD 0)) := swapL_self L i
            generalize L[i]?.getD 0 = a at *
            go_wp2_with fail
            refine (C.out _).mono ?_
            rintro e w1 ⟨rfl, rfl⟩
            go_wp2
            go_roundw
            case rel => exact ⟨i - 1, st1, swapL L i i, by omega, rfl, by go_num, by show _ = _; rw [swapL_len]; exact HL.out, by show World.ownsRow _ _ _ _ _ _ _; rw [HW.out, ← List.set_set]; exact own_put (own_put O.out i a) i a, (B.out.setCell hgb _).setCell hgb _, HS2.out⟩
            case measure => simp [intOf]; omega
          · as_aux_lemma =>
            have HW : Hid (swapL L i j = (L.set i (L[j]?.getD 0)).set j (L[i]?.getD 0)) := rfl
            generalize L[i]?.getD 0 = a at *
            generalize L[j]?.getD 0 = b at *
            go_wp2_with fail
            refine (C.out _).mono ?_
            rintro e w1 ⟨rfl, rfl⟩
            go_wp2
            go_roundw
            case rel => exact ⟨i - 1, st1, swapL L i j, by omega, rfl, by go_num, by show _ = _; rw [swapL_len]; exact HL.out, by show World.ownsRow _ _ _ _ _ _ _; rw [HW.out]; exact own_put (own_put O.out i b) j a, (B.out.setCell hgb _).setCell hgb _, HS2.out⟩
            case measure => simp [intOf]; omega
        · obtain rfl : i = 0 := by omega
          have HE : Hid (P = (L, st)) := HS.out.symm
          go_wp2
          obtain ⟨A, c, he, hlen, hreads⟩ := own_reads O.out hn1
          injection he with e1 _ e3
          subst e1 e3
          go_ret2
          refine ⟨some ⟨g2, 0, none⟩, cap, ?_, ?_, ?_, ?_⟩
          · rw [HE.out]; rfl
          · rw [HE.out]; exact hlen
          · rw [HE.out]; exact hreads
          · rw [HG.out]; exact B.out
end Go.Proofs.Ytgdbnpnlejgfgaa
