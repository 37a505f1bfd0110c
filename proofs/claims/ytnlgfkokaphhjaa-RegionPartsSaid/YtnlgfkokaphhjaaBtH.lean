/- The walk of Minimal. -/
import Derived.Test.YtnlgfkokaphhjaaBtG
namespace Go.Proofs.Ytnlgfkokaphhjaa.Bt
open Go.RowKit Go.Shelf Go.Sort

set_option maxHeartbeats 4000000 in
set_option maxRecDepth 100000 in
theorem minimal_any (A : Option Addr) (l : List U64) (c : Nat) (w : World) (hr : Reads w A (vV l)) (hl : l.length * 8 ≤ 140737488351232) :
    Calls Try.prog 38 #[.slice A l.length c] w (ListPost w.heap.size w (vV (minU l))) := by
  have C1 := Lib.hid (clone_any A l c w hr hl)
  have C2 := Lib.hid (fun g cap w hg hH => sort_any g cap l w (by omega) hg hH)
  have C3 := Lib.hid (fun g cap w hcap hH => compact_any g cap l w (by omega) hcap hH)
  obtain ⟨i0, hi, hz0, hz1, hz2⟩ := info_parts infoU
  have HI := Lib.hid hi
  have HZ0 := Lib.hid hz0
  have HZ1 := Lib.hid hz1
  have HZ2 := Lib.hid hz2
  clear hi hz0 hz1 hz2 hr
  have HM : Hid (minU l = keepF (dedU l)) := rfl
  have HD : Hid ((dedU l).length ≤ l.length) := (dedU_spec l).2.2
  have HNil : Hid (l = [] → minU l = []) := fun e => List.eq_nil_of_length_eq_zero (by have := (minU_spec l).2.2.1; rw [e] at this; simpa [e] using this)
  generalize hg : w.heap.size = g at *
  have HG := Lib.hid hg
  clear hg
  go_enter Try.func38, Try.ntmps38
  go_wp2_with fail
  refine C1.out.mono ?_
  rintro e w1 ⟨v, rfl, O1, B1⟩
  by_cases hv : v = .slice none 0 0
  · subst hv
    obtain ⟨hl0, A0, c0, e0, _⟩ := Reads.own O1
    have hn : l.length = 0 := by injection e0 with _ e1 _; exact e1.symm
    have HE := Lib.hid (HNil.out (List.eq_nil_of_length_eq_zero hn))
    clear hl0 e0 hn C1 C2 C3 O1
    go_wp2_with fail
    refine (Try.slices_SortFunc_none (α := U64) none 0 _ w1).mono ?_
    rintro e w2 ⟨rfl, rfl⟩
    go_wp2_with fail
    refine (compact_small none 0 0 _ (by decide)).mono ?_
    rintro e w5 ⟨rfl, rfl⟩
    go_wp2
    refine wp_loop_rounds 1 ?_
    rw [rounds_succ]
    go_wp2
    go_ret
    exact ⟨none, 0, by rw [HE.out]; rfl, by rw [HE.out]; exact Reads.nil _ _, B1⟩
  obtain ⟨gb, cap, rfl, hgb, hgl, hncap, hcm, hlen, hH⟩ := Lib.holds_of_ownsRow (enc := eU) (zs := l) O1 hv
  have B1 := Lib.hid B1
  have HH := Lib.hid hH
  clear hv O1 C1 hlen hH
  go_wp2_with fail
  refine (C2.out gb cap w1 hgl HH.out).mono ?_
  rintro e w2 ⟨rfl, hH2, hs2, hb2⟩
  have B2 : Hid (Below g w w2) := hb2 _ _ B1.out hgb (by have := B1.out.size; have := HG.out; omega)
  have HH2 := Lib.hid hH2
  clear hH2 hb2
  go_wp2_with fail
  refine (C3.out gb cap w2 hncap HH2.out).mono ?_
  rintro e w3 ⟨rfl, hR3, hs3, hb3⟩
  have B3 : Hid (Below g w w3) := hb3 _ _ B2.out hgb
  have HR3 := Lib.hid hR3
  clear hR3 hb3 HH HH2 B1 B2 C2 C3 HNil
  have hD := HD.out
  generalize dedU l = D at *
  generalize minU l = M at *
  generalize hn : D.length = n at *
  have HN := Lib.hid hn
  clear hn HD
  have hgw3 : Hid (g ≤ w3.heap.size) := by have := B3.out.size; have := HG.out; show _ ≤ _; omega
  generalize hg3 : w3.heap.size = g3 at *
  have HG3 := Lib.hid hg3
  clear hg3
  go_wp2_with fail
  go_loopw [4, 14] (fun v q wr => ∃ k m : Nat, k ≤ n ∧ m ≤ k ∧ q = .int .i64 k ∧ Hid ((keepF (D.take k)).length = m) ∧ Hid (wr.ownsRow g3 26 1 v m (vV (keepF (D.take k)))) ∧ Hid (Below g3 w3 wr)) (fun _ q _ => n - (intOf q).toNat)
  case atStart => exact ⟨0, 0, by omega, by omega, rfl, rfl, World.ownsRow_nil _ _ _ _, Below.refl _ _⟩
  case round =>
    obtain ⟨k, m, hk, hm, rfl, HL, O, B⟩ := hrel
    by_cases hlt : k < n
    · obtain ⟨x, hx⟩ := get_of_lt (L := D) (k := k) (by rw [HN.out]; exact hlt)
      have HS : Hid (keepF (D.take (k + 1)) = stepF (keepF (D.take k)) x) := by show _ = _; rw [take_snoc hx, keepF_snoc]
      obtain ⟨ba, oa, e1, hcell⟩ := (HR3.out.below B.out (by rw [HG3.out]; exact Nat.le_refl _)).at_ (vV_at hx)
      cases e1
      rw [Nat.zero_add] at hcell
      have hsz := B.out.size
      rw [HG3.out] at hsz
      have hK64 : Hid (m ≤ 9223372036854775807) := by show _ ≤ _; omega
      generalize hKK : keepF (D.take k) = KK at *
      have HKK := Lib.hid hKK
      clear hx hKK
      obtain ⟨_, A4, c4, e4, R4⟩ := Reads.own O.out
      subst e4
      have R4 := Lib.hid R4
      have CT : Hid (∀ W, Below wr.heap.size wr W → wr.heap.size < W.heap.size → W.cell? ⟨wr.heap.size, 0, none⟩ = some (.int .u64 ((x.1 : Nat) : Int)) → Calls Try.prog 61 #[.slice A4 m c4, .func (.func 62) #[] #[.pointer (some ⟨wr.heap.size, 0, none⟩)]] W fun e w' => e = .returned (.bool (KK.any fun m => subV m.1 x.1)) ∧ ∃ q, w' = W.drewN q) := fun W hW hlt hc => by
        have h := contains_any A4 c4 KK x wr.heap.size W (by rw [HL.out]; exact hK64.out) (R4.out.below hW (Nat.le_refl _)) hlt hc
        rw [HL.out] at h
        exact h
      have HY : Hid ((KK.any fun m => subV m.1 x.1) = true → keepF (D.take (k + 1)) = KK) := fun h => by rw [HS.out]; unfold stepF; rw [if_pos h]
      have HNo : Hid ((KK.any fun m => subV m.1 x.1) = false → keepF (D.take (k + 1)) = KK ++ [x]) := fun h => by rw [HS.out]; unfold stepF; rw [if_neg (by rw [h]; decide)]
      generalize (KK.any fun m => subV m.1 x.1) = bb at *
      obtain ⟨x, hx64⟩ := x
      dsimp only at *
      go_wp2_with fail
      refine (CT.out _ ((Below.refl _ _).alloc (Nat.le_refl _) _) (by simp) (by rw [World.cell?_alloc_new]; rfl)).mono ?_
      rintro e W ⟨rfl, q, rfl⟩
      have BW : Hid (Below g3 w3 ((wr.alloc (.cells #[.int .u64 (x : Int)] 26)).drewN q)) := below_drewN (B.out.alloc hsz _) q
      have OW : Hid (((wr.alloc (.cells #[.int .u64 (x : Int)] 26)).drewN q).ownsRow g3 26 1 (.slice A4 m c4) m (vV KK)) := (O.out.alloc (.cells #[.int .u64 (x : Int)] 26))
      have cW : ((wr.alloc (.cells #[.int .u64 (x : Int)] 26)).drewN q).cell? ⟨wr.heap.size, 0, none⟩ = some (.int .u64 (x : Int)) := by
        show (wr.alloc _).cell? _ = _
        rw [World.cell?_alloc_new]; rfl
      have sW : ((wr.alloc (.cells #[.int .u64 (x : Int)] 26)).drewN q).heap.size = wr.heap.size + 1 := by show (wr.alloc _).heap.size = _; rw [World.size_alloc]
      have hsW : g3 ≤ wr.heap.size + 1 := by omega
      generalize hW : (wr.alloc (.cells #[.int .u64 (x : Int)] 26)).drewN q = W at *
      clear hW hcell
      cases bb
      · have HE := Lib.hid (HNo.out rfl)
        have b1 : m + 1 ≤ maxLen := by unfold maxLen; omega
        have b2 : (m + 1) * 8 ≤ 140737488355328 := by omega
        have b3 : g3 ≤ (W.alloc (.cells #[.int .u64 (x : Int)] 26)).heap.size := by rw [World.size_alloc, sW]; omega
        have b4 : Hid (∀ q, (Value.slice A4 m c4).ownBlock = some q → g3 ≤ q) := fun q e => (OW.out.lt q e).1
        have BA : Hid (Below g3 w3 (W.alloc (.cells #[.int .u64 (x : Int)] 26))) := BW.out.alloc (by rw [sW]; exact hsW) _
        have SW := Lib.hid sW
        clear sW
        go_wp2_with (at_builtin; (refine wpList_append_own _ rfl (.tmp 22) (.tmp 24) 37 rfl g3 26 i0 (.int .u64 0) 1 8 Try.underlying37 HI.out HZ0.out HZ1.out HZ2.out rfl (by decide) (.slice A4 m c4) m _ rfl (OW.out.alloc _) ⟨W.heap.size, 0, none⟩ 1 1 [.int .u64 (x : Int)] rfl rfl (cell_one_new _ _ _) (one_cellU _) b1 b2 b3 ?_); intro v' w5 hown' hgrow _)
        have O5 : Hid (w5.ownsRow g3 26 1 v' (m + 1) (vV (keepF (D.take (k + 1))))) := by
          show World.ownsRow _ _ _ _ _ _ _
          rw [HE.out, vV_snoc]
          exact hown'
        have B5 : Hid (Below g3 w3 w5) := BA.out.grown hgrow b3 b4.out
        have L5 : Hid ((keepF (D.take (k + 1))).length = m + 1) := by show _ = _; rw [HE.out, List.length_append, HL.out]; rfl
        clear hown' hgrow
        go_wp2
        go_roundw
        case rel => exact ⟨k + 1, m + 1, by omega, by omega, by go_num, L5, O5, B5⟩
        case measure => simp [intOf]; omega
      · have HE := Lib.hid (HY.out rfl)
        clear sW
        go_wp2
        go_roundw
        case rel => exact ⟨k + 1, m, by omega, by omega, by go_num, by show _ = _; rw [HE.out]; exact HL.out, by show World.ownsRow _ _ _ _ _ _ _; rw [HE.out]; exact OW.out, BW⟩
        case measure => simp [intOf]; omega
    · obtain rfl : k = n := by omega
      obtain ⟨hl2, A4, c4, e4, R4⟩ := Reads.own O.out
      subst e4
      have HT : Hid (keepF (D.take k) = M) := by show _ = _; rw [HM.out, ← HN.out, List.take_length]
      rw [HT.out] at hl2 R4
      go_wp2
      go_ret
      exact ⟨A4, c4, by rw [hl2]; rfl, R4, B3.out.trans (B.out.mono hgw3.out)⟩
end Go.Proofs.Ytnlgfkokaphhjaa.Bt
