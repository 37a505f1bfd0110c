/- Systems: Reachable of the reference. -/
import Derived.Test.YthcbcgaekbmoaaaTG
namespace Go.Proofs.Ythcbcgaekbmoaaa
open Go.RowKit Go.Deep

set_option maxHeartbeats 8000000 in
set_option maxRecDepth 100000 in
theorem rreachable_any (s : SysV) (w : World) (hr : SysR w s) :
    Calls Try.prog 13 #[.agg #[.int .i64 s.st, .slice s.EA s.el s.ec, .slice s.AA s.ar.length s.ac]] w (VPost w.heap.size w (.bool (rchV s))) := by
  have B0 : Below w.heap.size w (w.alloc (.cells #[.int .i64 s.st, .slice s.EA s.el s.ec, .slice s.AA s.ar.length s.ac] 25)) := (Below.refl _ _).alloc (Nat.le_refl _) _
  have C := rvalid_sys s (w.alloc (.cells #[.int .i64 s.st, .slice s.EA s.el s.ec, .slice s.AA s.ar.length s.ac] 25)) (hr.below B0 (Nat.le_refl _))
  have CG : Hid (okS s = true → ∀ W, Below w.heap.size w W → Calls Try.prog 32 #[.agg #[.int .i64 s.st, .slice s.EA s.el s.ec, .slice s.AA s.ar.length s.ac]] W (GPost s W)) := fun h W hW => rgraph_any s W (hr.below hW (Nat.le_refl _)) h
  have hal := hr.hal
  have c0' : (w.alloc (.cells #[.int .i64 s.st, .slice s.EA s.el s.ec, .slice s.AA s.ar.length s.ac] 25)).cell? ⟨w.heap.size, 0, none⟩ = some (.int .i64 s.st) := by simp
  have c1' : (w.alloc (.cells #[.int .i64 s.st, .slice s.EA s.el s.ec, .slice s.AA s.ar.length s.ac] 25)).cell? ⟨w.heap.size, 1, none⟩ = some (.slice s.EA s.el s.ec) := by simp
  have c2' : (w.alloc (.cells #[.int .i64 s.st, .slice s.EA s.el s.ec, .slice s.AA s.ar.length s.ac] 25)).cell? ⟨w.heap.size, 2, none⟩ = some (.slice s.AA s.ar.length s.ac) := by simp
  have HOK := Lib.hid (@okS_parts s)
  have HNO : Hid (okS s = false → rchV s = false) := fun h => by show _ = _; unfold rchV; rw [h]; rfl
  have RL : (reachL (fun i => outI s.ar i) s.st.toNat [0]).length = s.st.toNat := by unfold reachL; rw [dfsL_len, List.length_replicate]
  have RE : ∀ i, i < s.st.toNat → atT (reachL (fun i => outI s.ar i) s.st.toNat [0]) i = refB (fun i => outI s.ar i) s.st.toNat [0] i := fun i hi => reach_eq hi
  have HF : Hid (okS s = true → ∀ i, i < s.st.toNat → refB (fun i => outI s.ar i) s.st.toNat [0] i = false → rchV s = false) := fun h i hi hz => by
    show _ = _
    unfold rchV
    rw [h, allB_no i (by rw [RL]; exact hi) (by rw [RE i hi]; exact hz)]
    rfl
  have HT : Hid (okS s = true → (∀ i, i < s.st.toNat → refB (fun i => outI s.ar i) s.st.toNat [0] i = true) → rchV s = true) := fun h hz => by
    show _ = _
    unfold rchV
    rw [h, allB_yes fun i hi => by rw [RL] at hi; rw [RE i hi]; exact hz i hi]
    rfl
  have HLL : Hid (∀ e, (outI s.ar e).length ≤ 400) := fun e => by
    unfold outI
    rw [List.length_map]
    exact Nat.le_trans (List.length_filter_le _ _) hal
  clear hr RL RE
  unfold GPost at CG
  generalize okS s = ok at *
  generalize rchV s = V at *
  obtain ⟨sst, EA, el, ev, ec, AA, ar, ac⟩ := s
  dsimp only at *
  generalize outI ar = LF at *
  obtain ⟨w0, hw0⟩ : ∃ w0, w0 = w.alloc (.cells #[.int .i64 sst, .slice EA el ec, .slice AA ar.length ac] 25) := ⟨_, rfl⟩
  have hlt0 : w.heap.size < w0.heap.size := by rw [hw0, World.size_alloc]; omega
  rw [← hw0] at B0 C c0' c1' c2'
  have HW0 := Lib.hid hw0
  clear hw0
  replace B0 := Lib.hid B0
  replace C := Lib.hid C
  go_enter Try.func13, Try.ntmps13
  rw [HW0.out] at c0' c1' c2'
  go_wp2_with fail
  rw [← HW0.out] at c0' c1' c2' ⊢
  refine C.out.mono ?_
  rintro e w1 ⟨rfl, K⟩
  have B1 := Lib.hid (B0.out.trans (K.mono (by omega)))
  have q0 := keepc c0' K
  have q1 := keepc c1' K
  have q2 := keepc c2' K
  have hlt1 : w.heap.size < w1.heap.size := Nat.lt_of_lt_of_le hlt0 K.size
  clear C c0' c1' c2' HW0 K
  cases ok
  · have E := Lib.hid (HNO.out rfl)
    clear HNO HOK HF HT CG
    go_wp2
    go_ret
    exact ⟨by rw [E.out]; rfl, B1.out⟩
  obtain ⟨hst1, hst2, -, -⟩ := HOK.out rfl
  have CGN := Lib.hid (CG.out (by first | rfl | trivial) _ B1.out)
  clear CG
  have HF := Lib.hid (HF.out rfl)
  have HT := Lib.hid (HT.out rfl)
  clear HNO HOK
  obtain ⟨N, rfl⟩ : ∃ N : Nat, sst = N := ⟨sst.toNat, by omega⟩
  rw [show ((N : Int)).toNat = N from rfl] at HF HT CGN
  have hN : N ≤ 200 := by omega
  clear hst1 hst2
  go_wp2_with fail
  refine CGN.out.mono ?_
  rintro e w2 ⟨T, vs, rfl, GT, K2⟩
  have B2 := Lib.hid (B1.out.trans (K2.mono (by omega)))
  have GR := graph_of GT hN HLL.out
  obtain ⟨w3, hw3⟩ : ∃ w3, w3 = w2.alloc (.cells #[.int .i64 0] 3) := ⟨_, rfl⟩
  have KB : Below w2.heap.size w2 w3 := by rw [hw3]; exact (Below.refl _ _).alloc (Nat.le_refl _) _
  have R0 : ReadsV w3 (some ⟨w2.heap.size, 0, none⟩) [0] := fun j hj => by
    obtain rfl : j = 0 := by simp at hj; omega
    exact ⟨_, _, rfl, by rw [hw3, World.size_alloc]; omega, by rw [hw3]; simp [at0]⟩
  have CR := Lib.hid (rreach_any (some ⟨T, 0, none⟩) N N _ _ _ (some ⟨w2.heap.size, 0, none⟩) [0] 1 w3 (GR.below KB) R0 (by decide))
  have B3 := Lib.hid (B2.out.trans (KB.mono B2.out.size))
  have HW3 := Lib.hid hw3
  clear GT K2 GR KB R0 hw3 CGN q0 q1 q2 B1 B2
  generalize refB (fun i => LF i) N [0] = FL at *
  go_wp2_with fail
  rw [← HW3.out]
  refine CR.out.mono ?_
  rintro e w4 ⟨r, rfl, hr1, RB, K4⟩
  have RB := Lib.hid RB
  have B4 := Lib.hid (B3.out.trans (K4.mono B3.out.size))
  have FST : Hid (∀ j, j < 0 → FL j = true) := fun j hj => absurd hj (by omega)
  clear K4 B3 CR HW3 hr1
  go_wp2_with fail
  go_loopw [4] (fun q wr => ∃ k : Nat, k ≤ N ∧ q = .int .i64 k ∧ Hid (∀ j, j < k → FL j = true) ∧ wr = w4) (fun q _ => N - (intOf q).toNat)
  case atStart => exact ⟨0, by omega, rfl, FST, rfl⟩
  case round =>
    clear FST
    obtain ⟨k, hk, rfl, HX, rfl⟩ := hrel
    by_cases hlt : k < N
    · have c := RB.out.get hlt
      have HFk := Lib.hid (HF.out k hlt)
      have HS : Hid (FL k = true → ∀ j, j < k + 1 → FL j = true) := fun h j hj => by
        by_cases e : j = k
        · rw [e]; exact h
        · exact HX.out j (by omega)
      clear HF HT HX RB
      generalize FL k = z at *
      cases z
      · have E := Lib.hid (HFk.out rfl)
        clear HFk HS
        go_wp2
        go_ret
        exact ⟨by rw [E.out]; rfl, B4.out⟩
      · have H2 := Lib.hid (HS.out rfl)
        clear HFk HS
        go_wp2
        go_roundw
        case rel => exact ⟨k + 1, by omega, by go_num, H2, by first | rfl | trivial⟩
        case measure => simp [intOf]; omega
    · have E := Lib.hid (HT.out fun i hi => HX.out i (by omega))
      clear HF HT HX RB
      go_wp2
      go_ret
      exact ⟨by rw [E.out]; rfl, B4.out⟩
end Go.Proofs.Ythcbcgaekbmoaaa
