/- Bounded natural solutions: the recursion of the iterator, from any element on. -/
import Derived.Test.YtneediihponfiaaNY
namespace Go.Proofs.Ytneediihponfiaa
open Go.RowKit

/-- between two values of one element -/
structure Mid (C : ItC) (J : List (List Int) → World → Prop) (pre : List (List Int)) (p : List Int) (x r : List Int) (W : World) : Prop where
  st : St C x r W
  j : J pre W
  hi : C.hi ≤ W.heap.size
  tk : x.take p.length = p
theorem Mid.set {C : ItC} (G : Geo C) {J : List (List Int) → World → Prop} (hJ : JStab C J) {pre : List (List Int)} {p x r x' r' : List Int} {W W' : World} (h : Mid C J pre p x r W) (s : St C x' r' W') (k : KeepOn (fun k => k ≠ C.X0 ∧ ¬ C.rb k) W W') (ht : x'.take p.length = p) : Mid C J pre p x' r' W' :=
  ⟨s, hJ pre W W' h.j (k.mono fun i _ hi => ⟨by have := G.X0; omega, fun c => by have := G.R0 _ c; omega⟩), Nat.le_trans h.hi k.size, ht⟩
set_option maxHeartbeats 8000000 in
set_option maxRecDepth 100000 in
theorem assign_any {C : ItC} (G : Geo C) (D : Good C) {J : List (List Int) → World → Prop} {Jx : List (List Int) → World → Prop} (hJ : JStab C J) (hY : JYield C J Jx) : ∀ (d i : Nat), i + d = C.u.length → ∀ (pre : List (List Int)) (p x r : List Int) (W : World), p.length = i → Mid C J pre p x r W →
    (pre ++ solsP C.L C.b (C.u.drop i) p) <+: TC C → Calls Try.prog 34 (capsF C i) W (APost C J Jx (pre ++ solsP C.L C.b (C.u.drop i) p) p)
  | 0, i, hi, pre, p, x, r, W, hpl, M, hp => by
    obtain rfl : i = C.u.length := by omega
    obtain rfl : x = p := by rw [← M.tk, hpl, ← M.st.xl, List.take_length]
    rw [List.drop_eq_nil_of_le (Nat.le_refl _)] at hp ⊢
    exact leaf_any G D hJ hY M.st M.j M.hi hp 6 (by decide)
  | d + 1, i, hid, pre, p, x, r, W, hpl, M, hp => by
    have IH := assign_any G D hJ hY d (i + 1) (by omega)
    have hi : i < C.u.length := by omega
    obtain ⟨ub1, ub2⟩ := withB_at D.ub i hi
    obtain ⟨m, hm⟩ : ∃ m : Nat, at0 C.u i = (m : Int) := ⟨(at0 C.u i).toNat, by omega⟩
    have hdr : solsP C.L C.b (C.u.drop i) p = solsU C.L C.b (C.u.drop (i + 1)) p (m + 1) := by
      rw [drop_at hi, solsP_cons, hm]
      rfl
    rw [hdr] at hp ⊢
    rw [hm] at ub1 ub2
    have FX : Hid (∀ W, Fix C W → W.cell? ⟨C.xB, 0, none⟩ = some (.slice (some ⟨C.X0, 0, none⟩) C.u.length C.u.length) ∧ W.cell? ⟨C.uB, 0, none⟩ = some (.slice C.U C.u.length C.cu) ∧ (∃ b off, C.U = some ⟨b, off, none⟩ ∧ W.cell? ⟨b, off + i, none⟩ = some (.int .i64 (m : Int))) ∧ W.cell? ⟨C.sB, 0, none⟩ = some (.func (.func 33) #[] #[.pointer (some ⟨C.aB, 0, none⟩), .pointer (some ⟨C.rB, 0, none⟩), .pointer (some ⟨C.xB, 0, none⟩)]) ∧ W.cell? ⟨C.fB, 0, none⟩ = some (.func (.func 34) #[] #[.pointer (some ⟨C.xB, 0, none⟩), .pointer (some ⟨C.rB, 0, none⟩), .pointer (some ⟨C.yB, 0, none⟩), .pointer (some ⟨C.uB, 0, none⟩), .pointer (some ⟨C.sB, 0, none⟩), .pointer (some ⟨C.fB, 0, none⟩)])) := fun W f => by
      obtain ⟨b, off, e, hc⟩ := at_of_reads (D.up.below f.bw (Nat.le_refl _)) i hi
      rw [hm] at hc
      exact ⟨f.x, f.up, ⟨b, off, e, hc⟩, f.s, f.f⟩
    have CS : Hid (∀ (v : Nat) (x r : List Int) (W : World), v < m + 1 → Mid C J (pre ++ solsU C.L C.b (C.u.drop (i + 1)) p v) p x r W → Calls Try.prog 33 #[.int .i64 (i : Nat), .int .i64 (v : Nat), .pointer (some ⟨C.aB, 0, none⟩), .pointer (some ⟨C.rB, 0, none⟩), .pointer (some ⟨C.xB, 0, none⟩)] W fun e W' => (∃ z, e = .returned z) ∧ ∃ x' r', Mid C J (pre ++ solsU C.L C.b (C.u.drop (i + 1)) p v) (p ++ [(v : Int)]) x' r' W') := fun v x r W hv M => by
      refine (set_any G D M.st hi (v := (v : Int)) (by omega) (by omega)).mono ?_
      rintro e W' ⟨h1, ⟨r', h2⟩, h3⟩
      have hx : i < x.length := by rw [M.st.xl]; exact hi
      refine ⟨h1, _, r', h2, (M.set G hJ h2 h3 ?_).j, Nat.le_trans M.hi h3.size, ?_⟩
      · rw [hpl, List.take_set_of_le (Nat.le_refl _), ← hpl, M.tk]
      · rw [List.length_append, List.length_singleton, hpl, take_set _ hx, ← hpl, M.tk]
    have CF : Hid (∀ (v : Nat) (x r : List Int) (W : World), v < m + 1 → Mid C J (pre ++ solsU C.L C.b (C.u.drop (i + 1)) p v) (p ++ [(v : Int)]) x r W → Calls Try.prog 34 #[.int .i64 ((i : Int) + 1), .pointer (some ⟨C.xB, 0, none⟩), .pointer (some ⟨C.rB, 0, none⟩), .pointer (some ⟨C.yB, 0, none⟩), .pointer (some ⟨C.uB, 0, none⟩), .pointer (some ⟨C.sB, 0, none⟩), .pointer (some ⟨C.fB, 0, none⟩)] W fun e W' =>
        (e = .returned (.bool true) ∧ ∃ x' r', Mid C J (pre ++ solsU C.L C.b (C.u.drop (i + 1)) p (v + 1)) p x' r' W') ∨ (e = .returned (.bool false) ∧ ∃ q, q <+: TC C ∧ Jx q W')) := fun v x r W hv M => by
      have hq : (pre ++ solsU C.L C.b (C.u.drop (i + 1)) p v ++ solsP C.L C.b (C.u.drop (i + 1)) (p ++ [(v : Int)])) <+: TC C := by
        rw [List.append_assoc, ← solsU_succ]
        exact List.IsPrefix.trans ((List.prefix_append_right_inj _).2 (solsU_pre (by omega))) hp
      have h := IH _ (p ++ [(v : Int)]) x r W (by simp [hpl]) M hq
      rw [List.append_assoc, ← solsU_succ] at h
      refine h.mono ?_
      rintro e W' (⟨rfl, h1, ⟨x', r', h2, h3⟩, h4⟩ | ⟨rfl, h1⟩)
      · refine .inl ⟨rfl, x', r', h2, h1, h4, ?_⟩
        have h5 := congrArg (List.take p.length) h3
        rw [List.take_take, List.length_append, List.length_singleton, Nat.min_eq_left (by omega), List.take_left'] at h5
        · exact h5
        · rfl
      · exact .inr ⟨rfl, h1⟩
    have M0 : Hid (Mid C J (pre ++ solsU C.L C.b (C.u.drop (i + 1)) p 0) p x r W) := by rw [solsU_zero, List.append_nil]; exact M
    have ED : Hid (∀ x r W, Mid C J (pre ++ solsU C.L C.b (C.u.drop (i + 1)) p (m + 1)) p x r W → J (pre ++ solsU C.L C.b (C.u.drop (i + 1)) p (m + 1)) W ∧ (∃ x r, St C x r W ∧ x.take p.length = p) ∧ C.hi ≤ W.heap.size) := fun x r W M => ⟨M.j, ⟨x, r, M.st, M.tk⟩, M.hi⟩
    have hu64 := D.u64
    have hne : ((i : Int) == (C.u.length : Int)) = false := by simp; omega
    obtain ⟨qx, qu, ⟨b, off, eU, cu⟩, -, -⟩ := FX.out W M.st.fx
    have MX : Hid (∀ pre p x r W, Mid C J pre p x r W → Fix C W) := fun _ _ _ _ _ M => M.st.fx
    clear IH hp hdr hm hY hJ G D M hid
    unfold capsF APost
    generalize solsU C.L C.b (C.u.drop (i + 1)) p = sf at *
    obtain ⟨UA, hUA⟩ : ∃ UA, UA = C.U := ⟨_, rfl⟩
    rw [← hUA] at eU qu FX
    clear hUA
    subst eU
    go_enter Try.func34, Try.ntmps34
    go_wp2_with fail
    go_loopw [27] (fun q wr => ∃ (v : Nat) (x r : List Int), v ≤ m + 1 ∧ q = .int .i64 (v : Nat) ∧ Hid (Mid C J (pre ++ sf v) p x r wr)) (fun q _ => m + 1 - (intOf q).toNat)
    case atStart => exact ⟨0, x, r, Nat.zero_le _, rfl, M0⟩
    case round =>
      clear M0 qx qu cu
      obtain ⟨v, y, s, hv, rfl, HM⟩ := hrel
      by_cases hlt : v < m + 1
      · obtain ⟨-, -, -, qs, -⟩ := FX.out wr (MX.out _ _ _ _ _ HM.out)
        go_wp2_with fail
        refine (CS.out v y s _ hlt HM.out).mono ?_
        rintro e w2 ⟨⟨z, rfl⟩, y2, s2, M2⟩
        obtain ⟨-, -, -, -, qf⟩ := FX.out w2 (MX.out _ _ _ _ _ M2)
        clear HM qs
        go_wp2_with fail
        refine (CF.out v y2 s2 _ hlt M2).mono ?_
        clear M2 qf
        rintro e w3 (⟨rfl, y3, s3, M3⟩ | ⟨rfl, E3⟩)
        · go_wp2
          go_roundw
          case rel => exact ⟨v + 1, y3, s3, by omega, by go_num, M3⟩
          case measure => simp [intOf]; omega
        · go_wp2
          go_ret
          exact .inr ⟨rfl, E3⟩
      · obtain rfl : v = m + 1 := by omega
        have E := Lib.hid (ED.out y s wr HM.out)
        clear HM
        go_wp2
        go_ret
        exact .inl ⟨rfl, E.out⟩
end Go.Proofs.Ytneediihponfiaa
