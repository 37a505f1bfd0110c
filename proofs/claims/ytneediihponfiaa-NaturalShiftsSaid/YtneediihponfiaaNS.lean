/- Bounded natural solutions: whether a vector satisfies the equations, by the reference. -/
import Derived.Test.YtneediihponfiaaNR
import Derived.Deep.DeepCutAuto
import Derived.Deep.Cut
import Derived.Deep.CutBlock
import Derived.Deep.RegionWith
namespace Go.Proofs.Ytneediihponfiaa
open Go.RowKit

def dotTo (r x : List Int) : Nat → Int
  | 0 => 0
  | k + 1 => dotTo r x k + at0 r k * at0 x k
def isB (L : List Row) (b x : List Int) : Bool := allB L.length fun i => decide (dotTo (rA L i).zs x x.length = at0 b i)
theorem mul_small {a x : Int} (h1 : -10000 ≤ a) (h2 : a ≤ 10000) (h3 : 0 ≤ x) (h4 : x ≤ 1000) : -10000000 ≤ a * x ∧ a * x ≤ 10000000 := by
  have e1 : 0 ≤ (a + 10000) * x := Int.mul_nonneg (by omega) h3
  have e2 : 0 ≤ (10000 - a) * x := Int.mul_nonneg (by omega) h3
  rw [Int.add_mul] at e1
  rw [Int.sub_mul] at e2
  omega
theorem dot_small {r x : List Int} (hr : ∀ k, k < x.length → -10000 ≤ at0 r k ∧ at0 r k ≤ 10000) (hx : ∀ k, k < x.length → 0 ≤ at0 x k ∧ at0 x k ≤ 1000) : ∀ k, k ≤ x.length → -10000000 * (k : Int) ≤ dotTo r x k ∧ dotTo r x k ≤ 10000000 * (k : Int)
  | 0, _ => by simp [dotTo]
  | k + 1, hk => by
    have ih := dot_small hr hx k (by omega)
    have := mul_small (hr k (by omega)).1 (hr k (by omega)).2 (hx k (by omega)).1 (hx k (by omega)).2
    simp only [dotTo]
    omega
set_option maxHeartbeats 4000000 in
set_option maxRecDepth 100000 in
theorem ris_any (A : Option Addr) (L : List Row) (c : Nat) (B : Option Addr) (b : List Int) (cb : Nat) (U : Option Addr) (x : List Int) (cu : Nat) (w : World) (hr : ReadsL w A L) (hl : L.length ≤ 64) (hb : ReadsV w B b) (hbl : L.length = b.length) (hu : ReadsV w U x) (hul : x.length ≤ 64)
    (hlen : ∀ i, i < L.length → (rA L i).zs.length = x.length) (hrow : ∀ i, i < L.length → withB (rA L i).zs (-10000) 10000 = true) (hx : ∀ k, k < x.length → 0 ≤ at0 x k ∧ at0 x k ≤ 1000) :
    Calls Try.prog 20 #[.slice A L.length c, .slice B b.length cb, .slice U x.length cu] w (BPost w.heap.size w (isB L b x)) := by
  have HT : Hid (∀ i, i < L.length → dotTo (rA L i).zs x x.length ≠ at0 b i → isB L b x = false) := fun i hi h => allB_no i hi (decide_eq_false h)
  have HY : Hid ((∀ i, i < L.length → dotTo (rA L i).zs x x.length = at0 b i) → isB L b x = true) := fun h => allB_yes fun i hi => decide_eq_true (h i hi)
  have HR := Lib.hid (fun W (hW : Below w.heap.size w W) => hr.below hW (Nat.le_refl _))
  have HB := Lib.hid (fun W (hW : Below w.heap.size w W) => hb.below hW (Nat.le_refl _))
  have HU := Lib.hid (fun W (hW : Below w.heap.size w W) => hu.below hW (Nat.le_refl _))
  have DS : Hid (∀ i, i < L.length → ∀ k, k ≤ x.length → -10000000 * (k : Int) ≤ dotTo (rA L i).zs x k ∧ dotTo (rA L i).zs x k ≤ 10000000 * (k : Int)) := fun i hi => dot_small (fun k hk => withB_at (hrow i hi) k (by rw [hlen i hi]; exact hk)) hx
  have HLEN := Lib.hid hlen
  have HROW := Lib.hid (fun i hi => withB_at (hrow i hi))
  have HX := Lib.hid hx
  have HBL := Lib.hid hbl
  clear hr hb hu hlen hrow hx hbl
  unfold BPost
  generalize isB L b x = S at *
  go_enter Try.func20, Try.ntmps20
  go_wp2_with fail
  go_loopw [7] (fun p wr => ∃ i : Nat, i ≤ L.length ∧ p = .int .i64 i ∧ Hid (∀ j, j < i → dotTo (rA L j).zs x x.length = at0 b j) ∧ Hid (Below w.heap.size w wr)) (fun p _ => L.length - (intOf p).toNat)
  case atStart => exact ⟨0, by omega, rfl, fun j hj => absurd hj (by omega), Below.refl _ _⟩
  case round =>
    obtain ⟨i, hi, rfl, HM, HW⟩ := hrel
    by_cases hlt : i < L.length
    · have DSi := Lib.hid (DS.out i hlt)
      have hz := HLEN.out i hlt
      have ROWi := Lib.hid (HROW.out i hlt)
      have HTi := Lib.hid (HT.out i hlt)
      have HM2 : Hid (dotTo (rA L i).zs x x.length = at0 b i → ∀ j, j < i + 1 → dotTo (rA L j).zs x x.length = at0 b j) := fun h j hj => by
        rcases Nat.lt_succ_iff_lt_or_eq.1 hj with h' | h'
        · exact HM.out j h'
        · rw [h']; exact h
      have RRi := Lib.hid (fun W hW => ((HR.out W hW).2 _ (rA_mem hlt)).1)
      have RCi := Lib.hid (fun W hW => (HR.out W hW).1.at i hlt)
      clear HM
      generalize hrow : rA L i = row at *
      have HROWE := Lib.hid hrow
      clear hrow
      obtain ⟨rAa, zs, rc⟩ := row
      dsimp only at *
      go_wp2_with fail
      go_loopw [8, 9] (fun p q wr => ∃ k : Nat, k ≤ x.length ∧ q = .int .i64 k ∧ p = .int .i64 (dotTo zs x k) ∧ Hid (Below w.heap.size w wr)) (fun _ q _ => x.length - (intOf q).toNat)
      case atStart => exact ⟨0, by omega, rfl, rfl, HW⟩
      case round =>
        clear HW
        obtain ⟨k, hk, rfl, rfl, HW⟩ := hrel
        by_cases hkl : k < x.length
        · obtain ⟨b0, off, e1, hc0⟩ := RCi.out wr HW.out
          obtain ⟨b1, o1, e2, hc1⟩ := at_of_reads (RRi.out wr HW.out) k (by rw [hz]; exact hkl)
          obtain ⟨b2, o2, e3, hc2⟩ := at_of_reads (HU.out wr HW.out) k hkl
          subst e1
          subst e2
          subst e3
          obtain ⟨s1, s2⟩ := DSi.out k hk
          obtain ⟨a1, a2⟩ := ROWi.out k (by rw [hz]; exact hkl)
          obtain ⟨x1, x2⟩ := HX.out k hkl
          have E : Hid (dotTo zs x (k + 1) = dotTo zs x k + at0 zs k * at0 x k) := rfl
          have mm := mul_small a1 a2 x1 x2
          have hkz : k < zs.length := by rw [hz]; exact hkl
          generalize at0 zs k = y at *
          generalize at0 x k = v at *
          generalize dotTo zs x k = s at *
          generalize hp : y * v = p at *
          have b5 : wrap64 (y * v) = p := by rw [hp]; unfold wrap64; omega
          have b6 : wrap64 (s + p) = s + p := by unfold wrap64; omega
          have b7 : wrap64 p = p := by unfold wrap64; omega
          go_upto_region 8 with fail
          refine wp_region_held_drew (S := fun w' => w'.cell? ⟨b0, off + i, none⟩ = some (.slice (some ⟨b1, o1, none⟩) zs.length rc) ∧ w'.cell? ⟨b1, o1 + k, none⟩ = some (.int .i64 y) ∧ w'.cell? ⟨b2, o2 + k, none⟩ = some (.int .i64 v) ∧ Hid (Below w.heap.size w w')) (by kernel_rfl) ?_ (fun hHeld => ?_)
          · exact ⟨hc0, hc1, hc2, HW.out.drew⟩
          refine wpAnyH_take (oi := ⟨_, _, _, _, _, _⟩) (i := 0) (v := ?_) rfl (by kernel_rfl) (by kernel_rfl) (by kernel_rfl) (fun _ _ _ h => h) (Or.inl ⟨by rfl, ?ys0⟩) (by assumption) ?rs0
          case ys0 => (intro w hSw; (try dsimp only at hSw); go_simp; (try with_reducible rfl))
          try simp only [Act.put, List.setIfInBounds_toArray, List.set_cons_zero, List.set_cons_succ]
          refine wpAnyH_take (oi := ⟨_, _, _, _, _, _⟩) (i := 1) (v := ?_) rfl (by kernel_rfl) (by kernel_rfl) (by kernel_rfl) (fun _ _ _ h => h) (Or.inl ⟨by rfl, ?ys1⟩) (by assumption) ?rs1
          case ys1 => (intro w hSw; (try dsimp only at hSw); go_simp; (try with_reducible rfl))
          try simp only [Act.put, List.setIfInBounds_toArray, List.set_cons_zero, List.set_cons_succ]
          refine wpAnyH_take (oi := ⟨_, _, _, _, _, _⟩) (i := 2) (v := ?_) rfl (by kernel_rfl) (by kernel_rfl) (by kernel_rfl) (fun _ _ _ h => h) (Or.inl ⟨by rfl, ?ys2⟩) (by assumption) ?rs2
          case ys2 => (intro w hSw; (try dsimp only at hSw); go_simp; (try with_reducible rfl))
          try simp only [Act.put, List.setIfInBounds_toArray, List.set_cons_zero, List.set_cons_succ]
          refine wpAnyH_take (oi := ⟨_, _, _, _, _, _⟩) (i := 3) (v := ?_) rfl (by kernel_rfl) (by kernel_rfl) (by kernel_rfl) (fun _ _ _ h => h) (Or.inl ⟨by rfl, ?ys3⟩) (by assumption) ?rs3
          case ys3 => (intro w hSw; (try dsimp only at hSw); go_simp; (try with_reducible rfl))
          try simp only [Act.put, List.setIfInBounds_toArray, List.set_cons_zero, List.set_cons_succ]
          refine wpAnyH_take (oi := ⟨_, _, _, _, _, _⟩) (i := 4) (v := ?_) rfl (by kernel_rfl) (by kernel_rfl) (by kernel_rfl) (fun _ _ _ h => h) (Or.inl ⟨by rfl, ?ys4⟩) (by assumption) ?rs4
          case ys4 => (intro w hSw; (try dsimp only at hSw); go_simp; (try with_reducible rfl))
          try simp only [Act.put, List.setIfInBounds_toArray, List.set_cons_zero, List.set_cons_succ]
          refine wpAnyH_take (oi := ⟨_, _, _, _, _, _⟩) (i := 5) (v := ?_) rfl (by kernel_rfl) (by kernel_rfl) (by kernel_rfl) (fun _ _ _ h => h) (Or.inl ⟨by rfl, ?ys5⟩) (by assumption) ?rs5
          case ys5 => (intro w hSw; (try dsimp only at hSw); go_simp; (try with_reducible rfl))
          try simp only [Act.put, List.setIfInBounds_toArray, List.set_cons_zero, List.set_cons_succ]
          refine wpAnyH_take (oi := ⟨_, _, _, _, _, _⟩) (i := 6) (v := ?_) rfl (by kernel_rfl) (by kernel_rfl) (by kernel_rfl) (fun _ _ _ h => h) (Or.inl ⟨by rfl, ?ys6⟩) (by assumption) ?rs6
          case ys6 => (intro w hSw; (try dsimp only at hSw); go_simp; (try with_reducible rfl))
          try simp only [Act.put, List.setIfInBounds_toArray, List.set_cons_zero, List.set_cons_succ]
          refine wpAnyH_take (oi := ⟨_, _, _, _, _, _⟩) (i := 7) (v := ?_) rfl (by kernel_rfl) (by kernel_rfl) (by kernel_rfl) (fun _ _ _ h => h) (Or.inl ⟨by rfl, ?ys7⟩) (by assumption) ?rs7
          case ys7 => (intro w hSw; (try dsimp only at hSw); go_simp; (try with_reducible rfl))
          try simp only [Act.put, List.setIfInBounds_toArray, List.set_cons_zero, List.set_cons_succ]
          refine wpAnyH_take (oi := ⟨_, _, _, _, _, _⟩) (i := 8) (v := ?_) rfl (by kernel_rfl) (by kernel_rfl) (by kernel_rfl) (fun _ _ _ h => h) (Or.inl ⟨by rfl, ?ys8⟩) (by assumption) ?rs8
          case ys8 => (intro w hSw; (try dsimp only at hSw); go_simp; (try with_reducible rfl))
          try simp only [Act.put, List.setIfInBounds_toArray, List.set_cons_zero, List.set_cons_succ]
          refine wpAnyH_take (oi := ⟨_, _, _, _, _, _⟩) (i := 9) (v := ?_) rfl (by kernel_rfl) (by kernel_rfl) (by kernel_rfl) (fun _ _ _ h => h) (Or.inl ⟨by rfl, ?ys9⟩) (by assumption) ?rs9
          case ys9 => (intro w hSw; (try dsimp only at hSw); go_simp; (try with_reducible rfl))
          try simp only [Act.put, List.setIfInBounds_toArray, List.set_cons_zero, List.set_cons_succ]
          refine wpAnyH_take (oi := ⟨_, _, _, _, _, _⟩) (i := 10) (v := ?_) rfl (by kernel_rfl) (by kernel_rfl) (by kernel_rfl) (fun _ _ _ h => h) (Or.inl ⟨by rfl, ?ys10⟩) (by assumption) ?rs10
          case ys10 => (intro w hSw; (try dsimp only at hSw); go_simp; (try with_reducible rfl))
          try simp only [Act.put, List.setIfInBounds_toArray, List.set_cons_zero, List.set_cons_succ]
          refine wpAnyH_take (oi := ⟨_, _, _, _, _, _⟩) (i := 11) (v := ?_) rfl (by kernel_rfl) (by kernel_rfl) (by kernel_rfl) (fun _ _ _ h => h) (Or.inl ⟨by rfl, ?ys11⟩) (by assumption) ?rs11
          case ys11 => (intro w hSw; (try dsimp only at hSw); go_simp; (try with_reducible rfl))
          try simp only [Act.put, List.setIfInBounds_toArray, List.set_cons_zero, List.set_cons_succ]
          refine wpAnyH_take (oi := ⟨_, _, _, _, _, _⟩) (i := 12) (v := ?_) rfl (by kernel_rfl) (by kernel_rfl) (by kernel_rfl) (fun _ _ _ h => h) (Or.inl ⟨by rfl, ?ys12⟩) (by assumption) ?rs12
          case ys12 => (intro w hSw; (try dsimp only at hSw); go_simp; (try with_reducible rfl))
          try simp only [Act.put, List.setIfInBounds_toArray, List.set_cons_zero, List.set_cons_succ]
          refine wpAnyH_take (oi := ⟨_, _, _, _, _, _⟩) (i := 13) (v := ?_) rfl (by kernel_rfl) (by kernel_rfl) (by kernel_rfl) (fun _ _ _ h => h) (Or.inl ⟨by rfl, ?ys13⟩) (by assumption) ?rs13
          case ys13 => (intro w hSw; (try dsimp only at hSw); go_simp; (try with_reducible rfl))
          try simp only [Act.put, List.setIfInBounds_toArray, List.set_cons_zero, List.set_cons_succ]
          refine wpAnyH_take (oi := ⟨_, _, _, _, _, _⟩) (i := 14) (v := ?_) rfl (by kernel_rfl) (by kernel_rfl) (by kernel_rfl) (fun _ _ _ h => h) (Or.inl ⟨by rfl, ?ys14⟩) (by assumption) ?rs14
          case ys14 => (intro w hSw; (try dsimp only at hSw); go_simp; (try with_reducible rfl))
          try simp only [Act.put, List.setIfInBounds_toArray, List.set_cons_zero, List.set_cons_succ]
          refine wpAnyH_done (by kernel_rfl) ?_ _
          have HW2 := hHeld.2.2.2
          clear hHeld
          go_wp2
          go_roundw
          case rel => exact ⟨k + 1, by omega, by go_num, by first | (rw [E.out]; done) | (rw [E.out]; go_num; done) | (rw [E.out]; simp only [IntKind.wrap_i64]; congr 1; omega) | (rw [E.out]; congr 1; simp only [IntKind.wrap, IntKind.bits, IntKind.signed]; omega) | (rw [E.out]; congr 1; simp [IntKind.wrap, IntKind.bits, IntKind.signed]; omega), HW2⟩
          case measure => simp [intOf]; omega
        · obtain rfl : k = x.length := by omega
          obtain ⟨b2, o2, e3, hc2⟩ := at_of_reads (HB.out wr HW.out) i (by rw [← HBL.out]; exact hlt)
          have hib : i < b.length := by rw [← HBL.out]; exact hlt
          subst e3
          clear hkl hk
          generalize dotTo zs x x.length = s at *
          generalize at0 b i = y at *
          rcases Classical.em (s = y) with h1 | h1
          · have d5 : (s != y) = false := by simpa using h1
            have R := Lib.hid (HM2.out h1)
            clear HM2 HTi h1
            go_wp2
            go_roundw
            case rel => exact ⟨i + 1, by omega, by go_num, R, HW⟩
            case measure => simp [intOf]; omega
          · have d5 : (s != y) = true := by simpa using h1
            have R := Lib.hid (HTi.out h1)
            clear HM2 HTi h1
            go_wp2
            go_ret
            first | exact ⟨ret_b R.out.symm, HW.out⟩ | exact ⟨rfl, HW.out⟩
    · have R := Lib.hid (HY.out (fun j hj => HM.out j (by omega)))
      go_wp2
      go_ret
      first | exact ⟨ret_b R.out.symm, HW.out⟩ | exact ⟨rfl, HW.out⟩
end Go.Proofs.Ytneediihponfiaa
