/- Graphs: what the reference can reach. -/
import Derived.Test.YtdfljeonoallfaaTD
namespace Go.Proofs.Ytdfljeonoallfaa
open Go.RowKit Go.Deep

def mixR (F : Nat → Bool) (P : Nat → Bool) (x j i : Nat) : Bool := (F i || decide (i = x)) || (decide (i < j) && P i)
theorem mixR_at (F P : Nat → Bool) (x j : Nat) : mixR F P x j j = (F j || decide (j = x)) := by unfold mixR; simp
theorem mixR_step (F P : Nat → Bool) (x j i : Nat) : (if i = j then (F j || decide (j = x)) || P j else mixR F P x j i) = mixR F P x (j + 1) i := by
  unfold mixR
  by_cases e : i = j
  · subst e
    rw [if_pos rfl]
    simp
  · rw [if_neg e]
    have e2 : decide (i < j + 1) = decide (i < j) := by
      by_cases h : i < j
      · rw [decide_eq_true h, decide_eq_true (by omega)]
      · rw [decide_eq_false h, decide_eq_false (by omega)]
    rw [e2]
theorem mixR_start (F P : Nat → Bool) (x i : Nat) : (if i = x then true else F i) = mixR F P x 0 i := by
  unfold mixR
  by_cases e : i = x <;> simp [e]
theorem ref_none (R : Nat → List Int) (n : Nat) (l : List Int) (k : Nat) (hk : k < l.length) (h : ¬ (0 ≤ at0 l k ∧ at0 l k < n)) (i : Nat) : refB R n (l.take (k + 1)) i = refB R n (l.take k) i := by
  have e : l.take (k + 1) = l.take k ++ [at0 l k] := by
    rw [List.take_add_one]
    unfold at0
    rw [List.getElem?_eq_getElem hk]
    rfl
  rw [e, refB_snoc]
  have e2 : (decide (0 ≤ at0 l k) && decide (at0 l k < (n : Int))) = false := by
    cases h2 : (decide (0 ≤ at0 l k) && decide (at0 l k < (n : Int)))
    · rfl
    · rw [Bool.and_eq_true, decide_eq_true_eq, decide_eq_true_eq] at h2
      exact absurd h2 h
  rw [e2]
  simp
theorem ref_some (R : Nat → List Int) (n : Nat) (l : List Int) (k x : Nat) (hk : k < l.length) (hx : x < n) (h : at0 l k = (x : Int)) (i : Nat) (hi : i < n) : mixR (fun i => refB R n (l.take k) i) (fun i => warN (tabB R) n x i) x n i = refB R n (l.take (k + 1)) i := by
  have e : l.take (k + 1) = l.take k ++ [at0 l k] := by
    rw [List.take_add_one]
    unfold at0
    rw [List.getElem?_eq_getElem hk]
    rfl
  rw [e, refB_snoc, h]
  unfold mixR
  have e2 : (decide (0 ≤ (x : Int)) && decide ((x : Int) < (n : Int))) = true := by
    rw [Bool.and_eq_true, decide_eq_true_eq, decide_eq_true_eq]; omega
  rw [e2, decide_eq_true hi, Int.toNat_natCast, Bool.true_and, Bool.true_and, Bool.or_assoc]
  by_cases h3 : i = x
  · rw [decide_eq_true h3, decide_eq_true h3.symm]
  · rw [decide_eq_false h3, decide_eq_false fun h => h3 h.symm]
set_option maxHeartbeats 8000000 in
set_option maxRecDepth 100000 in
theorem rreach_any (gA : Option Addr) (n gc : Nat) (RA : Nat → Option Addr) (RL : Nat → List Int) (RK : Nat → Nat) (fA : Option Addr) (l : List Int) (fc : Nat) (w : World) (GR : GraphR w gA n RA RL RK) (rf : ReadsV w fA l) (hl : l.length ≤ 1000000) :
    Calls Try.prog 19 #[.slice gA n gc, .slice fA l.length fc] w fun e w' => ∃ r, e = .returned (.slice (some ⟨r, 0, none⟩) n n) ∧ w.heap.size ≤ r ∧ RowB w' r n (refB RL n l) ∧ Below w.heap.size w w' := by
  have CP := Lib.hid (paths_any gA n gc RA RL RK w GR)
  have hn := GR.hn
  have RF := Lib.hid rf
  have hmk := run_make_bools n (by omega)
  have HN := Lib.hid (ref_none RL n l)
  have HS := Lib.hid (ref_some RL n l)
  have H0 : Hid (∀ i, refB RL n (l.take 0) i = false) := fun _ => rfl
  have HL : Hid (∀ i, refB RL n (l.take l.length) i = refB RL n l i) := fun i => by rw [List.take_length]
  clear GR rf
  obtain ⟨F, hF⟩ : ∃ F : Nat → Nat → Bool, F = fun k i => refB RL n (l.take k) i := ⟨_, rfl⟩
  have hFk : ∀ k i, refB RL n (l.take k) i = F k i := fun k i => by rw [hF]
  simp only [hFk] at HN HS H0 HL
  clear hF hFk
  generalize refB RL n l = FL at *
  generalize warN (tabB RL) n = P at *
  go_enter Try.func19, Try.ntmps19
  go_wp2_with fail
  refine CP.out.mono ?_
  rintro e w1 ⟨v, ad, rfl, M1, B1⟩
  have M1 := Lib.hid M1
  have B1 := Lib.hid B1
  have hs1 := B1.out.size
  have R0 : Hid (RowB (w1.alloc (.cells (madeCells #[.bool false] n) 4)) w1.heap.size n (F 0)) := (RowB.made w1 n).congr fun i _ => (H0.out i).symm
  have S0 : Hid (Below w1.heap.size w1 (w1.alloc (.cells (madeCells #[.bool false] n) 4))) := (Below.refl _ _).alloc (Nat.le_refl _) _
  clear CP H0
  go_wp2_with fail
  go_loopw [7] (fun q wr => ∃ k : Nat, k ≤ l.length ∧ q = .int .i64 k ∧ Hid (RowB wr w1.heap.size n (F k)) ∧ Hid (Below w1.heap.size w1 wr)) (fun q _ => l.length - (intOf q).toNat)
  case atStart => exact ⟨0, by omega, rfl, R0, S0⟩
  case round =>
    clear R0 S0
    obtain ⟨wo, rfl⟩ : ∃ wo, wo = wr := ⟨_, rfl⟩
    obtain ⟨k, hk, rfl, HR, BB⟩ := hrel
    have BG := Lib.hid (B1.out.trans (BB.out.mono hs1))
    by_cases hlt : k < l.length
    · obtain ⟨b, off, rfl, hb, c0⟩ := (RF.out.below BG.out (Nat.le_refl _)) k hlt
      have HNk := Lib.hid (HN.out k hlt)
      have HSk := Lib.hid (fun x hx h => HS.out k x hlt hx h)
      have hc0 : Hid (∀ W, Below w1.heap.size w1 W → W.cell? ⟨b, off + k, none⟩ = some (.int .i64 (at0 l k))) := fun W hW => by
        obtain ⟨b', off', e', _, h⟩ := (RF.out.below (B1.out.trans (hW.mono hs1)) (Nat.le_refl _)) k hlt
        injection e' with e'
        injection e' with e1 e2
        subst e1 e2
        exact h
      generalize at0 l k = x at *
      clear HN HS HL
      by_cases h0 : x < 0
      · have R1 : Hid (RowB wo w1.heap.size n (F (k + 1))) := HR.out.congr fun i _ => (HNk.out (by omega) i).symm
        clear HNk HSk HR hc0
        go_wp2
        go_roundw
        case rel => exact ⟨k + 1, by omega, by go_num, R1, BB⟩
        case measure => simp [intOf]; omega
      · by_cases h1 : (n : Int) ≤ x
        · have R1 : Hid (RowB wo w1.heap.size n (F (k + 1))) := HR.out.congr fun i _ => (HNk.out (by omega) i).symm
          clear HNk HSk HR hc0
          go_wp2
          go_roundw
          case rel => exact ⟨k + 1, by omega, by go_num, R1, BB⟩
          case measure => simp [intOf]; omega
        · obtain ⟨x, rfl⟩ : ∃ i : Nat, x = i := ⟨x.toNat, by omega⟩
          have hx : x < n := by omega
          have hSE := Lib.hid (HSk.out x hx rfl)
          clear HNk HSk h0
          have h0 : ¬ (x : Int) < 0 := by omega
          have q0 := HR.out.get hx
          have q1 := World.rowIs.frozen HR.out x
          have R0 : Hid (RowB (wo.setCell ⟨w1.heap.size, x, none⟩ (.bool true)) w1.heap.size n (mixR (F k) (P x) x 0)) := (HR.out.set x true).congr fun i _ => mixR_start (F k) (P x) x i
          have S0 : Hid (Below w1.heap.size w1 (wo.setCell ⟨w1.heap.size, x, none⟩ (.bool true))) := BB.out.setCell (Nat.le_refl _) _
          clear HR BB BG
          go_wp2_with fail
          go_loopw [8] (fun q wr => ∃ j : Nat, j ≤ n ∧ q = .int .i64 j ∧ Hid (RowB wr w1.heap.size n (mixR (F k) (P x) x j)) ∧ Hid (Below w1.heap.size w1 wr)) (fun q _ => n - (intOf q).toNat)
          case atStart => exact ⟨0, by omega, rfl, R0, S0⟩
          case round =>
            clear R0 S0 q0 q1 c0
            obtain ⟨j, hj, rfl, HR, BB⟩ := hrel
            by_cases hlj : j < n
            · have c0 := hc0.out _ BB.out
              have M2 := M1.out.below BB.out
              obtain ⟨g, c, rfl, c1⟩ := M2.cell hx
              have c2 := M2.get hx hlj
              have c3 := HR.out.get hlj
              have hfz := World.rowIs.frozen HR.out j
              rw [mixR_at] at c3
              have HZ : Hid (∀ z, ((F k j || decide (j = x)) || P x j) = z → RowB (wr.setCell ⟨w1.heap.size, j, none⟩ (.bool z)) w1.heap.size n (mixR (F k) (P x) x (j + 1)) ∧ Below w1.heap.size w1 (wr.setCell ⟨w1.heap.size, j, none⟩ (.bool z))) := fun z hz => ⟨(HR.out.set j z).congr fun i _ => by rw [← hz]; exact mixR_step (F k) (P x) x j i, BB.out.setCell (Nat.le_refl _) _⟩
              clear HR BB M2 hc0 hSE M1
              generalize P x j = z2 at *
              generalize (F k j || decide (j = x)) = z1 at *
              cases z1
              · obtain ⟨r1, r2⟩ := HZ.out z2 (by simp)
                have r1 := Lib.hid r1
                have r2 := Lib.hid r2
                clear HZ
                go_wp2
                go_roundw
                case rel => exact ⟨j + 1, by omega, by go_num, r1, r2⟩
                case measure => simp [intOf]; omega
              · obtain ⟨r1, r2⟩ := HZ.out true (by simp)
                have r1 := Lib.hid r1
                have r2 := Lib.hid r2
                clear HZ
                go_wp2
                go_roundw
                case rel => exact ⟨j + 1, by omega, by go_num, r1, r2⟩
                case measure => simp [intOf]; omega
            · obtain rfl : j = n := by omega
              have R1 : Hid (RowB wr w1.heap.size j (F (k + 1))) := HR.out.congr fun i hi => hSE.out i hi
              go_wp2
              go_roundw
              case rel => exact ⟨k + 1, by omega, by go_num, R1, BB⟩
              case measure => simp [intOf]; omega
    · obtain rfl : k = l.length := by omega
      have R1 : Hid (RowB wo w1.heap.size n FL) := HR.out.congr fun i _ => HL.out i
      clear HN HS HL HR
      go_wp2
      go_ret
      exact ⟨_, rfl, hs1, R1.out, BG.out⟩
end Go.Proofs.Ytdfljeonoallfaa
