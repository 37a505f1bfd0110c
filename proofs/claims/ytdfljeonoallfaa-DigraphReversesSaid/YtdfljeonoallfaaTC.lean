/- Graphs: the reference's table of the edges. -/
import Derived.Test.YtdfljeonoallfaaTB
namespace Go.Proofs.Ytdfljeonoallfaa
open Go.RowKit Go.Deep

theorem take_has {l : List Int} {k : Nat} (h : k < l.length) (x : Int) : (l.take (k + 1)).contains x = ((l.take k).contains x || decide (at0 l k = x)) := by
  have e : l.take (k + 1) = l.take k ++ [at0 l k] := by
    rw [List.take_add_one]
    unfold at0
    rw [List.getElem?_eq_getElem h]
    rfl
  rw [e]
  rw [Bool.eq_iff_iff]
  simp only [List.contains_iff_mem, List.mem_append, List.mem_singleton, Bool.or_eq_true, decide_eq_true_eq]
  exact or_congr Iff.rfl ⟨Eq.symm, Eq.symm⟩
set_option maxHeartbeats 8000000 in
set_option maxRecDepth 100000 in
theorem table_any (gA : Option Addr) (n gc : Nat) (RA : Nat → Option Addr) (RL : Nat → List Int) (RK : Nat → Nat) (w : World) (GR : GraphR w gA n RA RL RK) :
    Calls Try.prog 32 #[.slice gA n gc] w fun e w' => ∃ v ad, e = .returned v ∧ MatB w' w.heap.size v n n ad (tabB RL) ∧ Below w.heap.size w w' := by
  have hn := GR.hn
  have RW : Hid (∀ W, Below w.heap.size w W → GraphR W gA n RA RL RK) := fun W hW => GR.below hW
  have hmk := run_make_bools n (by omega)
  have M0 : Hid (MatB w w.heap.size (.slice none 0 0) n 0 (fun _ => 0) (tabB RL)) := MatB.nil _ _ _ _ _
  have B0 : Hid (Below w.heap.size w w) := Below.refl _ _
  clear GR
  go_enter Try.func32, Try.ntmps32
  go_wp2_with fail
  go_loopw [4, 3] (fun q u wr => ∃ (k : Nat) (ad : Nat → Nat), k ≤ n ∧ q = .int .i64 k ∧ Hid (MatB wr w.heap.size u n k ad (tabB RL)) ∧ Hid (Below w.heap.size w wr)) (fun q _ _ => n - (intOf q).toNat)
  case atStart => exact ⟨0, fun _ => 0, by omega, rfl, M0, B0⟩
  case round =>
    clear M0 B0
    obtain ⟨wo, rfl⟩ : ∃ wo, wo = wr := ⟨_, rfl⟩
    obtain ⟨k, ad, hk, rfl, MR, BB⟩ := hrel
    by_cases hlt : k < n
    · have S0 : Hid (RowB (wo.alloc (.cells (madeCells #[.bool false] n) 4)) wo.heap.size n (fun i => ((RL k).take 0).contains (i : Int))) := (RowB.made wo n).congr fun _ _ => rfl
      have SB : Hid (Below wo.heap.size wo (wo.alloc (.cells (madeCells #[.bool false] n) 4))) := (Below.refl _ _).alloc (Nat.le_refl _) _
      have hsz := BB.out.size
      have HL : Hid (∀ W, Below wo.heap.size wo W → (∃ b off, gA = some ⟨b, off, none⟩ ∧ W.cell? ⟨b, off + k, none⟩ = some (.slice (RA k) (RL k).length (RK k))) ∧ ReadsV W (RA k) (RL k)) := fun W hW => by
        have G := RW.out W (BB.out.trans (hW.mono hsz))
        obtain ⟨b, off, e, _, h⟩ := G.row k hlt
        exact ⟨⟨b, off, e, h⟩, G.rd k hlt⟩
      have hll : (RL k).length ≤ 1000000 := (RW.out w (Below.refl _ _)).ll k hlt
      have HT : Hid (∀ j, j < (RL k).length → ∀ x : Int, ((RL k).take (j + 1)).contains x = (((RL k).take j).contains x || decide (at0 (RL k) j = x))) := fun j hj x => take_has hj x
      have HF : Hid (∀ f : Nat → Bool, (∀ i, f i = ((RL k).take (RL k).length).contains (i : Int)) → ∀ i, f i = tabB RL k i) := fun f hf i => by rw [hf i, List.take_length]; rfl
      obtain ⟨⟨b, off, eA, c0⟩, -⟩ := HL.out _ SB.out
      go_wp2_with fail
      go_loopw [6] (fun q wr => ∃ j : Nat, j ≤ (RL k).length ∧ q = .int .i64 j ∧ Hid (RowB wr wo.heap.size n (fun i => ((RL k).take j).contains (i : Int))) ∧ Hid (Below wo.heap.size wo wr)) (fun q _ => (RL k).length - (intOf q).toNat)
      case atStart => exact ⟨0, by omega, rfl, S0, SB⟩
      case round =>
        clear S0 SB c0
        obtain ⟨j, hj, rfl, HR, BI⟩ := hrel
        obtain ⟨⟨b', off', eA', c0⟩, RD⟩ := HL.out _ BI.out
        subst eA
        injection eA' with eA'
        injection eA' with ea1 ea2
        subst ea1 ea2
        by_cases hlt2 : j < (RL k).length
        · have HTj := Lib.hid (HT.out j hlt2)
          obtain ⟨b2, off2, e2, _, c1⟩ := RD j hlt2
          have HS : Hid (∀ i : Nat, i < n → at0 (RL k) j = (i : Int) → RowB (wr.setCell ⟨wo.heap.size, i, none⟩ (.bool true)) wo.heap.size n (fun i => ((RL k).take (j + 1)).contains (i : Int)) ∧ Below wo.heap.size wo (wr.setCell ⟨wo.heap.size, i, none⟩ (.bool true))) := fun i hi e => by
            refine ⟨(HR.out.set i true).congr fun i' _ => ?_, BI.out.setCell (Nat.le_refl _) _⟩
            rw [HTj.out, e]
            by_cases e3 : i' = i
            · rw [if_pos e3, e3]; simp
            · rw [if_neg e3]
              have : ¬ (i : Int) = (i' : Int) := by omega
              simp [this]
          have HN : Hid (¬ (0 ≤ at0 (RL k) j ∧ at0 (RL k) j < (n : Int)) → RowB wr wo.heap.size n (fun i => ((RL k).take (j + 1)).contains (i : Int))) := fun h => by
            refine HR.out.congr fun i' hi' => ?_
            rw [HTj.out]
            have : ¬ at0 (RL k) j = (i' : Int) := by omega
            simp [this]
          have hfz := fun o => World.rowIs.frozen HR.out o
          have hcl := fun i (hi : i < n) => HR.out.get hi
          have hz := World.rowIs.lt HR.out
          clear HTj HT HF HR RD
          rw [e2] at c0
          clear e2
          generalize at0 (RL k) j = x at *
          by_cases h0 : 0 ≤ x
          · by_cases h1 : x < (n : Int)
            · obtain ⟨i, rfl⟩ : ∃ i : Nat, x = i := ⟨x.toNat, by omega⟩
              have hi : i < n := by omega
              obtain ⟨r1, r2⟩ := HS.out i hi rfl
              have R1 := Lib.hid r1
              have R2 := Lib.hid r2
              have hfz := hfz i
              have hcl := hcl i hi
              clear HN HS r1 r2 HL
              go_wp2
              go_roundw
              case rel => exact ⟨j + 1, by omega, by go_num, R1, R2⟩
              case measure => simp [intOf]; omega
            · have h1' : (x < (n : Int)) = False := by simp; omega
              have R1 := Lib.hid (HN.out fun h => h1 h.2)
              clear HN HS HL hfz hcl
              go_wp2
              go_roundw
              case rel => exact ⟨j + 1, by omega, by go_num, R1, BI⟩
              case measure => simp [intOf]; omega
          · have h0' : (0 ≤ x) = False := by simp; omega
            have R1 := Lib.hid (HN.out fun h => h0 h.1)
            clear HN HS HL hfz hcl
            go_wp2
            go_roundw
            case rel => exact ⟨j + 1, by omega, by go_num, R1, BI⟩
            case measure => simp [intOf]; omega
        · obtain rfl : j = (RL k).length := by omega
          have R1 := Lib.hid (HR.out.congr (g := tabB RL k) fun i _ => HF.out _ (fun _ => rfl) i)
          have M1 := Lib.hid (MR.out.below BI.out)
          have hnr : Hid (∀ i, i < k → ad i ≠ wo.heap.size) := fun i hi => by have := MR.out.lt hi; omega
          have B1 := Lib.hid (BB.out.trans (BI.out.mono hsz))
          have hsz1 := B1.out.size
          clear HR HF HT RD MR BB BI HL hll
          go_wp2_with (at_builtin; go_loud (refine wpList_bmat rfl (.tmp 54) (.tmp 56) rfl (tabB RL k) wo.heap.size rfl (M1.out.below ((Below.refl _ _).alloc (Nat.le_refl _) _)) (R1.out.of_block (blk_alloc_lt _ _ _ (World.rowIs.lt R1.out))) hsz hnr.out wr.heap.size rfl (cell_new1 _ _ _) (by omega) (by rw [World.size_alloc]; omega) ?_); intro v5 w5 m5 k5; have M5 := Lib.hid m5; have B5 := Lib.hid ((B1.out.alloc hsz1 _).trans k5); clear m5 k5)
          go_roundw
          case rel => exact ⟨k + 1, _, by omega, by go_num, Lib.hid (M5.out.congr fun i j hi hj => by by_cases e : i = k <;> simp [e]), B5⟩
          case measure => simp [intOf]; omega
    · obtain rfl : k = n := by omega
      go_wp2
      go_ret
      exact ⟨_, _, rfl, MR.out, BB.out⟩
end Go.Proofs.Ytdfljeonoallfaa
