/- Contracts of the reference: minimal, insert. -/
import Derived.Test.YtlppoablhipinaaUD
namespace Go.Proofs.Ytlppoablhipinaa
open Go.RowKit

theorem keepc {w w' : World} {b o : Nat} {v : Value} (h : w.cell? ⟨b, o, none⟩ = some v) (hb : Below w.heap.size w w') : w'.cell? ⟨b, o, none⟩ = some v :=
  (hb.cell (p := ⟨b, o, none⟩) (World.block_lt_of_cell? w ⟨b, o, none⟩ h)).trans h
theorem minB_no {L : List Row} {k : Nat} {b : List Int} (hk : k < L.length) (h1 : leqL (rA L k).zs b = true) (h2 : sameL (rA L k).zs b = false) : minB (rowsL L) b = false := by
  unfold minB
  rw [List.all_eq_false]
  exact ⟨_, List.mem_map.2 ⟨_, rA_mem hk, rfl⟩, by rw [h1, h2]; simp⟩
theorem minB_yes {L : List Row} {b : List Int} (h : ∀ j, j < L.length → (leqL (rA L j).zs b && !(sameL (rA L j).zs b)) = false) : minB (rowsL L) b = true := by
  unfold minB
  rw [List.all_eq_true]
  intro x hx
  unfold rowsL at hx
  obtain ⟨r, hr, rfl⟩ := List.mem_map.1 hx
  obtain ⟨i, hi, rfl⟩ := List.getElem_of_mem hr
  have := h i hi
  unfold rA at this
  rw [List.getElem?_eq_getElem hi] at this
  simp only [Option.getD_some] at this
  rw [this]
  rfl
set_option maxHeartbeats 4000000 in
theorem rminimal_any (A B : Option Addr) (L : List Row) (b : List Int) (c cb : Nat) (w : World) (hr : ReadsL w A L) (hl : L.length ≤ 1000) (rb : ReadsV w B b) :
    Calls Try.prog 37 #[.slice A L.length c, .slice B b.length cb] w (BPost w.heap.size w (minB (rowsL L) b)) := by
  have HL := Lib.hid hr
  have RB := Lib.hid rb
  clear hr rb
  obtain ⟨g, hg⟩ : ∃ g, g = w.heap.size := ⟨_, rfl⟩
  have HG := Lib.hid hg
  unfold BPost
  rw [← hg]
  clear hg
  have MN : Hid (∀ k, k < L.length → leqL (rA L k).zs b = true → sameL (rA L k).zs b = false → minB (rowsL L) b = false) := fun k hk => minB_no hk
  have MY : Hid ((∀ j, j < L.length → (leqL (rA L j).zs b && !(sameL (rA L j).zs b)) = false) → minB (rowsL L) b = true) := minB_yes
  generalize minB (rowsL L) b = S at *
  generalize hn : L.length = n at *
  have HN := Lib.hid hn
  clear hn
  go_enter Try.func37, Try.ntmps37
  go_wp2_with fail
  go_loopw [5] (fun q wr => ∃ k : Nat, k ≤ n ∧ q = .int .i64 k ∧ Hid (∀ j, j < k → (leqL (rA L j).zs b && !(sameL (rA L j).zs b)) = false) ∧ Hid (Below g w wr)) (fun q _ => n - (intOf q).toNat)
  case atStart => exact ⟨0, by omega, rfl, fun j hj => absurd hj (by omega), Below.refl _ _⟩
  case round =>
    obtain ⟨k, hk, rfl, HE, BB⟩ := hrel
    by_cases hlt : k < n
    · have hB := BB.out
      have RW := HL.out.below hB (by rw [HG.out]; exact Nat.le_refl _)
      have hkl : k < L.length := by rw [HN.out]; exact hlt
      obtain ⟨ba, oa, e1, hx⟩ := RW.1.at k hkl
      subst e1
      have OKk := RW.2 _ (rA_mem hkl)
      have RBk := RB.out.below hB (by rw [HG.out]; exact Nat.le_refl _)
      have CL := Lib.hid (rleq_law (rA L k).A B (rA L k).zs b (rA L k).cap cb wr OKk.1 RBk (by have := OKk.2; omega))
      have CS : Hid (∀ W, Below wr.heap.size wr W → Calls Try.prog 27 #[.slice (rA L k).A (rA L k).zs.length (rA L k).cap, .slice B b.length cb] W (BPost W.heap.size W (sameL (rA L k).zs b))) := fun W hW =>
        same_law (rA L k).A B (rA L k).zs b (rA L k).cap cb W (OKk.1.below hW (Nat.le_refl _)) (RBk.below hW (Nat.le_refl _)) (by have := OKk.2; omega)
      have MK := Lib.hid (MN.out k hlt)
      have HE2 : Hid ((leqL (rA L k).zs b && !(sameL (rA L k).zs b)) = false → ∀ j, j < k + 1 → (leqL (rA L j).zs b && !(sameL (rA L j).zs b)) = false) := fun h j hj => by
        by_cases e : j < k
        · exact HE.out j e
        · obtain rfl : j = k := by omega
          exact h
      clear hB RW OKk RBk HE hkl
      generalize rA L k = r at *
      obtain ⟨xA, xs, xc⟩ := r
      dsimp only at *
      cases hle : leqL xs b
      · have HE3 := Lib.hid (HE2.out (by rw [hle]; rfl))
        rw [hle] at CL
        clear HE2 MK hle CS
        go_wp2_with fail
        refine CL.out.mono ?_
        rintro e w3 ⟨rfl, K⟩
        have B3 := Lib.hid (BB.out.trans (K.mono (by rw [HG.out]; exact BB.out.size)))
        clear K CL
        go_wp2
        go_roundw
        case rel => exact ⟨k + 1, by omega, by go_num, HE3, B3⟩
        case measure => simp [intOf]; omega
      · rw [hle] at CL
        cases hsm : sameL xs b
        · have E := Lib.hid (MK.out hle hsm)
          rw [hsm] at CS
          clear HE2 MK hle hsm
          go_wp2_with fail
          refine CL.out.mono ?_
          rintro e w3 ⟨rfl, K⟩
          have K3 := Lib.hid K
          have hx3 := keepc hx K
          clear K CL
          go_wp2_with fail
          refine (CS.out _ K3.out).mono ?_
          rintro e w4 ⟨rfl, K⟩
          have B4 := Lib.hid (BB.out.trans ((K3.out.trans (K.mono K3.out.size)).mono (by rw [HG.out]; exact BB.out.size)))
          clear K K3
          go_wp2
          go_ret
          exact ⟨by rw [E.out]; rfl, B4.out⟩
        · have HE3 := Lib.hid (HE2.out (by rw [hsm]; simp))
          rw [hsm] at CS
          clear HE2 MK hle hsm
          go_wp2_with fail
          refine CL.out.mono ?_
          rintro e w3 ⟨rfl, K⟩
          have K3 := Lib.hid K
          have hx3 := keepc hx K
          clear K CL
          go_wp2_with fail
          refine (CS.out _ K3.out).mono ?_
          rintro e w4 ⟨rfl, K⟩
          have B4 := Lib.hid (BB.out.trans ((K3.out.trans (K.mono K3.out.size)).mono (by rw [HG.out]; exact BB.out.size)))
          clear K K3
          go_wp2
          go_roundw
          case rel => exact ⟨k + 1, by omega, by go_num, HE3, B4⟩
          case measure => simp [intOf]; omega
    · obtain rfl : k = n := by omega
      have E := Lib.hid (MY.out HE.out)
      go_wp2
      go_ret
      exact ⟨by rw [E.out]; rfl, BB.out⟩
end Go.Proofs.Ytlppoablhipinaa
