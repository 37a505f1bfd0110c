/- Lists of booleans: Contains. -/
import Derived.Test.YthcbcgaekbmoaaaSR
namespace Go.Proofs.Ythcbcgaekbmoaaa
open Go.RowKit

def allB (zs : List Bool) : Bool := zs.all fun b => b
theorem allB_yes {zs : List Bool} (h : ∀ j, j < zs.length → atT zs j = true) : allB zs = true := by
  unfold allB
  rw [List.all_eq_true]
  intro b hb
  obtain ⟨j, hj, e⟩ := List.getElem_of_mem hb
  have := h j hj
  unfold atT at this
  rw [List.getElem?_eq_getElem hj] at this
  rw [← e]; exact this
theorem allB_no {zs : List Bool} (j : Nat) (hj : j < zs.length) (h : atT zs j = false) : allB zs = false := by
  unfold allB
  rw [List.all_eq_false]
  refine ⟨zs[j], List.getElem_mem hj, ?_⟩
  unfold atT at h
  rw [List.getElem?_eq_getElem hj] at h
  simp at h ⊢
  exact h
theorem readsT_at {w : World} {A : Option Addr} {zs : List Bool} (h : ReadsT w A zs) (k : Nat) (hk : k < zs.length) : ∃ b off, A = some ⟨b, off, none⟩ ∧ w.cell? ⟨b, off + k, none⟩ = some (.bool (atT zs k)) := by
  obtain ⟨b, off, e, _, h2⟩ := h k hk
  exact ⟨b, off, e, h2⟩
theorem neg_all {zs : List Bool} {b : Bool} (h : allB zs = b) : (!allB zs) = !b := by rw [h]
set_option maxHeartbeats 2000000 in
set_option maxRecDepth 100000 in
theorem index_bool (A : Option Addr) (zs : List Bool) (c : Nat) (w : World) (R : ReadsT w A zs) (hl : zs.length ≤ 9223372036854775807) :
    Calls Try.prog 43 #[.slice A zs.length c, .bool false] w fun e w' => (∃ r : Int, e = .returned (.int .i64 r) ∧ decide (0 ≤ r) = !allB zs) ∧ w = w' := by
  have RA := Lib.hid R
  have HY := Lib.hid (@allB_yes zs)
  have HN := Lib.hid (fun j (hj : j < zs.length) (h : atT zs j = false) => neg_all (allB_no j hj h))
  clear R
  generalize allB zs = ok at *
  go_enter Try.func43, Try.ntmps43
  go_wp2
  go_loopg [8] zs.length (fun gg q wr => ∃ k : Nat, gg = zs.length - k ∧ k ≤ zs.length ∧ q = .int .i64 k ∧ Hid (∀ j, j < k → atT zs j = true) ∧ w = wr)
  case atStart => exact ⟨0, rfl, Nat.zero_le _, rfl, fun j hj => absurd hj (by omega), rfl⟩
  case round =>
    obtain ⟨k, hgg, hk, rfl, HJ, rfl⟩ := hrel
    by_cases hlt : k < zs.length
    · obtain ⟨b, off, rfl, h1⟩ := readsT_at RA.out k hlt
      have hno := HN.out k hlt
      have HJ2 : Hid (atT zs k = true → ∀ j, j < k + 1 → atT zs j = true) := fun h j hj => by
        by_cases e : j = k
        · rw [e]; exact h
        · exact HJ.out j (by omega)
      clear HN
      cases hb : atT zs k
      · rw [hb] at h1
        have E := Lib.hid (hno hb)
        clear hno HJ2 hb HY
        go_wp2
        go_ret
        exact ⟨⟨k, rfl, by rw [decide_eq_true (by omega)]; exact E.out.symm⟩, rfl⟩
      · rw [hb] at h1
        have HJ3 := Lib.hid (HJ2.out hb)
        clear hno HJ2 hb HY
        go_wp2
        go_roundg (zs.length - (k + 1))
        case rel => exact ⟨k + 1, rfl, by omega, by go_num, HJ3.out, rfl⟩
        case measure => omega
    · obtain rfl : k = zs.length := by omega
      have E := Lib.hid (HY.out HJ.out)
      clear HY HN
      go_wp2
      go_ret
      exact ⟨⟨-1, rfl, by rw [E.out]; rfl⟩, rfl⟩
theorem contains_bool (A : Option Addr) (zs : List Bool) (c : Nat) (w : World) (R : ReadsT w A zs) (hl : zs.length ≤ 9223372036854775807) :
    Calls Try.prog 29 #[.slice A zs.length c, .bool false] w fun e w' => e = .returned (.bool (!allB zs)) ∧ w = w' := by
  have C := Lib.hid (index_bool A zs c w R hl)
  clear R
  generalize (!allB zs) = ok at *
  go_enter Try.func29, Try.ntmps29
  go_wp2_with fail
  refine C.out.mono ?_
  rintro e w1 ⟨⟨r, rfl, hr⟩, rfl⟩
  have HR := Lib.hid hr
  clear hr
  go_wp2
  go_ret
  exact ⟨by rw [← HR.out]; rfl, rfl⟩
end Go.Proofs.Ythcbcgaekbmoaaa
