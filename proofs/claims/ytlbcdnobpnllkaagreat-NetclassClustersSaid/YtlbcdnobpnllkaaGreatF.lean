/- A place is checked. -/
import Derived.Test.YtlbcdnobpnllkaaGreatE
import Derived.Deep.RegionHeld3
import Derived.Deep.AppendLies
namespace Go.Proofs.YtlbcdnobpnllkaaGreat
open Go.RowKit

theorem name_any2 (s : ByteArray) (W : World) (hs : s.size ≤ maxLen) : Calls Tryz.prog 77 #[.string s] W fun e w' => e = .returned (.bool (nameB (bytesI s))) ∧ Below W.heap.size W w' := name_any s W hs

set_option maxHeartbeats 1000000 in
theorem checkPlace_any (nm : ByteArray) (PA TA : Option Addr) (ps : List PlaceV) (pc nt tc i : Nat) (w : World) (hr : ReadsP w PA ps) (hok : OkP ps) (hpc : ps.length ≤ pc) (hi : i < ps.length) :
    Calls Tryz.prog 78 #[.agg #[.string nm, .slice PA ps.length pc, .slice TA nt tc], .int .i64 i] w fun e w' => e = .returned (.int .i64 (placeE ps i)) ∧ Below w.heap.size w w' := by
  obtain ⟨hl, hz⟩ := hok
  have hE : placeE ps i = if nameB (bytesI (pA ps i).nm) = false then 5 else if 0 ≤ placeI ps i (pA ps i).nm then 6 else if (pA ps i).cap < 0 ∨ 1048576 < (pA ps i).cap then 1
    else if (pA ps i).ini < 0 ∨ 1048576 < (pA ps i).ini ∨ (pA ps i).cap ≠ 0 ∧ (pA ps i).cap < (pA ps i).ini then 10 else 0 := rfl
  obtain ⟨b0, off, rfl, hb0, hc0, hc1, hc2⟩ := hr i hi
  have CN := fun W => name_any2 (pA ps i).nm W (hz i)
  have CP := fun W (hW : Below w.heap.size w W) => placeNamed_any (some ⟨b0, off, none⟩) (ps.take i) pc (pA ps i).nm W ((hr.below hW (Nat.le_refl _)).take i) (by rw [List.length_take]; unfold maxLen; omega)
  rw [List.length_take, Nat.min_eq_left (by omega : i ≤ ps.length), placeI_take] at CP
  generalize placeE ps i = S at *
  generalize placeI ps i (pA ps i).nm = F at *
  generalize nameB (bytesI (pA ps i).nm) = nb at *
  generalize (pA ps i).nm = pn at *
  generalize (pA ps i).ini = ini at *
  generalize (pA ps i).cap = cap at *
  have HZ := Lib.hid hz
  have HR := Lib.hid hr
  clear hz hr
  have hipc : i ≤ pc := by omega
  generalize hn : ps.length = n at *
  have HN := Lib.hid hn
  clear hn
  have B0 : Hid (Below w.heap.size w (w.alloc (.cells #[.string nm, .slice (some ⟨b0, off, none⟩) n pc, .slice TA nt tc] 25))) := (Below.refl _ _).alloc (Nat.le_refl _) _
  cases nb
  · have E : Hid (5 = S) := by show _ = _; rw [hE]; rfl
    replace CN := Lib.hid CN
    replace CP := Lib.hid CP
    clear hE
    go_enter Tryz.func78, Tryz.ntmps78
    go_wp2_with fail
    refine (CN.out _).mono ?_
    rintro e w1 ⟨rfl, K⟩
    have K2 := Lib.hid (((B0.out).alloc (by simp) _).trans (K.mono (by simp; omega)))
    clear K
    go_wp2
    go_ret
    exact ⟨ret_i E.out, K2.out⟩
  · replace CN := Lib.hid CN
    replace CP := Lib.hid CP
    have hE2 : S = if 0 ≤ F then 6 else if cap < 0 ∨ 1048576 < cap then 1
      else if ini < 0 ∨ 1048576 < ini ∨ cap ≠ 0 ∧ cap < ini then 10 else 0 := hE
    clear hE
    go_enter Tryz.func78, Tryz.ntmps78
    go_wp2_with fail
    refine (CN.out _).mono ?_
    rintro e w1 ⟨rfl, K⟩
    have c1 : w1.cell? ⟨w.heap.size, 1, none⟩ = some (.slice (some ⟨b0, off, none⟩) n pc) := by rw [K.cell (by simp; omega)]; simp
    have p0 : w1.cell? ⟨w.heap.size + 1, 0, none⟩ = some (.string pn) := by rw [K.cell (by simp)]; simp
    have p1 : w1.cell? ⟨w.heap.size + 1, 1, none⟩ = some (.int .i64 ini) := by rw [K.cell (by simp)]; simp
    have p2 : w1.cell? ⟨w.heap.size + 1, 2, none⟩ = some (.int .i64 cap) := by rw [K.cell (by simp)]; simp
    have sz : w.heap.size + 2 ≤ w1.heap.size := by have := K.size; simp at this; omega
    have K2 := Lib.hid (((B0.out).alloc (by simp) _).trans (K.mono (by simp; omega)))
    clear K
    have lw1 : w.heap.size < w1.heap.size := by omega
    have lw2 : w.heap.size + 1 < w1.heap.size := by omega
    go_wp2_with fail
    go_region_held3 (fun w' => w'.cell? ⟨w.heap.size, 1, none⟩ = some (.slice (some ⟨b0, off, none⟩) n pc) ∧ w'.cell? ⟨w.heap.size + 1, 0, none⟩ = some (.string pn) ∧ w'.cell? ⟨w.heap.size + 1, 1, none⟩ = some (.int .i64 ini) ∧ w'.cell? ⟨w.heap.size + 1, 2, none⟩ = some (.int .i64 cap))
      (first
        | go_keep
        | exact ⟨(L2.cell (by exact lw1)).trans c1, (L2.cell (by exact lw2)).trans p0, (L2.cell (by exact lw2)).trans p1, (L2.cell (by exact lw2)).trans p2⟩)
      (first
        | (go_at_call 111; refine (CP.out _ K2.out.drew).mono ?_; rintro e w2 ⟨rfl, L2⟩))
    rename_i hHeld
    obtain ⟨d1, d2, d3, d4⟩ := hHeld
    have sz2 : w1.heap.size ≤ w2.heap.size := L2.size
    have K3 := Lib.hid (K2.out.drew.trans (L2.mono (by show w.heap.size ≤ w1.heap.size; omega)))
    clear L2 c1 p0 p1 p2
    have E6 : Hid (0 ≤ F → 6 = S) := fun h => by rw [hE2, if_pos h]
    have E1 : Hid (¬ 0 ≤ F → (cap < 0 ∨ 1048576 < cap) → 1 = S) := fun h h2 => by rw [hE2, if_neg h, if_pos h2]
    have E10 : Hid (¬ 0 ≤ F → ¬ (cap < 0 ∨ 1048576 < cap) → (ini < 0 ∨ 1048576 < ini ∨ cap ≠ 0 ∧ cap < ini) → 10 = S) := fun h h2 h3 => by rw [hE2, if_neg h, if_neg h2, if_pos h3]
    have E0 : Hid (¬ 0 ≤ F → ¬ (cap < 0 ∨ 1048576 < cap) → ¬ (ini < 0 ∨ 1048576 < ini ∨ cap ≠ 0 ∧ cap < ini) → 0 = S) := fun h h2 h3 => by rw [hE2, if_neg h, if_neg h2, if_neg h3]
    clear hE2
    go_wp2
    all_goals first
      | (go_ret; exact ⟨ret_i (E6.out (by omega)), K3.out⟩)
      | (go_ret; exact ⟨ret_i (E1.out (by omega) (by omega)), K3.out⟩)
      | (go_ret; exact ⟨ret_i (E10.out (by omega) (by omega) (by clear E6 E1 E10 E0; simp at * <;> omega)), K3.out⟩)
      | (go_ret; exact ⟨ret_i (E0.out (by omega) (by omega) (by clear E6 E1 E10 E0; simp at * <;> omega)), K3.out⟩)
end Go.Proofs.YtlbcdnobpnllkaaGreat
