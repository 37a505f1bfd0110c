/- The law on sums, differences and shifts. -/
import Derived.Test.YthpbgdeeajhbjaaDoorR
import Derived.Test.YthpbgdeeajhbjaaDoorO
namespace Go.Proofs.YthpbgdeeajhbjaaDoor
open Go.RowKit

theorem shift_full (N k : Nat) (hk : k < N) : shiftV N k N = k := by
  unfold shiftV
  rw [if_neg (by omega), Int.add_emod_right]
  exact Int.emod_eq_of_lt (by omega) (by omega)
theorem shift_zero (N k : Nat) (hk : k < N) : shiftV N k 0 = k := by
  unfold shiftV
  rw [if_neg (by omega), Int.add_zero]
  exact Int.emod_eq_of_lt (by omega) (by omega)
theorem shift_five (N k : Nat) (hk : k < N) : (0 ≤ shiftV N k 5 ∧ shiftV N k 5 < N) ∧ shiftV N (shiftV N k 5) (-5) = k := by
  have h1 : shiftV N k 5 = ((k : Int) + 5) % N := by
    unfold shiftV
    rw [if_neg (by omega)]
  have h2 := Int.emod_nonneg ((k : Int) + 5) (show (N : Int) ≠ 0 by omega)
  have h3 := Int.emod_lt_of_pos ((k : Int) + 5) (show (0 : Int) < N by omega)
  refine ⟨by rw [h1]; exact ⟨h2, h3⟩, ?_⟩
  rw [h1]
  unfold shiftV
  rw [if_neg (by omega), Int.emod_add_emod]
  rw [show (k : Int) + 5 + -5 = k by omega]
  exact Int.emod_eq_of_lt (by omega) (by omega)
theorem one_box (w : World) (v0 v1 : Value) (t : TypeId) : (w.alloc (.cells #[v0, v1] t)).cell? ⟨w.heap.size, 0, none⟩ = some v0 ∧ (w.alloc (.cells #[v0, v1] t)).cell? ⟨w.heap.size, 1, none⟩ = some v1 :=
  ⟨(World.cell?_alloc_new _ _ _ _).trans rfl, (World.cell?_alloc_new _ _ _ _).trans rfl⟩

def SlPost (g : Nat) (w : World) (n : Nat) (L : List Int) (e : Ending) (w' : World) : Prop := ∃ A c, e = .returned (.slice A n c) ∧ Hid (ReadsV w' A L) ∧ Hid (Below g w w')
theorem IsPost.sl {g : Nat} {w : World} {L : List Int} {n : Nat} {e : Ending} {w' : World} (hn : L.length = n) (h : IsPost g w L e w') : SlPost g w n L e w' := by
  obtain ⟨A, c, h1, h2, h3⟩ := h
  exact ⟨A, c, by rw [← hn]; exact h1, h2, h3⟩

set_option maxHeartbeats 4000000 in
set_option maxRecDepth 100000 in
theorem agrees_law (nm : ByteArray) (A0 Aa Ab : Option Addr) (L : List ByteArray) (cap ca cb : Nat) (a b : List Int) (w : World) (ra : ReadsV w Aa a) (rb : ReadsV w Ab b) (hl : a.length * 8 ≤ 140737488351232) (hm : b.length * 8 ≤ 140737488351232) :
    Calls Tryd.prog 9 #[.agg #[.string nm, .slice A0 L.length cap], .slice Aa a.length ca, .slice Ab b.length cb] w fun e w' => e = .returned (.bool true) ∧ Below w.heap.size w w' := by
  have C0 := Lib.hid (fun W => large_any nm A0 L.length cap W _ rfl)
  have C3 := Lib.hid (fun W => example_any W)
  obtain ⟨p0, p1⟩ := one_box w (.string nm) (.slice A0 L.length cap) 26
  have D0 : Hid (Below w.heap.size w (w.alloc (.cells #[.string nm, .slice A0 L.length cap] 26))) := (Below.refl _ _).alloc (Nat.le_refl _) _
  have hs0 : w.heap.size < (w.alloc (.cells #[.string nm, .slice A0 L.length cap] 26)).heap.size := by simp
  by_cases hbig : L.length ≤ 40
  rotate_left
  · have hb : decide (40 < L.length) = true := by simp; omega
    rw [hb] at C0
    clear hb ra rb
    go_enter Tryd.func9, Tryd.ntmps9
    go_wp2_with fail
    refine (C0.out _).mono ?_
    rintro e w1 ⟨rfl, K1⟩
    have D1 : Hid (Below w.heap.size w w1) := D0.out.trans (K1.mono (by simp))
    go_wp2_with fail
    refine (C3.out _).mono ?_
    rintro e w3 ⟨rfl, K⟩
    go_wp2
    go_ret
    exact ⟨rfl, D1.out.trans (K.mono D1.out.size)⟩
  have hb : decide (40 < L.length) = false := by simp; omega
  rw [hb] at C0
  clear hb
  have S0 := Lib.hid (fun i j W i1 i2 j1 j2 => shift_any nm A0 L.length cap i j W hbig i1 i2 j1 j2)
  have RA := Lib.hid (ra.alloc (.cells #[.string nm, .slice A0 L.length cap] 26))
  have RB := Lib.hid (rb.alloc (.cells #[.string nm, .slice A0 L.length cap] 26))
  clear ra rb
  generalize hw0 : w.alloc (.cells #[.string nm, .slice A0 L.length cap] 26) = w0 at *
  have HW0 := Lib.hid hw0
  clear hw0
  generalize L.length = N at *
  have C1 : Hid (∀ W, Below w0.heap.size w0 W → Calls Tryd.prog 21 #[.slice Aa a.length ca, .slice Ab b.length cb] W (SlPost W.heap.size W (addM a b).length (addM a b))) := fun W h =>
    (add_law Aa Ab a b ca cb W (RA.out.below h (Nat.le_refl _)) (RB.out.below h (Nat.le_refl _)) hl hm).mono fun _ _ h => h.sl rfl
  have C2 : Hid (0 < (addM a b).length → ∀ A2 c2 W, Below w0.heap.size w0 W → ReadsV W A2 (addM a b) → Calls Tryd.prog 25 #[.slice A2 (addM a b).length c2, .slice Ab b.length cb] W (SlPost W.heap.size W a.length a)) := fun hp A2 c2 W h h2 => by
    obtain ⟨f1, f2, _⟩ := add_facts hp
    have h := sub_law A2 Ab (addM a b) b c2 cb W h2 (RB.out.below h (Nat.le_refl _)) (by rw [f1]; exact hl) hm
    rw [f2] at h
    exact h.mono fun _ _ h => h.sl rfl
  have C4 : Hid (∀ A2 c2 W, Below w0.heap.size w0 W → ReadsV W A2 a → Calls Tryd.prog 20 #[.slice A2 a.length c2, .slice Aa a.length ca] W (BPost W.heap.size W true)) := fun A2 c2 W h h2 =>
    same_law A2 Aa a c2 ca W h2 (RA.out.below h (Nat.le_refl _)) hl
  have C5 : Hid (0 < (addM a b).length → ∀ A2 c2 W, Below w0.heap.size w0 W → ReadsV W A2 (addM a b) → Calls Tryd.prog 23 #[.slice Aa a.length ca, .slice A2 (addM a b).length c2] W (BPost W.heap.size W true)) := fun hp A2 c2 W h h2 => by
    obtain ⟨f1, _, f3⟩ := add_facts hp
    have h := leq_law Aa A2 a (addM a b) ca c2 W (RA.out.below h (Nat.le_refl _)) h2 hl (by rw [f1]; exact hl)
    rw [f3] at h
    exact h
  clear RA RB
  have hq : (addM a b).length * 8 ≤ 140737488351232 := by
    by_cases hp : 0 < (addM a b).length
    · rw [(add_facts hp).1]; exact hl
    · omega
  generalize hlen : (addM a b).length = l at *
  clear hlen
  generalize addM a b = S at *
  generalize a.length = n at *
  generalize b.length = m at *
  have Z : Hid (Below w0.heap.size w0 w0) := Below.refl _ _
  go_enter Tryd.func9, Tryd.ntmps9
  go_wp2_with fail
  rw [HW0.out]
  refine (C0.out w0).mono ?_
  rintro e w1 ⟨rfl, K1⟩
  have B1 := Lib.hid K1
  clear K1
  go_wp2_with fail
  refine (C1.out w1 B1.out).mono ?_
  rintro e w2 ⟨A2, c2, rfl, R2, K2⟩
  have B2 : Hid (Below w0.heap.size w0 w2) := B1.out.trans (K2.out.mono B1.out.size)
  clear K2
  by_cases hp : 0 < l
  · have D2 := Lib.hid (C2.out hp)
    have D5 := Lib.hid (C5.out hp)
    go_wp2_with fail
    refine (D2.out A2 c2 w2 B2.out R2.out).mono ?_
    rintro e w3 ⟨A3, c3, rfl, R3, K3⟩
    have B3 : Hid (Below w0.heap.size w0 w3) := B2.out.trans (K3.out.mono B2.out.size)
    have R3' : Hid (ReadsV w3 A2 S) := R2.out.below K3.out (Nat.le_refl _)
    clear K3
    go_wp2_with fail
    refine (C4.out A3 c3 w3 B3.out R3.out).mono ?_
    rintro e w4 ⟨rfl, K4⟩
    have B4 : Hid (Below w0.heap.size w0 w4) := B3.out.trans (K4.mono B3.out.size)
    have R4 : Hid (ReadsV w4 A2 S) := R3'.out.below K4 (Nat.le_refl _)
    clear K4
    go_wp2_with fail
    refine (D5.out A2 c2 w4 B4.out R4.out).mono ?_
    rintro e w5 ⟨rfl, K5⟩
    have B5 : Hid (Below w0.heap.size w0 w5) := B4.out.trans (K5.mono B4.out.size)
    clear K5
    go_wp2_with fail
    have q0 := (B5.out.cell hs0).trans p0
    have q1 := (B5.out.cell hs0).trans p1
    go_loopw [8] (fun q wr => ∃ k : Nat, k ≤ N ∧ q = .int .i64 k ∧ Hid (Below w0.heap.size w0 wr)) (fun q _ => N - (intOf q).toNat)
    case atStart => exact ⟨0, by omega, rfl, B5⟩
    case round =>
      obtain ⟨k, hk, rfl, BB⟩ := hrel
      have q0 := (BB.out.cell hs0).trans p0
      have q1 := (BB.out.cell hs0).trans p1
      by_cases hlt : k < N
      · have E1 := shift_full N k hlt
        have E2 := shift_zero N k hlt
        obtain ⟨E4, E3⟩ := shift_five N k hlt
        have T1 := Lib.hid (fun W => S0.out k N W (by omega) (by omega) (by omega) (by omega))
        have T2 := Lib.hid (fun W => S0.out k 0 W (by omega) (by omega) (by omega) (by omega))
        have T3 := Lib.hid (fun W => S0.out k 5 W (by omega) (by omega) (by omega) (by omega))
        have T4 := Lib.hid (fun W => S0.out (shiftV N k 5) (-5) W (by omega) (by omega) (by omega) (by omega))
        rw [E1] at T1
        rw [E2] at T2
        rw [E3] at T4
        clear E1 E2 E3 E4
        generalize shiftV N k 5 = s at *
        go_wp2_with fail
        go_region_held3 (fun w' => w'.cell? ⟨w.heap.size, 0, none⟩ = some (.string nm) ∧ w'.cell? ⟨w.heap.size, 1, none⟩ = some (.slice A0 N cap) ∧ Hid (Below w0.heap.size w0 w'))
          (first
            | exact ⟨q0, q1, BB.out.drew⟩
            | (go_split_ands
               refine ⟨(K2.cell ?_).trans ?_, (K2.cell ?_).trans ?_, ?_⟩
               · exact World.block_lt_of_cell? _ ⟨w.heap.size, 0, none⟩ (by assumption)
               · assumption
               · exact World.block_lt_of_cell? _ ⟨w.heap.size, 1, none⟩ (by assumption)
               · assumption
               · exact Below.trans (Hid.out (by assumption)) (K2.mono (Below.size (Hid.out (by assumption)))))
            | go_keep)
          (first
            | (go_at_call 18; ((with_reducible refine (T1.out _).mono ?_); rintro e w2 ⟨rfl, K2⟩))
            | (go_at_call 18; ((with_reducible refine (T2.out _).mono ?_); rintro e w2 ⟨rfl, K2⟩))
            | (go_at_call 18; ((with_reducible refine (T3.out _).mono ?_); rintro e w2 ⟨rfl, K2⟩))
            | (go_at_call 18; ((with_reducible refine (T4.out _).mono ?_); rintro e w2 ⟨rfl, K2⟩)))
        rename_i hHeld
        have DF := hHeld.2.2
        clear hHeld
        go_wp2
        go_roundw
        case rel => exact ⟨k + 1, by omega, by go_num, DF⟩
        case measure => simp [intOf]; omega
      · go_wp2_with fail
        refine (C3.out _).mono ?_
        rintro e w6 ⟨rfl, K6⟩
        go_wp2
        go_ret
        exact ⟨rfl, D0.out.trans ((BB.out.trans (K6.mono BB.out.size)).mono (Nat.le_of_lt hs0))⟩
  · go_wp2_with fail
    have q0 := (B2.out.cell hs0).trans p0
    have q1 := (B2.out.cell hs0).trans p1
    go_loopw [8] (fun q wr => ∃ k : Nat, k ≤ N ∧ q = .int .i64 k ∧ Hid (Below w0.heap.size w0 wr)) (fun q _ => N - (intOf q).toNat)
    case atStart => exact ⟨0, by omega, rfl, B2⟩
    case round =>
      obtain ⟨k, hk, rfl, BB⟩ := hrel
      have q0 := (BB.out.cell hs0).trans p0
      have q1 := (BB.out.cell hs0).trans p1
      by_cases hlt : k < N
      · have E1 := shift_full N k hlt
        have E2 := shift_zero N k hlt
        obtain ⟨E4, E3⟩ := shift_five N k hlt
        have T1 := Lib.hid (fun W => S0.out k N W (by omega) (by omega) (by omega) (by omega))
        have T2 := Lib.hid (fun W => S0.out k 0 W (by omega) (by omega) (by omega) (by omega))
        have T3 := Lib.hid (fun W => S0.out k 5 W (by omega) (by omega) (by omega) (by omega))
        have T4 := Lib.hid (fun W => S0.out (shiftV N k 5) (-5) W (by omega) (by omega) (by omega) (by omega))
        rw [E1] at T1
        rw [E2] at T2
        rw [E3] at T4
        clear E1 E2 E3 E4
        generalize shiftV N k 5 = s at *
        go_wp2_with fail
        go_region_held3 (fun w' => w'.cell? ⟨w.heap.size, 0, none⟩ = some (.string nm) ∧ w'.cell? ⟨w.heap.size, 1, none⟩ = some (.slice A0 N cap) ∧ Hid (Below w0.heap.size w0 w'))
          (first
            | exact ⟨q0, q1, BB.out.drew⟩
            | (go_split_ands
               refine ⟨(K2.cell ?_).trans ?_, (K2.cell ?_).trans ?_, ?_⟩
               · exact World.block_lt_of_cell? _ ⟨w.heap.size, 0, none⟩ (by assumption)
               · assumption
               · exact World.block_lt_of_cell? _ ⟨w.heap.size, 1, none⟩ (by assumption)
               · assumption
               · exact Below.trans (Hid.out (by assumption)) (K2.mono (Below.size (Hid.out (by assumption)))))
            | go_keep)
          (first
            | (go_at_call 18; ((with_reducible refine (T1.out _).mono ?_); rintro e w2 ⟨rfl, K2⟩))
            | (go_at_call 18; ((with_reducible refine (T2.out _).mono ?_); rintro e w2 ⟨rfl, K2⟩))
            | (go_at_call 18; ((with_reducible refine (T3.out _).mono ?_); rintro e w2 ⟨rfl, K2⟩))
            | (go_at_call 18; ((with_reducible refine (T4.out _).mono ?_); rintro e w2 ⟨rfl, K2⟩)))
        rename_i hHeld
        have DF := hHeld.2.2
        clear hHeld
        go_wp2
        go_roundw
        case rel => exact ⟨k + 1, by omega, by go_num, DF⟩
        case measure => simp [intOf]; omega
      · go_wp2_with fail
        refine (C3.out _).mono ?_
        rintro e w6 ⟨rfl, K6⟩
        go_wp2
        go_ret
        exact ⟨rfl, D0.out.trans ((BB.out.trans (K6.mono BB.out.size)).mono (Nat.le_of_lt hs0))⟩
end Go.Proofs.YthpbgdeeajhbjaaDoor
