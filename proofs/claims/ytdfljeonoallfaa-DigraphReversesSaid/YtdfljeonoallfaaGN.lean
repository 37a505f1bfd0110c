/- Graphs: small graphs that come in. -/
import Derived.Test.YtdfljeonoallfaaGE
import Derived.Test.YtdfljeonoallfaaGR
namespace Go.Proofs.Ytdfljeonoallfaa
open Go.RowKit Go.Deep

def FewG (L : List Row) (e : Ending) : Prop := ∃ b, e = .returned (.bool b) ∧ (b = true → L.length ≤ 12 ∧ ∀ v, v < L.length → (rA L v).zs.length ≤ 20)
theorem fewG_no (L : List Row) : FewG L (.returned (.bool false)) := ⟨false, rfl, fun h => by cases h⟩
theorem fewG_any {L : List Row} {b : Bool} (h : b = true → L.length ≤ 12 ∧ ∀ v, v < L.length → (rA L v).zs.length ≤ 20) : FewG L (.returned (.bool b)) := ⟨b, rfl, h⟩
set_option maxHeartbeats 2000000 in
set_option maxRecDepth 100000 in
theorem few_any (A : Option Addr) (L : List Row) (c : Nat) (w : World) (hr : RowsW w A L c) :
    Calls Try.prog 10 #[.slice A L.length c] w fun e w' => FewG L e ∧ Below w.heap.size w w' := by
  have HC := Lib.hid hr.cells
  have HL : Hid (∀ v, v < L.length → (rA L v).zs.length ≤ 9223372036854775807) := fun v hv => by
    have h := (hr.rows _ (rA_mem hv)).2.1
    unfold maxLen at h
    omega
  have hlen := hr.len
  unfold maxLen at hlen
  clear hr
  obtain ⟨n, hn⟩ : ∃ n, n = L.length := ⟨_, rfl⟩
  rw [← hn] at HL hlen ⊢
  have HN := Lib.hid hn
  clear hn
  have W0 : Hid (Below w.heap.size w w) := Below.refl _ _
  have F0 : Hid (∀ v, v < 0 → (rA L v).zs.length ≤ 20) := fun v hv => absurd hv (by omega)
  go_enter Try.func10, Try.ntmps10
  go_wp2_with fail
  go_loopw [3] (fun q wr => ∃ k : Nat, k ≤ n ∧ k ≤ 13 ∧ q = .int .i64 (k : Nat) ∧ Hid (∀ v, v < k → (rA L v).zs.length ≤ 20) ∧ Hid (Below w.heap.size w wr)) (fun q _ => 13 - (intOf q).toNat)
  case atStart => exact ⟨0, by omega, by omega, rfl, F0, W0⟩
  case round =>
    clear F0 W0
    obtain ⟨k, hk, hk13, rfl, HX, BW⟩ := hrel
    by_cases hlt : k < n
    · by_cases h13 : k < 13
      · obtain ⟨b, off, rfl, _, c0⟩ := (HC.out.below BW.out (Nat.le_refl _)) k (by rw [← HN.out]; exact hlt)
        unfold Row.v at c0
        have hlk := HL.out k hlt
        have HS : Hid ((rA L k).zs.length ≤ 20 → ∀ v, v < k + 1 → (rA L v).zs.length ≤ 20) := fun h v hv => by
          by_cases e : v = k
          · rw [e]; exact h
          · exact HX.out v (by omega)
        clear HX HL
        generalize (rA L k).zs.length = m at *
        by_cases hm : 20 < m
        · clear HS
          go_wp2
          go_ret
          exact ⟨fewG_no L, BW.out⟩
        · have H2 := Lib.hid (HS.out (by omega))
          clear HS
          go_wp2
          go_roundw
          case rel => exact ⟨k + 1, by omega, by omega, by go_num, H2, BW⟩
          case measure => simp [intOf]; omega
      · have hd : decide ((n : Int) ≤ 12) = false := decide_eq_false (by omega)
        clear HX HL
        go_wp2
        go_ret
        exact ⟨by first | exact fewG_no L | (rw [hd]; exact fewG_no L), BW.out⟩
    · obtain rfl : k = n := by omega
      by_cases h12 : k ≤ 12
      · have FIN : Hid (L.length ≤ 12 ∧ ∀ v, v < L.length → (rA L v).zs.length ≤ 20) := ⟨by rw [← HN.out]; exact h12, fun v hv => HX.out v (by rw [HN.out]; exact hv)⟩
        clear HX HL
        go_wp2
        go_ret
        exact ⟨fewG_any fun _ => FIN.out, BW.out⟩
      · have hd : decide ((k : Int) ≤ 12) = false := decide_eq_false (by omega)
        clear HX HL h12
        go_wp2
        go_ret
        exact ⟨by first | exact fewG_no L | (rw [hd]; exact fewG_no L), BW.out⟩
theorem graph_rows {w : World} {A : Option Addr} {L : List Row} {c : Nat} (hr : RowsW w A L c) (h1 : L.length ≤ 12) (h2 : ∀ v, v < L.length → (rA L v).zs.length ≤ 20) : GraphR w A L.length (fun i => (rA L i).A) (fun i => (rA L i).zs) (fun i => (rA L i).cap) where
  hn := by omega
  row := fun i hi => hr.cells i hi
  rd := fun i hi => (hr.rows _ (rA_mem hi)).1
  ll := fun i hi => by have := h2 i hi; omega
theorem RowsW.below {w w' : World} {A : Option Addr} {L : List Row} {c : Nat} (h : RowsW w A L c) (hb : Below w.heap.size w w') : RowsW w' A L c :=
  ⟨h.nz, h.len, h.cells.below hb (Nat.le_refl _), fun r hr => ⟨(h.rows r hr).1.below hb (Nat.le_refl _), (h.rows r hr).2⟩⟩
end Go.Proofs.Ytdfljeonoallfaa
