/- The reference's search, and the check of a color set whose list may be nil. -/
import Derived.Test.YthpbgdeeajhbjaaDoorF
namespace Go.Proofs.YthpbgdeeajhbjaaDoor
open Go.RowKit Go.Maps Go.WideMaps

def ReadsSO (w : World) (A : Option Addr) (L : List ByteArray) : Prop := ∀ k, k < L.length → ∃ p, A = some p ∧ p.block < w.heap.size ∧ w.cell? (p.add k) = some (.string (L[k]?.getD ByteArray.empty))
theorem ReadsSO.below {w w' : World} {A : Option Addr} {L : List ByteArray} {B : Nat} (h : ReadsSO w A L) (hb : Below B w w') (hB : w.heap.size ≤ B) : ReadsSO w' A L := fun k hk => by
  obtain ⟨p, hp, h1, h2⟩ := h k hk
  refine ⟨p, hp, Nat.lt_of_lt_of_le h1 hb.size, ?_⟩
  rw [hb.cell (p := p.add k) (by unfold Addr.add; split <;> exact Nat.lt_of_lt_of_le h1 hB)]
  exact h2

def findI (v : ByteArray) : List ByteArray → Int → Int
  | [], _ => -1
  | x :: r, i => if x.data = v.data then i else findI v r (i + 1)
theorem findI_step {L : List ByteArray} {v x : ByteArray} {k : Nat} (hk : k < L.length) (hx : L[k]?.getD ByteArray.empty = x) (i : Int) :
    findI v (L.drop k) i = if x.data = v.data then i else findI v (L.drop (k + 1)) (i + 1) := by
  rw [List.drop_eq_getElem_cons hk]
  rw [List.getElem?_eq_getElem hk] at hx
  simp only [Option.getD_some] at hx
  rw [findI, hx]
theorem findI_end {L : List ByteArray} {v : ByteArray} {k : Nat} (hk : ¬ k < L.length) (i : Int) : findI v (L.drop k) i = -1 := by
  rw [List.drop_of_length_le (by omega)]
  rfl
theorem ext_data {a b : ByteArray} (h : a.data = b.data) : a = b := by
  cases a; cases b; simpa using h

set_option maxHeartbeats 1000000 in
theorem rfind_any (nm v : ByteArray) (A : Option Addr) (L : List ByteArray) (cap : Nat) (w : World) (hr : ReadsSO w A L) (hl : L.length ≤ maxLen) :
    Calls Tryd.prog 17 #[.agg #[.string nm, .slice A L.length cap], .string v] w fun e w' => e = .returned (.int .i64 (findI v L 0)) ∧ Below w.heap.size w w' := by
  unfold maxLen at hl
  generalize hS : findI v L 0 = S
  have HS := Lib.hid hS
  clear hS
  generalize hg : w.heap.size = g
  have HG := Lib.hid hg
  clear hg
  have HR := Lib.hid hr
  clear hr
  go_enter Tryd.func17, Tryd.ntmps17
  go_wp2
  have HR1 : Hid (ReadsSO (w.alloc (.cells #[.string nm, .slice A L.length cap] 26)) A L) := HR.out.below ((Below.refl w.heap.size _).alloc (Nat.le_refl _) _) (Nat.le_refl _)
  have K : Hid (Below g w (w.alloc (.cells #[.string nm, .slice A L.length cap] 26))) := (Below.refl g _).alloc (by rw [HG.out]; exact Nat.le_refl _) _
  go_loop [5] (fun q => ∃ k : Nat, k ≤ L.length ∧ q = .int .i64 k ∧ Hid (findI v (L.drop k) k = S)) (fun q => L.length - (intOf q).toNat)
  case atStart => exact ⟨0, by omega, rfl, HS.out⟩
  case round =>
    obtain ⟨k, hk, rfl, HF⟩ := hrel
    by_cases hlt : k < L.length
    · obtain ⟨x, hx⟩ : ∃ x, L[k]?.getD ByteArray.empty = x := ⟨_, rfl⟩
      obtain ⟨p, hp, _, hcx⟩ := HR1.out k hlt
      rw [hx] at hcx
      subst hp
      have HF2 := HF.out
      rw [findI_step hlt hx] at HF2
      clear hx HF
      by_cases hv : x.data = v.data
      · rw [if_pos hv] at HF2
        obtain rfl := ext_data hv
        have E := Lib.hid HF2
        clear HF2 hv
        go_wp2
        go_ret
        exact ⟨ret_i E.out, K.out⟩
      · rw [if_neg hv] at HF2
        have hne : (x.toList == v.toList) = false := by
          rw [beq_eq_false_iff_ne, ByteArray.toList_eq, ByteArray.toList_eq]
          exact fun h => hv (Array.toList_inj.1 h)
        have E := Lib.hid HF2
        clear HF2 hv
        go_wp2
        go_round
        case rel => exact ⟨k + 1, by omega, by go_num, E⟩
        case measure => simp [intOf]; omega
    · have E : Hid (-1 = S) := by
        show _ = _
        rw [← HF.out, findI_end hlt]
      go_wp2
      go_ret
      exact ⟨ret_i E.out, K.out⟩
end Go.Proofs.YthpbgdeeajhbjaaDoor
