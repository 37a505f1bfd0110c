/- Bounded natural solutions: rows in memory, and the program's Check. -/
import Derived.Test.YtneediihponfiaaNB
namespace Go.Proofs.Ytneediihponfiaa
open Go.RowKit

structure Row where
  A : Option Addr
  zs : List Int
  cap : Nat
instance : Inhabited Row := ⟨⟨none, [], 0⟩⟩
def Row.v (r : Row) : Value := .slice r.A r.zs.length r.cap
def OkR (w : World) (r : Row) : Prop := ReadsV w r.A r.zs ∧ r.zs.length ≤ 1000
def rowsL (L : List Row) : List (List Int) := L.map Row.zs
def rA (L : List Row) (j : Nat) : Row := L[j]?.getD ⟨none, [], 0⟩
def CellsL (w : World) (A : Option Addr) (L : List Row) : Prop :=
  ∀ j, j < L.length → ∃ b off, A = some ⟨b, off, none⟩ ∧ b < w.heap.size ∧ w.cell? ⟨b, off + j, none⟩ = some (rA L j).v
def ReadsL (w : World) (A : Option Addr) (L : List Row) : Prop := CellsL w A L ∧ ∀ r ∈ L, OkR w r
theorem rowsL_len (L : List Row) : (rowsL L).length = L.length := by simp [rowsL]
theorem rA_mem {L : List Row} {j : Nat} (h : j < L.length) : rA L j ∈ L := by
  unfold rA
  rw [List.getElem?_eq_getElem h]
  exact List.getElem_mem h
theorem rA_get {L : List Row} {j : Nat} (h : j < L.length) : (rowsL L)[j]'(by rw [rowsL_len]; exact h) = (rA L j).zs := by
  unfold rA rowsL
  rw [List.getElem?_eq_getElem h]
  simp
theorem rowsL_take (L : List Row) (k : Nat) : rowsL (L.take k) = (rowsL L).take k := by simp [rowsL, List.map_take]
theorem rowsL_snoc (L : List Row) (r : Row) : rowsL (L ++ [r]) = rowsL L ++ [r.zs] := by simp [rowsL]
theorem rowsL_all (L : List Row) : (rowsL L).take L.length = rowsL L := by rw [← rowsL_len L, List.take_length]
theorem OkR.below {w w' : World} {r : Row} {B : Nat} (h : OkR w r) (hb : Below B w w') (hB : w.heap.size ≤ B) : OkR w' r := ⟨h.1.below hb hB, h.2⟩
theorem CellsL.below {w w' : World} {A : Option Addr} {L : List Row} {B : Nat} (h : CellsL w A L) (hb : Below B w w') (hB : w.heap.size ≤ B) : CellsL w' A L := fun j hj => by
  obtain ⟨b, off, e, h1, h2⟩ := h j hj
  exact ⟨b, off, e, Nat.lt_of_lt_of_le h1 hb.size, (hb.cell (p := ⟨b, off + j, none⟩) (Nat.lt_of_lt_of_le h1 hB)).trans h2⟩
theorem ReadsL.below {w w' : World} {A : Option Addr} {L : List Row} {B : Nat} (h : ReadsL w A L) (hb : Below B w w') (hB : w.heap.size ≤ B) : ReadsL w' A L :=
  ⟨h.1.below hb hB, fun r hr => (h.2 r hr).below hb hB⟩
theorem CellsL.at {w : World} {A : Option Addr} {L : List Row} (h : CellsL w A L) (k : Nat) (hk : k < L.length) : ∃ b off, A = some ⟨b, off, none⟩ ∧ w.cell? ⟨b, off + k, none⟩ = some (.slice (rA L k).A (rA L k).zs.length (rA L k).cap) := by
  obtain ⟨b, off, e, _, h2⟩ := h k hk
  exact ⟨b, off, e, h2⟩
theorem ReadsL.nil (w : World) (A : Option Addr) : ReadsL w A [] := ⟨fun _ h => absurd h (by simp), fun _ h => by cases h⟩

def badR1 (m : Nat) (L : List Row) (k : Nat) : Bool := decide ((rA L k).zs.length ≠ m)
def badR2 (L : List Row) (k : Nat) : Bool := !withB (rA L k).zs (-10000) 10000
theorem clos_r1 (A : Option Addr) (n c : Nat) (w : World) (p : Nat) (U : Option Addr) (m cu : Nat) (hp : w.cell? ⟨p, 0, none⟩ = some (.slice U m cu)) :
    Calls Try.prog 23 #[.slice A n c, .pointer (some ⟨p, 0, none⟩)] w fun e w' => e = .returned (.bool (decide (n ≠ m))) ∧ Below w.heap.size w w' := by
  by_cases h : n = m
  · have z : decide (n ≠ m) = false := by simpa using h
    have z2 : ((n : Int) != (m : Int)) = false := by simp; omega
    rw [z]
    clear h z
    go_enter Try.func23, Try.ntmps23
    go_wp2
    go_ret
    exact ⟨rfl, Below.refl _ _⟩
  · have z : decide (n ≠ m) = true := by simpa using h
    have z2 : ((n : Int) != (m : Int)) = true := by simp; omega
    rw [z]
    clear h z
    go_enter Try.func23, Try.ntmps23
    go_wp2
    go_ret
    exact ⟨rfl, Below.refl _ _⟩
theorem clos_r2 (A : Option Addr) (zs : List Int) (c : Nat) (w : World) (hr : ReadsV w A zs) (hl : zs.length ≤ 1000) :
    Calls Try.prog 25 #[.slice A zs.length c] w fun e w' => e = .returned (.bool (!withB zs (-10000) 10000)) ∧ Below w.heap.size w w' := by
  have C := within_any A zs c (-10000) 10000 w hr (by omega)
  generalize withB zs (-10000) 10000 = b at *
  generalize zs.length = n at *
  clear hr
  replace C := Lib.hid C
  go_enter Try.func25, Try.ntmps25
  go_wp2_with fail
  refine C.out.mono ?_
  rintro e w2 ⟨rfl, K⟩
  have K := Lib.hid K
  cases b
  · go_wp2
    go_ret
    exact ⟨rfl, K.out⟩
  · go_wp2
    go_ret
    exact ⟨rfl, K.out⟩

set_option maxHeartbeats 2000000 in
theorem r_index1 (A : Option Addr) (L : List Row) (c : Nat) (w : World) (hr : ReadsL w A L) (hl : L.length ≤ 1000) (p : Nat) (U : Option Addr) (m cu : Nat) (hp : w.cell? ⟨p, 0, none⟩ = some (.slice U m cu)) :
    Calls Try.prog 29 #[.slice A L.length c, .func (.func 23) #[] #[.pointer (some ⟨p, 0, none⟩)]] w fun e w' => e = .returned (.int .i64 (firstI (badR1 m L) L.length 0)) ∧ Below w.heap.size w w' := by
  have hD : ∀ k, k < L.length → (∀ j, j < k → badR1 m L j = false) → badR1 m L k = true → (k : Int) = firstI (badR1 m L) L.length 0 := fun k h1 h2 h3 => (firstI_at h1 h2 h3).symm
  have hN : (∀ j, j < L.length → badR1 m L j = false) → -1 = firstI (badR1 m L) L.length 0 := fun h => (firstI_none h).symm
  generalize firstI (badR1 m L) L.length 0 = S at *
  have HD := Lib.hid hD
  have HNo := Lib.hid hN
  have HC : Hid (∀ k W, k < L.length → Below w.heap.size w W → Calls Try.prog 23 #[.slice (rA L k).A (rA L k).zs.length (rA L k).cap, .pointer (some ⟨p, 0, none⟩)] W fun e w' => e = .returned (.bool (badR1 m L k)) ∧ Below W.heap.size W w') := fun k W hk hW => clos_r1 _ _ _ W p U m cu (keepc hp hW)
  have HR : Hid (∀ k W, k < L.length → Below w.heap.size w W → ∃ b off, A = some ⟨b, off, none⟩ ∧ W.cell? ⟨b, off + k, none⟩ = some (.slice (rA L k).A (rA L k).zs.length (rA L k).cap)) := fun k W hk hW => (hr.below hW (Nat.le_refl _)).1.at k hk
  clear hr hD hN hp
  generalize hn : L.length = n at *
  clear hn
  go_enter Try.func29, Try.ntmps29
  go_wp2_with fail
  go_loopw [8] (fun q wr => ∃ k : Nat, k ≤ n ∧ q = .int .i64 k ∧ Hid (∀ j, j < k → badR1 m L j = false) ∧ Hid (Below w.heap.size w wr)) (fun q _ => n - (intOf q).toNat)
  case atStart => exact ⟨0, by omega, rfl, fun j hj => absurd hj (by omega), Below.refl _ _⟩
  case round =>
    obtain ⟨k, hk, rfl, HM, HB⟩ := hrel
    by_cases hlt : k < n
    · obtain ⟨b0, off, rfl, hc0⟩ := HR.out k wr hlt HB.out
      have HT := Lib.hid (HD.out k hlt HM.out)
      have HF : Hid (badR1 m L k = false → ∀ j, j < k + 1 → badR1 m L j = false) := upto_snoc HM.out
      have C := HC.out k wr hlt HB.out
      clear HM
      generalize badR1 m L k = t at *
      generalize rA L k = row at *
      replace C := Lib.hid C
      cases t
      · have HF2 := Lib.hid (HF.out rfl)
        go_wp2_with fail
        refine C.out.mono ?_
        rintro e w2 ⟨rfl, K⟩
        have HB2 := Lib.hid (HB.out.trans (K.mono HB.out.size))
        clear K hc0
        go_wp2
        go_roundw
        case rel => exact ⟨k + 1, by omega, by go_num, HF2, HB2⟩
        case measure => simp [intOf]; omega
      · have HT2 := Lib.hid (HT.out rfl)
        go_wp2_with fail
        refine C.out.mono ?_
        rintro e w2 ⟨rfl, K⟩
        have HB2 := Lib.hid (HB.out.trans (K.mono HB.out.size))
        clear K hc0
        go_wp2
        go_ret
        exact ⟨ret_i HT2.out, HB2.out⟩
    · have E := Lib.hid (HNo.out (fun j hj => HM.out j (by omega)))
      clear HM
      go_wp2
      go_ret
      exact ⟨ret_i E.out, HB.out⟩
theorem r_contains1 (A : Option Addr) (L : List Row) (c : Nat) (w : World) (hr : ReadsL w A L) (hl : L.length ≤ 1000) (p : Nat) (U : Option Addr) (m cu : Nat) (hp : w.cell? ⟨p, 0, none⟩ = some (.slice U m cu)) :
    Calls Try.prog 22 #[.slice A L.length c, .func (.func 23) #[] #[.pointer (some ⟨p, 0, none⟩)]] w fun e w' => e = .returned (.bool (anyB (badR1 m L) L.length)) ∧ Below w.heap.size w w' := by
  have C := r_index1 A L c w hr hl p U m cu hp
  unfold anyB
  generalize firstI (badR1 m L) L.length 0 = S at *
  generalize L.length = n at *
  clear hr hp
  replace C := Lib.hid C
  go_enter Try.func22, Try.ntmps22
  go_wp2_with fail
  refine C.out.mono ?_
  rintro e w2 ⟨rfl, K⟩
  have K := Lib.hid K
  by_cases q : 0 ≤ S
  · have q2 : decide (0 ≤ S) = true := by simpa using q
    have q3 := Lib.hid q2
    go_wp2
    go_ret
    exact ⟨ret_b q3.out.symm, K.out⟩
  · have q2 : decide (0 ≤ S) = false := by simpa using q
    have q3 := Lib.hid q2
    go_wp2
    go_ret
    exact ⟨ret_b q3.out.symm, K.out⟩

set_option maxHeartbeats 2000000 in
theorem r_index2 (A : Option Addr) (L : List Row) (c : Nat) (w : World) (hr : ReadsL w A L) (hl : L.length ≤ 1000) :
    Calls Try.prog 29 #[.slice A L.length c, .func (.func 25) #[] #[]] w fun e w' => e = .returned (.int .i64 (firstI (badR2 L) L.length 0)) ∧ Below w.heap.size w w' := by
  have hD : ∀ k, k < L.length → (∀ j, j < k → badR2 L j = false) → badR2 L k = true → (k : Int) = firstI (badR2 L) L.length 0 := fun k h1 h2 h3 => (firstI_at h1 h2 h3).symm
  have hN : (∀ j, j < L.length → badR2 L j = false) → -1 = firstI (badR2 L) L.length 0 := fun h => (firstI_none h).symm
  generalize firstI (badR2 L) L.length 0 = S at *
  have HD := Lib.hid hD
  have HNo := Lib.hid hN
  have HC : Hid (∀ k W, k < L.length → Below w.heap.size w W → Calls Try.prog 25 #[.slice (rA L k).A (rA L k).zs.length (rA L k).cap] W fun e w' => e = .returned (.bool (badR2 L k)) ∧ Below W.heap.size W w') := fun k W hk hW => clos_r2 _ _ _ W ((hr.below hW (Nat.le_refl _)).2 _ (rA_mem hk)).1 ((hr.below hW (Nat.le_refl _)).2 _ (rA_mem hk)).2
  have HR : Hid (∀ k W, k < L.length → Below w.heap.size w W → ∃ b off, A = some ⟨b, off, none⟩ ∧ W.cell? ⟨b, off + k, none⟩ = some (.slice (rA L k).A (rA L k).zs.length (rA L k).cap)) := fun k W hk hW => (hr.below hW (Nat.le_refl _)).1.at k hk
  clear hr hD hN 
  generalize hn : L.length = n at *
  clear hn
  go_enter Try.func29, Try.ntmps29
  go_wp2_with fail
  go_loopw [8] (fun q wr => ∃ k : Nat, k ≤ n ∧ q = .int .i64 k ∧ Hid (∀ j, j < k → badR2 L j = false) ∧ Hid (Below w.heap.size w wr)) (fun q _ => n - (intOf q).toNat)
  case atStart => exact ⟨0, by omega, rfl, fun j hj => absurd hj (by omega), Below.refl _ _⟩
  case round =>
    obtain ⟨k, hk, rfl, HM, HB⟩ := hrel
    by_cases hlt : k < n
    · obtain ⟨b0, off, rfl, hc0⟩ := HR.out k wr hlt HB.out
      have HT := Lib.hid (HD.out k hlt HM.out)
      have HF : Hid (badR2 L k = false → ∀ j, j < k + 1 → badR2 L j = false) := upto_snoc HM.out
      have C := HC.out k wr hlt HB.out
      clear HM
      generalize badR2 L k = t at *
      generalize rA L k = row at *
      replace C := Lib.hid C
      cases t
      · have HF2 := Lib.hid (HF.out rfl)
        go_wp2_with fail
        refine C.out.mono ?_
        rintro e w2 ⟨rfl, K⟩
        have HB2 := Lib.hid (HB.out.trans (K.mono HB.out.size))
        clear K hc0
        go_wp2
        go_roundw
        case rel => exact ⟨k + 1, by omega, by go_num, HF2, HB2⟩
        case measure => simp [intOf]; omega
      · have HT2 := Lib.hid (HT.out rfl)
        go_wp2_with fail
        refine C.out.mono ?_
        rintro e w2 ⟨rfl, K⟩
        have HB2 := Lib.hid (HB.out.trans (K.mono HB.out.size))
        clear K hc0
        go_wp2
        go_ret
        exact ⟨ret_i HT2.out, HB2.out⟩
    · have E := Lib.hid (HNo.out (fun j hj => HM.out j (by omega)))
      clear HM
      go_wp2
      go_ret
      exact ⟨ret_i E.out, HB.out⟩
theorem r_contains2 (A : Option Addr) (L : List Row) (c : Nat) (w : World) (hr : ReadsL w A L) (hl : L.length ≤ 1000) :
    Calls Try.prog 22 #[.slice A L.length c, .func (.func 25) #[] #[]] w fun e w' => e = .returned (.bool (anyB (badR2 L) L.length)) ∧ Below w.heap.size w w' := by
  have C := r_index2 A L c w hr hl
  unfold anyB
  generalize firstI (badR2 L) L.length 0 = S at *
  generalize L.length = n at *
  clear hr 
  replace C := Lib.hid C
  go_enter Try.func22, Try.ntmps22
  go_wp2_with fail
  refine C.out.mono ?_
  rintro e w2 ⟨rfl, K⟩
  have K := Lib.hid K
  by_cases q : 0 ≤ S
  · have q2 : decide (0 ≤ S) = true := by simpa using q
    have q3 := Lib.hid q2
    go_wp2
    go_ret
    exact ⟨ret_b q3.out.symm, K.out⟩
  · have q2 : decide (0 ≤ S) = false := by simpa using q
    have q3 := Lib.hid q2
    go_wp2
    go_ret
    exact ⟨ret_b q3.out.symm, K.out⟩
end Go.Proofs.Ytneediihponfiaa
