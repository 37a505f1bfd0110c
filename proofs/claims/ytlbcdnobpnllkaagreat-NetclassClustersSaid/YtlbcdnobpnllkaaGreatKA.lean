/- Classes of nets: lists of numbers under closures. -/
import Derived.Test.YtlbcdnobpnllkaaGreatMF
import Derived.Test.YtlbcdnobpnllkaaGreatShelf
namespace Go.Proofs.YtlbcdnobpnllkaaGreat
open Go.RowKit Go.Deep

def NBox (W : World) (x : Nat) (n : NetV) : Prop := W.cell? ⟨x, 0, none⟩ = some (.string n.nm) ∧ W.cell? ⟨x, 1, none⟩ = some (.slice n.PA n.ps.length n.pc) ∧ W.cell? ⟨x, 2, none⟩ = some (.slice n.TA n.ts.length n.tc)
theorem NBox.below {W W' : World} {x B : Nat} {n : NetV} (h : NBox W x n) (hb : Below B W W') (hx : x < B) : NBox W' x n := ⟨(hb.cell (by exact hx)).trans h.1, (hb.cell (by exact hx)).trans h.2.1, (hb.cell (by exact hx)).trans h.2.2⟩
theorem NBox.new (w : World) (n : NetV) : NBox (w.alloc (.cells #[.string n.nm, .slice n.PA n.ps.length n.pc, .slice n.TA n.ts.length n.tc] 25)) w.heap.size n := ⟨by simp, by simp, by simp⟩
theorem has_any (A : Option Addr) (L : List Int) (c : Nat) (x : Int) (w : World) (R : ReadsV w A L) (hl : L.length ≤ 1000000) :
    Calls Tryz.prog 105 #[.slice A L.length c, .int .i64 x] w fun e w' => e = .returned (.bool (L.contains x)) ∧ w' = w := by
  by_cases h0 : L.length = 0
  · have h := Tryz.slices_Contains_int_empty A c x w
    obtain rfl : L = [] := List.eq_nil_of_length_eq_zero h0
    exact h
  · obtain ⟨b, off, rfl, _, _⟩ := R 0 (by omega)
    have h := Tryz.slices_Contains_int b off L.length c L x w (Nat.le_refl _) (by omega) fun j hj => by
      obtain ⟨b', off', e', _, h2⟩ := R j hj
      injection e' with e'
      injection e' with e1 e2
      subst e1 e2
      rw [h2]
      simp [at0]
    rw [List.take_length] at h
    exact h

set_option maxHeartbeats 1000000 in
theorem clos_common (x : Int) (b : Nat) (B : Option Addr) (m : List Int) (c : Nat) (w : World) (hc : w.cell? ⟨b, 0, none⟩ = some (.slice B m.length c)) (R : ReadsV w B m) (hl : m.length ≤ 1000) :
    Calls Tryz.prog 106 #[.int .i64 x, .pointer (some ⟨b, 0, none⟩)] w (VPost w.heap.size w (.bool (m.contains x))) := by
  have C := Lib.hid (has_any B m c x w R (by omega))
  clear R
  generalize m.contains x = t at *
  go_enter Tryz.func106, Tryz.ntmps106
  go_wp2_with fail
  refine C.out.mono ?_
  rintro e w1 ⟨rfl, rfl⟩
  go_wp2
  go_ret
  exact ⟨rfl, Below.refl _ _⟩

set_option maxHeartbeats 2000000 in
set_option maxRecDepth 100000 in
theorem common_index (A : Option Addr) (l : List Int) (c : Nat) (b : Nat) (B : Option Addr) (m : List Int) (cm : Nat) (w : World) (hr : ReadsV w A l) (hl : l.length ≤ 1000) (hcm : w.cell? ⟨b, 0, none⟩ = some (.slice B m.length cm)) (hrm : ReadsV w B m) (hlm : m.length ≤ 1000) :
    Calls Tryz.prog 88 #[.slice A l.length c, .func (.func 106) #[] #[.pointer (some ⟨b, 0, none⟩)]] w (VPost w.heap.size w (.int .i64 (firstI (fun j => m.contains (at0 l j)) l.length 0))) := by
  have hD : ∀ k, k < l.length → (∀ j, j < k → (fun j => m.contains (at0 l j)) j = false) → (fun j => m.contains (at0 l j)) k = true → (k : Int) = firstI (fun j => m.contains (at0 l j)) l.length 0 := fun k h1 h2 h3 => (firstI_at h1 h2 h3).symm
  have hN : (∀ j, j < l.length → (fun j => m.contains (at0 l j)) j = false) → -1 = firstI (fun j => m.contains (at0 l j)) l.length 0 := fun h => (firstI_none h).symm
  have hF : ∀ k, (fun j => m.contains (at0 l j)) k = m.contains (at0 l k) := fun _ => rfl
  generalize firstI (fun j => m.contains (at0 l j)) l.length 0 = S at *
  generalize (fun j => m.contains (at0 l j)) = F at *
  have HD := Lib.hid hD
  have HNo := Lib.hid hN
  have HFF := Lib.hid hF
  have HR := Lib.hid hr
  have CC : Hid (∀ x W, Below w.heap.size w W → Calls Tryz.prog 106 #[.int .i64 x, .pointer (some ⟨b, 0, none⟩)] W (VPost W.heap.size W (.bool (m.contains (x))))) := fun x W hW => clos_common x b B m cm W ((hW.cell (World.block_lt_of_cell? w ⟨b, 0, none⟩ hcm)).trans hcm) (hrm.below hW (Nat.le_refl _)) hlm
  clear hr hD hN hF
  generalize hg : w.heap.size = g at *
  have HG := Lib.hid hg
  clear hg
  generalize hn : l.length = n at *
  have HN := Lib.hid hn
  clear hn
  go_enter Tryz.func88, Tryz.ntmps88
  go_wp2
  go_loopw [8] (fun q wr => ∃ k : Nat, k ≤ n ∧ q = .int .i64 k ∧ Hid (Below g w wr) ∧ Hid (∀ j, j < k → F j = false)) (fun q _ => n - (intOf q).toNat)
  case atStart => exact ⟨0, by omega, rfl, Below.refl _ _, fun j hj => absurd hj (by omega)⟩
  case round =>
    obtain ⟨k, hk, rfl, HB, HM⟩ := hrel
    have HBk : Hid (∀ w2, Below wr.heap.size wr w2 → Below g w w2) := fun w2 h => HB.out.trans (h.mono (by have := HB.out.size; rw [HG.out] at this; exact this))
    by_cases hlt : k < n
    · obtain ⟨b0, off, rfl, hb0, hc0⟩ := (HR.out.below HB.out (by rw [HG.out]; exact Nat.le_refl _)) k (by rw [HN.out]; exact hlt)
      have HT := Lib.hid (HD.out k hlt HM.out)
      have HF : Hid (F k = false → ∀ j, j < k + 1 → F j = false) := upto_snoc HM.out
      have C := Lib.hid (CC.out (at0 l k) wr HB.out)
      have HQ := Lib.hid (HFF.out k)
      clear HM CC
      generalize at0 l k = x at *
      generalize (m.contains (x)) = t at *
      cases t
      · have HF2 := Lib.hid (HF.out HQ.out)
        go_wp2_with fail
        refine C.out.mono ?_
        rintro e w2 ⟨rfl, K⟩
        have K2 := Lib.hid (HBk.out _ K)
        clear K
        go_wp2
        go_roundw
        case rel => exact ⟨k + 1, by omega, by go_num, K2, HF2⟩
        case measure => simp [intOf]; omega
      · have HT2 := Lib.hid (HT.out HQ.out)
        go_wp2_with fail
        refine C.out.mono ?_
        rintro e w2 ⟨rfl, K⟩
        have K2 := Lib.hid (HBk.out _ K)
        clear K
        go_wp2
        go_ret
        exact ⟨ret_i HT2.out, K2.out⟩
    · have E := Lib.hid (HNo.out (fun j hj => HM.out j (by omega)))
      clear HM
      go_wp2
      go_ret
      exact ⟨ret_i E.out, HB.out⟩
set_option maxHeartbeats 1000000 in
theorem common_contains (A : Option Addr) (l : List Int) (c : Nat) (b : Nat) (B : Option Addr) (m : List Int) (cm : Nat) (w : World) (hr : ReadsV w A l) (hl : l.length ≤ 1000) (hcm : w.cell? ⟨b, 0, none⟩ = some (.slice B m.length cm)) (hrm : ReadsV w B m) (hlm : m.length ≤ 1000) :
    Calls Tryz.prog 47 #[.slice A l.length c, .func (.func 106) #[] #[.pointer (some ⟨b, 0, none⟩)]] w (VPost w.heap.size w (.bool (anyB (fun j => m.contains (at0 l j)) l.length))) := by
  have C := common_index A l c b B m cm w hr hl hcm hrm hlm
  unfold anyB
  generalize firstI (fun j => m.contains (at0 l j)) l.length 0 = S at *
  generalize l.length = n at *
  clear hr
  replace C := Lib.hid C
  go_enter Tryz.func47, Tryz.ntmps47
  go_wp2_with fail
  refine C.out.mono ?_
  rintro e w2 ⟨rfl, K⟩
  have K2 := Lib.hid K
  clear K
  by_cases q : 0 ≤ S
  · have q2 : decide (0 ≤ S) = true := by simpa using q
    have q3 := Lib.hid q2
    go_wp2
    go_ret
    exact ⟨ret_b q3.out.symm, K2.out⟩
  · have q2 : decide (0 ≤ S) = false := by simpa using q
    have q3 := Lib.hid q2
    go_wp2
    go_ret
    exact ⟨ret_b q3.out.symm, K2.out⟩

set_option maxHeartbeats 1000000 in
theorem clos_among (x : Int) (b : Nat) (B : Option Addr) (m : List Int) (c : Nat) (w : World) (hc : w.cell? ⟨b, 0, none⟩ = some (.slice B m.length c)) (R : ReadsV w B m) (hl : m.length ≤ 1000) :
    Calls Tryz.prog 104 #[.int .i64 x, .pointer (some ⟨b, 0, none⟩)] w (VPost w.heap.size w (.bool (!m.contains x))) := by
  have C := Lib.hid (has_any B m c x w R (by omega))
  clear R
  generalize m.contains x = t at *
  go_enter Tryz.func104, Tryz.ntmps104
  go_wp2_with fail
  refine C.out.mono ?_
  rintro e w1 ⟨rfl, rfl⟩
  go_wp2
  go_ret
  exact ⟨rfl, Below.refl _ _⟩

set_option maxHeartbeats 2000000 in
set_option maxRecDepth 100000 in
theorem among_index (A : Option Addr) (l : List Int) (c : Nat) (b : Nat) (B : Option Addr) (m : List Int) (cm : Nat) (w : World) (hr : ReadsV w A l) (hl : l.length ≤ 1000) (hcm : w.cell? ⟨b, 0, none⟩ = some (.slice B m.length cm)) (hrm : ReadsV w B m) (hlm : m.length ≤ 1000) :
    Calls Tryz.prog 88 #[.slice A l.length c, .func (.func 104) #[] #[.pointer (some ⟨b, 0, none⟩)]] w (VPost w.heap.size w (.int .i64 (firstI (fun j => !m.contains (at0 l j)) l.length 0))) := by
  have hD : ∀ k, k < l.length → (∀ j, j < k → (fun j => !m.contains (at0 l j)) j = false) → (fun j => !m.contains (at0 l j)) k = true → (k : Int) = firstI (fun j => !m.contains (at0 l j)) l.length 0 := fun k h1 h2 h3 => (firstI_at h1 h2 h3).symm
  have hN : (∀ j, j < l.length → (fun j => !m.contains (at0 l j)) j = false) → -1 = firstI (fun j => !m.contains (at0 l j)) l.length 0 := fun h => (firstI_none h).symm
  have hF : ∀ k, (fun j => !m.contains (at0 l j)) k = !m.contains (at0 l k) := fun _ => rfl
  generalize firstI (fun j => !m.contains (at0 l j)) l.length 0 = S at *
  generalize (fun j => !m.contains (at0 l j)) = F at *
  have HD := Lib.hid hD
  have HNo := Lib.hid hN
  have HFF := Lib.hid hF
  have HR := Lib.hid hr
  have CC : Hid (∀ x W, Below w.heap.size w W → Calls Tryz.prog 104 #[.int .i64 x, .pointer (some ⟨b, 0, none⟩)] W (VPost W.heap.size W (.bool (!m.contains (x))))) := fun x W hW => clos_among x b B m cm W ((hW.cell (World.block_lt_of_cell? w ⟨b, 0, none⟩ hcm)).trans hcm) (hrm.below hW (Nat.le_refl _)) hlm
  clear hr hD hN hF
  generalize hg : w.heap.size = g at *
  have HG := Lib.hid hg
  clear hg
  generalize hn : l.length = n at *
  have HN := Lib.hid hn
  clear hn
  go_enter Tryz.func88, Tryz.ntmps88
  go_wp2
  go_loopw [8] (fun q wr => ∃ k : Nat, k ≤ n ∧ q = .int .i64 k ∧ Hid (Below g w wr) ∧ Hid (∀ j, j < k → F j = false)) (fun q _ => n - (intOf q).toNat)
  case atStart => exact ⟨0, by omega, rfl, Below.refl _ _, fun j hj => absurd hj (by omega)⟩
  case round =>
    obtain ⟨k, hk, rfl, HB, HM⟩ := hrel
    have HBk : Hid (∀ w2, Below wr.heap.size wr w2 → Below g w w2) := fun w2 h => HB.out.trans (h.mono (by have := HB.out.size; rw [HG.out] at this; exact this))
    by_cases hlt : k < n
    · obtain ⟨b0, off, rfl, hb0, hc0⟩ := (HR.out.below HB.out (by rw [HG.out]; exact Nat.le_refl _)) k (by rw [HN.out]; exact hlt)
      have HT := Lib.hid (HD.out k hlt HM.out)
      have HF : Hid (F k = false → ∀ j, j < k + 1 → F j = false) := upto_snoc HM.out
      have C := Lib.hid (CC.out (at0 l k) wr HB.out)
      have HQ := Lib.hid (HFF.out k)
      clear HM CC
      generalize at0 l k = x at *
      generalize (!m.contains (x)) = t at *
      cases t
      · have HF2 := Lib.hid (HF.out HQ.out)
        go_wp2_with fail
        refine C.out.mono ?_
        rintro e w2 ⟨rfl, K⟩
        have K2 := Lib.hid (HBk.out _ K)
        clear K
        go_wp2
        go_roundw
        case rel => exact ⟨k + 1, by omega, by go_num, K2, HF2⟩
        case measure => simp [intOf]; omega
      · have HT2 := Lib.hid (HT.out HQ.out)
        go_wp2_with fail
        refine C.out.mono ?_
        rintro e w2 ⟨rfl, K⟩
        have K2 := Lib.hid (HBk.out _ K)
        clear K
        go_wp2
        go_ret
        exact ⟨ret_i HT2.out, K2.out⟩
    · have E := Lib.hid (HNo.out (fun j hj => HM.out j (by omega)))
      clear HM
      go_wp2
      go_ret
      exact ⟨ret_i E.out, HB.out⟩
set_option maxHeartbeats 1000000 in
theorem among_contains (A : Option Addr) (l : List Int) (c : Nat) (b : Nat) (B : Option Addr) (m : List Int) (cm : Nat) (w : World) (hr : ReadsV w A l) (hl : l.length ≤ 1000) (hcm : w.cell? ⟨b, 0, none⟩ = some (.slice B m.length cm)) (hrm : ReadsV w B m) (hlm : m.length ≤ 1000) :
    Calls Tryz.prog 47 #[.slice A l.length c, .func (.func 104) #[] #[.pointer (some ⟨b, 0, none⟩)]] w (VPost w.heap.size w (.bool (anyB (fun j => !m.contains (at0 l j)) l.length))) := by
  have C := among_index A l c b B m cm w hr hl hcm hrm hlm
  unfold anyB
  generalize firstI (fun j => !m.contains (at0 l j)) l.length 0 = S at *
  generalize l.length = n at *
  clear hr
  replace C := Lib.hid C
  go_enter Tryz.func47, Tryz.ntmps47
  go_wp2_with fail
  refine C.out.mono ?_
  rintro e w2 ⟨rfl, K⟩
  have K2 := Lib.hid K
  clear K
  by_cases q : 0 ≤ S
  · have q2 : decide (0 ≤ S) = true := by simpa using q
    have q3 := Lib.hid q2
    go_wp2
    go_ret
    exact ⟨ret_b q3.out.symm, K2.out⟩
  · have q2 : decide (0 ≤ S) = false := by simpa using q
    have q3 := Lib.hid q2
    go_wp2
    go_ret
    exact ⟨ret_b q3.out.symm, K2.out⟩

set_option maxHeartbeats 1000000 in
theorem clos_lead (x : Int) (w : World) :
    Calls Tryz.prog 49 #[.int .i64 x] w (VPost w.heap.size w (.bool (!decide (x = 0)))) := by
  have HH : Hid (x = x) := rfl
  go_enter Tryz.func49, Tryz.ntmps49
  go_wp2
  go_ret
  refine ⟨ret_b ?_, Below.refl _ _⟩
  by_cases h : x = 0 <;> simp [h]

set_option maxHeartbeats 2000000 in
set_option maxRecDepth 100000 in
theorem lead_index (A : Option Addr) (l : List Int) (c : Nat)  (w : World) (hr : ReadsV w A l) (hl : l.length ≤ 1000) :
    Calls Tryz.prog 88 #[.slice A l.length c, .func (.func 49) #[] #[]] w (VPost w.heap.size w (.int .i64 (firstI (fun j => !decide (at0 l j = 0)) l.length 0))) := by
  have hD : ∀ k, k < l.length → (∀ j, j < k → (fun j => !decide (at0 l j = 0)) j = false) → (fun j => !decide (at0 l j = 0)) k = true → (k : Int) = firstI (fun j => !decide (at0 l j = 0)) l.length 0 := fun k h1 h2 h3 => (firstI_at h1 h2 h3).symm
  have hN : (∀ j, j < l.length → (fun j => !decide (at0 l j = 0)) j = false) → -1 = firstI (fun j => !decide (at0 l j = 0)) l.length 0 := fun h => (firstI_none h).symm
  have hF : ∀ k, (fun j => !decide (at0 l j = 0)) k = !decide (at0 l k = 0) := fun _ => rfl
  generalize firstI (fun j => !decide (at0 l j = 0)) l.length 0 = S at *
  generalize (fun j => !decide (at0 l j = 0)) = F at *
  have HD := Lib.hid hD
  have HNo := Lib.hid hN
  have HFF := Lib.hid hF
  have HR := Lib.hid hr
  have CC : Hid (∀ x W, Below w.heap.size w W → Calls Tryz.prog 49 #[.int .i64 x] W (VPost W.heap.size W (.bool (!decide (x = 0))))) := fun x W hW => clos_lead x W
  clear hr hD hN hF
  generalize hg : w.heap.size = g at *
  have HG := Lib.hid hg
  clear hg
  generalize hn : l.length = n at *
  have HN := Lib.hid hn
  clear hn
  go_enter Tryz.func88, Tryz.ntmps88
  go_wp2
  go_loopw [8] (fun q wr => ∃ k : Nat, k ≤ n ∧ q = .int .i64 k ∧ Hid (Below g w wr) ∧ Hid (∀ j, j < k → F j = false)) (fun q _ => n - (intOf q).toNat)
  case atStart => exact ⟨0, by omega, rfl, Below.refl _ _, fun j hj => absurd hj (by omega)⟩
  case round =>
    obtain ⟨k, hk, rfl, HB, HM⟩ := hrel
    have HBk : Hid (∀ w2, Below wr.heap.size wr w2 → Below g w w2) := fun w2 h => HB.out.trans (h.mono (by have := HB.out.size; rw [HG.out] at this; exact this))
    by_cases hlt : k < n
    · obtain ⟨b0, off, rfl, hb0, hc0⟩ := (HR.out.below HB.out (by rw [HG.out]; exact Nat.le_refl _)) k (by rw [HN.out]; exact hlt)
      have HT := Lib.hid (HD.out k hlt HM.out)
      have HF : Hid (F k = false → ∀ j, j < k + 1 → F j = false) := upto_snoc HM.out
      have C := Lib.hid (CC.out (at0 l k) wr HB.out)
      have HQ := Lib.hid (HFF.out k)
      clear HM CC
      generalize at0 l k = x at *
      generalize (!decide (x = 0)) = t at *
      cases t
      · have HF2 := Lib.hid (HF.out HQ.out)
        go_wp2_with fail
        refine C.out.mono ?_
        rintro e w2 ⟨rfl, K⟩
        have K2 := Lib.hid (HBk.out _ K)
        clear K
        go_wp2
        go_roundw
        case rel => exact ⟨k + 1, by omega, by go_num, K2, HF2⟩
        case measure => simp [intOf]; omega
      · have HT2 := Lib.hid (HT.out HQ.out)
        go_wp2_with fail
        refine C.out.mono ?_
        rintro e w2 ⟨rfl, K⟩
        have K2 := Lib.hid (HBk.out _ K)
        clear K
        go_wp2
        go_ret
        exact ⟨ret_i HT2.out, K2.out⟩
    · have E := Lib.hid (HNo.out (fun j hj => HM.out j (by omega)))
      clear HM
      go_wp2
      go_ret
      exact ⟨ret_i E.out, HB.out⟩
set_option maxHeartbeats 1000000 in
theorem lead_contains (A : Option Addr) (l : List Int) (c : Nat)  (w : World) (hr : ReadsV w A l) (hl : l.length ≤ 1000) :
    Calls Tryz.prog 47 #[.slice A l.length c, .func (.func 49) #[] #[]] w (VPost w.heap.size w (.bool (anyB (fun j => !decide (at0 l j = 0)) l.length))) := by
  have C := lead_index A l c w hr hl
  unfold anyB
  generalize firstI (fun j => !decide (at0 l j = 0)) l.length 0 = S at *
  generalize l.length = n at *
  clear hr
  replace C := Lib.hid C
  go_enter Tryz.func47, Tryz.ntmps47
  go_wp2_with fail
  refine C.out.mono ?_
  rintro e w2 ⟨rfl, K⟩
  have K2 := Lib.hid K
  clear K
  by_cases q : 0 ≤ S
  · have q2 : decide (0 ≤ S) = true := by simpa using q
    have q3 := Lib.hid q2
    go_wp2
    go_ret
    exact ⟨ret_b q3.out.symm, K2.out⟩
  · have q2 : decide (0 ≤ S) = false := by simpa using q
    have q3 := Lib.hid q2
    go_wp2
    go_ret
    exact ⟨ret_b q3.out.symm, K2.out⟩

def comB (l m : List Int) : Bool := anyB (fun j => m.contains (at0 l j)) l.length
set_option maxHeartbeats 1000000 in
set_option maxRecDepth 100000 in
theorem common_any (A B : Option Addr) (l m : List Int) (c cm : Nat) (w : World) (ra : ReadsV w A l) (rb : ReadsV w B m) (hl : l.length ≤ 1000) (hm : m.length ≤ 1000) :
    Calls Tryz.prog 70 #[.slice A l.length c, .slice B m.length cm] w (VPost w.heap.size w (.bool (comB l m))) := by
  have C := Lib.hid (common_contains A l c w.heap.size B m cm (w.alloc (.cells #[.slice B m.length cm] 34)) (ra.alloc _) hl (by simp) (rb.alloc _) hm)
  have B0 : Hid (Below w.heap.size w (w.alloc (.cells #[.slice B m.length cm] 34))) := (Below.refl _ _).alloc (Nat.le_refl _) _
  have hmf : ∀ (fn : Fn) (first cap : Array Value) (w : World), (Instr.makeFunc fn first cap).run Tryz.prog w = .ok (.func fn first cap) w := fun _ _ _ _ => rfl
  unfold comB
  clear ra rb
  generalize anyB (fun j => m.contains (at0 l j)) l.length = t at *
  go_enter Tryz.func70, Tryz.ntmps70
  go_wp2_with fail
  refine C.out.mono ?_
  rintro e w1 ⟨rfl, K⟩
  have K2 := Lib.hid (B0.out.trans (K.mono (by rw [World.size_alloc]; omega)))
  clear K
  go_wp2
  go_ret
  exact ⟨rfl, K2.out⟩

def amoB (l m : List Int) : Bool := !anyB (fun j => !m.contains (at0 l j)) l.length
set_option maxHeartbeats 1000000 in
set_option maxRecDepth 100000 in
theorem among_any (A B : Option Addr) (l m : List Int) (c cm : Nat) (w : World) (ra : ReadsV w A l) (rb : ReadsV w B m) (hl : l.length ≤ 1000) (hm : m.length ≤ 1000) :
    Calls Tryz.prog 68 #[.slice A l.length c, .slice B m.length cm] w (VPost w.heap.size w (.bool (amoB l m))) := by
  have C := Lib.hid (among_contains A l c w.heap.size B m cm (w.alloc (.cells #[.slice B m.length cm] 34)) (ra.alloc _) hl (by simp) (rb.alloc _) hm)
  have B0 : Hid (Below w.heap.size w (w.alloc (.cells #[.slice B m.length cm] 34))) := (Below.refl _ _).alloc (Nat.le_refl _) _
  have hmf : ∀ (fn : Fn) (first cap : Array Value) (w : World), (Instr.makeFunc fn first cap).run Tryz.prog w = .ok (.func fn first cap) w := fun _ _ _ _ => rfl
  unfold amoB
  clear ra rb
  generalize anyB (fun j => !m.contains (at0 l j)) l.length = t at *
  go_enter Tryz.func68, Tryz.ntmps68
  go_wp2_with fail
  refine C.out.mono ?_
  rintro e w1 ⟨rfl, K⟩
  have K2 := Lib.hid (B0.out.trans (K.mono (by rw [World.size_alloc]; omega)))
  clear K
  go_wp2
  go_ret
  exact ⟨rfl, K2.out⟩
end Go.Proofs.YtlbcdnobpnllkaaGreat
