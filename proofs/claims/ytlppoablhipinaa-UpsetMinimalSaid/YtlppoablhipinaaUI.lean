/- Contracts of the program: contains, Has, Subset, Same, Valid. -/
import Derived.Test.YtlppoablhipinaaUH
namespace Go.Proofs.Ytlppoablhipinaa
open Go.RowKit

theorem anyP_no {L : List Row} {p : List Int → Bool} (h : ∀ i, i < L.length → p (rA L i).zs = false) : (rowsL L).any p = false := by
  rw [List.any_eq_false]
  intro s hs
  unfold rowsL at hs
  obtain ⟨r, hr, rfl⟩ := List.mem_map.1 hs
  obtain ⟨i, hi, rfl⟩ := List.getElem_of_mem hr
  have := h i hi
  unfold rA at this
  rw [List.getElem?_eq_getElem hi] at this
  simp only [Option.getD_some] at this
  simp [this]
theorem anyP_yes {L : List Row} {p : List Int → Bool} {i : Nat} (hi : i < L.length) (h : p (rA L i).zs = true) : (rowsL L).any p = true := by
  rw [List.any_eq_true]
  exact ⟨_, List.mem_map.2 ⟨_, rA_mem hi, rfl⟩, h⟩

set_option maxHeartbeats 4000000 in
theorem index_above (A : Option Addr) (L : List Row) (c : Nat) (u : Value) (p : List Int → Bool) (w : World) (hr : ReadsL w A L) (hl : L.length ≤ 1000)
    (HP : ∀ W (r : Row), Below w.heap.size w W → OkR W r → Calls Try.prog 34 #[u, .slice r.A r.zs.length r.cap] W (BPost W.heap.size W (p r.zs))) :
    Calls Try.prog 54 #[.slice A L.length c, .func (.func 34) #[u] #[]] w fun e w' => ∃ i : Int, e = .returned (.int .i64 i) ∧ decide (0 ≤ i) = (rowsL L).any p ∧ Below w.heap.size w w' := by
  have HL := Lib.hid hr
  have HPh := Lib.hid HP
  clear hr HP
  obtain ⟨g, hg⟩ : ∃ g, g = w.heap.size := ⟨_, rfl⟩
  have HG := Lib.hid hg
  rw [← hg] at HPh ⊢
  clear hg
  have CY : Hid (∀ k, k < L.length → p (rA L k).zs = true → (rowsL L).any p = true) := fun k hk h => anyP_yes hk h
  have CE : Hid ((∀ i, i < L.length → p (rA L i).zs = false) → (rowsL L).any p = false) := fun h => anyP_no h
  generalize (rowsL L).any p = S at *
  generalize hn : L.length = n at *
  have HN := Lib.hid hn
  clear hn
  go_enter Try.func54, Try.ntmps54
  go_wp2_with fail
  go_loopw [8] (fun q wr => ∃ k : Nat, k ≤ n ∧ q = .int .i64 k ∧ Hid (∀ j, j < k → p (rA L j).zs = false) ∧ Hid (Below g w wr)) (fun q _ => n - (intOf q).toNat)
  case atStart => exact ⟨0, by omega, rfl, fun j hj => absurd hj (by omega), by rw [HG.out]; exact Below.refl _ _⟩
  case round =>
    obtain ⟨k, hk, rfl, HE, BB⟩ := hrel
    have hsz := BB.out.size
    rw [← HG.out] at hsz
    by_cases hlt : k < n
    · have RW := HL.out.below BB.out (by rw [HG.out]; exact Nat.le_refl _)
      have hkl : k < L.length := by rw [HN.out]; exact hlt
      obtain ⟨ba, oa, e1, hx⟩ := RW.1.at k hkl
      subst e1
      have CL := HPh.out wr (rA L k) BB.out (RW.2 _ (rA_mem hkl))
      have MK := Lib.hid (CY.out k hlt)
      have HE2 : Hid (p (rA L k).zs = false → ∀ j, j < k + 1 → p (rA L j).zs = false) := fun h j hj => by
        by_cases e : j < k
        · exact HE.out j e
        · obtain rfl : j = k := by omega
          exact h
      clear RW hkl
      generalize rA L k = r at *
      obtain ⟨xA, xs, xc⟩ := r
      dsimp only at *
      cases hle : p xs
      · have HE3 := Lib.hid (HE2.out hle)
        rw [hle] at CL
        have CL := Lib.hid CL
        clear HE2 MK hle
        go_wp2_with fail
        refine CL.out.mono ?_
        rintro e w3 ⟨rfl, K⟩
        have B3 := Lib.hid (BB.out.trans (K.mono hsz))
        clear K CL
        go_wp2
        go_roundw
        case rel => exact ⟨k + 1, by omega, by go_num, HE3, B3⟩
        case measure => simp [intOf]; omega
      · have E := Lib.hid (MK.out hle)
        rw [hle] at CL
        have CL := Lib.hid CL
        clear HE2 MK hle
        go_wp2_with fail
        refine CL.out.mono ?_
        rintro e w3 ⟨rfl, K⟩
        have B3 := Lib.hid (BB.out.trans (K.mono hsz))
        clear K CL
        go_wp2
        go_ret
        exact ⟨k, rfl, by rw [E.out]; simp, B3.out⟩
    · obtain rfl : k = n := by omega
      have E := Lib.hid (CE.out HE.out)
      go_wp2
      go_ret
      exact ⟨-1, rfl, by rw [E.out]; rfl, BB.out⟩
theorem some_above (A : Option Addr) (L : List Row) (c : Nat) (u : Value) (p : List Int → Bool) (w : World) (hr : ReadsL w A L) (hl : L.length ≤ 1000)
    (HP : ∀ W (r : Row), Below w.heap.size w W → OkR W r → Calls Try.prog 34 #[u, .slice r.A r.zs.length r.cap] W (BPost W.heap.size W (p r.zs))) :
    Calls Try.prog 39 #[.slice A L.length c, .func (.func 34) #[u] #[]] w (BPost w.heap.size w ((rowsL L).any p)) := by
  have C := Lib.hid (index_above A L c u p w hr hl HP)
  clear hr HP
  unfold BPost
  generalize (rowsL L).any p = S at *
  generalize L.length = n at *
  go_enter Try.func39, Try.ntmps39
  go_wp2_with fail
  refine C.out.mono ?_
  rintro e w1 ⟨i, rfl, E, K⟩
  have K1 := Lib.hid K
  have E1 := Lib.hid E
  clear K E
  go_wp2
  go_ret
  exact ⟨by rw [← E1.out]; rfl, K1.out⟩

set_option maxHeartbeats 4000000 in
theorem index_valid (A : Option Addr) (L : List Row) (c : Nat) (u : Value) (p : List Int → Bool) (w : World) (hr : ReadsL w A L) (hl : L.length ≤ 1000)
    (HP : ∀ W (r : Row), Below w.heap.size w W → OkR W r → Calls Try.prog 40 #[.slice r.A r.zs.length r.cap, u] W (BPost W.heap.size W (p r.zs))) :
    Calls Try.prog 54 #[.slice A L.length c, .func (.func 40) #[] #[u]] w fun e w' => ∃ i : Int, e = .returned (.int .i64 i) ∧ decide (0 ≤ i) = (rowsL L).any p ∧ Below w.heap.size w w' := by
  have HL := Lib.hid hr
  have HPh := Lib.hid HP
  clear hr HP
  obtain ⟨g, hg⟩ : ∃ g, g = w.heap.size := ⟨_, rfl⟩
  have HG := Lib.hid hg
  rw [← hg] at HPh ⊢
  clear hg
  have CY : Hid (∀ k, k < L.length → p (rA L k).zs = true → (rowsL L).any p = true) := fun k hk h => anyP_yes hk h
  have CE : Hid ((∀ i, i < L.length → p (rA L i).zs = false) → (rowsL L).any p = false) := fun h => anyP_no h
  generalize (rowsL L).any p = S at *
  generalize hn : L.length = n at *
  have HN := Lib.hid hn
  clear hn
  go_enter Try.func54, Try.ntmps54
  go_wp2_with fail
  go_loopw [8] (fun q wr => ∃ k : Nat, k ≤ n ∧ q = .int .i64 k ∧ Hid (∀ j, j < k → p (rA L j).zs = false) ∧ Hid (Below g w wr)) (fun q _ => n - (intOf q).toNat)
  case atStart => exact ⟨0, by omega, rfl, fun j hj => absurd hj (by omega), by rw [HG.out]; exact Below.refl _ _⟩
  case round =>
    obtain ⟨k, hk, rfl, HE, BB⟩ := hrel
    have hsz := BB.out.size
    rw [← HG.out] at hsz
    by_cases hlt : k < n
    · have RW := HL.out.below BB.out (by rw [HG.out]; exact Nat.le_refl _)
      have hkl : k < L.length := by rw [HN.out]; exact hlt
      obtain ⟨ba, oa, e1, hx⟩ := RW.1.at k hkl
      subst e1
      have CL := HPh.out wr (rA L k) BB.out (RW.2 _ (rA_mem hkl))
      have MK := Lib.hid (CY.out k hlt)
      have HE2 : Hid (p (rA L k).zs = false → ∀ j, j < k + 1 → p (rA L j).zs = false) := fun h j hj => by
        by_cases e : j < k
        · exact HE.out j e
        · obtain rfl : j = k := by omega
          exact h
      clear RW hkl
      generalize rA L k = r at *
      obtain ⟨xA, xs, xc⟩ := r
      dsimp only at *
      cases hle : p xs
      · have HE3 := Lib.hid (HE2.out hle)
        rw [hle] at CL
        have CL := Lib.hid CL
        clear HE2 MK hle
        go_wp2_with fail
        refine CL.out.mono ?_
        rintro e w3 ⟨rfl, K⟩
        have B3 := Lib.hid (BB.out.trans (K.mono hsz))
        clear K CL
        go_wp2
        go_roundw
        case rel => exact ⟨k + 1, by omega, by go_num, HE3, B3⟩
        case measure => simp [intOf]; omega
      · have E := Lib.hid (MK.out hle)
        rw [hle] at CL
        have CL := Lib.hid CL
        clear HE2 MK hle
        go_wp2_with fail
        refine CL.out.mono ?_
        rintro e w3 ⟨rfl, K⟩
        have B3 := Lib.hid (BB.out.trans (K.mono hsz))
        clear K CL
        go_wp2
        go_ret
        exact ⟨k, rfl, by rw [E.out]; simp, B3.out⟩
    · obtain rfl : k = n := by omega
      have E := Lib.hid (CE.out HE.out)
      go_wp2
      go_ret
      exact ⟨-1, rfl, by rw [E.out]; rfl, BB.out⟩
theorem some_valid (A : Option Addr) (L : List Row) (c : Nat) (u : Value) (p : List Int → Bool) (w : World) (hr : ReadsL w A L) (hl : L.length ≤ 1000)
    (HP : ∀ W (r : Row), Below w.heap.size w W → OkR W r → Calls Try.prog 40 #[.slice r.A r.zs.length r.cap, u] W (BPost W.heap.size W (p r.zs))) :
    Calls Try.prog 39 #[.slice A L.length c, .func (.func 40) #[] #[u]] w (BPost w.heap.size w ((rowsL L).any p)) := by
  have C := Lib.hid (index_valid A L c u p w hr hl HP)
  clear hr HP
  unfold BPost
  generalize (rowsL L).any p = S at *
  generalize L.length = n at *
  go_enter Try.func39, Try.ntmps39
  go_wp2_with fail
  refine C.out.mono ?_
  rintro e w1 ⟨i, rfl, E, K⟩
  have K1 := Lib.hid K
  have E1 := Lib.hid E
  clear K E
  go_wp2
  go_ret
  exact ⟨by rw [← E1.out]; rfl, K1.out⟩

set_option maxHeartbeats 4000000 in
theorem index_subset (A : Option Addr) (L : List Row) (c : Nat) (u : Value) (p : List Int → Bool) (w : World) (hr : ReadsL w A L) (hl : L.length ≤ 1000)
    (HP : ∀ W (r : Row), Below w.heap.size w W → OkR W r → Calls Try.prog 47 #[.slice r.A r.zs.length r.cap, u] W (BPost W.heap.size W (p r.zs))) :
    Calls Try.prog 54 #[.slice A L.length c, .func (.func 47) #[] #[u]] w fun e w' => ∃ i : Int, e = .returned (.int .i64 i) ∧ decide (0 ≤ i) = (rowsL L).any p ∧ Below w.heap.size w w' := by
  have HL := Lib.hid hr
  have HPh := Lib.hid HP
  clear hr HP
  obtain ⟨g, hg⟩ : ∃ g, g = w.heap.size := ⟨_, rfl⟩
  have HG := Lib.hid hg
  rw [← hg] at HPh ⊢
  clear hg
  have CY : Hid (∀ k, k < L.length → p (rA L k).zs = true → (rowsL L).any p = true) := fun k hk h => anyP_yes hk h
  have CE : Hid ((∀ i, i < L.length → p (rA L i).zs = false) → (rowsL L).any p = false) := fun h => anyP_no h
  generalize (rowsL L).any p = S at *
  generalize hn : L.length = n at *
  have HN := Lib.hid hn
  clear hn
  go_enter Try.func54, Try.ntmps54
  go_wp2_with fail
  go_loopw [8] (fun q wr => ∃ k : Nat, k ≤ n ∧ q = .int .i64 k ∧ Hid (∀ j, j < k → p (rA L j).zs = false) ∧ Hid (Below g w wr)) (fun q _ => n - (intOf q).toNat)
  case atStart => exact ⟨0, by omega, rfl, fun j hj => absurd hj (by omega), by rw [HG.out]; exact Below.refl _ _⟩
  case round =>
    obtain ⟨k, hk, rfl, HE, BB⟩ := hrel
    have hsz := BB.out.size
    rw [← HG.out] at hsz
    by_cases hlt : k < n
    · have RW := HL.out.below BB.out (by rw [HG.out]; exact Nat.le_refl _)
      have hkl : k < L.length := by rw [HN.out]; exact hlt
      obtain ⟨ba, oa, e1, hx⟩ := RW.1.at k hkl
      subst e1
      have CL := HPh.out wr (rA L k) BB.out (RW.2 _ (rA_mem hkl))
      have MK := Lib.hid (CY.out k hlt)
      have HE2 : Hid (p (rA L k).zs = false → ∀ j, j < k + 1 → p (rA L j).zs = false) := fun h j hj => by
        by_cases e : j < k
        · exact HE.out j e
        · obtain rfl : j = k := by omega
          exact h
      clear RW hkl
      generalize rA L k = r at *
      obtain ⟨xA, xs, xc⟩ := r
      dsimp only at *
      cases hle : p xs
      · have HE3 := Lib.hid (HE2.out hle)
        rw [hle] at CL
        have CL := Lib.hid CL
        clear HE2 MK hle
        go_wp2_with fail
        refine CL.out.mono ?_
        rintro e w3 ⟨rfl, K⟩
        have B3 := Lib.hid (BB.out.trans (K.mono hsz))
        clear K CL
        go_wp2
        go_roundw
        case rel => exact ⟨k + 1, by omega, by go_num, HE3, B3⟩
        case measure => simp [intOf]; omega
      · have E := Lib.hid (MK.out hle)
        rw [hle] at CL
        have CL := Lib.hid CL
        clear HE2 MK hle
        go_wp2_with fail
        refine CL.out.mono ?_
        rintro e w3 ⟨rfl, K⟩
        have B3 := Lib.hid (BB.out.trans (K.mono hsz))
        clear K CL
        go_wp2
        go_ret
        exact ⟨k, rfl, by rw [E.out]; simp, B3.out⟩
    · obtain rfl : k = n := by omega
      have E := Lib.hid (CE.out HE.out)
      go_wp2
      go_ret
      exact ⟨-1, rfl, by rw [E.out]; rfl, BB.out⟩
theorem some_subset (A : Option Addr) (L : List Row) (c : Nat) (u : Value) (p : List Int → Bool) (w : World) (hr : ReadsL w A L) (hl : L.length ≤ 1000)
    (HP : ∀ W (r : Row), Below w.heap.size w W → OkR W r → Calls Try.prog 47 #[.slice r.A r.zs.length r.cap, u] W (BPost W.heap.size W (p r.zs))) :
    Calls Try.prog 39 #[.slice A L.length c, .func (.func 47) #[] #[u]] w (BPost w.heap.size w ((rowsL L).any p)) := by
  have C := Lib.hid (index_subset A L c u p w hr hl HP)
  clear hr HP
  unfold BPost
  generalize (rowsL L).any p = S at *
  generalize L.length = n at *
  go_enter Try.func39, Try.ntmps39
  go_wp2_with fail
  refine C.out.mono ?_
  rintro e w1 ⟨i, rfl, E, K⟩
  have K1 := Lib.hid K
  have E1 := Lib.hid E
  clear K E
  go_wp2
  go_ret
  exact ⟨by rw [← E1.out]; rfl, K1.out⟩

theorem contains_any (A B : Option Addr) (L : List Row) (m : List Int) (c cb : Nat) (w : World) (hr : ReadsL w A L) (hl : L.length ≤ 1000) (rb : ReadsV w B m) (hm : m.length ≤ 1000) :
    Calls Try.prog 43 #[.slice A L.length c, .slice B m.length cb] w (BPost w.heap.size w (conV (rowsL L) m)) := by
  have HV := valid_law B m cb w rb (by omega)
  have CF := some_above A L c (.slice B m.length cb) (fun s => leqL s m) w hr hl fun W r hW hR => above_any B r.A m r.zs cb r.cap W (rb.below hW (Nat.le_refl _)) hR.1 hR.2
  clear hr rb
  unfold conV BPost
  generalize (rowsL L).any (fun s => leqL s m) = S at *
  generalize L.length = n at *
  generalize m.length = k at *
  cases hn : natL m
  · rw [hn] at HV
    have HV := Lib.hid HV
    clear hn CF
    go_enter Try.func43, Try.ntmps43
    go_wp2_with fail
    refine HV.out.mono ?_
    rintro e w1 ⟨rfl, rfl⟩
    go_wp2
    go_ret
    exact ⟨rfl, Below.refl _ _⟩
  · rw [hn] at HV
    have HV := Lib.hid HV
    have CF := Lib.hid CF
    clear hn
    go_enter Try.func43, Try.ntmps43
    go_wp2_with fail
    refine HV.out.mono ?_
    rintro e w1 ⟨rfl, rfl⟩
    go_wp2_with fail
    refine CF.out.mono ?_
    rintro e w1 ⟨rfl, K⟩
    have K1 := Lib.hid K
    clear K
    go_wp2
    go_ret
    exact ⟨by rw [Bool.true_and]; rfl, K1.out⟩
theorem has_any (A B : Option Addr) (L : List Row) (m : List Int) (c cb : Nat) (w : World) (hr : ReadsL w A L) (hl : L.length ≤ 1000) (rb : ReadsV w B m) (hm : m.length ≤ 1000) :
    Calls Try.prog 17 #[.slice A L.length c, .slice B m.length cb] w (BPost w.heap.size w (hasV (rowsL L) m)) := by
  have CU := Lib.hid (usable_any A L c w hr hl)
  have RB := Lib.hid rb
  clear hr rb
  have CC : Hid (∀ W A2 c2 K, Below w.heap.size w W → ReadsL W A2 K → K.length ≤ 1000 → Calls Try.prog 43 #[.slice A2 K.length c2, .slice B m.length cb] W (BPost W.heap.size W (conV (rowsL K) m))) := fun W A2 c2 K hW h1 h2 =>
    contains_any A2 B K m c2 cb W h1 h2 (RB.out.below hW (Nat.le_refl _)) hm
  unfold BPost hasV
  generalize L.length = n at *
  generalize m.length = k at *
  go_enter Try.func17, Try.ntmps17
  go_wp2_with fail
  refine CU.out.mono ?_
  rintro e w1 ⟨v, K, rfl, O1, E1, _, N1, B1⟩
  obtain ⟨A2, c2, e2, R2⟩ := O1.reads
  subst e2
  have CK := Lib.hid (CC.out w1 A2 c2 K B1 R2 (by omega))
  rw [E1] at CK
  have B1 := Lib.hid B1
  clear O1 R2 CU CC E1
  go_wp2_with fail
  refine CK.out.mono ?_
  rintro e w2 ⟨rfl, K⟩
  have B2 := Lib.hid (B1.out.trans (K.mono B1.out.size))
  clear K
  go_wp2
  go_ret
  exact ⟨rfl, B2.out⟩
theorem clos_subset (b : Nat) (A B : Option Addr) (L : List Row) (m : List Int) (c cb : Nat) (w : World) (hc : w.cell? ⟨b, 0, none⟩ = some (.slice A L.length c)) (hr : ReadsL w A L) (hl : L.length ≤ 1000) (rb : ReadsV w B m) (hm : m.length ≤ 1000) :
    Calls Try.prog 47 #[.slice B m.length cb, .pointer (some ⟨b, 0, none⟩)] w (BPost w.heap.size w (!(conV (rowsL L) m))) := by
  have C := Lib.hid (contains_any A B L m c cb w hr hl rb hm)
  clear hr rb
  unfold BPost
  generalize conV (rowsL L) m = S at *
  generalize L.length = n at *
  generalize m.length = k at *
  go_enter Try.func47, Try.ntmps47
  go_wp2_with fail
  refine C.out.mono ?_
  rintro e w1 ⟨rfl, K⟩
  have K1 := Lib.hid K
  clear K
  go_wp2
  go_ret
  exact ⟨rfl, K1.out⟩
theorem clos_valid (b : Nat) (B : Option Addr) (m : List Int) (x : Int) (cb : Nat) (w : World) (hc : w.cell? ⟨b, 0, none⟩ = some (.int .i64 x)) :
    Calls Try.prog 40 #[.slice B m.length cb, .pointer (some ⟨b, 0, none⟩)] w (BPost w.heap.size w (!(decide ((m.length : Int) = x)))) := by
  unfold BPost
  generalize m.length = k at *
  go_enter Try.func40, Try.ntmps40
  go_wp2
  go_ret
  refine ⟨?_, Below.refl _ _⟩
  show Ending.returned (.bool _) = _
  congr 2
theorem subset_any (A B : Option Addr) (L M : List Row) (c cb : Nat) (w : World) (hr : ReadsL w A L) (hl : L.length ≤ 1000) (rb : ReadsL w B M) (hm : M.length ≤ 1000) :
    Calls Try.prog 23 #[.slice A L.length c, .slice B M.length cb] w (BPost w.heap.size w (subV (rowsL L) (rowsL M))) := by
  have CU := Lib.hid (usable_any B M cb w rb hm)
  have CM : Hid (∀ W, Below w.heap.size w W → Calls Try.prog 13 #[.slice A L.length c] W (MPost L.length W (makeL (rowsL L)))) := fun W hW => make_any A L c W (hr.below hW (Nat.le_refl _)) hl
  clear hr rb
  unfold BPost
  generalize L.length = n at *
  generalize M.length = k at *
  go_enter Try.func23, Try.ntmps23
  go_wp2_with fail
  refine CU.out.mono ?_
  rintro e w1 ⟨v, K, rfl, O1, E1, _, N1, B1⟩
  obtain ⟨A2, c2, e2, R2⟩ := O1.reads
  subst e2
  have R2 := Lib.hid R2
  have B2 : Hid (Below w.heap.size w (w1.alloc (.cells #[.slice A2 K.length c2] 22))) := B1.alloc B1.size _
  have CM2 := Lib.hid (CM.out _ B2.out)
  have hs1 := B1.size
  have LW : Hid (Below w1.heap.size w1 (w1.alloc (.cells #[.slice A2 K.length c2] 22))) := (Below.refl _ _).alloc (Nat.le_refl _) _
  have X0 : Hid ((w1.alloc (.cells #[.slice A2 K.length c2] 22)).cell? ⟨w1.heap.size, 0, none⟩ = some (.slice A2 K.length c2)) := cell_new1 _ _ _
  have E1 := Lib.hid E1
  clear O1 B1 CU CM
  go_wp2_with fail
  refine CM2.out.mono ?_
  rintro e w2 ⟨A3, c3, U, rfl, E3, N3, R3, B3⟩
  have hc2 : w2.cell? ⟨w1.heap.size, 0, none⟩ = some (.slice A2 K.length c2) := keepc X0.out B3
  have RK : ReadsL w2 A2 K := (R2.out.below LW.out (Nat.le_refl _)).below B3 (Nat.le_refl _)
  have CF := some_subset A3 U c3 (.pointer (some ⟨w1.heap.size, 0, none⟩)) (fun m => !(conV (rowsL K) m)) w2 R3 (by omega) fun W r hW hR => clos_subset w1.heap.size A2 r.A K r.zs c2 r.cap W (keepc hc2 hW) (RK.below hW (Nat.le_refl _)) (by omega) hR.1 hR.2
  have hs3 := World.size_alloc w1 (.cells #[.slice A2 K.length c2] 22)
  have B4 := Lib.hid (B2.out.trans (B3.mono (by rw [hs3]; omega)))
  have E4 : Hid ((!((rowsL U).any fun m => !(conV (rowsL K) m))) = subV (rowsL L) (rowsL M)) := by
    show _ = _
    rw [E1.out, E3]
    unfold subV hasV
    rw [← List.all_eq_not_any_not]
  have CF := Lib.hid CF
  have hs4 := B4.out.size
  clear R3 B3 RK hc2 E3 X0 LW R2 CM2 E1 B2 hs3
  generalize (rowsL U).any (fun m => !(conV (rowsL K) m)) = S at *
  go_wp2_with fail
  refine CF.out.mono ?_
  rintro e w3 ⟨rfl, K⟩
  have B5 := Lib.hid (B4.out.trans (K.mono hs4))
  clear K
  go_wp2
  go_ret
  exact ⟨by rw [← E4.out]; rfl, B5.out⟩
theorem same_any (A B : Option Addr) (L M : List Row) (c cb : Nat) (w : World) (hr : ReadsL w A L) (hl : L.length ≤ 1000) (rb : ReadsL w B M) (hm : M.length ≤ 1000) :
    Calls Try.prog 25 #[.slice A L.length c, .slice B M.length cb] w (BPost w.heap.size w (smV (rowsL L) (rowsL M))) := by
  have C1 := Lib.hid (subset_any A B L M c cb w hr hl rb hm)
  have C2 : Hid (∀ W, Below w.heap.size w W → Calls Try.prog 23 #[.slice B M.length cb, .slice A L.length c] W (BPost W.heap.size W (subV (rowsL M) (rowsL L)))) := fun W hW => subset_any B A M L cb c W (rb.below hW (Nat.le_refl _)) hm (hr.below hW (Nat.le_refl _)) hl
  clear hr rb
  unfold smV
  generalize subV (rowsL L) (rowsL M) = x at *
  generalize subV (rowsL M) (rowsL L) = y at *
  generalize L.length = n at *
  generalize M.length = m at *
  cases x
  · go_enter Try.func25, Try.ntmps25
    go_wp2_with fail
    refine C1.out.mono ?_
    rintro e w1 ⟨rfl, K⟩
    have K1 := Lib.hid K
    clear K
    go_wp2
    go_ret
    exact ⟨rfl, K1.out⟩
  · go_enter Try.func25, Try.ntmps25
    go_wp2_with fail
    refine C1.out.mono ?_
    rintro e w1 ⟨rfl, K⟩
    have K1 := Lib.hid K
    clear K
    go_wp2_with fail
    refine (C2.out _ K1.out).mono ?_
    rintro e w2 ⟨rfl, K⟩
    have K2 := Lib.hid (K1.out.trans (K.mono K1.out.size))
    clear K
    go_wp2
    go_ret
    exact ⟨by rw [Bool.true_and]; rfl, K2.out⟩
end Go.Proofs.Ytlppoablhipinaa
