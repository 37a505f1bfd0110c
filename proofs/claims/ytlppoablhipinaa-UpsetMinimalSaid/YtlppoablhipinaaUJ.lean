/- Contracts: equal lists, Valid, by the program and by the reference. -/
import Derived.Test.YtlppoablhipinaaUI
namespace Go.Proofs.Ytlppoablhipinaa
open Go.RowKit

theorem sameL_no {a b : List Int} {k : Nat} (hk : k < a.length) (h : at0 a k ≠ at0 b k) : sameL a b = false := by
  unfold sameL
  rw [Bool.and_eq_false_iff]
  right
  exact allB_no k hk (by simpa using h)
theorem sameL_len {a b : List Int} (h : a.length ≠ b.length) : sameL a b = false := by
  unfold sameL
  rw [decide_eq_false h]
  rfl
theorem sameL_yes {a b : List Int} (h : a.length = b.length) (h2 : ∀ k, k < a.length → at0 a k = at0 b k) : sameL a b = true := sameL_iff.2 (list_ext h h2)
set_option maxHeartbeats 1000000 in
theorem eqi_any (A B : Option Addr) (a b : List Int) (ca cb : Nat) (w : World) (ra : ReadsV w A a) (rb : ReadsV w B b) (hl : a.length ≤ 1000) :
    Calls Try.prog 42 #[.slice A a.length ca, .slice B b.length cb] w (BPost w.heap.size w (sameL a b)) := by
  unfold BPost
  by_cases hab : a.length = b.length
  case neg =>
    rw [sameL_len hab]
    have h2 : ((a.length : Int) != (b.length : Int)) = true := by simp; omega
    clear ra rb
    generalize a.length = n at *
    generalize b.length = m at *
    go_enter Try.func42, Try.ntmps42
    go_wp2
    go_ret
    exact ⟨rfl, Below.refl _ _⟩
  have RA := Lib.hid ra
  have RB := Lib.hid rb
  clear ra rb
  have SN : Hid (∀ k, k < a.length → at0 a k ≠ at0 b k → sameL a b = false) := fun k hk h => sameL_no hk h
  have SY : Hid ((∀ k, k < a.length → at0 a k = at0 b k) → sameL a b = true) := sameL_yes hab
  generalize sameL a b = S at *
  rw [← hab]
  generalize hg : w.heap.size = g at *
  have HG := Lib.hid hg
  clear hg
  have HAB := Lib.hid hab
  clear hab
  generalize hn : a.length = n at *
  have HN := Lib.hid hn
  clear hn
  have hne : ((n : Int) != (n : Int)) = false := by simp
  go_enter Try.func42, Try.ntmps42
  go_wp2_with fail
  go_loopw [13] (fun q wr => ∃ k : Nat, k ≤ n ∧ q = .int .i64 k ∧ Hid (∀ j, j < k → at0 a j = at0 b j) ∧ Hid (Below g w wr)) (fun q _ => n - (intOf q).toNat)
  case atStart => exact ⟨0, by omega, rfl, fun j hj => absurd hj (by omega), Below.refl _ _⟩
  case round =>
    obtain ⟨k, hk, rfl, HE, B1⟩ := hrel
    by_cases hlt : k < n
    · obtain ⟨ba, oa, e1, hx⟩ := at_of_reads (RA.out.below B1.out (by rw [HG.out]; exact Nat.le_refl _)) k (by rw [HN.out]; exact hlt)
      subst e1
      obtain ⟨bb, ob, e2, hy⟩ := at_of_reads (RB.out.below B1.out (by rw [HG.out]; exact Nat.le_refl _)) k (by rw [← HAB.out]; exact hlt)
      subst e2
      have MK := Lib.hid (SN.out k hlt)
      have HE2 : Hid (at0 a k = at0 b k → ∀ j, j < k + 1 → at0 a j = at0 b j) := fun h j hj => by
        by_cases e : j < k
        · exact HE.out j e
        · obtain rfl : j = k := by omega
          exact h
      generalize at0 a k = x at *
      generalize at0 b k = y at *
      by_cases hxy : x = y
      · have HE3 := Lib.hid (HE2.out hxy)
        subst hxy
        clear HE2 MK
        go_wp2_with fail
        go_quiet (fail)
        go_wp2
        go_roundw
        case rel => exact ⟨k + 1, by omega, by go_num, HE3, below_drewN B1.out _⟩
        case measure => simp [intOf]; omega
      · have E := Lib.hid (MK.out hxy)
        have hb : (x != y) = true := by simpa using hxy
        clear HE2 MK hxy
        go_wp2_with fail
        go_quiet (fail)
        go_wp2
        go_ret
        exact ⟨by rw [E.out]; rfl, below_drewN B1.out _⟩
    · obtain rfl : k = n := by omega
      have E := Lib.hid (SY.out HE.out)
      go_wp2
      go_ret
      exact ⟨by rw [E.out]; rfl, B1.out⟩
def sameR (L M : List Row) : Bool := decide (rowsL L = rowsL M)
theorem sameR_len {L M : List Row} (h : L.length ≠ M.length) : sameR L M = false := decide_eq_false fun e => h (by rw [← rowsL_len L, e, rowsL_len])
theorem rowsL_get (L : List Row) (k : Nat) : (rowsL L)[k]?.getD [] = (rA L k).zs := by
  unfold rowsL rA
  rw [List.getElem?_map]
  cases L[k]? <;> rfl
theorem sameR_no {L M : List Row} {k : Nat} (h : sameL (rA L k).zs (rA M k).zs = false) : sameR L M = false := decide_eq_false fun e => by
  rw [← rowsL_get, ← rowsL_get, e, sameL_iff.2 rfl] at h
  cases h
theorem sameR_yes {L M : List Row} (hl : L.length = M.length) (h : ∀ k, k < L.length → sameL (rA L k).zs (rA M k).zs = true) : sameR L M = true := decide_eq_true (by
  apply List.ext_getElem
  · rw [rowsL_len, rowsL_len, hl]
  · intro i h1 h2
    rw [rowsL_len] at h1 h2
    rw [rA_get h1, rA_get h2]
    exact sameL_iff.1 (h i h1))

set_option maxHeartbeats 4000000 in
set_option maxRecDepth 100000 in
theorem lists_any (A B : Option Addr) (L M : List Row) (c cb : Nat) (w : World) (hr : ReadsL w A L) (hl : L.length ≤ 1000) (rb : ReadsL w B M) (hm : M.length ≤ 1000) :
    Calls Try.prog 12 #[.slice A L.length c, .slice B M.length cb] w (BPost w.heap.size w (sameR L M)) := by
  unfold BPost
  by_cases hab : L.length = M.length
  case neg =>
    rw [sameR_len hab]
    have h2 : ((L.length : Int) != (M.length : Int)) = true := by simp; omega
    clear hr rb
    generalize L.length = n at *
    generalize M.length = m at *
    go_enter Try.func12, Try.ntmps12
    go_wp2
    go_ret
    exact ⟨rfl, Below.refl _ _⟩
  have RA := Lib.hid hr
  have RB := Lib.hid rb
  clear hr rb
  have SN : Hid (∀ k, sameL (rA L k).zs (rA M k).zs = false → sameR L M = false) := fun k h => sameR_no h
  have SY : Hid ((∀ k, k < L.length → sameL (rA L k).zs (rA M k).zs = true) → sameR L M = true) := sameR_yes hab
  generalize sameR L M = S at *
  rw [← hab]
  generalize hg : w.heap.size = g at *
  have HG := Lib.hid hg
  clear hg
  have HAB := Lib.hid hab
  clear hab
  generalize hn : L.length = n at *
  have HN := Lib.hid hn
  clear hn
  have hne : ((n : Int) != (n : Int)) = false := by simp
  go_enter Try.func12, Try.ntmps12
  go_wp2_with fail
  go_loopw [5] (fun q wr => ∃ k : Nat, k ≤ n ∧ q = .int .i64 k ∧ Hid (∀ j, j < k → sameL (rA L j).zs (rA M j).zs = true) ∧ Hid (Below g w wr)) (fun q _ => n - (intOf q).toNat)
  case atStart => exact ⟨0, by omega, rfl, fun j hj => absurd hj (by omega), Below.refl _ _⟩
  case round =>
    obtain ⟨k, hk, rfl, HE, BB⟩ := hrel
    by_cases hlt : k < n
    · have hkl : k < L.length := by rw [HN.out]; exact hlt
      have hkm : k < M.length := by rw [← HAB.out]; exact hlt
      have RW := RA.out.below BB.out (by rw [HG.out]; exact Nat.le_refl _)
      have SW := RB.out.below BB.out (by rw [HG.out]; exact Nat.le_refl _)
      obtain ⟨ba, oa, e1, hx⟩ := RW.1.at k hkl
      subst e1
      obtain ⟨bb, ob, e2, hy⟩ := SW.1.at k hkm
      subst e2
      have OKx := RW.2 _ (rA_mem hkl)
      have OKy := SW.2 _ (rA_mem hkm)
      have CL : ∀ W, Below wr.heap.size wr W → Calls Try.prog 27 #[.slice (rA L k).A (rA L k).zs.length (rA L k).cap, .slice (rA M k).A (rA M k).zs.length (rA M k).cap] W (BPost W.heap.size W (sameL (rA L k).zs (rA M k).zs)) := fun W hW =>
        same_law (rA L k).A (rA M k).A (rA L k).zs (rA M k).zs (rA L k).cap (rA M k).cap W (OKx.1.below hW (Nat.le_refl _)) (OKy.1.below hW (Nat.le_refl _)) (by have := OKx.2; omega)
      have MK := Lib.hid (SN.out k)
      have HE2 : Hid (sameL (rA L k).zs (rA M k).zs = true → ∀ j, j < k + 1 → sameL (rA L j).zs (rA M j).zs = true) := fun h j hj => by
        by_cases e : j < k
        · exact HE.out j e
        · obtain rfl : j = k := by omega
          exact h
      clear RW SW OKx OKy hkl hkm
      generalize rA L k = r at *
      generalize rA M k = t at *
      obtain ⟨xA, xs, xc⟩ := r
      obtain ⟨yA, ys, yc⟩ := t
      dsimp only at *
      cases hle : sameL xs ys
      · have E := Lib.hid (MK.out hle)
        rw [hle] at CL
        have CL := Lib.hid CL
        clear HE2 MK hle
        go_upto_region 6 with fail
        refine wp_region_held_drew (S := fun w' => w'.cell? ⟨ba, oa + k, none⟩ = some (.slice xA xs.length xc) ∧ w'.cell? ⟨bb, ob + k, none⟩ = some (.slice yA ys.length yc) ∧ Hid (Below wr.heap.size wr w')) (by kernel_rfl) ?_ (fun hHeld => ?_)
        · exact ⟨hx, hy, (Below.refl _ _).drew⟩
        refine wpAnyH_take (oi := ⟨_, _, _, _, _, _⟩) (i := 0) (v := ?_) rfl (by kernel_rfl) (by kernel_rfl) (by kernel_rfl) (fun _ _ _ h => h) (Or.inl ⟨by rfl, ?ya0⟩) (by assumption) ?ra0
        case ya0 => (intro w hSw; (try dsimp only at hSw); go_simp; (try with_reducible rfl))
        try simp only [Act.put, List.setIfInBounds_toArray, List.set_cons_zero, List.set_cons_succ]
        refine wpAnyH_take (oi := ⟨_, _, _, _, _, _⟩) (i := 1) (v := ?_) rfl (by kernel_rfl) (by kernel_rfl) (by kernel_rfl) (fun _ _ _ h => h) (Or.inl ⟨by rfl, ?ya1⟩) (by assumption) ?ra1
        case ya1 => (intro w hSw; (try dsimp only at hSw); go_simp; (try with_reducible rfl))
        try simp only [Act.put, List.setIfInBounds_toArray, List.set_cons_zero, List.set_cons_succ]
        refine wpAnyH_take (oi := ⟨_, _, _, _, _, _⟩) (i := 2) (v := ?_) rfl (by kernel_rfl) (by kernel_rfl) (by kernel_rfl) (fun _ _ _ h => h) (Or.inl ⟨by rfl, ?ya2⟩) (by assumption) ?ra2
        case ya2 => (intro w hSw; (try dsimp only at hSw); go_simp; (try with_reducible rfl))
        try simp only [Act.put, List.setIfInBounds_toArray, List.set_cons_zero, List.set_cons_succ]
        refine wpAnyH_take (oi := ⟨_, _, _, _, _, _⟩) (i := 3) (v := ?_) rfl (by kernel_rfl) (by kernel_rfl) (by kernel_rfl) (fun _ _ _ h => h) (Or.inl ⟨by rfl, ?ya3⟩) (by assumption) ?ra3
        case ya3 => (intro w hSw; (try dsimp only at hSw); go_simp; (try with_reducible rfl))
        try simp only [Act.put, List.setIfInBounds_toArray, List.set_cons_zero, List.set_cons_succ]
        refine wpAnyH_take (oi := ⟨_, _, _, _, _, _⟩) (i := 4) (v := ?_) rfl (by kernel_rfl) (by kernel_rfl) (by kernel_rfl) (fun _ _ _ h => h) (Or.inl ⟨by rfl, ?ya4⟩) (by assumption) ?ra4
        case ya4 => (intro w hSw; (try dsimp only at hSw); go_simp; (try with_reducible rfl))
        try simp only [Act.put, List.setIfInBounds_toArray, List.set_cons_zero, List.set_cons_succ]
        refine wpAnyH_take (oi := ⟨_, _, _, _, _, _⟩) (i := 5) (v := ?_) rfl (by kernel_rfl) (by kernel_rfl) (by kernel_rfl) (fun _ _ _ h => h) (Or.inl ⟨by rfl, ?ya5⟩) (by assumption) ?ra5
        case ya5 => (intro w hSw; (try dsimp only at hSw); go_simp; (try with_reducible rfl))
        try simp only [Act.put, List.setIfInBounds_toArray, List.set_cons_zero, List.set_cons_succ]
        refine wpAnyH_take (oi := ⟨_, _, _, _, _, _⟩) (i := 6) (v := ?_) rfl (by kernel_rfl) (by kernel_rfl) (by kernel_rfl) (fun _ _ _ h => h) (Or.inl ⟨by rfl, ?ya6⟩) (by assumption) ?ra6
        case ya6 => (intro w hSw; (try dsimp only at hSw); go_simp; (try with_reducible rfl))
        try simp only [Act.put, List.setIfInBounds_toArray, List.set_cons_zero, List.set_cons_succ]
        refine wpAnyH_take (oi := ⟨_, _, _, _, _, _⟩) (i := 7) (v := ?_) rfl (by kernel_rfl) (by kernel_rfl) (by kernel_rfl) (fun _ _ _ h => h) (Or.inl ⟨by rfl, ?ya7⟩) (by assumption) ?ra7
        case ya7 => (intro w hSw; (try dsimp only at hSw); go_simp; (try with_reducible rfl))
        try simp only [Act.put, List.setIfInBounds_toArray, List.set_cons_zero, List.set_cons_succ]
        refine wpAnyH_ready (rs := [8]) (by kernel_rfl) (by simp) ?_
        refine AllReadyH.cons (o := ⟨_, _, _, _, _, _⟩) rfl (fun K hK => ?_) AllReadyH.nil
        go_simp
        go_at_call 27; refine (CL.out _ hHeld.2.2.out).mono ?_; rintro e w3 ⟨rfl, K⟩; (try go_wp2_with fail)
        refine hK.out _ _ ?_ (fun hHeld2 => ?_)
        · exact ⟨keepc hHeld.1 K, keepc hHeld.2.1 K, hHeld.2.2.out.trans (K.mono hHeld.2.2.out.size)⟩
        clear hK K hHeld
        have hHeld := hHeld2
        clear hHeld2
        try simp only [Act.put, List.setIfInBounds_toArray, List.set_cons_zero, List.set_cons_succ]
        refine wpAnyH_take (oi := ⟨_, _, _, _, _, _⟩) (i := 9) (v := ?_) rfl (by kernel_rfl) (by kernel_rfl) (by kernel_rfl) (fun _ _ _ h => h) (Or.inl ⟨by rfl, ?ya9⟩) (by assumption) ?ra9
        case ya9 => (intro w hSw; (try dsimp only at hSw); go_simp; (try with_reducible rfl))
        try simp only [Act.put, List.setIfInBounds_toArray, List.set_cons_zero, List.set_cons_succ]
        refine wpAnyH_done (by kernel_rfl) ?_ _
        have B3 := Lib.hid (BB.out.trans (hHeld.2.2.out.mono (by rw [← HG.out]; exact BB.out.size)))
        clear hHeld K CL hx hy
        go_wp2
        go_ret
        exact ⟨by rw [E.out]; rfl, B3.out⟩
      · have HE3 := Lib.hid (HE2.out hle)
        rw [hle] at CL
        have CL := Lib.hid CL
        clear HE2 MK hle
        go_upto_region 6 with fail
        refine wp_region_held_drew (S := fun w' => w'.cell? ⟨ba, oa + k, none⟩ = some (.slice xA xs.length xc) ∧ w'.cell? ⟨bb, ob + k, none⟩ = some (.slice yA ys.length yc) ∧ Hid (Below wr.heap.size wr w')) (by kernel_rfl) ?_ (fun hHeld => ?_)
        · exact ⟨hx, hy, (Below.refl _ _).drew⟩
        refine wpAnyH_take (oi := ⟨_, _, _, _, _, _⟩) (i := 0) (v := ?_) rfl (by kernel_rfl) (by kernel_rfl) (by kernel_rfl) (fun _ _ _ h => h) (Or.inl ⟨by rfl, ?yb0⟩) (by assumption) ?rb0
        case yb0 => (intro w hSw; (try dsimp only at hSw); go_simp; (try with_reducible rfl))
        try simp only [Act.put, List.setIfInBounds_toArray, List.set_cons_zero, List.set_cons_succ]
        refine wpAnyH_take (oi := ⟨_, _, _, _, _, _⟩) (i := 1) (v := ?_) rfl (by kernel_rfl) (by kernel_rfl) (by kernel_rfl) (fun _ _ _ h => h) (Or.inl ⟨by rfl, ?yb1⟩) (by assumption) ?rb1
        case yb1 => (intro w hSw; (try dsimp only at hSw); go_simp; (try with_reducible rfl))
        try simp only [Act.put, List.setIfInBounds_toArray, List.set_cons_zero, List.set_cons_succ]
        refine wpAnyH_take (oi := ⟨_, _, _, _, _, _⟩) (i := 2) (v := ?_) rfl (by kernel_rfl) (by kernel_rfl) (by kernel_rfl) (fun _ _ _ h => h) (Or.inl ⟨by rfl, ?yb2⟩) (by assumption) ?rb2
        case yb2 => (intro w hSw; (try dsimp only at hSw); go_simp; (try with_reducible rfl))
        try simp only [Act.put, List.setIfInBounds_toArray, List.set_cons_zero, List.set_cons_succ]
        refine wpAnyH_take (oi := ⟨_, _, _, _, _, _⟩) (i := 3) (v := ?_) rfl (by kernel_rfl) (by kernel_rfl) (by kernel_rfl) (fun _ _ _ h => h) (Or.inl ⟨by rfl, ?yb3⟩) (by assumption) ?rb3
        case yb3 => (intro w hSw; (try dsimp only at hSw); go_simp; (try with_reducible rfl))
        try simp only [Act.put, List.setIfInBounds_toArray, List.set_cons_zero, List.set_cons_succ]
        refine wpAnyH_take (oi := ⟨_, _, _, _, _, _⟩) (i := 4) (v := ?_) rfl (by kernel_rfl) (by kernel_rfl) (by kernel_rfl) (fun _ _ _ h => h) (Or.inl ⟨by rfl, ?yb4⟩) (by assumption) ?rb4
        case yb4 => (intro w hSw; (try dsimp only at hSw); go_simp; (try with_reducible rfl))
        try simp only [Act.put, List.setIfInBounds_toArray, List.set_cons_zero, List.set_cons_succ]
        refine wpAnyH_take (oi := ⟨_, _, _, _, _, _⟩) (i := 5) (v := ?_) rfl (by kernel_rfl) (by kernel_rfl) (by kernel_rfl) (fun _ _ _ h => h) (Or.inl ⟨by rfl, ?yb5⟩) (by assumption) ?rb5
        case yb5 => (intro w hSw; (try dsimp only at hSw); go_simp; (try with_reducible rfl))
        try simp only [Act.put, List.setIfInBounds_toArray, List.set_cons_zero, List.set_cons_succ]
        refine wpAnyH_take (oi := ⟨_, _, _, _, _, _⟩) (i := 6) (v := ?_) rfl (by kernel_rfl) (by kernel_rfl) (by kernel_rfl) (fun _ _ _ h => h) (Or.inl ⟨by rfl, ?yb6⟩) (by assumption) ?rb6
        case yb6 => (intro w hSw; (try dsimp only at hSw); go_simp; (try with_reducible rfl))
        try simp only [Act.put, List.setIfInBounds_toArray, List.set_cons_zero, List.set_cons_succ]
        refine wpAnyH_take (oi := ⟨_, _, _, _, _, _⟩) (i := 7) (v := ?_) rfl (by kernel_rfl) (by kernel_rfl) (by kernel_rfl) (fun _ _ _ h => h) (Or.inl ⟨by rfl, ?yb7⟩) (by assumption) ?rb7
        case yb7 => (intro w hSw; (try dsimp only at hSw); go_simp; (try with_reducible rfl))
        try simp only [Act.put, List.setIfInBounds_toArray, List.set_cons_zero, List.set_cons_succ]
        refine wpAnyH_ready (rs := [8]) (by kernel_rfl) (by simp) ?_
        refine AllReadyH.cons (o := ⟨_, _, _, _, _, _⟩) rfl (fun K hK => ?_) AllReadyH.nil
        go_simp
        go_at_call 27; refine (CL.out _ hHeld.2.2.out).mono ?_; rintro e w3 ⟨rfl, K⟩; (try go_wp2_with fail)
        refine hK.out _ _ ?_ (fun hHeld2 => ?_)
        · exact ⟨keepc hHeld.1 K, keepc hHeld.2.1 K, hHeld.2.2.out.trans (K.mono hHeld.2.2.out.size)⟩
        clear hK K hHeld
        have hHeld := hHeld2
        clear hHeld2
        try simp only [Act.put, List.setIfInBounds_toArray, List.set_cons_zero, List.set_cons_succ]
        refine wpAnyH_take (oi := ⟨_, _, _, _, _, _⟩) (i := 9) (v := ?_) rfl (by kernel_rfl) (by kernel_rfl) (by kernel_rfl) (fun _ _ _ h => h) (Or.inl ⟨by rfl, ?yb9⟩) (by assumption) ?rb9
        case yb9 => (intro w hSw; (try dsimp only at hSw); go_simp; (try with_reducible rfl))
        try simp only [Act.put, List.setIfInBounds_toArray, List.set_cons_zero, List.set_cons_succ]
        refine wpAnyH_done (by kernel_rfl) ?_ _
        have B3 := Lib.hid (BB.out.trans (hHeld.2.2.out.mono (by rw [← HG.out]; exact BB.out.size)))
        clear hHeld K CL hx hy
        go_wp2
        go_roundw
        case rel => exact ⟨k + 1, by omega, by go_num, HE3, B3⟩
        case measure => simp [intOf]; omega
    · obtain rfl : k = n := by omega
      have E := Lib.hid (SY.out HE.out)
      go_wp2
      go_ret
      exact ⟨by rw [E.out]; rfl, BB.out⟩

set_option maxHeartbeats 4000000 in
set_option maxRecDepth 100000 in
theorem eqf_any (A B : Option Addr) (L M : List Row) (c cb : Nat) (w : World) (hr : ReadsL w A L) (hl : L.length ≤ 1000) (rb : ReadsL w B M) (hm : M.length ≤ 1000) :
    Calls Try.prog 41 #[.slice A L.length c, .slice B M.length cb, .func (.func 42) #[] #[]] w (BPost w.heap.size w (sameR L M)) := by
  unfold BPost
  by_cases hab : L.length = M.length
  case neg =>
    rw [sameR_len hab]
    have h2 : ((L.length : Int) != (M.length : Int)) = true := by simp; omega
    clear hr rb
    generalize L.length = n at *
    generalize M.length = m at *
    go_enter Try.func41, Try.ntmps41
    go_wp2
    go_ret
    exact ⟨rfl, Below.refl _ _⟩
  have RA := Lib.hid hr
  have RB := Lib.hid rb
  clear hr rb
  have SN : Hid (∀ k, sameL (rA L k).zs (rA M k).zs = false → sameR L M = false) := fun k h => sameR_no h
  have SY : Hid ((∀ k, k < L.length → sameL (rA L k).zs (rA M k).zs = true) → sameR L M = true) := sameR_yes hab
  generalize sameR L M = S at *
  rw [← hab]
  generalize hg : w.heap.size = g at *
  have HG := Lib.hid hg
  clear hg
  have HAB := Lib.hid hab
  clear hab
  generalize hn : L.length = n at *
  have HN := Lib.hid hn
  clear hn
  have hne : ((n : Int) != (n : Int)) = false := by simp
  go_enter Try.func41, Try.ntmps41
  go_wp2_with fail
  go_loopw [17] (fun q wr => ∃ k : Nat, k ≤ n ∧ q = .int .i64 k ∧ Hid (∀ j, j < k → sameL (rA L j).zs (rA M j).zs = true) ∧ Hid (Below g w wr)) (fun q _ => n - (intOf q).toNat)
  case atStart => exact ⟨0, by omega, rfl, fun j hj => absurd hj (by omega), Below.refl _ _⟩
  case round =>
    obtain ⟨k, hk, rfl, HE, BB⟩ := hrel
    by_cases hlt : k < n
    · have hkl : k < L.length := by rw [HN.out]; exact hlt
      have hkm : k < M.length := by rw [← HAB.out]; exact hlt
      have RW := RA.out.below BB.out (by rw [HG.out]; exact Nat.le_refl _)
      have SW := RB.out.below BB.out (by rw [HG.out]; exact Nat.le_refl _)
      obtain ⟨ba, oa, e1, hx⟩ := RW.1.at k hkl
      subst e1
      obtain ⟨bb, ob, e2, hy⟩ := SW.1.at k hkm
      subst e2
      have OKx := RW.2 _ (rA_mem hkl)
      have OKy := SW.2 _ (rA_mem hkm)
      have CL : ∀ W, Below wr.heap.size wr W → Calls Try.prog 42 #[.slice (rA L k).A (rA L k).zs.length (rA L k).cap, .slice (rA M k).A (rA M k).zs.length (rA M k).cap] W (BPost W.heap.size W (sameL (rA L k).zs (rA M k).zs)) := fun W hW =>
        eqi_any (rA L k).A (rA M k).A (rA L k).zs (rA M k).zs (rA L k).cap (rA M k).cap W (OKx.1.below hW (Nat.le_refl _)) (OKy.1.below hW (Nat.le_refl _)) (by have := OKx.2; omega)
      have MK := Lib.hid (SN.out k)
      have HE2 : Hid (sameL (rA L k).zs (rA M k).zs = true → ∀ j, j < k + 1 → sameL (rA L j).zs (rA M j).zs = true) := fun h j hj => by
        by_cases e : j < k
        · exact HE.out j e
        · obtain rfl : j = k := by omega
          exact h
      clear RW SW OKx OKy hkl hkm
      generalize rA L k = r at *
      generalize rA M k = t at *
      obtain ⟨xA, xs, xc⟩ := r
      obtain ⟨yA, ys, yc⟩ := t
      dsimp only at *
      cases hle : sameL xs ys
      · have E := Lib.hid (MK.out hle)
        rw [hle] at CL
        have CL := Lib.hid CL
        clear HE2 MK hle
        go_wp2_with fail
        refine (CL.out _ (Below.refl _ _)).mono ?_
        rintro e w3 ⟨rfl, K⟩
        have B3 := Lib.hid (BB.out.trans (K.mono (by rw [← HG.out]; exact BB.out.size)))
        clear K CL
        go_wp2
        go_ret
        exact ⟨by rw [E.out]; rfl, B3.out⟩
      · have HE3 := Lib.hid (HE2.out hle)
        rw [hle] at CL
        have CL := Lib.hid CL
        clear HE2 MK hle
        go_wp2_with fail
        refine (CL.out _ (Below.refl _ _)).mono ?_
        rintro e w3 ⟨rfl, K⟩
        have B3 := Lib.hid (BB.out.trans (K.mono (by rw [← HG.out]; exact BB.out.size)))
        clear K CL
        go_wp2
        go_roundw
        case rel => exact ⟨k + 1, by omega, by go_num, HE3, B3⟩
        case measure => simp [intOf]; omega
    · obtain rfl : k = n := by omega
      have E := Lib.hid (SY.out HE.out)
      go_wp2
      go_ret
      exact ⟨by rw [E.out]; rfl, BB.out⟩

theorem valV_eq (L : List Row) (x : Int) (K : List Row) (hK : rowsL K = makeL (rowsL L)) : valV (rowsL L) x = ((!((rowsL L).any fun m => !(decide ((m.length : Int) = x)))) && sameR L K) := by
  unfold valV sameR
  rw [hK, ← List.all_eq_not_any_not]
set_option maxHeartbeats 1000000 in
theorem valid21_any (A : Option Addr) (L : List Row) (c : Nat) (x : Int) (w : World) (hr : ReadsL w A L) (hl : L.length ≤ 1000) :
    Calls Try.prog 15 #[.slice A L.length c, .int .i64 x] w (BPost w.heap.size w (valV (rowsL L) x)) := by
  have HR := Lib.hid hr
  clear hr
  have B0 : Hid (Below w.heap.size w (w.alloc (.cells #[.int .i64 x] 3))) := (Below.refl _ _).alloc (Nat.le_refl _) _
  have X0 : Hid ((w.alloc (.cells #[.int .i64 x] 3)).cell? ⟨w.heap.size, 0, none⟩ = some (.int .i64 x)) := cell_new1 _ _ _
  have CF := Lib.hid (some_valid A L c (.pointer (some ⟨w.heap.size, 0, none⟩)) (fun m => !(decide ((m.length : Int) = x))) (w.alloc (.cells #[.int .i64 x] 3)) (HR.out.below B0.out (Nat.le_refl _)) hl fun W r hW _ => clos_valid w.heap.size r.A r.zs x r.cap W (keepc X0.out hW))
  have CM : Hid (∀ W, Below w.heap.size w W → Calls Try.prog 13 #[.slice A L.length c] W (MPost L.length W (makeL (rowsL L)))) := fun W hW => make_any A L c W (HR.out.below hW (Nat.le_refl _)) hl
  have CE : Hid (∀ W A2 c2 K, Below w.heap.size w W → ReadsL W A2 K → K.length ≤ 1000 → Calls Try.prog 41 #[.slice A L.length c, .slice A2 K.length c2, .func (.func 42) #[] #[]] W (BPost W.heap.size W (sameR L K))) := fun W A2 c2 K hW h1 h2 =>
    eqf_any A A2 L K c c2 W (HR.out.below hW (Nat.le_refl _)) hl h1 h2
  have VE : Hid (∀ K, rowsL K = makeL (rowsL L) → valV (rowsL L) x = ((!((rowsL L).any fun m => !(decide ((m.length : Int) = x)))) && sameR L K)) := fun K hK => valV_eq L x K hK
  have VN : Hid (((rowsL L).any fun m => !(decide ((m.length : Int) = x))) = true → valV (rowsL L) x = false) := fun h => by
    unfold valV
    rw [List.all_eq_not_any_not, h]
    rfl
  unfold BPost
  generalize hany : ((rowsL L).any fun m => !(decide ((m.length : Int) = x))) = S at *
  clear hany X0
  generalize L.length = n at *
  cases S
  · clear VN
    go_enter Try.func15, Try.ntmps15
    go_wp2_with fail
    refine CF.out.mono ?_
    rintro e w1 ⟨rfl, K⟩
    have B1 := Lib.hid (B0.out.trans (K.mono B0.out.size))
    clear K B0 CF
    go_wp2_with fail
    refine (CM.out _ B1.out).mono ?_
    rintro e w2 ⟨A2, c2, K, rfl, E2, N2, R2, B2⟩
    have B3 := Lib.hid (B1.out.trans (B2.mono B1.out.size))
    have EQ := Lib.hid (CE.out w2 A2 c2 K B3.out R2 (by omega))
    have VK := Lib.hid (VE.out K E2)
    clear E2 R2 B2 B1 CM CE VE
    go_wp2_with fail
    refine EQ.out.mono ?_
    rintro e w3 ⟨rfl, K4⟩
    have B4 := Lib.hid (B3.out.trans (K4.mono B3.out.size))
    clear K4
    go_wp2
    go_ret
    exact ⟨by rw [VK.out]; rfl, B4.out⟩
  · have E := Lib.hid (VN.out rfl)
    clear VN VE CE CM
    go_enter Try.func15, Try.ntmps15
    go_wp2_with fail
    refine CF.out.mono ?_
    rintro e w1 ⟨rfl, K⟩
    have B1 := Lib.hid (B0.out.trans (K.mono B0.out.size))
    clear K B0 CF
    go_wp2
    go_ret
    exact ⟨by rw [E.out]; rfl, B1.out⟩
theorem anyN_no {L : List Row} {k : Nat} {x : Int} (hk : k < L.length) (h : ((rA L k).zs.length : Int) ≠ x) : ((rowsL L).any fun m => !(decide ((m.length : Int) = x))) = true := anyP_yes hk (by simpa using h)
theorem anyN_yes {L : List Row} {x : Int} (h : ∀ i, i < L.length → ((rA L i).zs.length : Int) = x) : ((rowsL L).any fun m => !(decide ((m.length : Int) = x))) = false := anyP_no fun i hi => by simpa using h i hi
set_option maxHeartbeats 1000000 in
theorem rvalid21_any (A : Option Addr) (L : List Row) (c : Nat) (x : Int) (w : World) (hr : ReadsL w A L) (hl : L.length ≤ 1000) :
    Calls Try.prog 16 #[.slice A L.length c, .int .i64 x] w (BPost w.heap.size w (valV (rowsL L) x)) := by
  have HR := Lib.hid hr
  clear hr
  obtain ⟨g, hg⟩ : ∃ g, g = w.heap.size := ⟨_, rfl⟩
  have HG := Lib.hid hg
  clear hg
  have CM : Hid (∀ W, Below g w W → Calls Try.prog 14 #[.slice A L.length c] W (MPost L.length W (makeL (rowsL L)))) := fun W hW => rmake_any A L c W (HR.out.below hW (by rw [HG.out]; exact Nat.le_refl _)) hl
  have CE : Hid (∀ W A2 c2 K, Below g w W → ReadsL W A2 K → K.length ≤ 1000 → Calls Try.prog 12 #[.slice A L.length c, .slice A2 K.length c2] W (BPost W.heap.size W (sameR L K))) := fun W A2 c2 K hW h1 h2 =>
    lists_any A A2 L K c c2 W (HR.out.below hW (by rw [HG.out]; exact Nat.le_refl _)) hl h1 h2
  have VE : Hid (∀ K, rowsL K = makeL (rowsL L) → (∀ i, i < L.length → ((rA L i).zs.length : Int) = x) → valV (rowsL L) x = sameR L K) := fun K hK h => by rw [valV_eq L x K hK, anyN_yes h]; rfl
  have VN : Hid (∀ k, k < L.length → ((rA L k).zs.length : Int) ≠ x → valV (rowsL L) x = false) := fun k hk h => by
    unfold valV
    rw [List.all_eq_not_any_not, anyN_no hk h]
    rfl
  unfold BPost
  rw [← HG.out]
  generalize hn : L.length = n at *
  have HN := Lib.hid hn
  clear hn
  go_enter Try.func16, Try.ntmps16
  go_wp2_with fail
  go_loopw [5] (fun q wr => ∃ k : Nat, k ≤ n ∧ q = .int .i64 k ∧ Hid (∀ j, j < k → ((rA L j).zs.length : Int) = x) ∧ Hid (Below g w wr)) (fun q _ => n - (intOf q).toNat)
  case atStart => exact ⟨0, by omega, rfl, fun j hj => absurd hj (by omega), Below.refl _ _⟩
  case round =>
    obtain ⟨k, hk, rfl, HE, BB⟩ := hrel
    by_cases hlt : k < n
    · have hkl : k < L.length := by rw [HN.out]; exact hlt
      obtain ⟨ba, oa, e1, hx⟩ := (HR.out.1.below BB.out (by rw [HG.out]; exact Nat.le_refl _)).at k hkl
      subst e1
      have MK := Lib.hid (VN.out k hlt)
      have HE2 : Hid (((rA L k).zs.length : Int) = x → ∀ j, j < k + 1 → ((rA L j).zs.length : Int) = x) := fun h j hj => by
        by_cases e : j < k
        · exact HE.out j e
        · obtain rfl : j = k := by omega
          exact h
      generalize (rA L k).zs.length = xl at *
      generalize (rA L k).A = xA at *
      generalize (rA L k).cap = xc at *
      by_cases hxl : (xl : Int) = x
      · have HE3 := Lib.hid (HE2.out hxl)
        have hb : ((xl : Int) != x) = false := by simpa using hxl
        clear HE2 MK hxl
        go_wp2_with fail
        go_roundw
        case rel => exact ⟨k + 1, by omega, by go_num, HE3, BB⟩
        case measure => simp [intOf]; omega
      · have E := Lib.hid (MK.out hxl)
        have hb : ((xl : Int) != x) = true := by simpa using hxl
        clear HE2 MK hxl
        go_wp2_with fail
        go_ret
        exact ⟨by rw [E.out]; rfl, BB.out⟩
    · obtain rfl : k = n := by omega
      have hs := BB.out.size
      rw [← HG.out] at hs
      go_wp2_with fail
      refine (CM.out _ BB.out).mono ?_
      rintro e w2 ⟨A2, c2, K, rfl, E2, N2, R2, B2⟩
      have B3 := Lib.hid (BB.out.trans (B2.mono hs))
      have EQ := Lib.hid (CE.out w2 A2 c2 K B3.out R2 (by omega))
      have VK := Lib.hid (VE.out K E2 HE.out)
      have hs3 := Nat.le_trans hs B2.size
      clear E2 R2 B2 CM CE VE
      go_wp2_with fail
      refine EQ.out.mono ?_
      rintro e w3 ⟨rfl, K4⟩
      have B4 := Lib.hid (B3.out.trans (K4.mono hs3))
      clear K4
      go_wp2
      go_ret
      exact ⟨by rw [VK.out]; rfl, B4.out⟩
end Go.Proofs.Ytlppoablhipinaa
