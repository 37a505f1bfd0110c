/- The reference's check, and both checks at a list that may be nil. -/
import Derived.Test.YthpbgdeeajhbjaaDoorH
namespace Go.Proofs.YthpbgdeeajhbjaaDoor
open Go.RowKit Go.Maps Go.WideMaps

theorem inB_cons (x v : ByteArray) (l : List ByteArray) : inB (x :: l) v = (decide (x.data = v.data) || inB l v) := rfl
theorem findI_take (v : ByteArray) : ∀ (L : List ByteArray) (k : Nat) (i : Int), k < L.length → (L[k]?.getD ByteArray.empty).data = v.data →
    (inB (L.take k) v = true → findI v L i < i + k) ∧ (inB (L.take k) v = false → findI v L i = i + k)
  | [], k, i, h, _ => absurd h (by simp)
  | x :: r, 0, i, _, h => by
    have h' : x.data = v.data := by simpa using h
    simp [inB, findI, h']
  | x :: r, k + 1, i, hk, h => by
    have ih := findI_take v r k (i + 1) (by simpa using hk) (by simpa using h)
    rw [List.take_succ_cons, inB_cons]
    by_cases hx : x.data = v.data
    · simp only [hx, decide_true, Bool.true_or]
      refine ⟨fun _ => ?_, fun h => by cases h⟩
      rw [findI, if_pos hx]
      omega
    · simp only [hx, decide_false, Bool.false_or]
      rw [findI, if_neg hx]
      refine ⟨fun h1 => ?_, fun h1 => ?_⟩
      · have := ih.1 h1; push_cast; omega
      · have := ih.2 h1; push_cast; omega

theorem check_nil (nm : ByteArray) (A : Option Addr) (cap : Nat) (w : World) (hnm : nm.size ≤ maxLen) :
    Calls Tryd.prog 14 #[.agg #[.string nm, .slice A 0 cap]] w fun e w' => e = .returned (.int .i64 (checkV nm [])) ∧ Below w.heap.size w w' := by
  generalize hS : checkV nm [] = S
  have HS := Lib.hid hS
  clear hS
  have C := fun W => name_any nm W hnm
  cases hn : nameB (bytesI nm)
  all_goals
    rw [hn] at C
    have C := Lib.hid C
    have HN := Lib.hid hn
    clear hn
    go_enter Tryd.func14, Tryd.ntmps14
    go_wp2_with fail
    refine (C.out _).mono ?_
    rintro e w1 ⟨rfl, K1⟩
    have hc1 : w1.cell? ⟨w.heap.size, 1, none⟩ = some (.slice A 0 cap) := by
      rw [K1.cell (by simp)]
      exact (World.cell?_alloc_new _ _ _ _).trans rfl
    have B1 : Hid (Below w.heap.size w w1) := ((Below.refl _ _).alloc (Nat.le_refl _) _).trans (K1.mono (by rw [World.size_alloc]; omega))
    clear K1
    go_wp2
    go_ret
    refine ⟨ret_i ?_, B1.out⟩
    rw [← HS.out]
    simp [checkV, HN.out]

theorem check_opt (nm : ByteArray) (A : Option Addr) (L : List ByteArray) (cap : Nat) (w : World) (hnm : nm.size ≤ maxLen) (hL : ∀ s ∈ L, s.size ≤ maxLen) (hr : ReadsSO w A L) (hl0 : L.length ≤ maxLen) :
    Calls Tryd.prog 14 #[.agg #[.string nm, .slice A L.length cap]] w fun e w' => e = .returned (.int .i64 (checkV nm L)) ∧ Below w.heap.size w w' := by
  rcases Nat.eq_zero_or_pos L.length with h0 | h0
  · obtain rfl := List.eq_nil_of_length_eq_zero h0
    exact check_nil nm A cap w hnm
  · obtain ⟨a, rfl, hb, _⟩ := hr 0 h0
    refine check_any nm a L cap w hnm hL (fun k hk => ?_) hb hl0
    obtain ⟨p, hp, _, h⟩ := hr k hk
    cases hp
    exact h

set_option maxHeartbeats 4000000 in
set_option maxRecDepth 100000 in
theorem rcheck_any (nm : ByteArray) (A : Option Addr) (L : List ByteArray) (cap : Nat) (w : World) (hnm : nm.size ≤ maxLen) (hL : ∀ s ∈ L, s.size ≤ maxLen) (hr : ReadsSO w A L) (hl0 : L.length ≤ maxLen) :
    Calls Tryd.prog 15 #[.agg #[.string nm, .slice A L.length cap]] w fun e w' => e = .returned (.int .i64 (checkV nm L)) ∧ Below w.heap.size w w' := by
  generalize hS : checkV nm L = S
  have HS := Lib.hid hS
  clear hS
  generalize hg : w.heap.size = g
  have HG := Lib.hid hg
  clear hg
  unfold maxLen at hl0
  have C := fun W => rname_any nm W hnm
  have HR := Lib.hid hr
  clear hr
  have HB0 : Hid (Below g w (w.alloc (.cells #[.string nm, .slice A L.length cap] 26))) := (Below.refl _ _).alloc (by rw [HG.out]; exact Nat.le_refl _) _
  cases hn : nameB (bytesI nm)
  · have E : Hid (5 = S) := by show _ = _; rw [← HS.out]; simp [checkV, hn]
    rw [hn] at C
    have C := Lib.hid C
    clear hn
    go_enter Tryd.func15, Tryd.ntmps15
    go_wp2_with fail
    refine (C.out _).mono ?_
    rintro e w1 ⟨rfl, rfl⟩
    go_wp2
    go_ret
    exact ⟨ret_i E.out, HB0.out⟩
  · rw [hn] at C
    have C := Lib.hid C
    have HN := Lib.hid hn
    clear hn
    by_cases h1 : L.length < 1
    · have E : Hid (2 = S) := by show _ = _; rw [← HS.out]; simp [checkV, HN.out, h1]
      go_enter Tryd.func15, Tryd.ntmps15
      go_wp2_with fail
      refine (C.out _).mono ?_
      rintro e w1 ⟨rfl, rfl⟩
      go_wp2
      go_ret
      exact ⟨ret_i E.out, HB0.out⟩
    · by_cases h2 : 12 < L.length
      · have E : Hid (2 = S) := by show _ = _; rw [← HS.out]; simp [checkV, HN.out, h2]
        go_enter Tryd.func15, Tryd.ntmps15
        go_wp2_with fail
        refine (C.out _).mono ?_
        rintro e w1 ⟨rfl, rfl⟩
        go_wp2
        go_ret
        exact ⟨ret_i E.out, HB0.out⟩
      · have hlo : 1 ≤ L.length := by omega
        have hhi : L.length ≤ 12 := by omega
        have E : Hid (chk [] L = S) := by show _ = _; rw [← HS.out]; simp [checkV, HN.out, h1, h2]
        clear h1 h2
        go_enter Tryd.func15, Tryd.ntmps15
        go_wp2_with fail
        refine (C.out _).mono ?_
        rintro e w1 ⟨rfl, rfl⟩
        go_wp2
        have HR1 : Hid (ReadsSO (w.alloc (.cells #[.string nm, .slice A L.length cap] 26)) A L) := HR.out.below ((Below.refl w.heap.size _).alloc (Nat.le_refl _) _) (Nat.le_refl _)
        go_loopw [3] (fun q wr => ∃ k : Nat, k ≤ L.length ∧ q = .int .i64 k ∧ Hid (Below (g + 1) (w.alloc (.cells #[.string nm, .slice A L.length cap] 26)) wr) ∧ Hid (chk (L.take k) (L.drop k) = S)) (fun q _ => L.length - (intOf q).toNat)
        case atStart => exact ⟨0, by omega, rfl, Below.refl _ _, by show _ = _; rw [← E.out]; simp⟩
        case round =>
          obtain ⟨k, hk, rfl, HB, HK⟩ := hrel
          have hc0 : wr.cell? ⟨w.heap.size, 0, none⟩ = some (.string nm) := by
            rw [HB.out.cell (by rw [← HG.out]; simp)]
            simp
          have hc1 : wr.cell? ⟨w.heap.size, 1, none⟩ = some (.slice A L.length cap) := by
            rw [HB.out.cell (by rw [← HG.out]; simp)]
            simp
          have HBw : Hid (Below g w wr) := HB0.out.trans (HB.out.mono (Nat.le_succ _))
          by_cases hlt : k < L.length
          · obtain ⟨v, hv⟩ : ∃ v, L[k]?.getD ByteArray.empty = v := ⟨_, rfl⟩
            have HR2 := HR1.out.below HB.out (by rw [World.size_alloc, HG.out]; exact Nat.le_refl _)
            have HR3 := Lib.hid HR2
            obtain ⟨p, hp, lp, hcx⟩ := HR2 k hlt
            rw [hv] at hcx
            have hvz : v.size ≤ maxLen := by
              refine hL v ?_
              rw [← hv, List.getElem?_eq_getElem hlt]
              exact List.getElem_mem hlt
            have hdr : L.drop k = v :: L.drop (k + 1) := by rw [← hv, List.getElem?_eq_getElem hlt]; exact List.drop_eq_getElem_cons hlt
            have HTk : Hid (L.take (k + 1) = L.take k ++ [v]) := by show _ = _; rw [List.take_add_one, ← hv, List.getElem?_eq_getElem hlt]; rfl
            have HK2 := HK.out
            rw [hdr] at HK2
            unfold chk at HK2
            have HFt := findI_take v L k 0 hlt (by rw [hv])
            have CF := fun W hW => rfind_any nm v A L cap W hW (by unfold maxLen; exact hl0)
            clear hdr HR2 hv HK
            have C2 := fun W => rname_any v W hvz
            subst hp
            cases hnv : nameB (bytesI v)
            · have E2 : Hid (5 = S) := by show _ = _; rw [← HK2]; simp [hnv]
              rw [hnv] at C2
              have C2 := Lib.hid C2
              clear hnv HK2 HFt CF
              go_wp2_with fail
              refine (C2.out _).mono ?_
              rintro e w2 ⟨rfl, rfl⟩
              go_wp2
              go_ret
              exact ⟨ret_i E2.out, HBw.out⟩
            · rw [hnv] at C2
              have C2 := Lib.hid C2
              generalize findI v L 0 = F at *
              have CF := Lib.hid CF
              cases hin : inB (L.take k) v
              · have hF : ¬ F < k := by have := HFt.2 hin; omega
                have HK3 : Hid (chk (L.take (k + 1)) (L.drop (k + 1)) = S) := by show _ = _; rw [← HK2, HTk.out]; simp [hnv, hin]
                clear hnv HK2 HFt hin
                go_wp2_with fail
                refine (C2.out _).mono ?_
                rintro e w2 ⟨rfl, rfl⟩
                go_wp2_with fail
                have lw : w.heap.size < wr.heap.size := by
                  have := HB.out.size
                  rw [World.size_alloc] at this
                  omega
                go_region_held3 (fun w' => w'.cell? ⟨w.heap.size, 0, none⟩ = some (.string nm) ∧ w'.cell? ⟨w.heap.size, 1, none⟩ = some (.slice (some p) L.length cap) ∧ w'.cell? (p.add k) = some (.string v))
                  (first
                    | go_keep
                    | exact ⟨(K2.cell (by exact lw)).trans hc0, (K2.cell (by exact lw)).trans hc1, (K2.cell (p := p.add k) (by unfold Addr.add; split <;> exact lp)).trans hcx⟩)
                  (first
                    | (go_at_call 17; refine (CF.out _ ?_).mono ?_; exact HR3.out; rintro e w2 ⟨rfl, K2⟩))
                have HB2 : Hid (Below (g + 1) (w.alloc (.cells #[.string nm, .slice (some p) L.length cap] 26)) w2) :=
                  HB.out.drew.trans (K2.mono (by show g + 1 ≤ wr.heap.size; rw [← HG.out]; exact lw))
                clear K2
                go_wp2
                go_roundw
                case rel => exact ⟨k + 1, by omega, by go_num, HB2, HK3⟩
                case measure => simp [intOf]; omega
              · have hF : F < k := by have := HFt.1 hin; omega
                have E2 : Hid (6 = S) := by show _ = _; rw [← HK2]; simp [hnv, hin]
                clear hnv HK2 HFt hin
                go_wp2_with fail
                refine (C2.out _).mono ?_
                rintro e w2 ⟨rfl, rfl⟩
                go_wp2_with fail
                have lw : w.heap.size < wr.heap.size := by
                  have := HB.out.size
                  rw [World.size_alloc] at this
                  omega
                go_region_held3 (fun w' => w'.cell? ⟨w.heap.size, 0, none⟩ = some (.string nm) ∧ w'.cell? ⟨w.heap.size, 1, none⟩ = some (.slice (some p) L.length cap) ∧ w'.cell? (p.add k) = some (.string v))
                  (first
                    | go_keep
                    | exact ⟨(K2.cell (by exact lw)).trans hc0, (K2.cell (by exact lw)).trans hc1, (K2.cell (p := p.add k) (by unfold Addr.add; split <;> exact lp)).trans hcx⟩)
                  (first
                    | (go_at_call 17; refine (CF.out _ ?_).mono ?_; exact HR3.out; rintro e w2 ⟨rfl, K2⟩))
                have HB2 : Hid (Below (g + 1) (w.alloc (.cells #[.string nm, .slice (some p) L.length cap] 26)) w2) :=
                  HB.out.drew.trans (K2.mono (by show g + 1 ≤ wr.heap.size; rw [← HG.out]; exact lw))
                clear K2
                go_wp2
                go_ret
                exact ⟨ret_i E2.out, HB0.out.trans (HB2.out.mono (Nat.le_succ _))⟩
          · have E2 : Hid (0 = S) := by
              show _ = _
              rw [← HK.out, List.drop_of_length_le (by omega)]
              rfl
            go_wp2
            go_ret
            exact ⟨ret_i E2.out, HBw.out⟩
end Go.Proofs.YthpbgdeeajhbjaaDoor
