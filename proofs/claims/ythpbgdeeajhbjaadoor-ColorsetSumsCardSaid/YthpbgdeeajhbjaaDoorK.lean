/- The search by a map from values to indices; cyclic shifts. -/
import Derived.Test.YthpbgdeeajhbjaaDoorI
import Derived.Maps.OwnOps
namespace Go.Proofs.YthpbgdeeajhbjaaDoor
open Go.RowKit Go.Maps Go.WideMaps

theorem inB_snoc (l : List ByteArray) (x v : ByteArray) : inB (l ++ [x]) v = (inB l v || decide (x.data = v.data)) := by
  unfold inB
  rw [List.any_append]
  simp
theorem findI_snoc (v x : ByteArray) : ∀ (l : List ByteArray) (i : Int), findI v (l ++ [x]) i = if inB l v then findI v l i else if x.data = v.data then i + l.length else -1
  | [], i => by simp [findI, inB]
  | y :: r, i => by
    rw [List.cons_append, findI, inB_cons, findI_snoc v x r (i + 1)]
    by_cases h : y.data = v.data
    · simp [h, findI]
    · simp only [h, if_false, decide_false, Bool.false_or]
      rw [findI, if_neg h]
      simp only [List.length_cons]
      split
      · rfl
      · split
        · push_cast; omega
        · rfl
theorem findI_none (v : ByteArray) : ∀ (l : List ByteArray) (i : Int), inB l v = false → findI v l i = -1
  | [], _, _ => rfl
  | y :: r, i, h => by
    rw [inB_cons, Bool.or_eq_false_iff] at h
    rw [findI, if_neg (by simpa using h.1)]
    exact findI_none v r _ h.2

/-- the map after the first k values -/
def idxD {H : Type} (L : List ByteArray) : Nat → DataW H
  | 0 => .map []
  | k + 1 => if inB (L.take k) (L[k]?.getD ByteArray.empty) then idxD L k else (idxD L k).put (keyB (L[k]?.getD ByteArray.empty)) (.lit (.int .i64 k))
theorem isMap_idxD {H : Type} (L : List ByteArray) : ∀ k, IsMap (idxD (H := H) L k)
  | 0 => isMap_empty
  | k + 1 => by
    unfold idxD
    split
    · exact isMap_idxD L k
    · exact (isMap_idxD L k).put _ _
theorem take_snocB {L : List ByteArray} {k : Nat} (hk : k < L.length) : L.take (k + 1) = L.take k ++ [L[k]?.getD ByteArray.empty] := by
  rw [List.take_add_one, List.getElem?_eq_getElem hk]
  rfl
theorem key_lit (s : ByteArray) : WideAt.IsKeyLit (keyB s) := trivial
theorem idx_has {H : Type} (L : List ByteArray) (v : ByteArray) : ∀ k, k ≤ L.length → Maps.has (idxD (H := H) L k) (keyB v) = inB (L.take k) v
  | 0, _ => rfl
  | k + 1, hk => by
    have ih := idx_has (H := H) L v k (by omega)
    rw [take_snocB (by omega), inB_snoc]
    unfold idxD
    generalize L[k]?.getD ByteArray.empty = x at *
    by_cases h : x.data = v.data
    · obtain rfl := ext_data h
      simp only [decide_true, Bool.or_true]
      split
      · rename_i h1
        rw [ih, h1]
      · exact has_put_same (isMap_idxD L k) (key_lit x) _
    · simp only [h, decide_false, Bool.or_false]
      split
      · exact ih
      · rw [has_put_other (fun e => h (by rw [keyB_inj e]))]
        exact ih
theorem idx_at {H : Type} (L : List ByteArray) (v : ByteArray) (z : DataW H) : ∀ k, k ≤ L.length → inB (L.take k) v = true → (idxD (H := H) L k).atKey (keyB v) z = .lit (.int .i64 (findI v (L.take k) 0))
  | 0, _, h => by simp [inB] at h
  | k + 1, hk, h => by
    rw [take_snocB (by omega)] at h ⊢
    have ih := idx_at (H := H) L v z k (by omega)
    rw [inB_snoc] at h
    rw [findI_snoc]
    unfold idxD
    have hl : (L.take k).length = k := by simp; omega
    generalize L[k]?.getD ByteArray.empty = x at *
    cases hi : inB (L.take k) v
    · rw [hi] at h
      have hx : x.data = v.data := by simpa using h
      obtain rfl := ext_data hx
      rw [hi]
      simp only [Bool.false_eq_true, if_false, if_true]
      rw [atKey_put_same (isMap_idxD L k) (key_lit x), hl]
      simp
    · rw [hi] at ih
      simp only [if_true]
      split
      · exact ih rfl
      · rename_i hn
        have hne : x.data ≠ v.data := by
          intro e
          obtain rfl := ext_data e
          exact hn hi
        rw [atKey_put_other (fun e => hne (by rw [keyB_inj e]))]
        exact ih rfl

def IdxPost (g : Nat) (w : World) (L : List ByteArray) (e : Ending) (w' : World) : Prop :=
  ∃ M, e = .returned (.map (some M)) ∧ w'.ownsMap Tryd.prog 9 (plainElem (H := Unit) Tryd.prog 3) M L.length (idxD L L.length) ∧ Below g w w'
theorem zero_i (w : World) : (zeroValue 3).run Tryd.prog w = .ok (.int .i64 0) w := by kernel_rfl

set_option maxHeartbeats 4000000 in
set_option maxRecDepth 100000 in
theorem indices_any (nm : ByteArray) (A : Option Addr) (L : List ByteArray) (cap : Nat) (w : World) (hL : ∀ s ∈ L, s.size ≤ maxLen) (hr : ReadsSO w A L) (hl0 : L.length ≤ 40) :
    Calls Tryd.prog 34 #[.agg #[.string nm, .slice A L.length cap]] w (IdxPost w.heap.size w L) := by
  have hmm := @run_makeMap Tryd.prog
  have HR := Lib.hid hr
  clear hr
  have hc2 : ((w.alloc (.cells #[.string nm, .slice A L.length cap] 26)).alloc (.map #[] 0)).cell? ⟨w.heap.size, 1, none⟩ = some (.slice A L.length cap) := by
    rw [World.cell?_alloc_lt (h := by simp)]
    exact (World.cell?_alloc_new _ _ _ _).trans rfl
  have B0 : Hid (Below w.heap.size w (w.alloc (.cells #[.string nm, .slice A L.length cap] 26))) := (Below.refl _ _).alloc (Nat.le_refl _) _
  go_enter Tryd.func34, Tryd.ntmps34
  go_wp2_with fail
  go_loopw [12] (fun q wr => ∃ k : Nat, k ≤ L.length ∧ q = .int .i64 k ∧ Hid (wr.ownsMap Tryd.prog 9 (plainElem (H := Unit) Tryd.prog 3) (w.heap.size + 1) k (idxD L k)) ∧ Hid (Below w.heap.size w wr)) (fun q _ => L.length - (intOf q).toNat)
  case atStart =>
    refine ⟨0, by omega, rfl, ?_, ?_⟩
    · show World.ownsMap _ _ _ _ _ _ _
      have := World.ownsMap_made (H := Unit) (w.alloc (.cells #[.string nm, .slice A L.length cap] 26)) Tryd.prog 9 (plainElem Tryd.prog 3)
      simp only [World.size_alloc] at this
      exact this
    · exact B0.out.alloc (by rw [World.size_alloc]; omega) _
  case round =>
    obtain ⟨k, hk, rfl, HO, HB⟩ := hrel
    by_cases hlt : k < L.length
    · obtain ⟨p, hp, _, hcx⟩ := (HR.out.below HB.out (Nat.le_refl _)) k hlt
      subst hp
      have hvm : L[k]?.getD ByteArray.empty ∈ L := by rw [List.getElem?_eq_getElem hlt]; exact List.getElem_mem hlt
      have hvz := hL _ hvm
      have HH : Hid (Maps.has (idxD (H := Unit) L k) (keyB (L[k]?.getD ByteArray.empty)) = inB (L.take k) (L[k]?.getD ByteArray.empty)) := idx_has L _ k hk
      have HS : Hid (idxD (H := Unit) L (k + 1) = if inB (L.take k) (L[k]?.getD ByteArray.empty) then idxD L k else (idxD L k).put (keyB (L[k]?.getD ByteArray.empty)) (.lit (.int .i64 k))) := rfl
      clear hvm
      generalize L[k]?.getD ByteArray.empty = v at *
      have hkey : keyOf Tryd.prog 9 (.string v) = some (keyB v) := keyOf_string_mk Tryd.underlying9 hvz
      have hwf : (Lit.int .i64 (k : Int)).wf = true := WalkArith.wf_i64 (by omega)
      obtain ⟨v0, ps, hrun, _⟩ := HO.out.look_ok law_s Tryd.underlying47 (zero_i wr) (plainElem_int Tryd.underlying3 (by decide)) hkey
      rw [HH.out] at hrun
      cases hin : inB (L.take k) v
      · rw [hin] at hrun
        have E : Hid (idxD (H := Unit) L (k + 1) = (idxD L k).put (keyB v) (.lit (.int .i64 k))) := by have h := HS.out; rw [hin] at h; exact h
        clear hin HS HH
        go_wp2_with (first
          | (at_mapUpdate; refine wpList_mapUpdate_own _ rfl _ _ _ 47 rfl 9 3 law_s Tryd.underlying47 (plainElem (H := Unit) Tryd.prog 3) (w.heap.size + 1) k _ rfl HO.out (by unfold maxLen; omega) _ _ _ rfl rfl hkey _ [] (plainElem_int Tryd.underlying3 hwf) ?_; intro w3 hown3 hgrow3)
          | go_in)
        go_roundw
        case rel =>
          refine ⟨k + 1, by omega, by go_num, ?_, ?_⟩
          · show World.ownsMap _ _ _ _ _ _ _
            rw [E.out]
            exact hown3
          · refine HB.out.grown hgrow3 HB.out.size (fun j hj => ?_)
            cases hj
            omega
        case measure => simp [intOf]; omega
      · rw [hin] at hrun
        have E : Hid (idxD (H := Unit) L (k + 1) = idxD L k) := by have h := HS.out; rw [hin] at h; exact h
        clear hin HS HH
        go_wp2
        go_roundw
        case rel => exact ⟨k + 1, by omega, by go_num, by show World.ownsMap _ _ _ _ _ _ _; rw [E.out]; exact HO.out.mono (Nat.le_succ _), HB⟩
        case measure => simp [intOf]; omega
    · obtain rfl : k = L.length := by omega
      go_wp2
      go_ret
      exact ⟨_, rfl, HO.out, HB.out⟩

theorem find_any (nm v : ByteArray) (A : Option Addr) (L : List ByteArray) (cap : Nat) (w : World) (hv : v.size ≤ maxLen) (hL : ∀ s ∈ L, s.size ≤ maxLen) (hr : ReadsSO w A L) (hl0 : L.length ≤ 40) :
    Calls Tryd.prog 16 #[.agg #[.string nm, .slice A L.length cap], .string v] w fun e w' => e = .returned (.int .i64 (findI v L 0)) ∧ Below w.heap.size w w' := by
  have B0 : Hid (Below w.heap.size w (w.alloc (.cells #[.string nm, .slice A L.length cap] 26))) := (Below.refl _ _).alloc (Nat.le_refl _) _
  have C := Lib.hid (indices_any nm A L cap (w.alloc (.cells #[.string nm, .slice A L.length cap] 26)) hL (hr.below B0.out (Nat.le_refl _)) hl0)
  clear hr
  have hkey : keyOf Tryd.prog 9 (.string v) = some (keyB v) := keyOf_string_mk Tryd.underlying9 hv
  have HH : Hid (Maps.has (idxD (H := Unit) L L.length) (keyB v) = inB L v) := by
    have h := idx_has (H := Unit) L v L.length (Nat.le_refl _)
    rw [List.take_length] at h
    exact h
  have HA : Hid (inB L v = true → (idxD (H := Unit) L L.length).atKey (keyB v) (.lit (.int .i64 0)) = .lit (.int .i64 (findI v L 0))) := fun h => by
    have e := idx_at (H := Unit) L v (.lit (.int .i64 0)) L.length (Nat.le_refl _)
    rw [List.take_length] at e
    exact e h
  have HN : Hid (inB L v = false → findI v L 0 = -1) := findI_none v L 0
  generalize findI v L 0 = F at *
  generalize inB L v = t at *
  cases t
  · have E := Lib.hid (HN.out rfl)
    go_enter Tryd.func16, Tryd.ntmps16
    go_wp2_with fail
    refine C.out.mono ?_
    rintro e w1 ⟨M, rfl, HO, HB⟩
    have HO := Lib.hid HO
    have HB := Lib.hid HB
    obtain ⟨v0, ps, hrun, _⟩ := HO.out.look_ok law_s Tryd.underlying47 (zero_i w1) (plainElem_int Tryd.underlying3 (by decide)) hkey
    rw [HH.out] at hrun
    go_wp2
    go_ret
    exact ⟨by rw [E.out]; rfl, B0.out.trans (HB.out.mono (by rw [World.size_alloc]; omega))⟩
  · have E := Lib.hid (HA.out rfl)
    go_enter Tryd.func16, Tryd.ntmps16
    go_wp2_with fail
    refine C.out.mono ?_
    rintro e w1 ⟨M, rfl, HO, HB⟩
    have HO := Lib.hid HO
    have HB := Lib.hid HB
    obtain ⟨v0, ps, hrun, hat⟩ := HO.out.look_ok law_s Tryd.underlying47 (zero_i w1) (plainElem_int (H := Unit) Tryd.underlying3 (by decide)) hkey
    rw [HH.out] at hrun
    obtain rfl : v0 = .int .i64 F := by
      rw [E.out] at hat
      obtain ⟨c, rfl, hc, _⟩ := plainElem_int_inv Tryd.underlying3 hat
      have := congrArg Prod.fst hc
      simp only [DataW.lit.injEq, Lit.int.injEq] at this
      rw [this.2]
    clear hat
    go_wp2
    go_ret
    exact ⟨rfl, B0.out.trans (HB.out.mono (by rw [World.size_alloc]; omega))⟩
end Go.Proofs.YthpbgdeeajhbjaaDoor
