/- Lists of numbers that the call makes; neighbors. -/
import Derived.Test.YtlbcdnobpnllkaaGreatO
import Derived.Maps.AppendAt
import Derived.OwnWalk
namespace Go.Proofs.YtlbcdnobpnllkaaGreat
open Go.RowKit

def at0 (L : List Int) (k : Nat) : Int := L[k]?.getD 0
def In64 (L : List Int) : Prop := ∀ x ∈ L, -9223372036854775808 ≤ x ∧ x ≤ 9223372036854775807
theorem In64.at {L : List Int} (h : In64 L) (k : Nat) : -9223372036854775808 ≤ at0 L k ∧ at0 L k ≤ 9223372036854775807 := by
  unfold at0
  by_cases hk : k < L.length
  · rw [List.getElem?_eq_getElem hk]; exact h _ (List.getElem_mem hk)
  · rw [List.getElem?_eq_none (by omega)]; simp
def ReadsV (w : World) (A : Option Addr) (zs : List Int) : Prop :=
  ∀ j, j < zs.length → ∃ b off, A = some ⟨b, off, none⟩ ∧ b < w.heap.size ∧ w.cell? ⟨b, off + j, none⟩ = some (.int .i64 (at0 zs j))
theorem ReadsV.nil (w : World) (A : Option Addr) : ReadsV w A [] := fun _ h => absurd h (by simp)
theorem ReadsV.below {w w' : World} {A : Option Addr} {zs : List Int} {B : Nat} (h : ReadsV w A zs) (hb : Below B w w') (hB : w.heap.size ≤ B) : ReadsV w' A zs := fun j hj => by
  obtain ⟨b, off, e, h1, h2⟩ := h j hj
  exact ⟨b, off, e, Nat.lt_of_lt_of_le h1 hb.size, (hb.cell (p := ⟨b, off + j, none⟩) (Nat.lt_of_lt_of_le h1 hB)).trans h2⟩
theorem ReadsV.alloc {w : World} {A : Option Addr} {zs : List Int} (h : ReadsV w A zs) (o : Obj) : ReadsV (w.alloc o) A zs := h.below (B := w.heap.size) ((Below.refl _ _).alloc (Nat.le_refl _) _) (Nat.le_refl _)
theorem ReadsV.own {w : World} {base : Nat} {e : TypeId} {v : Value} {n : Nat} {L : List Int} (h : w.ownsRow base e 1 v n (L.map (Value.int .i64))) : ∃ A c, v = .slice A L.length c ∧ ReadsV w A L := by
  have hl : L.length = n := by have := h.1; simpa using this
  rcases h.2 with ⟨rfl, h0⟩ | ⟨g, cap, cur, rfl, _, hg, _⟩
  · obtain rfl : L = [] := List.eq_nil_of_length_eq_zero (by omega)
    exact ⟨none, 0, rfl, ReadsV.nil _ _⟩
  · refine ⟨_, _, by rw [hl], fun j hj => ⟨_, _, rfl, ?_, ?_⟩⟩
    · have := h.cellAt j (by omega)
      exact World.block_lt_of_cell? w ⟨g, j, none⟩ (by rw [this]; simp [hj]; rfl)
    · rw [Nat.zero_add, h.cellAt j (by omega)]
      simp [hj, at0]
theorem ReadsV.row {w : World} {g : Nat} {t : TypeId} {cs : Array Value} {zs : List Int} (h : w.heap[g]? = some (.cells cs t (0, 0))) (hz : cs = (zs.map (Value.int .i64)).toArray) : ReadsV w (some ⟨g, 0, none⟩) zs := by
  subst hz
  intro j hj
  have hc := cell_of_row w g j _ t (0, 0) h
  refine ⟨g, 0, rfl, ?_, ?_⟩
  · exact World.block_lt_of_cell? w ⟨g, j, none⟩ (by rw [hc]; simp [hj]; rfl)
  · rw [Nat.zero_add, hc]
    simp [hj, at0]
theorem list_at0 (a : List Int) : (List.range a.length).map (at0 a) = a := by
  apply List.ext_getElem
  · simp
  · intro i h1 h2
    simp at h1
    simp [at0, h1]
theorem own_below {w w' : World} {base : Nat} {e : TypeId} {size : Nat} {v : Value} {n : Nat} {xs : List Value} {B : Nat} (h : w.ownsRow base e size v n xs) (hb : Below B w w') (hB : w.heap.size ≤ B) : w'.ownsRow base e size v n xs := by
  refine ⟨h.1, ?_⟩
  rcases h.2 with h0 | ⟨g, cap, cur, h1, h2, h3, h4⟩
  · exact .inl h0
  · refine .inr ⟨g, cap, cur, h1, h2, ?_, h4⟩
    have hg : g < w.heap.size := (h.lt g (by rw [h1]; rfl)).2
    rw [hb.block g (by omega)]
    exact h3
theorem own_put {w : World} {base : Nat} {e : TypeId} {g n cap : Nat} {L : List Int} (h : w.ownsRow base e 1 (.slice (some ⟨g, 0, none⟩) n cap) n (L.map (Value.int .i64))) (i : Nat) (x : Int) :
    (w.setCell ⟨g, i, none⟩ (.int .i64 x)).ownsRow base e 1 (.slice (some ⟨g, 0, none⟩) n cap) n ((L.set i x).map (Value.int .i64)) := by
  rw [List.map_set]
  exact (h.stored i (.int .i64 x)).1
theorem own_cell {w : World} {base : Nat} {e : TypeId} {g n cap : Nat} {L : List Int} (h : w.ownsRow base e 1 (.slice (some ⟨g, 0, none⟩) n cap) n (L.map (Value.int .i64))) (i : Nat) (hi : i < L.length) :
    w.cell? ⟨g, i, none⟩ = some (.int .i64 (at0 L i)) := by
  have hl : L.length = n := by have := h.1; simpa using this
  rw [h.cellAt i (by omega)]
  simp [hi, at0]

theorem at_of_reads {w : World} {A : Option Addr} {zs : List Int} (h : ReadsV w A zs) (k : Nat) (hk : k < zs.length) : ∃ b off, A = some ⟨b, off, none⟩ ∧ w.cell? ⟨b, off + k, none⟩ = some (.int .i64 (at0 zs k)) := by
  obtain ⟨b, off, h1, _, h2⟩ := h k hk
  exact ⟨b, off, h1, h2⟩
/-- a list, element by element -/
def tab (n : Nat) (f : Nat → Int) : List Int := (List.range n).map f
theorem tab_len (n : Nat) (f : Nat → Int) : (tab n f).length = n := by simp [tab]
theorem tab_at (n : Nat) (f : Nat → Int) (k : Nat) (hk : k < n) : at0 (tab n f) k = f k := by simp [tab, at0, hk]
theorem tab_self (a : List Int) : tab a.length (at0 a) = a := list_at0 a
theorem tab_congr {n : Nat} {f g : Nat → Int} (h : ∀ k, k < n → f k = g k) : tab n f = tab n g := List.map_congr_left fun k hk => h k (List.mem_range.1 hk)
theorem tab_snoc (k : Nat) (f : Nat → Int) : tab (k + 1) f = tab k f ++ [f k] := by
  unfold tab
  rw [List.range_succ, List.map_append]
  rfl
theorem tab_set (n k : Nat) (f g : Nat → Int) : (tab n fun j => if j < k then f j else g j).set k (f k) = tab n fun j => if j < k + 1 then f j else g j := by
  apply List.ext_getElem
  · simp [tab]
  · intro i h1 h2
    simp only [tab, List.getElem_set, List.getElem_map, List.getElem_range]
    by_cases h : k = i
    · subst h; simp
    · rw [if_neg h]
      by_cases h3 : i < k
      · rw [if_pos h3, if_pos (by omega)]
      · rw [if_neg h3, if_neg (by omega)]
theorem tab_none (n : Nat) (f g : Nat → Int) : (tab n fun j => if j < 0 then f j else g j) = tab n g := tab_congr fun k _ => by rw [if_neg (by omega)]
theorem tab_all (n : Nat) (f g : Nat → Int) : (tab n fun j => if j < n then f j else g j) = tab n f := tab_congr fun k hk => by rw [if_pos hk]
theorem tab_at_set (n k : Nat) (f g : Nat → Int) (hk : k < n) : at0 (tab n fun j => if j < k then f j else g j) k = g k := by rw [tab_at _ _ _ hk, if_neg (by omega)]


theorem info_parts {i0 : Option TypeInfo} {z : Option Value} {s b : Nat} (h : i0.map (fun i => (i.zero, i.size, i.bytes)) = some (z, s, b)) : ∃ i, i0 = some i ∧ i.zero = z ∧ i.size = s ∧ i.bytes = b := by
  cases i0 with
  | none => simp at h
  | some i => simp at h; exact ⟨i, rfl, h.1, h.2.1, h.2.2⟩
theorem infoI : (Tryz.prog.info? 3).map (fun i => (i.zero, i.size, i.bytes)) = some (some (.int .i64 0), 1, 8) := by kernel_rfl
theorem one_cellI (x : Int) : ∀ u ∈ [Value.int .i64 x], u.oneCell' = true := by simp [Value.oneCell']
def IsPost (g : Nat) (w : World) (L : List Int) (e : Ending) (w' : World) : Prop := ∃ A c, e = .returned (.slice A L.length c) ∧ ReadsV w' A L ∧ Below g w w'
def vI (L : List Int) : List Value := L.map (Value.int .i64)
theorem vI_snoc (L : List Int) (x : Int) : vI (L ++ [x]) = vI L ++ [.int .i64 x] := by simp [vI]
theorem vI_len (L : List Int) : (vI L).length = L.length := by simp [vI]
def targetsV (l : List (Int × Int)) : List Int := l.map (·.1)
theorem targets_snoc (l : List (Int × Int)) (k : Nat) (hk : k < l.length) : targetsV (l.take (k + 1)) = targetsV (l.take k) ++ [aP l k] := by
  unfold targetsV aP
  rw [List.take_add_one, List.getElem?_eq_getElem hk, List.map_append]
  rfl
theorem isT_val {n : NetV} {t : Int} : isT n t = true ↔ (0 ≤ t ∧ t < n.ts.length ∧ okN n = true) := by
  unfold isT
  simp [and_assoc]

set_option maxHeartbeats 1000000 in
theorem places_any (A : Option Addr) (l : List (Int × Int)) (c : Nat) (w : World) (hr : ReadsA w A l) (hl : l.length ≤ 1000) :
    Calls Tryz.prog 81 #[.slice A l.length c] w (IsPost w.heap.size w (targetsV l)) := by
  obtain ⟨i0, hi, hz0, hz1, hz2⟩ := info_parts infoI
  have HI := Lib.hid hi
  have HZ0 := Lib.hid hz0
  have HZ1 := Lib.hid hz1
  have HZ2 := Lib.hid hz2
  clear hi hz0 hz1 hz2
  have HR := Lib.hid hr
  clear hr
  generalize hg : w.heap.size = g at *
  have HG := Lib.hid hg
  clear hg
  generalize hn : l.length = n at *
  have HN := Lib.hid hn
  clear hn
  go_enter Tryz.func81, Tryz.ntmps81
  go_wp2
  go_loopw [3, 8] (fun v q wr => ∃ k : Nat, k ≤ n ∧ q = .int .i64 k ∧ Hid (wr.ownsRow g 3 1 v k (vI (targetsV (l.take k)))) ∧ Hid (Below g w wr)) (fun _ q _ => n - (intOf q).toNat)
  case atStart => exact ⟨0, by omega, rfl, World.ownsRow_nil _ _ _ _, Below.refl _ _⟩
  case round =>
    obtain ⟨k, hk, rfl, O, HB⟩ := hrel
    have hsz := HB.out.size
    rw [HG.out] at hsz
    by_cases hlt : k < n
    · obtain ⟨b0, off, rfl, hb0, hc0, hc1⟩ := (HR.out.below HB.out (by rw [HG.out]; exact Nat.le_refl _)) k (by rw [HN.out]; exact hlt)
      have HE := Lib.hid (targets_snoc l k (by rw [HN.out]; exact hlt))
      generalize aP l k = x at *
      generalize aW l k = u at *
      have b1 : k + 1 ≤ maxLen := by unfold maxLen; omega
      have b2 : (k + 1) * 8 ≤ 140737488355328 := by omega
      have b3 : g ≤ ((wr.alloc (.cells #[.int .i64 x, .int .i64 u] 69)).alloc (.cells #[.int .i64 x] 3)).heap.size := by simp only [World.size_alloc]; omega
      have b4 : Hid (∀ q, u3.ownBlock = some q → g ≤ q) := fun q e => (O.out.lt q e).1
      have BA : Hid (Below g w ((wr.alloc (.cells #[.int .i64 x, .int .i64 u] 69)).alloc (.cells #[.int .i64 x] 3))) := (HB.out.alloc hsz _).alloc (by simp only [World.size_alloc]; omega) _
      have CN1 : Hid (∀ j y, [Value.int .i64 x][j]? = some y → ((wr.alloc (.cells #[.int .i64 x, .int .i64 u] 69)).alloc (.cells #[.int .i64 x] 3)).cell? ((⟨wr.heap.size + 1, 0, none⟩ : Addr).add j) = some y) := by
        have h := cell_one_new (wr.alloc (.cells #[.int .i64 x, .int .i64 u] 69)) (.int .i64 x) 3
        rw [World.size_alloc] at h
        exact h
      go_wp2_with (at_builtin; (refine wpList_append_own _ rfl (.tmp 12) (.tmp 15) 34 rfl g 3 i0 (.int .i64 0) 1 8 Tryz.underlying34 HI.out HZ0.out HZ1.out HZ2.out rfl (by decide) u3 k _ rfl ((O.out.alloc _).alloc _) ⟨wr.heap.size + 1, 0, none⟩ 1 1 [.int .i64 x] rfl rfl (CN1.out) (one_cellI _) b1 b2 b3 ?_); intro v' w5 hown' hgrow _)
      have O5 : Hid (w5.ownsRow g 3 1 v' (k + 1) (vI (targetsV (l.take (k + 1))))) := by
        show World.ownsRow _ _ _ _ _ _ _
        rw [HE.out, vI_snoc]
        exact hown'
      have B5 : Hid (Below g w w5) := BA.out.grown hgrow b3 b4.out
      clear hown' hgrow
      go_wp2
      go_roundw
      case rel => exact ⟨k + 1, by omega, by go_num, O5, B5⟩
      case measure => simp [intOf]; omega
    · obtain rfl : k = n := by omega
      have e : l.take k = l := List.take_of_length_le (by rw [HN.out]; exact Nat.le_refl _)
      rw [e] at O
      obtain ⟨A2, c2, h1, h2⟩ := ReadsV.own O.out
      have H2 := Lib.hid h2
      clear O e h2
      subst h1
      go_wp2
      go_ret
      exact ⟨A2, c2, rfl, H2.out, HB.out⟩

set_option maxHeartbeats 1000000 in
theorem rtargets_any (A : Option Addr) (l : List (Int × Int)) (c : Nat) (w : World) (hr : ReadsA w A l) (hl : l.length ≤ 1000) :
    Calls Tryz.prog 38 #[.slice A l.length c] w (IsPost w.heap.size w (targetsV l)) := by
  obtain ⟨i0, hi, hz0, hz1, hz2⟩ := info_parts infoI
  have HI := Lib.hid hi
  have HZ0 := Lib.hid hz0
  have HZ1 := Lib.hid hz1
  have HZ2 := Lib.hid hz2
  clear hi hz0 hz1 hz2
  have HR := Lib.hid hr
  clear hr
  generalize hg : w.heap.size = g at *
  have HG := Lib.hid hg
  clear hg
  generalize hn : l.length = n at *
  have HN := Lib.hid hn
  clear hn
  go_enter Tryz.func38, Tryz.ntmps38
  go_wp2
  go_loopw [3, 4] (fun v q wr => ∃ k : Nat, k ≤ n ∧ q = .int .i64 k ∧ Hid (wr.ownsRow g 3 1 v k (vI (targetsV (l.take k)))) ∧ Hid (Below g w wr)) (fun _ q _ => n - (intOf q).toNat)
  case atStart => exact ⟨0, by omega, rfl, World.ownsRow_nil _ _ _ _, Below.refl _ _⟩
  case round =>
    obtain ⟨k, hk, rfl, O, HB⟩ := hrel
    have hsz := HB.out.size
    rw [HG.out] at hsz
    by_cases hlt : k < n
    · obtain ⟨b0, off, rfl, hb0, hc0, hc1⟩ := (HR.out.below HB.out (by rw [HG.out]; exact Nat.le_refl _)) k (by rw [HN.out]; exact hlt)
      have HE := Lib.hid (targets_snoc l k (by rw [HN.out]; exact hlt))
      generalize aP l k = x at *
      generalize aW l k = u at *
      have b1 : k + 1 ≤ maxLen := by unfold maxLen; omega
      have b2 : (k + 1) * 8 ≤ 140737488355328 := by omega
      have b3 : g ≤ (wr.alloc (.cells #[.int .i64 x] 3)).heap.size := by simp only [World.size_alloc]; omega
      have b4 : Hid (∀ q, u3.ownBlock = some q → g ≤ q) := fun q e => (O.out.lt q e).1
      have BA : Hid (Below g w (wr.alloc (.cells #[.int .i64 x] 3))) := HB.out.alloc hsz _
      go_wp2_with (at_builtin; (refine wpList_append_own _ rfl (.tmp 11) (.tmp 17) 34 rfl g 3 i0 (.int .i64 0) 1 8 Tryz.underlying34 HI.out HZ0.out HZ1.out HZ2.out rfl (by decide) u3 k _ rfl (O.out.alloc _) ⟨wr.heap.size, 0, none⟩ 1 1 [.int .i64 x] rfl rfl (cell_one_new _ _ _) (one_cellI _) b1 b2 b3 ?_); intro v' w5 hown' hgrow _)
      have O5 : Hid (w5.ownsRow g 3 1 v' (k + 1) (vI (targetsV (l.take (k + 1))))) := by
        show World.ownsRow _ _ _ _ _ _ _
        rw [HE.out, vI_snoc]
        exact hown'
      have B5 : Hid (Below g w w5) := BA.out.grown hgrow b3 b4.out
      clear hown' hgrow
      go_wp2
      go_roundw
      case rel => exact ⟨k + 1, by omega, by go_num, O5, B5⟩
      case measure => simp [intOf]; omega
    · obtain rfl : k = n := by omega
      have e : l.take k = l := List.take_of_length_le (by rw [HN.out]; exact Nat.le_refl _)
      rw [e] at O
      obtain ⟨A2, c2, h1, h2⟩ := ReadsV.own O.out
      have H2 := Lib.hid h2
      clear O e h2
      subst h1
      go_wp2
      go_ret
      exact ⟨A2, c2, rfl, H2.out, HB.out⟩

set_option maxHeartbeats 2000000 in
set_option maxRecDepth 100000 in
theorem isTrans_any (n : NetV) (t : Int) (w : World) (hr : NetR w n)  :
    Calls Tryz.prog 80 #[.agg #[.string n.nm, .slice n.PA n.ps.length n.pc, .slice n.TA n.ts.length n.tc], .int .i64 t] w (VPost w.heap.size w (.bool (isT n t))) := by
  have CV := fun W (hW : Below w.heap.size w W) => validN_any n W (hr.below hW (Nat.le_refl _))
  have RP := fun W (hW : Below w.heap.size w W) => (hr.below hW (Nat.le_refl _)).rp
  have RT := fun W (hW : Below w.heap.size w W) => (hr.below hW (Nat.le_refl _)).rt
  have hD := @isT_val n t
  generalize isT n t = S at *
  obtain ⟨nm, PA, ps, pc, TA, ts, tc⟩ := n
  obtain ⟨hnm, ⟨hlp, hzp⟩, ⟨hlt, hzt⟩, hpc, htc, _, _⟩ := hr
  dsimp only at hnm hlp hzp hlt hzt hpc htc RP RT
  dsimp only at hD CV
  replace RP := Lib.hid RP
  replace RT := Lib.hid RT
  have HZT := Lib.hid hzt
  have HZP := Lib.hid hzp
  clear hzt hzp
  have B0 : Hid (Below w.heap.size w (w.alloc (.cells #[.string nm, .slice PA ps.length pc, .slice TA ts.length tc] 25))) := (Below.refl _ _).alloc (Nat.le_refl _) _
  cases hv : okN ⟨nm, PA, ps, pc, TA, ts, tc⟩
  all_goals
    rw [hv] at CV hD
    have HD := Lib.hid hD
    clear hD hv
    replace CV := Lib.hid CV
    by_cases h1 : 0 ≤ t
    · by_cases h2 : t < ts.length
      · have E : Hid (true = S ∨ false = S) := by cases S; exact .inr rfl; exact .inl rfl
        go_enter Tryz.func80, Tryz.ntmps80
        go_wp2_with fail
        refine (CV.out _ B0.out).mono ?_
        rintro e w1 ⟨rfl, K⟩
        have K2 := Lib.hid (B0.out.trans (K.mono (by rw [World.size_alloc]; omega)))
        clear K
        go_wp2
        go_ret
        refine ⟨ret_b ?_, K2.out⟩
        have hd := HD.out
        cases S <;> simp [h1, h2] at hd ⊢
      · have E : Hid (false = S) := by
          show _ = _
          have hd := HD.out
          cases S
          · rfl
          · exact absurd (hd.1 rfl).2.1 h2
        go_enter Tryz.func80, Tryz.ntmps80
        go_wp2
        go_ret
        exact ⟨ret_b E.out, B0.out⟩
    · have E : Hid (false = S) := by
        show _ = _
        have hd := HD.out
        cases S
        · rfl
        · exact absurd (hd.1 rfl).1 h1
      go_enter Tryz.func80, Tryz.ntmps80
      go_wp2
      go_ret
      exact ⟨ret_b E.out, B0.out⟩
end Go.Proofs.YtlbcdnobpnllkaaGreat
