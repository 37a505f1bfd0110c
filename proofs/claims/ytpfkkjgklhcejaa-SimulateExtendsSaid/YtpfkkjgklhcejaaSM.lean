/- Runs of a net by weights: the mathematics. -/
import Derived.Test.YtpfkkjgklhcejaaFN
import Derived.Test.YtpfkkjgklhcejaaRd
namespace Go.Proofs.Ytpfkkjgklhcejaa
open Go.RowKit

/-- the weights of those of the first j transitions of a list -/
def posJ (may ws : List Int) (j : Nat) (t : Nat) : Int := if (t : Int) ∈ may.take j then at0 ws t else 0
def posL (n : NetV) (ws m : List Int) : List Int := tab ws.length (posJ (firesV n m) ws (firesV n m).length)
def sumJ (may ws : List Int) (j : Nat) : Int := ((may.take j).map fun v => at0 ws v.toNat).sum
theorem posJ_zero (may ws : List Int) (t : Nat) : posJ may ws 0 t = 0 := by unfold posJ; simp
theorem posJ_step {may : List Int} (ws : List Int) {j : Nat} (h : j < may.length) (t : Nat) : posJ may ws (j + 1) t = if (t : Int) = at0 may j then at0 ws t else posJ may ws j t := by
  have e : at0 may j = may[j] := by simp [at0, h]
  unfold posJ
  rw [List.take_succ_eq_append_getElem h, e]
  by_cases h1 : (t : Int) = may[j]
  · rw [if_pos h1, if_pos (by rw [h1]; exact List.mem_append_right _ (List.mem_singleton.2 rfl))]
  · rw [if_neg h1]
    by_cases h2 : (t : Int) ∈ may.take j
    · rw [if_pos h2, if_pos (List.mem_append_left _ h2)]
    · rw [if_neg h2, if_neg]
      intro h3
      rcases List.mem_append.1 h3 with h3 | h3
      · exact h2 h3
      · exact h1 (List.mem_singleton.1 h3)
theorem sumJ_zero (may ws : List Int) : sumJ may ws 0 = 0 := by unfold sumJ; simp
theorem sumJ_step {may : List Int} (ws : List Int) {j : Nat} (h : j < may.length) : sumJ may ws (j + 1) = sumJ may ws j + at0 ws (at0 may j).toNat := by
  have e : at0 may j = may[j] := by simp [at0, h]
  unfold sumJ
  rw [List.take_succ_eq_append_getElem h, List.map_append, List.sum_append, e]
  simp
theorem posL_len (n : NetV) (ws m : List Int) : (posL n ws m).length = ws.length := tab_len _ _
theorem posL_at (n : NetV) (ws m : List Int) (t : Nat) (ht : t < ws.length) : at0 (posL n ws m) t = if (t : Int) ∈ firesV n m then at0 ws t else 0 := by
  unfold posL
  rw [tab_at _ _ _ ht]
  unfold posJ
  rw [List.take_length]
/-- weights that are in range -/
def okW (ws : List Int) : Bool := allB ws.length fun k => decide (0 ≤ at0 ws k ∧ at0 ws k ≤ 1000)
theorem okW_at {ws : List Int} (h : okW ws = true) (k : Nat) : 0 ≤ at0 ws k ∧ at0 ws k ≤ 1000 := by
  by_cases hk : k < ws.length
  · have := allB_iff.1 h k hk
    simpa using this
  · unfold at0
    rw [List.getElem?_eq_none (by omega)]
    decide
theorem okI_of {l : List Int} (h : ∀ k, k < l.length → 0 ≤ at0 l k ∧ at0 l k ≤ 1000) : Rd.okI l = true := by
  unfold Rd.okI
  rw [List.all_eq_true]
  intro x hx
  obtain ⟨k, hk, e⟩ := List.getElem_of_mem hx
  have := h k hk
  unfold at0 at this
  rw [List.getElem?_eq_getElem hk] at this
  simp only [Option.getD_some] at this
  rw [decide_eq_true_eq, ← e]
  exact this
theorem posL_ok {n : NetV} {ws m : List Int} (h : okW ws = true) : Rd.okI (posL n ws m) = true := okI_of fun k hk => by
  rw [posL_len] at hk
  rw [posL_at _ _ _ _ hk]
  have := okW_at h k
  split <;> omega
theorem pickI_lt {f : Nat → Bool} {n : Nat} {v : Int} (h : v ∈ pickI f n) : 0 ≤ v ∧ v < n ∧ f v.toNat = true := by
  rw [pickI_eq, List.mem_map] at h
  obtain ⟨k, hk, e⟩ := h
  rw [List.mem_filter, List.mem_range] at hk
  subst e
  exact ⟨by omega, by omega, hk.2⟩
theorem sum_pick (f : Nat → Bool) (g : Nat → Int) : ∀ n : Nat, ((pickI f n).map fun v => g v.toNat).sum = Rd.sumI (tab n fun t => if f t = true then g t else 0)
  | 0 => by simp [pickI_eq, tab, Rd.sumI]
  | n + 1 => by
    rw [tab_snoc, Rd.sumI_snoc, ← sum_pick f g n]
    by_cases h : f n = true
    · rw [pickI_yes f n h, List.map_append, List.sum_append, if_pos h]
      simp
    · have h : f n = false := by simpa using h
      rw [pickI_no f n h, if_neg (by rw [h]; decide)]
      omega
theorem sumJ_all {n : NetV} {ws m : List Int} (hl : ws.length = n.ts.length) : sumJ (firesV n m) ws (firesV n m).length = Rd.sumI (posL n ws m) := by
  unfold sumJ
  rw [List.take_length]
  have e : posL n ws m = tab n.ts.length (fun t => if mayB n m t = true then at0 ws t else 0) := by
    unfold posL
    rw [hl]
    refine tab_congr fun t ht => ?_
    unfold posJ
    rw [List.take_length]
    by_cases h : mayB n m t = true
    · rw [if_pos h, if_pos (mem_fires.2 ⟨by omega, by omega, by simpa using h⟩)]
    · rw [if_neg h, if_neg (fun c => h (by have := (mem_fires.1 c).2.2; simpa using this))]
  rw [e]
  exact sum_pick (mayB n m) (fun t => at0 ws t) n.ts.length
theorem tot_sum {n : NetV} {ws m : List Int} (h : okW ws = true) (hl : ws.length ≤ 64) : Rd.totR (posL n ws m) = Rd.sumI (posL n ws m) := by
  unfold Rd.totR
  rw [if_pos ⟨by rw [posL_len]; exact hl, posL_ok h⟩]
/-! ### the choice -/
theorem pick_low : ∀ (l : List Int) (x : Int), 0 ≤ x → x < Rd.sumI l → 0 ≤ Rd.pickR l x
  | [], x, h, h2 => by simp [Rd.sumI] at h2; omega
  | a :: l, x, h, h2 => by
    unfold Rd.pickR
    split
    · omega
    · have := pick_low l (x - a) (by omega) (by unfold Rd.sumI at h2; omega)
      rw [if_neg (by omega)]
      omega
theorem pick_pos : ∀ (l : List Int) (x : Int), 0 ≤ x → 0 ≤ Rd.pickR l x → Rd.pickR l x < l.length ∧ 1 ≤ at0 l (Rd.pickR l x).toNat
  | [], x, _, h => by unfold Rd.pickR at h; omega
  | a :: l, x, hx, h => by
    unfold Rd.pickR at h ⊢
    by_cases h1 : x < a
    · rw [if_pos h1]
      exact ⟨by simp, by show 1 ≤ a; omega⟩
    · rw [if_neg h1] at h ⊢
      by_cases h2 : Rd.pickR l (x - a) < 0
      · rw [if_pos h2] at h; omega
      · rw [if_neg h2] at h ⊢
        obtain ⟨h3, h4⟩ := pick_pos l (x - a) (by omega) (by omega)
        refine ⟨by rw [List.length_cons]; omega, ?_⟩
        rw [show (Rd.pickR l (x - a) + 1).toNat = (Rd.pickR l (x - a)).toNat + 1 by omega]
        exact h4
theorem ch_stop {s : Nat} {l : List Int} (h : Rd.totR l < 1) : Rd.chV s l = -1 ∧ Rd.chS s l = s := ⟨if_pos h, if_pos h⟩
theorem ch_go {s : Nat} {l : List Int} (h : ¬ Rd.totR l < 1) : 0 ≤ Rd.chV s l ∧ Rd.chV s l < l.length ∧ 1 ≤ at0 l (Rd.chV s l).toNat := by
  obtain ⟨_, _, hs⟩ := Rd.totR_pos (l := l) (by omega)
  have hb := Rd.totR_le l
  obtain ⟨e1, _⟩ := Rd.belV_yes (s := s) (n := Rd.totR l) (by omega) (by omega)
  have h0 : 0 ≤ Rd.belV s (Rd.totR l) := by rw [e1]; exact Int.emod_nonneg _ (by omega)
  have h1 : Rd.belV s (Rd.totR l) < Rd.sumI l := by rw [e1, hs]; exact Int.emod_lt_of_pos _ (by omega)
  have e : Rd.chV s l = Rd.pickR l (Rd.belV s (Rd.totR l)) := if_neg h
  rw [e]
  have hp := pick_low l _ h0 h1
  obtain ⟨h2, h3⟩ := pick_pos l _ h0 hp
  exact ⟨hp, h2, h3⟩
theorem ch_may {n : NetV} {ws m : List Int} {s : Nat} (hw : okW ws = true) (hl : ws.length = n.ts.length) (h : ¬ Rd.totR (posL n ws m) < 1) :
    ∃ t : Nat, Rd.chV s (posL n ws m) = (t : Int) ∧ t < n.ts.length ∧ mayB n m t = true ∧ 1 ≤ at0 ws t := by
  obtain ⟨h1, h2, h3⟩ := ch_go (s := s) h
  rw [posL_len] at h2
  refine ⟨(Rd.chV s (posL n ws m)).toNat, by omega, by omega, ?_, ?_⟩
  · rw [posL_at _ _ _ _ (by omega)] at h3
    split at h3
    · rename_i hm
      have := (mem_fires.1 hm).2.2
      rwa [Int.toNat_natCast] at this
    · omega
  · rw [posL_at _ _ _ _ (by omega)] at h3
    split at h3
    · exact h3
    · omega
/-! ### the run -/
def tCh (n : NetV) (ws m : List Int) (s : Nat) : Nat := (Rd.chV s (posL n ws m)).toNat
abbrev Hist := List (Nat × List Int)
def simR (n : NetV) (ws : List Int) : Nat → List Int → Nat → Option (Hist × Nat)
  | 0, _, s => some ([], s)
  | k + 1, m, s => if Rd.totR (posL n ws m) < 1 then some ([], s) else
      if overB n m (tCh n ws m s) = true then none else
      (simR n ws k (aftL n m (tCh n ws m s)) (Rd.chS s (posL n ws m))).map fun r => ((tCh n ws m s, aftL n m (tCh n ws m s)) :: r.1, r.2)
def SimAt (n : NetV) (ws : List Int) (R : Option (Hist × Nat)) (h : Hist) (k : Nat) (m : List Int) (s : Nat) : Prop := R = (simR n ws k m s).map fun r => (h ++ r.1, r.2)
theorem sim_start (n : NetV) (ws : List Int) (k : Nat) (m : List Int) (s : Nat) : SimAt n ws (simR n ws k m s) [] k m s := by
  unfold SimAt
  cases simR n ws k m s <;> simp
theorem sim_stop {n : NetV} {ws m : List Int} {R : Option (Hist × Nat)} {h : Hist} {k s : Nat} (H : SimAt n ws R h (k + 1) m s) (ht : Rd.totR (posL n ws m) < 1) : R = some (h, s) := by
  unfold SimAt simR at H
  rw [if_pos ht] at H
  rw [H]
  simp
theorem sim_end {n : NetV} {ws m : List Int} {R : Option (Hist × Nat)} {h : Hist} {s : Nat} (H : SimAt n ws R h 0 m s) : R = some (h, s) := by
  unfold SimAt simR at H
  rw [H]
  simp
theorem sim_over {n : NetV} {ws m : List Int} {R : Option (Hist × Nat)} {h : Hist} {k s : Nat} (H : SimAt n ws R h (k + 1) m s) (ht : ¬ Rd.totR (posL n ws m) < 1) (ho : overB n m (tCh n ws m s) = true) : R = none := by
  unfold SimAt simR at H
  rw [if_neg ht, if_pos ho] at H
  rw [H]
  rfl
theorem sim_step {n : NetV} {ws m : List Int} {R : Option (Hist × Nat)} {h : Hist} {k s : Nat} (H : SimAt n ws R h (k + 1) m s) (ht : ¬ Rd.totR (posL n ws m) < 1) (ho : overB n m (tCh n ws m s) = false) :
    SimAt n ws R (h ++ [(tCh n ws m s, aftL n m (tCh n ws m s))]) k (aftL n m (tCh n ws m s)) (Rd.chS s (posL n ws m)) := by
  unfold SimAt at H ⊢
  unfold simR at H
  rw [if_neg ht, if_neg (by rw [ho]; decide), Option.map_map] at H
  rw [H]
  congr 1
  funext r
  simp
def lastM (m : List Int) (h : Hist) : List Int := (h.getLast?.map (·.2)).getD m
theorem lastM_nil (m : List Int) : lastM m [] = m := rfl
theorem lastM_snoc (m : List Int) (h : Hist) (x : Nat × List Int) : lastM m (h ++ [x]) = x.2 := by unfold lastM; simp
def seqT (h : Hist) : List Int := h.map fun x => (x.1 : Int)
theorem seqT_snoc (h : Hist) (x : Nat × List Int) : seqT (h ++ [x]) = seqT h ++ [(x.1 : Int)] := by simp [seqT]
theorem seqT_len (h : Hist) : (seqT h).length = h.length := by simp [seqT]
end Go.Proofs.Ytpfkkjgklhcejaa
