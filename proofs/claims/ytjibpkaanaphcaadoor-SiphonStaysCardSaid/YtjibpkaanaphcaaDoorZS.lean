/- Unions of closed sets are closed; a closed set is its own greatest one. The places without tokens, as a set; those of a deadlock form a siphon. Siphons stay empty and traps stay marked: the mathematics. -/
import Derived.Test.YtjibpkaanaphcaaDoorZG
import Derived.Test.YtjibpkaanaphcaaDoorSD
import Derived.Test.YtjibpkaanaphcaaDoorZF
import Derived.Test.YtjibpkaanaphcaaDoorZX
namespace Go.Proofs.YtjibpkaanaphcaaDoor
open Go.RowKit

theorem closed_union {n : NetV} {b : Bool} {s t : Nat} (hs : closedB n b s = true) (ht : closedB n b t = true) : closedB n b (s ||| t) = true := by
  refine closed_iff.2 fun k hk => ?_
  cases e : violF n b (s ||| t) k
  · rfl
  · exfalso
    obtain ⟨⟨i, h1, h2⟩, h3⟩ := viol_iff.1 e
    rw [Nat.testBit_or, Bool.or_eq_true] at h2
    rcases h2 with h2 | h2
    · have h4 := closed_iff.1 hs k hk
      have hv : violF n b s k = true := viol_iff.2 ⟨⟨i, h1, h2⟩, fun j hj => h3 j ⟨hj.1, by rw [Nat.testBit_or, hj.2]; rfl⟩⟩
      rw [h4] at hv; cases hv
    · have h4 := closed_iff.1 ht k hk
      have hv : violF n b t k = true := viol_iff.2 ⟨⟨i, h1, h2⟩, fun j hj => h3 j ⟨hj.1, by rw [Nat.testBit_or, hj.2, Bool.or_true]⟩⟩
      rw [h4] at hv; cases hv
theorem isS_iff {n : NetV} {s : Nat} (hs : s < 18446744073709551616) : isS n s = true ↔ okN n = true ∧ Sub s (Bt.allV n.ps.length) := by
  unfold isS
  rw [Bool.and_eq_true, Bt.sub_iff hs (all_lt _)]
  exact Iff.rfl
theorem sip_iff {n : NetV} {b : Bool} {s : Nat} (hs : s < 18446744073709551616) : sipB n b s = true ↔ okN n = true ∧ Sub s (Bt.allV n.ps.length) ∧ closedB n b s = true := by
  unfold sipB
  rw [Bool.and_eq_true, isS_iff hs, and_assoc]
theorem sip_union {n : NetV} {b : Bool} {s t : Nat} (hs : s < 18446744073709551616) (ht : t < 18446744073709551616) (h1 : sipB n b s = true) (h2 : sipB n b t = true) : sipB n b (s ||| t) = true := by
  rw [sip_iff hs] at h1
  rw [sip_iff ht] at h2
  rw [sip_iff (Bt.or_lt hs ht)]
  refine ⟨h1.1, fun i hi => ?_, closed_union h1.2.2 h2.2.2⟩
  rw [Nat.testBit_or, Bool.or_eq_true] at hi
  rcases hi with hi | hi
  · exact h1.2.1 i hi
  · exact h2.2.1 i hi
theorem sub_lt {a b : Nat} (h : Sub a b) (hb : b < 18446744073709551616) : a < 18446744073709551616 := by
  refine Nat.lt_of_le_of_lt ?_ hb
  have e : a = a &&& b := Nat.eq_of_testBit_eq fun i => by
    rw [Nat.testBit_and]
    cases e1 : a.testBit i
    · rfl
    · rw [h i e1]; rfl
  rw [e]
  exact Nat.and_le_right
theorem max_lt {n : NetV} {b : Bool} {s : Nat} (hs : s < 18446744073709551616) : maxG n b s < 18446744073709551616 := by
  unfold maxG
  split
  · exact sub_lt (grS_is (within_lt n hs)).sub (within_lt n hs)
  · decide
theorem sip_max {n : NetV} {b : Bool} {s : Nat} (hs : s < 18446744073709551616) (hok : okN n = true) : sipB n b (maxG n b s) = true := by
  rw [sip_iff (max_lt hs)]
  have h : maxG n b s = grS n b (withinS n s) := if_pos hok
  rw [h]
  have g := grS_is (n := n) (b := b) (within_lt n hs)
  refine ⟨hok, fun i hi => ?_, g.closed⟩
  have := g.sub i hi
  unfold withinS at this
  rw [Nat.testBit_and, Bool.and_eq_true] at this
  exact this.2
theorem max_sip {n : NetV} {b : Bool} {s : Nat} (hs : s < 18446744073709551616) (h : sipB n b s = true) : maxG n b s = s := by
  rw [sip_iff hs] at h
  have e : maxG n b s = grS n b (withinS n s) := if_pos h.1
  have e2 : withinS n s = s := by
    unfold withinS
    apply Nat.eq_of_testBit_eq
    intro i
    rw [Nat.testBit_and]
    cases e1 : s.testBit i
    · rfl
    · rw [h.2.1 i e1]; rfl
  rw [e, e2]
  exact (grS_eq hs ⟨fun _ h => h, h.2.2, fun _ h _ => h⟩).symm
end Go.Proofs.YtjibpkaanaphcaaDoor

namespace Go.Proofs.YtjibpkaanaphcaaDoor
open Go.RowKit

def emS (m : List Int) : Nat → Nat
  | 0 => 0
  | k + 1 => if at0 m k = 0 then Bt.withV (emS m k) (k : Int) else emS m k
theorem emS_bit (m : List Int) : ∀ k, k ≤ 64 → ∀ i, (emS m k).testBit i = decide (i < k ∧ at0 m i = 0)
  | 0, _, i => by simp [emS]
  | k + 1, hk, i => by
    have ih := emS_bit m k (by omega) i
    rw [emS]
    split
    · rename_i h
      rw [Bt.testBit_withV _ _ _ (by omega), ih, Bool.eq_iff_iff]
      simp only [Bool.or_eq_true, decide_eq_true_eq]
      constructor
      · rintro (⟨a, b⟩ | rfl)
        · exact ⟨by omega, b⟩
        · exact ⟨by omega, h⟩
      · rintro ⟨a, b⟩
        by_cases e : k = i
        · exact .inr e
        · exact .inl ⟨by omega, b⟩
    · rename_i h
      rw [ih, decide_eq_decide]
      constructor
      · rintro ⟨a, b⟩
        exact ⟨by omega, b⟩
      · rintro ⟨a, b⟩
        refine ⟨?_, b⟩
        by_cases e : i = k
        · subst e
          exact absurd b h
        · omega
theorem emS_lt (m : List Int) : ∀ k, emS m k < 18446744073709551616
  | 0 => by unfold emS; decide
  | k + 1 => by
    rw [emS]
    split
    · exact Bt.or_lt (emS_lt m k) (Bt.sgl_lt _)
    · exact emS_lt m k
theorem plain_parts {n : NetV} (h : plainN n = true) : okN n = true ∧ (∀ t, t < n.ts.length → (tA n.ts t).inh.l.length = 0 ∧ (tA n.ts t).prio = 0) ∧ ∀ p, p < n.ps.length → (pA n.ps p).cap = 0 := by
  unfold plainN at h
  rw [Bool.and_eq_true, Bool.and_eq_true, Bool.not_eq_true', Bool.not_eq_true', anyB_false, anyB_false] at h
  refine ⟨h.1, fun t ht => ?_, fun p hp => ?_⟩
  · have := of_decide_eq_false (h.2.1 t ht)
    omega
  · have := of_decide_eq_false (h.2.2 p hp)
    omega
theorem heavy_no {l : List (Int × Int)} (h : heavyV l = false) : ∀ j, j < l.length → aW l j = 1 := fun j hj => by
  unfold heavyV at h
  have := of_decide_eq_false (anyB_false.1 h j hj)
  omega
theorem ordinary_parts {n : NetV} (h : ordinaryN n = true) : ∀ t, t < n.ts.length → (∀ j, j < (tA n.ts t).pre.l.length → aW (tA n.ts t).pre.l j = 1) ∧ ∀ j, j < (tA n.ts t).post.l.length → aW (tA n.ts t).post.l j = 1 := fun t ht => by
  unfold ordinaryN at h
  rw [Bool.and_eq_true, Bool.not_eq_true', anyB_false] at h
  have := h.2 t ht
  unfold hvF at this
  rw [Bool.or_eq_false_iff] at this
  exact ⟨heavy_no this.1, heavy_no this.2⟩
theorem all_bit' {p i : Nat} (h : i < p) (hp : p ≤ 64) : (Bt.allV p).testBit i = true := by
  unfold Bt.allV
  rw [Nat.testBit_two_pow_sub_one, decide_eq_true_eq]
  omega
theorem trg_bit {n : NetV} {l : List (Int × Int)} (h : arcsE n.ps.length l = 0) (hn : n.ps.length ≤ 24) {j : Nat} (hj : j < l.length) : (Bt.ofV (targetsV l)).testBit (aP l j).toNat = true := by
  have := arcsE_parts h j hj
  rw [of_bit, decide_eq_true_eq]
  exact ⟨by omega, mem_targets.2 ⟨j, hj, by omega⟩⟩
theorem dead_sip {n : NetV} {m : List Int} (hp : plainN n = true) (ho : ordinaryN n = true) (hd : deadB n m = true) : sipB n true (emS m m.length) = true := by
  unfold deadB goodN at hd
  rw [Bool.and_eq_true, Bool.and_eq_true] at hd
  obtain ⟨⟨hok, hval⟩, hz⟩ := hd
  obtain ⟨hml, hnat⟩ := validL_parts hval
  have hz := of_decide_eq_true hz
  have h24 := (okN_parts hok).2.2.1
  obtain ⟨_, hp1, hp2⟩ := plain_parts hp
  rw [sip_iff (emS_lt _ _)]
  refine ⟨hok, fun i hi => ?_, closed_iff.2 fun t ht => ?_⟩
  · rw [emS_bit _ _ (by omega), decide_eq_true_eq] at hi
    exact all_bit' (by omega) (by omega)
  · cases e : violF n true (emS m m.length) t
    · rfl
    · exfalso
      obtain ⟨_, h3⟩ := viol_iff.1 e
      have hx := okN_arcs hok t ht
      have r : readyB n m t = true := by
        refine ready_yes hnat hx (anyB_false.2 fun j hj => ?_) (anyB_false.2 fun j hj => ?_) fun p hp => ?_
        · have ha := arcsE_parts hx.pre j hj
          have hw := (ordinary_parts ho t ht).1 j hj
          have hn := natL_at hnat (aP (tA n.ts t).pre.l j).toNat
          refine decide_eq_false fun c => ?_
          refine h3 (aP (tA n.ts t).pre.l j).toNat ⟨?_, ?_⟩
          · show (Bt.ofV (targetsV (tA n.ts t).pre.l)).testBit _ = true
            exact trg_bit hx.pre h24 hj
          · rw [emS_bit _ _ (by omega), decide_eq_true_eq]
            exact ⟨by omega, by omega⟩
        · have := (hp1 t ht).1
          omega
        · unfold capF
          rw [hp2 p hp]
          simp
      have may : mayB n m t = true := mayB_yes r fun o ho' => moreF_no (by rw [(hp1 t ht).2, (hp1 o ho').2]; omega)
      have mem : (t : Int) ∈ firesV n m := mem_fires.2 ⟨by omega, by omega, by simpa using may⟩
      rw [List.length_eq_zero_iff.1 hz] at mem
      cases mem
end Go.Proofs.YtjibpkaanaphcaaDoor

namespace Go.Proofs.YtjibpkaanaphcaaDoor
open Go.RowKit

def markB (s : Nat) (m : List Int) : Bool := anyB (fun i => s.testBit i && decide (1 ≤ at0 m i)) 64
theorem mark_iff {s : Nat} {m : List Int} (hs : s < 18446744073709551616) : markB s m = true ↔ ∃ i, s.testBit i = true ∧ 1 ≤ at0 m i := by
  unfold markB
  rw [anyB_iff]
  constructor
  · rintro ⟨k, _, h⟩
    rw [Bool.and_eq_true, decide_eq_true_eq] at h
    exact ⟨k, h⟩
  · rintro ⟨k, h1, h2⟩
    exact ⟨k, Bt.bit_lt hs h1, by rw [Bool.and_eq_true, decide_eq_true_eq]; exact ⟨h1, h2⟩⟩
theorem closed_need {n : NetV} {b : Bool} {s t i : Nat} (h : closedB n b s = true) (ht : t < n.ts.length) (h1 : (trgS n b t).testBit i = true) (h2 : s.testBit i = true) : ∃ j, (ndS n b t).testBit j = true ∧ s.testBit j = true := by
  apply Classical.byContradiction
  intro hn
  have hv := closed_iff.1 h t ht
  have : violF n b s t = true := viol_iff.2 ⟨⟨i, h1, h2⟩, fun j hj => hn ⟨j, hj⟩⟩
  rw [hv] at this
  cases this
theorem ready_ge {n : NetV} {m : List Int} {t p : Nat} (h : readyB n m t = true) (hp : p < n.ps.length) : weightV (tA n.ts t).pre.l p ≤ at0 m p := by
  unfold readyB at h
  rw [Bool.not_eq_true', anyB_false] at h
  have h := h p hp
  unfold badP at h
  rw [Bool.or_eq_false_iff] at h
  have := of_decide_eq_false h.1
  omega
theorem fire_parts {n : NetV} {m : List Int} {t : Int} (h : fireE n m t = 0) : goodN n m = true ∧ 0 ≤ t ∧ t < n.ts.length ∧ readyB n m t.toNat = true ∧ fireL n m t = aftL n m t.toNat ∧ goodN n (aftL n m t.toNat) = true := by
  unfold fireE at h
  by_cases he : errN n m = 0
  · rw [if_pos he] at h
    have hg := errN_zero.1 he
    have hl : fireL n m t = listF n m t := (fire_good he).2
    cases e1 : inT n t
    · rw [(errF_in e1).1] at h
      exact absurd h (by decide)
    · cases e2 : mayB n m t.toNat
      · rw [(errF_may e1 e2).1] at h
        exact absurd h (by decide)
      · cases e3 : overB n m t.toNat
        · have hr := may_ready e2
          have ht := inT_iff.1 e1
          have hok : okN n = true := by
            unfold goodN at hg
            rw [Bool.and_eq_true] at hg
            exact hg.1
          refine ⟨hg, ht.1, ht.2, hr, by rw [hl, (errF_ok e1 e2 e3).2], ?_⟩
          have hv := aft_valid (okN_arcs hok t.toNat (by omega)) hr
          rw [e3] at hv
          unfold goodN validL
          rw [hok, hv]
          simp [aftL, tab]
        · rw [(errF_over e1 e2 e3).1] at h
          exact absurd h (by decide)
  · rw [if_neg he] at h
    exact absurd h he
theorem aft_at {n : NetV} {m : List Int} {t p : Nat} (hp : p < n.ps.length) : at0 (aftL n m t) p = aftV (tA n.ts t) m p := by
  unfold aftL
  rw [tab_at _ _ _ hp]
theorem sub_places {n : NetV} {s i : Nat} (h : Sub s (Bt.allV n.ps.length)) (hi : s.testBit i = true) : i < n.ps.length := all_bit _ _ (h i hi)
theorem arc_bit {n : NetV} {l : List (Int × Int)} (h : arcsE n.ps.length l = 0) (hn : n.ps.length ≤ 24) {p : Nat} (hp : p < n.ps.length) (hw : 1 ≤ weightV l p) : (Bt.ofV (targetsV l)).testBit p = true := by
  rcases weightV_cases h p with ⟨e, _⟩ | ⟨k, hk, e1, _⟩
  · omega
  · have := trg_bit h hn hk
    rw [e1] at this
    simpa using this
theorem bit_arc {n : NetV} {l : List (Int × Int)} (h : arcsE n.ps.length l = 0) {p : Nat} (hb : (Bt.ofV (targetsV l)).testBit p = true) : 1 ≤ weightV l p := by
  rw [of_bit, decide_eq_true_eq] at hb
  obtain ⟨k, hk, e⟩ := mem_targets.1 hb.2
  have h1 := weightV_arc h hk
  have h2 := arcsE_parts h k hk
  rw [e] at h1
  rw [h1]
  exact h2.2.2.2.1
theorem siphon_stays {n : NetV} {s : Nat} {m : List Int} {t : Int} (hs : s < 18446744073709551616) (hc : sipB n true s = true) (h0 : markB s m = false) (hf : fireE n m t = 0) : markB s (fireL n m t) = false := by
  obtain ⟨hg, h1, h2, hr, hl, _⟩ := fire_parts hf
  obtain ⟨hok, hsub, hcl⟩ := (sip_iff hs).1 hc
  have hx := okN_arcs hok t.toNat (by omega)
  have h24 := (okN_parts hok).2.2.1
  have hm : ∀ i, s.testBit i = true → at0 m i < 1 := fun i hi => by
    apply Classical.byContradiction
    intro hn
    have := (mark_iff (m := m) hs).2 ⟨i, hi, by omega⟩
    rw [h0] at this
    cases this
  cases e : markB s (fireL n m t)
  · rfl
  · exfalso
    obtain ⟨i, hi, ha⟩ := (mark_iff hs).1 e
    have hip := sub_places hsub hi
    rw [hl, aft_at hip] at ha
    unfold aftV at ha
    have := hm i hi
    have w1 := weightV_bd hx.pre i
    have hb : (trgS n true t.toNat).testBit i = true := arc_bit hx.post h24 hip (by omega)
    obtain ⟨j, hj, hjs⟩ := closed_need hcl (by omega) hb hi
    have h3 := bit_arc hx.pre (show (Bt.ofV (targetsV (tA n.ts t.toNat).pre.l)).testBit j = true from hj)
    have h4 := ready_ge hr (sub_places hsub hjs)
    have := hm j hjs
    omega
theorem trap_stays {n : NetV} {s : Nat} {m : List Int} {t : Int} (hs : s < 18446744073709551616) (hc : sipB n false s = true) (h0 : markB s m = true) (hf : fireE n m t = 0) : markB s (fireL n m t) = true := by
  obtain ⟨hg, h1, h2, hr, hl, _⟩ := fire_parts hf
  obtain ⟨hok, hsub, hcl⟩ := (sip_iff hs).1 hc
  have hx := okN_arcs hok t.toNat (by omega)
  have h24 := (okN_parts hok).2.2.1
  obtain ⟨i, hi, ha⟩ := (mark_iff hs).1 h0
  have hip := sub_places hsub hi
  rw [hl]
  by_cases hw : 1 ≤ weightV (tA n.ts t.toNat).pre.l i
  · have hb : (trgS n false t.toNat).testBit i = true := arc_bit hx.pre h24 hip hw
    obtain ⟨j, hj, hjs⟩ := closed_need hcl (by omega) hb hi
    have h3 := bit_arc hx.post (show (Bt.ofV (targetsV (tA n.ts t.toNat).post.l)).testBit j = true from hj)
    have hjp := sub_places hsub hjs
    have h4 := ready_ge hr hjp
    refine (mark_iff hs).2 ⟨j, hjs, ?_⟩
    rw [aft_at hjp]
    unfold aftV
    omega
  · refine (mark_iff hs).2 ⟨i, hi, ?_⟩
    have w1 := weightV_bd hx.post i
    rw [aft_at hip]
    unfold aftV
    omega
end Go.Proofs.YtjibpkaanaphcaaDoor
