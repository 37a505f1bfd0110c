/- Graphs: reversal keeps components; an order excludes cycles: the plain mathematics. -/
import Derived.Test.YtdfljeonoallfaaGTO
import Derived.Test.YtdfljeonoallfaaGRC
namespace Go.Proofs.Ytdfljeonoallfaa

theorem edge_rev {R : Nat → List Int} {n u v : Nat} : EdgeR (revV R n) n u v ↔ EdgeR R n v u := by
  unfold EdgeR revV
  have h := @pick_has (fun x => (R x).contains (u : Int)) n v
  rw [List.contains_iff_mem, List.contains_iff_mem] at h
  constructor
  · rintro ⟨h1, h2, h3⟩
    exact ⟨h2, h1, (h.1 h3).2⟩
  · rintro ⟨h1, h2, h3⟩
    exact ⟨h2, h1, h.2 ⟨h1, h3⟩⟩
theorem path_turn {A B : Nat → List Int} {n : Nat} (h : ∀ u v, EdgeR A n u v → EdgeR B n v u) {u v : Nat} (hp : PathR A n u v) : PathR B n v u := by
  induction hp with
  | single e => exact Relation.TransGen.single (h _ _ e)
  | tail _ e ih => exact path_head (h _ _ e) ih
theorem path_rev {R : Nat → List Int} {n u v : Nat} : PathR (revV R n) n u v ↔ PathR R n v u :=
  ⟨path_turn fun _ _ e => edge_rev.1 e, path_turn fun _ _ e => edge_rev.2 e⟩
theorem mut_rev {R : Nat → List Int} {n u v : Nat} : MutR (revV R n) n u v ↔ MutR R n u v := by
  unfold MutR RchR
  rw [path_rev, path_rev]
  constructor
  · rintro ⟨h1, h2⟩
    exact ⟨h2.imp Eq.symm id, h1.imp Eq.symm id⟩
  · rintro ⟨h1, h2⟩
    exact ⟨h2.imp Eq.symm id, h1.imp Eq.symm id⟩
theorem cmp_rev {R : Nat → List Int} {n v : Nat} (hv : v < n) : cmpV (revV R n) n v = cmpV R n v := by
  obtain ⟨h1, h2, h3, _⟩ := cmp_spec (R := R) hv
  exact cmp_of hv (by omega) (mut_rev.2 h2) fun u hu h => h3 u hu (mut_rev.1 h)
theorem rev_thrice (R : Nat → List Int) {n v : Nat} (hv : v < n) : revV (revV (revV R n) n) n v = revV R n v := by
  rw [fol_rev _ hv]
  have h : ∀ k, k ≤ n → pickI (tabB (revV R n) v) k = pickI (fun u => (R u).contains (v : Int)) k := by
    intro k
    induction k with
    | zero => intro _; rfl
    | succ k ih =>
      intro hk
      have e : tabB (revV R n) v k = (R k).contains (v : Int) := by
        unfold revV tabB
        cases c : (R k).contains (v : Int)
        · rw [Bool.eq_false_iff]
          intro h
          have := (pick_has.1 h).2
          rw [c] at this
          cases this
        · exact pick_has.2 ⟨by omega, c⟩
      cases c : (R k).contains (v : Int)
      · rw [pickI_no _ _ (by rw [e]; exact c), pickI_no _ _ c, ih (by omega)]
      · rw [pickI_yes _ _ (by rw [e]; exact c), pickI_yes _ _ c, ih (by omega)]
  exact h n (Nat.le_refl _)
theorem cN_le {f g : Nat → Bool} : ∀ {n : Nat}, (∀ u, u < n → f u = true → g u = true) → cN f n ≤ cN g n
  | 0, _ => Nat.le_refl _
  | n + 1, h => by
    have ih := cN_le (n := n) fun u hu => h u (by omega)
    cases c : f n
    · rw [cN_no c]
      cases d : g n
      · rw [cN_no d]; exact ih
      · rw [cN_yes d]; omega
    · rw [cN_yes c, cN_yes (h n (by omega) c)]; omega
theorem cN_less {f g : Nat → Bool} {n u : Nat} (hu : u < n) (h : ∀ x, x < n → f x = true → g x = true) (h1 : f u = false) (h2 : g u = true) : cN f n < cN g n := by
  have h3 : cN g n = cN (fun x => if x = u then false else g x) n + 1 := cN_drop hu h2 (by simp) fun x hx => by simp [hx]
  have h4 : cN f n ≤ cN (fun x => if x = u then false else g x) n := cN_le fun x hx hf => by
    have c : x ≠ u := fun e => by rw [e, h1] at hf; cases hf
    simp [c]
    exact h x hx hf
  omega
theorem tab_edge {R : Nat → List Int} {n u v : Nat} (hu : u < n) (hv : v < n) (h : tabB R u v = true) : EdgeR R n u v := ⟨hu, hv, by unfold tabB at h; simpa using h⟩
theorem edge_tab {R : Nat → List Int} {n u v : Nat} (h : EdgeR R n u v) : tabB R u v = true := by unfold tabB; simpa using h.2.2
theorem rdy_exists {R : Nat → List Int} {n : Nat} (hno : ∀ v, v < n → ¬ PathR R n v v) (D : Nat → Bool) : ∀ (c v : Nat), cN (fun u => !D u && warN (tabB R) n u v) n ≤ c → v < n → D v = false → ∃ w, w < n ∧ rdyP (tabB R) D w n = true := by
  intro c
  induction c with
  | zero =>
    intro v hc hv hd
    refine ⟨v, hv, (cnt_rdy _ _ _ _).2 ⟨hd, cN_zero.2 fun u hu => ?_⟩⟩
    have h := cN_zero.1 (Nat.le_zero.1 hc) u hu
    try dsimp only at h ⊢
    cases e : D u
    · rw [e, Bool.not_false, Bool.true_and] at h
      rw [Bool.not_false, Bool.true_and, Bool.eq_false_iff]
      intro h2
      rw [(war_iff hu hv).2 (Relation.TransGen.single (tab_edge hu hv h2))] at h
      cases h
    · rfl
  | succ c ih =>
    intro v hc hv hd
    by_cases hr : rdyP (tabB R) D v n = true
    · exact ⟨v, hv, hr⟩
    · have h1 : ¬ ∀ u, u < n → (!D u && tabB R u v) = false := fun h => hr ((cnt_rdy _ _ _ _).2 ⟨hd, cN_zero.2 h⟩)
      rw [Classical.not_forall] at h1
      obtain ⟨u, h1⟩ := h1
      rw [Classical.not_imp, Bool.not_eq_false, Bool.and_eq_true, Bool.not_eq_true'] at h1
      obtain ⟨hu, hdu, ht⟩ := h1
      have hE := tab_edge hu hv ht
      have hlt := cN_less (f := fun x => !D x && warN (tabB R) n x u) (g := fun x => !D x && warN (tabB R) n x v) hu (fun x hx h => by
        try dsimp only at h ⊢
        rw [Bool.and_eq_true] at h ⊢
        exact ⟨h.1, (war_iff hx hv).2 (Relation.TransGen.tail ((war_iff hx hu).1 h.2) hE)⟩) (by
        try dsimp only
        rw [Bool.and_eq_false_iff]
        right
        rw [Bool.eq_false_iff]
        exact fun h => hno u hu ((war_iff hu hu).1 h)) (by
        try dsimp only
        rw [hdu, (war_iff hu hv).2 (Relation.TransGen.single hE)]
        rfl)
      exact ih u (by omega) hu hdu
theorem cN_full {D : Nat → Bool} {n v : Nat} (h : cN D n = n) (hv : v < n) : D v = true := by
  cases c : D v
  · have := cN_lt hv c; omega
  · rfl
theorem exists_free {D : Nat → Bool} {n : Nat} (h : cN D n < n) : ∃ v, v < n ∧ D v = false := by
  refine Classical.byContradiction fun hn => ?_
  have h2 : ∀ v, v < n → D v = true := fun v hv => by
    cases c : D v
    · exact absurd ⟨v, hv, c⟩ hn
    · rfl
  have h3 : cN D n = cN (fun _ => true) n := cN_congr h2
  have h4 : ∀ k, cN (fun _ => true) k = k := fun k => by
    induction k with
    | zero => rfl
    | succ k ih => rw [cN_yes rfl, ih]
  rw [h4] at h3
  omega
theorem topF_true {R : Nat → List Int} {n : Nat} (hno : ∀ v, v < n → ¬ PathR R n v v) : ∀ (k : Nat) (D : Nat → Bool) (o : List Int), cN D n + k = n → (topF (tabB R) n k D o).2 = true
  | 0, _, _, _ => rfl
  | k + 1, D, o, h => by
    obtain ⟨v, hv, hd⟩ := exists_free (D := D) (n := n) (by omega)
    obtain ⟨w, hw, hr⟩ := rdy_exists hno D _ v (Nat.le_refl _) hv hd
    cases hx : nxtT (tabB R) n D with
    | none =>
      unfold nxtT at hx
      have := List.find?_eq_none.1 hx w (List.mem_range.2 hw)
      exact absurd hr this
    | some p =>
      rw [topF_yes hx]
      have hp := hx
      unfold nxtT at hp
      rw [List.find?_range_eq_some] at hp
      have hpd := ((cnt_rdy _ _ _ _).1 hp.1).1
      exact topF_true hno k (putD D p) _ (by rw [cN_putD (List.mem_range.1 hp.2.1) hpd]; omega)
theorem topF_false {R : Nat → List Int} {n v : Nat} (hv : v < n) (hc : PathR R n v v) : ∀ (k : Nat) (D : Nat → Bool) (o : List Int), cN D n + k = n → (∀ x, x < n → PathR R n v x → PathR R n x v → D x = false) → (topF (tabB R) n k D o).2 = false
  | 0, D, _, h, hs => by
    have h1 := cN_full (D := D) (n := n) (by omega) hv
    rw [hs v hv hc hc] at h1
    cases h1
  | k + 1, D, o, h, hs => by
    cases hx : nxtT (tabB R) n D with
    | none => rw [topF_no hx]
    | some p =>
      rw [topF_yes hx]
      have hp := hx
      unfold nxtT at hp
      rw [List.find?_range_eq_some] at hp
      have hpn := List.mem_range.1 hp.2.1
      obtain ⟨hpd, hpc⟩ := (cnt_rdy _ _ _ _).1 hp.1
      refine topF_false hv hc k (putD D p) _ (by rw [cN_putD hpn hpd]; omega) fun x hxn h1 h2 => ?_
      unfold putD
      by_cases e : x = p
      · subst e
        exfalso
        have key : ∃ u, EdgeR R n u x ∧ PathR R n v u ∧ PathR R n u v := by
          cases h1 with
          | single e1 => exact ⟨v, e1, hc, hc⟩
          | tail e0 e1 => exact ⟨_, e1, e0, path_head e1 h2⟩
        obtain ⟨u, e1, e2, e3⟩ := key
        have h3 := cN_zero.1 hpc u e1.1
        try dsimp only at h3
        rw [hs u e1.1 e2 e3, edge_tab e1] at h3
        cases h3
      · rw [if_neg e]
        exact hs x hxn h1 h2
theorem top_cyc (R : Nat → List Int) (n : Nat) : (topG R n).2 = !anyN (fun v => cycV R n (v : Int)) n := by
  have hcy : ∀ v, v < n → (cycV R n (v : Int) = true ↔ PathR R n v v) := fun v hv => by
    unfold cycV
    rw [Bool.and_eq_true, Int.toNat_natCast, war_iff hv hv]
    exact ⟨fun h => h.2, fun h => ⟨by unfold inR; simp; omega, h⟩⟩
  have h0 : cN (fun _ : Nat => false) n + n = n := by rw [cN_zero.2 fun _ _ => rfl]; omega
  cases c : anyN (fun v => cycV R n (v : Int)) n
  · exact topF_true (fun v hv h => by
      have h1 := anyN_false.1 c v hv
      rw [(hcy v hv).2 h] at h1
      cases h1) n _ _ h0
  · obtain ⟨v, hv, h1⟩ := anyN_iff.1 c
    exact topF_false hv ((hcy v hv).1 h1) n _ _ h0 fun _ _ _ _ => rfl
theorem topF_len (T : Nat → Nat → Bool) (n : Nat) : ∀ (k : Nat) (D : Nat → Bool) (o : List Int), (topF T n k D o).1.length ≤ o.length + k
  | 0, _, _ => Nat.le_refl _
  | k + 1, D, o => by
    cases hx : nxtT T n D with
    | none => rw [topF_no hx]; exact Nat.zero_le _
    | some p =>
      rw [topF_yes hx]
      have := topF_len T n k (fun x => if x = p then true else D x) (o ++ [(p : Int)])
      rw [List.length_append, List.length_singleton] at this
      omega
theorem GraphR.congr {w : World} {A : Option Addr} {n : Nat} {RA : Nat → Option Addr} {RL RL' : Nat → List Int} {RK : Nat → Nat} (h : GraphR w A n RA RL RK) (e : ∀ v, v < n → RL v = RL' v) : GraphR w A n RA RL' RK where
  hn := h.hn
  row := fun i hi => by rw [← e i hi]; exact h.row i hi
  rd := fun i hi => by rw [← e i hi]; exact h.rd i hi
  ll := fun i hi => by rw [← e i hi]; exact h.ll i hi
end Go.Proofs.Ytdfljeonoallfaa
