/- Plain maths of upward-closed sets. -/
import Derived.Test.YtlppoablhipinaaUO
namespace Go.Proofs.Ytlppoablhipinaa

def okU (acc : List (List Int)) (m : List Int) : Bool := natL m && (match acc with | [] => decide (1 ≤ m.length ∧ m.length ≤ 24) | x :: _ => decide (m.length = x.length))
def stepU (acc : List (List Int)) (m : List Int) : List (List Int) := if okU acc m = true then acc ++ [m] else acc
def usL (l : List (List Int)) : List (List Int) := l.foldl stepU []
def UsOk (L : List (List Int)) : Prop := ∃ n, 1 ≤ n ∧ n ≤ 24 ∧ ∀ m ∈ L, m.length = n ∧ natL m = true
theorem usL_take {l : List (List Int)} {k : Nat} (hk : k < l.length) : usL (l.take (k + 1)) = stepU (usL (l.take k)) l[k] := by
  unfold usL
  rw [List.take_succ_eq_append_getElem hk, List.foldl_append]
  rfl
theorem usOk_nil : UsOk [] := ⟨1, by omega, by omega, fun _ h => by cases h⟩
theorem okU_iff {acc : List (List Int)} {m : List Int} : okU acc m = true ↔ natL m = true ∧ ((acc = [] ∧ 1 ≤ m.length ∧ m.length ≤ 24) ∨ ∃ x r, acc = x :: r ∧ m.length = x.length) := by
  unfold okU
  cases acc with
  | nil => simp
  | cons x r => simp
theorem usOk_step {acc : List (List Int)} {m : List Int} (h : UsOk acc) : UsOk (stepU acc m) := by
  unfold stepU
  split
  · rename_i e
    obtain ⟨e1, e2⟩ := okU_iff.1 e
    rcases e2 with ⟨rfl, e3, e4⟩ | ⟨x, r, rfl, e3⟩
    · exact ⟨m.length, e3, e4, fun y hy => by simp at hy; subst hy; exact ⟨rfl, e1⟩⟩
    · obtain ⟨n, h1, h2, h3⟩ := h
      refine ⟨n, h1, h2, fun y hy => ?_⟩
      rcases List.mem_append.1 hy with hy | hy
      · exact h3 y hy
      · simp at hy
        subst hy
        exact ⟨by rw [e3]; exact (h3 x (by simp)).1, e1⟩
  · exact h
theorem usOk_fold : ∀ (l acc : List (List Int)), UsOk acc → UsOk (l.foldl stepU acc)
  | [], _, h => h
  | _ :: r, _, h => usOk_fold r _ (usOk_step h)
theorem usOk_us (l : List (List Int)) : UsOk (usL l) := usOk_fold l [] usOk_nil
theorem step_sub {acc : List (List Int)} {m x : List Int} (h : x ∈ acc) : x ∈ stepU acc m := by
  unfold stepU
  split
  · exact List.mem_append_left _ h
  · exact h
theorem fold_sub : ∀ (l acc : List (List Int)) (x : List Int), x ∈ acc → x ∈ l.foldl stepU acc
  | [], _, _, h => h
  | _ :: r, _, x, h => fold_sub r _ x (step_sub h)
theorem fold_mem : ∀ (l acc : List (List Int)) (x : List Int), x ∈ l.foldl stepU acc → x ∈ acc ∨ x ∈ l
  | [], _, _, h => .inl h
  | m :: r, acc, x, h => by
    rcases fold_mem r _ x h with h | h
    · unfold stepU at h
      split at h
      · rcases List.mem_append.1 h with h | h
        · exact .inl h
        · simp at h; subst h; exact .inr (by simp)
      · exact .inl h
    · exact .inr (List.mem_cons_of_mem _ h)
theorem us_mem {l : List (List Int)} {x : List Int} (h : x ∈ usL l) : x ∈ l := by
  rcases fold_mem l [] x h with h | h
  · cases h
  · exact h
theorem fold_all : ∀ (l acc : List (List Int)), UsOk acc → ∀ x ∈ l, natL x = true → (∃ y ∈ l.foldl stepU acc, x.length = y.length) → x ∈ l.foldl stepU acc
  | [], _, _, _, h, _, _ => by cases h
  | m :: r, acc, h, x, hx, hn, ⟨y, hy, hl⟩ => by
    rcases List.mem_cons.1 hx with rfl | hx
    · by_cases e : okU acc x = true
      · refine fold_sub r _ x ?_
        unfold stepU
        rw [if_pos e]
        simp
      · exfalso
        apply e
        have hu : UsOk ((x :: r).foldl stepU acc) := usOk_fold _ _ h
        obtain ⟨n, h1, h2, h3⟩ := hu
        have hy1 := (h3 y hy).1
        refine okU_iff.2 ⟨hn, ?_⟩
        cases acc with
        | nil => exact .inl ⟨rfl, by omega, by omega⟩
        | cons a t =>
          have := (h3 a (fold_sub _ _ a (by simp))).1
          exact .inr ⟨a, t, rfl, by omega⟩
    · exact fold_all r _ (usOk_step h) x hx hn ⟨y, hy, hl⟩
theorem us_all {l : List (List Int)} {x y : List Int} (hx : x ∈ l) (hn : natL x = true) (hy : y ∈ usL l) (hl : x.length = y.length) : x ∈ usL l := fold_all l [] usOk_nil x hx hn ⟨y, hy, hl⟩
theorem fold_id : ∀ (l acc : List (List Int)), UsOk (acc ++ l) → l.foldl stepU acc = acc ++ l
  | [], acc, _ => by simp
  | m :: r, acc, h => by
    have e : okU acc m = true := by
      obtain ⟨n, h1, h2, h3⟩ := h
      have hm := h3 m (by simp)
      refine okU_iff.2 ⟨hm.2, ?_⟩
      cases acc with
      | nil => exact .inl ⟨rfl, by omega, by omega⟩
      | cons a t => exact .inr ⟨a, t, rfl, by rw [hm.1, (h3 a (by simp)).1]⟩
    have : stepU acc m = acc ++ [m] := if_pos e
    rw [List.foldl_cons, this, fold_id r (acc ++ [m]) (by simpa using h)]
    simp
theorem us_id {l : List (List Int)} (h : UsOk l) : usL l = l := by
  unfold usL
  rw [fold_id l [] (by simpa using h)]
  rfl
theorem usOk_sub {a b : List (List Int)} (h : UsOk b) (hs : ∀ x ∈ a, x ∈ b) : UsOk a := by
  obtain ⟨n, h1, h2, h3⟩ := h
  exact ⟨n, h1, h2, fun x hx => h3 x (hs x hx)⟩
theorem usOk_len {l : List (List Int)} (h : UsOk l) {x y : List Int} (hx : x ∈ l) (hy : y ∈ l) : x.length = y.length := by
  obtain ⟨n, h1, h2, h3⟩ := h
  rw [(h3 x hx).1, (h3 y hy).1]
theorem usOk_nat {l : List (List Int)} (h : UsOk l) {x : List Int} (hx : x ∈ l) : natL x = true := by
  obtain ⟨n, h1, h2, h3⟩ := h
  exact (h3 x hx).2

/-! the minimal elements -/
theorem leqL_eq {a b : List Int} (h : leqL a b = true) (g : leqL b a = true) : a = b := sameL_iff.1 (leqL_anti h g)
def Asc (l : List (List Int)) : Prop := l.Pairwise fun a b => cmpL a b < 0
def Wk (l : List (List Int)) : Prop := l.Pairwise fun a b => cmpL a b ≤ 0
def MinU (u : List (List Int)) (m : List Int) : Prop := m ∈ u ∧ ∀ x ∈ u, leqL x m = true → x = m
theorem cmpL_lt_trans {a b c : List Int} (h : cmpL a b < 0) (g : cmpL b c < 0) : cmpL a c < 0 := by
  have h1 := cmpL_trans a b c (by omega) (by omega)
  rcases Int.lt_or_eq_of_le h1 with h2 | h2
  · exact h2
  · have := cmpL_zero a c h2
    subst this
    have := cmpL_neg a b
    omega
theorem asc_ext : ∀ (a b : List (List Int)), Asc a → Asc b → (∀ x, x ∈ a ↔ x ∈ b) → a = b
  | [], [], _, _, _ => rfl
  | [], y :: _, _, _, h => absurd ((h y).2 (by simp)) (by simp)
  | x :: _, [], _, _, h => absurd ((h x).1 (by simp)) (by simp)
  | x :: r, y :: t, ha, hb, h => by
    obtain ⟨ha1, ha2⟩ := List.pairwise_cons.1 ha
    obtain ⟨hb1, hb2⟩ := List.pairwise_cons.1 hb
    have irr : ∀ z, ¬ cmpL z z < 0 := fun z => by rw [cmpL_refl]; omega
    have e : x = y := by
      rcases List.mem_cons.1 ((h x).1 (by simp)) with e | e
      · exact e
      · rcases List.mem_cons.1 ((h y).2 (by simp)) with e2 | e2
        · exact e2.symm
        · exact absurd (cmpL_lt_trans (ha1 y e2) (hb1 x e)) (irr x)
    subst e
    rw [asc_ext r t ha2 hb2 fun z => ?_]
    constructor
    · intro hz
      rcases List.mem_cons.1 ((h z).1 (List.mem_cons_of_mem _ hz)) with e | e
      · subst e; exact absurd (ha1 z hz) (irr z)
      · exact e
    · intro hz
      rcases List.mem_cons.1 ((h z).2 (List.mem_cons_of_mem _ hz)) with e | e
      · subst e; exact absurd (hb1 z hz) (irr z)
      · exact e
def insM (acc : List (List Int)) (m : List Int) : List (List Int) := if (acc.any fun s => leqL s m) = true then acc else acc ++ [m]
def minS (S : List (List Int)) : List (List Int) := S.foldl insM []
theorem minS_take {l : List (List Int)} {k : Nat} (hk : k < l.length) : minS (l.take (k + 1)) = insM (minS (l.take k)) l[k] := by
  unfold minS
  rw [List.take_succ_eq_append_getElem hk, List.foldl_append]
  rfl
structure MInv (P acc : List (List Int)) : Prop where
  asc : Asc acc
  mem : ∀ m, m ∈ acc ↔ MinU P m
  dom : ∀ x ∈ P, ∃ s ∈ acc, leqL s x = true
theorem minv_step {P acc : List (List Int)} {m : List Int} (h : MInv P acc) (hs : ∀ x ∈ P, cmpL x m ≤ 0) : MInv (P ++ [m]) (insM acc m) := by
  unfold insM
  by_cases e : (acc.any fun s => leqL s m) = true
  · rw [if_pos e]
    obtain ⟨s, hs1, hs2⟩ := List.any_eq_true.1 e
    refine ⟨h.asc, fun m' => ⟨fun hm => ?_, fun hm => ?_⟩, fun x hx => ?_⟩
    · have h1 := (h.mem m').1 hm
      refine ⟨List.mem_append_left _ h1.1, fun x hx hl => ?_⟩
      rcases List.mem_append.1 hx with hx | hx
      · exact h1.2 x hx hl
      · simp at hx
        subst hx
        have e3 : s = m' := h1.2 s ((h.mem s).1 hs1).1 (leqL_trans hs2 hl)
        subst e3
        exact leqL_eq hl hs2
    · rcases List.mem_append.1 hm.1 with hx | hx
      · exact (h.mem m').2 ⟨hx, fun x hx2 => hm.2 x (List.mem_append_left _ hx2)⟩
      · simp at hx
        subst hx
        have : s = m' := hm.2 s (List.mem_append_left _ ((h.mem s).1 hs1).1) hs2
        rw [← this]; exact hs1
    · rcases List.mem_append.1 hx with hx | hx
      · exact h.dom x hx
      · simp at hx
        subst hx
        exact ⟨s, hs1, hs2⟩
  · rw [if_neg e]
    have e' : ∀ s ∈ acc, leqL s m ≠ true := fun s hs1 hs2 => e (List.any_eq_true.2 ⟨s, hs1, hs2⟩)
    refine ⟨?_, fun m' => ⟨fun hm => ?_, fun hm => ?_⟩, fun x hx => ?_⟩
    · refine List.pairwise_append.2 ⟨h.asc, by simp, fun a ha b hb => ?_⟩
      simp at hb
      subst hb
      have h1 := hs a ((h.mem a).1 ha).1
      rcases Int.lt_or_eq_of_le h1 with h2 | h2
      · exact h2
      · have := cmpL_zero _ _ h2
        subst this
        exact absurd (leqL_refl a) (e' a ha)
    · rcases List.mem_append.1 hm with hm | hm
      · have h1 := (h.mem m').1 hm
        refine ⟨List.mem_append_left _ h1.1, fun x hx hl => ?_⟩
        rcases List.mem_append.1 hx with hx | hx
        · exact h1.2 x hx hl
        · simp at hx
          subst hx
          have h2 := cmpL_leq _ _ hl
          have h3 := hs m' h1.1
          have h4 := cmpL_neg m' x
          exact (cmpL_zero m' x (by omega)).symm
      · simp at hm
        subst hm
        refine ⟨by simp, fun x hx hl => ?_⟩
        rcases List.mem_append.1 hx with hx | hx
        · obtain ⟨s, hs1, hs2⟩ := h.dom x hx
          exact absurd (leqL_trans hs2 hl) (e' s hs1)
        · simpa using hx
    · rcases List.mem_append.1 hm.1 with hx | hx
      · exact List.mem_append_left _ ((h.mem m').2 ⟨hx, fun x hx2 => hm.2 x (List.mem_append_left _ hx2)⟩)
      · exact List.mem_append_right _ hx
    · rcases List.mem_append.1 hx with hx | hx
      · obtain ⟨s, h1, h2⟩ := h.dom x hx
        exact ⟨s, List.mem_append_left _ h1, h2⟩
      · simp at hx
        subst hx
        exact ⟨x, by simp, leqL_refl x⟩
theorem minv_fold : ∀ (r P acc : List (List Int)), MInv P acc → Wk (P ++ r) → MInv (P ++ r) (r.foldl insM acc)
  | [], P, acc, h, _ => by simpa using h
  | m :: r, P, acc, h, hw => by
    have h1 : ∀ x ∈ P, cmpL x m ≤ 0 := fun x hx => (List.pairwise_append.1 hw).2.2 x hx m (by simp)
    have := minv_fold r (P ++ [m]) (insM acc m) (minv_step h h1) (by simpa using hw)
    simpa using this
theorem minS_inv {S : List (List Int)} (h : Wk S) : MInv S (minS S) := by
  have h0 : MInv [] [] := by
    refine ⟨List.Pairwise.nil, fun m => ⟨fun h => (by cases h), fun h => ?_⟩, fun x h => (by cases h)⟩
    have := h.1
    cases this
  have := minv_fold S [] [] h0 (by simpa using h)
  rw [List.nil_append] at this
  exact this
/-! the reference's insertion -/
def insG (m : List Int) : List (List Int) → List (List Int)
  | [] => [m]
  | x :: r => if 0 < cmpL x m then m :: x :: r else if cmpL x m = 0 then x :: r else x :: insG m r
theorem insG_mem : ∀ (m : List Int) (l : List (List Int)) (x : List Int), x ∈ insG m l ↔ x = m ∨ x ∈ l
  | m, [], x => by simp [insG]
  | m, y :: r, x => by
    unfold insG
    split
    · simp
    · split
      · rename_i e
        have := cmpL_zero y m e
        subst this
        constructor
        · exact fun h => .inr h
        · rintro (rfl | h)
          · simp
          · exact h
      · rw [List.mem_cons, insG_mem m r x, List.mem_cons]
        constructor
        · rintro (h | h | h)
          · exact .inr (.inl h)
          · exact .inl h
          · exact .inr (.inr h)
        · rintro (h | h | h)
          · exact .inr (.inl h)
          · exact .inl h
          · exact .inr (.inr h)
theorem insG_asc : ∀ (m : List Int) (l : List (List Int)), Asc l → Asc (insG m l)
  | m, [], _ => by simp [insG, Asc]
  | m, y :: r, h => by
    obtain ⟨h1, h2⟩ := List.pairwise_cons.1 h
    unfold insG
    split
    · rename_i e
      have e1 : cmpL m y < 0 := by have := cmpL_neg y m; omega
      refine List.pairwise_cons.2 ⟨fun z hz => ?_, h⟩
      rcases List.mem_cons.1 hz with rfl | hz
      · exact e1
      · exact cmpL_lt_trans e1 (h1 z hz)
    · split
      · exact h
      · refine List.pairwise_cons.2 ⟨fun z hz => ?_, insG_asc m r h2⟩
        rcases (insG_mem m r z).1 hz with rfl | hz
        · omega
        · exact h1 z hz
def stI (m : List Int) (s : List (List Int) × Bool) (x : List Int) : List (List Int) × Bool :=
  ((if s.2 = false ∧ 0 < cmpL x m then s.1 ++ [m] else s.1) ++ [x], s.2 || decide (0 ≤ cmpL x m))
def finI (m : List Int) (s : List (List Int) × Bool) : List (List Int) := if s.2 = true then s.1 else s.1 ++ [m]
theorem stI_done : ∀ (m : List Int) (l out : List (List Int)), l.foldl (stI m) (out, true) = (out ++ l, true)
  | m, [], out => by simp
  | m, x :: r, out => by
    rw [List.foldl_cons]
    have : stI m (out, true) x = (out ++ [x], true) := by simp [stI]
    rw [this, stI_done m r]
    simp
theorem stI_all : ∀ (m : List Int) (l out : List (List Int)), finI m (l.foldl (stI m) (out, false)) = out ++ insG m l
  | m, [], out => by simp [finI, insG]
  | m, x :: r, out => by
    rw [List.foldl_cons]
    unfold insG
    by_cases h1 : 0 < cmpL x m
    · have : stI m (out, false) x = (out ++ [m] ++ [x], true) := by simp [stI, h1]; omega
      rw [this, stI_done, if_pos h1]
      simp [finI]
    · rw [if_neg h1]
      by_cases h2 : cmpL x m = 0
      · have : stI m (out, false) x = (out ++ [x], true) := by simp [stI, h2]
        rw [this, stI_done, if_pos h2]
        simp [finI]
      · have : stI m (out, false) x = (out ++ [x], false) := by simp [stI, h1]; omega
        rw [this, stI_all m r, if_neg h2]
        simp
theorem stI_take {m : List Int} {l : List (List Int)} {k : Nat} (hk : k < l.length) (s : List (List Int) × Bool) : (l.take (k + 1)).foldl (stI m) s = stI m ((l.take k).foldl (stI m) s) l[k] := by
  rw [List.take_succ_eq_append_getElem hk, List.foldl_append]
  rfl
def minB (u : List (List Int)) (m : List Int) : Bool := u.all fun x => !(leqL x m && !(sameL x m))
theorem minB_iff {u : List (List Int)} {m : List Int} : minB u m = true ↔ ∀ x ∈ u, leqL x m = true → x = m := by
  unfold minB
  rw [List.all_eq_true]
  constructor
  · intro h x hx hl
    have := h x hx
    rw [hl] at this
    exact sameL_iff.1 (by simpa using this)
  · intro h x hx
    cases hl : leqL x m with
    | false => simp
    | true => rw [h x hx hl, sameL_iff.2 rfl]; simp
def stM (u : List (List Int)) (out : List (List Int)) (m : List Int) : List (List Int) := if minB u m = true then insG m out else out
def makeU (u : List (List Int)) : List (List Int) := u.foldl (stM u) []
def makeL (l : List (List Int)) : List (List Int) := makeU (usL l)
theorem stM_take {u l : List (List Int)} {k : Nat} (hk : k < l.length) : (l.take (k + 1)).foldl (stM u) [] = stM u ((l.take k).foldl (stM u) []) l[k] := by
  rw [List.take_succ_eq_append_getElem hk, List.foldl_append]
  rfl
theorem stM_fold (u : List (List Int)) : ∀ (l out : List (List Int)), Asc out → Asc (l.foldl (stM u) out) ∧ ∀ x, x ∈ l.foldl (stM u) out ↔ x ∈ out ∨ (x ∈ l ∧ minB u x = true)
  | [], out, h => ⟨h, fun x => by simp⟩
  | m :: r, out, h => by
    rw [List.foldl_cons]
    by_cases e : minB u m = true
    · have e1 : stM u out m = insG m out := if_pos e
      rw [e1]
      obtain ⟨h1, h2⟩ := stM_fold u r _ (insG_asc m out h)
      refine ⟨h1, fun x => ?_⟩
      rw [h2 x, insG_mem, List.mem_cons]
      constructor
      · rintro ((rfl | h) | h)
        · exact .inr ⟨.inl rfl, e⟩
        · exact .inl h
        · exact .inr ⟨.inr h.1, h.2⟩
      · rintro (h | ⟨rfl | h, g⟩)
        · exact .inl (.inr h)
        · exact .inl (.inl rfl)
        · exact .inr ⟨h, g⟩
    · have e1 : stM u out m = out := if_neg e
      rw [e1]
      obtain ⟨h1, h2⟩ := stM_fold u r _ h
      refine ⟨h1, fun x => ?_⟩
      rw [h2 x, List.mem_cons]
      constructor
      · rintro (h | h)
        · exact .inl h
        · exact .inr ⟨.inr h.1, h.2⟩
      · rintro (h | ⟨rfl | h, g⟩)
        · exact .inl h
        · exact absurd g e
        · exact .inr ⟨h, g⟩
theorem makeU_spec (u : List (List Int)) : Asc (makeU u) ∧ ∀ x, x ∈ makeU u ↔ MinU u x := by
  obtain ⟨h1, h2⟩ := stM_fold u u [] List.Pairwise.nil
  refine ⟨h1, fun x => ?_⟩
  unfold makeU
  rw [h2 x, minB_iff]
  simp [MinU]
/-- the program's way: any sorted permutation -/
theorem minS_make {u S : List (List Int)} (hp : S.Perm u) (hw : Wk S) : minS S = makeU u := by
  have h := minS_inv hw
  obtain ⟨h1, h2⟩ := makeU_spec u
  refine asc_ext _ _ h.asc h1 fun x => ?_
  rw [h.mem, h2]
  unfold MinU
  rw [hp.mem_iff]
  constructor
  · exact fun ⟨a, b⟩ => ⟨a, fun y hy => b y (hp.mem_iff.2 hy)⟩
  · exact fun ⟨a, b⟩ => ⟨a, fun y hy => b y (hp.mem_iff.1 hy)⟩
theorem make_dom (u : List (List Int)) : ∀ x ∈ u, ∃ s ∈ makeU u, leqL s x = true := by
  have hp : (u.mergeSort fun a b => decide (cmpL a b ≤ 0)).Perm u := List.mergeSort_perm _ _
  have hw : Wk (u.mergeSort fun a b => decide (cmpL a b ≤ 0)) := by
    have := List.pairwise_mergeSort (le := fun a b => decide (cmpL a b ≤ 0)) (fun a b c h g => by simp at h g ⊢; exact cmpL_trans a b c h g) (fun a b => by have := cmpL_neg a b; simp; omega) u
    exact this.imp fun h => by simpa using h
  rw [← minS_make hp hw]
  intro x hx
  exact (minS_inv hw).dom x (hp.mem_iff.2 hx)
theorem make_us {l : List (List Int)} {x : List Int} (h : x ∈ makeL l) : x ∈ usL l := ((makeU_spec _).2 x).1 h |>.1
theorem usOk_make (l : List (List Int)) : UsOk (makeL l) := usOk_sub (usOk_us l) fun _ h => make_us h
theorem make_asc (l : List (List Int)) : Asc (makeL l) := (makeU_spec _).1
theorem make_anti {l : List (List Int)} {x y : List Int} (hx : x ∈ makeL l) (hy : y ∈ makeL l) (h : leqL x y = true) : x = y :=
  (((makeU_spec _).2 y).1 hy).2 x (make_us hx) h
theorem make_make (l : List (List Int)) : makeL (makeL l) = makeL l := by
  refine asc_ext _ _ (make_asc _) (make_asc _) fun x => ?_
  have e : usL (makeL l) = makeL l := us_id (usOk_make l)
  constructor
  · intro h
    have := make_us h
    rwa [e] at this
  · intro h
    refine ((makeU_spec _).2 x).2 ?_
    rw [e]
    exact ⟨h, fun y hy hl => make_anti hy h hl⟩
def conV (L : List (List Int)) (m : List Int) : Bool := natL m && L.any fun s => leqL s m
def hasV (u : List (List Int)) (m : List Int) : Bool := conV (usL u) m
def rhasV (u : List (List Int)) (m : List Int) : Bool := conV (makeL u) m
theorem con_iff {L : List (List Int)} {m : List Int} : conV L m = true ↔ natL m = true ∧ ∃ s ∈ L, leqL s m = true := by
  unfold conV
  rw [Bool.and_eq_true, List.any_eq_true]
theorem has_iff {l : List (List Int)} {m : List Int} : hasV l m = true ↔ natL m = true ∧ ∃ s ∈ makeL l, leqL s m = true := by
  unfold hasV
  rw [con_iff]
  refine and_congr Iff.rfl ⟨fun ⟨s, h1, h2⟩ => ?_, fun ⟨s, h1, h2⟩ => ⟨s, make_us h1, h2⟩⟩
  obtain ⟨t, h3, h4⟩ := make_dom _ s h1
  exact ⟨t, h3, leqL_trans h4 h2⟩
theorem rhas_has (l : List (List Int)) (m : List Int) : rhasV l m = hasV l m := by
  rw [Bool.eq_iff_iff, has_iff]
  exact con_iff
theorem has_make (l : List (List Int)) (m : List Int) : hasV (makeL l) m = hasV l m := by
  rw [Bool.eq_iff_iff, has_iff, has_iff, make_make]
theorem has_mem {l : List (List Int)} {m : List Int} (h : m ∈ makeL l) : hasV l m = true := has_iff.2 ⟨usOk_nat (usOk_make l) h, m, h, leqL_refl m⟩
def unionL (a b : List (List Int)) : List (List Int) := makeL (a ++ b)
def maxima (x y : List (List Int)) : List (List Int) := x.flatMap fun p => y.map fun q => maxL p q
def meetL (a b : List (List Int)) : List (List Int) := makeL (maxima (makeL a) (makeL b))
def subV (a b : List (List Int)) : Bool := (makeL a).all fun m => hasV b m
def smV (a b : List (List Int)) : Bool := subV a b && subV b a
def valV (u : List (List Int)) (n : Int) : Bool := (u.all fun m => decide ((m.length : Int) = n)) && decide (u = makeL u)
theorem sub_iff {a b : List (List Int)} : subV a b = true ↔ ∀ m ∈ makeL a, hasV b m = true := by unfold subV; rw [List.all_eq_true]
theorem has_up {l : List (List Int)} {m s : List Int} (h : hasV l m = true) (hl : leqL m s = true) (hn : natL s = true) : hasV l s = true := by
  obtain ⟨_, t, h1, h2⟩ := has_iff.1 h
  exact has_iff.2 ⟨hn, t, h1, leqL_trans h2 hl⟩
theorem sub_has {a b : List (List Int)} {m : List Int} (h : subV a b = true) (hm : hasV a m = true) : hasV b m = true := by
  obtain ⟨hn, t, h1, h2⟩ := has_iff.1 hm
  exact has_up (sub_iff.1 h t h1) h2 hn
theorem sub_refl (a : List (List Int)) : subV a a = true := sub_iff.2 fun _ h => has_mem h
theorem sub_trans {a b c : List (List Int)} (h : subV a b = true) (g : subV b c = true) : subV a c = true := sub_iff.2 fun m hm => sub_has g (sub_iff.1 h m hm)
theorem same_mk {a b : List (List Int)} (h : subV a b = true) (g : subV b a = true) : ∀ m ∈ makeL a, m ∈ makeL b := fun m hm => by
  obtain ⟨_, s, h1, h2⟩ := has_iff.1 (sub_iff.1 h m hm)
  obtain ⟨_, t, h3, h4⟩ := has_iff.1 (sub_iff.1 g s h1)
  have e := make_anti h3 hm (leqL_trans h4 h2)
  subst e
  rw [leqL_eq h4 h2]
  exact h1
theorem same_make {a b : List (List Int)} (h : smV a b = true) : makeL a = makeL b := by
  unfold smV at h
  rw [Bool.and_eq_true] at h
  exact asc_ext _ _ (make_asc a) (make_asc b) fun x => ⟨same_mk h.1 h.2 x, same_mk h.2 h.1 x⟩
theorem same_self (l : List (List Int)) : smV (makeL l) l = true := by
  unfold smV
  rw [Bool.and_eq_true]
  exact ⟨sub_iff.2 fun m hm => by rw [make_make] at hm; exact has_mem hm, sub_iff.2 fun m hm => by rw [has_make]; exact has_mem hm⟩
theorem us_append {a b : List (List Int)} {x y : List Int} (hx : x ∈ usL a) (hy : y ∈ usL b) (hl : x.length = y.length) (m : List Int) : m ∈ usL (a ++ b) ↔ m ∈ usL a ∨ m ∈ usL b := by
  have hx2 : x ∈ usL (a ++ b) := by
    unfold usL
    rw [List.foldl_append]
    exact fold_sub b _ x hx
  constructor
  · intro h
    have h1 := usOk_nat (usOk_us _) h
    have h2 := usOk_len (usOk_us _) h hx2
    rcases List.mem_append.1 (us_mem h) with h3 | h3
    · exact .inl (us_all h3 h1 hx h2)
    · exact .inr (us_all h3 h1 hy (by omega))
  · rintro (h | h)
    · exact us_all (List.mem_append_left _ (us_mem h)) (usOk_nat (usOk_us _) h) hx2 (usOk_len (usOk_us _) h hx)
    · exact us_all (List.mem_append_right _ (us_mem h)) (usOk_nat (usOk_us _) h) hx2 (by rw [usOk_len (usOk_us _) h hy, hl])
theorem union_has {a b : List (List Int)} {x y : List Int} (hx : x ∈ makeL a) (hy : y ∈ makeL b) (hl : x.length = y.length) (m : List Int) : hasV (unionL a b) m = (hasV a m || hasV b m) := by
  unfold unionL
  rw [has_make, Bool.eq_iff_iff, Bool.or_eq_true]
  unfold hasV
  rw [con_iff, con_iff, con_iff]
  have h := us_append (make_us hx) (make_us hy) hl
  constructor
  · rintro ⟨h1, s, h2, h3⟩
    rcases (h s).1 h2 with h4 | h4
    · exact .inl ⟨h1, s, h4, h3⟩
    · exact .inr ⟨h1, s, h4, h3⟩
  · rintro (⟨h1, s, h2, h3⟩ | ⟨h1, s, h2, h3⟩)
    · exact ⟨h1, s, (h s).2 (.inl h2), h3⟩
    · exact ⟨h1, s, (h s).2 (.inr h2), h3⟩
theorem natL_max {a b : List Int} (hl : a.length = b.length) (ha : natL a = true) (hb : natL b = true) : natL (maxL a b) = true := by
  unfold natL at *
  rw [allB_iff] at *
  intro k hk
  rw [maxL_len, if_pos hl] at hk
  have h1 := of_decide_eq_true (ha k hk)
  have h2 := of_decide_eq_true (hb k (by omega))
  rw [maxL_at hl k hk]
  refine decide_eq_true ?_
  unfold NatP at *
  omega
theorem maxima_mem {x y : List (List Int)} {m : List Int} : m ∈ maxima x y ↔ ∃ p ∈ x, ∃ q ∈ y, maxL p q = m := by
  unfold maxima
  simp [List.mem_flatMap, List.mem_map]
theorem usOk_maxima {a b : List (List Int)} {x y : List Int} (hx : x ∈ makeL a) (hy : y ∈ makeL b) (hl : x.length = y.length) : UsOk (maxima (makeL a) (makeL b)) := by
  obtain ⟨n, h1, h2, h3⟩ := usOk_make a
  obtain ⟨k, g1, g2, g3⟩ := usOk_make b
  have e1 := (h3 x hx).1
  have e2 := (g3 y hy).1
  refine ⟨n, h1, h2, fun m hm => ?_⟩
  obtain ⟨p, hp, q, hq, rfl⟩ := maxima_mem.1 hm
  have f1 := h3 p hp
  have f2 := g3 q hq
  have f3 : p.length = q.length := by omega
  exact ⟨by rw [maxL_len, if_pos f3]; exact f1.1, natL_max f3 f1.2 f2.2⟩
theorem meet_has {a b : List (List Int)} {x y : List Int} (hx : x ∈ makeL a) (hy : y ∈ makeL b) (hl : x.length = y.length) (m : List Int) : hasV (meetL a b) m = (hasV a m && hasV b m) := by
  unfold meetL
  have e0 : hasV (maxima (makeL a) (makeL b)) m = conV (maxima (makeL a) (makeL b)) m := by unfold hasV; rw [us_id (usOk_maxima hx hy hl)]
  rw [has_make, e0, Bool.eq_iff_iff, Bool.and_eq_true, has_iff, has_iff, con_iff]
  constructor
  · rintro ⟨h1, s, h2, h3⟩
    obtain ⟨p, hp, q, hq, rfl⟩ := maxima_mem.1 h2
    have e : p.length = q.length := by
      rw [usOk_len (usOk_make a) hp hx, usOk_len (usOk_make b) hq hy, hl]
    exact ⟨⟨h1, p, hp, leqL_trans (maxL_l e) h3⟩, h1, q, hq, leqL_trans (maxL_r e) h3⟩
  · rintro ⟨⟨h1, p, hp, h2⟩, _, q, hq, h3⟩
    have e : p.length = q.length := by
      rw [usOk_len (usOk_make a) hp hx, usOk_len (usOk_make b) hq hy, hl]
    exact ⟨h1, maxL p q, maxima_mem.2 ⟨p, hp, q, hq, rfl⟩, maxL_lub e h2 h3⟩
theorem lattice {a b : List (List Int)} {x y : List Int} (hx : x ∈ makeL a) (hy : y ∈ makeL b) (hl : x.length = y.length) :
    subV (meetL a b) a = true ∧ subV (meetL a b) b = true ∧ subV a (unionL a b) = true ∧ subV b (unionL a b) = true := by
  have hm : ∀ m ∈ makeL (meetL a b), hasV a m = true ∧ hasV b m = true := fun m hm => by
    have := has_mem hm
    rw [meet_has hx hy hl, Bool.and_eq_true] at this
    exact this
  refine ⟨sub_iff.2 fun m h => (hm m h).1, sub_iff.2 fun m h => (hm m h).2, sub_iff.2 fun m h => ?_, sub_iff.2 fun m h => ?_⟩
  · rw [union_has hx hy hl, has_mem h, Bool.true_or]
  · rw [union_has hx hy hl, has_mem h, Bool.or_true]
theorem val_make {l : List (List Int)} {x : List Int} (hx : x ∈ makeL l) : valV (makeL l) x.length = true := by
  unfold valV
  rw [Bool.and_eq_true, make_make]
  refine ⟨List.all_eq_true.2 fun m hm => ?_, by simp⟩
  rw [usOk_len (usOk_make l) hm hx]
  simp
theorem has_all {l : List (List Int)} {x m : List Int} (hx : x ∈ makeL l) (hm : m ∈ l) (hn : natL m = true) (hl : m.length = x.length) : hasV (makeL l) m = true := by
  rw [has_make]
  unfold hasV
  exact con_iff.2 ⟨hn, m, us_all hm hn (make_us hx) hl, leqL_refl m⟩
end Go.Proofs.Ytlppoablhipinaa
