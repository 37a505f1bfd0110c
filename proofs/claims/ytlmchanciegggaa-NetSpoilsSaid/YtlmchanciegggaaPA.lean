/- What the law on spoiled nets wants of the check: a net with a place or a transition more. -/
import Derived.Test.YtlmchanciegggaaOA
namespace Go.Proofs.Ytlmchanciegggaa
open Go.RowKit

theorem pA_app {ps : List PlaceV} {x : PlaceV} {j : Nat} (h : j < ps.length) : pA (ps ++ [x]) j = pA ps j := by
  unfold pA; rw [List.getElem?_append_left h]
theorem pA_last (ps : List PlaceV) (x : PlaceV) : pA (ps ++ [x]) ps.length = x := by
  unfold pA; rw [List.getElem?_append_right (Nat.le_refl _)]; simp
theorem tA_app {ts : List TransV} {x : TransV} {j : Nat} (h : j < ts.length) : tA (ts ++ [x]) j = tA ts j := by
  unfold tA; rw [List.getElem?_append_left h]
theorem tA_last (ts : List TransV) (x : TransV) : tA (ts ++ [x]) ts.length = x := by
  unfold tA; rw [List.getElem?_append_right (Nat.le_refl _)]; simp
theorem placeI_app {ps : List PlaceV} {x : PlaceV} {n : Nat} {s : ByteArray} (h : n ≤ ps.length) : placeI (ps ++ [x]) n s = placeI ps n s := by
  unfold placeI; exact firstI_congr n 0 fun j _ hj => by rw [pA_app (by omega)]
theorem transI_app {ts : List TransV} {x : TransV} {n : Nat} {s : ByteArray} (h : n ≤ ts.length) : transI (ts ++ [x]) n s = transI ts n s := by
  unfold transI; exact firstI_congr n 0 fun j _ hj => by rw [tA_app (by omega)]
theorem placeE_app {ps : List PlaceV} {x : PlaceV} {j : Nat} (h : j < ps.length) : placeE (ps ++ [x]) j = placeE ps j := by
  unfold placeE; rw [pA_app h, placeI_app (by omega)]
theorem transE_app {m : Nat} {ps : List PlaceV} {ts : List TransV} {x : TransV} {j : Nat} (h : j < ts.length) : transE m ps (ts ++ [x]) j = transE m ps ts j := by
  unfold transE; rw [tA_app h, transI_app (by omega)]
theorem placeI_first {ps : List PlaceV} (n : Nat) (h : 0 < n) : 0 ≤ placeI ps n (pA ps 0).nm := by
  have : placeI ps n (pA ps 0).nm = (0 : Nat) := firstI_at (f := fun j => eqS (pA ps j).nm (pA ps 0).nm) h (fun j hj => absurd hj (by omega)) (eqS_self _)
  rw [this]; exact Int.le_refl _
theorem not_size {n : NetV} (h : okN n = true) : ¬ (n.ps.length < 1 ∨ 24 < n.ps.length ∨ 24 < n.ts.length) := by
  obtain ⟨_, h2, h3, h4, _, _⟩ := okN_parts h
  omega
/-- a place more, with the name of the first -/
theorem spoil_place {n : NetV} (h : okN n = true) (hl : n.ps.length < 24) (i c : Int) :
    checkV n.nm (n.ps ++ [⟨(pA n.ps 0).nm, i, c⟩]) n.ts = (6, (n.ps.length : Int)) := by
  obtain ⟨h1, h2, h3, h4, h5, h6⟩ := okN_parts h
  have hv : placeE (n.ps ++ [⟨(pA n.ps 0).nm, i, c⟩]) n.ps.length = 6 := by
    have g1 := (placeE_parts (h5 0 (by omega))).1
    have g2 := placeI_first (ps := n.ps) n.ps.length (by omega)
    unfold placeE
    rw [pA_last, placeI_app (Nat.le_refl _)]
    dsimp only
    rw [if_neg (by rw [g1]; simp), if_pos g2]
  rw [checkV_place h1 (by rw [List.length_append]; simp; omega) (k := n.ps.length) (by rw [List.length_append]; simp) (fun j hj => by rw [placeE_app hj]; exact h5 j hj) (by rw [hv]; omega), hv]
/-- a transition more: with the name of the first place, or with no name -/
theorem spoil_trans {n : NetV} (h : okN n = true) (hl : n.ts.length < 24) (x : TransV) (v : Int) (hx : transE n.ps.length n.ps (n.ts ++ [x]) n.ts.length = v) (h0 : v ≠ 0) :
    checkV n.nm n.ps (n.ts ++ [x]) = (v, (n.ps.length : Int) + (n.ts.length : Int)) := by
  obtain ⟨h1, h2, h3, h4, h5, h6⟩ := okN_parts h
  rw [checkV_trans h1 (by simp only [List.length_append, List.length_cons, List.length_nil]; omega) h5 (k := n.ts.length) (by rw [List.length_append]; simp) (fun j hj => by rw [transE_app hj]; exact h6 j hj) (by rw [hx]; exact h0), hx]
theorem spoil_twice {n : NetV} (h : okN n = true) (p q i : ArcsV) (r : Int) :
    transE n.ps.length n.ps (n.ts ++ [⟨(pA n.ps 0).nm, p, q, i, r⟩]) n.ts.length = 6 := by
  obtain ⟨_, h2, _, _, h5, _⟩ := okN_parts h
  have g1 := (placeE_parts (h5 0 (by omega))).1
  have g2 := placeI_first (ps := n.ps) n.ps.length (by omega)
  unfold transE
  rw [tA_last]
  dsimp only
  rw [if_neg (by rw [g1]; simp), if_pos (Or.inl g2)]
theorem spoil_noname {n : NetV} (s : ByteArray) (hs : nameB (bytesI s) = false) (p q i : ArcsV) (r : Int) :
    transE n.ps.length n.ps (n.ts ++ [⟨s, p, q, i, r⟩]) n.ts.length = 5 := by
  unfold transE
  rw [tA_last]
  dsimp only
  rw [if_pos hs]
/-- no name; no places -/
theorem spoil_empty (ps : List PlaceV) (ts : List TransV) : checkV ⟨#[]⟩ ps ts = (5, 0) := checkV_name (by decide)
theorem spoil_none {n : NetV} (h : okN n = true) : checkV n.nm [] n.ts = (2, 0) := checkV_size (okN_parts h).1 (Or.inl (by simp))

/-- a place's three cells, a transition's five, laid out -/
def cellsP (ps : List PlaceV) : List Value := ps.flatMap fun p => [.string p.nm, .int .i64 p.ini, .int .i64 p.cap]
def cellsT (ts : List TransV) : List Value := ts.flatMap fun t => [.string t.nm, .slice t.pre.A t.pre.l.length t.pre.c, .slice t.post.A t.post.l.length t.post.c, .slice t.inh.A t.inh.l.length t.inh.c, .int .i64 t.prio]
theorem cellsP_len : ∀ ps : List PlaceV, (cellsP ps).length = ps.length * 3
  | [] => rfl
  | p :: ps => by unfold cellsP; rw [List.flatMap_cons, List.length_append]; have := cellsP_len ps; unfold cellsP at this; rw [this]; simp; omega
theorem cellsT_len : ∀ ts : List TransV, (cellsT ts).length = ts.length * 5
  | [] => rfl
  | t :: ts => by unfold cellsT; rw [List.flatMap_cons, List.length_append]; have := cellsT_len ts; unfold cellsT at this; rw [this]; simp; omega
theorem cellsP_snoc (ps : List PlaceV) (x : PlaceV) : cellsP (ps ++ [x]) = cellsP ps ++ [.string x.nm, .int .i64 x.ini, .int .i64 x.cap] := by simp [cellsP]
theorem cellsT_snoc (ts : List TransV) (x : TransV) : cellsT (ts ++ [x]) = cellsT ts ++ [.string x.nm, .slice x.pre.A x.pre.l.length x.pre.c, .slice x.post.A x.post.l.length x.post.c, .slice x.inh.A x.inh.l.length x.inh.c, .int .i64 x.prio] := by simp [cellsT]
theorem cellsP_at : ∀ (ps : List PlaceV) (j : Nat), j < ps.length → (cellsP ps)[j * 3]? = some (.string (pA ps j).nm) ∧ (cellsP ps)[j * 3 + 1]? = some (.int .i64 (pA ps j).ini) ∧ (cellsP ps)[j * 3 + 2]? = some (.int .i64 (pA ps j).cap)
  | p :: ps, 0, _ => by simp [cellsP, pA]
  | p :: ps, j + 1, h => by
    have ih := cellsP_at ps j (by simpa using h)
    have e : cellsP (p :: ps) = .string p.nm :: .int .i64 p.ini :: .int .i64 p.cap :: cellsP ps := by simp [cellsP]
    have ep : pA (p :: ps) (j + 1) = pA ps j := by simp [pA]
    rw [e, ep, show (j + 1) * 3 = j * 3 + 1 + 1 + 1 by omega]
    simpa only [List.getElem?_cons_succ] using ih
theorem cellsT_at : ∀ (ts : List TransV) (j : Nat), j < ts.length → (cellsT ts)[j * 5]? = some (.string (tA ts j).nm) ∧ (cellsT ts)[j * 5 + 1]? = some (.slice (tA ts j).pre.A (tA ts j).pre.l.length (tA ts j).pre.c) ∧ (cellsT ts)[j * 5 + 2]? = some (.slice (tA ts j).post.A (tA ts j).post.l.length (tA ts j).post.c) ∧ (cellsT ts)[j * 5 + 3]? = some (.slice (tA ts j).inh.A (tA ts j).inh.l.length (tA ts j).inh.c) ∧ (cellsT ts)[j * 5 + 4]? = some (.int .i64 (tA ts j).prio)
  | t :: ts, 0, _ => by simp [cellsT, tA]
  | t :: ts, j + 1, h => by
    have ih := cellsT_at ts j (by simpa using h)
    have e : cellsT (t :: ts) = .string t.nm :: .slice t.pre.A t.pre.l.length t.pre.c :: .slice t.post.A t.post.l.length t.post.c :: .slice t.inh.A t.inh.l.length t.inh.c :: .int .i64 t.prio :: cellsT ts := by simp [cellsT]
    have ep : tA (t :: ts) (j + 1) = tA ts j := by simp [tA]
    rw [e, ep, show (j + 1) * 5 = j * 5 + 1 + 1 + 1 + 1 + 1 by omega]
    simpa only [List.getElem?_cons_succ] using ih
end Go.Proofs.Ytlmchanciegggaa
