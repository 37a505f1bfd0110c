/- A net that comes in, opened. -/
import Derived.Test.YtlbcdnobpnllkaaGreatMC
import Derived.Lib.SmallJoins
import Derived.OpenShut
import Derived.Deep.Slices
import Derived.Deep.Fields
namespace Go.Proofs.YtlbcdnobpnllkaaGreat
open Go.RowKit Go.ChangeShapes Go.WideShapes Go.Deep

instance : Inhabited PlaceV := ⟨⟨ByteArray.empty, 0, 0⟩⟩
instance : Inhabited TransV := ⟨⟨ByteArray.empty, ⟨none, 0, []⟩, ⟨none, 0, []⟩, ⟨none, 0, []⟩, 0⟩⟩
section
variable {H : Type} {enc : TypeId × Value → H} {P : Program} {w : World} {base : Nat} {spare : Nat → Bool} {held : Bool}
/-- element by element: each field's cell and reading -/
theorem elems_of {t e : TypeId} {fs : Array Field} {fuel : Nat} {v : Value} {x : DataW H × List MemPlace} (ht : P.underlying t = some (.slice e)) (he : P.underlying e = some (.struct fs)) (hone : oneCellFields P fs = true) (hC : P.cellsOf e = fs.size) (hpos : 0 < fs.size)
    (h : DataW.trod enc P w base spare held fuel t [v] = some x) :
    ∃ (A : Option Addr) (len cap : Nat), v = .slice A len cap ∧ len ≤ cap ∧ cap ≤ maxLen ∧
      ∀ i, i < len → ∃ b off, A = some ⟨b, off, none⟩ ∧ b < w.heap.size ∧ ∀ (j : Nat) (f : Field), fs[j]? = some f → ∃ (u : Value) (y : DataW H × List MemPlace) (n : Nat), w.cell? ⟨b, off + (i * fs.size + j), none⟩ = some u ∧ DataW.trod enc P w base spare held n f.type [u] = some y := by
  rcases open_slice ht h with ⟨h0, _⟩ | ⟨a, len, cap, m, n, D, Pl, hcs, _, hl, hm, hmm, _, hi⟩
  · simp at h0
    exact ⟨none, 0, 0, h0, Nat.le_refl _, Nat.zero_le _, fun i hi => absurd hi (by omega)⟩
  · simp at hcs
    refine ⟨some a, len, cap, hcs, hl, hm, fun i hlt => ?_⟩
    have him : i < m := by rw [hmm]; split <;> omega
    obtain ⟨cs, hc, htr⟩ := hi i him
    rw [hC] at hc
    obtain ⟨_, hcl, hat⟩ := World.cells?_some hc
    obtain ⟨ys, n', _, _, _, hyl, hf⟩ := DataW.trod_struct he htr
    obtain ⟨b, off, spot⟩ := a
    have hspot : spot = none := by
      obtain ⟨cs0, hc0, _⟩ := hi 0 (by rw [hmm]; split <;> omega)
      rw [hC] at hc0
      obtain ⟨_, hcl0, hat0⟩ := World.cells?_some hc0
      have c0 := hat0 0 hpos
      rw [List.getElem?_eq_getElem (by omega)] at c0
      have h1 := World.cell?_spot c0
      simpa [Addr.add] using h1
    subst hspot
    have hat2 : ∀ j, j < fs.size → w.cell? ⟨b, off + (i * fs.size + j), none⟩ = cs[j]? := fun j hj => by
      have h1 := hat j hj
      rw [add_plain, add_plain, Nat.add_assoc] at h1
      exact h1
    refine ⟨b, off, rfl, ?_, fun j f hj => ?_⟩
    · have h1 := hat2 0 hpos
      rw [List.getElem?_eq_getElem (by omega)] at h1
      exact World.block_lt_of_cell? w _ h1
    · obtain ⟨ho, hk⟩ := hone_of hone j f hj
      have hjl : j < fs.size := (Array.getElem?_eq_some_iff.1 hj).1
      have h1 := hf j f hj
      rw [ho, hk, List.drop_eq_getElem_cons (by omega)] at h1
      have h2 : DataW.trod enc P w base spare held n' f.type [cs[j]'(by omega)] = ys[j]? := h1
      rw [List.getElem?_eq_getElem (by omega)] at h2
      exact ⟨_, _, _, (hat2 j hjl).trans (List.getElem?_eq_getElem (by omega)), h2⟩
end
section
variable {H : Type} {enc : TypeId × Value → H} {w : World} {base : Nat} {spare : Nat → Bool} {held : Bool}
theorem open_arcs {fuel : Nat} {v : Value} {x : DataW H × List MemPlace} (h : DataW.trod enc Tryz.prog w base spare held fuel 41 [v] = some x) :
    ∃ a : ArcsV, v = .slice a.A a.l.length a.c ∧ a.l.length ≤ a.c ∧ a.c ≤ maxLen ∧ ReadsA w a.A a.l := by
  obtain ⟨A, len, cap, hv, h1, h2, hi⟩ := elems_of Tryz.underlying41 Tryz.underlying69 (by kernel_rfl) (by kernel_rfl) (by decide) h
  have hx : ∀ i, i < len → ∃ z : Int × Int, ∃ b off, A = some ⟨b, off, none⟩ ∧ b < w.heap.size ∧ w.cell? ⟨b, off + i * 2, none⟩ = some (.int .i64 z.1) ∧ w.cell? ⟨b, off + i * 2 + 1, none⟩ = some (.int .i64 z.2) := fun i hl => by
    obtain ⟨b, off, e, hb, hf⟩ := hi i hl
    obtain ⟨u0, y0, n0, c0, t0⟩ := hf 0 _ rfl
    obtain ⟨u1, y1, n1, c1, t1⟩ := hf 1 _ rfl
    obtain ⟨z0, e0, _, _⟩ := DataW.trod_int Tryz.underlying3 t0
    obtain ⟨z1, e1, _, _⟩ := DataW.trod_int Tryz.underlying3 t1
    simp at e0 e1
    subst e0 e1
    exact ⟨(z0, z1), b, off, e, hb, c0, c1⟩
  obtain ⟨Z, hZ⟩ := choose_lt hx
  refine ⟨⟨A, cap, (List.range len).map Z⟩, by simp [hv], by simpa using h1, h2, fun j hj => ?_⟩
  have hj' : j < len := by simpa using hj
  obtain ⟨b, off, e, hb, c0, c1⟩ := hZ j hj'
  exact ⟨b, off, e, hb, by rw [c0]; simp [aP, hj'], by rw [c1]; simp [aW, hj']⟩
theorem open_places {fuel : Nat} {v : Value} {x : DataW H × List MemPlace} (h : DataW.trod enc Tryz.prog w base spare held fuel 22 [v] = some x) :
    ∃ A c ps, v = .slice A (List.length ps) c ∧ ps.length ≤ c ∧ c ≤ maxLen ∧ ReadsP w A ps ∧ ∀ j, (pA ps j).nm.size ≤ maxLen := by
  obtain ⟨A, len, cap, hv, h1, h2, hi⟩ := elems_of Tryz.underlying22 Tryz.underlying40 (by kernel_rfl) (by kernel_rfl) (by decide) h
  have hx : ∀ i, i < len → ∃ z : PlaceV, z.nm.size ≤ maxLen ∧ ∃ b off, A = some ⟨b, off, none⟩ ∧ b < w.heap.size ∧ w.cell? ⟨b, off + i * 3, none⟩ = some (.string z.nm) ∧ w.cell? ⟨b, off + i * 3 + 1, none⟩ = some (.int .i64 z.ini) ∧ w.cell? ⟨b, off + i * 3 + 2, none⟩ = some (.int .i64 z.cap) := fun i hl => by
    obtain ⟨b, off, e, hb, hf⟩ := hi i hl
    obtain ⟨u0, y0, n0, c0, t0⟩ := hf 0 _ rfl
    obtain ⟨u1, y1, n1, c1, t1⟩ := hf 1 _ rfl
    obtain ⟨u2, y2, n2, c2, t2⟩ := hf 2 _ rfl
    obtain ⟨s0, e0, _, hs⟩ := DataW.trod_string Tryz.underlying9 t0
    obtain ⟨z1, e1, _, _⟩ := DataW.trod_int Tryz.underlying3 t1
    obtain ⟨z2, e2, _, _⟩ := DataW.trod_int Tryz.underlying3 t2
    simp at e0 e1 e2
    subst e0 e1 e2
    exact ⟨⟨s0, z1, z2⟩, hs, b, off, e, hb, c0, c1, c2⟩
  obtain ⟨Z, hZ⟩ := choose_lt hx
  have hat : ∀ j, j < len → pA ((List.range len).map Z) j = Z j := fun j hj => by simp [pA, hj]
  refine ⟨A, cap, (List.range len).map Z, by simp [hv], by simpa using h1, h2, fun j hj => ?_, fun j => ?_⟩
  · have hj' : j < len := by simpa using hj
    obtain ⟨_, b, off, e, hb, c0, c1, c2⟩ := hZ j hj'
    rw [hat j hj']
    exact ⟨b, off, e, hb, c0, c1, c2⟩
  · by_cases hj : j < len
    · rw [hat j hj]; exact (hZ j hj).1
    · have : pA ((List.range len).map Z) j = ⟨ByteArray.empty, 0, 0⟩ := by unfold pA; rw [List.getElem?_eq_none (by simp; omega)]; rfl
      rw [this]
      exact Nat.zero_le _
theorem open_transs {fuel : Nat} {v : Value} {x : DataW H × List MemPlace} (h : DataW.trod enc Tryz.prog w base spare held fuel 23 [v] = some x) :
    ∃ A c ts, v = .slice A (List.length ts) c ∧ ts.length ≤ c ∧ c ≤ maxLen ∧ ReadsT w A ts ∧ ∀ j, (tA ts j).nm.size ≤ maxLen ∧ (tA ts j).pre.l.length ≤ maxLen ∧ (tA ts j).post.l.length ≤ maxLen ∧ (tA ts j).inh.l.length ≤ maxLen := by
  obtain ⟨A, len, cap, hv, h1, h2, hi⟩ := elems_of Tryz.underlying23 Tryz.underlying43 (by kernel_rfl) (by kernel_rfl) (by decide) h
  have hx : ∀ i, i < len → ∃ z : TransV, (z.nm.size ≤ maxLen ∧ z.pre.l.length ≤ maxLen ∧ z.post.l.length ≤ maxLen ∧ z.inh.l.length ≤ maxLen) ∧ ∃ b off, A = some ⟨b, off, none⟩ ∧ b < w.heap.size ∧
      w.cell? ⟨b, off + i * 5, none⟩ = some (.string z.nm) ∧ w.cell? ⟨b, off + i * 5 + 1, none⟩ = some (.slice z.pre.A z.pre.l.length z.pre.c) ∧ w.cell? ⟨b, off + i * 5 + 2, none⟩ = some (.slice z.post.A z.post.l.length z.post.c) ∧
      w.cell? ⟨b, off + i * 5 + 3, none⟩ = some (.slice z.inh.A z.inh.l.length z.inh.c) ∧ w.cell? ⟨b, off + i * 5 + 4, none⟩ = some (.int .i64 z.prio) ∧ ReadsA w z.pre.A z.pre.l ∧ ReadsA w z.post.A z.post.l ∧ ReadsA w z.inh.A z.inh.l := fun i hl => by
    obtain ⟨b, off, e, hb, hf⟩ := hi i hl
    obtain ⟨u0, y0, n0, c0, t0⟩ := hf 0 _ rfl
    obtain ⟨u1, y1, n1, c1, t1⟩ := hf 1 _ rfl
    obtain ⟨u2, y2, n2, c2, t2⟩ := hf 2 _ rfl
    obtain ⟨u3, y3, n3, c3, t3⟩ := hf 3 _ rfl
    obtain ⟨u4, y4, n4, c4, t4⟩ := hf 4 _ rfl
    obtain ⟨s0, e0, _, hs⟩ := DataW.trod_string Tryz.underlying9 t0
    obtain ⟨a1, rfl, l1, m1, r1⟩ := open_arcs t1
    obtain ⟨a2, rfl, l2, m2, r2⟩ := open_arcs t2
    obtain ⟨a3, rfl, l3, m3, r3⟩ := open_arcs t3
    obtain ⟨z4, e4, _, _⟩ := DataW.trod_int Tryz.underlying3 t4
    simp at e0 e4
    subst e0 e4
    exact ⟨⟨s0, a1, a2, a3, z4⟩, ⟨hs, Nat.le_trans l1 m1, Nat.le_trans l2 m2, Nat.le_trans l3 m3⟩, b, off, e, hb, c0, c1, c2, c3, c4, r1, r2, r3⟩
  obtain ⟨Z, hZ⟩ := choose_lt hx
  have hat : ∀ j, j < len → tA ((List.range len).map Z) j = Z j := fun j hj => by simp [tA, hj]
  refine ⟨A, cap, (List.range len).map Z, by simp [hv], by simpa using h1, h2, fun j hj => ?_, fun j => ?_⟩
  · have hj' : j < len := by simpa using hj
    rw [hat j hj']
    exact (hZ j hj').2
  · by_cases hj : j < len
    · rw [hat j hj]; exact (hZ j hj).1
    · have : tA ((List.range len).map Z) j = ⟨ByteArray.empty, ⟨none, 0, []⟩, ⟨none, 0, []⟩, ⟨none, 0, []⟩, 0⟩ := by unfold tA; rw [List.getElem?_eq_none (by simp; omega)]; rfl
      rw [this]
      exact ⟨Nat.zero_le _, Nat.zero_le _, Nat.zero_le _, Nat.zero_le _⟩
/-- a net, however large -/
structure NetW (w : World) (n : NetV) : Prop where
  hnm : n.nm.size ≤ maxLen
  hpl : n.ps.length ≤ maxLen
  htl : n.ts.length ≤ maxLen
  hpz : ∀ j, (pA n.ps j).nm.size ≤ maxLen
  htz : ∀ j, (tA n.ts j).nm.size ≤ maxLen ∧ (tA n.ts j).pre.l.length ≤ maxLen ∧ (tA n.ts j).post.l.length ≤ maxLen ∧ (tA n.ts j).inh.l.length ≤ maxLen
  hpc : n.ps.length ≤ n.pc
  htc : n.ts.length ≤ n.tc
  rp : ReadsP w n.PA n.ps
  rt : ReadsT w n.TA n.ts
theorem NetW.below {w w' : World} {n : NetV} {B : Nat} (h : NetW w n) (hb : Below B w w') (hB : w.heap.size ≤ B) : NetW w' n :=
  ⟨h.hnm, h.hpl, h.htl, h.hpz, h.htz, h.hpc, h.htc, h.rp.below hb hB, h.rt.below hb hB⟩
set_option maxRecDepth 100000 in
theorem open_net {r : Reach} {b0 : Nat} {v : Value} {d : DataW H} {p : List MemPlace} (hv : Value.okWide Tryz.prog w r b0 25 v) (h : DataW.Trod enc Tryz.prog w base spare held 25 v d p) :
    ∃ n : NetV, v = .agg #[.string n.nm, .slice n.PA n.ps.length n.pc, .slice n.TA n.ts.length n.tc] ∧ NetW w n := by
  obtain ⟨v0, v1, v2, y0, y1, y2, n, rfl, _, _, t0, t1, t2⟩ := Joins.open_agg3 Tryz.underlying25 (by kernel_rfl) (by kernel_rfl) hv h
  obtain ⟨s0, e0, _, hs⟩ := DataW.trod_string Tryz.underlying9 t0
  obtain ⟨A, c, ps, rfl, h1, h2, h3, h4⟩ := open_places t1
  obtain ⟨B, c2, ts, rfl, k1, k2, k3, k4⟩ := open_transs t2
  simp at e0
  subst e0
  exact ⟨⟨s0, A, ps, c, B, ts, c2⟩, rfl, hs, Nat.le_trans h1 h2, Nat.le_trans k1 k2, h4, k4, h1, k1, h3, k3⟩
end
end Go.Proofs.YtlbcdnobpnllkaaGreat
