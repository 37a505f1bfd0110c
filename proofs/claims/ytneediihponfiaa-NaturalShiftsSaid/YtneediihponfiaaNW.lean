/- Bounded natural solutions: the state of the iterator, and its mathematics. -/
import Derived.Test.YtneediihponfiaaNV
namespace Go.Proofs.Ytneediihponfiaa
open Go.RowKit

theorem at0_set {x : List Int} {i : Nat} {v : Int} (k : Nat) (hi : i < x.length) : at0 (x.set i v) k = if k = i then v else at0 x k := by
  unfold at0
  rw [List.getElem?_set]
  by_cases h : k = i
  · subst h; simp [hi]
  · rw [if_neg (fun e => h e.symm), if_neg h]
theorem dot_set (r x : List Int) (i : Nat) (v : Int) (hi : i < x.length) : ∀ k, dotTo r (x.set i v) k = dotTo r x k + if i < k then (v - at0 x i) * at0 r i else 0
  | 0 => by simp [dotTo]
  | k + 1 => by
    simp only [dotTo]
    rw [dot_set r x i v hi k, at0_set k hi]
    by_cases h : k = i
    · subst h
      rw [if_pos rfl, if_neg (by omega), if_pos (by omega), Int.sub_mul, Int.mul_comm v, Int.mul_comm (at0 x k)]
      omega
    · rw [if_neg h]
      by_cases h2 : i < k
      · rw [if_pos h2, if_pos (by omega)]; omega
      · rw [if_neg h2, if_neg (by omega)]; omega
theorem withB_of {l : List Int} {lo hi : Int} (h : ∀ k, k < l.length → lo ≤ at0 l k ∧ at0 l k ≤ hi) : withB l lo hi = true := by
  unfold withB
  rw [anyB_no (fun k hk => ?_)]
  · rfl
  · unfold badI
    rw [decide_eq_false (by have := h k hk; omega), decide_eq_false (by have := h k hk; omega)]
    rfl
def RestEq (L : List Row) (b x r : List Int) : Prop := ∀ k, k < L.length → at0 r k = at0 b k - dotTo (rA L k).zs x x.length
theorem rest_zero {L : List Row} {b x r : List Int} (hl : r.length = L.length) (h : RestEq L b x r) : withB r 0 0 = isB L b x := by
  cases hz : isB L b x
  · cases hw : withB r 0 0
    · rfl
    · have := withB_at hw
      rw [← hz]
      symm
      refine allB_yes fun k hk => decide_eq_true ?_
      have h1 := this k (by omega)
      have h2 := h k hk
      omega
  · refine withB_of fun k hk => ?_
    have h1 := allB_iff.1 hz k (by omega)
    have h1 := of_decide_eq_true h1
    have h2 := h k (by omega)
    omega
/-- the solutions that begin with p, where us are the bounds of the rest -/
def solsP (L : List Row) (b us p : List Int) : List (List Int) := ((vecs us).map (p ++ ·)).filter (isB L b)
/-- those whose next element is below v -/
def solsU (L : List Row) (b us p : List Int) (v : Nat) : List (List Int) := ((List.range v).flatMap fun (a : Nat) => (vecs us).map fun y => p ++ (a : Int) :: y).filter (isB L b)
theorem solsU_zero (L : List Row) (b us p : List Int) : solsU L b us p 0 = [] := rfl
theorem solsU_succ (L : List Row) (b us p : List Int) (v : Nat) : solsU L b us p (v + 1) = solsU L b us p v ++ solsP L b us (p ++ [(v : Int)]) := by
  unfold solsU solsP
  rw [List.range_succ, List.flatMap_append, List.filter_append]
  congr 1
  simp
theorem solsP_cons (L : List Row) (b us p : List Int) (u : Int) : solsP L b (u :: us) p = solsU L b us p (u + 1).toNat := by
  unfold solsP solsU
  show ((vecs (u :: us)).map _).filter _ = _
  rw [show vecs (u :: us) = (List.range (u + 1).toNat).flatMap (fun (v : Nat) => (vecs us).map fun x => (v : Int) :: x) from rfl, List.map_flatMap]
  congr 1
  refine flatMap_same _ fun a _ => ?_
  rw [List.map_map]
  rfl
theorem solsP_nil (L : List Row) (b p : List Int) : solsP L b [] p = if isB L b p = true then [p] else [] := by
  unfold solsP vecs
  rw [List.map_singleton, List.append_nil, List.filter_cons]
  rfl
def solT (L : List Row) (b u : List Int) : List (List Int) := (vecs u).filter (isB L b)
theorem solT_eq (L : List Row) (b u : List Int) : solsP L b u [] = solT L b u := by
  unfold solsP solT
  simp
theorem solsU_pre {L : List Row} {b us p : List Int} {v w : Nat} (h : v ≤ w) : solsU L b us p v <+: solsU L b us p w := by
  obtain ⟨d, rfl⟩ : ∃ d, w = v + d := ⟨w - v, by omega⟩
  induction d with
  | zero => exact List.prefix_refl _
  | succ d ih =>
    refine (ih (by omega)).trans ?_
    rw [show v + (d + 1) = v + d + 1 by omega, solsU_succ]
    exact List.prefix_append _ _
theorem drop_at {u : List Int} {i : Nat} (h : i < u.length) : u.drop i = at0 u i :: u.drop (i + 1) := by
  rw [List.drop_eq_getElem_cons h]
  unfold at0
  rw [List.getElem?_eq_getElem h]
  rfl
theorem take_set {x : List Int} {i : Nat} (v : Int) (h : i < x.length) : (x.set i v).take (i + 1) = x.take i ++ [v] := by
  rw [List.take_add_one, List.getElem?_set_self h, List.take_set, List.set_eq_of_length_le (by simp; omega)]
  rfl

/-- what the iterator has laid, and where -/
structure ItC where
  w0 : World
  A : Option Addr
  L : List Row
  ca : Nat
  U : Option Addr
  u : List Int
  cu : Nat
  b : List Int
  aB : Nat
  uB : Nat
  yB : Nat
  xB : Nat
  rB : Nat
  sB : Nat
  fB : Nat
  X0 : Nat
  R0 : Nat
  RA : Option Addr
  cr : Nat
  l : Nat
  lo : Nat
  hi : Nat
def ItC.rb (C : ItC) (k : Nat) : Prop := C.L.length ≠ 0 ∧ k = C.R0
structure Fix (C : ItC) (W : World) : Prop where
  a : W.cell? ⟨C.aB, 0, none⟩ = some (.slice C.A C.L.length C.ca)
  up : W.cell? ⟨C.uB, 0, none⟩ = some (.slice C.U C.u.length C.cu)
  y : W.cell? ⟨C.yB, 0, none⟩ = some (.func (.yield C.l) #[] #[])
  x : W.cell? ⟨C.xB, 0, none⟩ = some (.slice (some ⟨C.X0, 0, none⟩) C.u.length C.u.length)
  r : W.cell? ⟨C.rB, 0, none⟩ = some (.slice C.RA C.L.length C.cr)
  s : W.cell? ⟨C.sB, 0, none⟩ = some (.func (.func 33) #[] #[.pointer (some ⟨C.aB, 0, none⟩), .pointer (some ⟨C.rB, 0, none⟩), .pointer (some ⟨C.xB, 0, none⟩)])
  f : W.cell? ⟨C.fB, 0, none⟩ = some (.func (.func 34) #[] #[.pointer (some ⟨C.xB, 0, none⟩), .pointer (some ⟨C.rB, 0, none⟩), .pointer (some ⟨C.yB, 0, none⟩), .pointer (some ⟨C.uB, 0, none⟩), .pointer (some ⟨C.sB, 0, none⟩), .pointer (some ⟨C.fB, 0, none⟩)])
  bw : Below C.w0.heap.size C.w0 W
/-- where the blocks lie -/
structure Geo (C : ItC) : Prop where
  w0 : C.w0.heap.size ≤ C.lo
  aB : C.aB < C.lo
  uB : C.uB < C.lo
  yB : C.lo ≤ C.yB ∧ C.yB < C.hi
  xB : C.lo ≤ C.xB ∧ C.xB < C.hi
  rB : C.lo ≤ C.rB ∧ C.rB < C.hi
  sB : C.lo ≤ C.sB ∧ C.sB < C.hi
  fB : C.lo ≤ C.fB ∧ C.fB < C.hi
  X0 : C.lo ≤ C.X0 ∧ C.X0 < C.hi
  R0 : ∀ k, C.rb k → C.lo ≤ k ∧ k < C.hi
  xn : C.X0 ≠ C.yB ∧ C.X0 ≠ C.xB ∧ C.X0 ≠ C.rB ∧ C.X0 ≠ C.sB ∧ C.X0 ≠ C.fB
  rn : ¬ C.rb C.yB ∧ ¬ C.rb C.xB ∧ ¬ C.rb C.rB ∧ ¬ C.rb C.sB ∧ ¬ C.rb C.fB
  ra : C.L.length ≠ 0 → C.RA = some ⟨C.R0, 0, none⟩
  rx : ¬ C.rb C.X0
  rk : ∀ g, (Value.slice C.RA C.L.length C.cr).ownBlock = some g → C.lo ≤ g ∧ g < C.hi ∧ g ≠ C.X0
/-- the numbers are small, and a, b, upper lie in the elder world -/
structure Good (C : ItC) : Prop where
  rows : ReadsL C.w0 C.A C.L
  up : ReadsV C.w0 C.U C.u
  L64 : C.L.length ≤ 64
  u64 : C.u.length ≤ 64
  bl : C.L.length = C.b.length
  len : ∀ i, i < C.L.length → (rA C.L i).zs.length = C.u.length
  row : ∀ i, i < C.L.length → withB (rA C.L i).zs (-10000) 10000 = true
  bb : withB C.b (-10000) 10000 = true
  ub : withB C.u 0 1000 = true
structure St (C : ItC) (x r : List Int) (W : World) : Prop where
  fx : Fix C W
  xl : x.length = C.u.length
  rl : r.length = C.L.length
  xo : W.ownsRow C.lo 2 1 (.slice (some ⟨C.X0, 0, none⟩) C.u.length C.u.length) C.u.length (x.map (Value.int .i64))
  ro : W.ownsRow C.lo 2 1 (.slice C.RA C.L.length C.cr) C.L.length (r.map (Value.int .i64))
  eq : RestEq C.L C.b x r
  xb : ∀ k, k < x.length → 0 ≤ at0 x k ∧ at0 x k ≤ 1000
theorem Fix.keep {C : ItC} {S : Nat → Prop} {A B : World} (h : Fix C A) (k : KeepOn S A B) (hn : ∀ i, i < C.w0.heap.size → S i) (hs : S C.aB ∧ S C.uB ∧ S C.yB ∧ S C.xB ∧ S C.rB ∧ S C.sB ∧ S C.fB) : Fix C B :=
  ⟨k.cell h.a hs.1, k.cell h.up hs.2.1, k.cell h.y hs.2.2.1, k.cell h.x hs.2.2.2.1, k.cell h.r hs.2.2.2.2.1, k.cell h.s hs.2.2.2.2.2.1, k.cell h.f hs.2.2.2.2.2.2, h.bw.trans (k.below h.bw.size hn)⟩
def Prot (C : ItC) (k : Nat) : Prop := (k < C.w0.heap.size ∨ k = C.aB ∨ k = C.uB) ∨ (C.lo ≤ k ∧ k < C.hi)
theorem St.keep {C : ItC} (G : Geo C) {x r : List Int} {A B : World} (h : St C x r A) (k : KeepOn (Prot C) A B) : St C x r B :=
  ⟨h.fx.keep k (fun i hi => .inl (.inl hi)) ⟨.inl (.inr (.inl rfl)), .inl (.inr (.inr rfl)), .inr G.yB, .inr G.xB, .inr G.rB, .inr G.sB, .inr G.fB⟩, h.xl, h.rl,
    k.own h.xo (fun g e => by cases e; exact .inr G.X0), k.own h.ro (fun g e => .inr ⟨(G.rk g e).1, (G.rk g e).2.1⟩), h.eq, h.xb⟩
end Go.Proofs.Ytneediihponfiaa
