/- Bounded natural solutions: the recursion of the iterator. -/
import Derived.Test.YtneediihponfiaaNX
import Derived.Shelf.Abstract
import Derived.Shelf.AbstractIn
import Derived.Shelf.RegionOpen
import Derived.OwnWalkIn
import Derived.TacticsInMore
import Derived.LoopNIn
import Derived.LoopIn
namespace Go.Proofs.Ytneediihponfiaa
open Go.RowKit

abbrev TC (C : ItC) : List (List Int) := solT C.L C.b C.u
def APost (C : ItC) (J : List (List Int) → World → Prop) (Jx : List (List Int) → World → Prop) (pre : List (List Int)) (p : List Int) (e : Ending) (W' : World) : Prop :=
  (e = .returned (.bool true) ∧ J pre W' ∧ (∃ x r, St C x r W' ∧ x.take p.length = p) ∧ C.hi ≤ W'.heap.size) ∨ (e = .returned (.bool false) ∧ ∃ q, q <+: TC C ∧ Jx q W')
abbrev JStab (C : ItC) (J : List (List Int) → World → Prop) : Prop := ∀ s A B, J s A → KeepOn (fun k => k < C.lo ∨ C.hi ≤ k) A B → J s B
abbrev JYield (C : ItC) (J : List (List Int) → World → Prop) (Jx : List (List Int) → World → Prop) : Prop :=
  ∀ n pre x r W1, C.hi ≤ W1.heap.size → (pre ++ [x]) <+: TC C → J pre W1 → St C x r W1 → YieldAt Fence.wide n Try.prog C.l #[.slice (some ⟨C.X0, 0, none⟩) C.u.length C.u.length] W1 fun e W' =>
    (e = .returned (.bool true) ∧ J (pre ++ [x]) W' ∧ KeepOn (Prot C) W1 W') ∨ (e = .returned (.bool false) ∧ Jx (pre ++ [x]) W')
def capsF (C : ItC) (i : Nat) : Array Value := #[.int .i64 (i : Nat), .pointer (some ⟨C.xB, 0, none⟩), .pointer (some ⟨C.rB, 0, none⟩), .pointer (some ⟨C.yB, 0, none⟩), .pointer (some ⟨C.uB, 0, none⟩), .pointer (some ⟨C.sB, 0, none⟩), .pointer (some ⟨C.fB, 0, none⟩)]
theorem JStab.below {C : ItC} {J : List (List Int) → World → Prop} (h : JStab C J) {s : List (List Int)} {A B : World} (hj : J s A) (k : Below A.heap.size A B) : J s B := h s A B hj (KeepOn.of_below _ k)
set_option maxHeartbeats 4000000 in
set_option maxRecDepth 100000 in
theorem leaf_any {C : ItC} (G : Geo C) (D : Good C) {J : List (List Int) → World → Prop} {Jx : List (List Int) → World → Prop} (hJ : JStab C J) (hY : JYield C J Jx) {pre : List (List Int)} {x r : List Int} {W : World} (S : St C x r W) (hj : J pre W) (hs : C.hi ≤ W.heap.size)
    (hp : (pre ++ solsP C.L C.b [] x) <+: TC C) (n : Nat) (hn : 1 ≤ n) : Calls Try.prog 34 (capsF C C.u.length) W (APost C J Jx (pre ++ solsP C.L C.b [] x) x) := by
  rw [solsP_nil] at hp ⊢
  have CW : Hid (Calls Try.prog 24 #[.slice C.RA C.L.length C.cr, .int .i64 0, .int .i64 0] W (fun e w' => e = .returned (.bool (isB C.L C.b x)) ∧ Below W.heap.size W w')) := by
    show Calls _ _ _ _ _
    obtain ⟨A, c, e, hr⟩ := ReadsV.own S.ro
    rw [S.rl] at e
    have h := within_any A r c 0 0 W hr (by rw [S.rl]; have := D.L64; omega)
    rw [rest_zero S.rl S.eq, S.rl] at h
    rw [e]
    exact h
  have q1 := S.fx.x
  have q2 := S.fx.r
  have q3 := S.fx.y
  have hxl := S.xl
  have CK : Hid (∀ w', Below W.heap.size W w' → St C x r w' ∧ J pre w' ∧ C.hi ≤ w'.heap.size ∧ w'.cell? ⟨C.yB, 0, none⟩ = some (.func (.yield C.l) #[] #[]) ∧ w'.cell? ⟨C.xB, 0, none⟩ = some (.slice (some ⟨C.X0, 0, none⟩) C.u.length C.u.length)) := fun w' k => by
    have S' := S.keep G (KeepOn.of_below _ k)
    exact ⟨S', hJ.below hj k, Nat.le_trans hs k.size, S'.fx.y, S'.fx.x⟩
  have hu64 := D.u64
  have KE : Hid (∀ w1 w', St C x r w1 → C.hi ≤ w1.heap.size → KeepOn (Prot C) w1 w' → (∃ x' r', St C x' r' w' ∧ x'.take x.length = x) ∧ C.hi ≤ w'.heap.size) := fun w1 w' s1 h1 k => ⟨⟨x, r, s1.keep G k, List.take_length⟩, Nat.le_trans h1 k.size⟩
  unfold capsF APost
  cases hb : isB C.L C.b x
  · rw [hb] at hp CW
    rw [if_neg (by simp)] at hp ⊢
    rw [List.append_nil] at hp ⊢
    clear hY hp hb S
    refine (callsIn_wide (n := n)).1 (callsIn_of_wp Try.func34 rfl trivial ?_ rfl)
    simp only [Try.ntmps34, List.size_toArray, List.length_cons, List.length_nil, Nat.reduceAdd, Nat.reduceSub, Array.replicate_succ, Array.replicate_zero, List.push_toArray, List.append_toArray, List.nil_append, List.cons_append]
    gi_wp2_with (refine ⟨trivial, ?_⟩; gi_at_call 24; refine (callsIn_wide.2 CW.out).mono ?_; rintro e w2 ⟨rfl, K⟩; obtain ⟨s2, j2, h2, y2, x2⟩ := CK.out w2 K)
    refine ⟨fun _ h => (by cases h), ?_⟩
    gi_wp2
    go_ret
    exact .inl ⟨rfl, j2, (KE.out w2 w2 s2 h2 (KeepOn.refl _ _)).1, h2⟩
  · rw [hb] at hp CW
    rw [if_pos rfl] at hp ⊢
    have CY : Hid (∀ w', St C x r w' → J pre w' → C.hi ≤ w'.heap.size → YieldAt Fence.wide (n - 1) Try.prog C.l #[.slice (some ⟨C.X0, 0, none⟩) C.u.length C.u.length] w' fun e W' => (e = .returned (.bool true) ∧ J (pre ++ [x]) W' ∧ KeepOn (Prot C) w' W') ∨ (e = .returned (.bool false) ∧ Jx (pre ++ [x]) W')) := fun w' s1 j1 h1 => hY (n - 1) pre x r w' h1 hp j1 s1
    have HP := Lib.hid hp
    clear hY hp hb S
    refine (callsIn_wide (n := n)).1 (callsIn_of_wp Try.func34 rfl trivial ?_ rfl)
    simp only [Try.ntmps34, List.size_toArray, List.length_cons, List.length_nil, Nat.reduceAdd, Nat.reduceSub, Array.replicate_succ, Array.replicate_zero, List.push_toArray, List.append_toArray, List.nil_append, List.cons_append]
    gi_wp2_with (refine ⟨trivial, ?_⟩; gi_at_call 24; refine (callsIn_wide.2 CW.out).mono ?_; rintro e w2 ⟨rfl, K⟩; obtain ⟨s2, j2, h2, y2, x2⟩ := CK.out w2 K; obtain ⟨fn, tmps, assign, body, hy, hR⟩ := CY.out w2 s2 j2 h2)
    refine hR.mono ?_
    rintro e w3 (⟨rfl, j3, k3⟩ | ⟨rfl, jx3⟩)
    · have E := KE.out w2 w3 s2 h2 k3
      have E := Lib.hid E
      gi_wp2
      go_ret
      exact .inl ⟨rfl, j3, E.out.1, E.out.2⟩
    · gi_wp2
      go_ret
      exact .inr ⟨rfl, _, HP.out, jx3⟩
end Go.Proofs.Ytneediihponfiaa
