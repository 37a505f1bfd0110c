/- Classes of nets: the reference's graphs. -/
import Derived.Test.YtlbcdnobpnllkaaKG
import Derived.Test.YtlbcdnobpnllkaaDgM3
namespace Go.Proofs.Ytlbcdnobpnllkaa
open Go.RowKit Go.Deep

set_option maxHeartbeats 1000000 in
theorem rtargets_own (A : Option Addr) (l : List (Int × Int)) (c : Nat) (w : World) (hr : ReadsA w A l) (hl : l.length ≤ 1000) :
    Calls Try.prog 16 #[.slice A l.length c] w (OwnPost w.heap.size w (targetsV l)) := by
  obtain ⟨i0, hi, hz0, hz1, hz2⟩ := info_parts infoI
  have HI := Lib.hid hi
  have HZ0 := Lib.hid hz0
  have HZ1 := Lib.hid hz1
  have HZ2 := Lib.hid hz2
  clear hi hz0 hz1 hz2
  have HR := Lib.hid hr
  clear hr
  generalize hg : w.heap.size = g at *
  have HG := Lib.hid hg
  clear hg
  generalize hn : l.length = n at *
  have HN := Lib.hid hn
  clear hn
  go_enter Try.func16, Try.ntmps16
  go_wp2
  go_loopw [3, 4] (fun v q wr => ∃ k : Nat, k ≤ n ∧ q = .int .i64 k ∧ Hid (wr.ownsRow g 3 1 v k (vI (targetsV (l.take k)))) ∧ Hid (Below g w wr)) (fun _ q _ => n - (intOf q).toNat)
  case atStart => exact ⟨0, by omega, rfl, World.ownsRow_nil _ _ _ _, Below.refl _ _⟩
  case round =>
    obtain ⟨k, hk, rfl, O, HB⟩ := hrel
    have hsz := HB.out.size
    rw [HG.out] at hsz
    by_cases hlt : k < n
    · obtain ⟨b0, off, rfl, hb0, hc0, hc1⟩ := (HR.out.below HB.out (by rw [HG.out]; exact Nat.le_refl _)) k (by rw [HN.out]; exact hlt)
      have HE := Lib.hid (targets_snoc l k (by rw [HN.out]; exact hlt))
      generalize aP l k = x at *
      generalize aW l k = u at *
      have b1 : k + 1 ≤ maxLen := by unfold maxLen; omega
      have b2 : (k + 1) * 8 ≤ 140737488355328 := by omega
      have b3 : g ≤ (wr.alloc (.cells #[.int .i64 x] 3)).heap.size := by simp only [World.size_alloc]; omega
      have b4 : Hid (∀ q, u3.ownBlock = some q → g ≤ q) := fun q e => (O.out.lt q e).1
      have BA : Hid (Below g w (wr.alloc (.cells #[.int .i64 x] 3))) := HB.out.alloc hsz _
      go_wp2_with (at_builtin; (refine wpList_append_own _ rfl (.tmp 11) (.tmp 17) 30 rfl g 3 i0 (.int .i64 0) 1 8 Try.underlying30 HI.out HZ0.out HZ1.out HZ2.out rfl (by decide) u3 k _ rfl (O.out.alloc _) ⟨wr.heap.size, 0, none⟩ 1 1 [.int .i64 x] rfl rfl (cell_one_new _ _ _) (one_cellI _) b1 b2 b3 ?_); intro v' w5 hown' hgrow _)
      have O5 : Hid (w5.ownsRow g 3 1 v' (k + 1) (vI (targetsV (l.take (k + 1))))) := by
        show World.ownsRow _ _ _ _ _ _ _
        rw [HE.out, vI_snoc]
        exact hown'
      have B5 : Hid (Below g w w5) := BA.out.grown hgrow b3 b4.out
      clear hown' hgrow
      go_wp2
      go_roundw
      case rel => exact ⟨k + 1, by omega, by go_num, O5, B5⟩
      case measure => simp [intOf]; omega
    · obtain rfl : k = n := by omega
      have e : l.take k = l := List.take_of_length_le (by rw [HN.out]; exact Nat.le_refl _)
      rw [e] at O
      have O2 : Hid (wr.ownsRow g 3 1 u3 (targetsV l).length (vI (targetsV l))) := by
        have hl2 : (targetsV l).length = k := by unfold targetsV; rw [List.length_map, HN.out]
        show World.ownsRow _ _ _ _ _ _ _
        rw [hl2]; exact O.out
      clear O e
      go_wp2
      go_ret
      exact ⟨_, rfl, O2.out, HB.out⟩

def RFlowPost2 (g : Nat) (w : World) (n : NetV) (e : Ending) (w' : World) : Prop :=
  (okN n = false ∧ e = .returned (.slice none 0 0) ∧ Below g w w') ∨ (okN n = true ∧ ∃ s v L, e = .returned v ∧ g ≤ s ∧ L.length = nodN n ∧ Dg.OwnL w' s v L ∧ (∀ j, j < L.length → (Dg.rA L j).zs = flowV n j) ∧ Below g w w')
def RFlowPost (g : Nat) (w : World) (n : NetV) (e : Ending) (w' : World) : Prop :=
  (okN n = false ∧ e = .returned (.slice none 0 0) ∧ Below g w w') ∨ (okN n = true ∧ ∃ A c RA RK, e = .returned (.slice A (nodN n) c) ∧ Dg.GraphR w' A (nodN n) RA (flowV n) RK ∧ Below g w w')
theorem rows_graph {w : World} {s : Nat} {v : Value} {L : List Dg.Row} {R : Nat → List Int} (h : Dg.OwnL w s v L) (hr : ∀ j, j < L.length → (Dg.rA L j).zs = R j) (hn : L.length ≤ 4000) : ∃ A c, v = .slice A L.length c ∧ Dg.GraphR w A L.length (fun i => (Dg.rA L i).A) R (fun i => (Dg.rA L i).cap) := by
  obtain ⟨A, c, e1, R1⟩ := h.reads
  refine ⟨A, c, e1, hn, fun i hi => ?_, fun i hi => ?_, fun i hi => ?_⟩
  · obtain ⟨b, off, e, h1, h2⟩ := R1.1 i hi
    refine ⟨b, off, e, h1, ?_⟩
    rw [h2]
    unfold Dg.Row.v
    rw [hr i hi]
  · have h := (R1.2 _ (Dg.rA_mem hi)).1
    rw [hr i hi] at h
    exact h
  · have h := (R1.2 _ (Dg.rA_mem hi)).2
    rw [hr i hi] at h
    omega
theorem rA_snoc {L : List Dg.Row} {r : Dg.Row} {R : Nat → List Int} (h : ∀ j, j < L.length → (Dg.rA L j).zs = R j) (hr : r.zs = R L.length) : ∀ j, j < (L ++ [r]).length → (Dg.rA (L ++ [r]) j).zs = R j := fun j hj => by
  rw [List.length_append, List.length_singleton] at hj
  by_cases e : j = L.length
  · rw [e, ← hr]
    unfold Dg.rA
    rw [List.getElem?_append_right (Nat.le_refl _), Nat.sub_self]
    rfl
  · have h2 := h j (by omega)
    unfold Dg.rA at h2 ⊢
    rw [List.getElem?_append_left (by omega)]
    exact h2
theorem shP_yes (P t : Nat) (f : Nat → Bool) (h : f t = true) : shP P (pickI f (t + 1)) = shP P (pickI f t) ++ [((P + t : Nat) : Int)] := by
  rw [pickI_yes _ _ h]
  simp [shP]
  omega
theorem shP_no (P t : Nat) (f : Nat → Bool) (h : f t = false) : shP P (pickI f (t + 1)) = shP P (pickI f t) := by rw [pickI_no _ _ h]
def bothV (R : Nat → List Int) (n v : Nat) : List Int := R v ++ Dg.revV R n v
theorem take_snocL {l : List Int} {k : Nat} (h : k < l.length) : l.take (k + 1) = l.take k ++ [Dg.at0 l k] := by
  rw [List.take_succ_eq_append_getElem h]
  unfold Dg.at0
  rw [List.getElem?_eq_getElem h]
  rfl
end Go.Proofs.Ytlbcdnobpnllkaa
