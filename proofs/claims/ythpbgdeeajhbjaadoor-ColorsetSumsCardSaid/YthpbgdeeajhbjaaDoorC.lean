/- The check of a color set: its loop over a map that the call makes. -/
import Derived.Test.YthpbgdeeajhbjaaDoorB
import Derived.Maps.OwnSet
namespace Go.Proofs.YthpbgdeeajhbjaaDoor
open Go.RowKit Go.Maps Go.WideMaps

def keyB (s : ByteArray) : Lit := .string s.data.toList
theorem keyB_inj {a b : ByteArray} (h : keyB a = keyB b) : a = b := by
  unfold keyB at h
  injection h with h
  cases a; cases b
  simp only [ByteArray.mk.injEq]
  exact Array.toList_inj.1 h
def seenD {H : Type} (l : List ByteArray) : DataW H := setOf (.lit (.bool true)) (l.map keyB)
theorem seenD_nil {H : Type} : seenD (H := H) [] = .map [] := rfl
theorem seenD_snoc {H : Type} (l : List ByteArray) (s : ByteArray) : seenD (H := H) (l ++ [s]) = (seenD l).put (keyB s) (.lit (.bool true)) := by
  unfold seenD
  rw [List.map_append, List.map_singleton, setOf_snoc]
theorem isMap_foldl {H : Type} (u : DataW H) : ∀ (l : List Lit) (D : DataW H), IsMap D → IsMap (l.foldl (fun m x => m.put x u) D)
  | [], _, h => h
  | _ :: r, _, h => isMap_foldl u r _ (h.put _ _)
theorem isMap_seenD {H : Type} (l : List ByteArray) : IsMap (seenD (H := H) l) := isMap_foldl _ _ _ isMap_empty
def inB (l : List ByteArray) (s : ByteArray) : Bool := l.any fun x => decide (x.data = s.data)
theorem at_foldl {H : Type} (s : ByteArray) (z : DataW H) : ∀ (l : List ByteArray) (D : DataW H), IsMap D →
    ((l.map keyB).foldl (fun m x => m.put x (.lit (.bool true))) D).atKey (keyB s) z = if inB l s then .lit (.bool true) else D.atKey (keyB s) z
  | [], D, _ => by simp [inB]
  | a :: r, D, h => by
    rw [List.map_cons, List.foldl_cons, at_foldl s z r _ (h.put _ _)]
    unfold inB
    rw [List.any_cons]
    by_cases h2 : a.data = s.data
    · obtain rfl : a = s := by cases a; cases s; simpa using h2
      simp only [decide_true, Bool.true_or, if_true]
      split
      · rfl
      · exact atKey_put_same h (show WideAt.IsKeyLit (.string _) from trivial) _ _
    · simp only [h2, decide_false, Bool.false_or]
      split
      · rfl
      · exact atKey_put_other (fun e => h2 (by rw [keyB_inj e])) _ _
theorem at_seenD {H : Type} (s : ByteArray) (l : List ByteArray) : (seenD (H := H) l).atKey (keyB s) (.lit (.bool false)) = .lit (.bool (inB l s)) := by
  unfold seenD setOf
  rw [at_foldl s _ l _ isMap_empty]
  cases inB l s
  · rfl
  · rfl

/-- The first error among the values that are left, where those before them are names and differ. -/
def chk (seen : List ByteArray) : List ByteArray → Int
  | [] => 0
  | v :: r => if nameB (bytesI v) = false then 5 else if inB seen v then 6 else chk (seen ++ [v]) r
def checkV (nm : ByteArray) (L : List ByteArray) : Int := if nameB (bytesI nm) = false then 5 else if L.length < 1 ∨ 12 < L.length then 2 else chk [] L

/-- The cells from an address on hold these texts. -/
def ReadsS (w : World) (a : Addr) (L : List ByteArray) : Prop := ∀ k, k < L.length → w.cell? (a.add k) = some (.string (L[k]?.getD ByteArray.empty))
theorem ReadsS.below {w w' : World} {a : Addr} {L : List ByteArray} {B : Nat} (h : ReadsS w a L) (hb : Below B w w') (ha : a.block < B) : ReadsS w' a L := fun k hk =>
  (hb.cell (p := a.add k) (by unfold Addr.add; split <;> exact ha)).trans (h k hk)

theorem law_s : Keyed Tryd.prog 9 := string_keyed Tryd.underlying9
theorem zero_b (w : World) : (zeroValue 4).run Tryd.prog w = .ok (.bool false) w := by kernel_rfl

theorem plainElem_bool_inv {H : Type} {P : Program} {e : TypeId} (he : P.underlying e = some .bool) {v : Value} {z : DataW H × List MemPlace} (h : plainElem P e v = some z) : ∃ a, v = .bool a ∧ z = (.lit (.bool a), []) := by
  unfold plainElem at h
  split at h
  · cases h; exact ⟨_, rfl, rfl⟩
  · rename_i h1 h2; rw [he] at *; simp at *
  · rename_i h1 h2; rw [he] at *; simp at *
  · cases h
theorem look_bool {H : Type} {w : World} {b n : Nat} {D : DataW H} (h : w.ownsMap Tryd.prog 9 (plainElem Tryd.prog 4) b n D) {key : Value} {kl : Lit} (hkey : keyOf Tryd.prog 9 key = some kl) :
    ∃ c, (Instr.lookup 45 (.map (some b)) key false).run Tryd.prog w = .ok (.bool c) w ∧ D.atKey kl (.lit (.bool false)) = .lit (.bool c) := by
  obtain ⟨v, ps, hrun, hv⟩ := h.lookup law_s Tryd.underlying45 (zero_b w) (plainElem_bool Tryd.underlying4 false) hkey
  obtain ⟨c, rfl, hc⟩ := plainElem_bool_inv Tryd.underlying4 hv
  simp only [Prod.mk.injEq] at hc
  exact ⟨c, hrun, hc.1⟩
end Go.Proofs.YthpbgdeeajhbjaaDoor
