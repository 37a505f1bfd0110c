/- The net of the example. -/
import Derived.Test.YtlbcdnobpnllkaaGreatMA
namespace Go.Proofs.YtlbcdnobpnllkaaGreat
open Go.RowKit

def sN : ByteArray := ⟨#[110]⟩
def sP : ByteArray := ⟨#[112]⟩
def sQ : ByteArray := ⟨#[113]⟩
def sT : ByteArray := ⟨#[116]⟩
def pairV (a b c d : Nat) : NetV := ⟨sN, some ⟨a, 0, none⟩, [⟨sP, 2, 0⟩, ⟨sQ, 0, 0⟩], 2, some ⟨b, 0, none⟩, [⟨sT, ⟨some ⟨c, 0, none⟩, 1, [(0, 2)]⟩, ⟨some ⟨d, 0, none⟩, 1, [(1, 1)]⟩, ⟨none, 0, []⟩, 0⟩], 1⟩
def twiceV (a : Nat) : NetV := ⟨sN, some ⟨a, 0, none⟩, [⟨sP, 0, 0⟩, ⟨sP, 0, 0⟩], 2, none, [], 0⟩

theorem past {w : World} {o : Obj} {p : Addr} {v : Value} (h : w.cell? p = some v) : (w.alloc o).cell? p = some v := (World.cell?_alloc_lt _ _ _ (World.block_lt_of_cell? w p h)).trans h
theorem newc (w : World) (cs : Array Value) (t : TypeId) (i : Nat) (v : Value) (h : cs[i]? = some v) {g : Nat} (hg : g = w.heap.size) : (w.alloc (.cells cs t)).cell? ⟨g, i, none⟩ = some v := by
  subst hg
  rw [World.cell?_alloc_new]
  exact h
theorem readsP2 {w : World} {a : Nat} {p q : PlaceV} (h0 : a < w.heap.size) (h1 : w.cell? ⟨a, 0, none⟩ = some (.string p.nm)) (h2 : w.cell? ⟨a, 1, none⟩ = some (.int .i64 p.ini)) (h3 : w.cell? ⟨a, 2, none⟩ = some (.int .i64 p.cap))
    (h4 : w.cell? ⟨a, 3, none⟩ = some (.string q.nm)) (h5 : w.cell? ⟨a, 4, none⟩ = some (.int .i64 q.ini)) (h6 : w.cell? ⟨a, 5, none⟩ = some (.int .i64 q.cap)) : ReadsP w (some ⟨a, 0, none⟩) [p, q] := by
  intro j hj
  match j, hj with
  | 0, _ => exact ⟨a, 0, rfl, h0, h1, h2, h3⟩
  | 1, _ => exact ⟨a, 0, rfl, h0, h4, h5, h6⟩
theorem readsA1 {w : World} {a : Nat} {p u : Int} (h0 : a < w.heap.size) (h1 : w.cell? ⟨a, 0, none⟩ = some (.int .i64 p)) (h2 : w.cell? ⟨a, 1, none⟩ = some (.int .i64 u)) : ReadsA w (some ⟨a, 0, none⟩) [(p, u)] := by
  intro j hj
  match j, hj with
  | 0, _ => exact ⟨a, 0, rfl, h0, h1, h2⟩
theorem readsT1 {w : World} {a : Nat} {t : TransV} (h0 : a < w.heap.size) (h1 : w.cell? ⟨a, 0, none⟩ = some (.string t.nm)) (h2 : w.cell? ⟨a, 1, none⟩ = some (.slice t.pre.A t.pre.l.length t.pre.c)) (h3 : w.cell? ⟨a, 2, none⟩ = some (.slice t.post.A t.post.l.length t.post.c))
    (h4 : w.cell? ⟨a, 3, none⟩ = some (.slice t.inh.A t.inh.l.length t.inh.c)) (h5 : w.cell? ⟨a, 4, none⟩ = some (.int .i64 t.prio)) (r1 : ReadsA w t.pre.A t.pre.l) (r2 : ReadsA w t.post.A t.post.l) (r3 : ReadsA w t.inh.A t.inh.l) : ReadsT w (some ⟨a, 0, none⟩) [t] := by
  intro j hj
  match j, hj with
  | 0, _ => exact ⟨a, 0, rfl, h0, h1, h2, h3, h4, h5, r1, r2, r3⟩
theorem okp2 {p q : PlaceV} (h1 : p.nm.size ≤ maxLen) (h2 : q.nm.size ≤ maxLen) : OkP [p, q] := ⟨(show 2 ≤ 1000 by decide), fun j => match j with
  | 0 => h1
  | 1 => h2
  | _ + 2 => (by decide : ByteArray.empty.size ≤ maxLen)⟩
theorem okt1 {t : TransV} (h1 : t.nm.size ≤ maxLen) (h2 : t.pre.l.length ≤ 1000) (h3 : t.post.l.length ≤ 1000) (h4 : t.inh.l.length ≤ 1000) : OkT [t] := ⟨(show 1 ≤ 1000 by decide), fun j => match j with
  | 0 => ⟨h1, h2, h3, h4⟩
  | _ + 1 => ⟨(by decide : ByteArray.empty.size ≤ maxLen), Nat.zero_le _, Nat.zero_le _, Nat.zero_le _⟩⟩
theorem okt0 : OkT [] := ⟨by decide, fun _ => ⟨(by decide : ByteArray.empty.size ≤ maxLen), Nat.zero_le _, Nat.zero_le _, Nat.zero_le _⟩⟩

theorem pair_ok (a b c d : Nat) : okN (pairV a b c d) = true := by kernel_rfl
theorem twice_chk (a : Nat) : chkV (twiceV a) = (6, 1) := by kernel_rfl
theorem pair_chk (a b c d : Nat) : chkV (pairV a b c d) = (0, 0) := by kernel_rfl
theorem pair_ini (a b c d : Nat) : initialN (pairV a b c d) = [2, 0] := by kernel_rfl
theorem pair_in (a b c d : Nat) : inputsN (pairV a b c d) 0 = [0] := by kernel_rfl
theorem pair_out (a b c d : Nat) : outputsN (pairV a b c d) 0 = [1] := by kernel_rfl
theorem pair_pro (a b c d : Nat) : producersN (pairV a b c d) 1 = [0] := by kernel_rfl
theorem pair_con (a b c d : Nat) : consumersN (pairV a b c d) 0 = [0] := by kernel_rfl
theorem pair_q (a b c d : Nat) : placeN (pairV a b c d) sQ = 1 := by kernel_rfl
theorem pair_t (a b c d : Nat) : placeN (pairV a b c d) sT = -1 := by kernel_rfl
theorem pair_tt (a b c d : Nat) : transN (pairV a b c d) sT = 0 := by kernel_rfl
theorem pair_pre (a b c d : Nat) : preN (pairV a b c d) 0 0 = 2 := by kernel_rfl
theorem pair_post (a b c d : Nat) : postN (pairV a b c d) 0 1 = 1 := by kernel_rfl
theorem pair_plain (a b c d : Nat) : plainN (pairV a b c d) = true := by kernel_rfl
theorem pair_ord (a b c d : Nat) : ordinaryN (pairV a b c d) = false := by kernel_rfl
def sA1 : ByteArray := ⟨#[97, 46, 49]⟩
def s1A : ByteArray := ⟨#[49, 97]⟩
theorem name_a1 : nameB (bytesI sA1) = true := by kernel_rfl
theorem name_1a : nameB (bytesI s1A) = false := by kernel_rfl
end Go.Proofs.YtlbcdnobpnllkaaGreat
