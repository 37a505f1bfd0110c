/- Bounded natural solutions: the vector with a number, by the reference. -/
import Derived.Test.YtneediihponfiaaNT
import Derived.OwnWalk
import Derived.Deep.OwnRows
namespace Go.Proofs.Ytneediihponfiaa
open Go.RowKit

/-- a list of int64 in memory of its own -/
def JPost (g : Nat) (w : World) (L : List Int) (e : Ending) (w' : World) : Prop := ∃ A c, e = .returned (.slice A L.length c) ∧ ReadsV w' A L ∧ (L ≠ [] → ∀ b off, A = some ⟨b, off, none⟩ → g ≤ b ∧ ∃ cs, w'.heap[b]? = some (.cells cs 2 (0, 0))) ∧ Below g w w'
def ndV (u : List Int) (n : Nat) : Nat → Nat
  | 0 => n
  | d + 1 => ndV u n d / (at0 u (u.length - 1 - d) + 1).toNat
def digV (u : List Int) (n j : Nat) : Int := ((ndV u n (u.length - 1 - j) % (at0 u j + 1).toNat : Nat) : Int)
def vecV (u : List Int) (n : Nat) : List Int := tab u.length (digV u n)
theorem nd_le (u : List Int) (n : Nat) : ∀ d, ndV u n d ≤ n
  | 0 => Nat.le_refl _
  | d + 1 => Nat.le_trans (Nat.div_le_self _ _) (nd_le u n d)
theorem row_of_own {w : World} {base g k : Nat} {xs : List Value} (h : w.ownsRow base 2 1 (.slice (some ⟨g, 0, none⟩) k k) k xs) (f : Nat → Value) (hf : ∀ i, i < k → xs[i]? = some (f i)) : w.rowIs g 2 k f := by
  rcases h.2 with ⟨h0, _⟩ | ⟨b, cap, cur, e, _, hb, _, _, hs, ht⟩
  · cases h0
  · injection e with e1 e2 e3
    injection e1 with e1
    injection e1 with e1
    subst e1 e3
    rw [Nat.mul_one] at hs ht
    have e4 : cur.toList = xs := by rw [← ht, List.take_of_length_le (by rw [Array.length_toList]; omega)]
    exact ⟨cur, hb, hs, fun i hi => by rw [← Array.getElem?_toList, e4]; exact hf i hi⟩
theorem reads_row {w : World} {P T : Nat} {f : Nat → Int} (h : w.rowIs P 2 T (fun j => .int .i64 (f j))) : ReadsV w (some ⟨P, 0, none⟩) (tab T f) := fun j hj => by
  rw [tab_len] at hj
  exact ⟨P, 0, rfl, h.lt, by rw [Nat.zero_add, tab_at _ _ _ hj]; exact h.cell hj⟩
set_option maxHeartbeats 4000000 in
set_option maxRecDepth 100000 in
theorem rvector_any (U : Option Addr) (u : List Int) (cu n : Nat) (w : World) (hu : ReadsV w U u) (hul : u.length ≤ 64) (h2 : withB u 0 1000 = true) (hn : n ≤ 100000) :
    Calls Try.prog 28 #[.slice U u.length cu, .int .i64 (n : Nat)] w (JPost w.heap.size w (vecV u n)) := by
  have WU := Lib.hid (withB_at h2)
  have HU := Lib.hid (fun W (hW : Below w.heap.size w W) => hu.below hW (Nat.le_refl _))
  have NL := Lib.hid (nd_le u n)
  obtain ⟨i0, hi, hz0, hz1, hz2⟩ := info_parts infoJ
  have HI := Lib.hid hi
  have HZ0 := Lib.hid hz0
  have HZ1 := Lib.hid hz1
  have HZ2 := Lib.hid hz2
  clear hi hz0 hz1 hz2 hu h2
  go_enter Try.func28, Try.ntmps28
  go_wp2_with (at_make; refine wpList_make_full _ rfl _ _ 23 rfl w.heap.size 2 i0 (.int .i64 0) 1 Try.underlying23 HI.out HZ0.out HZ1.out .i64 .i64 _ _ u.length rfl rfl rfl rfl (by rw [HZ2.out]; omega) (by unfold maxLen; omega) (Nat.le_refl _) ?_; intro w5 hown5 hgrow5)
  (try go_step3)
  (try go_wp2_with fail)
  have ROW : Hid (w5.rowIs w.heap.size 2 u.length (fun j => .int .i64 (if u.length - 0 ≤ j then digV u n j else 0))) := row_of_own hown5 _ fun i hi => by
    rw [show madeCells (Value.cells (.int .i64 0)) (u.length * 1) = madeCells #[.int .i64 0] (u.length * 1) from rfl, toList_madeCells_one, Nat.mul_one, List.getElem?_replicate, if_pos hi, if_neg (by omega)]
  have K5 : Hid (Below w.heap.size w w5) := (Below.refl _ _).grown hgrow5 (Nat.le_refl _) (fun _ h => by cases h)
  clear hown5 hgrow5
  go_loopw [1, 6] (fun p q wr => ∃ d : Nat, d ≤ u.length ∧ q = .int .i64 ((u.length : Int) - 1 - d) ∧ p = .int .i64 (ndV u n d : Nat) ∧ Hid (wr.rowIs w.heap.size 2 u.length (fun j => .int .i64 (if u.length - d ≤ j then digV u n j else 0))) ∧ Hid (Below w.heap.size w wr)) (fun _ q _ => (intOf q + 1).toNat)
  case atStart => exact ⟨0, by omega, by first | rfl | go_num, rfl, ROW, K5⟩
  case round =>
    clear ROW K5
    obtain ⟨d, hd, rfl, rfl, HR, HB⟩ := hrel
    by_cases hlt : d < u.length
    · obtain ⟨k, hk⟩ : ∃ k : Nat, k = u.length - 1 - d := ⟨_, rfl⟩
      have hkl : k < u.length := by omega
      have e0 : (u.length : Int) - 1 - d = (k : Int) := by omega
      rw [e0]
      obtain ⟨b0, off, e1, hc0⟩ := at_of_reads (HU.out wr HB.out) k hkl
      subst e1
      obtain ⟨x1, x2⟩ := WU.out k hkl
      have nl := NL.out d
      have hc := HR.out.cell hkl
      have hfz := HR.out.frozen k
      have E1 : Hid (ndV u n (d + 1) = ndV u n d / (at0 u k + 1).toNat) := by rw [hk]; exact rfl
      have E2 : Hid (digV u n k = ((ndV u n d % (at0 u k + 1).toNat : Nat) : Int)) := Lib.hid (by
        unfold digV
        rw [show u.length - 1 - k = d by omega])
      obtain ⟨v, hv⟩ : ∃ v : Nat, at0 u k = (v : Int) := ⟨(at0 u k).toNat, by omega⟩
      rw [hv] at hc0 x1 x2 E1 E2
      have R2 : Hid ((wr.setCell ⟨w.heap.size, k, none⟩ (.int .i64 ((ndV u n d % (v + 1) : Nat) : Int))).rowIs w.heap.size 2 u.length (fun j => .int .i64 (if u.length - (d + 1) ≤ j then digV u n j else 0))) := (HR.out.set k _).congr fun j hj => by
        by_cases e : j = k
        · rw [if_pos e, if_pos (by omega), e, E2.out]
          rfl
        · rw [if_neg e]
          by_cases h : u.length - d ≤ j
          · rw [if_pos h, if_pos (by omega)]
          · rw [if_neg h, if_neg (by omega)]
      have B2 : Hid (Below w.heap.size w (wr.setCell ⟨w.heap.size, k, none⟩ (.int .i64 ((ndV u n d % (v + 1) : Nat) : Int)))) := HB.out.setCell (p := ⟨w.heap.size, k, none⟩) (Nat.le_refl _) _
      have E3 : Hid (ndV u n (d + 1) = ndV u n d / (v + 1)) := by
        show _ = _
        rw [E1.out]
        rfl
      clear E1 E2 hv HR HB hk
      generalize ndV u n d = nn at *
      have h5 : ¬ (v : Int) + 1 = 0 := by omega
      have h6 : 0 ≤ (k : Int) := by omega
      have ec : ((nn % (v + 1) : Nat) : Int) = (nn : Int) % ((v : Int) + 1) := by simp
      have ed : wrap64 ((nn : Int) / ((v : Int) + 1)) = ((nn / (v + 1) : Nat) : Int) := by
        have e : (nn : Int) / ((v : Int) + 1) = ((nn / (v + 1) : Nat) : Int) := by simp
        have hq := Nat.div_le_self nn (v + 1)
        rw [e]
        generalize nn / (v + 1) = qq at *
        unfold wrap64
        omega
      rw [ec] at R2 B2
      have ED := Lib.hid ed
      clear ec ed
      go_wp2
      go_roundw
      case rel => exact ⟨d + 1, by omega, by first | (congr 1; done) | (congr 1; omega), by rw [ED.out, E3.out], R2, B2⟩
      case measure => first | (simp [intOf]; done) | (simp [intOf]; omega)
    · have e0 : (u.length : Int) - 1 - d = -1 := by omega
      have hd2 : d = u.length := by omega
      rw [e0]
      have R9 : Hid (ReadsV wr (some ⟨w.heap.size, 0, none⟩) (vecV u n)) := reads_row (HR.out.congr fun j hj => by rw [if_pos (by omega)])
      obtain ⟨cs9, hcs9, -, -⟩ := HR.out
      have HCS := Lib.hid hcs9
      clear hcs9
      have e9 : (vecV u n).length = u.length := tab_len _ _
      have E9 := Lib.hid e9
      clear HR e9 e0 hd2 hlt hd
      go_wp2
      go_ret
      exact ⟨some ⟨w.heap.size, 0, none⟩, u.length, by rw [E9.out]; rfl, R9.out, fun _ b off e => (by cases e; exact ⟨Nat.le_refl _, cs9, HCS.out⟩), HB.out⟩
end Go.Proofs.Ytneediihponfiaa
