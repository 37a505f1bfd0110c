/- What the row's condition gives; the text of a marking by the program. -/
import Derived.Test.YtbpadefpgkjnaaaDoorTG
import Derived.Lib.ItoaLen
import Derived.Lib.AppendIntMem
import Derived.Lib.LaidTab
import Derived.Stop.LaidErr
import Derived.MakeChecks
namespace Go.Proofs.YtbpadefpgkjnaaaDoor
open Go.RowKit

theorem gTab : Tryd.prog.globalNamed "internal/strconv.uint64pow10" = some 5 := by kernel_rfl
theorem gSyn : Tryd.prog.globalNamed "strconv.ErrSyntax" = some 0 := by kernel_rfl
theorem gRng : Tryd.prog.globalNamed "strconv.ErrRange" = some 1 := by kernel_rfl
/-- the tables and the errors of strconv lie where their initialisers laid them -/
structure LaidW (w : World) : Prop where
  tab : Lib.TabIs Tryd.prog w "internal/strconv.uint64pow10" .u64 Lib.pow10Tab
  syn : ∃ tp p, w.var? Tryd.prog "strconv.ErrSyntax" = some #[.iface tp p]
  rng : ∃ tp p, w.var? Tryd.prog "strconv.ErrRange" = some #[.iface tp p]
theorem var_below {n : String} {g : Nat} {w w' : World} {cs : Array Value} {B : Nat} (hg : Tryd.prog.globalNamed n = some g) (h : w.var? Tryd.prog n = some cs) (hb : Below B w w') (hB : w.heap.size ≤ B) : w'.var? Tryd.prog n = some cs := by
  unfold World.var? at h ⊢
  rw [hg] at h ⊢
  simp only [Option.bind_some] at h ⊢
  have hlt : g < w.heap.size := by
    rcases Nat.lt_or_ge g w.heap.size with h' | h'
    · exact h'
    · rw [Array.getElem?_eq_none h'] at h; cases h
  rw [hb.block g (by omega)]
  exact h
theorem LaidW.below {w w' : World} {B : Nat} (h : LaidW w) (hb : Below B w w') (hB : w.heap.size ≤ B) : LaidW w' :=
  ⟨var_below gTab h.tab hb hB, (by obtain ⟨a, b, e⟩ := h.syn; exact ⟨a, b, var_below gSyn e hb hB⟩), (by obtain ⟨a, b, e⟩ := h.rng; exact ⟨a, b, var_below gRng e hb hB⟩)⟩
theorem LaidW.alloc {w : World} (h : LaidW w) (o : Obj) : LaidW (w.alloc o) := h.below ((Below.refl _ _).alloc (Nat.le_refl _) _) (Nat.le_refl _)
/-- with a base: what lay below g lies -/
def LaidB (g : Nat) (w : World) : Prop := ∃ w0, LaidW w0 ∧ w0.heap.size ≤ g ∧ Below g w0 w
theorem LaidW.base {w : World} (h : LaidW w) : LaidB w.heap.size w := ⟨w, h, Nat.le_refl _, Below.refl _ _⟩

/-- the text of the first k elements -/
def textTo (a : List Int) : Nat → List UInt8
  | 0 => []
  | k + 1 => textTo a k ++ (if k = 0 then [] else [44]) ++ Lib.itoa (at0 a k)
def textL (a : List Int) : List UInt8 := if a = [] then [45] else textTo a a.length
theorem textTo_len (a : List Int) (h : In64 a) : ∀ k, (textTo a k).length ≤ 22 * k
  | 0 => by simp [textTo]
  | k + 1 => by
    have h1 := textTo_len a h k
    have h2 := Lib.itoa_length_le (at0 a k) (h.at k).1 (h.at k).2
    simp only [textTo, List.length_append]
    split <;> simp <;> omega
theorem itoa_call (x : Int) (h : -9223372036854775808 ≤ x ∧ x ≤ 9223372036854775807) (w : World) (hL : LaidW w) :
    Calls Tryd.prog 46 #[.int .i64 x] w fun e w' => e = .returned (.string ⟨(Lib.itoa x).toArray⟩) ∧ Below w.heap.size w w' := by
  refine (Tryd.strconv_Itoa x h.1 h.2 w hL.tab).mono ?_
  rintro e w' ⟨rfl, k, os, rfl⟩
  exact ⟨rfl, Lib.below_grow _ w (Nat.le_refl _) k os⟩
theorem bytes_size (l : List UInt8) : (⟨l.toArray⟩ : ByteArray).size = l.length := by simp [ByteArray.size]

theorem builder_below {B b : Nat} {bs : List Value} {w w' : World} (h : Lib.IsBuilder 59 5 B b bs w) (hb : Below w.heap.size w w') : Lib.IsBuilder 59 5 B b bs w' := by
  have key : ∀ p, Lib.BuilderAt 59 5 B b p bs w → Lib.BuilderAt 59 5 B b p bs w' := fun p h => by
    have hlt := h.lt
    obtain ⟨hB, v, hbk, hown, hne⟩ := h
    exact ⟨hB, v, (hb.block b hlt).trans hbk, own_below hown hb (Nat.le_refl _), hne⟩
  rcases h with h | h
  · exact .inl (key _ h)
  · exact .inr (key _ h)

set_option maxHeartbeats 4000000 in
set_option maxRecDepth 100000 in
theorem listed_law (A : Option Addr) (a : List Int) (ca : Nat) (w : World) (ra : ReadsV w A a) (hi : In64 a) (hl : a.length ≤ 4000) (hL : LaidW w) :
    Calls Tryd.prog 38 #[.slice A a.length ca] w fun e w' => e = .returned (.string ⟨(textTo a a.length).toArray⟩) ∧ Below w.heap.size w w' := by
  have T := Lib.hid (fun bs s W h hl hB => text_law w.heap.size w.heap.size bs s W h hl hB)
  have Y := Lib.hid (fun bs s W h hl hB => byte_law w.heap.size w.heap.size bs s W h hl hB)
  have S := Lib.hid (fun l W h hB => Tryd.Builder_String_any w.heap.size w.heap.size l W h hB)
  have F0 := Lib.hid (Lib.fresh_isBuilder 59 5 w)
  have D0 : Hid (Below w.heap.size w (w.alloc (.cells #[.pointer none, .slice none 0 0] 59))) := (Below.refl _ _).alloc (Nat.le_refl _) _
  have LB := Lib.hid (fun W (h : Below w.heap.size w W) => hL.below h (Nat.le_refl _))
  have I := Lib.hid (fun k W (h : LaidW W) => itoa_call (at0 a k) (hi.at k) W h)
  have ZL := Lib.hid (textTo_len a hi)
  have IL := Lib.hid (fun k => Lib.itoa_length_le (at0 a k) (hi.at k).1 (hi.at k).2)
  have RA := Lib.hid ra
  clear ra hL
  generalize hn : a.length = n at *
  have HN := Lib.hid hn
  clear hn
  generalize hg : w.heap.size = g at *
  have HG := Lib.hid hg
  clear hg
  go_enter Tryd.func38, Tryd.ntmps38
  go_wp2_with fail
  rw [HG.out]
  go_loopw [7] (fun q wr => ∃ k : Nat, k ≤ n ∧ q = .int .i64 k ∧ Hid (Lib.IsBuilder 59 5 g g (Lib.byteCells (textTo a k)) wr) ∧ Hid (Below g w wr)) (fun q _ => n - (intOf q).toNat)
  case atStart => exact ⟨0, by omega, rfl, F0.out, D0.out⟩
  case round =>
    obtain ⟨k, hk, rfl, O, B1⟩ := hrel
    by_cases hlt : k < n
    · obtain ⟨ba, oa, e1, lx, hx⟩ := RA.out k (by rw [HN.out]; exact hlt)
      subst e1
      rw [HG.out] at lx
      have GX := Lib.hid (fun W (h : Below g w W) => (h.cell (p := ⟨ba, oa + k, none⟩) lx).trans hx)
      have zl := ZL.out k
      have il := IL.out k
      have hbs : (Lib.byteCells (textTo a k)).length = (textTo a k).length := Lib.byteCells_length _
      have hgs := B1.out.size
      rw [HG.out] at hgs
      by_cases h0 : k = 0
      · subst h0
        have q0 := GX.out _ B1.out
        simp only [Nat.add_zero] at q0
        have I0 := Lib.hid (I.out 0 wr (LB.out _ B1.out))
        have HT : Hid (textTo a 1 = Lib.itoa (at0 a 0)) := by show _ = _; simp [textTo]
        clear I
        generalize at0 a 0 = x at *
        have p0 : ¬ (0 : Int) < 0 := by omega
        go_wp2_with fail
        refine I0.out.mono ?_
        rintro e w2 ⟨rfl, K2⟩
        have B2 : Hid (Below g w w2) := B1.out.trans (K2.mono hgs)
        have s2 := B2.out.size
        rw [HG.out] at s2
        have O2 : Hid (Lib.IsBuilder 59 5 g g [] w2) := builder_below O.out K2
        go_wp2_with fail
        refine (T.out _ _ _ O2.out (by rw [bytes_size]; simp; omega) s2).mono ?_
        rintro e w3 ⟨rfl, F3, K3⟩
        have B3 : Hid (Below g w w3) := B2.out.trans K3
        have O3 : Hid (Lib.IsBuilder 59 5 g g (Lib.byteCells (textTo a 1)) w3) := by
          show Lib.IsBuilder _ _ _ _ _ _
          rw [HT.out]
          exact .inr F3
        go_wp2
        go_roundw
        case rel => exact ⟨1, by omega, by go_num, O3, B3⟩
        case measure => simp [intOf]; omega
      · have HT : Hid (Lib.byteCells (textTo a (k + 1)) = Lib.byteCells (textTo a k) ++ [.int .u8 44] ++ Lib.strCells ⟨(Lib.itoa (at0 a k)).toArray⟩) := by
          show _ = _
          rw [Lib.strCells_toArray]
          simp only [textTo, h0, if_false, Lib.byteCells_append]
          rfl
        have I0 := Lib.hid (I.out k)
        clear I
        generalize at0 a k = x at *
        have p0 : (0 : Int) < k := by omega
        go_wp2_with fail
        refine (Y.out _ 44 _ O.out (by rw [hbs]; omega) hgs).mono ?_
        rintro e w1 ⟨rfl, F1, K1⟩
        have B2 : Hid (Below g w w1) := B1.out.trans K1
        have s2 := B2.out.size
        rw [HG.out] at s2
        have F1 := Lib.hid F1
        have q0 := GX.out _ B2.out
        clear K1
        go_wp2_with fail
        refine (I0.out w1 (LB.out _ B2.out)).mono ?_
        rintro e w2 ⟨rfl, K2⟩
        have B3 : Hid (Below g w w2) := B2.out.trans (K2.mono s2)
        have s3 := B3.out.size
        rw [HG.out] at s3
        have O2 : Hid (Lib.IsBuilder 59 5 g g (Lib.byteCells (textTo a k) ++ [.int .u8 44]) w2) := builder_below (.inr F1.out) K2
        clear F1 K2
        go_wp2_with fail
        refine (T.out _ _ _ O2.out (by rw [bytes_size, List.length_append, hbs]; simp; omega) s3).mono ?_
        rintro e w3 ⟨rfl, F3, K3⟩
        have B4 : Hid (Below g w w3) := B3.out.trans K3
        have O3 : Hid (Lib.IsBuilder 59 5 g g (Lib.byteCells (textTo a (k + 1))) w3) := by
          show Lib.IsBuilder _ _ _ _ _ _
          rw [HT.out]
          exact .inr F3
        clear F3 K3
        go_wp2
        go_roundw
        case rel => exact ⟨k + 1, by omega, by go_num, O3, B4⟩
        case measure => simp [intOf]; omega
    · obtain rfl : k = n := by omega
      have s1 := B1.out.size
      rw [HG.out] at s1
      go_wp2_with fail
      refine (S.out _ _ O.out s1).mono ?_
      rintro e w2 ⟨rfl, K2⟩
      go_wp2
      go_ret
      exact ⟨rfl, B1.out.trans K2⟩
end Go.Proofs.YtbpadefpgkjnaaaDoor
