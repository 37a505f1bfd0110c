/- Classes of nets: the words, and the example. -/
import Derived.Test.YtlbcdnobpnllkaaGreatKF
import Derived.BigRegion
namespace Go.Proofs.YtlbcdnobpnllkaaGreat
open Go.RowKit Go.Deep

def ringV (a b c d : Nat) : NetV := ⟨sN, some ⟨a, 0, none⟩, [⟨sP, 1, 0⟩], 1, some ⟨b, 0, none⟩, [⟨sT, ⟨some ⟨c, 0, none⟩, 1, [(0, 1)]⟩, ⟨some ⟨d, 0, none⟩, 1, [(0, 1)]⟩, ⟨none, 0, []⟩, 0⟩], 1⟩
theorem readsP1 {w : World} {a : Nat} {p : PlaceV} (h0 : a < w.heap.size) (h1 : w.cell? ⟨a, 0, none⟩ = some (.string p.nm)) (h2 : w.cell? ⟨a, 1, none⟩ = some (.int .i64 p.ini)) (h3 : w.cell? ⟨a, 2, none⟩ = some (.int .i64 p.cap)) : ReadsP w (some ⟨a, 0, none⟩) [p] := by
  intro j hj
  match j, hj with
  | 0, _ => exact ⟨a, 0, rfl, h0, h1, h2, h3⟩
theorem okp1 {p : PlaceV} (h1 : p.nm.size ≤ maxLen) : OkP [p] := ⟨(show 1 ≤ 1000 by decide), fun j => match j with
  | 0 => h1
  | _ + 1 => (by decide : ByteArray.empty.size ≤ maxLen)⟩
set_option maxHeartbeats 4000000 in
theorem ring_any (w : World) : Calls Tryz.prog 32 #[] w fun e w' => ∃ a b c d, e = .returned (.agg #[.string sN, .slice (some ⟨a, 0, none⟩) 1 1, .slice (some ⟨b, 0, none⟩) 1 1]) ∧ NetR w' (ringV a b c d) ∧ Below w.heap.size w w' := by
  go_enter Tryz.func32, Tryz.ntmps32
  go_wp2
  refine bodyPost_ret (v := .agg #[.string sN, .slice (some ⟨w.heap.size + 1, 0, none⟩) 1 1, .slice (some ⟨w.heap.size + 1 + 1 + 1 + 1, 0, none⟩) 1 1]) (by simp [results, Tryz.results32, go_sem, sN]) rfl
    ⟨w.heap.size + 1, w.heap.size + 1 + 1 + 1 + 1, w.heap.size + 1 + 1, w.heap.size + 1 + 1 + 1, rfl, ⟨(show sN.size ≤ maxLen by decide), okp1 (show sP.size ≤ maxLen by decide), okt1 (show sT.size ≤ maxLen by decide) (show 1 ≤ 1000 by decide) (show 1 ≤ 1000 by decide) (show 0 ≤ 1000 by decide), (show 1 ≤ 1 by decide), (show 1 ≤ 1 by decide), ?_, ?_⟩, ?_⟩
  · exact readsP1 (by simp) (by repeat (first | (refine newc _ _ _ _ _ rfl ?_; (simp; done)) | refine past ?_)) (by repeat (first | (refine newc _ _ _ _ _ rfl ?_; (simp; done)) | refine past ?_)) (by repeat (first | (refine newc _ _ _ _ _ rfl ?_; (simp; done)) | refine past ?_))
  · exact readsT1 (by simp) (by repeat (first | (refine newc _ _ _ _ _ rfl ?_; (simp; done)) | refine past ?_)) (by repeat (first | (refine newc _ _ _ _ _ rfl ?_; (simp; done)) | refine past ?_)) (by repeat (first | (refine newc _ _ _ _ _ rfl ?_; (simp; done)) | refine past ?_)) (by repeat (first | (refine newc _ _ _ _ _ rfl ?_; (simp; done)) | refine past ?_)) (by repeat (first | (refine newc _ _ _ _ _ rfl ?_; (simp; done)) | refine past ?_)) (readsA1 (by simp) (by repeat (first | (refine newc _ _ _ _ _ rfl ?_; (simp; done)) | refine past ?_)) (by repeat (first | (refine newc _ _ _ _ _ rfl ?_; (simp; done)) | refine past ?_))) (readsA1 (by simp) (by repeat (first | (refine newc _ _ _ _ _ rfl ?_; (simp; done)) | refine past ?_)) (by repeat (first | (refine newc _ _ _ _ _ rfl ?_; (simp; done)) | refine past ?_))) (ReadsA.nil _ _)
  · exact (((((Below.refl _ _).alloc (Nat.le_refl _) _).alloc (by simp) _).alloc (by simp; omega) _).alloc (by simp; omega) _).alloc (by simp; omega) _
def nameK : Nat → ByteArray
  | 0 => ⟨#[112, 108, 97, 105, 110]⟩
  | 1 => ⟨#[111, 114, 100, 105, 110, 97, 114, 121]⟩
  | 2 => ⟨#[112, 117, 114, 101]⟩
  | 3 => ⟨#[99, 111, 110, 110, 101, 99, 116, 101, 100]⟩
  | 4 => ⟨#[115, 116, 114, 111, 110, 103]⟩
  | 5 => ⟨#[115, 116, 97, 116, 101, 109, 97, 99, 104, 105, 110, 101]⟩
  | 6 => ⟨#[109, 97, 114, 107, 101, 100, 103, 114, 97, 112, 104]⟩
  | 7 => ⟨#[102, 114, 101, 101, 99, 104, 111, 105, 99, 101]⟩
  | _ => ⟨#[97, 115, 121, 109, 109, 101, 116, 114, 105, 99]⟩
def propB (n : NetV) : Nat → Bool
  | 0 => plainN n
  | 1 => ordinaryN n
  | 2 => puN n
  | 3 => coN n
  | 4 => stN n
  | 5 => smN n
  | 6 => mgN n
  | 7 => fcN n
  | _ => asN n
def wordsTo (n : NetV) : Nat → List ByteArray
  | 0 => []
  | k + 1 => if propB n k then wordsTo n k ++ [nameK k] else wordsTo n k
theorem words_yes {n : NetV} {k : Nat} (h : propB n k = true) : wordsTo n (k + 1) = wordsTo n k ++ [nameK k] := by
  show (if propB n k then _ else _) = _
  rw [if_pos h]
theorem words_no {n : NetV} {k : Nat} (h : propB n k = false) : wordsTo n (k + 1) = wordsTo n k := by
  show (if propB n k then _ else _) = _
  rw [h]; rfl
theorem words_len (n : NetV) : ∀ k, (wordsTo n k).length ≤ k
  | 0 => Nat.le_refl _
  | k + 1 => by
    have ih := words_len n k
    cases h : propB n k
    · rw [words_no h]; omega
    · rw [words_yes h, List.length_append, List.length_singleton]; omega
def at1 (L : List ByteArray) (j : Nat) : ByteArray := L[j]?.getD ByteArray.empty
def RdS (w : World) (A : Option Addr) (L : List ByteArray) : Prop := ∀ j, j < L.length → ∃ b off, A = some ⟨b, off, none⟩ ∧ b < w.heap.size ∧ w.cell? ⟨b, off + j, none⟩ = some (.string (at1 L j))
theorem RdS.below {w w' : World} {A : Option Addr} {L : List ByteArray} (h : RdS w A L) (hb : Below w.heap.size w w') : RdS w' A L := fun j hj => by
  obtain ⟨b, off, e, h1, h2⟩ := h j hj
  exact ⟨b, off, e, Nat.lt_of_lt_of_le h1 hb.size, (hb.cell (p := ⟨b, off + j, none⟩) h1).trans h2⟩
def OwnS (w : World) (s : Nat) (v : Value) (L : List ByteArray) : Prop := w.ownsRow s 9 1 v L.length (L.map Value.string)
theorem OwnS.below {w w' : World} {s : Nat} {v : Value} {L : List ByteArray} (h : OwnS w s v L) (hb : Below w.heap.size w w') : OwnS w' s v L := Dg.own_block h fun g hg => hb.block g (h.lt g hg).2
theorem OwnS.alloc {w : World} {s : Nat} {v : Value} {L : List ByteArray} (h : OwnS w s v L) (o : Obj) : OwnS (w.alloc o) s v L := h.below ((Below.refl _ _).alloc (Nat.le_refl _) o)
theorem OwnS.reads {w : World} {s : Nat} {v : Value} {L : List ByteArray} (h : OwnS w s v L) : ∃ A c, v = .slice A L.length c ∧ RdS w A L := by
  rcases h.2 with ⟨e, h0⟩ | ⟨g, cap, cur, e, h1, h2, h3, h4, h5, h6⟩
  · exact ⟨none, 0, by rw [e, h0], fun j hj => absurd hj (by omega)⟩
  · refine ⟨some ⟨g, 0, none⟩, cap, e, fun j hj => ⟨g, 0, rfl, (Array.getElem?_eq_some_iff.1 h2).1, ?_⟩⟩
    have h7 := World.ownsRow.cellAt (e ▸ h) j (by omega)
    rw [Nat.zero_add, h7]
    simp [at1, hj]
theorem infoS : (Tryz.prog.info? 9).map (fun i => (i.zero, i.size, i.bytes)) = some (some (.string ByteArray.empty), 1, 16) := by kernel_rfl
theorem wpList_str {ops : Array Oper} {rest : List Oper} {o : Oper} {a : Act} {w : World} {Q : Exit → Act → World → Prop} (hgd : o.guard = none) (s x : Operand)
    (ho : o.op = .call { callee := .builtin .append, args := #[s, x], argTypes := #[37, 37] })
    (base : Nat) (v : Value) (L : List ByteArray) (z : ByteArray) (hs : a.eval s = v) (hO : OwnS w base v L) (g : Nat) (hx : a.eval x = .slice (some ⟨g, 0, none⟩) 1 1)
    (hc : w.cell? ⟨g, 0, none⟩ = some (.string z)) (hl : L.length ≤ 100000) (hbase : base ≤ w.heap.size)
    (h : ∀ v' w', OwnS w' base v' (L ++ [z]) → Below base w w' → wpList Tryz.prog ops Q rest (a.put o.dst v') w') : wpList Tryz.prog ops Q (o :: rest) a w := by
  obtain ⟨i, hi, hz, h1, h2⟩ := info_parts infoS
  refine wpList_append_own _ hgd s x 37 ho base 9 i (.string ByteArray.empty) 1 16 Tryz.underlying37 hi hz h1 h2 rfl (by decide) v L.length (L.map Value.string) hs hO ⟨g, 0, none⟩ 1 1 [.string z] hx rfl ?_ ?_ (by unfold maxLen; omega) (by omega) hbase ?_
  · intro j u hj
    cases j with
    | zero => simp at hj; subst hj; simpa [Addr.add] using hc
    | succ j => simp at hj
  · intro u hu
    simp at hu
    subst hu
    rfl
  · intro v' w' h1 h2 _
    refine h v' w' ?_ ((Below.refl base w).grown h2 hbase fun k hk => (hO.lt k hk).1)
    unfold OwnS
    rw [List.length_append, List.length_singleton, List.map_append]
    exact h1

def WordsPost (g : Nat) (w : World) (L : List ByteArray) (e : Ending) (w' : World) : Prop := ∃ A c, e = .returned (.slice A L.length c) ∧ RdS w' A L ∧ Below g w w'
set_option maxHeartbeats 16000000 in
set_option maxRecDepth 100000 in
theorem words_any (n : NetV) (w : World) (hr : NetR w n) :
    Calls Tryz.prog 30 #[(.agg #[.string n.nm, .slice n.PA n.ps.length n.pc, .slice n.TA n.ts.length n.tc])] w (WordsPost w.heap.size w (wordsTo n 9)) := by
  have P0 : Hid (∀ W, Below w.heap.size w W → Calls Tryz.prog 50 #[(.agg #[.string n.nm, .slice n.PA n.ps.length n.pc, .slice n.TA n.ts.length n.tc])] W (VPost W.heap.size W (.bool (plainN n)))) := fun W hW => plainN_any n W (hr.below hW (Nat.le_refl _))
  have P1 : Hid (∀ W, Below w.heap.size w W → Calls Tryz.prog 51 #[(.agg #[.string n.nm, .slice n.PA n.ps.length n.pc, .slice n.TA n.ts.length n.tc])] W (VPost W.heap.size W (.bool (ordinaryN n)))) := fun W hW => ordinaryN_any n W (hr.below hW (Nat.le_refl _))
  have P2 : Hid (∀ W, Below w.heap.size w W → Calls Tryz.prog 24 #[(.agg #[.string n.nm, .slice n.PA n.ps.length n.pc, .slice n.TA n.ts.length n.tc])] W (VPost W.heap.size W (.bool (puN n)))) := fun W hW => puN_any n W (hr.below hW (Nat.le_refl _))
  have P3 : Hid (∀ W, Below w.heap.size w W → Calls Tryz.prog 12 #[(.agg #[.string n.nm, .slice n.PA n.ps.length n.pc, .slice n.TA n.ts.length n.tc])] W (VPost W.heap.size W (.bool (coN n)))) := fun W hW => coN_any n W (hr.below hW (Nat.le_refl _))
  have P4 : Hid (∀ W, Below w.heap.size w W → Calls Tryz.prog 14 #[(.agg #[.string n.nm, .slice n.PA n.ps.length n.pc, .slice n.TA n.ts.length n.tc])] W (VPost W.heap.size W (.bool (stN n)))) := fun W hW => stN_any n W (hr.below hW (Nat.le_refl _))
  have P5 : Hid (∀ W, Below w.heap.size w W → Calls Tryz.prog 16 #[(.agg #[.string n.nm, .slice n.PA n.ps.length n.pc, .slice n.TA n.ts.length n.tc])] W (VPost W.heap.size W (.bool (smN n)))) := fun W hW => smN_any n W (hr.below hW (Nat.le_refl _))
  have P6 : Hid (∀ W, Below w.heap.size w W → Calls Tryz.prog 18 #[(.agg #[.string n.nm, .slice n.PA n.ps.length n.pc, .slice n.TA n.ts.length n.tc])] W (VPost W.heap.size W (.bool (mgN n)))) := fun W hW => mgN_any n W (hr.below hW (Nat.le_refl _))
  have P7 : Hid (∀ W, Below w.heap.size w W → Calls Tryz.prog 20 #[(.agg #[.string n.nm, .slice n.PA n.ps.length n.pc, .slice n.TA n.ts.length n.tc])] W (VPost W.heap.size W (.bool (fcN n)))) := fun W hW => fcN_any n W (hr.below hW (Nat.le_refl _))
  have P8 : Hid (∀ W, Below w.heap.size w W → Calls Tryz.prog 22 #[(.agg #[.string n.nm, .slice n.PA n.ps.length n.pc, .slice n.TA n.ts.length n.tc])] W (VPost W.heap.size W (.bool (asN n)))) := fun W hW => asN_any n W (hr.below hW (Nat.le_refl _))
  have B0 : Hid (Below w.heap.size w ((w.alloc (.cells #[.string n.nm, .slice n.PA n.ps.length n.pc, .slice n.TA n.ts.length n.tc] 25)).alloc (.cells #[.string ⟨#[112, 108, 97, 105, 110]⟩, .func (.func 50) #[] #[], .string ⟨#[111, 114, 100, 105, 110, 97, 114, 121]⟩, .func (.func 51) #[] #[], .string ⟨#[112, 117, 114, 101]⟩, .func (.func 24) #[] #[], .string ⟨#[99, 111, 110, 110, 101, 99, 116, 101, 100]⟩, .func (.func 12) #[] #[], .string ⟨#[115, 116, 114, 111, 110, 103]⟩, .func (.func 14) #[] #[], .string ⟨#[115, 116, 97, 116, 101, 109, 97, 99, 104, 105, 110, 101]⟩, .func (.func 16) #[] #[], .string ⟨#[109, 97, 114, 107, 101, 100, 103, 114, 97, 112, 104]⟩, .func (.func 18) #[] #[], .string ⟨#[102, 114, 101, 101, 99, 104, 111, 105, 99, 101]⟩, .func (.func 20) #[] #[], .string ⟨#[97, 115, 121, 109, 109, 101, 116, 114, 105, 99]⟩, .func (.func 22) #[] #[]] 66))) := ((Below.refl _ _).alloc (Nat.le_refl _) _).alloc (by simp) _
  have NB : Hid (∀ W, Below (w.heap.size + 2) ((w.alloc (.cells #[.string n.nm, .slice n.PA n.ps.length n.pc, .slice n.TA n.ts.length n.tc] 25)).alloc (.cells #[.string ⟨#[112, 108, 97, 105, 110]⟩, .func (.func 50) #[] #[], .string ⟨#[111, 114, 100, 105, 110, 97, 114, 121]⟩, .func (.func 51) #[] #[], .string ⟨#[112, 117, 114, 101]⟩, .func (.func 24) #[] #[], .string ⟨#[99, 111, 110, 110, 101, 99, 116, 101, 100]⟩, .func (.func 12) #[] #[], .string ⟨#[115, 116, 114, 111, 110, 103]⟩, .func (.func 14) #[] #[], .string ⟨#[115, 116, 97, 116, 101, 109, 97, 99, 104, 105, 110, 101]⟩, .func (.func 16) #[] #[], .string ⟨#[109, 97, 114, 107, 101, 100, 103, 114, 97, 112, 104]⟩, .func (.func 18) #[] #[], .string ⟨#[102, 114, 101, 101, 99, 104, 111, 105, 99, 101]⟩, .func (.func 20) #[] #[], .string ⟨#[97, 115, 121, 109, 109, 101, 116, 114, 105, 99]⟩, .func (.func 22) #[] #[]] 66)) W → NBox W w.heap.size n) := fun W hW => ((NBox.new w n).below (B := w.heap.size + 1) ((Below.refl _ _).alloc (by simp) _) (by omega)).below hW (by omega)
  have AR : Hid (∀ W, Below (w.heap.size + 2) ((w.alloc (.cells #[.string n.nm, .slice n.PA n.ps.length n.pc, .slice n.TA n.ts.length n.tc] 25)).alloc (.cells #[.string ⟨#[112, 108, 97, 105, 110]⟩, .func (.func 50) #[] #[], .string ⟨#[111, 114, 100, 105, 110, 97, 114, 121]⟩, .func (.func 51) #[] #[], .string ⟨#[112, 117, 114, 101]⟩, .func (.func 24) #[] #[], .string ⟨#[99, 111, 110, 110, 101, 99, 116, 101, 100]⟩, .func (.func 12) #[] #[], .string ⟨#[115, 116, 114, 111, 110, 103]⟩, .func (.func 14) #[] #[], .string ⟨#[115, 116, 97, 116, 101, 109, 97, 99, 104, 105, 110, 101]⟩, .func (.func 16) #[] #[], .string ⟨#[109, 97, 114, 107, 101, 100, 103, 114, 97, 112, 104]⟩, .func (.func 18) #[] #[], .string ⟨#[102, 114, 101, 101, 99, 104, 111, 105, 99, 101]⟩, .func (.func 20) #[] #[], .string ⟨#[97, 115, 121, 109, 109, 101, 116, 114, 105, 99]⟩, .func (.func 22) #[] #[]] 66)) W → ∀ j, j < 18 → W.cell? ⟨w.heap.size + 1, j, none⟩ = (#[.string ⟨#[112, 108, 97, 105, 110]⟩, .func (.func 50) #[] #[], .string ⟨#[111, 114, 100, 105, 110, 97, 114, 121]⟩, .func (.func 51) #[] #[], .string ⟨#[112, 117, 114, 101]⟩, .func (.func 24) #[] #[], .string ⟨#[99, 111, 110, 110, 101, 99, 116, 101, 100]⟩, .func (.func 12) #[] #[], .string ⟨#[115, 116, 114, 111, 110, 103]⟩, .func (.func 14) #[] #[], .string ⟨#[115, 116, 97, 116, 101, 109, 97, 99, 104, 105, 110, 101]⟩, .func (.func 16) #[] #[], .string ⟨#[109, 97, 114, 107, 101, 100, 103, 114, 97, 112, 104]⟩, .func (.func 18) #[] #[], .string ⟨#[102, 114, 101, 101, 99, 104, 111, 105, 99, 101]⟩, .func (.func 20) #[] #[], .string ⟨#[97, 115, 121, 109, 109, 101, 116, 114, 105, 99]⟩, .func (.func 22) #[] #[]] : Array Value)[j]?) := fun W hW j hj => by
    refine (hW.cell (p := ⟨w.heap.size + 1, j, none⟩) (by show w.heap.size + 1 < w.heap.size + 2; omega)).trans ?_
    have h := World.cell?_alloc_new (w.alloc (.cells #[.string n.nm, .slice n.PA n.ps.length n.pc, .slice n.TA n.ts.length n.tc] 25)) (#[.string ⟨#[112, 108, 97, 105, 110]⟩, .func (.func 50) #[] #[], .string ⟨#[111, 114, 100, 105, 110, 97, 114, 121]⟩, .func (.func 51) #[] #[], .string ⟨#[112, 117, 114, 101]⟩, .func (.func 24) #[] #[], .string ⟨#[99, 111, 110, 110, 101, 99, 116, 101, 100]⟩, .func (.func 12) #[] #[], .string ⟨#[115, 116, 114, 111, 110, 103]⟩, .func (.func 14) #[] #[], .string ⟨#[115, 116, 97, 116, 101, 109, 97, 99, 104, 105, 110, 101]⟩, .func (.func 16) #[] #[], .string ⟨#[109, 97, 114, 107, 101, 100, 103, 114, 97, 112, 104]⟩, .func (.func 18) #[] #[], .string ⟨#[102, 114, 101, 101, 99, 104, 111, 105, 99, 101]⟩, .func (.func 20) #[] #[], .string ⟨#[97, 115, 121, 109, 109, 101, 116, 114, 105, 99]⟩, .func (.func 22) #[] #[]] : Array Value) 66 j
    rw [World.size_alloc] at h
    exact h
  have BW : Hid (∀ W, Below (w.heap.size + 2) ((w.alloc (.cells #[.string n.nm, .slice n.PA n.ps.length n.pc, .slice n.TA n.ts.length n.tc] 25)).alloc (.cells #[.string ⟨#[112, 108, 97, 105, 110]⟩, .func (.func 50) #[] #[], .string ⟨#[111, 114, 100, 105, 110, 97, 114, 121]⟩, .func (.func 51) #[] #[], .string ⟨#[112, 117, 114, 101]⟩, .func (.func 24) #[] #[], .string ⟨#[99, 111, 110, 110, 101, 99, 116, 101, 100]⟩, .func (.func 12) #[] #[], .string ⟨#[115, 116, 114, 111, 110, 103]⟩, .func (.func 14) #[] #[], .string ⟨#[115, 116, 97, 116, 101, 109, 97, 99, 104, 105, 110, 101]⟩, .func (.func 16) #[] #[], .string ⟨#[109, 97, 114, 107, 101, 100, 103, 114, 97, 112, 104]⟩, .func (.func 18) #[] #[], .string ⟨#[102, 114, 101, 101, 99, 104, 111, 105, 99, 101]⟩, .func (.func 20) #[] #[], .string ⟨#[97, 115, 121, 109, 109, 101, 116, 114, 105, 99]⟩, .func (.func 22) #[] #[]] 66)) W → Below w.heap.size w W) := fun W hW => B0.out.trans (hW.mono (by omega))
  have K0 : Hid (Below (w.heap.size + 2) ((w.alloc (.cells #[.string n.nm, .slice n.PA n.ps.length n.pc, .slice n.TA n.ts.length n.tc] 25)).alloc (.cells #[.string ⟨#[112, 108, 97, 105, 110]⟩, .func (.func 50) #[] #[], .string ⟨#[111, 114, 100, 105, 110, 97, 114, 121]⟩, .func (.func 51) #[] #[], .string ⟨#[112, 117, 114, 101]⟩, .func (.func 24) #[] #[], .string ⟨#[99, 111, 110, 110, 101, 99, 116, 101, 100]⟩, .func (.func 12) #[] #[], .string ⟨#[115, 116, 114, 111, 110, 103]⟩, .func (.func 14) #[] #[], .string ⟨#[115, 116, 97, 116, 101, 109, 97, 99, 104, 105, 110, 101]⟩, .func (.func 16) #[] #[], .string ⟨#[109, 97, 114, 107, 101, 100, 103, 114, 97, 112, 104]⟩, .func (.func 18) #[] #[], .string ⟨#[102, 114, 101, 101, 99, 104, 111, 105, 99, 101]⟩, .func (.func 20) #[] #[], .string ⟨#[97, 115, 121, 109, 109, 101, 116, 114, 105, 99]⟩, .func (.func 22) #[] #[]] 66)) ((w.alloc (.cells #[.string n.nm, .slice n.PA n.ps.length n.pc, .slice n.TA n.ts.length n.tc] 25)).alloc (.cells #[.string ⟨#[112, 108, 97, 105, 110]⟩, .func (.func 50) #[] #[], .string ⟨#[111, 114, 100, 105, 110, 97, 114, 121]⟩, .func (.func 51) #[] #[], .string ⟨#[112, 117, 114, 101]⟩, .func (.func 24) #[] #[], .string ⟨#[99, 111, 110, 110, 101, 99, 116, 101, 100]⟩, .func (.func 12) #[] #[], .string ⟨#[115, 116, 114, 111, 110, 103]⟩, .func (.func 14) #[] #[], .string ⟨#[115, 116, 97, 116, 101, 109, 97, 99, 104, 105, 110, 101]⟩, .func (.func 16) #[] #[], .string ⟨#[109, 97, 114, 107, 101, 100, 103, 114, 97, 112, 104]⟩, .func (.func 18) #[] #[], .string ⟨#[102, 114, 101, 101, 99, 104, 111, 105, 99, 101]⟩, .func (.func 20) #[] #[], .string ⟨#[97, 115, 121, 109, 109, 101, 116, 114, 105, 99]⟩, .func (.func 22) #[] #[]] 66))) := Below.refl _ _
  have O0 : Hid (OwnS ((w.alloc (.cells #[.string n.nm, .slice n.PA n.ps.length n.pc, .slice n.TA n.ts.length n.tc] 25)).alloc (.cells #[.string ⟨#[112, 108, 97, 105, 110]⟩, .func (.func 50) #[] #[], .string ⟨#[111, 114, 100, 105, 110, 97, 114, 121]⟩, .func (.func 51) #[] #[], .string ⟨#[112, 117, 114, 101]⟩, .func (.func 24) #[] #[], .string ⟨#[99, 111, 110, 110, 101, 99, 116, 101, 100]⟩, .func (.func 12) #[] #[], .string ⟨#[115, 116, 114, 111, 110, 103]⟩, .func (.func 14) #[] #[], .string ⟨#[115, 116, 97, 116, 101, 109, 97, 99, 104, 105, 110, 101]⟩, .func (.func 16) #[] #[], .string ⟨#[109, 97, 114, 107, 101, 100, 103, 114, 97, 112, 104]⟩, .func (.func 18) #[] #[], .string ⟨#[102, 114, 101, 101, 99, 104, 111, 105, 99, 101]⟩, .func (.func 20) #[] #[], .string ⟨#[97, 115, 121, 109, 109, 101, 116, 114, 105, 99]⟩, .func (.func 22) #[] #[]] 66)) (w.heap.size + 2) (.slice none 0 0) (wordsTo n 0)) := World.ownsRow_nil _ _ _ _
  have SZ : Hid (w.heap.size + 2 ≤ ((w.alloc (.cells #[.string n.nm, .slice n.PA n.ps.length n.pc, .slice n.TA n.ts.length n.tc] 25)).alloc (.cells #[.string ⟨#[112, 108, 97, 105, 110]⟩, .func (.func 50) #[] #[], .string ⟨#[111, 114, 100, 105, 110, 97, 114, 121]⟩, .func (.func 51) #[] #[], .string ⟨#[112, 117, 114, 101]⟩, .func (.func 24) #[] #[], .string ⟨#[99, 111, 110, 110, 101, 99, 116, 101, 100]⟩, .func (.func 12) #[] #[], .string ⟨#[115, 116, 114, 111, 110, 103]⟩, .func (.func 14) #[] #[], .string ⟨#[115, 116, 97, 116, 101, 109, 97, 99, 104, 105, 110, 101]⟩, .func (.func 16) #[] #[], .string ⟨#[109, 97, 114, 107, 101, 100, 103, 114, 97, 112, 104]⟩, .func (.func 18) #[] #[], .string ⟨#[102, 114, 101, 101, 99, 104, 111, 105, 99, 101]⟩, .func (.func 20) #[] #[], .string ⟨#[97, 115, 121, 109, 109, 101, 116, 114, 105, 99]⟩, .func (.func 22) #[] #[]] 66)).heap.size) := by show _ ≤ _; simp
  have LW := Lib.hid (words_len n)
  have Y0 : Hid (plainN n = true → wordsTo n (0 + 1) = wordsTo n 0 ++ [⟨#[112, 108, 97, 105, 110]⟩]) := fun h => words_yes (k := 0) h
  have Z0 : Hid (plainN n = false → wordsTo n (0 + 1) = wordsTo n 0) := fun h => words_no (k := 0) h
  have Y1 : Hid (ordinaryN n = true → wordsTo n (1 + 1) = wordsTo n 1 ++ [⟨#[111, 114, 100, 105, 110, 97, 114, 121]⟩]) := fun h => words_yes (k := 1) h
  have Z1 : Hid (ordinaryN n = false → wordsTo n (1 + 1) = wordsTo n 1) := fun h => words_no (k := 1) h
  have Y2 : Hid (puN n = true → wordsTo n (2 + 1) = wordsTo n 2 ++ [⟨#[112, 117, 114, 101]⟩]) := fun h => words_yes (k := 2) h
  have Z2 : Hid (puN n = false → wordsTo n (2 + 1) = wordsTo n 2) := fun h => words_no (k := 2) h
  have Y3 : Hid (coN n = true → wordsTo n (3 + 1) = wordsTo n 3 ++ [⟨#[99, 111, 110, 110, 101, 99, 116, 101, 100]⟩]) := fun h => words_yes (k := 3) h
  have Z3 : Hid (coN n = false → wordsTo n (3 + 1) = wordsTo n 3) := fun h => words_no (k := 3) h
  have Y4 : Hid (stN n = true → wordsTo n (4 + 1) = wordsTo n 4 ++ [⟨#[115, 116, 114, 111, 110, 103]⟩]) := fun h => words_yes (k := 4) h
  have Z4 : Hid (stN n = false → wordsTo n (4 + 1) = wordsTo n 4) := fun h => words_no (k := 4) h
  have Y5 : Hid (smN n = true → wordsTo n (5 + 1) = wordsTo n 5 ++ [⟨#[115, 116, 97, 116, 101, 109, 97, 99, 104, 105, 110, 101]⟩]) := fun h => words_yes (k := 5) h
  have Z5 : Hid (smN n = false → wordsTo n (5 + 1) = wordsTo n 5) := fun h => words_no (k := 5) h
  have Y6 : Hid (mgN n = true → wordsTo n (6 + 1) = wordsTo n 6 ++ [⟨#[109, 97, 114, 107, 101, 100, 103, 114, 97, 112, 104]⟩]) := fun h => words_yes (k := 6) h
  have Z6 : Hid (mgN n = false → wordsTo n (6 + 1) = wordsTo n 6) := fun h => words_no (k := 6) h
  have Y7 : Hid (fcN n = true → wordsTo n (7 + 1) = wordsTo n 7 ++ [⟨#[102, 114, 101, 101, 99, 104, 111, 105, 99, 101]⟩]) := fun h => words_yes (k := 7) h
  have Z7 : Hid (fcN n = false → wordsTo n (7 + 1) = wordsTo n 7) := fun h => words_no (k := 7) h
  have Y8 : Hid (asN n = true → wordsTo n (8 + 1) = wordsTo n 8 ++ [⟨#[97, 115, 121, 109, 109, 101, 116, 114, 105, 99]⟩]) := fun h => words_yes (k := 8) h
  have Z8 : Hid (asN n = false → wordsTo n (8 + 1) = wordsTo n 8) := fun h => words_no (k := 8) h
  clear hr
  unfold WordsPost
  generalize wordsTo n = ws at *
  generalize plainN n = p0 at *
  generalize ordinaryN n = p1 at *
  generalize puN n = p2 at *
  generalize coN n = p3 at *
  generalize stN n = p4 at *
  generalize smN n = p5 at *
  generalize mgN n = p6 at *
  generalize fcN n = p7 at *
  generalize asN n = p8 at *
  go_enter Tryz.func30, Tryz.ntmps30
  go_wp2_with fail
  obtain ⟨w2, hw2⟩ : ∃ w2, w2 = ((w.alloc (.cells #[.string n.nm, .slice n.PA n.ps.length n.pc, .slice n.TA n.ts.length n.tc] 25)).alloc (.cells #[.string ⟨#[112, 108, 97, 105, 110]⟩, .func (.func 50) #[] #[], .string ⟨#[111, 114, 100, 105, 110, 97, 114, 121]⟩, .func (.func 51) #[] #[], .string ⟨#[112, 117, 114, 101]⟩, .func (.func 24) #[] #[], .string ⟨#[99, 111, 110, 110, 101, 99, 116, 101, 100]⟩, .func (.func 12) #[] #[], .string ⟨#[115, 116, 114, 111, 110, 103]⟩, .func (.func 14) #[] #[], .string ⟨#[115, 116, 97, 116, 101, 109, 97, 99, 104, 105, 110, 101]⟩, .func (.func 16) #[] #[], .string ⟨#[109, 97, 114, 107, 101, 100, 103, 114, 97, 112, 104]⟩, .func (.func 18) #[] #[], .string ⟨#[102, 114, 101, 101, 99, 104, 111, 105, 99, 101]⟩, .func (.func 20) #[] #[], .string ⟨#[97, 115, 121, 109, 109, 101, 116, 114, 105, 99]⟩, .func (.func 22) #[] #[]] 66)) := ⟨_, rfl⟩
  rw [← hw2] at B0 NB AR BW K0 O0 SZ ⊢
  clear hw2
  go_loopw [4, 19] (fun ov q wr => ∃ k : Nat, k ≤ 9 ∧ q = .int .i64 (k : Nat) ∧ Hid (OwnS wr (w.heap.size + 2) ov (ws k)) ∧ Hid (Below (w.heap.size + 2) w2 wr)) (fun _ q _ => 9 - (intOf q).toNat)
  case atStart => exact ⟨0, by omega, rfl, O0, K0⟩
  case round =>
    clear O0 K0 B0
    obtain ⟨wo, rfl⟩ : ∃ wo, wo = wr := ⟨_, rfl⟩
    obtain ⟨k, hk, rfl, OW, BB⟩ := hrel
    have hs2 : w.heap.size + 2 ≤ wo.heap.size := Nat.le_trans SZ.out BB.out.size
    have lw := LW.out k
    by_cases hlt : k < 9
    · obtain ⟨c0, c1, c2⟩ := NB.out _ BB.out
      have c0' : ∀ o, (wo.alloc o).cell? ⟨w.heap.size, 0, none⟩ = some (.string n.nm) := fun o => (World.cell?_alloc_lt _ _ _ (by show w.heap.size < wo.heap.size; omega)).trans c0
      have c1' : ∀ o, (wo.alloc o).cell? ⟨w.heap.size, 1, none⟩ = some (.slice n.PA n.ps.length n.pc) := fun o => (World.cell?_alloc_lt _ _ _ (by show w.heap.size < wo.heap.size; omega)).trans c1
      have c2' : ∀ o, (wo.alloc o).cell? ⟨w.heap.size, 2, none⟩ = some (.slice n.TA n.ts.length n.tc) := fun o => (World.cell?_alloc_lt _ _ _ (by show w.heap.size < wo.heap.size; omega)).trans c2
      have ARk := Lib.hid (AR.out _ BB.out)
      have hcase : Hid (k = 0 ∨ k = 1 ∨ k = 2 ∨ k = 3 ∨ k = 4 ∨ k = 5 ∨ k = 6 ∨ k = 7 ∨ k = 8) := by show _ ∨ _; omega
      have BT : Hid (∀ o : Obj, Below w.heap.size w (wo.alloc o)) := fun o => (BW.out _ BB.out).alloc (by omega) o
      have BT2 : Hid (∀ o : Obj, Below (w.heap.size + 2) w2 (wo.alloc o)) := fun o => BB.out.alloc hs2 o
      clear AR NB BB LW
      rcases hcase.out with h | h | h | h | h | h | h | h | h
      · as_aux_lemma =>
        have HK := Lib.hid h
        have d0 : wo.cell? ⟨w.heap.size + 1, k * 2, none⟩ = some (.string ⟨#[112, 108, 97, 105, 110]⟩) := by rw [ARk.out _ (by omega), h]; rfl
        have d1 : wo.cell? ⟨w.heap.size + 1, k * 2 + 1, none⟩ = some (.func (.func 50) #[] #[]) := by rw [ARk.out _ (by omega), h]; rfl
        clear h hcase ARk
        go_wp2_with fail
        refine (P0.out _ (BT.out _)).mono ?_
        rintro e w3 ⟨rfl, K⟩
        have pcell : w3.cell? ⟨wo.heap.size, 0, none⟩ = some (.string ⟨#[112, 108, 97, 105, 110]⟩) := (K.cell (by simp)).trans (by simp)
        have BB3 := Lib.hid ((BT2.out _).trans (K.mono (by rw [World.size_alloc]; omega)))
        have O3 := Lib.hid ((OW.out.alloc _).below K)
        have hs3 : w.heap.size + 2 ≤ w3.heap.size := by have := K.size; rw [World.size_alloc] at this; omega
        clear K c0 c1 c2 c0' c1' c2' d0 d1 BT BT2 OW
        cases hp : p0
        · have E : Hid (ws k = ws (k + 1)) := by show _ = _; rw [HK.out]; exact (Z0.out hp).symm
          have O4 : Hid (OwnS w3 (w.heap.size + 2) u4 (ws (k + 1))) := by show OwnS _ _ _ _; rw [← E.out]; exact O3.out
          clear hp
          go_wp2
          go_roundw
          case rel => exact ⟨k + 1, by omega, by go_num, O4, BB3⟩
          case measure => simp [intOf]; omega
        · have E : Hid (ws (k + 1) = ws k ++ [⟨#[112, 108, 97, 105, 110]⟩]) := by show _ = _; rw [HK.out]; exact Y0.out hp
          clear hp
          go_wp2_with (at_builtin; go_loud (refine wpList_str rfl (.tmp 27) (.tmp 30) rfl (w.heap.size + 2) u4 (ws k) ⟨#[112, 108, 97, 105, 110]⟩ rfl (O3.out.alloc _) w3.heap.size rfl (by simp) (by omega) (by rw [World.size_alloc]; omega) ?_); intro v' w6 ho6 hb6; have O6 := Lib.hid ho6; have B6 := Lib.hid ((BB3.out.alloc hs3 _).trans hb6); clear ho6 hb6)
          have O7 : Hid (OwnS w6 (w.heap.size + 2) v' (ws (k + 1))) := by show OwnS _ _ _ _; rw [E.out]; exact O6.out
          go_roundw
          case rel => exact ⟨k + 1, by omega, by go_num, O7, B6⟩
          case measure => simp [intOf]; omega
      · as_aux_lemma =>
        have HK := Lib.hid h
        have d0 : wo.cell? ⟨w.heap.size + 1, k * 2, none⟩ = some (.string ⟨#[111, 114, 100, 105, 110, 97, 114, 121]⟩) := by rw [ARk.out _ (by omega), h]; rfl
        have d1 : wo.cell? ⟨w.heap.size + 1, k * 2 + 1, none⟩ = some (.func (.func 51) #[] #[]) := by rw [ARk.out _ (by omega), h]; rfl
        clear h hcase ARk
        go_wp2_with fail
        refine (P1.out _ (BT.out _)).mono ?_
        rintro e w3 ⟨rfl, K⟩
        have pcell : w3.cell? ⟨wo.heap.size, 0, none⟩ = some (.string ⟨#[111, 114, 100, 105, 110, 97, 114, 121]⟩) := (K.cell (by simp)).trans (by simp)
        have BB3 := Lib.hid ((BT2.out _).trans (K.mono (by rw [World.size_alloc]; omega)))
        have O3 := Lib.hid ((OW.out.alloc _).below K)
        have hs3 : w.heap.size + 2 ≤ w3.heap.size := by have := K.size; rw [World.size_alloc] at this; omega
        clear K c0 c1 c2 c0' c1' c2' d0 d1 BT BT2 OW
        cases hp : p1
        · have E : Hid (ws k = ws (k + 1)) := by show _ = _; rw [HK.out]; exact (Z1.out hp).symm
          have O4 : Hid (OwnS w3 (w.heap.size + 2) u4 (ws (k + 1))) := by show OwnS _ _ _ _; rw [← E.out]; exact O3.out
          clear hp
          go_wp2
          go_roundw
          case rel => exact ⟨k + 1, by omega, by go_num, O4, BB3⟩
          case measure => simp [intOf]; omega
        · have E : Hid (ws (k + 1) = ws k ++ [⟨#[111, 114, 100, 105, 110, 97, 114, 121]⟩]) := by show _ = _; rw [HK.out]; exact Y1.out hp
          clear hp
          go_wp2_with (at_builtin; go_loud (refine wpList_str rfl (.tmp 27) (.tmp 30) rfl (w.heap.size + 2) u4 (ws k) ⟨#[111, 114, 100, 105, 110, 97, 114, 121]⟩ rfl (O3.out.alloc _) w3.heap.size rfl (by simp) (by omega) (by rw [World.size_alloc]; omega) ?_); intro v' w6 ho6 hb6; have O6 := Lib.hid ho6; have B6 := Lib.hid ((BB3.out.alloc hs3 _).trans hb6); clear ho6 hb6)
          have O7 : Hid (OwnS w6 (w.heap.size + 2) v' (ws (k + 1))) := by show OwnS _ _ _ _; rw [E.out]; exact O6.out
          go_roundw
          case rel => exact ⟨k + 1, by omega, by go_num, O7, B6⟩
          case measure => simp [intOf]; omega
      · as_aux_lemma =>
        have HK := Lib.hid h
        have d0 : wo.cell? ⟨w.heap.size + 1, k * 2, none⟩ = some (.string ⟨#[112, 117, 114, 101]⟩) := by rw [ARk.out _ (by omega), h]; rfl
        have d1 : wo.cell? ⟨w.heap.size + 1, k * 2 + 1, none⟩ = some (.func (.func 24) #[] #[]) := by rw [ARk.out _ (by omega), h]; rfl
        clear h hcase ARk
        go_wp2_with fail
        refine (P2.out _ (BT.out _)).mono ?_
        rintro e w3 ⟨rfl, K⟩
        have pcell : w3.cell? ⟨wo.heap.size, 0, none⟩ = some (.string ⟨#[112, 117, 114, 101]⟩) := (K.cell (by simp)).trans (by simp)
        have BB3 := Lib.hid ((BT2.out _).trans (K.mono (by rw [World.size_alloc]; omega)))
        have O3 := Lib.hid ((OW.out.alloc _).below K)
        have hs3 : w.heap.size + 2 ≤ w3.heap.size := by have := K.size; rw [World.size_alloc] at this; omega
        clear K c0 c1 c2 c0' c1' c2' d0 d1 BT BT2 OW
        cases hp : p2
        · have E : Hid (ws k = ws (k + 1)) := by show _ = _; rw [HK.out]; exact (Z2.out hp).symm
          have O4 : Hid (OwnS w3 (w.heap.size + 2) u4 (ws (k + 1))) := by show OwnS _ _ _ _; rw [← E.out]; exact O3.out
          clear hp
          go_wp2
          go_roundw
          case rel => exact ⟨k + 1, by omega, by go_num, O4, BB3⟩
          case measure => simp [intOf]; omega
        · have E : Hid (ws (k + 1) = ws k ++ [⟨#[112, 117, 114, 101]⟩]) := by show _ = _; rw [HK.out]; exact Y2.out hp
          clear hp
          go_wp2_with (at_builtin; go_loud (refine wpList_str rfl (.tmp 27) (.tmp 30) rfl (w.heap.size + 2) u4 (ws k) ⟨#[112, 117, 114, 101]⟩ rfl (O3.out.alloc _) w3.heap.size rfl (by simp) (by omega) (by rw [World.size_alloc]; omega) ?_); intro v' w6 ho6 hb6; have O6 := Lib.hid ho6; have B6 := Lib.hid ((BB3.out.alloc hs3 _).trans hb6); clear ho6 hb6)
          have O7 : Hid (OwnS w6 (w.heap.size + 2) v' (ws (k + 1))) := by show OwnS _ _ _ _; rw [E.out]; exact O6.out
          go_roundw
          case rel => exact ⟨k + 1, by omega, by go_num, O7, B6⟩
          case measure => simp [intOf]; omega
      · as_aux_lemma =>
        have HK := Lib.hid h
        have d0 : wo.cell? ⟨w.heap.size + 1, k * 2, none⟩ = some (.string ⟨#[99, 111, 110, 110, 101, 99, 116, 101, 100]⟩) := by rw [ARk.out _ (by omega), h]; rfl
        have d1 : wo.cell? ⟨w.heap.size + 1, k * 2 + 1, none⟩ = some (.func (.func 12) #[] #[]) := by rw [ARk.out _ (by omega), h]; rfl
        clear h hcase ARk
        go_wp2_with fail
        refine (P3.out _ (BT.out _)).mono ?_
        rintro e w3 ⟨rfl, K⟩
        have pcell : w3.cell? ⟨wo.heap.size, 0, none⟩ = some (.string ⟨#[99, 111, 110, 110, 101, 99, 116, 101, 100]⟩) := (K.cell (by simp)).trans (by simp)
        have BB3 := Lib.hid ((BT2.out _).trans (K.mono (by rw [World.size_alloc]; omega)))
        have O3 := Lib.hid ((OW.out.alloc _).below K)
        have hs3 : w.heap.size + 2 ≤ w3.heap.size := by have := K.size; rw [World.size_alloc] at this; omega
        clear K c0 c1 c2 c0' c1' c2' d0 d1 BT BT2 OW
        cases hp : p3
        · have E : Hid (ws k = ws (k + 1)) := by show _ = _; rw [HK.out]; exact (Z3.out hp).symm
          have O4 : Hid (OwnS w3 (w.heap.size + 2) u4 (ws (k + 1))) := by show OwnS _ _ _ _; rw [← E.out]; exact O3.out
          clear hp
          go_wp2
          go_roundw
          case rel => exact ⟨k + 1, by omega, by go_num, O4, BB3⟩
          case measure => simp [intOf]; omega
        · have E : Hid (ws (k + 1) = ws k ++ [⟨#[99, 111, 110, 110, 101, 99, 116, 101, 100]⟩]) := by show _ = _; rw [HK.out]; exact Y3.out hp
          clear hp
          go_wp2_with (at_builtin; go_loud (refine wpList_str rfl (.tmp 27) (.tmp 30) rfl (w.heap.size + 2) u4 (ws k) ⟨#[99, 111, 110, 110, 101, 99, 116, 101, 100]⟩ rfl (O3.out.alloc _) w3.heap.size rfl (by simp) (by omega) (by rw [World.size_alloc]; omega) ?_); intro v' w6 ho6 hb6; have O6 := Lib.hid ho6; have B6 := Lib.hid ((BB3.out.alloc hs3 _).trans hb6); clear ho6 hb6)
          have O7 : Hid (OwnS w6 (w.heap.size + 2) v' (ws (k + 1))) := by show OwnS _ _ _ _; rw [E.out]; exact O6.out
          go_roundw
          case rel => exact ⟨k + 1, by omega, by go_num, O7, B6⟩
          case measure => simp [intOf]; omega
      · as_aux_lemma =>
        have HK := Lib.hid h
        have d0 : wo.cell? ⟨w.heap.size + 1, k * 2, none⟩ = some (.string ⟨#[115, 116, 114, 111, 110, 103]⟩) := by rw [ARk.out _ (by omega), h]; rfl
        have d1 : wo.cell? ⟨w.heap.size + 1, k * 2 + 1, none⟩ = some (.func (.func 14) #[] #[]) := by rw [ARk.out _ (by omega), h]; rfl
        clear h hcase ARk
        go_wp2_with fail
        refine (P4.out _ (BT.out _)).mono ?_
        rintro e w3 ⟨rfl, K⟩
        have pcell : w3.cell? ⟨wo.heap.size, 0, none⟩ = some (.string ⟨#[115, 116, 114, 111, 110, 103]⟩) := (K.cell (by simp)).trans (by simp)
        have BB3 := Lib.hid ((BT2.out _).trans (K.mono (by rw [World.size_alloc]; omega)))
        have O3 := Lib.hid ((OW.out.alloc _).below K)
        have hs3 : w.heap.size + 2 ≤ w3.heap.size := by have := K.size; rw [World.size_alloc] at this; omega
        clear K c0 c1 c2 c0' c1' c2' d0 d1 BT BT2 OW
        cases hp : p4
        · have E : Hid (ws k = ws (k + 1)) := by show _ = _; rw [HK.out]; exact (Z4.out hp).symm
          have O4 : Hid (OwnS w3 (w.heap.size + 2) u4 (ws (k + 1))) := by show OwnS _ _ _ _; rw [← E.out]; exact O3.out
          clear hp
          go_wp2
          go_roundw
          case rel => exact ⟨k + 1, by omega, by go_num, O4, BB3⟩
          case measure => simp [intOf]; omega
        · have E : Hid (ws (k + 1) = ws k ++ [⟨#[115, 116, 114, 111, 110, 103]⟩]) := by show _ = _; rw [HK.out]; exact Y4.out hp
          clear hp
          go_wp2_with (at_builtin; go_loud (refine wpList_str rfl (.tmp 27) (.tmp 30) rfl (w.heap.size + 2) u4 (ws k) ⟨#[115, 116, 114, 111, 110, 103]⟩ rfl (O3.out.alloc _) w3.heap.size rfl (by simp) (by omega) (by rw [World.size_alloc]; omega) ?_); intro v' w6 ho6 hb6; have O6 := Lib.hid ho6; have B6 := Lib.hid ((BB3.out.alloc hs3 _).trans hb6); clear ho6 hb6)
          have O7 : Hid (OwnS w6 (w.heap.size + 2) v' (ws (k + 1))) := by show OwnS _ _ _ _; rw [E.out]; exact O6.out
          go_roundw
          case rel => exact ⟨k + 1, by omega, by go_num, O7, B6⟩
          case measure => simp [intOf]; omega
      · as_aux_lemma =>
        have HK := Lib.hid h
        have d0 : wo.cell? ⟨w.heap.size + 1, k * 2, none⟩ = some (.string ⟨#[115, 116, 97, 116, 101, 109, 97, 99, 104, 105, 110, 101]⟩) := by rw [ARk.out _ (by omega), h]; rfl
        have d1 : wo.cell? ⟨w.heap.size + 1, k * 2 + 1, none⟩ = some (.func (.func 16) #[] #[]) := by rw [ARk.out _ (by omega), h]; rfl
        clear h hcase ARk
        go_wp2_with fail
        refine (P5.out _ (BT.out _)).mono ?_
        rintro e w3 ⟨rfl, K⟩
        have pcell : w3.cell? ⟨wo.heap.size, 0, none⟩ = some (.string ⟨#[115, 116, 97, 116, 101, 109, 97, 99, 104, 105, 110, 101]⟩) := (K.cell (by simp)).trans (by simp)
        have BB3 := Lib.hid ((BT2.out _).trans (K.mono (by rw [World.size_alloc]; omega)))
        have O3 := Lib.hid ((OW.out.alloc _).below K)
        have hs3 : w.heap.size + 2 ≤ w3.heap.size := by have := K.size; rw [World.size_alloc] at this; omega
        clear K c0 c1 c2 c0' c1' c2' d0 d1 BT BT2 OW
        cases hp : p5
        · have E : Hid (ws k = ws (k + 1)) := by show _ = _; rw [HK.out]; exact (Z5.out hp).symm
          have O4 : Hid (OwnS w3 (w.heap.size + 2) u4 (ws (k + 1))) := by show OwnS _ _ _ _; rw [← E.out]; exact O3.out
          clear hp
          go_wp2
          go_roundw
          case rel => exact ⟨k + 1, by omega, by go_num, O4, BB3⟩
          case measure => simp [intOf]; omega
        · have E : Hid (ws (k + 1) = ws k ++ [⟨#[115, 116, 97, 116, 101, 109, 97, 99, 104, 105, 110, 101]⟩]) := by show _ = _; rw [HK.out]; exact Y5.out hp
          clear hp
          go_wp2_with (at_builtin; go_loud (refine wpList_str rfl (.tmp 27) (.tmp 30) rfl (w.heap.size + 2) u4 (ws k) ⟨#[115, 116, 97, 116, 101, 109, 97, 99, 104, 105, 110, 101]⟩ rfl (O3.out.alloc _) w3.heap.size rfl (by simp) (by omega) (by rw [World.size_alloc]; omega) ?_); intro v' w6 ho6 hb6; have O6 := Lib.hid ho6; have B6 := Lib.hid ((BB3.out.alloc hs3 _).trans hb6); clear ho6 hb6)
          have O7 : Hid (OwnS w6 (w.heap.size + 2) v' (ws (k + 1))) := by show OwnS _ _ _ _; rw [E.out]; exact O6.out
          go_roundw
          case rel => exact ⟨k + 1, by omega, by go_num, O7, B6⟩
          case measure => simp [intOf]; omega
      · as_aux_lemma =>
        have HK := Lib.hid h
        have d0 : wo.cell? ⟨w.heap.size + 1, k * 2, none⟩ = some (.string ⟨#[109, 97, 114, 107, 101, 100, 103, 114, 97, 112, 104]⟩) := by rw [ARk.out _ (by omega), h]; rfl
        have d1 : wo.cell? ⟨w.heap.size + 1, k * 2 + 1, none⟩ = some (.func (.func 18) #[] #[]) := by rw [ARk.out _ (by omega), h]; rfl
        clear h hcase ARk
        go_wp2_with fail
        refine (P6.out _ (BT.out _)).mono ?_
        rintro e w3 ⟨rfl, K⟩
        have pcell : w3.cell? ⟨wo.heap.size, 0, none⟩ = some (.string ⟨#[109, 97, 114, 107, 101, 100, 103, 114, 97, 112, 104]⟩) := (K.cell (by simp)).trans (by simp)
        have BB3 := Lib.hid ((BT2.out _).trans (K.mono (by rw [World.size_alloc]; omega)))
        have O3 := Lib.hid ((OW.out.alloc _).below K)
        have hs3 : w.heap.size + 2 ≤ w3.heap.size := by have := K.size; rw [World.size_alloc] at this; omega
        clear K c0 c1 c2 c0' c1' c2' d0 d1 BT BT2 OW
        cases hp : p6
        · have E : Hid (ws k = ws (k + 1)) := by show _ = _; rw [HK.out]; exact (Z6.out hp).symm
          have O4 : Hid (OwnS w3 (w.heap.size + 2) u4 (ws (k + 1))) := by show OwnS _ _ _ _; rw [← E.out]; exact O3.out
          clear hp
          go_wp2
          go_roundw
          case rel => exact ⟨k + 1, by omega, by go_num, O4, BB3⟩
          case measure => simp [intOf]; omega
        · have E : Hid (ws (k + 1) = ws k ++ [⟨#[109, 97, 114, 107, 101, 100, 103, 114, 97, 112, 104]⟩]) := by show _ = _; rw [HK.out]; exact Y6.out hp
          clear hp
          go_wp2_with (at_builtin; go_loud (refine wpList_str rfl (.tmp 27) (.tmp 30) rfl (w.heap.size + 2) u4 (ws k) ⟨#[109, 97, 114, 107, 101, 100, 103, 114, 97, 112, 104]⟩ rfl (O3.out.alloc _) w3.heap.size rfl (by simp) (by omega) (by rw [World.size_alloc]; omega) ?_); intro v' w6 ho6 hb6; have O6 := Lib.hid ho6; have B6 := Lib.hid ((BB3.out.alloc hs3 _).trans hb6); clear ho6 hb6)
          have O7 : Hid (OwnS w6 (w.heap.size + 2) v' (ws (k + 1))) := by show OwnS _ _ _ _; rw [E.out]; exact O6.out
          go_roundw
          case rel => exact ⟨k + 1, by omega, by go_num, O7, B6⟩
          case measure => simp [intOf]; omega
      · as_aux_lemma =>
        have HK := Lib.hid h
        have d0 : wo.cell? ⟨w.heap.size + 1, k * 2, none⟩ = some (.string ⟨#[102, 114, 101, 101, 99, 104, 111, 105, 99, 101]⟩) := by rw [ARk.out _ (by omega), h]; rfl
        have d1 : wo.cell? ⟨w.heap.size + 1, k * 2 + 1, none⟩ = some (.func (.func 20) #[] #[]) := by rw [ARk.out _ (by omega), h]; rfl
        clear h hcase ARk
        go_wp2_with fail
        refine (P7.out _ (BT.out _)).mono ?_
        rintro e w3 ⟨rfl, K⟩
        have pcell : w3.cell? ⟨wo.heap.size, 0, none⟩ = some (.string ⟨#[102, 114, 101, 101, 99, 104, 111, 105, 99, 101]⟩) := (K.cell (by simp)).trans (by simp)
        have BB3 := Lib.hid ((BT2.out _).trans (K.mono (by rw [World.size_alloc]; omega)))
        have O3 := Lib.hid ((OW.out.alloc _).below K)
        have hs3 : w.heap.size + 2 ≤ w3.heap.size := by have := K.size; rw [World.size_alloc] at this; omega
        clear K c0 c1 c2 c0' c1' c2' d0 d1 BT BT2 OW
        cases hp : p7
        · have E : Hid (ws k = ws (k + 1)) := by show _ = _; rw [HK.out]; exact (Z7.out hp).symm
          have O4 : Hid (OwnS w3 (w.heap.size + 2) u4 (ws (k + 1))) := by show OwnS _ _ _ _; rw [← E.out]; exact O3.out
          clear hp
          go_wp2
          go_roundw
          case rel => exact ⟨k + 1, by omega, by go_num, O4, BB3⟩
          case measure => simp [intOf]; omega
        · have E : Hid (ws (k + 1) = ws k ++ [⟨#[102, 114, 101, 101, 99, 104, 111, 105, 99, 101]⟩]) := by show _ = _; rw [HK.out]; exact Y7.out hp
          clear hp
          go_wp2_with (at_builtin; go_loud (refine wpList_str rfl (.tmp 27) (.tmp 30) rfl (w.heap.size + 2) u4 (ws k) ⟨#[102, 114, 101, 101, 99, 104, 111, 105, 99, 101]⟩ rfl (O3.out.alloc _) w3.heap.size rfl (by simp) (by omega) (by rw [World.size_alloc]; omega) ?_); intro v' w6 ho6 hb6; have O6 := Lib.hid ho6; have B6 := Lib.hid ((BB3.out.alloc hs3 _).trans hb6); clear ho6 hb6)
          have O7 : Hid (OwnS w6 (w.heap.size + 2) v' (ws (k + 1))) := by show OwnS _ _ _ _; rw [E.out]; exact O6.out
          go_roundw
          case rel => exact ⟨k + 1, by omega, by go_num, O7, B6⟩
          case measure => simp [intOf]; omega
      · as_aux_lemma =>
        have HK := Lib.hid h
        have d0 : wo.cell? ⟨w.heap.size + 1, k * 2, none⟩ = some (.string ⟨#[97, 115, 121, 109, 109, 101, 116, 114, 105, 99]⟩) := by rw [ARk.out _ (by omega), h]; rfl
        have d1 : wo.cell? ⟨w.heap.size + 1, k * 2 + 1, none⟩ = some (.func (.func 22) #[] #[]) := by rw [ARk.out _ (by omega), h]; rfl
        clear h hcase ARk
        go_wp2_with fail
        refine (P8.out _ (BT.out _)).mono ?_
        rintro e w3 ⟨rfl, K⟩
        have pcell : w3.cell? ⟨wo.heap.size, 0, none⟩ = some (.string ⟨#[97, 115, 121, 109, 109, 101, 116, 114, 105, 99]⟩) := (K.cell (by simp)).trans (by simp)
        have BB3 := Lib.hid ((BT2.out _).trans (K.mono (by rw [World.size_alloc]; omega)))
        have O3 := Lib.hid ((OW.out.alloc _).below K)
        have hs3 : w.heap.size + 2 ≤ w3.heap.size := by have := K.size; rw [World.size_alloc] at this; omega
        clear K c0 c1 c2 c0' c1' c2' d0 d1 BT BT2 OW
        cases hp : p8
        · have E : Hid (ws k = ws (k + 1)) := by show _ = _; rw [HK.out]; exact (Z8.out hp).symm
          have O4 : Hid (OwnS w3 (w.heap.size + 2) u4 (ws (k + 1))) := by show OwnS _ _ _ _; rw [← E.out]; exact O3.out
          clear hp
          go_wp2
          go_roundw
          case rel => exact ⟨k + 1, by omega, by go_num, O4, BB3⟩
          case measure => simp [intOf]; omega
        · have E : Hid (ws (k + 1) = ws k ++ [⟨#[97, 115, 121, 109, 109, 101, 116, 114, 105, 99]⟩]) := by show _ = _; rw [HK.out]; exact Y8.out hp
          clear hp
          go_wp2_with (at_builtin; go_loud (refine wpList_str rfl (.tmp 27) (.tmp 30) rfl (w.heap.size + 2) u4 (ws k) ⟨#[97, 115, 121, 109, 109, 101, 116, 114, 105, 99]⟩ rfl (O3.out.alloc _) w3.heap.size rfl (by simp) (by omega) (by rw [World.size_alloc]; omega) ?_); intro v' w6 ho6 hb6; have O6 := Lib.hid ho6; have B6 := Lib.hid ((BB3.out.alloc hs3 _).trans hb6); clear ho6 hb6)
          have O7 : Hid (OwnS w6 (w.heap.size + 2) v' (ws (k + 1))) := by show OwnS _ _ _ _; rw [E.out]; exact O6.out
          go_roundw
          case rel => exact ⟨k + 1, by omega, by go_num, O7, B6⟩
          case measure => simp [intOf]; omega
    · obtain rfl : k = 9 := by omega
      obtain ⟨A, c, ev, R⟩ := OW.out.reads
      subst ev
      have R := Lib.hid R
      have BF := Lib.hid (BW.out _ BB.out)
      clear OW AR NB lw
      go_wp2
      go_ret
      exact ⟨A, c, rfl, R.out, BF.out⟩
set_option maxHeartbeats 4000000 in
set_option maxRecDepth 100000 in
theorem same48_any (A B : Option Addr) (L : List ByteArray) (ca cb : Nat) (w : World) (ra : RdS w A L) (rb : RdS w B L) (hl : L.length ≤ 1000) :
    Calls Tryz.prog 29 #[.slice A L.length ca, .slice B L.length cb] w (VPost w.heap.size w (.bool true)) := by
  have RA := Lib.hid ra
  have RB := Lib.hid rb
  have B0 : Hid (Below w.heap.size w w) := Below.refl _ _
  clear ra rb
  generalize hn : L.length = n at *
  have HN := Lib.hid hn
  clear hn
  have e1 : ((n : Int) != (n : Int)) = false := by simp
  go_enter Tryz.func29, Tryz.ntmps29
  go_wp2_with fail
  go_loopw [5] (fun q wr => ∃ k : Nat, k ≤ n ∧ q = .int .i64 k ∧ Hid (Below w.heap.size w wr)) (fun q _ => n - (intOf q).toNat)
  case atStart => exact ⟨0, by omega, rfl, B0⟩
  case round =>
    clear B0
    obtain ⟨k, hk, rfl, BB⟩ := hrel
    by_cases hlt : k < n
    · obtain ⟨ba, oa, rfl, _, c1⟩ := (RA.out.below BB.out) k (by rw [HN.out]; exact hlt)
      obtain ⟨bb, ob, rfl, _, c2⟩ := (RB.out.below BB.out) k (by rw [HN.out]; exact hlt)
      have B2 := Lib.hid BB.out.drew
      generalize at1 L k = z at *
      go_wp2
      go_region
      generalize wr.drew = wd at *
      go_wp2
      go_roundw
      case rel => exact ⟨k + 1, by omega, by go_num, B2⟩
      case measure => simp [intOf]; omega
    · go_wp2
      go_ret
      exact ⟨rfl, BB.out⟩
theorem ring_ok (a b c d : Nat) : okN (ringV a b c d) = true := by kernel_rfl
theorem ring_con (a b c d : Nat) : coN (ringV a b c d) = true := by kernel_rfl
theorem ring_pure (a b c d : Nat) : puN (ringV a b c d) = false := by kernel_rfl
theorem ring_words (a b c d : Nat) : wordsTo (ringV a b c d) 9 = [⟨#[112, 108, 97, 105, 110]⟩, ⟨#[111, 114, 100, 105, 110, 97, 114, 121]⟩, ⟨#[99, 111, 110, 110, 101, 99, 116, 101, 100]⟩, ⟨#[115, 116, 114, 111, 110, 103]⟩, ⟨#[115, 116, 97, 116, 101, 109, 97, 99, 104, 105, 110, 101]⟩, ⟨#[109, 97, 114, 107, 101, 100, 103, 114, 97, 112, 104]⟩, ⟨#[102, 114, 101, 101, 99, 104, 111, 105, 99, 101]⟩, ⟨#[97, 115, 121, 109, 109, 101, 116, 114, 105, 99]⟩] := by kernel_rfl
set_option maxHeartbeats 4000000 in
set_option maxRecDepth 100000 in
theorem alive_any (w : World) : Calls Tryz.prog 8 #[] w (VPost w.heap.size w (.bool true)) := by
  have CR := Lib.hid ring_any
  go_enter Tryz.func8, Tryz.ntmps8
  go_wp2_with fail
  refine (CR.out _).mono ?_
  rintro e w1 ⟨a, b, c, d, rfl, N1, K1⟩
  have CW := Lib.hid (words_any (ringV a b c d) w1 N1)
  rw [ring_words] at CW
  have K1 := Lib.hid K1
  clear N1
  go_wp2_with fail
  refine CW.out.mono ?_
  rintro e w2 ⟨A2, c2, rfl, R2, K2⟩
  have B2 := Lib.hid (K1.out.trans (K2.mono K1.out.size))
  obtain ⟨w3, hw3⟩ : ∃ w3, w3 = w2.alloc (.cells #[.string ⟨#[112, 108, 97, 105, 110]⟩, .string ⟨#[111, 114, 100, 105, 110, 97, 114, 121]⟩, .string ⟨#[99, 111, 110, 110, 101, 99, 116, 101, 100]⟩, .string ⟨#[115, 116, 114, 111, 110, 103]⟩, .string ⟨#[115, 116, 97, 116, 101, 109, 97, 99, 104, 105, 110, 101]⟩, .string ⟨#[109, 97, 114, 107, 101, 100, 103, 114, 97, 112, 104]⟩, .string ⟨#[102, 114, 101, 101, 99, 104, 111, 105, 99, 101]⟩, .string ⟨#[97, 115, 121, 109, 109, 101, 116, 114, 105, 99]⟩] 9) := ⟨_, rfl⟩
  have B3 : Hid (Below w.heap.size w w3) := by show Below _ _ _; rw [hw3]; exact B2.out.alloc B2.out.size _
  have CS := Lib.hid (same48_any A2 (some ⟨w2.heap.size, 0, none⟩) [⟨#[112, 108, 97, 105, 110]⟩, ⟨#[111, 114, 100, 105, 110, 97, 114, 121]⟩, ⟨#[99, 111, 110, 110, 101, 99, 116, 101, 100]⟩, ⟨#[115, 116, 114, 111, 110, 103]⟩, ⟨#[115, 116, 97, 116, 101, 109, 97, 99, 104, 105, 110, 101]⟩, ⟨#[109, 97, 114, 107, 101, 100, 103, 114, 97, 112, 104]⟩, ⟨#[102, 114, 101, 101, 99, 104, 111, 105, 99, 101]⟩, ⟨#[97, 115, 121, 109, 109, 101, 116, 114, 105, 99]⟩] c2 8 w3 (by rw [hw3]; exact R2.below ((Below.refl _ _).alloc (Nat.le_refl _) _)) (fun j hj => ⟨w2.heap.size, 0, rfl, by rw [hw3]; simp, by
    rw [hw3, Nat.zero_add, World.cell?_alloc_new]
    have hj : j < 8 := hj
    match j, hj with
    | 0, _ => rfl
    | 1, _ => rfl
    | 2, _ => rfl
    | 3, _ => rfl
    | 4, _ => rfl
    | 5, _ => rfl
    | 6, _ => rfl
    | 7, _ => rfl⟩) (by decide))
  have HW3 := Lib.hid hw3
  clear hw3 R2 K2 CW
  go_wp2_with fail
  rw [← HW3.out]
  refine CS.out.mono ?_
  rintro e w4 ⟨rfl, K4⟩
  have B4 := Lib.hid (B3.out.trans (K4.mono B3.out.size))
  clear K4 CS
  go_wp2_with fail
  refine (CR.out _).mono ?_
  rintro e w5 ⟨a5, b5, c5, d5, rfl, N5, K5⟩
  have CC := Lib.hid (coN_any (ringV a5 b5 c5 d5) w5 N5)
  rw [ring_con] at CC
  have B5 := Lib.hid (B4.out.trans (K5.mono B4.out.size))
  clear N5 K5
  go_wp2_with fail
  refine CC.out.mono ?_
  rintro e w6 ⟨rfl, K6⟩
  have B6 := Lib.hid (B5.out.trans (K6.mono B5.out.size))
  clear K6 CC
  go_wp2_with fail
  refine (CR.out _).mono ?_
  rintro e w7 ⟨a7, b7, c7, d7, rfl, N7, K7⟩
  have CP := Lib.hid (puN_any (ringV a7 b7 c7 d7) w7 N7)
  rw [ring_pure] at CP
  have B7 := Lib.hid (B6.out.trans (K7.mono B6.out.size))
  clear N7 K7
  go_wp2_with fail
  refine CP.out.mono ?_
  rintro e w8 ⟨rfl, K8⟩
  have B8 := Lib.hid (B7.out.trans (K8.mono B7.out.size))
  clear K8 CP
  go_wp2
  go_ret
  exact ⟨rfl, B8.out⟩
end Go.Proofs.YtlbcdnobpnllkaaGreat
