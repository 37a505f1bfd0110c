/- Event logs: Parse of the reference. -/
import Derived.Test.YtgjgohnomophnaaDoorEP
import Derived.Test.YtgjgohnomophnaaDoorEQ
namespace Go.Proofs.YtgjgohnomophnaaDoor
open Go.RowKit

/-- one row is appended -/
theorem wpList_rowG {ops : Array Oper} {rest : List Oper} {o : Oper} {a : Act} {w : World} {Q : Exit → Act → World → Prop} (hgd : o.guard = none) (s x : Operand)
    (ho : o.op = .call { callee := .builtin .append, args := #[s, x], argTypes := #[22, 22] })
    (base : Nat) (v : Value) (L : List Row) (r : Row) (hs : a.eval s = v) (hO : OwnG w base v L) (g : Nat) (hx : a.eval x = .slice (some ⟨g, 0, none⟩) 1 1)
    (hc : w.cell? ⟨g, 0, none⟩ = some r.v) (hr : FarG w base r) (hl : L.length ≤ 100000) (hbase : base ≤ w.heap.size)
    (h : ∀ v' w', OwnG w' base v' (L ++ [r]) → Below base w w' → wpList Tryd.prog ops Q rest (a.put o.dst v') w') : wpList Tryd.prog ops Q (o :: rest) a w := by
  obtain ⟨i, hi, hz, h1, h2⟩ := info_parts infoR
  refine wpList_append_own _ hgd s x 22 ho base 41 i (.slice none 0 0) 1 24 Tryd.underlying22 hi hz h1 h2 rfl (by decide) v L.length (L.map Row.v) hs hO.1 ⟨g, 0, none⟩ 1 1 [r.v] hx rfl ?_ ?_ (by unfold maxLen; omega) (by omega) hbase ?_
  · intro j u hj
    cases j with
    | zero => simp at hj; subst hj; simpa [Addr.add] using hc
    | succ j => simp at hj
  · intro u hu
    simp at hu
    subst hu
    simp [Value.oneCell', Row.v]
  · intro v' w' hown hgrow _
    refine h v' w' (ownG_snoc hO r hr hgrow hown) ((Below.refl base w).grown hgrow hbase fun q e => ?_)
    rcases hO.1.2 with ⟨e1, _⟩ | ⟨g', cap, cur, e1, hb, _⟩
    · rw [e1] at e; cases e
    · rw [e1] at e
      have : q = g' := by simpa [Value.ownBlock] using e.symm
      omega
theorem ppost_bad {g : Nat} {w W : World} {r : List (List Txt) × Int × Nat} {e : Int} {k : Nat} (h : r = ([], e, k + 1)) (hb : Below g w W) : PPost g w r (.returned (.tuple #[.slice none 0 0, .agg #[.int .i64 e, .int .i64 ((k : Int) + 1)]])) W := by
  subst h
  exact ⟨none, 0, [], by simp [flt], rfl, ReadsL.nil _ _, hb⟩
theorem take_atS {P : List Txt} {k : Nat} (hk : k < P.length) : P.take (k + 1) = P.take k ++ [atS P k] := by
  unfold atS
  rw [List.take_succ_eq_append_getElem hk, List.getElem?_eq_getElem hk]
  rfl
theorem below2 {g : Nat} {w W : World} {o o' : Nat} {x y : Value} (h : Below g w W) : Below g w ((W.setCell ⟨g, o, none⟩ x).setCell ⟨g, o', none⟩ y) :=
  (h.setCell (p := ⟨g, o, none⟩) (Nat.le_refl _) _).setCell (p := ⟨g, o', none⟩) (Nat.le_refl _) _
theorem keep2 (W : World) (g o o' : Nat) (x y : Value) : KeepOn (fun b => b ≠ g) W ((W.setCell ⟨g, o, none⟩ x).setCell ⟨g, o', none⟩ y) :=
  (KeepOn.set W _ _ (by simp)).trans (KeepOn.set _ _ _ (by simp))
theorem ppost_ok {g s : Nat} {w W : World} {r : List (List Txt) × Int × Nat} {v : Value} {L : List Row} (h : r = (rowsL L, 0, 0)) (ho : OwnG W s v L) (hs : g < s) (hb : Below g w W) :
    PPost g w r (.returned (.tuple #[v, .agg #[.int .i64 0, .int .i64 0]])) ((W.setCell ⟨g, 0, none⟩ (.int .i64 0)).setCell ⟨g, 1, none⟩ (.int .i64 0)) := by
  subst h
  obtain ⟨A, c, rfl, R⟩ := (ho.keep (keep2 W g 0 1 (.int .i64 0) (.int .i64 0)) fun b hb => by omega).reads
  exact ⟨A, c, L, rfl, rfl, R, below2 hb⟩

set_option maxHeartbeats 4000000 in
set_option maxRecDepth 100000 in
theorem rparse_in (s : Txt) (hs : ¬ 65536 < s.length) (w : World) :
    Calls Tryd.prog 18 #[.string ⟨s.toArray⟩] w (PPost w.heap.size w (parseF [] 0 (pieces 10 s))) := by
  have e3 : ((65536 : Int) < (s.length : Int)) = False := by simp; omega
  have CS := Lib.hid (rsplit_law 10 s (by omega) (w.alloc (.cells #[.int .i64 0, .int .i64 0] 27)))
  have PS := Lib.hid (fun x (h : x ∈ pieces 10 s) => pieces_size 10 s x h)
  have PL := Lib.hid (pieces_length 10 s)
  generalize pieces 10 s = P at *
  have HBD : Hid (∀ k L, k < P.length → InvP (P.take k) (rowsL L) → lineE (rowsL L) (atS P k) ≠ 0 → parseF [] 0 P = ([], lineE (rowsL L) (atS P k), k + 1)) := fun k L hk h he => by
    have h2 := InvP.bad h he (L := P) (by rw [← take_atS hk]; exact List.take_prefix _ _)
    rw [h2, List.length_take, Nat.min_eq_left (by omega)]
  have HDN : Hid (∀ k L, ¬ k < P.length → InvP (P.take k) (rowsL L) → parseF [] 0 P = (rowsL L, 0, 0)) := fun k L hk h => by
    rw [List.take_of_length_le (by omega)] at h
    exact h.done
  have HST : Hid (∀ k L, k < P.length → InvP (P.take k) (rowsL L) → lineE (rowsL L) (atS P k) = 0 → InvP (P.take (k + 1)) (lineN (rowsL L) (atS P k))) := fun k L hk h he => by
    rw [take_atS hk]; exact h.step he
  generalize parseF [] 0 P = RES at *
  have hF0 := FBx.new w 0 0
  have hB0 : Below w.heap.size w (w.alloc (.cells #[.int .i64 0, .int .i64 0] 27)) := (Below.refl _ _).alloc (Nat.le_refl _) _
  have hS0 : (w.alloc (.cells #[.int .i64 0, .int .i64 0] 27)).heap.size = w.heap.size + 1 := World.size_alloc _ _
  go_enter Tryd.func18, Tryd.ntmps18
  go_wp2_with fail
  refine CS.out.mono ?_
  rintro e w1 ⟨v, rfl, o1, k1⟩
  obtain ⟨A, c, rfl, R1⟩ := ReadsS.own o1
  replace R1 := Lib.hid R1
  rw [hS0] at k1
  have hF1 : FBx w1 w.heap.size 0 0 := (k1.block _ (by omega)).trans hF0
  have hB1 : Below w.heap.size w w1 := hB0.trans (k1.mono (by omega))
  have hw1 : w.heap.size < w1.heap.size := hF1.lt
  obtain ⟨g1, hg1⟩ : ∃ g1, g1 = w1.heap.size := ⟨_, rfl⟩
  rw [← hg1] at hw1
  have HG1 := Lib.hid hg1
  have HF : Hid (∀ W, Below g1 w1 W → FBx W w.heap.size 0 0) := fun W h => (h.block _ hw1).trans hF1
  have HW2 : Hid (∀ W, Below g1 w1 W → Below w.heap.size w W) := fun W h => hB1.trans (h.mono (by omega))
  clear o1 k1 hg1 CS hF1 hB1 hF0 hB0 hS0
  go_wp2
  go_loopg [5, 6] P.length (fun gg v q wr => ∃ (k : Nat) (L : List Row), gg = P.length - k ∧ k ≤ P.length ∧ q = .int .i64 k ∧ Hid (OwnG wr g1 v L) ∧ Hid (InvP (P.take k) (rowsL L)) ∧ L.length ≤ 64 ∧ Hid (Below g1 w1 wr))
  case atStart => exact ⟨0, [], rfl, Nat.zero_le _, rfl, OwnG.nil _ _, InvP.nil, Nat.zero_le _, Below.refl _ _⟩
  case round =>
    obtain ⟨k, L, hgg', hk, rfl, O, HI, hL64, BW0⟩ := hrel
    obtain ⟨vA, vc, rfl, -⟩ := O.out.reads
    obtain ⟨wo, hwo⟩ : ∃ wo, wo = wr := ⟨_, rfl⟩
    subst hwo
    have gs := BW0.out.size
    have hpl := PL.out
    have hkb : k ≤ 70000 := by omega
    clear hpl
    by_cases hlt : k < P.length
    · obtain ⟨b, off, rfl, hb, hc⟩ := R1.out k hlt
      have q1 : wo.cell? ⟨b, off + k, none⟩ = some (.string ⟨(atS P k).toArray⟩) := (BW0.out.cell (p := ⟨b, off + k, none⟩) (by rw [HG1.out]; exact hb)).trans hc
      have hxl : (atS P k).length ≤ 65536 := Nat.le_trans (PS.out _ (atS_mem hlt)) (by omega)
      have CW := Lib.hid (rwords_any (atS P k) (by omega) wo)
      have WN : (wordsL (atS P k)).length ≤ 70000 := Nat.le_trans (wordsL_len _) (by omega)
      have WX := Lib.hid (fun j (hj : j < (wordsL (atS P k)).length) => (mem_pieces_neL (atS_mem hj)).1)
      have hBD := HBD.out k L hlt HI.out
      have hST := HST.out k L hlt HI.out
      have HLR : (rowsL L).length = L.length := rowsL_len L
      by_cases hw : wordsL (atS P k) = []
      · have H2 := hST (lineE_none hw)
        rw [lineN_none hw] at H2
        replace H2 := Lib.hid H2
        rw [hw] at CW
        clear hBD hST WX WN hw HLR
        generalize atS P k = x at *
        go_wp2_with fail
        refine CW.out.mono ?_
        rintro e w2 ⟨v2, rfl, o2, k2⟩
        obtain ⟨A2, c2, rfl, -⟩ := ReadsS.own o2
        have O2 := Lib.hid (O.out.keep (KeepOn.of_below (fun _ => True) k2) fun _ _ => trivial)
        have BW : Hid (Below g1 w1 w2) := BW0.out.trans (k2.mono (by have := HG1.out; omega))
        clear o2 k2
        go_wp2
        go_roundg (P.length - (k + 1))
        case rel => exact ⟨k + 1, L, rfl, by omega, by go_num, O2.out, H2.out, hL64, BW.out⟩
        case measure => omega
      ·
        have HE : Hid (∀ z, lineE (rowsL L) (atS P k) = z → z ≠ 0 → RES = ([], z, k + 1)) := fun z h hz => by
          have h2 := hBD (by rw [h]; exact hz)
          rw [h] at h2; exact h2
        by_cases hd : wordsL (atS P k) = [[45]]
        · have ht : trE (wordsL (atS P k)) = 0 := by rw [hd]; rfl
          have H2b : Hid (L.length = 64 → RES = ([], 2, k + 1)) := fun h => HE.out 2 (lineE_full hw ht (by rw [HLR]; exact h)) (by decide)
          have HOK : Hid (L.length ≠ 64 → InvP (P.take (k + 1)) (rowsL L ++ [[]])) := fun h => by
            have h2 := hST (lineE_ok hw ht (by rw [HLR]; exact h))
            rw [lineN_some hw, hd] at h2
            exact h2
          rw [hd] at CW
          clear hBD hST WX WN hw HLR HE ht hd
          generalize atS P k = x at *
          go_wp2_with fail
          refine CW.out.mono ?_
          rintro e w2 ⟨v2, rfl, o2, k2⟩
          obtain ⟨A2, c2, rfl, R2⟩ := ReadsS.own o2
          have HG1' := HG1.out
          have O2 := Lib.hid (O.out.keep (KeepOn.of_below (fun _ => True) k2) fun _ _ => trivial)
          have BW : Hid (Below g1 w1 w2) := BW0.out.trans (k2.mono (by omega))
          have HS2 : Hid (g1 ≤ w2.heap.size) := by have := k2.size; show _ ≤ _; omega
          obtain ⟨b2, off2, rfl, hb2, q0⟩ := R2 0 (by simp)
          have q0 : w2.cell? ⟨b2, off2, none⟩ = some (.string ⟨#[45]⟩) := q0
          have FR : Hid (FarG w2 g1 ⟨none, [], 0⟩) := ⟨⟨ReadsS.nil _ _, by simp⟩, fun h => absurd rfl h⟩
          clear R2 o2 k2 HG1'
          go_wp2
          go_loopg [8] 0 (fun gg q wr => gg = 0 ∧ q = .int .i64 0 ∧ w2 = wr)
          case atStart => exact ⟨rfl, rfl, rfl⟩
          case round =>
            obtain ⟨hgg2, rfl, rfl⟩ := hrel
            by_cases hL : L.length = 64
            · have e64 : ((L.length : Int) == 64) = true := by simp; omega
              have EQ := Lib.hid (H2b.out hL)
              replace hL := Lib.hid hL
              have F2 := HF.out w2 BW.out
              have a0 := F2.c0
              have a1 := F2.fr
              have a2 := (F2.set0 2).c1
              have a3 := (F2.set0 2).fr 1
              have r0 := ((F2.set0 2).set1 ((k : Int) + 1)).c0
              have r1 := ((F2.set0 2).set1 ((k : Int) + 1)).c1
              go_wp2
              exact bodyPost_ret (v := .tuple #[.slice none 0 0, .agg #[.int .i64 2, .int .i64 ((k : Int) + 1)]]) (by simp [results, Tryd.results18, go_sem, r0, r1]) rfl (ppost_bad EQ.out (below2 (HW2.out w2 BW.out)))
            ·
              have HI2 := Lib.hid (HOK.out hL)
              have e64 : ((L.length : Int) == 64) = false := by simp; omega
              have b1 : L.length ≤ 100000 := by omega
              have hl1 : L.length + 1 ≤ 64 := by omega
              have s2 := HS2.out
              go_wp2_with (at_builtin; go_loud (refine wpList_rowG rfl (.tmp 64) (.tmp 66) rfl g1 _ L ⟨none, [], 0⟩ rfl (O2.out.keep (KeepOn.alloc (S := fun _ => True) _ _) fun _ _ => trivial) w2.heap.size rfl (cell_new1 _ _ _) (FR.out.keep (KeepOn.alloc (S := fun _ => True) _ _) fun _ _ => trivial) b1 (by rw [World.size_alloc]; omega) ?_); intro v' w5 o5 k5)
              have B5 : Hid (Below g1 w1 w5) := (BW.out.alloc s2 _).trans k5
              replace o5 := Lib.hid o5
              clear k5
              go_roundg (P.length - (k + 1))
              case rel => exact ⟨k + 1, L ++ [(⟨none, [], 0⟩ : Row)], rfl, by omega, by go_num, o5, by (show InvP _ _; rw [rowsL_snoc]; exact HI2.out), by rw [List.length_append]; exact hl1, B5.out⟩
              case measure => omega

        · have H11 : Hid (∀ j, j < (wordsL (atS P k)).length → nmB (atS (wordsL (atS P k)) j) = false → RES = ([], 11, k + 1)) := fun j hj h => by
            have e := trE_bad hd j hj h
            exact HE.out 11 ((lineE_bad hw (by rw [e]; decide)).trans e) (by decide)
          have H2a : Hid ((∀ j, j < (wordsL (atS P k)).length → nmB (atS (wordsL (atS P k)) j) = true) → 64 < (wordsL (atS P k)).length → RES = ([], 2, k + 1)) := fun h h2 => by
            have e := trE_long hd h h2
            exact HE.out 2 ((lineE_bad hw (by rw [e]; decide)).trans e) (by decide)
          have H2b : Hid ((∀ j, j < (wordsL (atS P k)).length → nmB (atS (wordsL (atS P k)) j) = true) → ¬ 64 < (wordsL (atS P k)).length → L.length = 64 → RES = ([], 2, k + 1)) := fun h h2 h3 => HE.out 2 (lineE_full hw (trE_ok hd h h2) (by rw [HLR]; exact h3)) (by decide)
          have HOK : Hid ((∀ j, j < (wordsL (atS P k)).length → nmB (atS (wordsL (atS P k)) j) = true) → ¬ 64 < (wordsL (atS P k)).length → L.length ≠ 64 → InvP (P.take (k + 1)) (rowsL L ++ [wordsL (atS P k)])) := fun h h2 h3 => by
            have h4 := hST (lineE_ok hw (trE_ok hd h h2) (by rw [HLR]; exact h3))
            rw [lineN_some hw, trL_no hd] at h4
            exact h4
          have l0 : 0 < (wordsL (atS P k)).length := List.length_pos_iff.2 hw
          have HD : Hid ((wordsL (atS P k)).length = 1 → atS (wordsL (atS P k)) 0 ≠ [45]) := fun h h2 => hd (one_dash h h2)
          clear hBD hST hw HLR HE hd
          generalize wordsL (atS P k) = ws at *
          generalize atS P k = x at *
          have ez : ((ws.length : Int) == 0) = false := by simp; intro h; rw [h] at l0; cases l0
          by_cases h1 : ws.length = 1
          · have e1 : ((ws.length : Int) == 1) = true := by simp; omega
            have hz := HD.out h1
            have e0 : (atS ws 0 == [45]) = false := by simpa using hz
            clear hz h1
            go_wp2_with fail
            refine CW.out.mono ?_
            rintro e w2 ⟨v2, rfl, o2, k2⟩
            obtain ⟨A2, c2, rfl, R2⟩ := ReadsS.own o2
            have HG1' := HG1.out
            have O2 := Lib.hid (O.out.keep (KeepOn.of_below (fun _ => True) k2) fun _ _ => trivial)
            have BW : Hid (Below g1 w1 w2) := BW0.out.trans (k2.mono (by omega))
            have HS2 : Hid (g1 ≤ w2.heap.size) := by have := k2.size; show _ ≤ _; omega
            obtain ⟨b2, off2, rfl, hb2, q0⟩ := R2 0 l0
            have q0 : w2.cell? ⟨b2, off2, none⟩ = some (.string ⟨(atS ws 0).toArray⟩) := q0
            have RD : Hid (∀ j, j < ws.length → w2.cell? ⟨b2, off2 + j, none⟩ = some (.string ⟨(atS ws j).toArray⟩)) := fun j hj => by
              obtain ⟨b', off', e, _, h⟩ := R2 j hj
              cases e
              exact h
            have FR : Hid (FarG w2 g1 ⟨some ⟨b2, off2, none⟩, ws, c2⟩) := FarG.own (own_mono o2 (by have := BW0.out.size; omega)) (by omega)
            clear R2 o2 k2 HG1'
            go_wp2
            go_loopg [8] ws.length (fun gg q wr => ∃ j : Nat, gg = ws.length - j ∧ j ≤ ws.length ∧ q = .int .i64 j ∧ Hid (∀ i, i < j → nmB (atS ws i) = true) ∧ w2 = wr)
            case atStart => exact ⟨0, rfl, Nat.zero_le _, rfl, fun i hi => absurd hi (by omega), rfl⟩
            case round =>
              obtain ⟨j, hgg2, hj, rfl, HA, rfl⟩ := hrel
              by_cases hjl : j < ws.length
              · have q2 := RD.out j hjl
                have hxj := WX.out j hjl
                have CN := rname_any ⟨(atS ws j).toArray⟩ w2 (by unfold maxLen; simp [ByteArray.size]; omega)
                have H11j := Lib.hid (H11.out j hjl)
                by_cases hnm : nmB (atS ws j) = true
                · have CN : Hid (Calls Tryd.prog 14 #[.string ⟨(atS ws j).toArray⟩] w2 fun e w' => e = .returned (.bool true) ∧ w2 = w') := by rw [← hnm]; exact CN
                  have HA1 : Hid (∀ i, i < j + 1 → nmB (atS ws i) = true) := fun i hi => by
                    by_cases e : i = j
                    · rw [e]; exact hnm
                    · exact HA.out i (by omega)
                  clear hnm H11j hxj
                  generalize atS ws j = y at *
                  go_wp2_with fail
                  refine CN.out.mono ?_
                  rintro e w3 ⟨rfl, rfl⟩
                  go_wp2
                  go_roundg (ws.length - (j + 1))
                  case rel => exact ⟨j + 1, rfl, by omega, by go_num, HA1.out, rfl⟩
                  case measure => omega
                · have hnm : nmB (atS ws j) = false := by simpa using hnm
                  have EQ := Lib.hid (H11j.out hnm)
                  have CN : Hid (Calls Tryd.prog 14 #[.string ⟨(atS ws j).toArray⟩] w2 fun e w' => e = .returned (.bool false) ∧ w2 = w') := by rw [← hnm]; exact CN
                  clear hnm H11j hxj
                  generalize atS ws j = y at *
                  have F2 := HF.out w2 BW.out
                  have a0 := F2.c0
                  have a1 := F2.fr
                  have a2 := (F2.set0 11).c1
                  have a3 := (F2.set0 11).fr 1
                  have r0 := ((F2.set0 11).set1 ((k : Int) + 1)).c0
                  have r1 := ((F2.set0 11).set1 ((k : Int) + 1)).c1
                  go_wp2_with fail
                  refine CN.out.mono ?_
                  rintro e w3 ⟨rfl, rfl⟩
                  go_wp2
                  exact bodyPost_ret (v := .tuple #[.slice none 0 0, .agg #[.int .i64 11, .int .i64 ((k : Int) + 1)]]) (by simp [results, Tryd.results18, go_sem, r0, r1]) rfl (ppost_bad EQ.out (below2 (HW2.out w2 BW.out)))
              · obtain rfl : j = ws.length := by omega
                by_cases h64 : 64 < ws.length
                · have e64 : ((64 : Int) < (ws.length : Int)) = True := by simp; omega
                  have EQ := Lib.hid (H2a.out HA.out h64)
                  have F2 := HF.out w2 BW.out
                  have a0 := F2.c0
                  have a1 := F2.fr
                  have a2 := (F2.set0 2).c1
                  have a3 := (F2.set0 2).fr 1
                  have r0 := ((F2.set0 2).set1 ((k : Int) + 1)).c0
                  have r1 := ((F2.set0 2).set1 ((k : Int) + 1)).c1
                  go_wp2
                  exact bodyPost_ret (v := .tuple #[.slice none 0 0, .agg #[.int .i64 2, .int .i64 ((k : Int) + 1)]]) (by simp [results, Tryd.results18, go_sem, r0, r1]) rfl (ppost_bad EQ.out (below2 (HW2.out w2 BW.out)))
                · have e6 : ((64 : Int) < (ws.length : Int)) = False := by simp; omega
                  by_cases hL : L.length = 64
                  · have e64 : ((L.length : Int) == 64) = true := by simp; omega
                    have EQ := Lib.hid (H2b.out HA.out h64 hL)
                    replace hL := Lib.hid hL
                    have F2 := HF.out w2 BW.out
                    have a0 := F2.c0
                    have a1 := F2.fr
                    have a2 := (F2.set0 2).c1
                    have a3 := (F2.set0 2).fr 1
                    have r0 := ((F2.set0 2).set1 ((k : Int) + 1)).c0
                    have r1 := ((F2.set0 2).set1 ((k : Int) + 1)).c1
                    go_wp2
                    exact bodyPost_ret (v := .tuple #[.slice none 0 0, .agg #[.int .i64 2, .int .i64 ((k : Int) + 1)]]) (by simp [results, Tryd.results18, go_sem, r0, r1]) rfl (ppost_bad EQ.out (below2 (HW2.out w2 BW.out)))
                  ·
                    have HI2 := Lib.hid (HOK.out HA.out h64 hL)
                    have e64 : ((L.length : Int) == 64) = false := by simp; omega
                    have b1 : L.length ≤ 100000 := by omega
                    have hl1 : L.length + 1 ≤ 64 := by omega
                    have s2 := HS2.out
                    go_wp2_with (at_builtin; go_loud (refine wpList_rowG rfl (.tmp 64) (.tmp 66) rfl g1 _ L ⟨some ⟨b2, off2, none⟩, ws, c2⟩ rfl (O2.out.keep (KeepOn.alloc (S := fun _ => True) _ _) fun _ _ => trivial) w2.heap.size rfl (cell_new1 _ _ _) (FR.out.keep (KeepOn.alloc (S := fun _ => True) _ _) fun _ _ => trivial) b1 (by rw [World.size_alloc]; omega) ?_); intro v' w5 o5 k5)
                    have B5 : Hid (Below g1 w1 w5) := (BW.out.alloc s2 _).trans k5
                    replace o5 := Lib.hid o5
                    clear k5
                    go_roundg (P.length - (k + 1))
                    case rel => exact ⟨k + 1, L ++ [(⟨some ⟨b2, off2, none⟩, ws, c2⟩ : Row)], rfl, by omega, by go_num, o5, by (show InvP _ _; rw [rowsL_snoc]; exact HI2.out), by rw [List.length_append]; exact hl1, B5.out⟩
                    case measure => omega

          · have e1 : ((ws.length : Int) == 1) = false := by simp; omega
            go_wp2_with fail
            refine CW.out.mono ?_
            rintro e w2 ⟨v2, rfl, o2, k2⟩
            obtain ⟨A2, c2, rfl, R2⟩ := ReadsS.own o2
            have HG1' := HG1.out
            have O2 := Lib.hid (O.out.keep (KeepOn.of_below (fun _ => True) k2) fun _ _ => trivial)
            have BW : Hid (Below g1 w1 w2) := BW0.out.trans (k2.mono (by omega))
            have HS2 : Hid (g1 ≤ w2.heap.size) := by have := k2.size; show _ ≤ _; omega
            obtain ⟨b2, off2, rfl, hb2, q0⟩ := R2 0 l0
            have RD : Hid (∀ j, j < ws.length → w2.cell? ⟨b2, off2 + j, none⟩ = some (.string ⟨(atS ws j).toArray⟩)) := fun j hj => by
              obtain ⟨b', off', e, _, h⟩ := R2 j hj
              cases e
              exact h
            have FR : Hid (FarG w2 g1 ⟨some ⟨b2, off2, none⟩, ws, c2⟩) := FarG.own (own_mono o2 (by have := BW0.out.size; omega)) (by omega)
            clear R2 o2 k2 HG1' q0
            go_wp2
            go_loopg [8] ws.length (fun gg q wr => ∃ j : Nat, gg = ws.length - j ∧ j ≤ ws.length ∧ q = .int .i64 j ∧ Hid (∀ i, i < j → nmB (atS ws i) = true) ∧ w2 = wr)
            case atStart => exact ⟨0, rfl, Nat.zero_le _, rfl, fun i hi => absurd hi (by omega), rfl⟩
            case round =>
              obtain ⟨j, hgg2, hj, rfl, HA, rfl⟩ := hrel
              by_cases hjl : j < ws.length
              · have q2 := RD.out j hjl
                have hxj := WX.out j hjl
                have CN := rname_any ⟨(atS ws j).toArray⟩ w2 (by unfold maxLen; simp [ByteArray.size]; omega)
                have H11j := Lib.hid (H11.out j hjl)
                by_cases hnm : nmB (atS ws j) = true
                · have CN : Hid (Calls Tryd.prog 14 #[.string ⟨(atS ws j).toArray⟩] w2 fun e w' => e = .returned (.bool true) ∧ w2 = w') := by rw [← hnm]; exact CN
                  have HA1 : Hid (∀ i, i < j + 1 → nmB (atS ws i) = true) := fun i hi => by
                    by_cases e : i = j
                    · rw [e]; exact hnm
                    · exact HA.out i (by omega)
                  clear hnm H11j hxj
                  generalize atS ws j = y at *
                  go_wp2_with fail
                  refine CN.out.mono ?_
                  rintro e w3 ⟨rfl, rfl⟩
                  go_wp2
                  go_roundg (ws.length - (j + 1))
                  case rel => exact ⟨j + 1, rfl, by omega, by go_num, HA1.out, rfl⟩
                  case measure => omega
                · have hnm : nmB (atS ws j) = false := by simpa using hnm
                  have EQ := Lib.hid (H11j.out hnm)
                  have CN : Hid (Calls Tryd.prog 14 #[.string ⟨(atS ws j).toArray⟩] w2 fun e w' => e = .returned (.bool false) ∧ w2 = w') := by rw [← hnm]; exact CN
                  clear hnm H11j hxj
                  generalize atS ws j = y at *
                  have F2 := HF.out w2 BW.out
                  have a0 := F2.c0
                  have a1 := F2.fr
                  have a2 := (F2.set0 11).c1
                  have a3 := (F2.set0 11).fr 1
                  have r0 := ((F2.set0 11).set1 ((k : Int) + 1)).c0
                  have r1 := ((F2.set0 11).set1 ((k : Int) + 1)).c1
                  go_wp2_with fail
                  refine CN.out.mono ?_
                  rintro e w3 ⟨rfl, rfl⟩
                  go_wp2
                  exact bodyPost_ret (v := .tuple #[.slice none 0 0, .agg #[.int .i64 11, .int .i64 ((k : Int) + 1)]]) (by simp [results, Tryd.results18, go_sem, r0, r1]) rfl (ppost_bad EQ.out (below2 (HW2.out w2 BW.out)))
              · obtain rfl : j = ws.length := by omega
                by_cases h64 : 64 < ws.length
                · have e64 : ((64 : Int) < (ws.length : Int)) = True := by simp; omega
                  have EQ := Lib.hid (H2a.out HA.out h64)
                  have F2 := HF.out w2 BW.out
                  have a0 := F2.c0
                  have a1 := F2.fr
                  have a2 := (F2.set0 2).c1
                  have a3 := (F2.set0 2).fr 1
                  have r0 := ((F2.set0 2).set1 ((k : Int) + 1)).c0
                  have r1 := ((F2.set0 2).set1 ((k : Int) + 1)).c1
                  go_wp2
                  exact bodyPost_ret (v := .tuple #[.slice none 0 0, .agg #[.int .i64 2, .int .i64 ((k : Int) + 1)]]) (by simp [results, Tryd.results18, go_sem, r0, r1]) rfl (ppost_bad EQ.out (below2 (HW2.out w2 BW.out)))
                · have e6 : ((64 : Int) < (ws.length : Int)) = False := by simp; omega
                  by_cases hL : L.length = 64
                  · have e64 : ((L.length : Int) == 64) = true := by simp; omega
                    have EQ := Lib.hid (H2b.out HA.out h64 hL)
                    replace hL := Lib.hid hL
                    have F2 := HF.out w2 BW.out
                    have a0 := F2.c0
                    have a1 := F2.fr
                    have a2 := (F2.set0 2).c1
                    have a3 := (F2.set0 2).fr 1
                    have r0 := ((F2.set0 2).set1 ((k : Int) + 1)).c0
                    have r1 := ((F2.set0 2).set1 ((k : Int) + 1)).c1
                    go_wp2
                    exact bodyPost_ret (v := .tuple #[.slice none 0 0, .agg #[.int .i64 2, .int .i64 ((k : Int) + 1)]]) (by simp [results, Tryd.results18, go_sem, r0, r1]) rfl (ppost_bad EQ.out (below2 (HW2.out w2 BW.out)))
                  ·
                    have HI2 := Lib.hid (HOK.out HA.out h64 hL)
                    have e64 : ((L.length : Int) == 64) = false := by simp; omega
                    have b1 : L.length ≤ 100000 := by omega
                    have hl1 : L.length + 1 ≤ 64 := by omega
                    have s2 := HS2.out
                    go_wp2_with (at_builtin; go_loud (refine wpList_rowG rfl (.tmp 64) (.tmp 66) rfl g1 _ L ⟨some ⟨b2, off2, none⟩, ws, c2⟩ rfl (O2.out.keep (KeepOn.alloc (S := fun _ => True) _ _) fun _ _ => trivial) w2.heap.size rfl (cell_new1 _ _ _) (FR.out.keep (KeepOn.alloc (S := fun _ => True) _ _) fun _ _ => trivial) b1 (by rw [World.size_alloc]; omega) ?_); intro v' w5 o5 k5)
                    have B5 : Hid (Below g1 w1 w5) := (BW.out.alloc s2 _).trans k5
                    replace o5 := Lib.hid o5
                    clear k5
                    go_roundg (P.length - (k + 1))
                    case rel => exact ⟨k + 1, L ++ [(⟨some ⟨b2, off2, none⟩, ws, c2⟩ : Row)], rfl, by omega, by go_num, o5, by (show InvP _ _; rw [rowsL_snoc]; exact HI2.out), by rw [List.length_append]; exact hl1, B5.out⟩
                    case measure => omega
    · have EQ := Lib.hid (HDN.out k L hlt HI.out)
      have BW := BW0
      have F2 := HF.out wo BW.out
      have a0 := F2.c0
      have a1 := F2.fr
      have a2 := (F2.set0 0).c1
      have a3 := (F2.set0 0).fr 1
      have r0 := ((F2.set0 0).set1 0).c0
      have r1 := ((F2.set0 0).set1 0).c1
      go_wp2
      exact bodyPost_ret (v := .tuple #[_, .agg #[.int .i64 0, .int .i64 0]]) (by simp [results, Tryd.results18, go_sem, r0, r1]) rfl (ppost_ok EQ.out O.out hw1 (HW2.out _ BW.out))
theorem rparse_any (s : Txt) (w : World) (hl : s.length ≤ 4611686018427387904) :
    Calls Tryd.prog 18 #[.string ⟨s.toArray⟩] w (PPost w.heap.size w (parseL s)) := by
  unfold parseL
  by_cases h2 : 65536 < s.length
  · rw [if_pos h2]
    have e3 : ((65536 : Int) < (s.length : Int)) = True := by simp; omega
    have b1 := FBx.new w 2 0
    have r0 := b1.c0
    have r1 := b1.c1
    have kV : Below w.heap.size w (w.alloc (.cells #[.int .i64 2, .int .i64 0] 27)) := (Below.refl _ _).alloc (Nat.le_refl _) _
    go_enter Tryd.func18, Tryd.ntmps18
    go_wp2
    exact bodyPost_ret (v := .tuple #[.slice none 0 0, .agg #[.int .i64 2, .int .i64 0]]) (by simp [results, Tryd.results18, go_sem, r0, r1]) rfl ⟨none, 0, [], rfl, rfl, ReadsL.nil _ _, kV⟩
  · rw [if_neg h2]
    exact rparse_in s h2 w
end Go.Proofs.YtgjgohnomophnaaDoor
