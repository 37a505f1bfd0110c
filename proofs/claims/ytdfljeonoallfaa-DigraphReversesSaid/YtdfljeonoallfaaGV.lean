/- Graphs: the reversed lists, by the program. -/
import Derived.Test.YtdfljeonoallfaaTE
import Derived.Test.YtdfljeonoallfaaGM
namespace Go.Proofs.Ytdfljeonoallfaa
open Go.RowKit Go.Deep

theorem wpList_intg {ops : Array Oper} {rest : List Oper} {o : Oper} {a : Act} {w : World} {Q : Exit → Act → World → Prop} (hgd : o.guard = none) (s x : Operand)
    (ho : o.op = .call { callee := .builtin .append, args := #[s, x], argTypes := #[27, 27] })
    (base : Nat) (v : Value) (l : List Int) (d : Int) (hs : a.eval s = v) (hO : w.ownsRow base 3 1 v l.length (vI l)) (g : Nat) (hx : a.eval x = .slice (some ⟨g, 0, none⟩) 1 1)
    (h0 : w.cell? ⟨g, 0, none⟩ = some (.int .i64 d)) (hl : l.length ≤ 100000) (hbase : base ≤ w.heap.size)
    (h : ∀ v' w', w'.ownsRow base 3 1 v' (l.length + 1) (vI l ++ [.int .i64 d]) → w.grownBy w' v.ownBlock → (v'.ownBlock = v.ownBlock ∨ v'.ownBlock = some w.heap.size) → wpList Try.prog ops Q rest (a.put o.dst v') w') : wpList Try.prog ops Q (o :: rest) a w := by
  refine wpList_plain hgd fun K hK => ?_
  exact oper_int s x ho base v l d hs hO g hx h0 hl hbase fun v' w' h1 h2 h3 => hK _ _ (h v' w' h1 h2 h3)
theorem own_form {w : World} {B : Nat} {te : TypeId} {v : Value} {n : Nat} {xs : List Value} (h : w.ownsRow B te 1 v (n + 1) xs) : ∃ g c, v = .slice (some ⟨g, 0, none⟩) (n + 1) c := by
  rcases h.2 with ⟨_, h0⟩ | ⟨g, cap, cur, h1, _⟩
  · exact absurd h0 (by omega)
  · exact ⟨g, cap, h1⟩
/-- an append to row e and its store -/
theorem grow_store {wo w5 w6 : World} {B g N e : Nat} {L L' : Nat → List Int} {vs : Nat → Value} {v' : Value} {d : Int} (M5 : GrowT w5 g B N 27 3 1 (fun e => (L e).length) (fun e => vI (L e)) vs) (he : e < N)
    (B5 : Below g wo w5) (hg : g + 1 = B)
    (LS : ∀ i, i < N → L' i = if i = e then L e ++ [d] else L i)
    (ho6 : w6.ownsRow B 3 1 v' ((L e).length + 1) (vI (L e) ++ [.int .i64 d])) (hg6 : w5.grownBy w6 (vs e).ownBlock) (hb6 : v'.ownBlock = (vs e).ownBlock ∨ v'.ownBlock = some w5.heap.size) :
    (∃ vs', GrowT (w6.setCell ⟨g, e, none⟩ v') g B N 27 3 1 (fun e => (L' e).length) (fun e => vI (L' e)) vs') ∧ Below g wo w6 ∧ Below g wo (w6.setCell ⟨g, e, none⟩ v') ∧ (∃ u, w6.cell? ⟨g, e, none⟩ = some u) ∧ w6.frozen? ⟨g, e, none⟩ = false := by
  subst hg
  have hB : g + 1 ≤ w5.heap.size := M5.2.1
  have hnb : ∀ q, (vs e).ownBlock = some q → g + 1 ≤ q := fun q hq => by
    rcases own_ge (M5.2.2.2.1 e he) with h | ⟨g', h, h1, h2⟩
    · rw [h] at hq; cases hq
    · rw [h] at hq; injection hq with hq; omega
  have BG6 : Below g wo w6 := B5.trans ((Below.refl _ w5).grown hg6 (by omega) fun q hq => by have := hnb q hq; omega)
  have M6 := M5.step he ho6 hg6 hb6
  have ne : some g ≠ (vs e).ownBlock := fun c => by have h9 : g + 1 ≤ g := hnb _ c.symm; omega
  have h3 := M5.2.2.1.of_block (hg6.block _ M5.2.2.1.lt ne)
  refine ⟨⟨_, M6.congr (ln' := fun i => (L' i).length) (X' := fun i => vI (L' i)) (fun i hi => ?_) (fun i hi => ?_)⟩, BG6, BG6.setCell (Nat.le_refl _) _, ⟨_, h3.cell he⟩, h3.frozen e⟩
  · rw [LS i hi]
    by_cases hie : i = e
    · rw [if_pos hie, if_pos hie]; simp
    · rw [if_neg hie, if_neg hie]
  · rw [LS i hi]
    by_cases hie : i = e
    · rw [if_pos hie, if_pos hie, vI_snoc]
    · rw [if_neg hie, if_neg hie]
set_option maxHeartbeats 8000000 in
set_option maxRecDepth 100000 in
theorem reverse_any (gA : Option Addr) (n gc : Nat) (RA : Nat → Option Addr) (RL : Nat → List Int) (RK : Nat → Nat) (w : World) (GR : GraphR w gA n RA RL RK) :
    Calls Try.prog 15 #[.slice gA n gc] w fun e w' => ∃ vs, e = .returned (.slice (some ⟨w.heap.size, 0, none⟩) n n) ∧ GrowT w' w.heap.size (w.heap.size + 1) n 27 3 1 (fun e => (revV RL n e).length) (fun e => vI (revV RL n e)) vs ∧ Below w.heap.size w w' := by
  have hn := GR.hn
  have RW : Hid (∀ W, Below w.heap.size w W → GraphR W gA n RA RL RK) := fun W hW => GR.below hW
  have hmk := run_make_rows n (by omega)
  have CI : Hid (∀ x W, Calls Try.prog 31 #[.slice gA n gc, .int .i64 x] W fun e w' => e = .returned (.bool (inR x n)) ∧ W = w') := fun x W => isv_any gA n gc x W
  have M0 : Hid (GrowT (w.alloc (.cells (madeCells #[.slice none 0 0] n) 27)) w.heap.size (w.heap.size + 1) n 27 3 1 (fun e => (revS RL 0 0 e).length) (fun e => vI (revS RL 0 0 e)) (fun _ => .slice none 0 0)) := by
    have h := GrowT.start (w := w) n 27 3 1
    exact h.congr (fun e _ => by rw [revS_start]; rfl) (fun e _ => by rw [revS_start]; rfl)
  have S0 : Hid (Below w.heap.size w (w.alloc (.cells (madeCells #[.slice none 0 0] n) 27))) := (Below.refl _ _).alloc (Nat.le_refl _) _
  clear GR
  go_enter Try.func15, Try.ntmps15
  go_wp2_with fail
  go_loopw [14] (fun q wr => ∃ (k : Nat) (vs : Nat → Value), k ≤ n ∧ q = .int .i64 k ∧ Hid (GrowT wr w.heap.size (w.heap.size + 1) n 27 3 1 (fun e => (revS RL k 0 e).length) (fun e => vI (revS RL k 0 e)) vs) ∧ Hid (Below w.heap.size w wr)) (fun q _ => n - (intOf q).toNat)
  case atStart => exact ⟨0, _, by omega, rfl, M0, S0⟩
  case round =>
    clear M0 S0
    obtain ⟨wo, rfl⟩ : ∃ wo, wo = wr := ⟨_, rfl⟩
    obtain ⟨k, vs0, hk, rfl, MR, BB⟩ := hrel
    by_cases hlt : k < n
    · obtain ⟨b, off, eA, _, c0⟩ := (RW.out _ BB.out).row k hlt
      have RD : Hid (∀ W, Below w.heap.size w W → ReadsV W (RA k) (RL k)) := fun W hW => (RW.out W hW).rd k hlt
      have hll : (RL k).length ≤ 1000000 := (RW.out w (Below.refl _ _)).ll k hlt
      have HNX := Lib.hid (fun e => revS_next RL k e)
      subst eA
      go_wp2_with fail
      go_loopw [21] (fun q wr => ∃ (i : Nat) (vs : Nat → Value), i ≤ (RL k).length ∧ q = .int .i64 i ∧ Hid (GrowT wr w.heap.size (w.heap.size + 1) n 27 3 1 (fun e => (revS RL k i e).length) (fun e => vI (revS RL k i e)) vs) ∧ Hid (Below w.heap.size w wr)) (fun q _ => (RL k).length - (intOf q).toNat)
      case atStart => exact ⟨0, _, by omega, rfl, MR, BB⟩
      case round =>
        clear MR BB c0
        obtain ⟨wp, rfl⟩ : ∃ wp, wp = wr := ⟨_, rfl⟩
        obtain ⟨i, vs, hi, rfl, MR, BB⟩ := hrel
        by_cases hli : i < (RL k).length
        · obtain ⟨b2, off2, e2, _, c1⟩ := RD.out _ BB.out i hli
          rw [e2]
          clear e2
          have SK := Lib.hid (fun (e : Nat) (h : at0 (RL k) i ≠ (e : Int)) => revS_skip (R := RL) (v := k) (w := e) hli h)
          have HD := Lib.hid (fun (e : Nat) => revS_had (R := RL) (v := k) (w := e) hli)
          have NW := Lib.hid (fun (e : Nat) => revS_new (R := RL) (v := k) (w := e) hli)
          have LN := Lib.hid (fun (e : Nat) => revS_last_no (R := RL) (v := k) (i := i) (w := e))
          have LY := Lib.hid (fun (e : Nat) => revS_last_yes (R := RL) (v := k) (i := i) (w := e))
          have LB := Lib.hid (fun (e : Nat) => revS_len RL k i e)
          generalize at0 (RL k) i = x at *
          have CIx := Lib.hid (CI.out x)
          by_cases hx : 0 ≤ x ∧ x < (n : Int)
          · rw [show inR x (n : Int) = true from inR_iff.2 hx] at CIx
            obtain ⟨e, rfl⟩ : ∃ e : Nat, x = e := ⟨x.toNat, by omega⟩
            have he : e < n := by omega
            clear hx
            have SK2 : Hid (∀ j, j < n → j ≠ e → revS RL k (i + 1) j = revS RL k i j) := fun j _ h => SK.out j (by omega)
            have hv := MR.out.2.2.1.cell he
            have hOw := MR.out.2.2.2.1 e he
            have hlen := LB.out e
            obtain ⟨vA, vc, hve⟩ : ∃ A c, vs e = .slice A (revS RL k i e).length c := by
              rcases hOw.2 with ⟨h1, h0⟩ | ⟨g, cap, cur, h1, _⟩
              · have h0 : (revS RL k i e).length = 0 := h0
                exact ⟨none, 0, by rw [h1, h0]⟩
              · exact ⟨_, _, h1⟩
            have RV : Hid (ReadsV wp vA (revS RL k i e)) := by
              obtain ⟨A, c, e1, h1⟩ := ReadsV.own hOw
              rw [hve] at e1
              injection e1 with e1
              subst e1
              exact h1
            cases hc : ((RL k).take i).contains (e : Int)
            · have LNe := Lib.hid (LN.out e hc)
              have HST : Hid (∀ j, j < n → revS RL k (i + 1) j = if j = e then revS RL k i e ++ [(k : Int)] else revS RL k i j) := fun j hj => by
                by_cases h : j = e
                · subst h; rw [if_pos rfl]; exact NW.out j rfl hc
                · rw [if_neg h]; exact SK2.out j hj h
              have hs1 := BB.out.size
              have HVE := Lib.hid hve
              obtain ⟨w5, hw5⟩ : ∃ w5, w5 = wp.alloc (.cells #[.int .i64 (k : Int)] 3) := ⟨_, rfl⟩
              have KB : Below wp.heap.size wp w5 := by rw [hw5]; exact (Below.refl _ _).alloc (Nat.le_refl _) _
              have g0 : w5.cell? ⟨wp.heap.size, 0, none⟩ = some (.int .i64 (k : Int)) := by rw [hw5]; simp
              have hs5 : wp.heap.size ≤ w5.heap.size := KB.size
              have M5 := MR.out.below KB
              have B5 := BB.out.trans (KB.mono hs1)
              have HOW : Hid (w5.ownsRow (w.heap.size + 1) 3 1 (vs e) (revS RL k i e).length (vI (revS RL k i e))) := M5.2.2.2.1 e he
              have PACK : Hid (∀ v' w6, w6.ownsRow (w.heap.size + 1) 3 1 v' ((revS RL k i e).length + 1) (vI (revS RL k i e) ++ [.int .i64 (k : Int)]) → w5.grownBy w6 (vs e).ownBlock → (v'.ownBlock = (vs e).ownBlock ∨ v'.ownBlock = some w5.heap.size) →
                  (∃ vs', GrowT (w6.setCell ⟨w.heap.size, e, none⟩ v') w.heap.size (w.heap.size + 1) n 27 3 1 (fun e => (revS RL k (i + 1) e).length) (fun e => vI (revS RL k (i + 1) e)) vs') ∧ Below w.heap.size w w6 ∧ Below w.heap.size w (w6.setCell ⟨w.heap.size, e, none⟩ v') ∧ (∃ u, w6.cell? ⟨w.heap.size, e, none⟩ = some u) ∧ w6.frozen? ⟨w.heap.size, e, none⟩ = false) := fun v' w6 ho6 hg6 hb6 => grow_store (L := revS RL k i) (L' := revS RL k (i + 1)) M5 he B5 rfl HST.out ho6 hg6 hb6
              have hszB : w.heap.size + 1 ≤ wp.heap.size := MR.out.2.1
              have HW5 := Lib.hid hw5
              rw [hve] at hv
              clear hw5 KB M5 B5 MR SK HD NW LN LY LB SK2 HST hOw hve hc CI
              go_wp2_with fail
              refine (CIx.out _).mono ?_
              rintro e3 w3 ⟨rfl, rfl⟩
              by_cases hl0 : (revS RL k i e).length = 0
              · have z0 : (((revS RL k i e).length : Int) == 0) = true := by rw [hl0]; rfl
                clear LNe RV CIx hl0
                go_wp2_with (at_builtin; rw [← HW5.out, ← HVE.out]; go_loud (refine wpList_intg rfl (.tmp 53) (.tmp 55) rfl (w.heap.size + 1) (vs e) (revS RL k i e) (k : Int) rfl HOW.out wp.heap.size rfl g0 (by omega) (by omega) ?_); intro v' w6 ho6 hg6 hb6; obtain ⟨gv, cv, hv'⟩ := own_form ho6; subst hv'; obtain ⟨⟨vs', m6⟩, b6, b7, ⟨cu, ct⟩, cf⟩ := PACK.out _ w6 ho6 hg6 hb6; have M6 := Lib.hid m6; have B7 := Lib.hid b7; clear m6 b6 b7 ho6 hg6 hb6 PACK)
                go_roundw
                case rel => exact ⟨i + 1, _, by omega, by go_num, M6, B7⟩
                case measure => simp [intOf]; omega
              · obtain ⟨m, hm⟩ : ∃ m, (revS RL k i e).length = m + 1 := ⟨(revS RL k i e).length - 1, by omega⟩
                have z0 : (((revS RL k i e).length : Int) == 0) = false := by simpa using hl0
                obtain ⟨b3, off3, e4, _, c3⟩ := RV.out m (by omega)
                have hne : ¬ at0 (revS RL k i e) m = (k : Int) := by
                  have := LNe.out hl0
                  rw [hm, Nat.add_sub_cancel] at this
                  exact this
                have hne2 : (at0 (revS RL k i e) m == (k : Int)) = false := by simpa using hne
                have hwr : IntKind.i64.wrap (((revS RL k i e).length : Int) - 1) = (m : Int) := by rw [IntKind.wrap_i64]; omega
                have hml : m < (revS RL k i e).length := by omega
                have HM := Lib.hid hm
                subst e4
                clear LNe RV CIx hm
                generalize at0 (revS RL k i e) m = lastv at *
                go_wp2_with (at_builtin; rw [← HW5.out, ← HVE.out]; go_loud (refine wpList_intg rfl (.tmp 53) (.tmp 55) rfl (w.heap.size + 1) (vs e) (revS RL k i e) (k : Int) rfl HOW.out wp.heap.size rfl g0 (by omega) (by omega) ?_); intro v' w6 ho6 hg6 hb6; obtain ⟨gv, cv, hv'⟩ := own_form ho6; subst hv'; obtain ⟨⟨vs', m6⟩, b6, b7, ⟨cu, ct⟩, cf⟩ := PACK.out _ w6 ho6 hg6 hb6; have M6 := Lib.hid m6; have B7 := Lib.hid b7; clear m6 b6 b7 ho6 hg6 hb6 PACK)
                go_roundw
                case rel => exact ⟨i + 1, _, by omega, by go_num, M6, B7⟩
                case measure => simp [intOf]; omega
            · obtain ⟨hl0, hla⟩ := LY.out e hc
              obtain ⟨m, hm⟩ : ∃ m, (revS RL k i e).length = m + 1 := ⟨(revS RL k i e).length - 1, by omega⟩
              have z0 : (((revS RL k i e).length : Int) == 0) = false := by simpa using hl0
              obtain ⟨b3, off3, e4, _, c3⟩ := RV.out m (by omega)
              rw [hm, Nat.add_sub_cancel] at hla
              rw [hla] at c3
              have hwr : IntKind.i64.wrap (((revS RL k i e).length : Int) - 1) = (m : Int) := by rw [IntKind.wrap_i64]; omega
              have hml : m < (revS RL k i e).length := by omega
              have M6 : Hid (GrowT wp w.heap.size (w.heap.size + 1) n 27 3 1 (fun e => (revS RL k (i + 1) e).length) (fun e => vI (revS RL k (i + 1) e)) vs) := by
                have h : ∀ j, j < n → revS RL k i j = revS RL k (i + 1) j := fun j hj => by
                  by_cases h : j = e
                  · subst h; exact (HD.out j hc).symm
                  · exact (SK2.out j hj h).symm
                exact MR.out.congr (fun j hj => by rw [h j hj]) (fun j hj => by rw [h j hj])
              subst e4
              rw [hve] at hv
              clear MR SK HD NW LN LY LB SK2 hOw hve hc CI hm hla hl0 RV
              go_wp2_with fail
              refine (CIx.out _).mono ?_
              rintro e3 w3 ⟨rfl, rfl⟩
              go_wp2
              go_roundw
              case rel => exact ⟨i + 1, _, by omega, by go_num, M6, BB⟩
              case measure => simp [intOf]; omega
          · have hb : inR x (n : Int) = false := by
              cases h : inR x (n : Int)
              · rfl
              · exact absurd (inR_iff.1 h) hx
            rw [hb] at CIx
            have M6 : Hid (GrowT wp w.heap.size (w.heap.size + 1) n 27 3 1 (fun e => (revS RL k (i + 1) e).length) (fun e => vI (revS RL k (i + 1) e)) vs) := by
              have h : ∀ j, j < n → revS RL k i j = revS RL k (i + 1) j := fun j hj => (SK.out j (fun c => hx (by omega))).symm
              exact MR.out.congr (fun j hj => by rw [h j hj]) (fun j hj => by rw [h j hj])
            clear MR SK HD NW LN LY LB CI hx hb
            go_wp2_with fail
            refine (CIx.out _).mono ?_
            rintro e3 w3 ⟨rfl, rfl⟩
            go_wp2
            go_roundw
            case rel => exact ⟨i + 1, _, by omega, by go_num, M6, BB⟩
            case measure => simp [intOf]; omega
        · obtain rfl : i = (RL k).length := by omega
          have M6 : Hid (GrowT wp w.heap.size (w.heap.size + 1) n 27 3 1 (fun e => (revS RL (k + 1) 0 e).length) (fun e => vI (revS RL (k + 1) 0 e)) vs) := MR.out.congr (fun j _ => by rw [HNX.out j]) (fun j _ => by rw [HNX.out j])
          clear MR CI
          go_wp2
          go_roundw
          case rel => exact ⟨k + 1, _, by omega, by go_num, M6, BB⟩
          case measure => simp [intOf]; omega
    · obtain rfl : k = n := by omega
      have M6 : Hid (GrowT wo w.heap.size (w.heap.size + 1) k 27 3 1 (fun e => (revV RL k e).length) (fun e => vI (revV RL k e)) vs0) := MR.out.congr (fun j _ => by rw [revS_end]) (fun j _ => by rw [revS_end])
      clear MR CI
      go_wp2
      go_ret
      exact ⟨_, rfl, M6.out, BB.out⟩
end Go.Proofs.Ytdfljeonoallfaa
