/- Graphs: Topo of the reference. -/
import Derived.Test.YtdfljeonoallfaaGRD
namespace Go.Proofs.Ytdfljeonoallfaa
open Go.RowKit Go.Deep

/-- v is not taken, and of the first k vertices each that has an edge to v is taken -/
def rdyP (T : Nat → Nat → Bool) (D : Nat → Bool) (v k : Nat) : Bool := !D v && !anyN (fun u => !D u && T u v) k
theorem rdyP_zero (T : Nat → Nat → Bool) (D : Nat → Bool) (v : Nat) : rdyP T D v 0 = !D v := by
  have h : anyN (fun u => !D u && T u v) 0 = false := anyN_no fun j hj => absurd hj (by omega)
  unfold rdyP
  rw [h, Bool.not_false, Bool.and_true]
theorem rdyP_succ (T : Nat → Nat → Bool) (D : Nat → Bool) (v k : Nat) : rdyP T D v (k + 1) = (rdyP T D v k && (D k || !T k v)) := by
  unfold rdyP
  rw [anyN_succ]
  generalize anyN (fun u => !D u && T u v) k = a
  generalize D v = b
  generalize D k = d
  generalize T k v = t
  cases a <;> cases b <;> cases d <;> cases t <;> rfl
/-- the least vertex that may come next -/
def nxtT (T : Nat → Nat → Bool) (n : Nat) (D : Nat → Bool) : Option Nat := (List.range n).find? fun v => rdyP T D v n
theorem nxt_yes {T : Nat → Nat → Bool} {n : Nat} {D : Nat → Bool} {p : Nat} (hp : p < n) (h : rdyP T D p n = true) (hno : ∀ v, v < p → rdyP T D v n = false) : nxtT T n D = some p := by
  unfold nxtT
  exact List.find?_range_eq_some.2 ⟨h, List.mem_range.2 hp, fun j hj => by simp [hno j hj]⟩
theorem nxt_no {T : Nat → Nat → Bool} {n : Nat} {D : Nat → Bool} (hno : ∀ v, v < n → rdyP T D v n = false) : nxtT T n D = none := by
  unfold nxtT
  exact List.find?_range_eq_none.2 fun j hj => by simp [hno j hj]
/-- the least order, k more vertices -/
def topF (T : Nat → Nat → Bool) (n : Nat) : Nat → (Nat → Bool) → List Int → List Int × Bool
  | 0, _, o => (o, true)
  | k + 1, D, o => match nxtT T n D with
    | none => ([], false)
    | some p => topF T n k (fun x => if x = p then true else D x) (o ++ [(p : Int)])
theorem topF_yes {T : Nat → Nat → Bool} {n k : Nat} {D : Nat → Bool} {o : List Int} {p : Nat} (h : nxtT T n D = some p) : topF T n (k + 1) D o = topF T n k (fun x => if x = p then true else D x) (o ++ [(p : Int)]) := by
  show (match nxtT T n D with | none => _ | some p => _) = _
  rw [h]
theorem topF_no {T : Nat → Nat → Bool} {n k : Nat} {D : Nat → Bool} {o : List Int} (h : nxtT T n D = none) : topF T n (k + 1) D o = ([], false) := by
  show (match nxtT T n D with | none => _ | some p => _) = _
  rw [h]
def topG (R : Nat → List Int) (n : Nat) : List Int × Bool := topF (tabB R) n n (fun _ => false) []
set_option maxHeartbeats 4000000 in
set_option maxRecDepth 100000 in
theorem rtopo_any (gA : Option Addr) (n gc : Nat) (RA : Nat → Option Addr) (RL : Nat → List Int) (RK : Nat → Nat) (w : World) (GR : GraphR w gA n RA RL RK) :
    Calls Try.prog 28 #[.slice gA n gc] w (PthPost w.heap.size w (topG RL n)) := by
  have hn := GR.hn
  have CT := Lib.hid (table_any gA n gc RA RL RK w GR)
  have Q0 : Hid (topF (tabB RL) n (n - 0) (fun _ => false) [] = topG RL n) := by show _ = _; rw [Nat.sub_zero]; rfl
  have hmk := run_make_bools n (by omega)
  clear GR
  unfold PthPost
  generalize topG RL n = ANS at *
  generalize tabB RL = T at *
  go_enter Try.func28, Try.ntmps28
  go_wp2_with fail
  refine CT.out.mono ?_
  rintro e w1 ⟨tv, ad, rfl, M1, K1⟩
  have M1 := Lib.hid M1
  have K1 := Lib.hid K1
  have O0 : Hid (OwnI (w1.alloc (.cells (madeCells #[.bool false] n) 4)) (w1.heap.size + 1) (.slice none 0 0) []) := OwnI.nil _ _
  have R0 : Hid (RowB (w1.alloc (.cells (madeCells #[.bool false] n) 4)) w1.heap.size n (fun _ => false)) := RowB.made w1 n
  have B0 : Hid (Below w1.heap.size w1 (w1.alloc (.cells (madeCells #[.bool false] n) 4))) := (Below.refl _ _).alloc (Nat.le_refl _) _
  clear CT
  go_wp2_with fail
  go_loopw [7, 6] (fun q ov wr => ∃ (k : Nat) (D : Nat → Bool) (o : List Int), k ≤ n ∧ o.length = k ∧ q = .int .i64 (k : Nat) ∧ Hid (OwnI wr (w1.heap.size + 1) ov o) ∧ Hid (RowB wr w1.heap.size n D) ∧ Hid (topF T n (n - k) D o = ANS) ∧ Hid (Below w1.heap.size w1 wr)) (fun q _ _ => n - (intOf q).toNat)
  case atStart => exact ⟨0, _, [], by omega, rfl, rfl, O0, R0, Q0, B0⟩
  case round =>
    clear O0 B0 R0 Q0
    obtain ⟨wo, rfl⟩ : ∃ wo, wo = wr := ⟨_, rfl⟩
    obtain ⟨k, D, o, hk, hol, rfl, OW, RD, HQ, BB⟩ := hrel
    by_cases hlt : k < n
    · have hsub : n - k = (n - (k + 1)) + 1 := by omega
      rw [hsub] at HQ
      have TY : Hid (∀ p, nxtT T n D = some p → topF T n (n - (k + 1)) (fun x => if x = p then true else D x) (o ++ [(p : Int)]) = ANS) := fun p h => by
        rw [← topF_yes h]; exact HQ.out
      have TN : Hid (nxtT T n D = none → ANS = ([], false)) := fun h => by
        rw [← HQ.out]; exact topF_no h
      have NS : Hid (∀ p, p < n → rdyP T D p n = true → (∀ v, v < p → rdyP T D v n = false) → nxtT T n D = some p) := fun p => nxt_yes
      have NN : Hid ((∀ v, v < n → rdyP T D v n = false) → nxtT T n D = none) := nxt_no
      have Z0 := Lib.hid (rdyP_zero T D)
      have ZS := Lib.hid (rdyP_succ T D)
      have MR := Lib.hid (M1.out.below BB.out)
      have HOL := Lib.hid hol
      clear HQ hsub hol
      generalize rdyP T D = rd at *
      generalize nxtT T n D = nx at *
      go_wp2_with fail
      go_loopw [9, 8] (fun q xv wr => ∃ (v : Nat) (x : Int), v ≤ n ∧ q = .int .i64 (v : Nat) ∧ xv = .int .i64 x ∧ Hid ((x = -1 ∧ ∀ v', v' < v → rd v' n = false) ∨ ∃ p : Nat, x = p ∧ p < n ∧ nx = some p) ∧ Hid (wo = wr)) (fun q _ _ => n - (intOf q).toNat)
      case atStart => exact ⟨0, -1, by omega, rfl, rfl, Lib.hid (Or.inl ⟨rfl, fun v' h => absurd h (by omega)⟩), rfl⟩
      case round =>
        obtain ⟨v, x, hv, rfl, rfl, HX, HW⟩ := hrel
        have hw := HW.out
        subst hw
        clear HW
        rcases HX.out with ⟨rfl, hno⟩ | ⟨p, rfl, hp, hnx⟩
        · have HNO := Lib.hid hno
          clear hno HX
          by_cases hlv : v < n
          · have c1 := RD.out.get hlv
            have Z0v := Lib.hid (Z0.out v)
            have ZSv := Lib.hid (ZS.out v)
            go_wp2_with fail
            go_loopw [11, 10] (fun q rv wr => ∃ u : Nat, u ≤ n ∧ q = .int .i64 (u : Nat) ∧ rv = .bool (rd v u) ∧ Hid (wo = wr)) (fun q _ _ => n - (intOf q).toNat)
            case atStart => exact ⟨0, by omega, rfl, by rw [Z0v.out], rfl⟩
            case round =>
              obtain ⟨u, hu, rfl, rfl, HW⟩ := hrel
              have hw := HW.out
              subst hw
              clear HW
              by_cases hun : u < n
              · have c2 := RD.out.get hun
                have c4 := MR.out.get hun hlv
                obtain ⟨tg, tc, rfl, c3⟩ := MR.out.cell hun
                have ZSu := Lib.hid (ZSv.out u)
                clear c1 Z0v ZSv OW RD TY TN NS NN Z0 ZS MR BB HNO M1
                generalize rd v u = a at *
                generalize D u = d at *
                generalize T u v = t at *
                cases a
                · go_wp2
                  go_roundw
                  case rel => exact ⟨u + 1, by omega, by go_num, by rw [ZSu.out]; rfl, (by first | exact Lib.hid rfl | exact Lib.hid trivial)⟩
                  case measure => simp [intOf]; omega
                · cases d
                  · go_wp2
                    go_roundw
                    case rel => exact ⟨u + 1, by omega, by go_num, by rw [ZSu.out]; rfl, (by first | exact Lib.hid rfl | exact Lib.hid trivial)⟩
                    case measure => simp [intOf]; omega
                  · go_wp2
                    go_roundw
                    case rel => exact ⟨u + 1, by omega, by go_num, by rw [ZSu.out]; rfl, (by first | exact Lib.hid rfl | exact Lib.hid trivial)⟩
                    case measure => simp [intOf]; omega
              · obtain rfl : u = n := by omega
                cases hz : rd v u
                · have X2 : Hid (((-1 : Int) = -1 ∧ ∀ v', v' < v + 1 → rd v' u = false) ∨ ∃ p : Nat, (-1 : Int) = p ∧ p < u ∧ nx = some p) := Or.inl ⟨rfl, fun v' h => by
                    by_cases e : v' = v
                    · rw [e]; exact hz
                    · exact HNO.out v' (by omega)⟩
                  clear c1 Z0v ZSv hz
                  go_wp2
                  go_roundw
                  case rel => exact ⟨v + 1, -1, by omega, by go_num, rfl, X2, (by first | exact Lib.hid rfl | exact Lib.hid trivial)⟩
                  case measure => simp [intOf]; omega
                · have X2 : Hid ((((v : Nat) : Int) = -1 ∧ ∀ v', v' < v + 1 → rd v' u = false) ∨ ∃ p : Nat, ((v : Nat) : Int) = p ∧ p < u ∧ nx = some p) := Or.inr ⟨v, rfl, hlv, NS.out v hlv hz HNO.out⟩
                  clear c1 Z0v ZSv hz
                  go_wp2
                  go_roundw
                  case rel => exact ⟨v + 1, _, by omega, by go_num, rfl, X2, (by first | exact Lib.hid rfl | exact Lib.hid trivial)⟩
                  case measure => simp [intOf]; omega
          · obtain rfl : v = n := by omega
            have E := Lib.hid (TN.out (NN.out HNO.out))
            have BF := Lib.hid (K1.out.trans (BB.out.mono K1.out.size))
            clear OW RD TY TN NS NN Z0 ZS MR BB HNO M1
            go_wp2
            go_ret2
            exact ⟨none, 0, by rw [E.out]; rfl, by rw [E.out]; exact fun j hj => absurd hj (by simp), BF.out⟩
        · have TYp := Lib.hid (TY.out p hnx)
          have hfz := World.rowIs.frozen RD.out p
          have hcl := RD.out.get hp
          have hdl := World.rowIs.lt RD.out
          obtain ⟨ws, hws⟩ : ∃ ws, ws = wo.setCell ⟨w1.heap.size, p, none⟩ (.bool true) := ⟨_, rfl⟩
          have O2 : Hid (OwnI ws (w1.heap.size + 1) u6 o) := own_block OW.out fun g e => by
            have h := (OW.out.lt g e).1
            rw [hws]
            exact blk_setCell_other _ _ _ _ (by show g ≠ w1.heap.size; omega)
          have R2 : Hid (RowB ws w1.heap.size n (fun x => if x = p then true else D x)) := by
            show RowB _ _ _ _
            rw [hws]; exact RD.out.set p true
          have B2 : Hid (Below w1.heap.size w1 ws) := by
            show Below _ _ _
            rw [hws]; exact BB.out.setCell (Nat.le_refl _) _
          have hs2 := B2.out.size
          have hl2 := World.rowIs.lt R2.out
          have HWS := Lib.hid hws
          have g0 : (ws.alloc (.cells #[.int .i64 (p : Nat)] 3)).cell? ⟨wo.heap.size, 0, none⟩ = some (.int .i64 (p : Nat)) := by
            have e : wo.heap.size = ws.heap.size := by rw [hws, World.size_setCell]
            rw [e]
            exact cell_new1 _ _ _
          have hol : o.length ≤ 100000 := by rw [HOL.out]; omega
          clear hws HX OW RD TY TN NS NN Z0 ZS MR BB M1 hnx
          by_cases hlv : v < n
          · go_wp2_with (at_builtin; rw [← HWS.out]; go_loud (refine wpList_int rfl (.tmp 68) (.tmp 70) rfl (w1.heap.size + 1) u6 o (p : Int) rfl (O2.out.alloc _) wo.heap.size rfl g0 (by omega) (by rw [World.size_alloc]; omega) ?_); intro v' w6 ho6 hb6; have O6 := Lib.hid ho6; have B6 := Lib.hid ((B2.out.alloc hs2 _).trans (hb6.mono (Nat.le_succ _))); have R6 := Lib.hid (R2.out.of_block ((hb6.block w1.heap.size (Nat.lt_succ_self _)).trans (blk_alloc_lt _ _ _ hl2))); clear ho6 hb6)
            go_roundw
            case rel => exact ⟨k + 1, _, o ++ [(p : Int)], by omega, by rw [List.length_append, List.length_singleton, HOL.out], by go_num, O6, R6, TYp, B6⟩
            case measure => simp [intOf]; omega
          · go_wp2_with (at_builtin; rw [← HWS.out]; go_loud (refine wpList_int rfl (.tmp 68) (.tmp 70) rfl (w1.heap.size + 1) u6 o (p : Int) rfl (O2.out.alloc _) wo.heap.size rfl g0 (by omega) (by rw [World.size_alloc]; omega) ?_); intro v' w6 ho6 hb6; have O6 := Lib.hid ho6; have B6 := Lib.hid ((B2.out.alloc hs2 _).trans (hb6.mono (Nat.le_succ _))); have R6 := Lib.hid (R2.out.of_block ((hb6.block w1.heap.size (Nat.lt_succ_self _)).trans (blk_alloc_lt _ _ _ hl2))); clear ho6 hb6)
            go_roundw
            case rel => exact ⟨k + 1, _, o ++ [(p : Int)], by omega, by rw [List.length_append, List.length_singleton, HOL.out], by go_num, O6, R6, TYp, B6⟩
            case measure => simp [intOf]; omega
    · obtain rfl : k = n := by omega
      have E : Hid ((o, true) = ANS) := by
        have h := HQ.out
        rw [Nat.sub_self] at h
        exact h
      obtain ⟨A, c, e1, r1⟩ := ReadsV.own OW.out
      subst e1
      have RF := Lib.hid r1
      have BF := Lib.hid (K1.out.trans (BB.out.mono K1.out.size))
      clear OW RD HQ BB r1
      go_wp2
      go_ret2
      exact ⟨A, c, by rw [← E.out]; show _ = Ending.returned (.tuple #[.slice A o.length c, .bool true]); rw [hol]; rfl, by rw [← E.out]; exact RF.out, BF.out⟩
end Go.Proofs.Ytdfljeonoallfaa
