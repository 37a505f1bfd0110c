/- The reference's Parse. -/
import Derived.Test.YtengldflpkkkoaaDoorWU
import Derived.Test.YtengldflpkkkoaaDoorWP
namespace Go.Proofs.YtengldflpkkkoaaDoor
open Go.RowKit

def at1 (R : List (List UInt8)) (k : Nat) : List UInt8 := R[k]?.getD []
def ReadsB (w : World) (A : Option Addr) (R : List (List UInt8)) : Prop :=
  ∀ j, j < R.length → ∃ b off, A = some ⟨b, off, none⟩ ∧ b < w.heap.size ∧ w.cell? ⟨b, off + j, none⟩ = some (.string ⟨(at1 R j).toArray⟩)
theorem ReadsB.own {w : World} {base : Nat} {e : TypeId} {v : Value} {n : Nat} {R : List (List UInt8)} (h : w.ownsRow base e 1 v n (R.map sv)) : ∃ A c, v = .slice A R.length c ∧ ReadsB w A R := by
  have hl : R.length = n := by have := h.1; simpa using this
  rcases h.2 with ⟨rfl, h0⟩ | ⟨g, cap, cur, rfl, _, hg, _⟩
  · obtain rfl : R = [] := List.eq_nil_of_length_eq_zero (by omega)
    exact ⟨none, 0, rfl, fun _ h => absurd h (by simp)⟩
  · refine ⟨_, _, by rw [hl], fun j hj => ⟨_, _, rfl, ?_, ?_⟩⟩
    · have := h.cellAt j (by omega)
      exact World.block_lt_of_cell? w ⟨g, j, none⟩ (by rw [this]; simp [hj]; rfl)
    · rw [Nat.zero_add, h.cellAt j (by omega)]
      simp [hj, at1, sv]
theorem take_at1 {R : List (List UInt8)} {k : Nat} (h : k < R.length) : R.take (k + 1) = R.take k ++ [at1 R k] := by
  rw [List.take_succ_eq_append_getElem h]
  simp [at1, h]
def RPPost (g : Nat) (w : World) (r : Option (List Int)) (e : Ending) (w' : World) : Prop := match r with
  | some m => ∃ A c, e = .returned (.tuple #[.slice A m.length c, .int .i64 0]) ∧ ReadsV w' A m ∧ Below g w w'
  | none => e = .returned (.tuple #[.slice none 0 0, .int .i64 11]) ∧ Below g w w'

set_option maxHeartbeats 4000000 in
set_option maxRecDepth 100000 in
theorem rparse_law (s : List UInt8) (hs : s.length ≤ 100000) (w : World) :
    Calls Tryd.prog 19 #[.string ⟨s.toArray⟩] w (RPPost w.heap.size w (rparseL s)) := by
  by_cases h1 : s = [45]
  · subst h1
    have E : Hid (rparseL [45] = some []) := rfl
    rw [E.out]
    go_enter Tryd.func19, Tryd.ntmps19
    go_wp2
    go_ret2
    exact ⟨none, 0, rfl, ReadsV.nil _ _, Below.refl _ _⟩
  · have e1 : (s == [45]) = false := by simpa using h1
    have E : Hid (rparseL s = if 24 < (pieces 44 s).length then none else match natsL (pieces 44 s) with | none => none | some m => if textL m ≠ s then none else some m) := by show _ = _; unfold rparseL; exact if_neg h1
    rw [E.out]
    clear E h1
    have C := Lib.hid (rsplit_law s hs w)
    have PS : Hid (∀ x ∈ pieces 44 s, x.length ≤ 100000) := fun x hx => Nat.le_trans (pieces_size 44 s x hx) hs
    clear hs
    generalize pieces 44 s = R at *
    by_cases h2 : 24 < R.length
    · rw [if_pos h2]
      have e2 : (24 : Int) < (R.length : Int) := by omega
      clear h2
      go_enter Tryd.func19, Tryd.ntmps19
      go_wp2_with fail
      refine C.out.mono ?_
      rintro e w1 ⟨v, rfl, hown, K1⟩
      obtain ⟨A, c, rfl, -⟩ := ReadsB.own hown
      clear hown
      generalize R.length = n at *
      go_wp2_with fail
      go_ret2
      exact ⟨rfl, K1⟩
    · rw [if_neg h2]
      have e2 : ¬ (24 : Int) < (R.length : Int) := by omega
      obtain ⟨i0, hi, hz0, hz1, hz2⟩ := info_parts infoI
      have HI := Lib.hid hi
      have HZ0 := Lib.hid hz0
      have HZ1 := Lib.hid hz1
      have HZ2 := Lib.hid hz2
      clear hi hz0 hz1 hz2
      obtain ⟨T, hT⟩ : ∃ T, T = (match natsL R with | none => none | some m => if textL m ≠ s then none else some m : Option (List Int)) := ⟨_, rfl⟩
      rw [← hT]
      have HTn : Hid (natsL R = none → T = none) := fun h => by rw [hT, h]
      have HTx : Hid (∀ m, natsL R = some m → textL m ≠ s → T = none) := fun m h h' => by rw [hT, h]; exact if_pos h'
      have HTy : Hid (∀ m, natsL R = some m → textL m = s → T = some m) := fun m h h' => by rw [hT, h]; exact if_neg fun e => e h'
      have HBad : Hid (∀ k, natsL (R.take k) = none → T = none) := fun k h => HTn.out (by rw [← List.take_append_drop k R]; exact natsL_bad _ _ h)
      have HLen : Hid (∀ k M, natsL (R.take k) = some M → M.length ≤ 24 ∧ In64 M) := fun k M h => by
        have e := natsL_len _ _ h
        rw [List.length_take] at e
        refine ⟨by omega, fun x hx => ?_⟩
        have := (natsL_of _ _ h).2 x hx
        rw [okW_iff] at this
        omega
      clear hT h2
      generalize hn : R.length = n at *
      have HN := Lib.hid hn
      clear hn
      go_enter Tryd.func19, Tryd.ntmps19
      go_wp2_with fail
      refine C.out.mono ?_
      rintro e w1 ⟨v, rfl, hown, K1⟩
      obtain ⟨A, c, rfl, RB⟩ := ReadsB.own hown
      replace RB := Lib.hid RB
      have B1 := Lib.hid K1
      clear hown K1 C
      rw [HN.out]
      obtain ⟨g, hg⟩ : ∃ g, g = w1.heap.size := ⟨_, rfl⟩
      replace HG : Hid (w1.heap.size = g) := hg.symm
      clear hg
      go_wp2_with fail
      go_loopg [5, 6, 7] n (fun gg v q x wr => ∃ (k : Nat) (M : List Int), gg = n - k ∧ k ≤ n ∧ q = .int .i64 k ∧ Hid (natsL (R.take k) = some M) ∧ Hid (wr.ownsRow g 3 1 v M.length (M.map (Value.int .i64))) ∧ Hid (Below g w1 wr))
      case atStart => exact ⟨0, [], rfl, Nat.zero_le _, rfl, rfl, World.ownsRow_nil _ _ _ _, Below.refl _ _⟩
      case round =>
        obtain ⟨k, M, hgg, hk, rfl, HM, O, BB⟩ := hrel
        by_cases hlt : k < n
        · obtain ⟨b, off, eA, lx, hx⟩ := RB.out k (by rw [HN.out]; exact hlt)
          subst eA
          rw [HG.out] at lx
          replace hx := (BB.out.cell (p := ⟨b, off + k, none⟩) lx).trans hx
          have HS := Lib.hid (take_at1 (R := R) (k := k) (by rw [HN.out]; exact hlt))
          have hxl : Hid ((at1 R k).length ≤ 100000) := by
            refine PS.out _ ?_
            have hk' : k < R.length := by rw [HN.out]; exact hlt
            have : at1 R k = R[k] := by simp [at1, hk']
            rw [this]; exact List.getElem_mem hk'
          have hsn := Lib.hid (natsL_snoc (R.take k) (at1 R k))
          have gs := BB.out.size
          rw [HG.out] at gs
          have hml := (HLen.out k M HM.out).1
          have b1 : M.length + 1 ≤ maxLen := by unfold maxLen; omega
          have b2 : (M.length + 1) * 8 ≤ 140737488355328 := by omega
          by_cases hw : at1 R k = [119]
          · have HM2 : Hid (natsL (R.take (k + 1)) = some (M ++ [-1])) := by
              show _ = _
              rw [HS.out, hsn.out, HM.out, hw]; rfl
            have hw2 : Hid (at1 R k = [119]) := hw
            rw [hw] at hx
            clear hsn HS hw hxl
            go_wp2_with (at_builtin; (refine wpList_append_own _ rfl (.tmp 26) (.tmp 27) 22 rfl g 3 i0 (.int .i64 0) 1 8 Tryd.underlying22 HI.out HZ0.out HZ1.out HZ2.out rfl (by decide) u5 M.length _ rfl (O.out.alloc _) ⟨wr.heap.size, 0, none⟩ 1 1 [.int .i64 (-1)] rfl rfl (cell_one_new _ _ _) (by simp [Value.oneCell']) b1 b2 (by rw [World.size_alloc]; omega) ?_); intro v' w5 hown' hgrow _)
            have O5 : Hid (w5.ownsRow g 3 1 v' (M ++ [(-1)]).length ((M ++ [(-1)]).map (Value.int .i64))) := by
              show World.ownsRow _ _ _ _ _ _ _
              rw [List.map_append, List.length_append, List.map_singleton]
              exact hown'
            have B5 : Hid (Below g w1 w5) := (BB.out.alloc gs _).grown hgrow (by rw [World.size_alloc]; omega) (fun r e => (O.out.lt r e).1)
            clear hown' hgrow
            go_wp2
            go_roundg (n - (k + 1))
            case rel => exact ⟨k + 1, _, rfl, by omega, by go_num, HM2.out, O5.out, B5.out⟩
            case measure => omega
          · have hw2 : (at1 R k == [119]) = false := by simpa using hw
            have HN1 : Hid (natW1 (at1 R k) = natO (at1 R k)) := if_neg hw
            have CN := Lib.hid (natural_law (at1 R k) 1048576 hxl.out wr)
            clear hw
            by_cases hneg : natV (at1 R k) 1048576 < 0
            · obtain rfl : T = none := HBad.out (k + 1) (by rw [HS.out, hsn.out, HM.out, HN1.out]; unfold natO; rw [if_pos hneg])
              clear hsn HS HN1
              generalize natV (at1 R k) 1048576 = x at *
              generalize at1 R k = y at *
              go_wp2_with fail
              refine CN.out.mono ?_
              rintro e w2 ⟨rfl, rfl⟩
              go_wp2_with fail
              go_ret2
              exact ⟨rfl, B1.out.trans (BB.out.mono (by have := B1.out.size; rw [HG.out] at this; exact this))⟩
            · have HM2 : Hid (natsL (R.take (k + 1)) = some (M ++ [natV (at1 R k) 1048576])) := by
                show _ = _
                rw [HS.out, hsn.out, HM.out, HN1.out]; unfold natO; rw [if_neg hneg]
              clear hsn HS HN1
              generalize natV (at1 R k) 1048576 = x at *
              generalize at1 R k = y at *
              go_wp2_with fail
              refine CN.out.mono ?_
              rintro e w2 ⟨rfl, rfl⟩
              go_wp2_with (at_builtin; (refine wpList_append_own _ rfl (.tmp 36) (.tmp 38) 22 rfl g 3 i0 (.int .i64 0) 1 8 Tryd.underlying22 HI.out HZ0.out HZ1.out HZ2.out rfl (by decide) u5 M.length _ rfl (O.out.alloc _) ⟨wr.heap.size, 0, none⟩ 1 1 [.int .i64 x] rfl rfl (cell_one_new _ _ _) (by simp [Value.oneCell']) b1 b2 (by rw [World.size_alloc]; omega) ?_); intro v' w5 hown' hgrow _)
              have O5 : Hid (w5.ownsRow g 3 1 v' (M ++ [x]).length ((M ++ [x]).map (Value.int .i64))) := by
                show World.ownsRow _ _ _ _ _ _ _
                rw [List.map_append, List.length_append, List.map_singleton]
                exact hown'
              have B5 : Hid (Below g w1 w5) := (BB.out.alloc gs _).grown hgrow (by rw [World.size_alloc]; omega) (fun r e => (O.out.lt r e).1)
              clear hown' hgrow
              go_wp2
              go_roundg (n - (k + 1))
              case rel => exact ⟨k + 1, _, rfl, by omega, by go_num, HM2.out, O5.out, B5.out⟩
              case measure => omega
        · obtain rfl : k = n := by omega
          have HF : Hid (natsL R = some M) := by
            have := HM.out
            rw [← HN.out, List.take_length] at this
            exact this
          obtain ⟨A2, c2, e, R3⟩ := ReadsV.own O.out
          subst e
          obtain ⟨h24, h64⟩ := HLen.out _ M HM.out
          have CT := Lib.hid (rtext_law A2 M c2 wr R3 h64 (by omega))
          replace R3 := Lib.hid R3
          clear O h64
          have BX : Hid (Below w.heap.size w wr) := B1.out.trans (BB.out.mono (by have := B1.out.size; rw [HG.out] at this; exact this))
          by_cases ht : textL M = s
          · obtain rfl : T = some M := HTy.out M HF.out ht
            rw [ht] at CT
            clear ht HTx HTy HTn HBad
            obtain ⟨z, hz⟩ : ∃ z, z = M.length := ⟨_, rfl⟩
            rw [← hz] at CT h24
            have hz2 := Lib.hid hz
            clear hz
            rw [← hz2.out]
            go_wp2_with fail
            refine CT.out.mono ?_
            rintro e w2 ⟨rfl, rfl⟩
            go_wp2_with fail
            go_ret2
            exact ⟨A2, c2, by first | (rw [hz2.out]; rfl) | (rw [← hz2.out]; rfl), R3.out, BX.out⟩
          · obtain rfl : T = none := HTx.out M HF.out ht
            clear HTx HTy HTn HBad
            generalize textL M = X at *
            have ht2 : (X == s) = false := by simpa using ht
            clear ht
            go_wp2_with fail
            refine CT.out.mono ?_
            rintro e w2 ⟨rfl, rfl⟩
            go_wp2_with fail
            go_ret2
            exact ⟨rfl, BX.out⟩
end Go.Proofs.YtengldflpkkkoaaDoor
