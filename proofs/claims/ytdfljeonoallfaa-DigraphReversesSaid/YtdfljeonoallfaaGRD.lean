/- Graphs: distances and paths of the reference. -/
import Derived.Test.YtdfljeonoallfaaGP
import Derived.Test.YtdfljeonoallfaaTC
namespace Go.Proofs.Ytdfljeonoallfaa
open Go.RowKit Go.Deep

theorem tab_put (n i : Nat) (f : Nat → Int) (x : Int) : (tab n f).set i x = tab n (fun j => if j = i then x else f j) := by
  unfold tab
  apply List.ext_getElem
  · simp
  · intro j h1 h2
    simp only [List.getElem_set, List.getElem_map, List.getElem_range]
    by_cases c : i = j
    · rw [if_pos c, if_pos c.symm]
    · rw [if_neg c, if_neg fun h => c h.symm]
def hitB (R : Nat → List Int) (n t k v u : Nat) : Bool := decide (dstV R n t k v < 0) && anyN (fun u => tabB R v u && decide (dstV R n t k u = (k : Int))) u
def curD (R : Nat → List Int) (n t k v u x : Nat) : Int := if x < v then dstV R n t (k + 1) x else if x = v ∧ hitB R n t k v u = true then ((k + 1 : Nat) : Int) else dstV R n t k x
theorem dst_k (R : Nat → List Int) (n t k x : Nat) : dstV R n t (k + 1) x = (k : Int) ↔ dstV R n t k x = (k : Int) := by
  rw [dst_round]
  split
  · rename_i h
    constructor
    · intro e; omega
    · intro e; omega
  · exact Iff.rfl
theorem cur_k (R : Nat → List Int) (n t k v u x : Nat) : curD R n t k v u x = (k : Int) ↔ dstV R n t k x = (k : Int) := by
  unfold curD
  split
  · exact dst_k R n t k x
  · split
    · rename_i h
      have h2 := h.2
      unfold hitB at h2
      rw [Bool.and_eq_true, decide_eq_true_eq] at h2
      rw [h.1]
      constructor <;> intro e <;> omega
    · exact Iff.rfl
theorem anyN_succ (f : Nat → Bool) (n : Nat) : anyN f (n + 1) = (anyN f n || f n) := by
  unfold anyN
  rw [List.range_succ, List.any_append]
  simp
theorem hit_step (R : Nat → List Int) (n t k v u : Nat) : hitB R n t k v (u + 1) = (hitB R n t k v u || (decide (dstV R n t k v < 0) && (tabB R v u && decide (dstV R n t k u = (k : Int))))) := by
  unfold hitB
  rw [anyN_succ, Bool.and_or_distrib_left]
theorem cur_self (R : Nat → List Int) (n t k v u : Nat) : curD R n t k v u v = if hitB R n t k v u = true then ((k + 1 : Nat) : Int) else dstV R n t k v := by
  unfold curD
  rw [if_neg (by omega)]
  by_cases h : hitB R n t k v u = true
  · rw [if_pos ⟨rfl, h⟩, if_pos h]
  · rw [if_neg fun c => h c.2, if_neg h]
theorem cur_yes {R : Nat → List Int} {n t k v u : Nat} (h1 : curD R n t k v u v < 0) (h2 : tabB R v u = true) (h3 : curD R n t k v u u = (k : Int)) (x : Nat) : (if x = v then ((k + 1 : Nat) : Int) else curD R n t k v u x) = curD R n t k v (u + 1) x := by
  rw [cur_k] at h3
  rw [cur_self] at h1
  have hh : hitB R n t k v (u + 1) = true := by
    rw [hit_step]
    by_cases h : hitB R n t k v u = true
    · rw [h]; rfl
    · rw [if_neg h] at h1
      rw [decide_eq_true h1, h2, decide_eq_true h3]
      simp
  unfold curD
  by_cases c : x = v
  · subst c
    rw [if_pos rfl, if_neg (by omega), if_pos ⟨rfl, hh⟩]
  · rw [if_neg c]
    by_cases c2 : x < v
    · rw [if_pos c2, if_pos c2]
    · rw [if_neg c2, if_neg fun h => c h.1, if_neg c2, if_neg fun h => c h.1]
theorem cur_no {R : Nat → List Int} {n t k v u : Nat} (h : ¬ (curD R n t k v u v < 0 ∧ tabB R v u = true ∧ curD R n t k v u u = (k : Int))) (x : Nat) : curD R n t k v u x = curD R n t k v (u + 1) x := by
  rw [cur_k, cur_self] at h
  have hh : hitB R n t k v (u + 1) = hitB R n t k v u := by
    rw [hit_step]
    by_cases h0 : hitB R n t k v u = true
    · rw [h0]; rfl
    · rw [if_neg h0] at h
      have h0 : hitB R n t k v u = false := by simpa using h0
      rw [h0, Bool.false_or]
      by_cases a : dstV R n t k v < 0
      · by_cases b : tabB R v u = true
        · have : ¬ dstV R n t k u = (k : Int) := fun c => h ⟨a, b, c⟩
          rw [decide_eq_false this]; simp
        · have b : tabB R v u = false := by simpa using b
          rw [b]; simp
      · rw [decide_eq_false a]; rfl
  unfold curD
  rw [hh]
theorem cur_start (R : Nat → List Int) (n t k x : Nat) : curD R n t k 0 0 x = dstV R n t k x := by
  unfold curD
  rw [if_neg (Nat.not_lt_zero x), if_neg]
  rintro ⟨_, h⟩
  unfold hitB at h
  rw [Bool.and_eq_true] at h
  exact absurd h.2 (by unfold anyN; simp)
theorem cur_next (R : Nat → List Int) (n t k v x : Nat) : curD R n t k v n x = curD R n t k (v + 1) 0 x := by
  have h0 : hitB R n t k (v + 1) 0 = false := by unfold hitB anyN; simp
  unfold curD
  rw [h0]
  by_cases c : x = v
  · subst c
    rw [if_neg (Nat.lt_irrefl x), if_pos (Nat.lt_succ_self x), dst_round]
    have e : hitB R n t k x n = true ↔ (dstV R n t k x < 0 ∧ ∃ u, u < n ∧ tabB R x u = true ∧ dstV R n t k u = (k : Int)) := by
      unfold hitB
      rw [Bool.and_eq_true, decide_eq_true_eq, anyN_iff]
      constructor
      · rintro ⟨a, u, hu, b⟩
        rw [Bool.and_eq_true, decide_eq_true_eq] at b
        exact ⟨a, u, hu, b⟩
      · rintro ⟨a, u, hu, b⟩
        exact ⟨a, u, hu, by rw [Bool.and_eq_true, decide_eq_true_eq]; exact b⟩
    by_cases h : hitB R n t k x n = true
    · rw [if_pos ⟨rfl, h⟩, if_pos (e.1 h)]
    · rw [if_neg fun c => h c.2, if_neg fun c => h (e.2 c)]
  · by_cases c2 : x < v
    · rw [if_pos c2, if_pos (Nat.lt_succ_of_lt c2)]
    · rw [if_neg c2, if_neg fun h => c h.1, if_neg (show ¬ x < v + 1 by omega), if_neg fun h => by cases h.2]
theorem cur_end {R : Nat → List Int} {n t k x : Nat} (h : x < n) : curD R n t k n 0 x = dstV R n t (k + 1) x := by unfold curD; rw [if_pos h]
set_option maxHeartbeats 8000000 in
set_option maxRecDepth 100000 in
theorem rdistances_any (gA : Option Addr) (n gc : Nat) (RA : Nat → Option Addr) (RL : Nat → List Int) (RK : Nat → Nat) (t : Nat) (w : World) (GR : GraphR w gA n RA RL RK) (ht : t < n) :
    Calls Try.prog 42 #[.slice gA n gc, .int .i64 (t : Nat)] w (IsPost w.heap.size w (tab n (fun v => dstV RL n t n v))) := by
  have hn := GR.hn
  have CT := Lib.hid (table_any gA n gc RA RL RK w GR)
  have D0 : Hid (∀ x, (if x = t then (0 : Int) else -1) = dstV RL n t 0 x) := fun x => rfl
  have CY : Hid (∀ k v u, curD RL n t k v u v < 0 → tabB RL v u = true → curD RL n t k v u u = (k : Int) → ∀ x, (if x = v then ((k + 1 : Nat) : Int) else curD RL n t k v u x) = curD RL n t k v (u + 1) x) := fun k v u h1 h2 h3 x => cur_yes h1 h2 h3 x
  have CN : Hid (∀ k v u, ¬ (curD RL n t k v u v < 0 ∧ tabB RL v u = true ∧ curD RL n t k v u u = (k : Int)) → ∀ x, curD RL n t k v u x = curD RL n t k v (u + 1) x) := fun k v u h x => cur_no h x
  have C0 := Lib.hid (cur_start RL n t)
  have CX := Lib.hid (cur_next RL n t)
  have CE : Hid (∀ k x, x < n → curD RL n t k n 0 x = dstV RL n t (k + 1) x) := fun k x h => cur_end h
  clear GR
  unfold IsPost
  generalize dstV RL n t = ds at *
  generalize curD RL n t = cu at *
  generalize tabB RL = T at *
  go_enter Try.func42, Try.ntmps42
  go_wp2_with fail
  refine CT.out.mono ?_
  rintro e w1 ⟨tv, ad, rfl, M1, K1⟩
  have M1 := Lib.hid M1
  have K1 := Lib.hid K1
  have O0 : Hid (OwnI w1 w1.heap.size (.slice none 0 0) (tab 0 (fun _ => (-1 : Int)))) := OwnI.nil _ _
  have B0 : Hid (Below w1.heap.size w1 w1) := Below.refl _ _
  clear CT
  go_wp2_with fail
  go_loopw [7, 6] (fun q dv wr => ∃ k : Nat, k ≤ n ∧ q = .int .i64 (k : Nat) ∧ Hid (OwnI wr w1.heap.size dv (tab k (fun _ => (-1 : Int)))) ∧ Hid (Below w1.heap.size w1 wr)) (fun q _ _ => n - (intOf q).toNat)
  case atStart => exact ⟨0, by omega, rfl, O0, B0⟩
  case round =>
    clear O0 B0
    obtain ⟨wo, rfl⟩ : ∃ wo, wo = wr := ⟨_, rfl⟩
    obtain ⟨k, hk, rfl, OW, BB⟩ := hrel
    by_cases hlt : k < n
    · have hsz := BB.out.size
      have htl : (tab k (fun _ => (-1 : Int))).length = k := tab_len _ _
      have HTS : Hid (tab (k + 1) (fun _ => (-1 : Int)) = tab k (fun _ => (-1 : Int)) ++ [(-1 : Int)]) := by show _ = _; rw [tab_snoc]
      clear CY CN C0 CX CE
      generalize tab k (fun _ => (-1 : Int)) = TB at *
      go_wp2_with (at_builtin; go_loud (refine wpList_int rfl (.tmp 19) (.tmp 20) rfl w1.heap.size u6 TB (-1) rfl (OW.out.alloc _) wo.heap.size rfl (cell_new1 _ _ _) (by omega) (by rw [World.size_alloc]; omega) ?_); intro v' w6 ho6 hb6; have O6 : Hid (OwnI w6 w1.heap.size v' (tab (k + 1) (fun _ => (-1 : Int)))) := (by show OwnI _ _ _ _; rw [HTS.out]; exact ho6); have B6 := Lib.hid ((BB.out.alloc hsz _).trans hb6); clear ho6 hb6)
      go_roundw
      case rel => exact ⟨k + 1, by omega, by go_num, O6, B6⟩
      case measure => simp [intOf]; omega
    · obtain rfl : k = n := by omega
      have ho := OW.out
      unfold OwnI at ho
      rw [tab_len] at ho
      obtain ⟨g, c, hdv⟩ : ∃ g c, u6 = .slice (some ⟨g, 0, none⟩) k c := by
        rcases ho.2 with ⟨_, h0⟩ | ⟨g, cap, cur, h1, _⟩
        · omega
        · exact ⟨g, cap, h1⟩
      subst hdv
      have hge := (ho.lt g rfl).1
      have c0 := own_cell ho t (by rw [tab_len]; exact ht)
      have hfz := ho.frozenAt t
      have OD : Hid ((wo.setCell ⟨g, t, none⟩ (.int .i64 0)).ownsRow w1.heap.size 3 1 (.slice (some ⟨g, 0, none⟩) k c) k ((tab k (fun x => ds 0 x)).map (Value.int .i64))) := by
        have h := own_put ho t 0
        rw [tab_put] at h
        have e : tab k (fun j => if j = t then (0 : Int) else -1) = tab k (fun x => ds 0 x) := tab_congr fun x _ => D0.out x
        rw [e] at h
        exact h
      have BD : Hid (Below w1.heap.size w1 (wo.setCell ⟨g, t, none⟩ (.int .i64 0))) := BB.out.setCell (by show w1.heap.size ≤ g; exact hge) _
      have PUT : Hid (∀ (W : World) (D : Nat → Int) (i : Nat) (x : Int), W.ownsRow w1.heap.size 3 1 (.slice (some ⟨g, 0, none⟩) k c) k ((tab k D).map (Value.int .i64)) → (W.setCell ⟨g, i, none⟩ (.int .i64 x)).ownsRow w1.heap.size 3 1 (.slice (some ⟨g, 0, none⟩) k c) k ((tab k (fun j => if j = i then x else D j)).map (Value.int .i64))) := fun W D i x h => by
        have h := own_put h i x
        rw [tab_put] at h
        exact h
      have GET : Hid (∀ (W : World) (D : Nat → Int) (i : Nat), W.ownsRow w1.heap.size 3 1 (.slice (some ⟨g, 0, none⟩) k c) k ((tab k D).map (Value.int .i64)) → i < k → W.cell? ⟨g, i, none⟩ = some (.int .i64 (D i)) ∧ W.frozen? ⟨g, i, none⟩ = false) := fun W D i h hi => by
        have h2 := own_cell h i (by rw [tab_len]; exact hi)
        rw [tab_at _ _ _ hi] at h2
        exact ⟨h2, h.frozenAt i⟩
      clear ho OW BB D0
      go_wp2_with fail
      go_loopw [8] (fun q wr => ∃ r : Nat, r ≤ k ∧ q = .int .i64 (r : Nat) ∧ Hid (wr.ownsRow w1.heap.size 3 1 (.slice (some ⟨g, 0, none⟩) k c) k ((tab k (fun x => ds r x)).map (Value.int .i64))) ∧ Hid (Below w1.heap.size w1 wr)) (fun q _ => k - (intOf q).toNat)
      case atStart => exact ⟨0, by omega, rfl, OD, BD⟩
      case round =>
        clear OD BD c0 hfz
        obtain ⟨wp, rfl⟩ : ∃ wp, wp = wr := ⟨_, rfl⟩
        obtain ⟨r, hr, rfl, OW, BB⟩ := hrel
        by_cases hrk : r < k
        · have OD : Hid (wp.ownsRow w1.heap.size 3 1 (.slice (some ⟨g, 0, none⟩) k c) k ((tab k (fun x => cu r 0 0 x)).map (Value.int .i64))) := by
            have e : tab k (fun x => cu r 0 0 x) = tab k (fun x => ds r x) := tab_congr fun x _ => C0.out r x
            show World.ownsRow _ _ _ _ _ _ _
            rw [e]; exact OW.out
          clear OW
          go_wp2_with fail
          go_loopw [9] (fun q wr => ∃ v : Nat, v ≤ k ∧ q = .int .i64 (v : Nat) ∧ Hid (wr.ownsRow w1.heap.size 3 1 (.slice (some ⟨g, 0, none⟩) k c) k ((tab k (fun x => cu r v 0 x)).map (Value.int .i64))) ∧ Hid (Below w1.heap.size w1 wr)) (fun q _ => k - (intOf q).toNat)
          case atStart => exact ⟨0, by omega, rfl, OD, BB⟩
          case round =>
            clear OD BB
            obtain ⟨wq, rfl⟩ : ∃ wq, wq = wr := ⟨_, rfl⟩
            obtain ⟨v, hv, rfl, OW, BB⟩ := hrel
            by_cases hvk : v < k
            · go_wp2_with fail
              go_loopw [10] (fun q wr => ∃ u : Nat, u ≤ k ∧ q = .int .i64 (u : Nat) ∧ Hid (wr.ownsRow w1.heap.size 3 1 (.slice (some ⟨g, 0, none⟩) k c) k ((tab k (fun x => cu r v u x)).map (Value.int .i64))) ∧ Hid (Below w1.heap.size w1 wr)) (fun q _ => k - (intOf q).toNat)
              case atStart => exact ⟨0, by omega, rfl, OW, BB⟩
              case round =>
                clear OW BB
                obtain ⟨u, hu, rfl, OW, BB⟩ := hrel
                by_cases huk : u < k
                · have M2 := M1.out.below BB.out
                  obtain ⟨tg, tc, rfl, c1⟩ := M2.cell hvk
                  have c2 := M2.get hvk huk
                  obtain ⟨c3, hfz⟩ := GET.out _ _ v OW.out hvk
                  obtain ⟨c4, -⟩ := GET.out _ _ u OW.out huk
                  have YY := Lib.hid (CY.out r v u)
                  have NN := Lib.hid (CN.out r v u)
                  have BS : Hid (Below w1.heap.size w1 (wr.setCell ⟨g, v, none⟩ (.int .i64 ((r : Int) + 1)))) := BB.out.setCell (by show w1.heap.size ≤ g; exact hge) _
                  have OY : Hid ((∀ x, (if x = v then ((r + 1 : Nat) : Int) else cu r v u x) = cu r v (u + 1) x) → (wr.setCell ⟨g, v, none⟩ (.int .i64 ((r : Int) + 1))).ownsRow w1.heap.size 3 1 (.slice (some ⟨g, 0, none⟩) k c) k ((tab k (fun x => cu r v (u + 1) x)).map (Value.int .i64))) := fun h => by
                    have h2 := PUT.out wr _ v ((r : Int) + 1) OW.out
                    have e : tab k (fun j => if j = v then (r : Int) + 1 else cu r v u j) = tab k (fun x => cu r v (u + 1) x) := tab_congr fun x _ => h x
                    rw [e] at h2
                    exact h2
                  have ON : Hid ((∀ x, cu r v u x = cu r v (u + 1) x) → wr.ownsRow w1.heap.size 3 1 (.slice (some ⟨g, 0, none⟩) k c) k ((tab k (fun x => cu r v (u + 1) x)).map (Value.int .i64))) := fun h => by
                    have e : tab k (fun x => cu r v (u + 1) x) = tab k (fun x => cu r v u x) := tab_congr fun x _ => (h x).symm
                    rw [e]; exact OW.out
                  clear M2 OW CY CN CX CE C0 PUT GET
                  generalize hd1 : cu r v u v = d1 at *
                  generalize hd2 : cu r v u u = d2 at *
                  generalize T v u = z at *
                  generalize ad v = av at *
                  by_cases hn1 : d1 < 0
                  · cases z
                    · have O2 := Lib.hid (ON.out (NN.out (by simp)))
                      clear YY NN OY ON hd1 hd2 BS
                      go_wp2
                      go_roundw
                      case rel => exact ⟨u + 1, by omega, by go_num, O2, BB⟩
                      case measure => simp [intOf]; omega
                    · by_cases he : d2 = (r : Int)
                      · have O2 := Lib.hid (OY.out (YY.out hn1 rfl he))
                        have heb : (d2 == (r : Int)) = true := by simp [he]
                        have hw1 : IntKind.i64.wrap ((r : Int) + 1) = (r : Int) + 1 := by rw [IntKind.wrap_i64]; omega
                        clear YY NN OY ON hd1 hd2 he
                        go_wp2
                        go_roundw
                        case rel => exact ⟨u + 1, by omega, by go_num, O2, BS⟩
                        case measure => simp [intOf]; omega
                      · have O2 := Lib.hid (ON.out (NN.out fun h => he h.2.2))
                        have heb : (d2 == (r : Int)) = false := by simpa using he
                        clear YY NN OY ON hd1 hd2 BS
                        go_wp2
                        go_roundw
                        case rel => exact ⟨u + 1, by omega, by go_num, O2, BB⟩
                        case measure => simp [intOf]; omega
                  · have O2 := Lib.hid (ON.out (NN.out fun h => hn1 h.1))
                    clear YY NN OY ON hd1 hd2 BS
                    go_wp2
                    go_roundw
                    case rel => exact ⟨u + 1, by omega, by go_num, O2, BB⟩
                    case measure => simp [intOf]; omega
                · obtain rfl : u = k := by omega
                  have O2 : Hid (wr.ownsRow w1.heap.size 3 1 (.slice (some ⟨g, 0, none⟩) u c) u ((tab u (fun x => cu r (v + 1) 0 x)).map (Value.int .i64))) := by
                    have e : tab u (fun x => cu r (v + 1) 0 x) = tab u (fun x => cu r v u x) := tab_congr fun x _ => (CX.out r v x).symm
                    show World.ownsRow _ _ _ _ _ _ _
                    rw [e]; exact OW.out
                  clear OW CY CN CX CE C0 PUT GET
                  go_wp2
                  go_roundw
                  case rel => exact ⟨v + 1, by omega, by go_num, O2, BB⟩
                  case measure => simp [intOf]; omega
            · obtain rfl : v = k := by omega
              have O2 : Hid (wq.ownsRow w1.heap.size 3 1 (.slice (some ⟨g, 0, none⟩) v c) v ((tab v (fun x => ds (r + 1) x)).map (Value.int .i64))) := by
                have e : tab v (fun x => ds (r + 1) x) = tab v (fun x => cu r v 0 x) := tab_congr fun x hx => (CE.out r x hx).symm
                show World.ownsRow _ _ _ _ _ _ _
                rw [e]; exact OW.out
              clear OW CY CN CX CE C0 PUT GET
              go_wp2
              go_roundw
              case rel => exact ⟨r + 1, by omega, by go_num, O2, BB⟩
              case measure => simp [intOf]; omega
        · obtain rfl : r = k := by omega
          have FIN : Hid (ReadsV wp (some ⟨g, 0, none⟩) (tab r (fun x => ds r x))) := by
            obtain ⟨A, c', e1, h1⟩ := ReadsV.own OW.out
            injection e1 with e1
            rw [← e1] at h1
            exact h1
          have BF := Lib.hid (K1.out.trans (BB.out.mono K1.out.size))
          have htl : (tab r (fun x => ds r x)).length = r := tab_len _ _
          clear OW CY CN CX CE C0 PUT GET BB
          go_wp2
          go_ret
          exact ⟨_, _, by rw [htl]; rfl, FIN.out, BF.out⟩
end Go.Proofs.Ytdfljeonoallfaa
