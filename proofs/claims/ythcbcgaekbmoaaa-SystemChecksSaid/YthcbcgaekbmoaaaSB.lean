/- Systems: the reference's Next, the size that a law asks, Deterministic of the program. -/
import Derived.Test.YthcbcgaekbmoaaaSA
namespace Go.Proofs.Ythcbcgaekbmoaaa
open Go.RowKit

set_option maxHeartbeats 4000000 in
set_option maxRecDepth 100000 in
theorem rnext_any (s : SysV) (x y : Int) (w : World) (hr : SysR w s) :
    Calls Try.prog 15 #[.agg #[.int .i64 s.st, .slice s.EA s.el s.ec, .slice s.AA s.ar.length s.ac], .int .i64 x, .int .i64 y] w (VPost w.heap.size w (.int .i64 (nextV s x y))) := by
  have B0 : Below w.heap.size w (w.alloc (.cells #[.int .i64 s.st, .slice s.EA s.el s.ec, .slice s.AA s.ar.length s.ac] 25)) := (Below.refl _ _).alloc (Nat.le_refl _) _
  have C := rvalid_sys s (w.alloc (.cells #[.int .i64 s.st, .slice s.EA s.el s.ec, .slice s.AA s.ar.length s.ac] 25)) (hr.below B0 (Nat.le_refl _))
  have RE := Lib.hid hr.re
  have hal := hr.hal
  have c2 : (w.alloc (.cells #[.int .i64 s.st, .slice s.EA s.el s.ec, .slice s.AA s.ar.length s.ac] 25)).cell? ⟨w.heap.size, 2, none⟩ = some (.slice s.AA s.ar.length s.ac) := by simp
  have HNO : Hid (okS s = false → nextV s x y = -1) := fun h => by show _ = _; unfold nextV; rw [h]; rfl
  have HYES : Hid (okS s = true → nextV s x y = nextE (s.ar.drop 0) x y) := fun h => by show _ = _; unfold nextV; rw [if_pos h]; rfl
  clear hr
  generalize okS s = ok at *
  generalize nextV s x y = V at *
  obtain ⟨sst, EA, el, ev, ec, AA, ar, ac⟩ := s
  dsimp only at *
  have HD := Lib.hid (fun k (h : k < ar.length) => next_drop (l := ar) (x := x) (y := y) h)
  have HEND : Hid (nextE (ar.drop ar.length) x y = -1) := by show _ = _; rw [List.drop_length]; rfl
  obtain ⟨w0, hw0⟩ : ∃ w0, w0 = w.alloc (.cells #[.int .i64 sst, .slice EA el ec, .slice AA ar.length ac] 25) := ⟨_, rfl⟩
  have hlt0 : w.heap.size < w0.heap.size := by rw [hw0, World.size_alloc]; omega
  rw [← hw0] at B0 C c2
  have HW0 := Lib.hid hw0
  clear hw0
  replace B0 := Lib.hid B0
  replace C := Lib.hid C
  go_enter Try.func15, Try.ntmps15
  go_wp2_with fail
  rw [← HW0.out]
  refine C.out.mono ?_
  rintro e w1 ⟨rfl, K⟩
  have B1 := Lib.hid (B0.out.trans (K.mono (by omega)))
  have q2 := keepc c2 K
  clear C c2 HW0
  cases ok
  · have E := Lib.hid (HNO.out rfl)
    clear HNO HYES K
    go_wp2
    go_ret
    exact ⟨by rw [E.out]; rfl, B1.out⟩
  · have E0 := Lib.hid (HYES.out rfl)
    clear HNO HYES K
    go_wp2
    go_loopg [7] ar.length (fun gg q wr => ∃ k : Nat, gg = ar.length - k ∧ k ≤ ar.length ∧ q = .int .i64 k ∧ Hid (V = nextE (ar.drop k) x y) ∧ w1 = wr)
    case atStart => exact ⟨0, rfl, Nat.zero_le _, rfl, E0.out, rfl⟩
    case round =>
      obtain ⟨k, hgg, hk, rfl, HV, rfl⟩ := hrel
      by_cases hlt : k < ar.length
      · obtain ⟨b, off, rfl, hb, h0, h1, h2⟩ := (RE.out.below B1.out (Nat.le_refl _)) k hlt
        have hd := HD.out k hlt
        have hV := HV.out
        rw [hd] at hV
        clear hd
        generalize eA ar k = a at *
        obtain ⟨af, at', ao⟩ := a
        dsimp only at *
        by_cases e1 : af = x
        · by_cases e2 : at' = y
          · rw [if_pos ⟨e1, e2⟩] at hV
            have HV2 := Lib.hid hV
            have z1 : (af == x) = true := by simpa using e1
            have z2 : (at' == y) = true := by simpa using e2
            clear hV HV e1 e2
            go_wp2
            go_ret
            exact ⟨by rw [HV2.out]; rfl, B1.out⟩
          · rw [if_neg (fun h => e2 h.2)] at hV
            have HV2 := Lib.hid hV
            have z1 : (af == x) = true := by simpa using e1
            have z2 : (at' == y) = false := by simpa using e2
            clear hV HV e1 e2
            go_wp2
            go_roundg (ar.length - (k + 1))
            case rel => exact ⟨k + 1, rfl, by omega, by go_num, HV2.out, rfl⟩
            case measure => omega
        · rw [if_neg (fun h => e1 h.1)] at hV
          have HV2 := Lib.hid hV
          have z1 : (af == x) = false := by simpa using e1
          clear hV HV e1
          go_wp2
          go_roundg (ar.length - (k + 1))
          case rel => exact ⟨k + 1, rfl, by omega, by go_num, HV2.out, rfl⟩
          case measure => omega
      · obtain rfl : k = ar.length := by omega
        have HV2 := Lib.hid (HV.out.trans HEND.out)
        go_wp2
        go_ret
        exact ⟨by rw [HV2.out]; rfl, B1.out⟩
/-! few -/
def FewS (s : SysV) (e : Ending) : Prop := ∃ b, e = .returned (.bool b) ∧ (b = true → s.el ≤ 66 ∧ s.ar.length ≤ 40)
theorem fewS_no (s : SysV) : FewS s (.returned (.bool false)) := ⟨false, rfl, fun h => by cases h⟩
theorem fewS_any {s : SysV} {b : Bool} (h : b = true → s.el ≤ 66 ∧ s.ar.length ≤ 40) : FewS s (.returned (.bool b)) := ⟨b, rfl, h⟩
set_option maxHeartbeats 4000000 in
set_option maxRecDepth 100000 in
theorem few_any (s : SysV) (w : World) (hr : SysW w s) :
    Calls Try.prog 6 #[.agg #[.int .i64 s.st, .slice s.EA s.el s.ec, .slice s.AA s.ar.length s.ac]] w fun e w' => FewS s e ∧ Below w.heap.size w w' := by
  have B0 : Below w.heap.size w (w.alloc (.cells #[.int .i64 s.st, .slice s.EA s.el s.ec, .slice s.AA s.ar.length s.ac] 25)) := (Below.refl _ _).alloc (Nat.le_refl _) _
  have RS := Lib.hid (hr.rs.below B0 (Nat.le_refl _))
  have hel := hr.hel
  have hal := hr.hal
  have hsz := Lib.hid hr.hsz
  unfold maxLen at hel hal
  have HNO := Lib.hid (fewS_no s)
  have HY := Lib.hid (fun (b : Bool) (h : b = true → s.el ≤ 66 ∧ s.ar.length ≤ 40) => fewS_any h)
  clear hr
  generalize FewS s = FP at *
  obtain ⟨sst, EA, el, ev, ec, AA, ar, ac⟩ := s
  dsimp only at *
  generalize ar.length = m at *
  have c0 : (w.alloc (.cells #[.int .i64 sst, .slice EA el ec, .slice AA m ac] 25)).cell? ⟨w.heap.size, 0, none⟩ = some (.int .i64 sst) := by simp
  have c1 : (w.alloc (.cells #[.int .i64 sst, .slice EA el ec, .slice AA m ac] 25)).cell? ⟨w.heap.size, 1, none⟩ = some (.slice EA el ec) := by simp
  have c2 : (w.alloc (.cells #[.int .i64 sst, .slice EA el ec, .slice AA m ac] 25)).cell? ⟨w.heap.size, 2, none⟩ = some (.slice AA m ac) := by simp
  obtain ⟨w0, hw0⟩ : ∃ w0, w0 = w.alloc (.cells #[.int .i64 sst, .slice EA el ec, .slice AA m ac] 25) := ⟨_, rfl⟩
  rw [← hw0] at B0 RS c0 c1 c2
  have HW0 := Lib.hid hw0
  clear hw0
  replace B0 := Lib.hid B0
  go_enter Try.func6, Try.ntmps6
  go_wp2_with fail
  rw [← HW0.out]
  clear HW0
  go_loopg [3] (67 : Nat) (fun gg q wr => ∃ k : Nat, gg = 67 - k ∧ k ≤ el ∧ k ≤ 67 ∧ q = .int .i64 k ∧ w0 = wr)
  case atStart => exact ⟨0, rfl, Nat.zero_le _, by omega, rfl, rfl⟩
  case round =>
    obtain ⟨k, hgg, hk, hk2, rfl, rfl⟩ := hrel
    by_cases hlt : k < el
    · by_cases h67 : k < 67
      · obtain ⟨b, off, rfl, hb, h0⟩ := RS.out k hlt
        have hz := hsz.out k hlt
        generalize ev k = v at *
        unfold maxLen at hz
        by_cases h40 : 40 < v.size
        · have ez : ((40 : Int) < (v.size : Int)) = True := by simp; omega
          go_wp2
          go_ret
          exact ⟨HNO.out, B0.out⟩
        · have ez : ((40 : Int) < (v.size : Int)) = False := by simp; omega
          go_wp2
          go_roundg (67 - (k + 1))
          case rel => exact ⟨k + 1, rfl, by omega, by omega, by go_num, rfl⟩
          case measure => omega
      · obtain rfl : k = 67 := by omega
        have e1 : ((el : Int) ≤ 66) = False := by simp; omega
        have e2 : ((67 : Int) < (el : Int)) = True := by simp; omega
        clear HY
        go_wp2
        all_goals
          go_ret
          exact ⟨HNO.out, B0.out⟩
    · obtain rfl : k = el := by omega
      by_cases h66 : k ≤ 66
      · have e1 : ((k : Int) ≤ 66) = True := by simp; omega
        by_cases h4 : m ≤ 40
        · have e2 : ((m : Int) ≤ 40) = True := by simp; omega
          have HYY := Lib.hid (fun b => HY.out b fun _ => ⟨h66, h4⟩)
          clear HY HNO
          go_wp2
          all_goals
            go_ret
            exact ⟨HYY.out _, B0.out⟩
        · have e2 : ((m : Int) ≤ 40) = False := by simp; omega
          clear HY
          go_wp2
          all_goals
            go_ret
            exact ⟨HNO.out, B0.out⟩
      · have e1 : ((k : Int) ≤ 66) = False := by simp; omega
        clear HY
        go_wp2
        all_goals
          go_ret
          exact ⟨HNO.out, B0.out⟩
end Go.Proofs.Ythcbcgaekbmoaaa
