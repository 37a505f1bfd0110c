/- Systems: Valid and Next of both. -/
import Derived.Test.YthcbcgaekbmoaaaRF
namespace Go.Proofs.Ythcbcgaekbmoaaa
open Go.RowKit

theorem field_fault (a b : Int) (w : World) : (Instr.field 30 (.agg #[.int .i64 a, .int .i64 b]) 0).run Try.prog w = .ok (.int .i64 a) w := by kernel_rfl
set_option maxHeartbeats 4000000 in
set_option maxRecDepth 100000 in
theorem valid_sys (s : SysV) (w : World) (hr : SysR w s) :
    Calls Try.prog 27 #[.agg #[.int .i64 s.st, .slice s.EA s.el s.ec, .slice s.AA s.ar.length s.ac]] w (VPost w.heap.size w (.bool (okS s))) := by
  have B0 : Below w.heap.size w (w.alloc (.cells #[.int .i64 s.st, .slice s.EA s.el s.ec, .slice s.AA s.ar.length s.ac] 25)) := (Below.refl _ _).alloc (Nat.le_refl _) _
  have C := check_any s (w.alloc (.cells #[.int .i64 s.st, .slice s.EA s.el s.ec, .slice s.AA s.ar.length s.ac] 25)) (hr.below B0 (Nat.le_refl _))
  clear hr
  generalize okS s = ok at *
  obtain ⟨sst, EA, el, ev, ec, AA, ar, ac⟩ := s
  dsimp only at *
  generalize ar.length = m at *
  replace B0 := Lib.hid B0
  replace C := Lib.hid C
  have hfd := field_fault
  go_enter Try.func27, Try.ntmps27
  go_wp2_with fail
  refine C.out.mono ?_
  rintro e w1 ⟨E, At, rfl, hE, K⟩
  have K1 := Lib.hid (B0.out.trans (K.mono (by rw [World.size_alloc]; omega)))
  clear K C B0
  cases ok
  · have ez : (E == 0) = false := by
      simp only [beq_eq_false_iff_ne, ne_eq]
      intro h
      have := hE.1 h
      cases this
    clear hE
    go_wp2
    go_ret
    exact ⟨rfl, K1.out⟩
  · have ez : (E == 0) = true := by simpa using hE.2 rfl
    clear hE
    go_wp2
    go_ret
    exact ⟨rfl, K1.out⟩
set_option maxHeartbeats 4000000 in
set_option maxRecDepth 100000 in
theorem rvalid_sys (s : SysV) (w : World) (hr : SysR w s) :
    Calls Try.prog 28 #[.agg #[.int .i64 s.st, .slice s.EA s.el s.ec, .slice s.AA s.ar.length s.ac]] w (VPost w.heap.size w (.bool (okS s))) := by
  have B0 : Below w.heap.size w (w.alloc (.cells #[.int .i64 s.st, .slice s.EA s.el s.ec, .slice s.AA s.ar.length s.ac] 25)) := (Below.refl _ _).alloc (Nat.le_refl _) _
  have C := rcheck_any s (w.alloc (.cells #[.int .i64 s.st, .slice s.EA s.el s.ec, .slice s.AA s.ar.length s.ac] 25)) (hr.below B0 (Nat.le_refl _))
  clear hr
  generalize okS s = ok at *
  obtain ⟨sst, EA, el, ev, ec, AA, ar, ac⟩ := s
  dsimp only at *
  generalize ar.length = m at *
  replace B0 := Lib.hid B0
  replace C := Lib.hid C
  have hfd := field_fault
  go_enter Try.func28, Try.ntmps28
  go_wp2_with fail
  refine C.out.mono ?_
  rintro e w1 ⟨E, At, rfl, hE, K⟩
  have K1 := Lib.hid (B0.out.trans (K.mono (by rw [World.size_alloc]; omega)))
  clear K C B0
  cases ok
  · have ez : (E == 0) = false := by
      simp only [beq_eq_false_iff_ne, ne_eq]
      intro h
      have := hE.1 h
      cases this
    clear hE
    go_wp2
    go_ret
    exact ⟨rfl, K1.out⟩
  · have ez : (E == 0) = true := by simpa using hE.2 rfl
    clear hE
    go_wp2
    go_ret
    exact ⟨rfl, K1.out⟩
/-- the first arc's end -/
def nextE (l : List EdgeV) (x y : Int) : Int := match l.find? (fun a => a.f == x && a.t == y) with
  | some a => a.o
  | none => -1
def nextV (s : SysV) (x y : Int) : Int := if okS s = true then nextE s.ar x y else -1
theorem next_drop {l : List EdgeV} {x y : Int} {k : Nat} (h : k < l.length) : nextE (l.drop k) x y = if (eA l k).f = x ∧ (eA l k).t = y then (eA l k).o else nextE (l.drop (k + 1)) x y := by
  have e : l.drop k = eA l k :: l.drop (k + 1) := by
    rw [List.drop_eq_getElem_cons h]
    unfold eA
    rw [List.getElem?_eq_getElem h]
    rfl
  rw [e]
  unfold nextE
  rw [List.find?_cons]
  by_cases h1 : (eA l k).f = x
  · have z1 : ((eA l k).f == x) = true := by simpa using h1
    by_cases h2 : (eA l k).t = y
    · have z2 : ((eA l k).t == y) = true := by simpa using h2
      rw [if_pos ⟨h1, h2⟩, z1, z2]
      rfl
    · have z2 : ((eA l k).t == y) = false := by simpa using h2
      rw [if_neg (fun h => h2 h.2), z1, z2]
      rfl
  · have z1 : ((eA l k).f == x) = false := by simpa using h1
    rw [if_neg (fun h => h1 h.1), z1]
    rfl
set_option maxHeartbeats 4000000 in
set_option maxRecDepth 100000 in
theorem next_any (s : SysV) (x y : Int) (w : World) (hr : SysR w s) :
    Calls Try.prog 14 #[.agg #[.int .i64 s.st, .slice s.EA s.el s.ec, .slice s.AA s.ar.length s.ac], .int .i64 x, .int .i64 y] w (VPost w.heap.size w (.int .i64 (nextV s x y))) := by
  have B0 : Below w.heap.size w (w.alloc (.cells #[.int .i64 s.st, .slice s.EA s.el s.ec, .slice s.AA s.ar.length s.ac] 25)) := (Below.refl _ _).alloc (Nat.le_refl _) _
  have C := valid_sys s (w.alloc (.cells #[.int .i64 s.st, .slice s.EA s.el s.ec, .slice s.AA s.ar.length s.ac] 25)) (hr.below B0 (Nat.le_refl _))
  have RE := Lib.hid hr.re
  have hal := hr.hal
  have c2 : (w.alloc (.cells #[.int .i64 s.st, .slice s.EA s.el s.ec, .slice s.AA s.ar.length s.ac] 25)).cell? ⟨w.heap.size, 2, none⟩ = some (.slice s.AA s.ar.length s.ac) := by simp
  have HNO : Hid (okS s = false → nextV s x y = -1) := fun h => by show _ = _; unfold nextV; rw [h]; rfl
  have HYES : Hid (okS s = true → nextV s x y = nextE (s.ar.drop 0) x y) := fun h => by show _ = _; unfold nextV; rw [if_pos h]; rfl
  clear hr
  generalize okS s = ok at *
  generalize nextV s x y = V at *
  obtain ⟨sst, EA, el, ev, ec, AA, ar, ac⟩ := s
  dsimp only at *
  have HD := Lib.hid (fun k (h : k < ar.length) => next_drop (l := ar) (x := x) (y := y) h)
  have HEND : Hid (nextE (ar.drop ar.length) x y = -1) := by show _ = _; rw [List.drop_length]; rfl
  obtain ⟨w0, hw0⟩ : ∃ w0, w0 = w.alloc (.cells #[.int .i64 sst, .slice EA el ec, .slice AA ar.length ac] 25) := ⟨_, rfl⟩
  have hlt0 : w.heap.size < w0.heap.size := by rw [hw0, World.size_alloc]; omega
  rw [← hw0] at B0 C c2
  have HW0 := Lib.hid hw0
  clear hw0
  replace B0 := Lib.hid B0
  replace C := Lib.hid C
  go_enter Try.func14, Try.ntmps14
  go_wp2_with fail
  rw [← HW0.out]
  refine C.out.mono ?_
  rintro e w1 ⟨rfl, K⟩
  have B1 := Lib.hid (B0.out.trans (K.mono (by omega)))
  have q2 := keepc c2 K
  clear C c2 HW0
  cases ok
  · have E := Lib.hid (HNO.out rfl)
    clear HNO HYES K
    go_wp2
    go_ret
    exact ⟨by rw [E.out]; rfl, B1.out⟩
  · have E0 := Lib.hid (HYES.out rfl)
    have hs1 : w.heap.size ≤ w1.heap.size := B1.out.size
    clear HNO HYES K
    go_wp2
    go_loopg [15] ar.length (fun gg q wr => ∃ k : Nat, gg = ar.length - k ∧ k ≤ ar.length ∧ q = .int .i64 k ∧ Hid (V = nextE (ar.drop k) x y) ∧ Hid (Below w.heap.size w wr))
    case atStart => exact ⟨0, rfl, Nat.zero_le _, rfl, E0.out, B1.out⟩
    case round =>
      obtain ⟨k, hgg, hk, rfl, HV, BW⟩ := hrel
      by_cases hlt : k < ar.length
      · obtain ⟨b, off, rfl, hb, h0, h1, h2⟩ := (RE.out.below BW.out (Nat.le_refl _)) k hlt
        have hd := HD.out k hlt
        have hV := HV.out
        rw [hd] at hV
        have gs : w.heap.size ≤ wr.heap.size := BW.out.size
        clear hd
        generalize eA ar k = a at *
        obtain ⟨af, at', ao⟩ := a
        dsimp only at *
        have B2 : Hid (Below w.heap.size w (wr.alloc (.cells #[.int .i64 af, .int .i64 at', .int .i64 ao] 43))) := BW.out.alloc gs _
        by_cases e1 : af = x
        · by_cases e2 : at' = y
          · rw [if_pos ⟨e1, e2⟩] at hV
            have HV2 := Lib.hid hV
            have z1 : (af == x) = true := by simpa using e1
            have z2 : (at' == y) = true := by simpa using e2
            clear hV HV e1 e2
            go_wp2
            go_ret
            exact ⟨by rw [HV2.out]; rfl, B2.out⟩
          · rw [if_neg (fun h => e2 h.2)] at hV
            have HV2 := Lib.hid hV
            have z1 : (af == x) = true := by simpa using e1
            have z2 : (at' == y) = false := by simpa using e2
            clear hV HV e1 e2
            go_wp2
            go_roundg (ar.length - (k + 1))
            case rel => exact ⟨k + 1, rfl, by omega, by go_num, HV2.out, B2.out⟩
            case measure => omega
        · rw [if_neg (fun h => e1 h.1)] at hV
          have HV2 := Lib.hid hV
          have z1 : (af == x) = false := by simpa using e1
          clear hV HV e1
          go_wp2
          go_roundg (ar.length - (k + 1))
          case rel => exact ⟨k + 1, rfl, by omega, by go_num, HV2.out, B2.out⟩
          case measure => omega
      · obtain rfl : k = ar.length := by omega
        have HV2 := Lib.hid (HV.out.trans HEND.out)
        go_wp2
        go_ret
        exact ⟨by rw [HV2.out]; rfl, BW.out⟩
end Go.Proofs.Ythcbcgaekbmoaaa
