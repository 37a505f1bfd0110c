/- Contracts of the reference's greatest common divisor and normal form. -/
import Derived.Test.YtdmcpnpiepmnkaaDoorFB
namespace Go.Proofs.YtdmcpnpiepmnkaaDoor
open Go.RowKit

/-- the three blocks of the common divisor -/
def ComInv (g : Nat) (a b : Nat) (w : World) : Prop := Bl w g a ∧ Bl w (g + 1) b ∧ Bl w (g + 1 + 1) 0
section
variable {g a b : Nat} {w w' : World}
theorem ComInv.below (h : ComInv g a b w) (hb : Below w.heap.size w w') : ComInv g a b w' := ⟨h.1.below hb h.1.lt, h.2.1.below hb h.2.1.lt, h.2.2.below hb h.2.2.lt⟩
theorem ComInv.alloc (h : ComInv g a b w) (o : Obj) : ComInv g a b (w.alloc o) := ⟨h.1.alloc o, h.2.1.alloc o, h.2.2.alloc o⟩
theorem ComInv.size (h : ComInv g a b w) : g + 3 ≤ w.heap.size := h.2.2.lt
theorem ComInv.put (h : ComInv g a b w) (m n : Nat) : ComInv g m n ((((w.setCell ⟨g, 0, none⟩ (.int .u64 (hI m))).setCell ⟨g, 1, none⟩ (.int .u64 (lI m))).setCell ⟨g + 1, 0, none⟩ (.int .u64 (hI n))).setCell ⟨g + 1, 1, none⟩ (.int .u64 (lI n))) :=
  ⟨((h.1.put m).far (by simp) _).far (by simp) _, ((h.2.1.far (by simp) _).far (by simp) _).put n, (((h.2.2.far (by simp; omega) _).far (by simp; omega) _).far (by simp) _).far (by simp) _⟩
theorem ComInv.cells (h : ComInv g a b w) : (w.cell? ⟨g, 0, none⟩ = some (.int .u64 (hI a)) ∧ w.cell? ⟨g, 1, none⟩ = some (.int .u64 (lI a)) ∧ w.cell? ⟨g + 1, 0, none⟩ = some (.int .u64 (hI b)) ∧ w.cell? ⟨g + 1, 1, none⟩ = some (.int .u64 (lI b))) ∧
    (w.cell? ⟨g + 1 + 1, 0, none⟩ = some (.int .u64 (hI 0)) ∧ w.cell? ⟨g + 1 + 1, 1, none⟩ = some (.int .u64 (lI 0))) ∧
    (w.frozen? ⟨g, 0, none⟩ = false ∧ w.frozen? ⟨g, 1, none⟩ = false ∧ w.frozen? ⟨g + 1, 0, none⟩ = false ∧ w.frozen? ⟨g + 1, 1, none⟩ = false ∧ w.frozen? ⟨g + 1 + 1, 0, none⟩ = false ∧ w.frozen? ⟨g + 1 + 1, 1, none⟩ = false) :=
  ⟨⟨h.1.c0, h.1.c1, h.2.1.c0, h.2.1.c1⟩, ⟨h.2.2.c0, h.2.2.c1⟩, h.1.f0, h.1.f1, h.2.1.f0, h.2.1.f1, h.2.2.f0, h.2.2.f1⟩
end
theorem com_start (a b : Nat) (w : World) : ComInv w.heap.size a b (((w.alloc (.cells #[.int .u64 (hI a), .int .u64 (lI a)] 36)).alloc (.cells #[.int .u64 (hI b), .int .u64 (lI b)] 36)).alloc (.cells #[.int .u64 0, .int .u64 0] 36)) := by
  have z : (Obj.cells #[.int .u64 0, .int .u64 0] 36) = .cells #[.int .u64 (hI 0), .int .u64 (lI 0)] 36 := rfl
  rw [z]
  exact ⟨((Bl.new' w a rfl).alloc _).alloc _, (Bl.new' _ b (by simp)).alloc _, Bl.new' _ 0 (by simp)⟩
theorem nonzero (b : Nat) (h : 0 < b) : hI b ≠ 0 ∨ lI b ≠ 0 := by
  unfold hI lI
  omega
set_option maxHeartbeats 4000000 in
set_option maxRecDepth 1000000 in
theorem common_w (a b : Nat) (w : World) (ha : a < 340282366920938463463374607431768211456) (hb : b < 170141183460469231731687303715884105728) :
    Calls Tryd.prog 13 #[.agg #[.int .u64 (hI a), .int .u64 (lI a)], .agg #[.int .u64 (hI b), .int .u64 (lI b)]] w fun e w' => e = .returned (.agg #[.int .u64 (hI (Nat.gcd a b)), .int .u64 (lI (Nat.gcd a b))]) ∧ Below w.heap.size w w' := by
  have HA := Lib.hid ha
  have HB := Lib.hid hb
  clear ha hb
  go_enter Tryd.func13, Tryd.ntmps13
  go_wp2_with fail
  go_loopg [] b (fun k wr => ∃ x : Nat, Hid (x < 340282366920938463463374607431768211456) ∧ Hid (k < 170141183460469231731687303715884105728) ∧ Hid (Nat.gcd x k = Nat.gcd a b) ∧ Hid (ComInv w.heap.size x k wr) ∧ Hid (Below w.heap.size w wr))
  case atStart =>
    exact ⟨a, HA.out, HB.out, rfl, com_start a b w, (((Below.refl _ _).alloc (Nat.le_refl _) _).alloc (by first | (simp; done) | (simp; omega)) _).alloc (by first | (simp; done) | (simp; omega)) _⟩
  case round =>
    obtain ⟨x, HX, HK, HE, HI, HB⟩ := hrel
    obtain ⟨C1, C2, C3⟩ := HI.out.cells
    by_cases h0 : gk = 0
    · subst h0
      rw [Nat.gcd_zero_right] at HE
      have z1 : hI 0 = 0 := rfl
      have z2 : lI 0 = 0 := rfl
      go_wp2_with fail
      refine bodyPost_ret (v := .agg #[.int .u64 (hI x), .int .u64 (lI x)]) (by simp [results, Tryd.results13, go_sem, *]) rfl ⟨by rw [HE.out], ?_⟩
      exact (HB.out.setCell (by simp; omega) _).setCell (by simp; omega) _
    · have h1 : 0 < gk := by omega
      have HP := Lib.hid h1
      have HN := Lib.hid (nonzero gk h1)
      clear h0 h1
      rcases HN.out with n1 | n1
      all_goals
        go_wp2_with fail
        go_at_call 18
        refine (divide_w x gk _ HX.out HP.out HK.out).mono ?_
        rintro _ w1 ⟨rfl, hb⟩
        have HG := Lib.hid HI.out.size
        have HI1 := Lib.hid (HI.out.below hb)
        have HB1 := Lib.hid (HB.out.trans (hb.mono (Nat.le_trans (Nat.le_add_right _ 3) HG.out)))
        clear hb C1 C2 C3
        go_wp2_with fail
        generalize hr : x % gk = r at *
        have B5 := Lib.hid (Bl.new' (w1.alloc (.cells #[.int .u64 (hI (x / gk)), .int .u64 (lI (x / gk))] 36)) r (k := w1.heap.size + 1) (by simp))
        have HI2 := Lib.hid ((HI1.out.alloc (.cells #[.int .u64 (hI (x / gk)), .int .u64 (lI (x / gk))] 36)).alloc (.cells #[.int .u64 (hI r), .int .u64 (lI r)] 36))
        have HG1 := Lib.hid HI1.out.size
        have HB2 := Lib.hid ((HB1.out.alloc (by have := HG1.out; omega) (.cells #[.int .u64 (hI (x / gk)), .int .u64 (lI (x / gk))] 36)).alloc (by have := HG1.out; simp; omega) (.cells #[.int .u64 (hI r), .int .u64 (lI r)] 36))
        have HR := Lib.hid hr
        have q1 : ¬ w1.heap.size + 1 = w.heap.size := by have := HG1.out; omega
        have q2 : ¬ w.heap.size = w1.heap.size + 1 := by have := HG1.out; omega
        have q3 : ¬ w1.heap.size = w.heap.size := by have := HG1.out; omega
        have q4 : ¬ w.heap.size = w1.heap.size := by have := HG1.out; omega
        clear hr HI1 HB1 HG1
        generalize (w1.alloc (.cells #[.int .u64 (hI (x / gk)), .int .u64 (lI (x / gk))] 36)).alloc (.cells #[.int .u64 (hI r), .int .u64 (lI r)] 36) = w2 at *
        generalize w1.heap.size = z at *
        obtain ⟨C1, C2, C3⟩ := HI2.out.cells
        have D1 := B5.out.c0
        have D2 := B5.out.c1
        go_region
        all_goals
          go_wp2_with fail
          go_roundg r
          case measure => have := HR.out; have := HP.out; exact HR.out ▸ Nat.mod_lt _ HP.out
          case rel =>
            have h3 : r < gk := HR.out ▸ Nat.mod_lt _ HP.out
            refine ⟨gk, by have := HK.out; show _ < _; omega, by have := HK.out; show _ < _; omega, ?_, HI2.out.put gk r, ?_⟩
            · show _ = _
              rw [← HE.out, ← HR.out, Nat.gcd_comm gk, ← Nat.gcd_rec, Nat.gcd_comm]
            · have K := (((HB2.out.setCell (p := ⟨w.heap.size, 0, none⟩) (Nat.le_refl _) (.int .u64 (hI gk))).setCell (p := ⟨w.heap.size, 1, none⟩) (Nat.le_refl _) (.int .u64 (lI gk))).setCell (p := ⟨w.heap.size + 1, 0, none⟩) (Nat.le_succ _) (.int .u64 (hI r))).setCell (p := ⟨w.heap.size + 1, 1, none⟩) (Nat.le_succ _) (.int .u64 (lI r))
              first | exact K | exact K.drew
end Go.Proofs.YtdmcpnpiepmnkaaDoor
