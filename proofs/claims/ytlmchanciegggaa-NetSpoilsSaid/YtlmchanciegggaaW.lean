/- Equality of transitions and of nets. -/
import Derived.Test.YtlmchanciegggaaV
namespace Go.Proofs.Ytlmchanciegggaa
open Go.RowKit

def eqTV (x y : TransV) : Bool := eqS x.nm y.nm && (x.prio == y.prio && (sameA x.pre.l y.pre.l && (sameA x.post.l y.post.l && sameA x.inh.l y.inh.l)))
def OkTV (x : TransV) : Prop := x.nm.size ≤ maxLen ∧ x.pre.l.length ≤ 1000 ∧ x.post.l.length ≤ 1000 ∧ x.inh.l.length ≤ 1000

set_option maxHeartbeats 4000000 in
theorem sameTrans_any (n1 n2 : ByteArray) (p1 q1 i1 p2 q2 i2 : ArcsV) (r1 r2 : Int) (w : World) (h1 : OkTV ⟨n1, p1, q1, i1, r1⟩) (h2 : OkTV ⟨n2, p2, q2, i2, r2⟩)
    (a1 : ReadsA w p1.A p1.l) (a2 : ReadsA w q1.A q1.l) (a3 : ReadsA w i1.A i1.l) (b1 : ReadsA w p2.A p2.l) (b2 : ReadsA w q2.A q2.l) (b3 : ReadsA w i2.A i2.l) :
    Calls Try.prog 76 #[(.agg #[.string n1, .slice p1.A p1.l.length p1.c, .slice q1.A q1.l.length q1.c, .slice i1.A i1.l.length i1.c, .int .i64 r1]), (.agg #[.string n2, .slice p2.A p2.l.length p2.c, .slice q2.A q2.l.length q2.c, .slice i2.A i2.l.length i2.c, .int .i64 r2])] w (VPost w.heap.size w (.bool (eqTV ⟨n1, p1, q1, i1, r1⟩ ⟨n2, p2, q2, i2, r2⟩))) := by
  have C1 := fun W (hW : Below w.heap.size w W) => sameA_any p1.A p2.A p1.l p2.l p1.c p2.c W (a1.below hW (Nat.le_refl _)) (b1.below hW (Nat.le_refl _)) h1.2.1 h2.2.1
  have C2 := fun W (hW : Below w.heap.size w W) => sameA_any q1.A q2.A q1.l q2.l q1.c q2.c W (a2.below hW (Nat.le_refl _)) (b2.below hW (Nat.le_refl _)) h1.2.2.1 h2.2.2.1
  have C3 := fun W (hW : Below w.heap.size w W) => sameA_any i1.A i2.A i1.l i2.l i1.c i2.c W (a3.below hW (Nat.le_refl _)) (b3.below hW (Nat.le_refl _)) h1.2.2.2 h2.2.2.2
  clear a1 a2 a3 b1 b2 b3 h1 h2
  have hD : eqTV ⟨n1, p1, q1, i1, r1⟩ ⟨n2, p2, q2, i2, r2⟩ = (eqS n1 n2 && (r1 == r2 && (sameA p1.l p2.l && (sameA q1.l q2.l && sameA i1.l i2.l)))) := rfl
  generalize eqTV ⟨n1, p1, q1, i1, r1⟩ ⟨n2, p2, q2, i2, r2⟩ = S at *
  generalize sameA p1.l p2.l = t1 at *
  generalize sameA q1.l q2.l = t2 at *
  generalize sameA i1.l i2.l = t3 at *
  have hq : eqS n1 n2 = (n1.toList == n2.toList) := rfl
  generalize eqS n1 n2 = t0 at *
  replace C1 := Lib.hid C1
  replace C2 := Lib.hid C2
  replace C3 := Lib.hid C3
  have B0 : Hid (Below w.heap.size w ((w.alloc (.cells #[.string n1, .slice p1.A p1.l.length p1.c, .slice q1.A q1.l.length q1.c, .slice i1.A i1.l.length i1.c, .int .i64 r1] 53)).alloc (.cells #[.string n2, .slice p2.A p2.l.length p2.c, .slice q2.A q2.l.length q2.c, .slice i2.A i2.l.length i2.c, .int .i64 r2] 53))) := ((Below.refl _ _).alloc (Nat.le_refl _) _).alloc (by simp) _
  cases t0
  · have E : Hid (false = S) := by show _ = _; rw [hD]; rfl
    have hq2 := hq.symm
    clear hD hq
    go_enter Try.func76, Try.ntmps76
    go_wp2
    go_ret
    exact ⟨ret_b E.out, B0.out⟩
  · have hq2 := hq.symm
    clear hq
    by_cases hp : r1 = r2
    · have hp2 : (r1 == r2) = true := by simpa using hp
      rw [hp2] at hD
      clear hp
      cases t1
      · have E : Hid (false = S) := by show _ = _; rw [hD]; rfl
        clear hD
        go_enter Try.func76, Try.ntmps76
        go_wp2_with fail
        refine (C1.out _ B0.out).mono ?_
        rintro e w1 ⟨rfl, K⟩
        have K2 := Lib.hid (B0.out.trans (K.mono (by simp; omega)))
        clear K
        go_wp2
        go_ret
        exact ⟨ret_b E.out, K2.out⟩
      · cases t2
        · have E : Hid (false = S) := by show _ = _; rw [hD]; rfl
          clear hD
          go_enter Try.func76, Try.ntmps76
          go_wp2_with fail
          refine (C1.out _ B0.out).mono ?_
          rintro e w1 ⟨rfl, K⟩
          have c1 : w1.cell? ⟨w.heap.size, 2, none⟩ = some (.slice q1.A q1.l.length q1.c) := by rw [K.cell (by simp; omega)]; simp
          have c2 : w1.cell? ⟨w.heap.size + 1, 2, none⟩ = some (.slice q2.A q2.l.length q2.c) := by rw [K.cell (by simp)]; simp
          have K2 := Lib.hid (B0.out.trans (K.mono (by simp; omega)))
          clear K
          go_wp2_with fail
          refine (C2.out _ K2.out).mono ?_
          rintro e w2 ⟨rfl, K⟩
          have K3 := Lib.hid (K2.out.trans (K.mono K2.out.size))
          clear K
          go_wp2
          go_ret
          exact ⟨ret_b E.out, K3.out⟩
        · have E : Hid (t3 = S) := by show _ = _; rw [hD]; rfl
          clear hD
          go_enter Try.func76, Try.ntmps76
          go_wp2_with fail
          refine (C1.out _ B0.out).mono ?_
          rintro e w1 ⟨rfl, K⟩
          have c1 : w1.cell? ⟨w.heap.size, 2, none⟩ = some (.slice q1.A q1.l.length q1.c) := by rw [K.cell (by simp; omega)]; simp
          have c2 : w1.cell? ⟨w.heap.size + 1, 2, none⟩ = some (.slice q2.A q2.l.length q2.c) := by rw [K.cell (by simp)]; simp
          have c3 : w1.cell? ⟨w.heap.size, 3, none⟩ = some (.slice i1.A i1.l.length i1.c) := by rw [K.cell (by simp; omega)]; simp
          have c4 : w1.cell? ⟨w.heap.size + 1, 3, none⟩ = some (.slice i2.A i2.l.length i2.c) := by rw [K.cell (by simp)]; simp
          have K2 := Lib.hid (B0.out.trans (K.mono (by simp; omega)))
          clear K
          go_wp2_with fail
          refine (C2.out _ K2.out).mono ?_
          rintro e w2 ⟨rfl, K⟩
          have d3 : w2.cell? ⟨w.heap.size, 3, none⟩ = some (.slice i1.A i1.l.length i1.c) := (K.cell (World.block_lt_of_cell? w1 ⟨w.heap.size, 3, none⟩ c3)).trans c3
          have d4 : w2.cell? ⟨w.heap.size + 1, 3, none⟩ = some (.slice i2.A i2.l.length i2.c) := (K.cell (World.block_lt_of_cell? w1 ⟨w.heap.size + 1, 3, none⟩ c4)).trans c4
          have K3 := Lib.hid (K2.out.trans (K.mono K2.out.size))
          clear K c1 c2 c3 c4
          go_wp2_with fail
          refine (C3.out _ K3.out).mono ?_
          rintro e w3 ⟨rfl, K⟩
          have K4 := Lib.hid (K3.out.trans (K.mono K3.out.size))
          clear K
          go_wp2
          go_ret
          exact ⟨ret_b E.out, K4.out⟩
    · have hp2 : (r1 == r2) = false := by simpa using hp
      have E : Hid (false = S) := by show _ = _; rw [hD, hp2]; rfl
      clear hD hp
      go_enter Try.func76, Try.ntmps76
      go_wp2
      go_ret
      exact ⟨ret_b E.out, B0.out⟩

set_option maxHeartbeats 4000000 in
theorem sameT_any (A B : Option Addr) (l m : List TransV) (c d : Nat) (w : World) (hr : ReadsT w A l) (hs : ReadsT w B m) (hl : OkT l) (hm : OkT m) :
    Calls Try.prog 75 #[.slice A l.length c, .slice B m.length d, .func (.func 76) #[] #[]] w (VPost w.heap.size w (.bool (sameT l m))) := by
  have H1 : Hid (l.length ≠ m.length → false = sameT l m) := fun h => (sameBy_ne h).symm
  have H2 : Hid (∀ k, k < l.length → eqTr l m k = false → false = sameT l m) := fun k h1 h2 => (sameBy_at h1 h2).symm
  have H3 : Hid (l.length = m.length → (∀ k, k < l.length → eqTr l m k = true) → true = sameT l m) := fun h1 h2 => (sameBy_yes h1 h2).symm
  generalize sameT l m = S at *
  have HR := Lib.hid hr
  have HS := Lib.hid hs
  have ZL := Lib.hid hl.2
  have ZM := Lib.hid hm.2
  have hl1 := hl.1
  clear hr hs
  by_cases he : l.length = m.length
  · rw [← he]
    have HE := Lib.hid he
    clear he hm hl
    generalize hn : l.length = n at *
    have HN := Lib.hid hn
    clear hn
    have B0 : Hid (Below w.heap.size w w) := Below.refl _ _
    go_enter Try.func75, Try.ntmps75
    go_wp2
    go_loopw [17] (fun q wr => ∃ k : Nat, k ≤ n ∧ q = .int .i64 k ∧ Hid (Below w.heap.size w wr) ∧ Hid (∀ j, j < k → eqTr l m j = true)) (fun q _ => n - (intOf q).toNat)
    case atStart => exact ⟨0, by omega, rfl, B0, fun j hj => absurd hj (by omega)⟩
    case round =>
      obtain ⟨k, hk, rfl, HB, HM⟩ := hrel
      by_cases hlt : k < n
      · obtain ⟨b0, off, rfl, hb0, d0, d1, d2, d3, d4, x1, x2, x3⟩ := (HR.out.below HB.out (Nat.le_refl _)) k (by rw [HN.out]; exact hlt)
        obtain ⟨b1, off1, rfl, hb1, f0, f1, f2, f3, f4, y1, y2, y3⟩ := (HS.out.below HB.out (Nat.le_refl _)) k (by rw [← HE.out]; exact hlt)
        have HT := Lib.hid (H2.out k hlt)
        have HF : Hid (eqTr l m k = true → ∀ j, j < k + 1 → eqTr l m j = true) := upto_snoc HM.out
        have z1 := ZL.out k
        have z2 := ZM.out k
        have C := fun W (hW : Below wr.heap.size wr W) => sameTrans_any (tA l k).nm (tA m k).nm (tA l k).pre (tA l k).post (tA l k).inh (tA m k).pre (tA m k).post (tA m k).inh (tA l k).prio (tA m k).prio W z1 z2
          (x1.below hW (Nat.le_refl _)) (x2.below hW (Nat.le_refl _)) (x3.below hW (Nat.le_refl _)) (y1.below hW (Nat.le_refl _)) (y2.below hW (Nat.le_refl _)) (y3.below hW (Nat.le_refl _))
        have HQ : Hid (eqTr l m k = eqTV ⟨(tA l k).nm, (tA l k).pre, (tA l k).post, (tA l k).inh, (tA l k).prio⟩ ⟨(tA m k).nm, (tA m k).pre, (tA m k).post, (tA m k).inh, (tA m k).prio⟩) := rfl
        clear HM x1 x2 x3 y1 y2 y3 z1 z2
        generalize (tA l k).nm = n1 at *
        generalize (tA l k).pre = p1 at *
        generalize (tA l k).post = q1 at *
        generalize (tA l k).inh = i1 at *
        generalize (tA l k).prio = r1 at *
        generalize (tA m k).nm = n2 at *
        generalize (tA m k).pre = p2 at *
        generalize (tA m k).post = q2 at *
        generalize (tA m k).inh = i2 at *
        generalize (tA m k).prio = r2 at *
        generalize eqTV ⟨n1, p1, q1, i1, r1⟩ ⟨n2, p2, q2, i2, r2⟩ = t at *
        replace C := Lib.hid C
        have BA : Hid (Below wr.heap.size wr ((wr.alloc (.cells #[.string n1, .slice p1.A p1.l.length p1.c, .slice q1.A q1.l.length q1.c, .slice i1.A i1.l.length i1.c, .int .i64 r1] 53)).alloc (.cells #[.string n2, .slice p2.A p2.l.length p2.c, .slice q2.A q2.l.length q2.c, .slice i2.A i2.l.length i2.c, .int .i64 r2] 53))) := ((Below.refl _ _).alloc (Nat.le_refl _) _).alloc (by simp) _
        cases t
        · have E := Lib.hid (HT.out (HQ.out.trans rfl))
          clear HT HF
          go_wp2_with fail
          refine (C.out _ BA.out).mono ?_
          rintro e w2 ⟨rfl, K⟩
          have K2 := Lib.hid (HB.out.trans ((BA.out.trans (K.mono (by simp; omega))).mono HB.out.size))
          clear K
          go_wp2
          go_ret
          exact ⟨ret_b E.out, K2.out⟩
        · have G := Lib.hid (HF.out (HQ.out.trans rfl))
          clear HT HF
          go_wp2_with fail
          refine (C.out _ BA.out).mono ?_
          rintro e w2 ⟨rfl, K⟩
          have K2 := Lib.hid (HB.out.trans ((BA.out.trans (K.mono (by simp; omega))).mono HB.out.size))
          clear K
          go_wp2
          go_roundw
          case rel => exact ⟨k + 1, by omega, by go_num, K2, G⟩
          case measure => simp [intOf]; omega
      · have E := Lib.hid (H3.out HE.out (fun j hj => HM.out j (by omega)))
        clear HM
        go_wp2
        go_ret
        exact ⟨ret_b E.out, HB.out⟩
  · have E := Lib.hid (H1.out he)
    generalize l.length = n1 at *
    generalize m.length = n2 at *
    have hx : ((n1 : Int) != (n2 : Int)) = true := by simp; omega
    have hx2 : ((n1 : Int) == (n2 : Int)) = false := by simp; omega
    clear H1 H2 H3 he
    go_enter Try.func75, Try.ntmps75
    go_wp2
    go_ret
    exact ⟨ret_b E.out, Below.refl _ _⟩
end Go.Proofs.Ytlmchanciegggaa
