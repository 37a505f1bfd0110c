/- Bounded natural solutions: the iterator. -/
import Derived.Test.YtneediihponfiaaNK
import Derived.Laws.EntriesVeiled
namespace Go.Proofs.Ytneediihponfiaa
open Go.RowKit

theorem cellA {w : World} {b i : Nat} {v : Value} (h : w.cell? ⟨b, i, none⟩ = some v) (ob : Obj) : (w.alloc ob).cell? ⟨b, i, none⟩ = some v :=
  keepc h ((Below.refl _ _).alloc (Nat.le_refl _) ob)
theorem clone_w (A : Option Addr) (a : List Int) (ca : Nat) (w : World) (ra : ReadsV w A a) (hl : a.length * 8 ≤ 140737488351232) :
    Calls Try.prog 27 #[.slice A a.length ca] w fun e w' => ∃ A2 c2, e = .returned (.slice A2 a.length c2) ∧ w'.ownsRow w.heap.size 2 1 (.slice A2 a.length c2) a.length (a.map (Value.int .i64)) ∧ Below w.heap.size w w' := by
  refine (clone_law A a ca w ra hl).mono ?_
  rintro e w1 ⟨v, rfl, hown, hb⟩
  obtain ⟨A2, c2, rfl, R2⟩ := ReadsV.own hown
  exact ⟨A2, c2, rfl, hown, hb⟩
/-- three boxes -/
theorem three_boxes (x : World) (v0 v1 v2 : Value) (t0 t1 t2 : TypeId) : ∀ y, y = ((x.alloc (.cells #[v0] t0)).alloc (.cells #[v1] t1)).alloc (.cells #[v2] t2) →
      y.cell? ⟨x.heap.size, 0, none⟩ = some v0 ∧ y.cell? ⟨x.heap.size + 1, 0, none⟩ = some v1 ∧ y.cell? ⟨x.heap.size + 1 + 1, 0, none⟩ = some v2 ∧ y.heap.size = x.heap.size + 1 + 1 + 1 ∧ Below x.heap.size x y := by
  rintro y rfl
  have b0 := Boxed.new x t0 v0
  have b1 := Boxed.new (x.alloc (.cells #[v0] t0)) t1 v1
  rw [World.size_alloc] at b1
  have b2 := Boxed.new ((x.alloc (.cells #[v0] t0)).alloc (.cells #[v1] t1)) t2 v2
  rw [World.size_alloc, World.size_alloc] at b2
  exact ⟨((b0.alloc _).alloc _).cell, (b1.alloc _).cell, b2.cell, by rw [World.size_alloc, World.size_alloc, World.size_alloc], (((Below.refl _ _).alloc (Nat.le_refl _) _).alloc (by simp) _).alloc (by simp; omega) _⟩
set_option maxHeartbeats 4000000 in
set_option maxRecDepth 100000 in
theorem sols_walk (u b : List Int) (U Bb : Option Addr) (cu cb l aB bB uB : Nat) (W : World) (Q : World → Prop) (hu : W.cell? ⟨uB, 0, none⟩ = some (.slice U u.length cu)) (hb : W.cell? ⟨bB, 0, none⟩ = some (.slice Bb b.length cb)) (hrb : ReadsV W Bb b) (hul : u.length ≤ 64) (hbl : b.length ≤ 64)
    (hF : ∀ w5 x1 A2 c2 y, (W.alloc (.cells #[.func (.yield l) #[] #[]] 48)).grownBy w5 none → w5.ownsRow W.heap.size 2 1 (.slice (some ⟨W.heap.size + 1, 0, none⟩) u.length u.length) u.length (madeCells (Value.int IntKind.i64 0).cells (u.length * 1)).toList →
      Below (w5.alloc (.cells #[.slice (some ⟨W.heap.size + 1, 0, none⟩) u.length u.length] 23)).heap.size (w5.alloc (.cells #[.slice (some ⟨W.heap.size + 1, 0, none⟩) u.length u.length] 23)) x1 → x1.ownsRow (w5.alloc (.cells #[.slice (some ⟨W.heap.size + 1, 0, none⟩) u.length u.length] 23)).heap.size 2 1 (.slice A2 b.length c2) b.length (b.map (Value.int .i64)) →
      y.cell? ⟨x1.heap.size, 0, none⟩ = some (.slice A2 b.length c2) → y.cell? ⟨x1.heap.size + 1, 0, none⟩ = some (.func (.func 33) #[] #[.pointer (some ⟨aB, 0, none⟩), .pointer (some ⟨x1.heap.size, 0, none⟩), .pointer (some ⟨w5.heap.size, 0, none⟩)]) → y.cell? ⟨x1.heap.size + 1 + 1, 0, none⟩ = some (.func (.func 34) #[] #[.pointer (some ⟨w5.heap.size, 0, none⟩), .pointer (some ⟨x1.heap.size, 0, none⟩), .pointer (some ⟨W.heap.size, 0, none⟩), .pointer (some ⟨uB, 0, none⟩), .pointer (some ⟨x1.heap.size + 1, 0, none⟩), .pointer (some ⟨x1.heap.size + 1 + 1, 0, none⟩)]) → y.heap.size = x1.heap.size + 1 + 1 + 1 → Below x1.heap.size x1 y →
      Calls Try.prog 34 #[.int .i64 0, .pointer (some ⟨w5.heap.size, 0, none⟩), .pointer (some ⟨x1.heap.size, 0, none⟩), .pointer (some ⟨W.heap.size, 0, none⟩), .pointer (some ⟨uB, 0, none⟩), .pointer (some ⟨x1.heap.size + 1, 0, none⟩), .pointer (some ⟨x1.heap.size + 1 + 1, 0, none⟩)] y fun e w' => (∃ z, e = .returned (.bool z)) ∧ Q w') :
    Calls Try.prog 32 #[.func (.yield l) #[] #[], .pointer (some ⟨uB, 0, none⟩), .pointer (some ⟨bB, 0, none⟩), .pointer (some ⟨aB, 0, none⟩)] W fun e w' => (∃ z, e = .returned z) ∧ Q w' := by
  obtain ⟨i0, hi, hz0, hz1, hz2⟩ := info_parts infoJ
  have HI := Lib.hid hi
  have HZ0 := Lib.hid hz0
  have HZ1 := Lib.hid hz1
  have HZ2 := Lib.hid hz2
  have HF := Lib.hid hF
  clear hi hz0 hz1 hz2 hF
  have CC : Hid (∀ W', Below W.heap.size W W' → Calls Try.prog 27 #[.slice Bb b.length cb] W' fun e w' => ∃ A2 c2, e = .returned (.slice A2 b.length c2) ∧ w'.ownsRow W'.heap.size 2 1 (.slice A2 b.length c2) b.length (b.map (Value.int .i64)) ∧ Below W'.heap.size W' w') := fun W' hW => clone_w Bb b cb W' (hrb.below hW (Nat.le_refl _)) (by omega)
  have hc1 : (W.alloc (.cells #[.func (.yield l) #[] #[]] 48)).cell? ⟨uB, 0, none⟩ = some (.slice U u.length cu) := cellA hu _
  go_enter Try.func32, Try.ntmps32
  go_wp2_with (at_make; refine wpList_make_full _ rfl _ _ 23 rfl W.heap.size 2 i0 (.int .i64 0) 1 Try.underlying23 HI.out HZ0.out HZ1.out .i64 .i64 _ _ u.length rfl rfl rfl rfl (by rw [HZ2.out]; omega) (by unfold maxLen; omega) (by simp) ?_; intro w5 hown5 hgrow5; have K5 : Hid (Below W.heap.size W w5) := ((Below.refl _ _).alloc (Nat.le_refl _) _).grown hgrow5 (by simp) (fun _ h => by cases h); have hb5 : (w5.alloc (.cells #[.slice (some ⟨W.heap.size + 1, 0, none⟩) u.length u.length] 23)).cell? ⟨bB, 0, none⟩ = some (.slice Bb b.length cb) := cellA (keepc hb K5.out) _)
  have KX : Hid (Below W.heap.size W (w5.alloc (.cells #[.slice (some ⟨W.heap.size + 1, 0, none⟩) u.length u.length] 23))) := K5.out.alloc K5.out.size _
  have O5 : Hid (w5.ownsRow W.heap.size 2 1 (.slice (some ⟨W.heap.size + 1, 0, none⟩) u.length u.length) u.length (madeCells (Value.int IntKind.i64 0).cells (u.length * 1)).toList) := by
    rw [World.size_alloc] at hown5
    exact hown5
  have G5 := Lib.hid hgrow5
  clear hgrow5 hown5
  refine (CC.out _ KX.out).mono ?_
  rintro e x1 ⟨A2, c2, rfl, O2, K⟩
  have HF2 := Lib.hid (fun y => HF.out w5 x1 A2 c2 y G5.out O5.out K O2)
  have f5 := three_boxes x1 (.slice A2 b.length c2) (.func (.func 33) #[] #[.pointer (some ⟨aB, 0, none⟩), .pointer (some ⟨x1.heap.size, 0, none⟩), .pointer (some ⟨w5.heap.size, 0, none⟩)]) (.func (.func 34) #[] #[.pointer (some ⟨w5.heap.size, 0, none⟩), .pointer (some ⟨x1.heap.size, 0, none⟩), .pointer (some ⟨W.heap.size, 0, none⟩), .pointer (some ⟨uB, 0, none⟩), .pointer (some ⟨x1.heap.size + 1, 0, none⟩), .pointer (some ⟨x1.heap.size + 1 + 1, 0, none⟩)]) 23 58 59
  obtain ⟨y5, hy5⟩ : ∃ y5, y5 = (((x1.alloc (.cells #[.slice A2 b.length c2] 23)).alloc (.cells #[(.func (.func 33) #[] #[.pointer (some ⟨aB, 0, none⟩), .pointer (some ⟨x1.heap.size, 0, none⟩), .pointer (some ⟨w5.heap.size, 0, none⟩)])] 58)).alloc (.cells #[(.func (.func 34) #[] #[.pointer (some ⟨w5.heap.size, 0, none⟩), .pointer (some ⟨x1.heap.size, 0, none⟩), .pointer (some ⟨W.heap.size, 0, none⟩), .pointer (some ⟨uB, 0, none⟩), .pointer (some ⟨x1.heap.size + 1, 0, none⟩), .pointer (some ⟨x1.heap.size + 1 + 1, 0, none⟩)])] 59)) := ⟨_, rfl⟩
  obtain ⟨g1, g2, g3, g4, g5⟩ := f5 y5 hy5
  have HF3 := Lib.hid (HF2.out y5 g1 g2 g3 g4 g5)
  rw [hy5] at g3
  rw [hy5] at HF3
  clear f5 hy5 HF HF2 CC KX O5 G5 K5 K O2 g1 g2 g4 g5
  go_wp2_with fail
  refine HF3.out.mono ?_
  rintro e w9 ⟨⟨z, rfl⟩, hq⟩
  go_wp2
  go_end0
  exact ⟨⟨_, rfl⟩, hq⟩
end Go.Proofs.Ytneediihponfiaa
