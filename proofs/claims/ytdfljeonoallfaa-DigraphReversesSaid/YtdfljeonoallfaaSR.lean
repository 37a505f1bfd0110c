/- Graphs: Reach. -/
import Derived.Test.YtdfljeonoallfaaSV
namespace Go.Proofs.Ytdfljeonoallfaa
open Go.RowKit

/-- a graph in memory -/
structure GraphR (w : World) (gA : Option Addr) (n : Nat) (RA : Nat → Option Addr) (RL : Nat → List Int) (RK : Nat → Nat) : Prop where
  hn : n ≤ 4000
  row : ∀ i, i < n → ∃ b off, gA = some ⟨b, off, none⟩ ∧ b < w.heap.size ∧ w.cell? ⟨b, off + i, none⟩ = some (.slice (RA i) (RL i).length (RK i))
  rd : ∀ i, i < n → ReadsV w (RA i) (RL i)
  ll : ∀ i, i < n → (RL i).length ≤ 1000000
def reachL (RL : Nat → List Int) (n : Nat) (l : List Int) : List Bool := dfsL RL n (n + 1) (List.replicate n false) l
def ReadsT (w : World) (A : Option Addr) (zs : List Bool) : Prop := ∀ j, j < zs.length → ∃ b off, A = some ⟨b, off, none⟩ ∧ b < w.heap.size ∧ w.cell? ⟨b, off + j, none⟩ = some (.bool (atT zs j))
theorem own_mono {w : World} {base base' : Nat} {e : TypeId} {size n : Nat} {v : Value} {xs : List Value} (h : w.ownsRow base e size v n xs) (hb : base' ≤ base) : w.ownsRow base' e size v n xs :=
  ⟨h.1, h.2.imp id fun ⟨g, cap, cur, h1, h2, h3⟩ => ⟨g, cap, cur, h1, Nat.le_trans hb h2, h3⟩⟩
theorem infoT : (Try.prog.info? 4).map (fun i => (i.zero, i.size, i.bytes)) = some (some (.bool false), 1, 1) := by kernel_rfl
set_option maxHeartbeats 4000000 in
set_option maxRecDepth 100000 in
theorem reach_any (gA : Option Addr) (n gc : Nat) (RA : Nat → Option Addr) (RL : Nat → List Int) (RK : Nat → Nat) (fA : Option Addr) (l : List Int) (fc : Nat) (w : World) (GR : GraphR w gA n RA RL RK) (rf : ReadsV w fA l) (hl : l.length ≤ 1000000) :
    Calls Try.prog 18 #[.slice gA n gc, .slice fA l.length fc] w fun e w' => ∃ A c, e = .returned (.slice A n c) ∧ ReadsT w' A (reachL RL n l) ∧ (reachL RL n l).length = n ∧ Below w.heap.size w w' := by
  have hn := GR.hn
  have RF := Lib.hid rf
  clear rf
  obtain ⟨i0, hi, hz0, hz1, hz2⟩ := info_parts infoT
  have HI := Lib.hid hi
  have HZ0 := Lib.hid hz0
  have HZ1 := Lib.hid hz1
  have HZ2 := Lib.hid hz2
  clear hi hz0 hz1 hz2
  obtain ⟨w1, hw1⟩ : ∃ w1, w1 = w.alloc (.cells #[.slice gA n gc] 22) := ⟨_, rfl⟩
  have B1 : Hid (Below w.heap.size w w1) := by show Below _ _ _; rw [hw1]; exact (Below.refl _ _).alloc (Nat.le_refl _) _
  have hs1 : w1.heap.size = w.heap.size + 1 := by rw [hw1, World.size_alloc]
  have q0 : w1.cell? ⟨w.heap.size, 0, none⟩ = some (.slice gA n gc) := by rw [hw1]; simp
  have HW1 := Lib.hid hw1
  clear hw1
  go_enter Try.func18, Try.ntmps18
  go_wp2_with (at_make; rw [← HW1.out]; go_loud (refine wpList_make_full _ rfl _ _ 29 rfl w1.heap.size 4 i0 (.bool false) 1 Try.underlying29 HI.out HZ0.out HZ1.out .i64 .i64 _ _ n rfl rfl rfl rfl (by rw [HZ2.out]; omega) (by unfold maxLen; omega) (Nat.le_refl _) ?_); intro w2 hown2 hgrow2)
  have B12 : Below w1.heap.size w1 w2 := (Below.refl _ _).grown hgrow2 (Nat.le_refl _) (fun _ h => by cases h)
  have hs2 : w1.heap.size < w2.heap.size := (hown2.lt w1.heap.size rfl).2
  have hown2 : w2.ownsRow w1.heap.size 4 1 (.slice (some ⟨w1.heap.size, 0, none⟩) n n) n (madeCells #[.bool false] (n * 1)).toList := hown2
  rw [toList_madeCells_one, Nat.mul_one] at hown2
  obtain ⟨C, hC⟩ : ∃ C : RcC, C = ⟨n, gA, gc, w.heap.size, w.heap.size, w2.heap.size, w2.heap.size + 1, w2.heap.size + 1 + 1, w.heap.size + 1, RA, RL, RK⟩ := ⟨_, rfl⟩
  have G : GeoR C w := by
    rw [hC]
    exact ⟨rfl, by show w.heap.size ≠ w.heap.size + 1; omega, by show w2.heap.size ≠ w.heap.size + 1; omega, by show w2.heap.size + 1 ≠ w.heap.size + 1; omega, by show w2.heap.size + 1 + 1 ≠ w.heap.size + 1; omega, by show w.heap.size ≤ w.heap.size + 1; omega, GR.hn, GR.row, GR.rd, GR.ll⟩
  obtain ⟨w3, hw3⟩ : ∃ w3, w3 = ((w2.alloc (.cells #[.slice (some ⟨w.heap.size + 1, 0, none⟩) n n] 29)).alloc (.cells #[.slice none 0 0] 27)).alloc (.cells #[C.fn] 42) := ⟨_, rfl⟩
  have BW : Below w1.heap.size w1 w3 := by
    rw [hw3]
    exact ((B12.alloc B12.size _).alloc (by rw [World.size_alloc]; omega) _).alloc (by rw [World.size_alloc, World.size_alloc]; omega) _
  have E0 : Hid (EnvR C w (List.replicate n false) w3) := by
    show EnvR _ _ _ _
    refine ⟨?_, ?_, ?_, ?_, ?_, ?_, ?_⟩
    · rw [hC]; exact (BW.cell (p := ⟨w.heap.size, 0, none⟩) (by show w.heap.size < w1.heap.size; omega)).trans q0
    · rw [hw3, hC]; exact cellA (cellA (cell_new1 _ _ _) _) _
    · rw [hw3, hC]
      refine cellA ?_ _
      rw [← World.size_alloc w2 (.cells #[.slice (some ⟨w.heap.size + 1, 0, none⟩) n n] 29)]
      exact cell_new1 _ _ _
    · rw [hw3]
      have e : C.Bv = ((w2.alloc (.cells #[.slice (some ⟨w.heap.size + 1, 0, none⟩) n n] 29)).alloc (.cells #[.slice none 0 0] 27)).heap.size := by rw [hC, World.size_alloc, World.size_alloc]
      rw [e]
      exact cell_new1 _ _ _
    · rw [hw3, hC]
      refine World.ownsRow.alloc (World.ownsRow.alloc (World.ownsRow.alloc ?_ _) _) _
      rw [List.map_replicate, ← hs1]
      exact own_mono hown2 (by show w.heap.size ≤ w1.heap.size; omega)
    · rw [hC]; exact List.length_replicate
    · rw [hC]; exact B1.out.trans (BW.mono (by show w.heap.size ≤ w1.heap.size; omega))
  have CI : Hid (∀ x seen W, EnvR C w seen W → unS seen < n + 1 → Calls Try.prog 33 #[.int .i64 x, .int .i64 0, .pointer (some ⟨w.heap.size, 0, none⟩), .pointer (some ⟨w2.heap.size, 0, none⟩), .pointer (some ⟨w2.heap.size + 1, 0, none⟩), .pointer (some ⟨w2.heap.size + 1 + 1, 0, none⟩)] W fun e W' => (∃ z, e = .returned z) ∧ EnvR C w (dfsF RL n (n + 1) seen x) W') := fun x seen W h1 h2 => by
    have h := visit_any G (n + 1) x 0 seen W h1 h2 (by omega)
    rw [hC] at h ⊢
    exact h
  have HX : Hid (∀ seen W, EnvR C w seen W → W.cell? ⟨w2.heap.size, 0, none⟩ = some (.slice (some ⟨w.heap.size + 1, 0, none⟩) n n) ∧ W.cell? ⟨w2.heap.size + 1, 0, none⟩ = some (.slice none 0 0) ∧ W.cell? ⟨w2.heap.size + 1 + 1, 0, none⟩ = some (.func (.func 33) #[] #[.pointer (some ⟨w.heap.size, 0, none⟩), .pointer (some ⟨w2.heap.size, 0, none⟩), .pointer (some ⟨w2.heap.size + 1, 0, none⟩), .pointer (some ⟨w2.heap.size + 1 + 1, 0, none⟩)]) ∧ Below w.heap.size w W ∧ (∀ i, i < n → W.cell? ⟨w.heap.size + 1, i, none⟩ = some (.bool (atT seen i))) ∧ w.heap.size + 1 < W.heap.size ∧ seen.length = n) := fun seen W h => by
    have h5 := fun i (hi : i < C.n) => h.at hi
    have h6 := (h.sb.lt C.S rfl).2
    have h1 := h.bs
    have h2 := h.bl
    have h3 := h.bv
    have h4 := h.bw
    have h7 := h.len
    unfold RcC.fn at h3
    rw [hC] at h1 h2 h3 h4 h5 h6 h7
    exact ⟨h1, h2, h3, h4, h5, h6, h7⟩
  have HU : Hid (∀ k, unS (dfsL RL n (n + 1) (List.replicate n false) (l.take k)) < n + 1) := fun k => by
    have := dfsL_un RL n (n + 1) (List.replicate n false) (l.take k) List.length_replicate
    have h2 : unS (List.replicate n false) = n := List.count_replicate_self
    omega
  have HST := Lib.hid (fun k (h : k < l.length) => dfsL_step (R := RL) (n := n) (f := n + 1) (S := List.replicate n false) h)
  have HALL : Hid (dfsL RL n (n + 1) (List.replicate n false) (l.take l.length) = reachL RL n l) := by show _ = _; rw [List.take_length]; rfl
  have HW3 : Hid (((w2.alloc (.cells #[.slice (some ⟨w.heap.size + 1, 0, none⟩) n n] 29)).alloc (.cells #[.slice none 0 0] 27)).alloc (.cells #[.func (.func 33) #[] #[.pointer (some ⟨w.heap.size, 0, none⟩), .pointer (some ⟨w2.heap.size, 0, none⟩), .pointer (some ⟨w2.heap.size + 1, 0, none⟩), .pointer (some ⟨w2.heap.size + 1 + 1, 0, none⟩)]] 42) = w3) := by
    show _ = _
    rw [hw3, hC]
    rfl
  have E00 : Hid (EnvR C w (dfsL RL n (n + 1) (List.replicate n false) (l.take 0)) w3) := E0
  rw [HW3.out]
  clear hC hw3 HW3 B12 hown2 hgrow2 G BW E0 q0 HW1 B1 HI HZ0 HZ1 HZ2 GR
  obtain ⟨St, hSt⟩ : ∃ St : Nat → List Bool, St = fun k => dfsL RL n (n + 1) (List.replicate n false) (l.take k) := ⟨_, rfl⟩
  have hSk : ∀ k, dfsL RL n (n + 1) (List.replicate n false) (l.take k) = St k := fun k => by rw [hSt]
  simp only [hSk] at HU HST HALL E00
  clear hSk hSt
  go_loopg [17] l.length (fun gg q wr => ∃ k : Nat, gg = l.length - k ∧ k ≤ l.length ∧ q = .int .i64 k ∧ Hid (EnvR C w (St k) wr))
  case atStart => exact ⟨0, rfl, Nat.zero_le _, rfl, E00.out⟩
  case round =>
    obtain ⟨k, hgg, hk, rfl, EK⟩ := hrel
    obtain ⟨p1, p2, p3, BK, -, -, -⟩ := HX.out _ _ EK.out
    by_cases hkl : k < l.length
    · obtain ⟨b2, o2, rfl, h2⟩ := at_of_reads (RF.out.below BK (Nat.le_refl _)) k hkl
      have hs := HST.out k hkl
      have CC := CI.out (at0 l k) _ _ EK.out (HU.out k)
      rw [← hs] at CC
      replace CC := Lib.hid CC
      clear hs BK
      generalize at0 l k = x at *
      go_wp2_with fail
      refine CC.out.mono ?_
      rintro e w4 ⟨⟨z, rfl⟩, E3⟩
      have E3 := Lib.hid E3
      go_wp2
      go_roundg (l.length - (k + 1))
      case rel => exact ⟨k + 1, rfl, by omega, by go_num, E3.out⟩
      case measure => omega
    · obtain rfl : k = l.length := by omega
      have EF := EK.out
      rw [HALL.out] at EF
      obtain ⟨-, -, -, BF, AT, LT, LN⟩ := HX.out _ _ EF
      have FIN : Hid (ReadsT wr (some ⟨w.heap.size + 1, 0, none⟩) (reachL RL n l) ∧ (reachL RL n l).length = n ∧ Below w.heap.size w wr) := ⟨fun j hj => ⟨_, _, rfl, LT, by rw [Nat.zero_add]; exact AT j (by omega)⟩, LN, BF⟩
      clear EF BF AT LT LN BK
      go_wp2
      refine wp_loop_rounds 1 ?_
      rw [rounds_succ]
      go_wp2
      go_ret
      exact ⟨_, _, rfl, FIN.out.1, FIN.out.2.1, FIN.out.2.2⟩
end Go.Proofs.Ytdfljeonoallfaa
