/- Traps: the links, by the program; siphons and traps, by the program. -/
import Derived.Test.YtjibpkaanaphcaaDoorSB
namespace Go.Proofs.YtjibpkaanaphcaaDoor
open Go.RowKit

def pairG (a b : Nat → Nat) (i : Nat) : Nat := if i % 2 = 0 then a (i / 2) else b (i / 2)
def OwnG (w : World) (g N : Nat) (a b : Nat → Nat) : Prop := w.rowIs g 71 (N * 2) (fun i => .int .u64 (pairG a b i : Nat))
theorem OwnLk.g {w : World} {g N : Nat} {a b : Nat → Nat} (h : OwnLk w g N N a b) : OwnG w g N a b := World.rowIs.congr h fun i hi => by
  unfold pairF pairG
  rw [if_pos (by omega)]
theorem OwnG.below {w w' : World} {g N : Nat} {a b : Nat → Nat} (h : OwnG w g N a b) (hb : Below w.heap.size w w') : OwnG w' g N a b := World.rowIs.of_block h (hb.block _ (World.rowIs.lt h))
theorem OwnG.links {w : World} {g N : Nat} {a b : Nat → Nat} (h : OwnG w g N a b) : LinkR w (some ⟨g, 0, none⟩) N a b := fun t ht => by
  refine ⟨g, 0, rfl, ?_, ?_⟩
  · rw [Nat.zero_add, World.rowIs.cell h (i := t * 2) (by omega)]
    unfold pairG
    rw [if_pos (by omega), show t * 2 / 2 = t by omega]
  · rw [Nat.zero_add, World.rowIs.cell h (i := t * 2 + 1) (by omega)]
    unfold pairG
    rw [if_neg (by omega), show (t * 2 + 1) / 2 = t by omega]
def swA (a b : Nat → Nat) (k t : Nat) : Nat := if t < k then b t else a t
theorem swap_step {w : World} {g N k : Nat} {a b : Nat → Nat} (h : OwnG w g N (swA a b k) (swA b a k)) : OwnG ((w.setCell ⟨g, k * 2, none⟩ (.int .u64 (b k : Nat))).setCell ⟨g, k * 2 + 1, none⟩ (.int .u64 (a k : Nat))) g N (swA a b (k + 1)) (swA b a (k + 1)) :=
  World.rowIs.congr (World.rowIs.set (World.rowIs.set h (k * 2) _) (k * 2 + 1) _) fun i _ => by
    unfold pairG swA
    by_cases e1 : i = k * 2 + 1
    · rw [if_pos e1, if_neg (by omega), if_pos (by omega), show i / 2 = k by omega]
    · rw [if_neg e1]
      by_cases e2 : i = k * 2
      · rw [if_pos e2, if_pos (by omega), if_pos (by omega), show i / 2 = k by omega]
      · rw [if_neg e2]
        by_cases e3 : i / 2 < k
        · simp only [if_pos e3, if_pos (show i / 2 < k + 1 by omega)]
        · simp only [if_neg e3, if_neg (show ¬ i / 2 < k + 1 by omega)]

set_option maxHeartbeats 4000000 in
set_option maxRecDepth 100000 in
theorem tlinks_any (n : NetV) (w : World) (hr : NetR w n) (hok : okN n = true) :
    Calls Tryd.prog 26 #[.agg #[.string n.nm, .slice n.PA n.ps.length n.pc, .slice n.TA n.ts.length n.tc]] w (LinkPost w.heap.size w n.ts.length (inS n) (outS n)) := by
  have CS : Hid (∀ W, Below w.heap.size w W → Calls Tryd.prog 24 #[.agg #[.string n.nm, .slice n.PA n.ps.length n.pc, .slice n.TA n.ts.length n.tc]] W (LinkOwn W.heap.size W n.ts.length (outS n) (inS n))) := fun W hW => slinks_own n W (hr.below hW (Nat.le_refl _)) hok
  have htl : n.ts.length ≤ 1000 := hr.okt.1
  clear hr hok
  generalize outS n = oa at *
  generalize inS n = ia at *
  have B0 : Hid (Below w.heap.size w (w.alloc (.cells #[.string n.nm, .slice n.PA n.ps.length n.pc, .slice n.TA n.ts.length n.tc] 29))) := (Below.refl _ _).alloc (Nat.le_refl _) _
  go_enter Tryd.func26, Tryd.ntmps26
  go_wp2_with fail
  refine (CS.out _ B0.out).mono ?_
  rintro e x1 ⟨g, c, rfl, hg, HO, K⟩
  have M0 : Hid (OwnG x1 g n.ts.length (swA oa ia 0) (swA ia oa 0)) := World.rowIs.congr HO.g fun i _ => by unfold pairG swA; simp
  have Dx1 := Lib.hid (B0.out.trans (K.mono B0.out.size))
  have hgw : w.heap.size ≤ g := by rw [World.size_alloc] at hg; omega
  have HGX : Hid (g < x1.heap.size) := World.rowIs.lt HO
  clear K HO hg
  go_wp2_with fail
  go_loopw [10] (fun q wr => ∃ k : Nat, k ≤ n.ts.length ∧ q = .int .i64 k ∧ Hid (OwnG wr g n.ts.length (swA oa ia k) (swA ia oa k)) ∧ Hid (Below w.heap.size w wr)) (fun q _ => n.ts.length - (intOf q).toNat)
  case atStart => exact ⟨0, by omega, rfl, M0, Dx1⟩
  case round =>
    clear M0
    obtain ⟨k, hk, rfl, MR, BB⟩ := hrel
    by_cases hlt : k < n.ts.length
    · obtain ⟨_, _, e, z0, z1⟩ := MR.out.links k hlt
      injection e with e
      injection e with e3 e4
      subst e3 e4
      rw [Nat.zero_add] at z0 z1
      unfold swA at z0 z1
      rw [if_neg (Nat.lt_irrefl k)] at z0 z1
      have hgr : g < wr.heap.size := World.rowIs.lt MR.out
      have MA : Hid (OwnG (wr.alloc (.cells #[.int .u64 (oa k : Nat), .int .u64 (ia k : Nat)] 71)) g n.ts.length (swA oa ia k) (swA ia oa k)) := World.rowIs.alloc MR.out _
      have BA := Lib.hid (BB.out.alloc BB.out.size (.cells #[.int .u64 (oa k : Nat), .int .u64 (ia k : Nat)] 71))
      have y0 := cellA z0 (.cells #[.int .u64 (oa k : Nat), .int .u64 (ia k : Nat)] 71)
      have y1 := cellA z1 (.cells #[.int .u64 (oa k : Nat), .int .u64 (ia k : Nat)] 71)
      have b0 : (wr.alloc (.cells #[.int .u64 (oa k : Nat), .int .u64 (ia k : Nat)] 71)).cell? ⟨wr.heap.size, 0, none⟩ = some (.int .u64 (oa k : Nat)) := by simp
      have b1 : (wr.alloc (.cells #[.int .u64 (oa k : Nat), .int .u64 (ia k : Nat)] 71)).cell? ⟨wr.heap.size, 1, none⟩ = some (.int .u64 (ia k : Nat)) := by simp
      have fz : ∀ o, wr.frozen? ⟨g, o, none⟩ = false := fun o => World.rowIs.frozen MR.out o
      have ST : Hid (OwnG (((wr.setCell ⟨g, k * 2, none⟩ (.int .u64 (ia k : Nat))).setCell ⟨g, k * 2 + 1, none⟩ (.int .u64 (oa k : Nat))).alloc (.cells #[.int .u64 (oa k : Nat), .int .u64 (ia k : Nat)] 71)) g n.ts.length (swA oa ia (k + 1)) (swA ia oa (k + 1))) := World.rowIs.alloc (swap_step MR.out) _
      have B2 := (BB.out.setCell (p := ⟨g, k * 2, none⟩) (by exact hgw) (.int .u64 (ia k : Nat))).setCell (p := ⟨g, k * 2 + 1, none⟩) (by exact hgw) (.int .u64 (oa k : Nat))
      have BS := Lib.hid (B2.alloc B2.size (.cells #[.int .u64 (oa k : Nat), .int .u64 (ia k : Nat)] 71))
      clear B2
      clear MR MA BA
      go_wp2
      go_roundw
      case rel => exact ⟨k + 1, by omega, by go_num, ST, BS⟩
      case measure => simp [intOf]; omega
    · have ek : k = n.ts.length := by omega
      have RR : Hid (LinkR wr (some ⟨g, 0, none⟩) n.ts.length ia oa) := fun t ht => by
        obtain ⟨a, b, e, h1, h2⟩ := MR.out.links t ht
        unfold swA at h1 h2
        rw [if_pos (by omega)] at h1 h2
        exact ⟨a, b, e, h1, h2⟩
      clear MR
      subst ek
      go_wp2
      go_ret
      exact ⟨some ⟨g, 0, none⟩, c, rfl, RR.out, BB.out⟩
end Go.Proofs.YtjibpkaanaphcaaDoor
