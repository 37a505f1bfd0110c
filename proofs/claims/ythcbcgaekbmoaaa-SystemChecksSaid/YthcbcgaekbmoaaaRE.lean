/- Regions: the check of a system, by the program and the reference. -/
import Derived.Test.YthcbcgaekbmoaaaRC
import Derived.Test.YthcbcgaekbmoaaaRCN
namespace Go.Proofs.Ythcbcgaekbmoaaa
open Go.RowKit

def FPost (g : Nat) (w : World) (ok : Bool) (e : Ending) (w' : World) : Prop := ∃ E At : Int, e = .returned (.agg #[.int .i64 E, .int .i64 At]) ∧ (E = 0 ↔ ok = true) ∧ Below g w w'
theorem cmpE_ge (a b : EdgeV) : 0 ≤ cmpE a b ↔ ltE a b = false := by
  have h := or_lt a b
  unfold cmpE
  constructor
  · intro h1
    cases e : ltE a b
    · rfl
    · have := h.2 e; omega
  · intro h1
    apply Classical.byContradiction
    intro h2
    have := h.1 (by omega)
    rw [h1] at this; cases this

set_option maxHeartbeats 2000000 in
set_option maxRecDepth 100000 in
theorem contains_any (A : Option Addr) (n c : Nat) (f : Nat → ByteArray) (v : ByteArray) (w : World) (hr : RdS w A n f) (hl : n ≤ 9223372036854775807) :
    Calls Try.prog 21 #[.slice A n c, .string v] w (VPost w.heap.size w (.bool (anyN (fun j => eqS v (f j)) n))) := by
  have C := Lib.hid (index_any A n c f v w hr hl)
  have RN : Hid ((∀ j, j < n → eqS v (f j) = false) → anyN (fun j => eqS v (f j)) n = false) := fun h => anyN_no h
  have RY : Hid (∀ k, k < n → eqS v (f k) = true → anyN (fun j => eqS v (f j)) n = true) := fun k hk h => anyN_yes (f := fun j => eqS v (f j)) hk h
  generalize anyN (fun j => eqS v (f j)) n = R at *
  clear hr
  go_enter Try.func21, Try.ntmps21
  go_wp2_with fail
  refine (C.out).mono ?_
  rintro e w1 ⟨r, rfl, HR, K⟩
  have K := Lib.hid K
  rcases HR with ⟨rfl, h⟩ | ⟨k, rfl, hk, hy, _⟩
  · have E := Lib.hid (RN.out h)
    clear h RN RY
    go_wp2
    go_ret
    exact ⟨by rw [E.out]; rfl, K.out⟩
  · have E := Lib.hid (RY.out k hk hy)
    have z : decide ((0 : Int) ≤ (k : Int)) = true := decide_eq_true (by omega)
    clear hy RN RY
    go_wp2
    go_ret
    exact ⟨by rw [E.out]; first | rfl | simp, K.out⟩

set_option maxHeartbeats 16000000 in
set_option maxRecDepth 100000 in
theorem check_any (s : SysV) (w : World) (hr : SysR w s) :
    Calls Try.prog 8 #[.agg #[.int .i64 s.st, .slice s.EA s.el s.ec, .slice s.AA s.ar.length s.ac]] w (FPost w.heap.size w (okS s)) := by
  have Q1 : Hid (¬ (1 ≤ s.st ∧ s.st ≤ 200 ∧ s.el ≤ 24) → okS s = false) := okS_size
  have Q2 : Hid (∀ i, i < s.el → evBad s i = true → okS s = false) := fun i hi h => okS_ev hi h
  have Q3 : Hid (∀ i, i < s.ar.length → arBad s i = true → okS s = false) := fun i hi h => okS_ar hi h
  have Q4 : Hid ((1 ≤ s.st ∧ s.st ≤ 200 ∧ s.el ≤ 24) → (∀ i, i < s.el → evBad s i = false) → (∀ i, i < s.ar.length → arBad s i = false) → okS s = true) := okS_yes
  have CV : Hid (∀ W k, k < s.el → Calls Try.prog 20 #[.string (s.ev k)] W (VPost W.heap.size W (.bool (nameB (bytesI (s.ev k)))))) := fun W k hk => valid_any (s.ev k) W (hr.hsz k hk)
  have EB : Hid (∀ i, evBad s i = (!nameB (bytesI (s.ev i)) || anyN (fun j => eqS (s.ev i) (s.ev j)) i)) := fun i => rfl
  have AB : Hid (∀ i, arBad s i = (!(inR (eA s.ar i).f s.st && (inR (eA s.ar i).o s.st && inR (eA s.ar i).t s.el)) || (decide (0 < i) && !ltE (eA s.ar (i - 1)) (eA s.ar i)))) := fun i => rfl
  have hel := hr.hel
  have hec := hr.hec
  have hal := hr.hal
  have HE := Lib.hid hr.re
  have HS := Lib.hid hr.rs
  clear hr
  generalize okS s = ok at *
  generalize evBad s = eb at *
  generalize arBad s = ab at *
  obtain ⟨sst, EA, el, ev, ec, AA, ar, ac⟩ := s
  dsimp only at *
  have B0 : Hid (Below w.heap.size w ((w.alloc (.cells #[.int .i64 sst, .slice EA el ec, .slice AA ar.length ac] 25)).alloc (.cells #[.int .i64 0, .int .i64 0] 30))) := ((Below.refl _ _).alloc (Nat.le_refl _) _).alloc (by simp) _
  have PQ0 : ((w.alloc (.cells #[.int .i64 sst, .slice EA el ec, .slice AA ar.length ac] 25)).alloc (.cells #[.int .i64 0, .int .i64 0] 30)).cell? ⟨w.heap.size, 0, none⟩ = some (.int .i64 sst) ∧ ((w.alloc (.cells #[.int .i64 sst, .slice EA el ec, .slice AA ar.length ac] 25)).alloc (.cells #[.int .i64 0, .int .i64 0] 30)).cell? ⟨w.heap.size, 1, none⟩ = some (.slice EA el ec) ∧ ((w.alloc (.cells #[.int .i64 sst, .slice EA el ec, .slice AA ar.length ac] 25)).alloc (.cells #[.int .i64 0, .int .i64 0] 30)).cell? ⟨w.heap.size, 2, none⟩ = some (.slice AA ar.length ac) ∧ ((w.alloc (.cells #[.int .i64 sst, .slice EA el ec, .slice AA ar.length ac] 25)).alloc (.cells #[.int .i64 0, .int .i64 0] 30)).cell? ⟨w.heap.size + 1, 0, none⟩ = some (.int .i64 0) ∧ ((w.alloc (.cells #[.int .i64 sst, .slice EA el ec, .slice AA ar.length ac] 25)).alloc (.cells #[.int .i64 0, .int .i64 0] 30)).cell? ⟨w.heap.size + 1, 1, none⟩ = some (.int .i64 0) ∧ (∀ o, ((w.alloc (.cells #[.int .i64 sst, .slice EA el ec, .slice AA ar.length ac] 25)).alloc (.cells #[.int .i64 0, .int .i64 0] 30)).frozen? ⟨w.heap.size + 1, o, none⟩ = false) := by
    refine ⟨cellA (by simp) _, cellA (by simp) _, cellA (by simp) _, ?_, ?_, fun o => ?_⟩
    · rw [← World.size_alloc w (.cells #[.int .i64 sst, .slice EA el ec, .slice AA ar.length ac] 25)]; simp
    · rw [← World.size_alloc w (.cells #[.int .i64 sst, .slice EA el ec, .slice AA ar.length ac] 25)]; simp
    · rw [← World.size_alloc w (.cells #[.int .i64 sst, .slice EA el ec, .slice AA ar.length ac] 25)]; simp
  have lg : w.heap.size ≤ w.heap.size + 1 := by omega
  by_cases hsz : 1 ≤ sst ∧ sst ≤ 200 ∧ el ≤ 24
  rotate_left
  · have EK := Lib.hid (Q1.out hsz)
    obtain ⟨c0, c1, c2, r0, r1, rf⟩ := PQ0
    have hsn : sst < 1 ∨ 200 < sst ∨ 24 < el := by omega
    clear Q1 Q2 Q3 Q4 CV EB AB hsz
    go_enter Try.func8, Try.ntmps8
    go_wp2
    all_goals first
      | (exfalso; omega)
      | (exact bodyPost_ret (v := .agg #[.int .i64 2, .int .i64 (0)]) (by simp [results, Try.results8, go_sem]) rfl ⟨2, (0), by first | rfl | simp, ⟨fun h => absurd h (by decide), fun h => by rw [EK.out] at h; cases h⟩, ((Below.refl _ _).alloc (Nat.le_refl _) _).alloc (by simp) _⟩)
  obtain ⟨hs1, hs2, hs3⟩ := hsz
  have hs1' : ¬ sst < 1 := by omega
  have hs2' : ¬ 200 < sst := by omega
  have hs3' : ¬ 24 < el := by omega
  have Q4 := Lib.hid (Q4.out ⟨hs1, hs2, hs3⟩)
  clear Q1
  obtain ⟨wx, hwx⟩ : ∃ wx, wx = ((w.alloc (.cells #[.int .i64 sst, .slice EA el ec, .slice AA ar.length ac] 25)).alloc (.cells #[.int .i64 0, .int .i64 0] 30)) := ⟨_, rfl⟩
  rw [← hwx] at PQ0 B0
  have hwz : wx.heap.size = w.heap.size + 1 + 1 := by rw [hwx, World.size_alloc, World.size_alloc]
  have PQ : Hid (∀ W, Below wx.heap.size wx W → W.cell? ⟨w.heap.size, 0, none⟩ = some (.int .i64 sst) ∧ W.cell? ⟨w.heap.size, 1, none⟩ = some (.slice EA el ec) ∧ W.cell? ⟨w.heap.size, 2, none⟩ = some (.slice AA ar.length ac) ∧ W.cell? ⟨w.heap.size + 1, 0, none⟩ = some (.int .i64 0) ∧ W.cell? ⟨w.heap.size + 1, 1, none⟩ = some (.int .i64 0) ∧ (∀ o, W.frozen? ⟨w.heap.size + 1, o, none⟩ = false)) := fun W hW => by
    obtain ⟨c0, c1, c2, r0, r1, rf⟩ := PQ0
    exact ⟨keepc c0 hW, keepc c1 hW, keepc c2 hW, keepc r0 hW, keepc r1 hW, fun o => (hW.frozen (p := ⟨w.heap.size + 1, o, none⟩) (by show w.heap.size + 1 < wx.heap.size; omega)).trans (rf o)⟩
  have WG : Hid (∀ W, Below wx.heap.size wx W → Below w.heap.size w W) := fun W hW => B0.out.trans (hW.mono (by omega))
  obtain ⟨c0, c1, c2, r0, r1, rf⟩ := PQ0
  rw [hwx] at c0 c1 c2 r0 r1 rf
  go_enter Try.func8, Try.ntmps8
  go_wp2_with fail
  rw [← hwx]
  clear c0 c1 c2 r0 r1 rf B0 hwx
  go_loopw [25] (fun q wr => ∃ k : Nat, k ≤ el ∧ q = .int .i64 k ∧ Hid (∀ j, j < k → eb j = false) ∧ Hid (Below wx.heap.size wx wr)) (fun q _ => el - (intOf q).toNat)
  case atStart => exact ⟨0, by omega, rfl, fun j hj => absurd hj (by omega), Below.refl _ _⟩
  case round =>
    obtain ⟨k, hk, rfl, HX, BB⟩ := hrel
    obtain ⟨c0, c1, c2, r0, r1, rf⟩ := PQ.out _ BB.out
    have BG := Lib.hid (WG.out _ BB.out)
    by_cases hlt : k < el
    · have EBk := EB.out k
      have Q2k := Lib.hid (Q2.out k hlt)
      have HF : Hid (eb k = false → ∀ j, j < k + 1 → eb j = false) := fun h j hj => by
        by_cases e : j = k
        · rw [e]; exact h
        · exact HX.out j (by omega)
      have C := Lib.hid (fun W => CV.out W k hlt)
      have RS : Hid (∀ W, Below w.heap.size w W → RdS W EA el ev) := fun W hW => HS.out.below hW (Nat.le_refl _)
      have hkec : k ≤ ec := by omega
      clear HX CV Q2 EB
      generalize eb k = z at *
      obtain ⟨b, off, e1, hb, hc⟩ := RS.out _ BG.out k hlt
      subst e1
      have CC : Hid (∀ W, Below w.heap.size w W → Calls Try.prog 21 #[.slice (some ⟨b, off, none⟩) k ec, .string (ev k)] W (VPost W.heap.size W (.bool (anyN (fun j => eqS (ev k) (ev j)) k)))) := fun W hW => contains_any _ k ec ev (ev k) W (fun j hj => RS.out W hW j (by omega)) (by omega)
      generalize anyN (fun j => eqS (ev k) (ev j)) k = dp at *
      generalize ev k = v at *
      generalize nameB (bytesI v) = nb at *
      clear RS
      cases nb
      · have EK := Lib.hid (Q2k.out (by rw [EBk]; rfl))
        clear HF Q2k EBk CC
        go_wp2_with fail
        refine (C.out _).mono ?_
        rintro e w3 ⟨rfl, K⟩
        have B3 := Lib.hid (BB.out.trans (K.mono (by have := BB.out.size; omega)))
        clear K c0 c1 c2 r0 r1 rf
        obtain ⟨c0, c1, c2, r0, r1, rf⟩ := PQ.out _ B3.out
        have G3 := Lib.hid (WG.out _ B3.out)
        go_wp2
        exact bodyPost_ret (v := .agg #[.int .i64 5, .int .i64 k]) (by simp [results, Try.results8, go_sem, r0, r1]) rfl ⟨5, k, by first | rfl | simp, ⟨fun h => absurd h (by decide), fun h => by rw [EK.out] at h; cases h⟩, (G3.out.setCell lg _).setCell lg _⟩
      · go_wp2_with fail
        refine (C.out _).mono ?_
        rintro e w3 ⟨rfl, K⟩
        have B3 := Lib.hid (BB.out.trans (K.mono (by have := BB.out.size; omega)))
        clear K c0 c1 c2 r0 r1 rf
        obtain ⟨c0, c1, c2, r0, r1, rf⟩ := PQ.out _ B3.out
        have G3 := Lib.hid (WG.out _ B3.out)
        go_wp2_with fail
        refine (CC.out _ G3.out).mono ?_
        rintro e w4 ⟨rfl, K⟩
        have B4 := Lib.hid (B3.out.trans (K.mono (by have := B3.out.size; omega)))
        clear K c0 c1 c2 r0 r1 rf
        obtain ⟨c0, c1, c2, r0, r1, rf⟩ := PQ.out _ B4.out
        have G4 := Lib.hid (WG.out _ B4.out)
        cases dp
        · have HF2 := Lib.hid (HF.out (by rw [EBk]; rfl))
          clear HF Q2k EBk CC
          go_wp2
          go_roundw
          case rel => exact ⟨k + 1, by omega, by go_num, HF2, B4⟩
          case measure => simp [intOf]; omega
        · have EK := Lib.hid (Q2k.out (by rw [EBk]; rfl))
          clear HF Q2k EBk CC
          go_wp2
          exact bodyPost_ret (v := .agg #[.int .i64 6, .int .i64 k]) (by simp [results, Try.results8, go_sem, r0, r1]) rfl ⟨6, k, by first | rfl | simp, ⟨fun h => absurd h (by decide), fun h => by rw [EK.out] at h; cases h⟩, (G4.out.setCell lg _).setCell lg _⟩
    · have HX2 : Hid (∀ i, i < el → eb i = false) := fun j hj => HX.out j (by omega)
      have Q4 := Lib.hid (Q4.out HX2.out)
      clear HX HX2 CV Q2 EB
      go_wp2_with fail
      go_loopw [47] (fun q wr => ∃ j : Nat, j ≤ ar.length ∧ q = .int .i64 j ∧ Hid (∀ i, i < j → ab i = false) ∧ Hid (Below wx.heap.size wx wr)) (fun q _ => ar.length - (intOf q).toNat)
      case atStart => exact ⟨0, by omega, rfl, fun j hj => absurd hj (by omega), BB⟩
      case round =>
        clear BB BG c0 c1 c2 r0 r1 rf
        obtain ⟨j, hj, rfl, HY, BB⟩ := hrel
        obtain ⟨c0, c1, c2, r0, r1, rf⟩ := PQ.out _ BB.out
        have BG := Lib.hid (WG.out _ BB.out)
        by_cases hlt2 : j < ar.length
        · have ABk := AB.out j
          have Q3k := Lib.hid (Q3.out j hlt2)
          have HF : Hid (ab j = false → ∀ i, i < j + 1 → ab i = false) := fun h i hi => by
            by_cases e : i = j
            · rw [e]; exact h
            · exact HY.out i (by omega)
          have RE : Hid (∀ W, Below w.heap.size w W → ReadsE W AA ar) := fun W hW => HE.out.below hW (Nat.le_refl _)
          obtain ⟨b, off, e1, hb, f0, f1, f2⟩ := RE.out _ BG.out j hlt2
          subst e1
          have PV : Hid (∀ W, Below w.heap.size w W → 0 < j → W.cell? ⟨b, off + (j - 1) * 3, none⟩ = some (.int .i64 (eA ar (j - 1)).f) ∧ W.cell? ⟨b, off + (j - 1) * 3 + 1, none⟩ = some (.int .i64 (eA ar (j - 1)).t) ∧ W.cell? ⟨b, off + (j - 1) * 3 + 2, none⟩ = some (.int .i64 (eA ar (j - 1)).o)) := fun W hW h0 => by
            obtain ⟨b', off', e', _, g0, g1, g2⟩ := RE.out W hW (j - 1) (by omega)
            injection e' with e'
            injection e' with e1 e2
            subst e1 e2
            exact ⟨g0, g1, g2⟩
          clear HY Q3 AB RE Q4
          generalize ab j = z at *
          have HC : Hid (∀ W, Below w.heap.size w W → Calls Try.prog 23 #[.agg #[.int .i64 (eA ar (j - 1)).f, .int .i64 (eA ar (j - 1)).t, .int .i64 (eA ar (j - 1)).o], .agg #[.int .i64 (eA ar j).f, .int .i64 (eA ar j).t, .int .i64 (eA ar j).o]] W (VPost W.heap.size W (.int .i64 (cmpE (eA ar (j - 1)) (eA ar j))))) := fun W _ => compareArcs_any _ _ W
          have HCV : Hid (0 ≤ cmpE (eA ar (j - 1)) (eA ar j) ↔ ltE (eA ar (j - 1)) (eA ar j) = false) := cmpE_ge _ _
          generalize cmpE (eA ar (j - 1)) (eA ar j) = cv at *
          generalize ltE (eA ar (j - 1)) (eA ar j) = lt at *
          generalize eA ar (j - 1) = y at *
          generalize eA ar j = x at *
          obtain ⟨xf, xt, xo⟩ := x
          dsimp only at *
          have Dx := Lib.hid (BB.out.alloc (by have := BB.out.size; omega) (.cells #[.int .i64 xf, .int .i64 xt, .int .i64 xo] 43))
          have DG := Lib.hid (WG.out _ Dx.out)
          have PVx := PV.out _ DG.out
          have c2w := c2
          clear c0 c1 c2 r0 r1 rf
          obtain ⟨c0, c1, c2, r0, r1, rf⟩ := PQ.out _ Dx.out
          have g0 : (wr.alloc (.cells #[.int .i64 xf, .int .i64 xt, .int .i64 xo] 43)).cell? ⟨wr.heap.size, 0, none⟩ = some (.int .i64 xf) := by simp
          have g1 : (wr.alloc (.cells #[.int .i64 xf, .int .i64 xt, .int .i64 xo] 43)).cell? ⟨wr.heap.size, 1, none⟩ = some (.int .i64 xt) := by simp
          have g2 : (wr.alloc (.cells #[.int .i64 xf, .int .i64 xt, .int .i64 xo] 43)).cell? ⟨wr.heap.size, 2, none⟩ = some (.int .i64 xo) := by simp
          have C1 := Lib.hid (fun W => isIndex_any xf sst W)
          have C2 := Lib.hid (fun W => isIndex_any xo sst W)
          have C3 := Lib.hid (fun W => isIndex_any xt el W)
          generalize inR xf sst = i1 at *
          generalize inR xo sst = i2 at *
          generalize inR xt el = i3 at *
          cases i1
          · skip
            have EK := Lib.hid (Q3k.out (by rw [ABk]; rfl))
            clear HF Q3k ABk PV PVx HC HCV
            go_wp2_with fail
            refine (C1.out _).mono ?_
            rintro e w3 ⟨rfl, rfl⟩
            go_wp2
            exact bodyPost_ret (v := .agg #[.int .i64 1, .int .i64 j]) (by simp [results, Try.results8, go_sem, r0, r1]) rfl ⟨1, j, by first | rfl | simp, ⟨fun h => absurd h (by decide), fun h => by rw [EK.out] at h; cases h⟩, (DG.out.setCell lg _).setCell lg _⟩
          cases i2
          · skip
            have EK := Lib.hid (Q3k.out (by rw [ABk]; rfl))
            clear HF Q3k ABk PV PVx HC HCV
            go_wp2_with fail
            refine (C1.out _).mono ?_
            rintro e w3 ⟨rfl, rfl⟩
            go_wp2_with fail
            refine (C2.out _).mono ?_
            rintro e w4 ⟨rfl, rfl⟩
            go_wp2
            exact bodyPost_ret (v := .agg #[.int .i64 1, .int .i64 j]) (by simp [results, Try.results8, go_sem, r0, r1]) rfl ⟨1, j, by first | rfl | simp, ⟨fun h => absurd h (by decide), fun h => by rw [EK.out] at h; cases h⟩, (DG.out.setCell lg _).setCell lg _⟩
          cases i3
          · skip
            have EK := Lib.hid (Q3k.out (by rw [ABk]; rfl))
            clear HF Q3k ABk PV PVx HC HCV
            go_wp2_with fail
            refine (C1.out _).mono ?_
            rintro e w3 ⟨rfl, rfl⟩
            go_wp2_with fail
            refine (C2.out _).mono ?_
            rintro e w4 ⟨rfl, rfl⟩
            go_wp2_with fail
            refine (C3.out _).mono ?_
            rintro e w5 ⟨rfl, rfl⟩
            go_wp2
            exact bodyPost_ret (v := .agg #[.int .i64 1, .int .i64 j]) (by simp [results, Try.results8, go_sem, r0, r1]) rfl ⟨1, j, by first | rfl | simp, ⟨fun h => absurd h (by decide), fun h => by rw [EK.out] at h; cases h⟩, (DG.out.setCell lg _).setCell lg _⟩
          by_cases hj0 : j = 0
          · subst hj0
            rw [Nat.zero_mul, Nat.add_zero] at f0 f1 f2
            have HF2 := Lib.hid (HF.out (by rw [ABk]; rfl))
            clear HF Q3k ABk PV PVx HC HCV
            go_wp2_with fail
            refine (C1.out _).mono ?_
            rintro e w3 ⟨rfl, rfl⟩
            go_wp2_with fail
            refine (C2.out _).mono ?_
            rintro e w4 ⟨rfl, rfl⟩
            go_wp2_with fail
            refine (C3.out _).mono ?_
            rintro e w5 ⟨rfl, rfl⟩
            go_upto_region 16 with fail
            refine wp_region_held_drew (S := fun w' => w'.cell? ⟨w.heap.size, 2, none⟩ = some (.slice (some ⟨b, off, none⟩) ar.length ac) ∧ Hid (Below wx.heap.size wx w')) (by kernel_rfl) ?_ (fun hHeld => ?_)
            · exact ⟨c2, Dx.out.drew⟩
            refine wpAnyH_take (oi := ⟨_, _, _, _, _, _⟩) (i := 0) (v := ?_) rfl (by kernel_rfl) (by kernel_rfl) (by kernel_rfl) (fun _ _ _ h => h) (Or.inl ⟨by rfl, ?yp0⟩) (by assumption) ?rp0
            case yp0 => (intro w hSw; (try dsimp only at hSw); go_simp; (try with_reducible rfl))
            try simp only [Act.put, List.setIfInBounds_toArray, List.set_cons_zero, List.set_cons_succ]
            refine wpAnyH_take (oi := ⟨_, _, _, _, _, _⟩) (i := 1) (v := ?_) rfl (by kernel_rfl) (by kernel_rfl) (by kernel_rfl) (fun _ _ _ h => h) (Or.inl ⟨by rfl, ?yp1⟩) (by assumption) ?rp1
            case yp1 => (intro w hSw; (try dsimp only at hSw); go_simp; (try with_reducible rfl))
            try simp only [Act.put, List.setIfInBounds_toArray, List.set_cons_zero, List.set_cons_succ]
            refine wpAnyH_take (oi := ⟨_, _, _, _, _, _⟩) (i := 2) (v := ?_) rfl (by kernel_rfl) (by kernel_rfl) (by kernel_rfl) (fun _ _ _ h => h) (Or.inl ⟨by rfl, ?yp2⟩) (by assumption) ?rp2
            case yp2 => (intro w hSw; (try dsimp only at hSw); go_simp; (try with_reducible rfl))
            try simp only [Act.put, List.setIfInBounds_toArray, List.set_cons_zero, List.set_cons_succ]
            refine wpAnyH_take (oi := ⟨_, _, _, _, _, _⟩) (i := 3) rfl (by kernel_rfl) (by kernel_rfl) (by kernel_rfl) (fun _ _ _ h => h) (Or.inr ⟨by rfl, rfl⟩) (by assumption) ?rp3
            try simp only [Act.put, List.setIfInBounds_toArray, List.set_cons_zero, List.set_cons_succ]
            refine wpAnyH_take (oi := ⟨_, _, _, _, _, _⟩) (i := 4) rfl (by kernel_rfl) (by kernel_rfl) (by kernel_rfl) (fun _ _ _ h => h) (Or.inr ⟨by rfl, rfl⟩) (by assumption) ?rp4
            try simp only [Act.put, List.setIfInBounds_toArray, List.set_cons_zero, List.set_cons_succ]
            refine wpAnyH_take (oi := ⟨_, _, _, _, _, _⟩) (i := 5) rfl (by kernel_rfl) (by kernel_rfl) (by kernel_rfl) (fun _ _ _ h => h) (Or.inr ⟨by rfl, rfl⟩) (by assumption) ?rp5
            try simp only [Act.put, List.setIfInBounds_toArray, List.set_cons_zero, List.set_cons_succ]
            refine wpAnyH_take (oi := ⟨_, _, _, _, _, _⟩) (i := 6) rfl (by kernel_rfl) (by kernel_rfl) (by kernel_rfl) (fun _ _ _ h => h) (Or.inr ⟨by rfl, rfl⟩) (by assumption) ?rp6
            try simp only [Act.put, List.setIfInBounds_toArray, List.set_cons_zero, List.set_cons_succ]
            refine wpAnyH_take (oi := ⟨_, _, _, _, _, _⟩) (i := 7) rfl (by kernel_rfl) (by kernel_rfl) (by kernel_rfl) (fun _ _ _ h => h) (Or.inr ⟨by rfl, rfl⟩) (by assumption) ?rp7
            try simp only [Act.put, List.setIfInBounds_toArray, List.set_cons_zero, List.set_cons_succ]
            refine wpAnyH_take (oi := ⟨_, _, _, _, _, _⟩) (i := 8) rfl (by kernel_rfl) (by kernel_rfl) (by kernel_rfl) (fun _ _ _ h => h) (Or.inr ⟨by rfl, rfl⟩) (by assumption) ?rp8
            try simp only [Act.put, List.setIfInBounds_toArray, List.set_cons_zero, List.set_cons_succ]
            refine wpAnyH_take (oi := ⟨_, _, _, _, _, _⟩) (i := 9) rfl (by kernel_rfl) (by kernel_rfl) (by kernel_rfl) (fun _ _ _ h => h) (Or.inr ⟨by rfl, rfl⟩) (by assumption) ?rp9
            try simp only [Act.put, List.setIfInBounds_toArray, List.set_cons_zero, List.set_cons_succ]
            refine wpAnyH_take (oi := ⟨_, _, _, _, _, _⟩) (i := 10) rfl (by kernel_rfl) (by kernel_rfl) (by kernel_rfl) (fun _ _ _ h => h) (Or.inr ⟨by rfl, rfl⟩) (by assumption) ?rp10
            try simp only [Act.put, List.setIfInBounds_toArray, List.set_cons_zero, List.set_cons_succ]
            refine wpAnyH_take (oi := ⟨_, _, _, _, _, _⟩) (i := 11) rfl (by kernel_rfl) (by kernel_rfl) (by kernel_rfl) (fun _ _ _ h => h) (Or.inr ⟨by rfl, rfl⟩) (by assumption) ?rp11
            try simp only [Act.put, List.setIfInBounds_toArray, List.set_cons_zero, List.set_cons_succ]
            refine wpAnyH_take (oi := ⟨_, _, _, _, _, _⟩) (i := 12) (v := ?_) rfl (by kernel_rfl) (by kernel_rfl) (by kernel_rfl) (fun _ _ _ h => h) (Or.inl ⟨by rfl, ?yp12⟩) (by assumption) ?rp12
            case yp12 => (intro w hSw; (try dsimp only at hSw); go_simp; (try with_reducible rfl))
            try simp only [Act.put, List.setIfInBounds_toArray, List.set_cons_zero, List.set_cons_succ]
            refine wpAnyH_done (by kernel_rfl) ?_ _
            have B9 := hHeld.2
            clear hHeld
            go_wp2
            go_roundw
            case rel => exact ⟨1, by omega, by go_num, HF2, B9⟩
            case measure => simp [intOf]; omega
          obtain ⟨i, rfl⟩ : ∃ i, j = i + 1 := ⟨j - 1, by omega⟩
          obtain ⟨y0, y1, y2⟩ := PVx (by omega)
          rw [Nat.add_sub_cancel] at y0 y1 y2
          have hw1 : IntKind.i64.wrap (((i + 1 : Nat) : Int) - 1) = (i : Int) := by rw [IntKind.wrap_i64]; omega
          have hw2 : IntKind.i64.wrap ((i : Int) + 1 - 1) = (i : Int) := by rw [IntKind.wrap_i64]; omega
          have hw3 : IntKind.i64.wrap (i : Int) = (i : Int) := by rw [IntKind.wrap_i64]; omega
          have hil : i < ar.length := by omega
          have ABk : z = !lt := by rw [ABk]; simp
          clear PV PVx
          cases lt
          · have EK := Lib.hid (Q3k.out (by rw [ABk]; rfl))
            have zc : 0 ≤ cv := HCV.out.2 rfl
            have zc' : decide (0 ≤ cv) = true := decide_eq_true zc
            clear HF Q3k ABk HCV
            go_wp2_with fail
            refine (C1.out _).mono ?_
            rintro e w3 ⟨rfl, rfl⟩
            go_wp2_with fail
            refine (C2.out _).mono ?_
            rintro e w4 ⟨rfl, rfl⟩
            go_wp2_with fail
            refine (C3.out _).mono ?_
            rintro e w5 ⟨rfl, rfl⟩
            go_upto_region 16 with fail
            refine wp_region_held_drew (S := fun w' => w'.cell? ⟨w.heap.size, 2, none⟩ = some (.slice (some ⟨b, off, none⟩) ar.length ac) ∧ w'.cell? ⟨wr.heap.size, 0, none⟩ = some (.int .i64 xf) ∧ w'.cell? ⟨wr.heap.size, 1, none⟩ = some (.int .i64 xt) ∧ w'.cell? ⟨wr.heap.size, 2, none⟩ = some (.int .i64 xo) ∧ w'.cell? ⟨b, off + i * 3, none⟩ = some (.int .i64 y.f) ∧ w'.cell? ⟨b, off + i * 3 + 1, none⟩ = some (.int .i64 y.t) ∧ w'.cell? ⟨b, off + i * 3 + 2, none⟩ = some (.int .i64 y.o) ∧ Hid (Below wx.heap.size wx w')) (by kernel_rfl) ?_ (fun hHeld => ?_)
            · exact ⟨c2, g0, g1, g2, y0, y1, y2, Dx.out.drew⟩
            refine wpAnyH_take (oi := ⟨_, _, _, _, _, _⟩) (i := 0) (v := ?_) rfl (by kernel_rfl) (by kernel_rfl) (by kernel_rfl) (fun _ _ _ h => h) (Or.inl ⟨by rfl, ?yu0⟩) (by assumption) ?ru0
            case yu0 => (intro w hSw; (try dsimp only at hSw); go_simp; (try with_reducible rfl))
            try simp only [Act.put, List.setIfInBounds_toArray, List.set_cons_zero, List.set_cons_succ]
            refine wpAnyH_take (oi := ⟨_, _, _, _, _, _⟩) (i := 1) (v := ?_) rfl (by kernel_rfl) (by kernel_rfl) (by kernel_rfl) (fun _ _ _ h => h) (Or.inl ⟨by rfl, ?yu1⟩) (by assumption) ?ru1
            case yu1 => (intro w hSw; (try dsimp only at hSw); go_simp; (try with_reducible rfl))
            try simp only [Act.put, List.setIfInBounds_toArray, List.set_cons_zero, List.set_cons_succ]
            refine wpAnyH_take (oi := ⟨_, _, _, _, _, _⟩) (i := 2) (v := ?_) rfl (by kernel_rfl) (by kernel_rfl) (by kernel_rfl) (fun _ _ _ h => h) (Or.inl ⟨by rfl, ?yu2⟩) (by assumption) ?ru2
            case yu2 => (intro w hSw; (try dsimp only at hSw); go_simp; (try with_reducible rfl))
            try simp only [Act.put, List.setIfInBounds_toArray, List.set_cons_zero, List.set_cons_succ]
            refine wpAnyH_take (oi := ⟨_, _, _, _, _, _⟩) (i := 3) (v := ?_) rfl (by kernel_rfl) (by kernel_rfl) (by kernel_rfl) (fun _ _ _ h => h) (Or.inl ⟨by rfl, ?yu3⟩) (by assumption) ?ru3
            case yu3 => (intro w hSw; (try dsimp only at hSw); go_simp; (try with_reducible rfl))
            try simp only [Act.put, List.setIfInBounds_toArray, List.set_cons_zero, List.set_cons_succ]
            refine wpAnyH_take (oi := ⟨_, _, _, _, _, _⟩) (i := 4) (v := ?_) rfl (by kernel_rfl) (by kernel_rfl) (by kernel_rfl) (fun _ _ _ h => h) (Or.inl ⟨by rfl, ?yu4⟩) (by assumption) ?ru4
            case yu4 => (intro w hSw; (try dsimp only at hSw); go_simp; (try with_reducible rfl))
            try simp only [Act.put, List.setIfInBounds_toArray, List.set_cons_zero, List.set_cons_succ]
            refine wpAnyH_take (oi := ⟨_, _, _, _, _, _⟩) (i := 5) (v := ?_) rfl (by kernel_rfl) (by kernel_rfl) (by kernel_rfl) (fun _ _ _ h => h) (Or.inl ⟨by rfl, ?yu5⟩) (by assumption) ?ru5
            case yu5 => (intro w hSw; (try dsimp only at hSw); go_simp; (try with_reducible rfl))
            try simp only [Act.put, List.setIfInBounds_toArray, List.set_cons_zero, List.set_cons_succ]
            refine wpAnyH_take (oi := ⟨_, _, _, _, _, _⟩) (i := 6) (v := ?_) rfl (by kernel_rfl) (by kernel_rfl) (by kernel_rfl) (fun _ _ _ h => h) (Or.inl ⟨by rfl, ?yu6⟩) (by assumption) ?ru6
            case yu6 => (intro w hSw; (try dsimp only at hSw); go_simp; (try with_reducible rfl))
            try simp only [Act.put, List.setIfInBounds_toArray, List.set_cons_zero, List.set_cons_succ]
            refine wpAnyH_take (oi := ⟨_, _, _, _, _, _⟩) (i := 7) (v := ?_) rfl (by kernel_rfl) (by kernel_rfl) (by kernel_rfl) (fun _ _ _ h => h) (Or.inl ⟨by rfl, ?yu7⟩) (by assumption) ?ru7
            case yu7 => (intro w hSw; (try dsimp only at hSw); go_simp; (try with_reducible rfl))
            try simp only [Act.put, List.setIfInBounds_toArray, List.set_cons_zero, List.set_cons_succ]
            refine wpAnyH_take (oi := ⟨_, _, _, _, _, _⟩) (i := 8) (v := ?_) rfl (by kernel_rfl) (by kernel_rfl) (by kernel_rfl) (fun _ _ _ h => h) (Or.inl ⟨by rfl, ?yu8⟩) (by assumption) ?ru8
            case yu8 => (intro w hSw; (try dsimp only at hSw); go_simp; (try with_reducible rfl))
            try simp only [Act.put, List.setIfInBounds_toArray, List.set_cons_zero, List.set_cons_succ]
            refine wpAnyH_take (oi := ⟨_, _, _, _, _, _⟩) (i := 9) (v := ?_) rfl (by kernel_rfl) (by kernel_rfl) (by kernel_rfl) (fun _ _ _ h => h) (Or.inl ⟨by rfl, ?yu9⟩) (by assumption) ?ru9
            case yu9 => (intro w hSw; (try dsimp only at hSw); go_simp; (try with_reducible rfl))
            try simp only [Act.put, List.setIfInBounds_toArray, List.set_cons_zero, List.set_cons_succ]
            refine wpAnyH_ready (rs := [10]) (by kernel_rfl) (by simp) ?_
            refine AllReadyH.cons (o := ⟨_, _, _, _, _, _⟩) rfl (fun K hK => ?_) AllReadyH.nil
            go_simp
            go_at_call 23; refine (HC.out _ (WG.out _ hHeld.2.2.2.2.2.2.2.out)).mono ?_; rintro e w9 ⟨rfl, K⟩; (try go_wp2_with fail)
            refine hK.out _ _ ?_ (fun hHeld2 => ?_)
            · obtain ⟨h1, h2, h3, h4, h5, h6, h7, h8⟩ := hHeld; exact ⟨keepc h1 K, keepc h2 K, keepc h3 K, keepc h4 K, keepc h5 K, keepc h6 K, keepc h7 K, h8.out.trans (K.mono h8.out.size)⟩
            clear hK K hHeld
            have hHeld := hHeld2
            clear hHeld2
            try simp only [Act.put, List.setIfInBounds_toArray, List.set_cons_zero, List.set_cons_succ]
            refine wpAnyH_take (oi := ⟨_, _, _, _, _, _⟩) (i := 11) (v := ?_) rfl (by kernel_rfl) (by kernel_rfl) (by kernel_rfl) (fun _ _ _ h => h) (Or.inl ⟨by rfl, ?yu11⟩) (by assumption) ?ru11
            case yu11 => (intro w hSw; (try dsimp only at hSw); go_simp; (try with_reducible rfl))
            try simp only [Act.put, List.setIfInBounds_toArray, List.set_cons_zero, List.set_cons_succ]
            refine wpAnyH_take (oi := ⟨_, _, _, _, _, _⟩) (i := 12) (v := ?_) rfl (by kernel_rfl) (by kernel_rfl) (by kernel_rfl) (fun _ _ _ h => h) (Or.inl ⟨by rfl, ?yu12⟩) (by assumption) ?ru12
            case yu12 => (intro w hSw; (try dsimp only at hSw); go_simp; (try with_reducible rfl))
            try simp only [Act.put, List.setIfInBounds_toArray, List.set_cons_zero, List.set_cons_succ]
            refine wpAnyH_done (by kernel_rfl) ?_ _
            have B9 := hHeld.2.2.2.2.2.2.2
            clear hHeld
            clear c0 c1 c2 r0 r1 rf
            obtain ⟨c0, c1, c2, r0, r1, rf⟩ := PQ.out _ B9.out
            have G9 := Lib.hid (WG.out _ B9.out)
            go_wp2
            exact bodyPost_ret (v := .agg #[.int .i64 8, .int .i64 ((i + 1 : Nat) : Int)]) (by simp [results, Try.results8, go_sem, r0, r1]) rfl ⟨8, ((i + 1 : Nat) : Int), by first | rfl | simp, ⟨fun h => absurd h (by decide), fun h => by rw [EK.out] at h; cases h⟩, (G9.out.setCell lg _).setCell lg _⟩
          · have HF2 := Lib.hid (HF.out (by rw [ABk]; rfl))
            have zc : ¬ 0 ≤ cv := fun h => by have := HCV.out.1 h; cases this
            have zc' : decide (0 ≤ cv) = false := decide_eq_false zc
            clear HF Q3k ABk HCV
            go_wp2_with fail
            refine (C1.out _).mono ?_
            rintro e w3 ⟨rfl, rfl⟩
            go_wp2_with fail
            refine (C2.out _).mono ?_
            rintro e w4 ⟨rfl, rfl⟩
            go_wp2_with fail
            refine (C3.out _).mono ?_
            rintro e w5 ⟨rfl, rfl⟩
            go_upto_region 16 with fail
            refine wp_region_held_drew (S := fun w' => w'.cell? ⟨w.heap.size, 2, none⟩ = some (.slice (some ⟨b, off, none⟩) ar.length ac) ∧ w'.cell? ⟨wr.heap.size, 0, none⟩ = some (.int .i64 xf) ∧ w'.cell? ⟨wr.heap.size, 1, none⟩ = some (.int .i64 xt) ∧ w'.cell? ⟨wr.heap.size, 2, none⟩ = some (.int .i64 xo) ∧ w'.cell? ⟨b, off + i * 3, none⟩ = some (.int .i64 y.f) ∧ w'.cell? ⟨b, off + i * 3 + 1, none⟩ = some (.int .i64 y.t) ∧ w'.cell? ⟨b, off + i * 3 + 2, none⟩ = some (.int .i64 y.o) ∧ Hid (Below wx.heap.size wx w')) (by kernel_rfl) ?_ (fun hHeld => ?_)
            · exact ⟨c2, g0, g1, g2, y0, y1, y2, Dx.out.drew⟩
            refine wpAnyH_take (oi := ⟨_, _, _, _, _, _⟩) (i := 0) (v := ?_) rfl (by kernel_rfl) (by kernel_rfl) (by kernel_rfl) (fun _ _ _ h => h) (Or.inl ⟨by rfl, ?yv0⟩) (by assumption) ?rv0
            case yv0 => (intro w hSw; (try dsimp only at hSw); go_simp; (try with_reducible rfl))
            try simp only [Act.put, List.setIfInBounds_toArray, List.set_cons_zero, List.set_cons_succ]
            refine wpAnyH_take (oi := ⟨_, _, _, _, _, _⟩) (i := 1) (v := ?_) rfl (by kernel_rfl) (by kernel_rfl) (by kernel_rfl) (fun _ _ _ h => h) (Or.inl ⟨by rfl, ?yv1⟩) (by assumption) ?rv1
            case yv1 => (intro w hSw; (try dsimp only at hSw); go_simp; (try with_reducible rfl))
            try simp only [Act.put, List.setIfInBounds_toArray, List.set_cons_zero, List.set_cons_succ]
            refine wpAnyH_take (oi := ⟨_, _, _, _, _, _⟩) (i := 2) (v := ?_) rfl (by kernel_rfl) (by kernel_rfl) (by kernel_rfl) (fun _ _ _ h => h) (Or.inl ⟨by rfl, ?yv2⟩) (by assumption) ?rv2
            case yv2 => (intro w hSw; (try dsimp only at hSw); go_simp; (try with_reducible rfl))
            try simp only [Act.put, List.setIfInBounds_toArray, List.set_cons_zero, List.set_cons_succ]
            refine wpAnyH_take (oi := ⟨_, _, _, _, _, _⟩) (i := 3) (v := ?_) rfl (by kernel_rfl) (by kernel_rfl) (by kernel_rfl) (fun _ _ _ h => h) (Or.inl ⟨by rfl, ?yv3⟩) (by assumption) ?rv3
            case yv3 => (intro w hSw; (try dsimp only at hSw); go_simp; (try with_reducible rfl))
            try simp only [Act.put, List.setIfInBounds_toArray, List.set_cons_zero, List.set_cons_succ]
            refine wpAnyH_take (oi := ⟨_, _, _, _, _, _⟩) (i := 4) (v := ?_) rfl (by kernel_rfl) (by kernel_rfl) (by kernel_rfl) (fun _ _ _ h => h) (Or.inl ⟨by rfl, ?yv4⟩) (by assumption) ?rv4
            case yv4 => (intro w hSw; (try dsimp only at hSw); go_simp; (try with_reducible rfl))
            try simp only [Act.put, List.setIfInBounds_toArray, List.set_cons_zero, List.set_cons_succ]
            refine wpAnyH_take (oi := ⟨_, _, _, _, _, _⟩) (i := 5) (v := ?_) rfl (by kernel_rfl) (by kernel_rfl) (by kernel_rfl) (fun _ _ _ h => h) (Or.inl ⟨by rfl, ?yv5⟩) (by assumption) ?rv5
            case yv5 => (intro w hSw; (try dsimp only at hSw); go_simp; (try with_reducible rfl))
            try simp only [Act.put, List.setIfInBounds_toArray, List.set_cons_zero, List.set_cons_succ]
            refine wpAnyH_take (oi := ⟨_, _, _, _, _, _⟩) (i := 6) (v := ?_) rfl (by kernel_rfl) (by kernel_rfl) (by kernel_rfl) (fun _ _ _ h => h) (Or.inl ⟨by rfl, ?yv6⟩) (by assumption) ?rv6
            case yv6 => (intro w hSw; (try dsimp only at hSw); go_simp; (try with_reducible rfl))
            try simp only [Act.put, List.setIfInBounds_toArray, List.set_cons_zero, List.set_cons_succ]
            refine wpAnyH_take (oi := ⟨_, _, _, _, _, _⟩) (i := 7) (v := ?_) rfl (by kernel_rfl) (by kernel_rfl) (by kernel_rfl) (fun _ _ _ h => h) (Or.inl ⟨by rfl, ?yv7⟩) (by assumption) ?rv7
            case yv7 => (intro w hSw; (try dsimp only at hSw); go_simp; (try with_reducible rfl))
            try simp only [Act.put, List.setIfInBounds_toArray, List.set_cons_zero, List.set_cons_succ]
            refine wpAnyH_take (oi := ⟨_, _, _, _, _, _⟩) (i := 8) (v := ?_) rfl (by kernel_rfl) (by kernel_rfl) (by kernel_rfl) (fun _ _ _ h => h) (Or.inl ⟨by rfl, ?yv8⟩) (by assumption) ?rv8
            case yv8 => (intro w hSw; (try dsimp only at hSw); go_simp; (try with_reducible rfl))
            try simp only [Act.put, List.setIfInBounds_toArray, List.set_cons_zero, List.set_cons_succ]
            refine wpAnyH_take (oi := ⟨_, _, _, _, _, _⟩) (i := 9) (v := ?_) rfl (by kernel_rfl) (by kernel_rfl) (by kernel_rfl) (fun _ _ _ h => h) (Or.inl ⟨by rfl, ?yv9⟩) (by assumption) ?rv9
            case yv9 => (intro w hSw; (try dsimp only at hSw); go_simp; (try with_reducible rfl))
            try simp only [Act.put, List.setIfInBounds_toArray, List.set_cons_zero, List.set_cons_succ]
            refine wpAnyH_ready (rs := [10]) (by kernel_rfl) (by simp) ?_
            refine AllReadyH.cons (o := ⟨_, _, _, _, _, _⟩) rfl (fun K hK => ?_) AllReadyH.nil
            go_simp
            go_at_call 23; refine (HC.out _ (WG.out _ hHeld.2.2.2.2.2.2.2.out)).mono ?_; rintro e w9 ⟨rfl, K⟩; (try go_wp2_with fail)
            refine hK.out _ _ ?_ (fun hHeld2 => ?_)
            · obtain ⟨h1, h2, h3, h4, h5, h6, h7, h8⟩ := hHeld; exact ⟨keepc h1 K, keepc h2 K, keepc h3 K, keepc h4 K, keepc h5 K, keepc h6 K, keepc h7 K, h8.out.trans (K.mono h8.out.size)⟩
            clear hK K hHeld
            have hHeld := hHeld2
            clear hHeld2
            try simp only [Act.put, List.setIfInBounds_toArray, List.set_cons_zero, List.set_cons_succ]
            refine wpAnyH_take (oi := ⟨_, _, _, _, _, _⟩) (i := 11) (v := ?_) rfl (by kernel_rfl) (by kernel_rfl) (by kernel_rfl) (fun _ _ _ h => h) (Or.inl ⟨by rfl, ?yv11⟩) (by assumption) ?rv11
            case yv11 => (intro w hSw; (try dsimp only at hSw); go_simp; (try with_reducible rfl))
            try simp only [Act.put, List.setIfInBounds_toArray, List.set_cons_zero, List.set_cons_succ]
            refine wpAnyH_take (oi := ⟨_, _, _, _, _, _⟩) (i := 12) (v := ?_) rfl (by kernel_rfl) (by kernel_rfl) (by kernel_rfl) (fun _ _ _ h => h) (Or.inl ⟨by rfl, ?yv12⟩) (by assumption) ?rv12
            case yv12 => (intro w hSw; (try dsimp only at hSw); go_simp; (try with_reducible rfl))
            try simp only [Act.put, List.setIfInBounds_toArray, List.set_cons_zero, List.set_cons_succ]
            refine wpAnyH_done (by kernel_rfl) ?_ _
            have B9 := hHeld.2.2.2.2.2.2.2
            clear hHeld
            go_wp2
            go_roundw
            case rel => exact ⟨i + 1 + 1, by omega, by go_num, HF2, B9⟩
            case measure => simp [intOf]; omega
        · have EK := Lib.hid (Q4.out fun i hi => HY.out i (by omega))
          clear HY Q3 Q4 AB
          go_wp2
          exact bodyPost_ret (v := .agg #[.int .i64 0, .int .i64 (0)]) (by simp [results, Try.results8, go_sem, r0, r1]) rfl ⟨0, (0), by first | rfl | simp, ⟨fun _ => EK.out, fun _ => rfl⟩, (BG.out.setCell lg _).setCell lg _⟩
end Go.Proofs.Ythcbcgaekbmoaaa
