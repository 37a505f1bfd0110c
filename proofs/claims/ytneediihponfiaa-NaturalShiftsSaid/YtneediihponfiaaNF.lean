/- Bounded natural solutions: which problems are small, and the example. -/
import Derived.Test.YtneediihponfiaaNE
namespace Go.Proofs.Ytneediihponfiaa
open Go.RowKit

def fewB (p : PV) : Bool := allB (min p.L.length 71) (fun i => decide ((rA p.L i).zs.length ≤ 70)) && (decide (p.L.length ≤ 70) && (decide (p.b.length ≤ 70) && (decide (p.u.length ≤ 70) && (decide (chkP p.L p.b p.u ≠ 0) || decide (prodN p.u ≤ 3000)))))
theorem few_row {p : PV} {i : Nat} (h1 : i < p.L.length) (h2 : i < 71) (h : ¬ (rA p.L i).zs.length ≤ 70) : fewB p = false := by
  unfold fewB
  rw [allB_no i (by omega) (decide_eq_false h), Bool.false_and]
theorem few_L {p : PV} (h : ¬ p.L.length ≤ 70) : fewB p = false := by
  unfold fewB
  rw [decide_eq_false h, Bool.false_and, Bool.and_false]
theorem few_b {p : PV} (h : ¬ p.b.length ≤ 70) : fewB p = false := by
  unfold fewB
  rw [decide_eq_false h, Bool.false_and, Bool.and_false, Bool.and_false]
theorem few_u {p : PV} (h : ¬ p.u.length ≤ 70) : fewB p = false := by
  unfold fewB
  rw [decide_eq_false h, Bool.false_and, Bool.and_false, Bool.and_false, Bool.and_false]
theorem few_last {p : PV} (h0 : ∀ i, i < p.L.length → (rA p.L i).zs.length ≤ 70) (h1 : p.L.length ≤ 70) (h2 : p.b.length ≤ 70) (h3 : p.u.length ≤ 70) : fewB p = (decide (chkP p.L p.b p.u ≠ 0) || decide (prodN p.u ≤ 3000)) := by
  unfold fewB
  rw [allB_yes (fun i hi => decide_eq_true (h0 i (by omega))), decide_eq_true h1, decide_eq_true h2, decide_eq_true h3]
  simp only [Bool.true_and]
theorem few_parts {p : PV} (h : fewB p = true) : (∀ i, i < p.L.length → (rA p.L i).zs.length ≤ 70) ∧ p.L.length ≤ 70 ∧ p.b.length ≤ 70 ∧ p.u.length ≤ 70 ∧ (chkP p.L p.b p.u = 0 → prodN p.u ≤ 3000) := by
  unfold fewB at h
  simp only [Bool.and_eq_true, Bool.or_eq_true, decide_eq_true_eq] at h
  obtain ⟨h1, h2, h3, h4, h5⟩ := h
  refine ⟨fun i hi => of_decide_eq_true (allB_iff.1 h1 i (by omega)), h2, h3, h4, fun hc => h5.resolve_left (fun c => c hc)⟩
theorem PW.small {w : World} {p : PV} (h : PW w p) (h0 : ∀ i, i < p.L.length → (rA p.L i).zs.length ≤ 70) : PR w p := by
  refine ⟨⟨h.A.cells, fun r hr => ⟨(h.A.rows r hr).1, ?_⟩⟩, h.B, h.U⟩
  obtain ⟨i, hi, rfl⟩ := List.mem_iff_getElem.1 hr
  have := h0 i hi
  unfold rA at this
  rw [List.getElem?_eq_getElem hi] at this
  have : p.L[i].zs.length ≤ 70 := this
  omega
theorem PW.below {w w' : World} {p : PV} (h : PW w p) (hb : Below w.heap.size w w') : PW w' p :=
  ⟨⟨h.A.nz, h.A.len, h.A.cells.below hb (Nat.le_refl _), fun r hr => ⟨(h.A.rows r hr).1.below hb (Nat.le_refl _), (h.A.rows r hr).2⟩⟩, h.B.below hb (Nat.le_refl _), h.U.below hb (Nat.le_refl _), h.bm, h.um⟩
set_option maxHeartbeats 8000000 in
set_option maxRecDepth 100000 in
theorem few_any (p : PV) (w : World) (hr : PW w p) :
    Calls Try.prog 9 #[.agg #[.slice p.A p.L.length p.ca, .slice p.B p.b.length p.cb, .slice p.U p.u.length p.cu]] w (VPost w.heap.size w (.bool (fewB p))) := by
  have B0 : Hid (Below w.heap.size w (w.alloc (.cells #[.slice p.A p.L.length p.ca, .slice p.B p.b.length p.cb, .slice p.U p.u.length p.cu] 25))) := (Below.refl _ _).alloc (Nat.le_refl _) _
  have q0 : (w.alloc (.cells #[.slice p.A p.L.length p.ca, .slice p.B p.b.length p.cb, .slice p.U p.u.length p.cu] 25)).cell? ⟨w.heap.size, 0, none⟩ = some (.slice p.A p.L.length p.ca) := by simp
  have q1 : (w.alloc (.cells #[.slice p.A p.L.length p.ca, .slice p.B p.b.length p.cb, .slice p.U p.u.length p.cu] 25)).cell? ⟨w.heap.size, 1, none⟩ = some (.slice p.B p.b.length p.cb) := by simp
  have q2 : (w.alloc (.cells #[.slice p.A p.L.length p.ca, .slice p.B p.b.length p.cb, .slice p.U p.u.length p.cu] 25)).cell? ⟨w.heap.size, 2, none⟩ = some (.slice p.U p.u.length p.cu) := by simp
  have R1 := hr.below B0.out
  have CA : Hid (∀ i, i < p.L.length → ∃ b off, p.A = some ⟨b, off, none⟩ ∧ (w.alloc (.cells #[.slice p.A p.L.length p.ca, .slice p.B p.b.length p.cb, .slice p.U p.u.length p.cu] 25)).cell? ⟨b, off + i, none⟩ = some (.slice (rA p.L i).A (rA p.L i).zs.length (rA p.L i).cap)) := fun i hi => R1.A.cells.at i hi
  have CK : Hid ((∀ i, i < p.L.length → (rA p.L i).zs.length ≤ 70) → p.L.length ≤ 70 → p.b.length ≤ 70 → p.u.length ≤ 70 → Calls Try.prog 12 #[.slice p.A p.L.length p.ca, .slice p.B p.b.length p.cb, .slice p.U p.u.length p.cu] (w.alloc (.cells #[.slice p.A p.L.length p.ca, .slice p.B p.b.length p.cb, .slice p.U p.u.length p.cu] 25)) (fun e w' => e = .returned (.int .i64 (chkP p.L p.b p.u)) ∧ (w.alloc (.cells #[.slice p.A p.L.length p.ca, .slice p.B p.b.length p.cb, .slice p.U p.u.length p.cu] 25)) = w')) := fun h0 h1 h2 h3 =>
    rcheck_any _ _ _ _ _ _ _ _ _ _ (R1.small h0).rA (by omega) R1.B (by omega) R1.U (by omega)
  have CP : Hid (chkP p.L p.b p.u = 0 → p.u.length ≤ 70 → Calls Try.prog 21 #[.slice p.U p.u.length p.cu] (w.alloc (.cells #[.slice p.A p.L.length p.ca, .slice p.B p.b.length p.cb, .slice p.U p.u.length p.cu] 25)) (fun e w' => e = .returned (.int .i64 ((prodN p.u : Nat) : Int)) ∧ (w.alloc (.cells #[.slice p.A p.L.length p.ca, .slice p.B p.b.length p.cb, .slice p.U p.u.length p.cu] 25)) = w')) := fun hc h3 => by
    have D0 := chk0 hc
    rw [← prod_prodN p.u (fun k hk => (withB_at D0.ub k hk).1)]
    exact rproduct_any _ _ _ _ R1.U (by omega) D0.ub D0.lim
  have FR : Hid (∀ i, i < p.L.length → i < 71 → ¬ (rA p.L i).zs.length ≤ 70 → fewB p = false) := fun i h1 h2 h3 => few_row h1 h2 h3
  have FL : Hid (¬ p.L.length ≤ 70 → fewB p = false) := few_L
  have Fb : Hid (¬ p.b.length ≤ 70 → fewB p = false) := few_b
  have Fu : Hid (¬ p.u.length ≤ 70 → fewB p = false) := few_u
  have FX : Hid ((∀ i, i < p.L.length → (rA p.L i).zs.length ≤ 70) → p.L.length ≤ 70 → p.b.length ≤ 70 → p.u.length ≤ 70 → fewB p = (decide (chkP p.L p.b p.u ≠ 0) || decide (prodN p.u ≤ 3000))) := few_last
  clear hr R1
  obtain ⟨wB, hwB⟩ : ∃ wB, wB = (w.alloc (.cells #[.slice p.A p.L.length p.ca, .slice p.B p.b.length p.cb, .slice p.U p.u.length p.cu] 25)) := ⟨_, rfl⟩
  rw [← hwB] at B0 q0 q1 q2 CA CK CP
  unfold VPost
  generalize fewB p = S at *
  generalize chkP p.L p.b p.u = E at *
  generalize prodN p.u = N at *
  go_enter Try.func9, Try.ntmps9
  go_wp2_with fail
  rw [← hwB]
  clear hwB
  go_loop [3] (fun q => ∃ i : Nat, i ≤ p.L.length ∧ i ≤ 71 ∧ q = .int .i64 i ∧ Hid (∀ j, j < i → (rA p.L j).zs.length ≤ 70)) (fun q => 71 - (intOf q).toNat)
  case atStart => exact ⟨0, by omega, by omega, rfl, fun j hj => absurd hj (by omega)⟩
  case round =>
    obtain ⟨i, hi, hi2, rfl, HM⟩ := hrel
    by_cases hlt : i < p.L.length
    · have z1 : decide ((i : Int) < (p.L.length : Int)) = true := decide_eq_true (by omega)
      by_cases h71 : i < 71
      · have z2 : decide ((i : Int) < 71) = true := decide_eq_true (by omega)
        obtain ⟨b, off, eA, hc⟩ := CA.out i hlt
        have FRi := Lib.hid (FR.out i hlt h71)
        have HM2 : Hid ((rA p.L i).zs.length ≤ 70 → ∀ j, j < i + 1 → (rA p.L j).zs.length ≤ 70) := fun h j hj => by
          rcases Nat.lt_succ_iff_lt_or_eq.1 hj with h' | h'
          · exact HM.out j h'
          · rw [h']; exact h
        clear HM CK CP FL Fb Fu FX FR CA
        generalize rA p.L i = row at *
        obtain ⟨rwA, rz, rc⟩ := row
        dsimp only at *
        generalize rz.length = m at *
        rw [eA] at q0
        by_cases h70 : m ≤ 70
        · have z3 : decide ((70 : Int) < (m : Int)) = false := decide_eq_false (by omega)
          have R := Lib.hid (HM2.out h70)
          clear HM2 FRi
          go_wp2
          go_round
          case rel => exact ⟨i + 1, by omega, by omega, by go_num, R⟩
          case measure => simp [intOf]; omega
        · have z3 : decide ((70 : Int) < (m : Int)) = true := decide_eq_true (by omega)
          have R := Lib.hid (FRi.out h70)
          clear HM2 FRi
          go_wp2
          go_ret
          exact ⟨ret_b R.out.symm, B0.out⟩
      · have z2 : decide ((i : Int) < 71) = false := decide_eq_false (by omega)
        have z3 : decide ((p.L.length : Int) ≤ 70) = false := decide_eq_false (by omega)
        have R := Lib.hid (FL.out (by omega))
        clear HM CK CP FL Fb Fu FX FR CA
        go_wp2
        go_ret
        exact ⟨ret_b R.out.symm, B0.out⟩
    · have z1 : decide ((i : Int) < (p.L.length : Int)) = false := decide_eq_false (by omega)
      obtain rfl : i = p.L.length := by omega
      by_cases h1 : p.L.length ≤ 70
      · have y1 : decide ((p.L.length : Int) ≤ 70) = true := decide_eq_true (by omega)
        by_cases h2 : p.b.length ≤ 70
        · have y2 : decide ((p.b.length : Int) ≤ 70) = true := decide_eq_true (by omega)
          by_cases h3 : p.u.length ≤ 70
          · have y3 : decide ((p.u.length : Int) ≤ 70) = true := decide_eq_true (by omega)
            have C := Lib.hid (CK.out HM.out h1 h2 h3)
            have X := FX.out HM.out h1 h2 h3
            clear HM CK FL Fb Fu FX FR CA
            by_cases hE : E = 0
            · subst hE
              have P := Lib.hid (CP.out rfl h3)
              clear CP
              rw [decide_eq_false (fun h => h rfl), Bool.false_or] at X
              have X := Lib.hid X
              have y4 : decide ((N : Int) ≤ 3000) = decide (N ≤ 3000) := by rw [decide_eq_decide]; omega
              cases hb : decide (N ≤ 3000)
              · rw [hb] at y4 X
                clear hb
                go_wp2_with fail
                refine C.out.mono ?_
                rintro e x1 ⟨rfl, rfl⟩
                go_wp2_with fail
                refine P.out.mono ?_
                rintro e x1 ⟨rfl, rfl⟩
                go_wp2
                go_ret
                exact ⟨ret_b X.out.symm, B0.out⟩
              · rw [hb] at y4 X
                clear hb
                go_wp2_with fail
                refine C.out.mono ?_
                rintro e x1 ⟨rfl, rfl⟩
                go_wp2_with fail
                refine P.out.mono ?_
                rintro e x1 ⟨rfl, rfl⟩
                go_wp2
                go_ret
                exact ⟨ret_b X.out.symm, B0.out⟩
            · rw [decide_eq_true hE, Bool.true_or] at X
              have X := Lib.hid X
              have y4 : (E != 0) = true := by simpa using hE
              clear CP
              go_wp2_with fail
              refine C.out.mono ?_
              rintro e x1 ⟨rfl, rfl⟩
              go_wp2
              go_ret
              exact ⟨ret_b X.out.symm, B0.out⟩
          · have y3 : decide ((p.u.length : Int) ≤ 70) = false := decide_eq_false (by omega)
            have R := Lib.hid (Fu.out h3)
            clear HM CK CP FL Fb Fu FX FR CA
            go_wp2
            go_ret
            exact ⟨ret_b R.out.symm, B0.out⟩
        · have y2 : decide ((p.b.length : Int) ≤ 70) = false := decide_eq_false (by omega)
          have R := Lib.hid (Fb.out h2)
          clear HM CK CP FL Fb Fu FX FR CA
          go_wp2
          go_ret
          exact ⟨ret_b R.out.symm, B0.out⟩
      · have y1 : decide ((p.L.length : Int) ≤ 70) = false := decide_eq_false (by omega)
        have R := Lib.hid (FL.out h1)
        clear HM CK CP FL Fb Fu FX FR CA
        go_wp2
        go_ret
        exact ⟨ret_b R.out.symm, B0.out⟩
/-- the problem of the example -/
def exP (w : World) : PV := ⟨some ⟨w.heap.size + 1, 0, none⟩, [⟨some ⟨w.heap.size, 0, none⟩, [1, 1], 2⟩], 1, some ⟨w.heap.size + 1 + 1, 0, none⟩, [2], 1, some ⟨w.heap.size + 1 + 1 + 1, 0, none⟩, [2, 2], 2⟩
theorem ex_chk (w : World) : chkP (exP w).L (exP w).b (exP w).u = 0 := by rfl
theorem ex_sol (w : World) : solT (exP w).L (exP w).b (exP w).u = [[0, 2], [1, 1], [2, 0]] := by rfl
theorem ex_row {w : World} {g : Nat} {cs : Array Value} {zs : List Int} (h : w.heap[g]? = some (.cells cs 2 (0, 0))) (hz : cs = (zs.map (Value.int .i64)).toArray) : ReadsV w (some ⟨g, 0, none⟩) zs := ReadsV.row h hz
theorem heap_old (w : World) (o : Obj) (k : Nat) (h : k < w.heap.size) : (w.alloc o).heap[k]? = w.heap[k]? := Below.heap_alloc w o k h
theorem heap_new (w : World) (o : Obj) : (w.alloc o).heap[w.heap.size]? = some o := World.alloc_heap_new w o
theorem ex_pr (w : World) : PR ((((w.alloc (.cells #[.int .i64 1, .int .i64 1] 2)).alloc (.cells #[.slice (some ⟨w.heap.size, 0, none⟩) 2 2] 23)).alloc (.cells #[.int .i64 2] 2)).alloc (.cells #[.int .i64 2, .int .i64 2] 2)) (exP w) := by
  have s1 : (w.alloc (.cells #[.int .i64 1, .int .i64 1] 2)).heap.size = w.heap.size + 1 := World.size_alloc ..
  have s2 : ((w.alloc (.cells #[.int .i64 1, .int .i64 1] 2)).alloc (.cells #[.slice (some ⟨w.heap.size, 0, none⟩) 2 2] 23)).heap.size = w.heap.size + 1 + 1 := by rw [World.size_alloc, s1]
  have s3 : (((w.alloc (.cells #[.int .i64 1, .int .i64 1] 2)).alloc (.cells #[.slice (some ⟨w.heap.size, 0, none⟩) 2 2] 23)).alloc (.cells #[.int .i64 2] 2)).heap.size = w.heap.size + 1 + 1 + 1 := by rw [World.size_alloc, s2]
  have h0 : ((((w.alloc (.cells #[.int .i64 1, .int .i64 1] 2)).alloc (.cells #[.slice (some ⟨w.heap.size, 0, none⟩) 2 2] 23)).alloc (.cells #[.int .i64 2] 2)).alloc (.cells #[.int .i64 2, .int .i64 2] 2)).heap[w.heap.size]? = some (.cells #[.int .i64 1, .int .i64 1] 2 (0, 0)) := by
    rw [heap_old _ _ _ (by omega), heap_old _ _ _ (by omega), heap_old _ _ _ (by omega)]
    exact heap_new _ _
  have h1 : ((((w.alloc (.cells #[.int .i64 1, .int .i64 1] 2)).alloc (.cells #[.slice (some ⟨w.heap.size, 0, none⟩) 2 2] 23)).alloc (.cells #[.int .i64 2] 2)).alloc (.cells #[.int .i64 2, .int .i64 2] 2)).heap[w.heap.size + 1]? = some (.cells #[.slice (some ⟨w.heap.size, 0, none⟩) 2 2] 23 (0, 0)) := by
    rw [heap_old _ _ _ (by omega), heap_old _ _ _ (by omega), ← s1]
    exact heap_new _ _
  have h2 : ((((w.alloc (.cells #[.int .i64 1, .int .i64 1] 2)).alloc (.cells #[.slice (some ⟨w.heap.size, 0, none⟩) 2 2] 23)).alloc (.cells #[.int .i64 2] 2)).alloc (.cells #[.int .i64 2, .int .i64 2] 2)).heap[w.heap.size + 1 + 1]? = some (.cells #[.int .i64 2] 2 (0, 0)) := by
    rw [heap_old _ _ _ (by omega), ← s2]
    exact heap_new _ _
  have h3 : ((((w.alloc (.cells #[.int .i64 1, .int .i64 1] 2)).alloc (.cells #[.slice (some ⟨w.heap.size, 0, none⟩) 2 2] 23)).alloc (.cells #[.int .i64 2] 2)).alloc (.cells #[.int .i64 2, .int .i64 2] 2)).heap[w.heap.size + 1 + 1 + 1]? = some (.cells #[.int .i64 2, .int .i64 2] 2 (0, 0)) := by
    rw [← s3]
    exact heap_new _ _
  have s4 : ((((w.alloc (.cells #[.int .i64 1, .int .i64 1] 2)).alloc (.cells #[.slice (some ⟨w.heap.size, 0, none⟩) 2 2] 23)).alloc (.cells #[.int .i64 2] 2)).alloc (.cells #[.int .i64 2, .int .i64 2] 2)).heap.size = w.heap.size + 1 + 1 + 1 + 1 := by rw [World.size_alloc, s3]
  refine ⟨⟨fun j hj => ?_, fun r hr => ?_⟩, ex_row h2 rfl, ex_row h3 rfl⟩
  · have hj : j = 0 := by simp [exP] at hj; omega
    subst hj
    refine ⟨w.heap.size + 1, 0, rfl, by omega, ?_⟩
    simp only [World.cell?, h1]
    rfl
  · have hr : r = ⟨some ⟨w.heap.size, 0, none⟩, [1, 1], 2⟩ := by simpa [exP] using hr
    subst hr
    exact ⟨ex_row h0 rfl, by show 2 ≤ 1000; decide⟩
set_option maxHeartbeats 8000000 in
set_option maxRecDepth 100000 in
theorem alive_any (w : World) :
    Calls Try.prog 10 #[] w (VPost w.heap.size w (.bool true)) := by
  have k4 : Hid (Below w.heap.size w ((((w.alloc (.cells #[.int .i64 1, .int .i64 1] 2)).alloc (.cells #[.slice (some ⟨w.heap.size, 0, none⟩) 2 2] 23)).alloc (.cells #[.int .i64 2] 2)).alloc (.cells #[.int .i64 2, .int .i64 2] 2))) := ((((Below.refl _ _).alloc (Nat.le_refl _) _).alloc (by simp) _).alloc (by simp; omega) _).alloc (by simp; omega) _
  have PX := Lib.hid (ex_pr w)
  have CS : Hid (∀ W, Below ((((w.alloc (.cells #[.int .i64 1, .int .i64 1] 2)).alloc (.cells #[.slice (some ⟨w.heap.size, 0, none⟩) 2 2] 23)).alloc (.cells #[.int .i64 2] 2)).alloc (.cells #[.int .i64 2, .int .i64 2] 2)).heap.size ((((w.alloc (.cells #[.int .i64 1, .int .i64 1] 2)).alloc (.cells #[.slice (some ⟨w.heap.size, 0, none⟩) 2 2] 23)).alloc (.cells #[.int .i64 2] 2)).alloc (.cells #[.int .i64 2, .int .i64 2] 2)) W → Calls Try.prog 13 #[.slice (some ⟨w.heap.size + 1, 0, none⟩) 1 1, .slice (some ⟨w.heap.size + 1 + 1, 0, none⟩) 1 1, .slice (some ⟨w.heap.size + 1 + 1 + 1, 0, none⟩) 2 2] W fun e w' => ∃ A c, e = .returned (.tuple #[.slice A 2 c, .bool true, .int .i64 0]) ∧ ReadsV w' A [0, 2] ∧ Below W.heap.size W w') := fun W hW => by
    refine (solve_any (exP w) W (PX.out.below hW) ⟨by show 1 ≤ 1000; decide, by show 1 ≤ 1000; decide, by show 2 ≤ 1000; decide⟩).mono ?_
    rintro e w' ⟨A, c, rfl, h1, h2⟩
    have es : solvV (exP w) = some [0, 2] := by rw [solv_fine (ex_chk w), ex_sol]; rfl
    rw [es] at h1 ⊢
    rw [ex_chk w]
    exact ⟨A, c, rfl, h1, h2⟩
  have CC : Hid (∀ W, Below ((((w.alloc (.cells #[.int .i64 1, .int .i64 1] 2)).alloc (.cells #[.slice (some ⟨w.heap.size, 0, none⟩) 2 2] 23)).alloc (.cells #[.int .i64 2] 2)).alloc (.cells #[.int .i64 2, .int .i64 2] 2)).heap.size ((((w.alloc (.cells #[.int .i64 1, .int .i64 1] 2)).alloc (.cells #[.slice (some ⟨w.heap.size, 0, none⟩) 2 2] 23)).alloc (.cells #[.int .i64 2] 2)).alloc (.cells #[.int .i64 2, .int .i64 2] 2)) W → Calls Try.prog 16 #[.slice (some ⟨w.heap.size + 1, 0, none⟩) 1 1, .slice (some ⟨w.heap.size + 1 + 1, 0, none⟩) 1 1, .slice (some ⟨w.heap.size + 1 + 1 + 1, 0, none⟩) 2 2] W fun e w' => e = .returned (.tuple #[.int .i64 3, .int .i64 0]) ∧ Below W.heap.size W w') := fun W hW => by
    have h := count_any (exP w) W (PX.out.below hW) ⟨by show 1 ≤ 1000; decide, by show 1 ≤ 1000; decide, by show 2 ≤ 1000; decide⟩
    rw [cnt_fine (ex_chk w), ex_sol] at h
    exact h
  obtain ⟨w4, hw4⟩ : ∃ w4, w4 = ((((w.alloc (.cells #[.int .i64 1, .int .i64 1] 2)).alloc (.cells #[.slice (some ⟨w.heap.size, 0, none⟩) 2 2] 23)).alloc (.cells #[.int .i64 2] 2)).alloc (.cells #[.int .i64 2, .int .i64 2] 2)) := ⟨_, rfl⟩
  have s4 : w4.heap.size = w.heap.size + 1 + 1 + 1 + 1 := by rw [hw4]; simp
  rw [← hw4] at k4 CS CC
  clear PX
  go_enter Try.func10, Try.ntmps10
  go_wp2_with fail
  rw [← hw4]
  clear hw4 s4
  refine (CS.out _ (Below.refl _ _)).mono ?_
  rintro e x1 ⟨A, c, rfl, R1, K1⟩
  have R1 := Lib.hid R1
  have D1 := Lib.hid K1
  clear K1
  go_wp2_with fail
  refine (CC.out _ D1.out).mono ?_
  rintro e x2 ⟨rfl, K2⟩
  have R2 := Lib.hid (R1.out.below K2 (Nat.le_refl _))
  have D2 := Lib.hid (k4.out.trans ((D1.out.trans (K2.mono D1.out.size)).mono k4.out.size))
  clear K2 R1 D1
  have SM : Hid (∀ W, Below x2.heap.size x2 W → ∀ g, W.heap[g]? = some (.cells #[.int .i64 0, .int .i64 2] 2 (0, 0)) → Calls Try.prog 15 #[.slice A 2 c, .slice (some ⟨g, 0, none⟩) 2 2] W (BPost W.heap.size W true)) := fun W hW g hg => by
    have h := same_law A (some ⟨g, 0, none⟩) [0, 2] [0, 2] c 2 W (R2.out.below hW (Nat.le_refl _)) (ex_row hg rfl) (by decide)
    rw [show sameL [0, 2] [0, 2] = true from rfl] at h
    exact h
  have k5 : Hid (Below x2.heap.size x2 (x2.alloc (.cells #[.int .i64 0, .int .i64 2] 2))) := (Below.refl _ _).alloc (Nat.le_refl _) _
  clear CS CC R2
  go_wp2_with fail
  refine (SM.out _ k5.out _ (heap_new _ _)).mono ?_
  rintro e x3 ⟨rfl, K3⟩
  have D3 := Lib.hid (D2.out.trans ((k5.out.trans (K3.mono k5.out.size)).mono D2.out.size))
  clear K3 SM k5 D2
  go_wp2
  go_ret
  exact ⟨rfl, D3.out⟩
end Go.Proofs.Ytneediihponfiaa
