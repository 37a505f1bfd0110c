/- Graphs: equality of lists; the example. -/
import Derived.Test.YtdfljeonoallfaaGP
import Derived.Test.YtdfljeonoallfaaGZ
namespace Go.Proofs.Ytdfljeonoallfaa
open Go.RowKit Go.Deep

theorem list_ext0 {a b : List Int} (hl : a.length = b.length) (h : ∀ k, k < a.length → at0 a k = at0 b k) : a = b := by
  apply List.ext_getElem hl
  intro i h1 h2
  have := h i h1
  unfold at0 at this
  rw [List.getElem?_eq_getElem h1, List.getElem?_eq_getElem h2] at this
  exact this
set_option maxHeartbeats 2000000 in
set_option maxRecDepth 100000 in
theorem same_any (A B : Option Addr) (a b : List Int) (ca cb : Nat) (w : World) (ra : ReadsV w A a) (rb : ReadsV w B b) (hl : a.length ≤ 1000000) :
    Calls Try.prog 22 #[.slice A a.length ca, .slice B b.length cb] w (VPost w.heap.size w (.bool (decide (a = b)))) := by
  by_cases hab : a.length = b.length
  rotate_left
  · have E : decide (a = b) = false := decide_eq_false fun e => hab (by rw [e])
    rw [E]
    have h2 : ((a.length : Int) != (b.length : Int)) = true := by simp; omega
    clear E hab ra rb hl
    generalize a.length = n at *
    generalize b.length = m at *
    go_enter Try.func22, Try.ntmps22
    go_wp2
    go_ret
    exact ⟨rfl, Below.refl _ _⟩
  have HT : Hid ((∀ j, j < a.length → at0 a j = at0 b j) → decide (a = b) = true) := fun h => decide_eq_true (list_ext0 hab h)
  have HF : Hid (∀ j, j < a.length → ¬ at0 a j = at0 b j → decide (a = b) = false) := fun j hj h => decide_eq_false fun e => h (by rw [e])
  have RA := Lib.hid ra
  have RB := Lib.hid rb
  generalize decide (a = b) = R at *
  have HB : Hid (b.length = a.length) := hab.symm
  rw [← hab]
  clear ra rb hab
  obtain ⟨n, hn⟩ : ∃ n, n = a.length := ⟨_, rfl⟩
  rw [← hn] at HT HF HB hl ⊢
  have HN := Lib.hid hn
  clear hn
  have e1 : ((n : Int) != (n : Int)) = false := by simp
  have B0 : Hid (Below w.heap.size w w) := Below.refl _ _
  have F0 : Hid (∀ j, j < 0 → at0 a j = at0 b j) := fun j hj => absurd hj (by omega)
  go_enter Try.func22, Try.ntmps22
  go_wp2_with fail
  go_loopw [5] (fun q wr => ∃ k : Nat, k ≤ n ∧ q = .int .i64 k ∧ Hid (∀ j, j < k → at0 a j = at0 b j) ∧ Hid (Below w.heap.size w wr)) (fun q _ => n - (intOf q).toNat)
  case atStart => exact ⟨0, by omega, rfl, F0, B0⟩
  case round =>
    clear B0 F0
    obtain ⟨k, hk, rfl, HX, BB⟩ := hrel
    by_cases hlt : k < n
    · obtain ⟨ba, oa, rfl, _, c1⟩ := (RA.out.below BB.out (Nat.le_refl _)) k (by rw [← HN.out]; exact hlt)
      obtain ⟨bb, ob, rfl, _, c2⟩ := (RB.out.below BB.out (Nat.le_refl _)) k (by rw [HB.out]; exact hlt)
      have HFk := Lib.hid (HF.out k hlt)
      have HS : Hid (at0 a k = at0 b k → ∀ j, j < k + 1 → at0 a j = at0 b j) := fun h j hj => by
        by_cases e : j = k
        · rw [e]; exact h
        · exact HX.out j (by omega)
      have B2 := Lib.hid BB.out.drew
      clear HX HF HT
      generalize at0 a k = x at *
      generalize at0 b k = y at *
      by_cases z : x = y
      · have H2 := Lib.hid (HS.out z)
        have z2 : (x != y) = false := by simp [z]
        clear HS HFk
        go_wp2
        go_region
        generalize wr.drew = wd at *
        go_wp2
        go_roundw
        case rel => exact ⟨k + 1, by omega, by go_num, H2, B2⟩
        case measure => simp [intOf]; omega
      · have E := Lib.hid (HFk.out z)
        have z2 : (x != y) = true := by simpa using z
        clear HS HFk
        go_wp2
        go_region
        generalize wr.drew = wd at *
        go_wp2
        go_ret
        exact ⟨by rw [E.out]; rfl, B2.out⟩
    · have E := Lib.hid (HT.out fun j hj => HX.out j (by omega))
      clear HX HF HT
      go_wp2
      go_ret
      exact ⟨by rw [E.out]; rfl, BB.out⟩
/-- the example -/
def exL : Nat → List Int
  | 0 => [1]
  | 1 => [0, 2]
  | _ => []
theorem ex_path : pathS exL 3 0 2 = ([0, 1, 2], true) := by decide +kernel
theorem ex_bot : botV exL 3 = [2] := by decide +kernel
theorem ex_cmp : ((cmpV exL 3 0 : Int), (cmpV exL 3 1 : Int), (cmpV exL 3 2 : Int)) = (0, 0, 2) := by decide +kernel
theorem lit_reads {w : World} (cs : Array Value) (zs : List Int) (h : cs = (zs.map (Value.int .i64)).toArray) (t : TypeId) : ReadsV (w.alloc (.cells cs t)) (some ⟨w.heap.size, 0, none⟩) zs := ReadsV.row (blk_alloc_new _ _) h
set_option maxHeartbeats 4000000 in
set_option maxRecDepth 100000 in
theorem alive_any (w : World) : Calls Try.prog 11 #[] w (VPost w.heap.size w (.bool true)) := by
  obtain ⟨w3, hw3⟩ : ∃ w3, w3 = ((w.alloc (.cells #[.int .i64 1] 3)).alloc (.cells #[.int .i64 0, .int .i64 2] 3)).alloc (.cells #[.slice (some ⟨w.heap.size, 0, none⟩) 1 1, .slice (some ⟨w.heap.size + 1, 0, none⟩) 2 2, .slice none 0 0] 27) := ⟨_, rfl⟩
  have z1 : (w.alloc (.cells #[.int .i64 1] 3)).heap.size = w.heap.size + 1 := World.size_alloc _ _
  have z2 : ((w.alloc (.cells #[.int .i64 1] 3)).alloc (.cells #[.int .i64 0, .int .i64 2] 3)).heap.size = w.heap.size + 2 := by rw [World.size_alloc, z1]
  have z3 : w3.heap.size = w.heap.size + 3 := by rw [hw3, World.size_alloc, z2]
  have B3 : Below w.heap.size w w3 := by rw [hw3]; exact (((Below.refl _ _).alloc (Nat.le_refl _) _).alloc (by rw [z1]; omega) _).alloc (by rw [z2]; omega) _
  have r0 : ReadsV w3 (some ⟨w.heap.size, 0, none⟩) [1] := by rw [hw3]; exact ((lit_reads _ [1] rfl _).alloc _).alloc _
  have r1 : ReadsV w3 (some ⟨w.heap.size + 1, 0, none⟩) [0, 2] := by
    rw [hw3]
    have h := lit_reads (w := w.alloc (.cells #[.int .i64 1] 3)) #[.int .i64 0, .int .i64 2] [0, 2] rfl 3
    rw [z1] at h
    exact h.alloc _
  have rc : w3.rowIs (w.heap.size + 2) 27 3 (fun i => if i = 0 then .slice (some ⟨w.heap.size, 0, none⟩) 1 1 else if i = 1 then .slice (some ⟨w.heap.size + 1, 0, none⟩) 2 2 else .slice none 0 0) := by
    rw [hw3, ← z2]
    refine World.rowIs_alloc _ #[_, _, _] _ _ fun i hi => ?_
    have hi : i < 3 := hi
    match i, hi with
    | 0, _ => rfl
    | 1, _ => rfl
    | 2, _ => rfl
  have GR : GraphR w3 (some ⟨w.heap.size + 2, 0, none⟩) 3 (fun i => if i = 0 then some ⟨w.heap.size, 0, none⟩ else if i = 1 then some ⟨w.heap.size + 1, 0, none⟩ else none) exL (fun i => if i = 0 then 1 else if i = 1 then 2 else 0) := by
    refine ⟨by omega, fun i hi => ?_, fun i hi => ?_, fun i hi => ?_⟩
    · refine ⟨w.heap.size + 2, 0, rfl, by omega, ?_⟩
      rw [Nat.zero_add, rc.cell hi]
      match i, hi with
      | 0, _ => rfl
      | 1, _ => rfl
      | 2, _ => rfl
    · match i, hi with
      | 0, _ => exact r0
      | 1, _ => exact r1
      | 2, _ => exact ReadsV.nil _ _
    · match i, hi with
      | 0, _ => decide
      | 1, _ => decide
      | 2, _ => decide
  have CP := path_any _ 3 3 _ _ _ 0 2 w3 GR
  rw [ex_path] at CP
  have CP := Lib.hid CP
  have CC : Hid (∀ W, Below w3.heap.size w3 W → Calls Try.prog 23 #[.slice (some ⟨w.heap.size + 2, 0, none⟩) 3 3] W fun e w' => e = .returned (.slice (some ⟨W.heap.size, 0, none⟩) 3 3) ∧ ReadsV w' (some ⟨W.heap.size, 0, none⟩) [0, 0, 2] ∧ Below W.heap.size W w') := fun W hW => by
    refine (components_any _ 3 3 _ _ _ W (GR.below hW)).mono ?_
    rintro e w' ⟨h1, h2, h3⟩
    refine ⟨h1, fun j hj => ?_, h3⟩
    have hj : j < 3 := hj
    refine ⟨_, 0, rfl, h2.lt, ?_⟩
    rw [Nat.zero_add, h2.cell hj]
    have hc := ex_cmp
    injection hc with hc1 hc
    injection hc with hc2 hc3
    match j, hj with
    | 0, _ => rw [hc1]; rfl
    | 1, _ => rw [hc2]; rfl
    | 2, _ => rw [hc3]; rfl
  have CB : Hid (∀ W, Below w3.heap.size w3 W → Calls Try.prog 25 #[.slice (some ⟨w.heap.size + 2, 0, none⟩) 3 3] W (IsPost W.heap.size W [2])) := fun W hW => by
    have h := bottom_any _ 3 3 _ _ _ W (GR.below hW)
    rw [ex_bot] at h
    exact h
  have CS : Hid (∀ A B (zs : List Int) m1 m2 c cb W, m1 = zs.length → m2 = zs.length → zs.length ≤ 3 → ReadsV W A zs → ReadsV W B zs → Calls Try.prog 22 #[.slice A m1 c, .slice B m2 cb] W (VPost W.heap.size W (.bool true))) := fun A B zs m1 m2 c cb W h1 h2 h3 ra rb => by
    rw [h1, h2]
    have h := same_any A B zs zs c cb W ra rb (by omega)
    rw [decide_eq_true rfl] at h
    exact h
  have HW3 := Lib.hid hw3
  have B3 := Lib.hid B3
  clear hw3 z1 z2 r0 r1 rc GR
  go_enter Try.func11, Try.ntmps11
  go_wp2_with fail
  rw [← HW3.out]
  refine CP.out.mono ?_
  rintro e w4 ⟨pA, pc, rfl, RP, K4⟩
  have K4 := Lib.hid K4
  have RP := Lib.hid RP
  clear CP HW3
  go_wp2_with fail
  refine (CC.out _ K4.out).mono ?_
  rintro e w5 ⟨rfl, RC, K5⟩
  have D5 := Lib.hid (K4.out.trans (K5.mono K4.out.size))
  have RP5 := Lib.hid (RP.out.below K5 (Nat.le_refl _))
  have l5 := lit_reads (w := w5) #[.int .i64 0, .int .i64 0, .int .i64 2] [0, 0, 2] rfl 3
  have CS5 := Lib.hid (CS.out _ _ [0, 0, 2] 3 3 3 3 _ rfl rfl (by decide) (RC.alloc _) l5)
  have b5 : Below w5.heap.size w5 (w5.alloc (.cells #[.int .i64 0, .int .i64 0, .int .i64 2] 3)) := (Below.refl _ _).alloc (Nat.le_refl _) _
  have D5a := Lib.hid (D5.out.trans (b5.mono D5.out.size))
  have RP5a := Lib.hid (RP5.out.below b5 (Nat.le_refl _))
  clear CC K5 RC l5 RP D5 b5 RP5 K4
  go_wp2_with fail
  refine CS5.out.mono ?_
  rintro e w6 ⟨rfl, K6⟩
  have D6 := Lib.hid (D5a.out.trans (K6.mono D5a.out.size))
  have RP6 := Lib.hid (RP5a.out.below K6 (Nat.le_refl _))
  clear CS5 K6 RP5a D5a
  go_wp2_with fail
  refine (CB.out _ D6.out).mono ?_
  rintro e w7 ⟨bA, bc, rfl, RB, K7⟩
  have D7 := Lib.hid (D6.out.trans (K7.mono D6.out.size))
  have RP7 := Lib.hid (RP6.out.below K7 (Nat.le_refl _))
  have l7 := lit_reads (w := w7) #[.int .i64 2] [2] rfl 3
  have CS7 := Lib.hid (CS.out _ _ [2] 1 1 bc 1 _ rfl rfl (by decide) (RB.alloc _) l7)
  have b7 : Below w7.heap.size w7 (w7.alloc (.cells #[.int .i64 2] 3)) := (Below.refl _ _).alloc (Nat.le_refl _) _
  have D7a := Lib.hid (D7.out.trans (b7.mono D7.out.size))
  have RP7a := Lib.hid (RP7.out.below b7 (Nat.le_refl _))
  clear CB K7 RB l7 RP6 D6 b7 RP7 D7
  go_wp2_with fail
  refine CS7.out.mono ?_
  rintro e w8 ⟨rfl, K8⟩
  have D8 := Lib.hid (D7a.out.trans (K8.mono D7a.out.size))
  have RP8 := Lib.hid (RP7a.out.below K8 (Nat.le_refl _))
  have l8 := lit_reads (w := w8) #[.int .i64 0, .int .i64 1, .int .i64 2] [0, 1, 2] rfl 3
  have CS8 := Lib.hid (CS.out _ _ [0, 1, 2] 3 3 pc 3 _ rfl rfl (by decide) (RP8.out.alloc _) l8)
  have b8 : Below w8.heap.size w8 (w8.alloc (.cells #[.int .i64 0, .int .i64 1, .int .i64 2] 3)) := (Below.refl _ _).alloc (Nat.le_refl _) _
  have D8a := Lib.hid (D8.out.trans (b8.mono D8.out.size))
  clear CS7 K8 RP7a D7a l8 b8 CS RP8 D8
  go_wp2_with fail
  refine CS8.out.mono ?_
  rintro e w9 ⟨rfl, K9⟩
  have D9 := Lib.hid (B3.out.trans ((D8a.out.trans (K9.mono D8a.out.size)).mono B3.out.size))
  clear CS8 K9 D8a
  go_wp2
  go_ret
  exact ⟨rfl, D9.out⟩
end Go.Proofs.Ytdfljeonoallfaa
