/- Contracts of the comparison and of the test that Minimal hands on, of a copy, of short compactions. -/
import Derived.Test.YtnlgfkokaphhjaaBtE
import Derived.Test.YtnlgfkokaphhjaaShelf
import Derived.Lib.OwnBridge
namespace Go.Proofs.Ytnlgfkokaphhjaa.Bt
open Go.RowKit Go.Shelf Go.Sort

/-- a uint64 -/
structure U64 where
  val : Nat
  lt : val < 18446744073709551616
theorem U64.ext : ∀ {a b : U64}, a.1 = b.1 → a = b
  | ⟨_, _⟩, ⟨_, _⟩, rfl => rfl
instance : DecidableEq U64 := fun a b => if h : a.1 = b.1 then isTrue (U64.ext h) else isFalse fun e => h (by rw [e])
instance : Inhabited U64 := ⟨⟨0, by decide⟩⟩
def eU (x : U64) : Value := .int .u64 ((x.1 : Nat) : Int)
def vV (L : List U64) : List Value := L.map eU
theorem vV_len (L : List U64) : (vV L).length = L.length := by simp [vV]
theorem vV_at {L : List U64} {k : Nat} {x : U64} (h : L[k]? = some x) : (vV L)[k]? = some (.int .u64 ((x.1 : Nat) : Int)) := by simp [vV, h, eU]
theorem vV_snoc (L : List U64) (x : U64) : vV (L ++ [x]) = vV L ++ [.int .u64 ((x.1 : Nat) : Int)] := by simp [vV, eU]
def orV (a b : Int) : Int := if a = 0 then b else a
def cfU (x y : U64) : Int := orV (Lib.compareInt (card x.1) (card y.1)) (Lib.compareInt (x.1 : Nat) (y.1 : Nat))

theorem isnan_u (x : Int) (w : World) : Calls Try.prog 78 #[.int .u64 x] w fun e w' => e = .returned (.bool false) ∧ w = w' := by
  go_enter Try.func78, Try.ntmps78
  go_wp2
  go_ret
  exact ⟨rfl, rfl⟩
theorem comp_u (x y : Nat) (w : World) : Calls Try.prog 59 #[.int .u64 x, .int .u64 y] w fun e w' => e = .returned (.int .i64 (Lib.compareInt x y)) ∧ w = w' := by
  unfold Lib.compareInt
  rcases Nat.lt_trichotomy x y with h | h | h
  · rw [if_pos (by omega)]
    have h' : (x : Int) < y := by omega
    clear h
    go_enter Try.func59, Try.ntmps59
    go_wp2_with (go_at_call 78; refine (isnan_u _ _).mono ?_; rintro e w' ⟨rfl, rfl⟩)
    go_ret
    exact ⟨rfl, rfl⟩
  · subst h
    rw [if_neg (by omega), if_neg (by omega)]
    go_enter Try.func59, Try.ntmps59
    go_wp2_with (go_at_call 78; refine (isnan_u _ _).mono ?_; rintro e w' ⟨rfl, rfl⟩)
    go_ret
    exact ⟨rfl, rfl⟩
  · rw [if_neg (by omega), if_pos (by omega)]
    have h' : (y : Int) < x := by omega
    have h'' : ¬ (x : Int) < y := by omega
    clear h
    go_enter Try.func59, Try.ntmps59
    go_wp2_with (go_at_call 78; refine (isnan_u _ _).mono ?_; rintro e w' ⟨rfl, rfl⟩)
    go_ret
    exact ⟨rfl, rfl⟩
theorem comp_i (x y : Int) (w : World) : Calls Try.prog 57 #[.int .i64 x, .int .i64 y] w fun e w' => e = .returned (.int .i64 (Lib.compareInt x y)) ∧ w = w' :=
  (Try.cmp_Compare_int x y w).mono fun _ _ ⟨h1, h2⟩ => ⟨h1, h2.symm⟩
set_option maxHeartbeats 1000000 in
theorem or_any (b cap : Nat) (c1 c2 : Int) (w : World) (h0 : w.cell? ⟨b, 0, none⟩ = some (.int .i64 c1)) (h1 : w.cell? ⟨b, 1, none⟩ = some (.int .i64 c2)) :
    Calls Try.prog 56 #[.slice (some ⟨b, 0, none⟩) 2 cap] w fun e w' => e = .returned (.int .i64 (orV c1 c2)) ∧ w = w' := by
  unfold orV
  by_cases z1 : c1 = 0
  · rw [if_pos z1]
    subst z1
    by_cases z2 : c2 = 0
    · subst z2
      go_enter Try.func56, Try.ntmps56
      go_wp2
      refine wp_loop_rounds 3 ?_
      rw [rounds_succ]
      go_wp2
      rw [rounds_succ]
      go_wp2
      rw [rounds_succ]
      go_wp2
      go_ret
      exact ⟨rfl, rfl⟩
    · have z3 : (c2 == 0) = false := by simpa using z2
      have z4 : (c2 != 0) = true := by simpa using z2
      clear z2
      go_enter Try.func56, Try.ntmps56
      go_wp2
      refine wp_loop_rounds 3 ?_
      rw [rounds_succ]
      go_wp2
      rw [rounds_succ]
      go_wp2
      go_ret
      exact ⟨rfl, rfl⟩
  · rw [if_neg z1]
    have z3 : (c1 == 0) = false := by simpa using z1
    have z4 : (c1 != 0) = true := by simpa using z1
    clear z1
    go_enter Try.func56, Try.ntmps56
    go_wp2
    refine wp_loop_rounds 3 ?_
    rw [rounds_succ]
    go_wp2
    go_ret
    exact ⟨rfl, rfl⟩
set_option maxHeartbeats 1000000 in
theorem cmp_closure (x y : U64) (W : World) :
    Calls Try.prog 55 #[eU x, eU y] W fun e w' => e = .returned (.int .i64 (cfU x y)) ∧ ∃ q os', w' = grow (W.drewN q) os' := by
  obtain ⟨x, hx⟩ := x
  obtain ⟨y, hy⟩ := y
  unfold eU cfU
  have C1 := Lib.hid (len_any x W hx)
  have C2 := Lib.hid (len_any y W hy)
  have C3 := Lib.hid (comp_i (card x) (card y) W)
  have C4 := Lib.hid (comp_u x y W)
  dsimp only at *
  generalize Lib.compareInt (card x) (card y) = a at *
  generalize Lib.compareInt (x : Nat) (y : Nat) = b at *
  generalize card x = cx at *
  generalize card y = cy at *
  go_enter Try.func55, Try.ntmps55
  go_wp2_with fail
  refine C1.out.mono ?_
  rintro e w' ⟨rfl, rfl⟩
  go_wp2_with fail
  refine C2.out.mono ?_
  rintro e w' ⟨rfl, rfl⟩
  go_wp2_with fail
  refine C3.out.mono ?_
  rintro e w' ⟨rfl, rfl⟩
  go_wp2_with fail
  refine C4.out.mono ?_
  rintro e w' ⟨rfl, rfl⟩
  go_wp2_with fail
  refine (or_any W.heap.size 2 a b _ (by simp) (by simp)).mono ?_
  rintro e w' ⟨rfl, rfl⟩
  go_wp2
  go_ret
  exact ⟨rfl, 0, #[_], by rw [World.drewN_zero, ← alloc_eq_grow]⟩
theorem test_closure (s : Nat) (hs : s < 18446744073709551616) (B : Nat) (w : World) (hB : B < w.heap.size) (hc : w.cell? ⟨B, 0, none⟩ = some (.int .u64 (s : Int))) :
    PredAt Try.prog 62 #[.pointer (some ⟨B, 0, none⟩)] eU (fun m => subV m.1 s) w := by
  rintro W ⟨m, hm⟩ hb
  have hc' := (hb.cell (p := ⟨B, 0, none⟩) hB).trans hc
  have C := Lib.hid (subset_any m s W hm hs)
  unfold FnGives eU
  dsimp only
  generalize subV m s = v at *
  clear hc hb
  go_enter Try.func62, Try.ntmps62
  go_wp2_with fail
  refine C.out.mono ?_
  rintro e w' ⟨rfl, rfl⟩
  go_wp2
  go_ret
  exact ⟨rfl, 0, rfl⟩
/-- a copy in a row of its own -/
def OwnPost (g : Nat) (w : World) (L : List U64) (e : Ending) (w' : World) : Prop := ∃ v, e = .returned v ∧ w'.ownsRow g 26 1 v L.length (vV L) ∧ Below g w w'
theorem clone_any (A : Option Addr) (a : List U64) (ca : Nat) (w : World) (ra : Reads w A (vV a)) (hl : a.length * 8 ≤ 140737488351232) :
    Calls Try.prog 53 #[.slice A a.length ca] w (OwnPost w.heap.size w a) := by
  have hq := fun (w : World) (n c : Nat) (a : Option Addr) => Lib.run_eql_slice_nil (P := Try.prog) w 37 26 a n c 0 0 Try.underlying37
  obtain ⟨i0, hi, hz0, hz1, hz2⟩ := info_parts infoU
  have HI := Lib.hid hi
  have HZ0 := Lib.hid hz0
  have HZ1 := Lib.hid hz1
  have HZ2 := Lib.hid hz2
  clear hi hz0 hz1 hz2
  cases A with
  | none =>
    obtain rfl : a = [] := by
      cases a with
      | nil => rfl
      | cons x r => obtain ⟨_, _, h, _⟩ := ra 0 _ rfl; cases h
    go_enter Try.func53, Try.ntmps53
    go_wp2
    go_ret
    exact ⟨_, rfl, World.ownsRow_nil _ _ _ _, Below.refl _ _⟩
  | some p =>
    have HC : Hid (∀ j u, (vV a)[j]? = some u → (w.alloc (.cells #[] 26)).cell? (p.add j) = some u) := by
      intro j u hu
      obtain ⟨b, off, h1, _, h2⟩ := (ra.alloc (.cells #[] 26)) j u hu
      cases h1
      rw [Go.WideShapes.add_plain]
      exact h2
    have HO : Hid ((w.alloc (.cells #[] 26)).ownsRow w.heap.size 26 1 (.slice (some ⟨w.heap.size, 0, none⟩) 0 0) 0 []) := World.ownsRow_lit w #[] 0 (Nat.le_refl _) (by unfold maxLen; omega) rfl
    have H1 : Hid (∀ u ∈ vV a, u.oneCell' = true) := by
      intro u hu
      obtain ⟨x, _, rfl⟩ := List.mem_map.1 hu
      rfl
    have hL : (vV a).length = a.length * 1 := by simp [vV]
    have HL := Lib.hid hL
    clear hL ra
    generalize hLL : vV a = L at *
    have HLL := Lib.hid hLL
    clear hLL
    generalize hn : a.length = n at *
    have HN := Lib.hid hn
    clear hn
    have B0 : Hid (Below w.heap.size w (w.alloc (.cells #[] 26))) := (Below.refl _ _).alloc (Nat.le_refl _) _
    go_enter Try.func53, Try.ntmps53
    go_wp2_with (at_builtin; (refine wpList_append_own _ rfl (.tmp 5) (.tmp 6) 37 rfl w.heap.size 26 i0 (.int .u64 0) 1 8 Try.underlying37 HI.out HZ0.out HZ1.out HZ2.out rfl (by decide) (.slice (some ⟨w.heap.size, 0, none⟩) 0 0) 0 _ rfl HO.out p n ca L rfl HL.out HC.out H1.out (by unfold maxLen; omega) (by omega) (by rw [World.size_alloc]; omega) ?_); intro v' w5 hown' hgrow _)
    have B5 : Hid (Below w.heap.size w w5) := B0.out.grown hgrow (by rw [World.size_alloc]; omega) (fun q hq => by simp [Value.ownBlock] at hq; omega)
    have O5 : Hid (w5.ownsRow w.heap.size 26 1 v' n (vV a)) := by
      show World.ownsRow _ _ _ _ _ _ _
      rw [HLL.out]
      simpa using hown'
    clear hown' hgrow
    go_wp2
    go_ret
    exact ⟨_, rfl, by rw [HN.out]; exact O5.out, B5.out⟩
theorem compact_small (A : Option Addr) (n c : Nat) (w : World) (hn : n < 2) :
    Calls Try.prog 60 #[.slice A n c] w fun e w' => e = .returned (.slice A n c) ∧ w = w' := by
  have h : (n : Int) < 2 := by omega
  go_enter Try.func60, Try.ntmps60
  go_wp2
  go_ret
  exact ⟨rfl, rfl⟩
end Go.Proofs.Ytnlgfkokaphhjaa.Bt
