/- Markings after a transition: copies, After of the reference. -/
import Derived.Test.YtpfkkjgklhcejaaFT
import Derived.Shelf.Slices.Clone
namespace Go.Proofs.Ytpfkkjgklhcejaa
open Go.RowKit

def OwnPost (g : Nat) (w : World) (L : List Int) (e : Ending) (w' : World) : Prop := ∃ v, e = .returned v ∧ w'.ownsRow g 3 1 v L.length (L.map (Value.int .i64)) ∧ Below g w w'
theorem clone_law (A : Option Addr) (a : List Int) (ca : Nat) (w : World) (ra : ReadsV w A a) (hl : a.length * 8 ≤ 140737488351232) :
    Calls Try.prog 77 #[.slice A a.length ca] w (OwnPost w.heap.size w a) := by
  have hq := fun (w : World) (n c : Nat) (a : Option Addr) => Lib.run_eql_slice_nil (P := Try.prog) w 26 3 a n c 0 0 Try.underlying26
  obtain ⟨i0, hi, hz0, hz1, hz2⟩ := info_parts infoI
  have HI := Lib.hid hi
  have HZ0 := Lib.hid hz0
  have HZ1 := Lib.hid hz1
  have HZ2 := Lib.hid hz2
  clear hi hz0 hz1 hz2
  cases A with
  | none =>
    obtain rfl : a = [] := by
      cases a with
      | nil => rfl
      | cons x r => obtain ⟨_, _, h, _⟩ := ra 0 (by simp); cases h
    go_enter Try.func77, Try.ntmps77
    go_wp2
    go_ret
    exact ⟨_, rfl, World.ownsRow_nil _ _ _ _, Below.refl _ _⟩
  | some p =>
    have HC : Hid (∀ j u, (a.map (Value.int .i64))[j]? = some u → (w.alloc (.cells #[] 3)).cell? (p.add j) = some u) := by
      intro j u hu
      have hj : j < a.length := by
        rcases Nat.lt_or_ge j a.length with h | h
        · exact h
        · rw [List.getElem?_eq_none (by simpa using h)] at hu; cases hu
      obtain ⟨b, off, h1, _, h2⟩ := (ra.alloc (.cells #[] 3)) j hj
      cases h1
      rw [Go.WideShapes.add_plain]
      rw [h2]
      rw [List.getElem?_map, List.getElem?_eq_getElem hj] at hu
      rw [← Option.some.inj hu]
      unfold at0
      rw [List.getElem?_eq_getElem hj]
      rfl
    have HO : Hid ((w.alloc (.cells #[] 3)).ownsRow w.heap.size 3 1 (.slice (some ⟨w.heap.size, 0, none⟩) 0 0) 0 []) := World.ownsRow_lit w #[] 0 (Nat.le_refl _) (by unfold maxLen; omega) rfl
    have H1 : Hid (∀ u ∈ a.map (Value.int .i64), u.oneCell' = true) := by
      intro u hu
      obtain ⟨x, _, rfl⟩ := List.mem_map.1 hu
      rfl
    have hL : (a.map (Value.int .i64)).length = a.length * 1 := by simp
    have HL := Lib.hid hL
    clear hL ra
    generalize hLL : a.map (Value.int .i64) = L at *
    have HLL := Lib.hid hLL
    clear hLL
    generalize hn : a.length = n at *
    have HN := Lib.hid hn
    clear hn
    have B0 : Hid (Below w.heap.size w (w.alloc (.cells #[] 3))) := (Below.refl _ _).alloc (Nat.le_refl _) _
    go_enter Try.func77, Try.ntmps77
    go_wp2_with (at_builtin; (refine wpList_append_own _ rfl (.tmp 5) (.tmp 6) 26 rfl w.heap.size 3 i0 (.int .i64 0) 1 8 Try.underlying26 HI.out HZ0.out HZ1.out HZ2.out rfl (by decide) (.slice (some ⟨w.heap.size, 0, none⟩) 0 0) 0 _ rfl HO.out p n ca L rfl HL.out HC.out H1.out (by unfold maxLen; omega) (by omega) (by rw [World.size_alloc]; omega) ?_); intro v' w5 hown' hgrow _)
    have B5 : Hid (Below w.heap.size w w5) := B0.out.grown hgrow (by rw [World.size_alloc]; omega) (fun q hq => by simp [Value.ownBlock] at hq; omega)
    have O5 : Hid (w5.ownsRow w.heap.size 3 1 v' n (a.map (Value.int .i64))) := by
      show World.ownsRow _ _ _ _ _ _ _
      rw [HLL.out]
      simpa using hown'
    clear hown' hgrow
    go_wp2
    go_ret
    exact ⟨_, rfl, by rw [HN.out]; exact O5.out, B5.out⟩
theorem take_snoc (a : List Int) {k : Nat} (hk : k < a.length) : a.take (k + 1) = a.take k ++ [at0 a k] := by
  rw [List.take_succ_eq_append_getElem hk]
  simp [at0, hk]
set_option maxHeartbeats 1000000 in
theorem copy_any (A : Option Addr) (a : List Int) (c : Nat) (w : World) (ra : ReadsV w A a) (hl : a.length ≤ 17592186043904) :
    Calls Try.prog 35 #[.slice A a.length c] w (IsPost w.heap.size w a) := by
  have RA := Lib.hid ra
  clear ra
  obtain ⟨g, hg⟩ : ∃ g, g = w.heap.size := ⟨_, rfl⟩
  have HG := Lib.hid hg
  rw [← hg]
  clear hg
  have TS : Hid (∀ k, k < a.length → a.take (k + 1) = a.take k ++ [at0 a k]) := fun k hk => take_snoc a hk
  have TA : Hid (a.take a.length = a) := List.take_length
  suffices h : Calls Try.prog 35 #[.slice A a.length c] w fun e w' => ∃ v, e = .returned v ∧ OwnI w' g v a ∧ Below g w w' from h.mono fun e w' ⟨v, he, ho, hb⟩ => by
    subst he
    exact IsPost.own ho hb
  generalize hn : a.length = n at *
  have HN := Lib.hid hn
  clear hn
  go_enter Try.func35, Try.ntmps35
  go_wp2_with fail
  go_loopw [3, 4] (fun p q wr => ∃ k : Nat, k ≤ n ∧ q = .int .i64 k ∧ Hid (OwnI wr g p (a.take k)) ∧ Hid (Below g w wr)) (fun _ q _ => n - (intOf q).toNat)
  case atStart => exact ⟨0, by omega, rfl, OwnI.nil _ _, Below.refl _ _⟩
  case round =>
    obtain ⟨k, hk, rfl, O, BB⟩ := hrel
    have hsz := BB.out.size
    rw [← HG.out] at hsz
    by_cases hlt : k < n
    · obtain ⟨ba, oa, e1, hx⟩ := at_of_reads (RA.out.below BB.out (by rw [HG.out]; exact Nat.le_refl _)) k (by rw [HN.out]; exact hlt)
      subst e1
      have HT := Lib.hid (TS.out k hlt)
      have hkl : (a.take k).length ≤ 17592186043904 := by rw [List.length_take]; omega
      generalize at0 a k = x at *
      go_wp2_with (at_builtin; refine wpList_int rfl (.tmp 11) (.tmp 16) rfl g _ (a.take k) x rfl (O.out.alloc _) _ rfl (cell_new1 _ _ _) (by omega) (size_le_alloc hsz _) ?_; intro v' w5 hown' hb')
      have O5 : Hid (OwnI w5 g v' (a.take (k + 1))) := by
        show OwnI _ _ _ _
        rw [HT.out]
        exact hown'
      have B5 : Hid (Below g w w5) := (BB.out.alloc hsz _).trans hb'
      clear hown' hb'
      go_wp2
      go_roundw
      case rel => exact ⟨k + 1, by omega, by go_num, O5, B5⟩
      case measure => simp [intOf]; omega
    · obtain rfl : k = n := by omega
      rw [TA.out] at O
      go_wp2
      go_ret
      exact ⟨_, rfl, O.out, BB.out⟩

def PairPost (g : Nat) (w : World) (L : List Int) (v : Value) (e : Ending) (w' : World) : Prop := ∃ A c, e = .returned (.tuple #[.slice A L.length c, v]) ∧ ReadsV w' A L ∧ Below g w w'
def overB (n : NetV) (m : List Int) (t : Nat) : Bool := anyB (fun p => decide (1048576 < aftV (tA n.ts t) m p)) n.ps.length
def aftL (n : NetV) (m : List Int) (t : Nat) : List Int := tab n.ps.length (fun p => aftV (tA n.ts t) m p)
def aftR (n : NetV) (m : List Int) (t : Nat) : List Int := if overB n m t = true then [] else aftL n m t
theorem PairPost.own {g : Nat} {w w' : World} {v u : Value} {zs : List Int} (h : OwnI w' g v zs) (hb : Below g w w') : PairPost g w zs u (.returned (.tuple #[v, u])) w' := by
  obtain ⟨A, c, e, hr⟩ := ReadsV.own h
  exact ⟨A, c, by rw [e], hr, hb⟩

set_option maxHeartbeats 8000000 in
set_option maxRecDepth 100000 in
theorem after_any (n : NetV) (A : Option Addr) (m : List Int) (c t : Nat) (w : World) (hr : NetR w n) (hm : ReadsV w A m) (hok : goodN n m = true) (ht : t < n.ts.length) :
    Calls Try.prog 31 #[.agg #[.string n.nm, .slice n.PA n.ps.length n.pc, .slice n.TA n.ts.length n.tc], .slice A m.length c, .int .i64 t] w (PairPost w.heap.size w (aftR n m t) (.bool (!(overB n m t)))) := by
  unfold goodN at hok
  rw [Bool.and_eq_true] at hok
  obtain ⟨hokn, hval⟩ := hok
  obtain ⟨hml, hnat⟩ := validL_parts hval
  have hx := okN_arcs hokn t ht
  have hp24 : n.ps.length ≤ 24 := (okN_parts hokn).2.2.1
  have hmn : m.length = n.ps.length := by omega
  have ht24 : n.ts.length ≤ 24 := (okN_parts hokn).2.2.2.1
  have hzl : (tA n.ts t).pre.l.length ≤ 1000 ∧ (tA n.ts t).post.l.length ≤ 1000 := ⟨(hr.okt.2 t).2.1, (hr.okt.2 t).2.2.1⟩
  have QN : Hid (∀ p, p < n.ps.length → 1048576 < aftV (tA n.ts t) m p → overB n m t = true) := fun p hp h => anyB_yes hp (by simpa using h)
  have QY : Hid ((∀ p, p < n.ps.length → aftV (tA n.ts t) m p ≤ 1048576) → overB n m t = false) := fun h => anyB_no fun p hp => by simpa using h p hp
  have QB : Hid (∀ k, 0 ≤ at0 m k ∧ at0 m k ≤ 1048576) := natL_at hnat
  have W1 : Hid (∀ p, 0 ≤ weightV (tA n.ts t).pre.l p ∧ weightV (tA n.ts t).pre.l p ≤ 99) := weightV_bd hx.pre
  have W2 : Hid (∀ p, 0 ≤ weightV (tA n.ts t).post.l p ∧ weightV (tA n.ts t).post.l p ≤ 99) := weightV_bd hx.post
  have AF : Hid (∀ p, aftV (tA n.ts t) m p = at0 m p - weightV (tA n.ts t).pre.l p + weightV (tA n.ts t).post.l p) := fun p => rfl
  have TS : Hid (∀ k, tab (k + 1) (fun p => aftV (tA n.ts t) m p) = tab k (fun p => aftV (tA n.ts t) m p) ++ [aftV (tA n.ts t) m k]) := fun k => tab_snoc k _
  have RT := Lib.hid hr.rt
  have HM := Lib.hid hm
  have RN : Hid (overB n m t = true → aftR n m t = []) := fun h => by unfold aftR; rw [if_pos h]
  have RY : Hid (overB n m t = false → aftR n m t = tab n.ps.length (fun p => aftV (tA n.ts t) m p)) := fun h => by unfold aftR; rw [if_neg (by rw [h]; simp)]; rfl
  clear hx hokn hval hnat hml hm hr
  generalize overB n m t = S at *
  generalize aftR n m t = R at *
  obtain ⟨nm, PA, ps, pc, TA, ts, tc⟩ := n
  dsimp only at *
  obtain ⟨bt, ot, eT, _⟩ := RT.out t ht
  subst eT
  obtain ⟨bt', ot', eT, hbt, d0, d1, d2, d3, d4, r1, r2, r3⟩ := RT.out t ht
  injection eT with eT
  injection eT with h1 h2
  subst h1 h2
  have TD : Hid (∀ W, Below w.heap.size w W → W.cell? ⟨bt, ot + t * 5 + 1, none⟩ = some (.slice (tA ts t).pre.A (tA ts t).pre.l.length (tA ts t).pre.c) ∧ W.cell? ⟨bt, ot + t * 5 + 2, none⟩ = some (.slice (tA ts t).post.A (tA ts t).post.l.length (tA ts t).post.c)) := fun W hW =>
    ⟨(hW.cell (World.block_lt_of_cell? w _ d1)).trans d1, (hW.cell (World.block_lt_of_cell? w _ d2)).trans d2⟩
  generalize aftV (tA ts t) m = af at *
  generalize tA ts t = x at *
  obtain ⟨xnm, ⟨a1, c1, l1⟩, ⟨a2, c2, l2⟩, ⟨a3, c3, l3⟩, prio⟩ := x
  dsimp only at *
  obtain ⟨hz1, hz2⟩ := hzl
  rw [hmn]
  generalize hpl : ps.length = pl at *
  generalize ts.length = tl at *
  have HPL := Lib.hid hpl
  have HML := Lib.hid hmn
  clear hpl hmn d0 d1 d2 d3 d4
  have C1 : Hid (∀ W (p : Nat), Below w.heap.size w W → Calls Try.prog 51 #[.slice a1 l1.length c1, .int .i64 p] W (VPost W.heap.size W (.int .i64 (weightV l1 p)))) := fun W p hW => weight11_any a1 l1 c1 p W (r1.below hW (Nat.le_refl _)) hz1
  have C2 : Hid (∀ W (p : Nat), Below w.heap.size w W → Calls Try.prog 51 #[.slice a2 l2.length c2, .int .i64 p] W (VPost W.heap.size W (.int .i64 (weightV l2 p)))) := fun W p hW => weight11_any a2 l2 c2 p W (r2.below hW (Nat.le_refl _)) hz2
  clear r1 r2 r3
  have B0 : Hid (Below w.heap.size w (w.alloc (.cells #[.string nm, .slice PA pl pc, .slice (some ⟨bt, ot, none⟩) tl tc] 25))) := (Below.refl _ _).alloc (Nat.le_refl _) _
  go_enter Try.func31, Try.ntmps31
  go_wp2_with fail
  go_loopw [8, 9] (fun p q wr => ∃ k : Nat, k ≤ pl ∧ q = .int .i64 k ∧ Hid (OwnI wr (w.heap.size + 1) p (tab k af)) ∧ Hid (Below (w.heap.size + 1) (w.alloc (.cells #[.string nm, .slice PA pl pc, .slice (some ⟨bt, ot, none⟩) tl tc] 25)) wr) ∧ Hid (∀ j, j < k → af j ≤ 1048576)) (fun _ q _ => pl - (intOf q).toNat)
  case atStart => exact ⟨0, by omega, rfl, OwnI.nil _ _, Below.refl _ _, fun j hj => absurd hj (by omega)⟩
  case round =>
    obtain ⟨k, hk, rfl, O, HB, HX⟩ := hrel
    have e1 : wr.cell? ⟨w.heap.size, 1, none⟩ = some (.slice PA pl pc) := by rw [HB.out.cell (by simp)]; simp
    have e2 : wr.cell? ⟨w.heap.size, 2, none⟩ = some (.slice (some ⟨bt, ot, none⟩) tl tc) := by rw [HB.out.cell (by simp)]; simp
    have BA : Hid (Below w.heap.size w wr) := B0.out.trans (HB.out.mono (by omega))
    have hsz : w.heap.size + 1 ≤ wr.heap.size := by have := HB.out.size; simp at this; omega
    by_cases hlt : k < pl
    · obtain ⟨bm, om, eM, f4⟩ := at_of_reads (HM.out.below BA.out (Nat.le_refl _)) k (by rw [HML.out]; exact hlt)
      subst eM
      obtain ⟨f1, f2⟩ := TD.out wr BA.out
      have QNk := Lib.hid (QN.out k hlt)
      have AFk := AF.out k
      have TSk := Lib.hid (TS.out k)
      have HF : Hid (af k ≤ 1048576 → ∀ j, j < k + 1 → af j ≤ 1048576) := fun h j hj => by
        by_cases e : j < k
        · exact HX.out j e
        · obtain rfl : j = k := by omega
          exact h
      have hb1 := W1.out k
      have hb2 := W2.out k
      have hbm := QB.out k
      have htab : (tab k af).length = k := tab_len k af
      have HTAB := Lib.hid htab
      have C1k : Hid (∀ W, Below w.heap.size w W → _) := fun W hW => C1.out W k hW
      have C2k : Hid (∀ W, Below w.heap.size w W → _) := fun W hW => C2.out W k hW
      clear HX htab
      generalize weightV l1 k = w1 at *
      generalize weightV l2 k = w2 at *
      generalize at0 m k = z at *
      generalize af k = ay at *
      have v1 : IntKind.i64.wrap (z - w1) = z - w1 := by rw [IntKind.wrap_i64]; omega
      have v2 : IntKind.i64.wrap (z - w1 + w2) = z - w1 + w2 := by rw [IntKind.wrap_i64]; omega
      have AF2 := Lib.hid AFk
      clear AFk
      go_upto_region 5 with fail
      refine wp_region_held_drew (S := fun w' => w'.cell? ⟨w.heap.size, 2, none⟩ = some (.slice (some ⟨bt, ot, none⟩) tl tc) ∧ w'.cell? ⟨bt, ot + t * 5 + 1, none⟩ = some (.slice a1 l1.length c1) ∧ w'.cell? ⟨bt, ot + t * 5 + 2, none⟩ = some (.slice a2 l2.length c2) ∧ w'.cell? ⟨bm, om + k, none⟩ = some (.int .i64 z) ∧ Hid (Below wr.heap.size wr w')) (by kernel_rfl) ?_ (fun hHeld => ?_)
      · exact ⟨e2, f1, f2, f4, (Below.refl _ _).drew⟩
      refine wpAnyH_take (oi := ⟨_, _, _, _, _, _⟩) (i := 0) (v := ?_) rfl (by kernel_rfl) (by kernel_rfl) (by kernel_rfl) (fun _ _ _ h => h) (Or.inl ⟨by rfl, ?ya0⟩) (by assumption) ?ra0
      case ya0 => (intro w hSw; (try dsimp only at hSw); go_simp; (try with_reducible rfl))
      try simp only [Act.put, List.setIfInBounds_toArray, List.set_cons_zero, List.set_cons_succ]
      refine wpAnyH_take (oi := ⟨_, _, _, _, _, _⟩) (i := 1) (v := ?_) rfl (by kernel_rfl) (by kernel_rfl) (by kernel_rfl) (fun _ _ _ h => h) (Or.inl ⟨by rfl, ?ya1⟩) (by assumption) ?ra1
      case ya1 => (intro w hSw; (try dsimp only at hSw); go_simp; (try with_reducible rfl))
      try simp only [Act.put, List.setIfInBounds_toArray, List.set_cons_zero, List.set_cons_succ]
      refine wpAnyH_take (oi := ⟨_, _, _, _, _, _⟩) (i := 2) (v := ?_) rfl (by kernel_rfl) (by kernel_rfl) (by kernel_rfl) (fun _ _ _ h => h) (Or.inl ⟨by rfl, ?ya2⟩) (by assumption) ?ra2
      case ya2 => (intro w hSw; (try dsimp only at hSw); go_simp; (try with_reducible rfl))
      try simp only [Act.put, List.setIfInBounds_toArray, List.set_cons_zero, List.set_cons_succ]
      refine wpAnyH_take (oi := ⟨_, _, _, _, _, _⟩) (i := 3) (v := ?_) rfl (by kernel_rfl) (by kernel_rfl) (by kernel_rfl) (fun _ _ _ h => h) (Or.inl ⟨by rfl, ?ya3⟩) (by assumption) ?ra3
      case ya3 => (intro w hSw; (try dsimp only at hSw); go_simp; (try with_reducible rfl))
      try simp only [Act.put, List.setIfInBounds_toArray, List.set_cons_zero, List.set_cons_succ]
      refine wpAnyH_take (oi := ⟨_, _, _, _, _, _⟩) (i := 4) (v := ?_) rfl (by kernel_rfl) (by kernel_rfl) (by kernel_rfl) (fun _ _ _ h => h) (Or.inl ⟨by rfl, ?ya4⟩) (by assumption) ?ra4
      case ya4 => (intro w hSw; (try dsimp only at hSw); go_simp; (try with_reducible rfl))
      try simp only [Act.put, List.setIfInBounds_toArray, List.set_cons_zero, List.set_cons_succ]
      refine wpAnyH_take (oi := ⟨_, _, _, _, _, _⟩) (i := 5) (v := ?_) rfl (by kernel_rfl) (by kernel_rfl) (by kernel_rfl) (fun _ _ _ h => h) (Or.inl ⟨by rfl, ?ya5⟩) (by assumption) ?ra5
      case ya5 => (intro w hSw; (try dsimp only at hSw); go_simp; (try with_reducible rfl))
      try simp only [Act.put, List.setIfInBounds_toArray, List.set_cons_zero, List.set_cons_succ]
      refine wpAnyH_take (oi := ⟨_, _, _, _, _, _⟩) (i := 6) (v := ?_) rfl (by kernel_rfl) (by kernel_rfl) (by kernel_rfl) (fun _ _ _ h => h) (Or.inl ⟨by rfl, ?ya6⟩) (by assumption) ?ra6
      case ya6 => (intro w hSw; (try dsimp only at hSw); go_simp; (try with_reducible rfl))
      try simp only [Act.put, List.setIfInBounds_toArray, List.set_cons_zero, List.set_cons_succ]
      refine wpAnyH_take (oi := ⟨_, _, _, _, _, _⟩) (i := 7) (v := ?_) rfl (by kernel_rfl) (by kernel_rfl) (by kernel_rfl) (fun _ _ _ h => h) (Or.inl ⟨by rfl, ?ya7⟩) (by assumption) ?ra7
      case ya7 => (intro w hSw; (try dsimp only at hSw); go_simp; (try with_reducible rfl))
      try simp only [Act.put, List.setIfInBounds_toArray, List.set_cons_zero, List.set_cons_succ]
      refine wpAnyH_take (oi := ⟨_, _, _, _, _, _⟩) (i := 8) (v := ?_) rfl (by kernel_rfl) (by kernel_rfl) (by kernel_rfl) (fun _ _ _ h => h) (Or.inl ⟨by rfl, ?ya8⟩) (by assumption) ?ra8
      case ya8 => (intro w hSw; (try dsimp only at hSw); go_simp; (try with_reducible rfl))
      try simp only [Act.put, List.setIfInBounds_toArray, List.set_cons_zero, List.set_cons_succ]
      refine wpAnyH_take (oi := ⟨_, _, _, _, _, _⟩) (i := 9) (v := ?_) rfl (by kernel_rfl) (by kernel_rfl) (by kernel_rfl) (fun _ _ _ h => h) (Or.inl ⟨by rfl, ?ya9⟩) (by assumption) ?ra9
      case ya9 => (intro w hSw; (try dsimp only at hSw); go_simp; (try with_reducible rfl))
      try simp only [Act.put, List.setIfInBounds_toArray, List.set_cons_zero, List.set_cons_succ]
      refine wpAnyH_take (oi := ⟨_, _, _, _, _, _⟩) (i := 10) (v := ?_) rfl (by kernel_rfl) (by kernel_rfl) (by kernel_rfl) (fun _ _ _ h => h) (Or.inl ⟨by rfl, ?ya10⟩) (by assumption) ?ra10
      case ya10 => (intro w hSw; (try dsimp only at hSw); go_simp; (try with_reducible rfl))
      try simp only [Act.put, List.setIfInBounds_toArray, List.set_cons_zero, List.set_cons_succ]
      refine wpAnyH_take (oi := ⟨_, _, _, _, _, _⟩) (i := 13) (v := ?_) rfl (by kernel_rfl) (by kernel_rfl) (by kernel_rfl) (fun _ _ _ h => h) (Or.inl ⟨by rfl, ?ya13⟩) (by assumption) ?ra13
      case ya13 => (intro w hSw; (try dsimp only at hSw); go_simp; (try with_reducible rfl))
      try simp only [Act.put, List.setIfInBounds_toArray, List.set_cons_zero, List.set_cons_succ]
      refine wpAnyH_take (oi := ⟨_, _, _, _, _, _⟩) (i := 14) (v := ?_) rfl (by kernel_rfl) (by kernel_rfl) (by kernel_rfl) (fun _ _ _ h => h) (Or.inl ⟨by rfl, ?ya14⟩) (by assumption) ?ra14
      case ya14 => (intro w hSw; (try dsimp only at hSw); go_simp; (try with_reducible rfl))
      try simp only [Act.put, List.setIfInBounds_toArray, List.set_cons_zero, List.set_cons_succ]
      refine wpAnyH_take (oi := ⟨_, _, _, _, _, _⟩) (i := 15) (v := ?_) rfl (by kernel_rfl) (by kernel_rfl) (by kernel_rfl) (fun _ _ _ h => h) (Or.inl ⟨by rfl, ?ya15⟩) (by assumption) ?ra15
      case ya15 => (intro w hSw; (try dsimp only at hSw); go_simp; (try with_reducible rfl))
      try simp only [Act.put, List.setIfInBounds_toArray, List.set_cons_zero, List.set_cons_succ]
      refine wpAnyH_take (oi := ⟨_, _, _, _, _, _⟩) (i := 16) (v := ?_) rfl (by kernel_rfl) (by kernel_rfl) (by kernel_rfl) (fun _ _ _ h => h) (Or.inl ⟨by rfl, ?ya16⟩) (by assumption) ?ra16
      case ya16 => (intro w hSw; (try dsimp only at hSw); go_simp; (try with_reducible rfl))
      try simp only [Act.put, List.setIfInBounds_toArray, List.set_cons_zero, List.set_cons_succ]
      refine wpAnyH_take (oi := ⟨_, _, _, _, _, _⟩) (i := 17) (v := ?_) rfl (by kernel_rfl) (by kernel_rfl) (by kernel_rfl) (fun _ _ _ h => h) (Or.inl ⟨by rfl, ?ya17⟩) (by assumption) ?ra17
      case ya17 => (intro w hSw; (try dsimp only at hSw); go_simp; (try with_reducible rfl))
      try simp only [Act.put, List.setIfInBounds_toArray, List.set_cons_zero, List.set_cons_succ]
      refine wpAnyH_take (oi := ⟨_, _, _, _, _, _⟩) (i := 18) (v := ?_) rfl (by kernel_rfl) (by kernel_rfl) (by kernel_rfl) (fun _ _ _ h => h) (Or.inl ⟨by rfl, ?ya18⟩) (by assumption) ?ra18
      case ya18 => (intro w hSw; (try dsimp only at hSw); go_simp; (try with_reducible rfl))
      try simp only [Act.put, List.setIfInBounds_toArray, List.set_cons_zero, List.set_cons_succ]
      refine wpAnyH_take (oi := ⟨_, _, _, _, _, _⟩) (i := 19) (v := ?_) rfl (by kernel_rfl) (by kernel_rfl) (by kernel_rfl) (fun _ _ _ h => h) (Or.inl ⟨by rfl, ?ya19⟩) (by assumption) ?ra19
      case ya19 => (intro w hSw; (try dsimp only at hSw); go_simp; (try with_reducible rfl))
      try simp only [Act.put, List.setIfInBounds_toArray, List.set_cons_zero, List.set_cons_succ]
      refine wpAnyH_ready (rs := [11]) (by kernel_rfl) (by simp) ?_
      refine AllReadyH.cons (o := ⟨_, _, _, _, _, _⟩) rfl (fun K hK => ?_) AllReadyH.nil
      go_simp
      go_at_call 51; refine (C1k.out _ (BA.out.trans (hHeld.2.2.2.2.out.mono BA.out.size))).mono ?_; rintro e w4 ⟨rfl, K⟩; (try go_wp2_with fail)
      refine hK.out _ _ ?_ (fun hHeld2 => ?_)
      · exact ⟨keepc hHeld.1 K, keepc hHeld.2.1 K, keepc hHeld.2.2.1 K, keepc hHeld.2.2.2.1 K, hHeld.2.2.2.2.out.trans (K.mono hHeld.2.2.2.2.out.size)⟩
      clear hK K hHeld
      have hHeld := hHeld2
      clear hHeld2
      try simp only [Act.put, List.setIfInBounds_toArray, List.set_cons_zero, List.set_cons_succ]
      refine wpAnyH_take (oi := ⟨_, _, _, _, _, _⟩) (i := 12) (v := ?_) rfl (by kernel_rfl) (by kernel_rfl) (by kernel_rfl) (fun _ _ _ h => h) (Or.inl ⟨by rfl, ?ya12⟩) (by assumption) ?ra12
      case ya12 => (intro w hSw; (try dsimp only at hSw); go_simp; (try with_reducible rfl))
      try simp only [Act.put, List.setIfInBounds_toArray, List.set_cons_zero, List.set_cons_succ]
      refine wpAnyH_ready (rs := [20]) (by kernel_rfl) (by simp) ?_
      refine AllReadyH.cons (o := ⟨_, _, _, _, _, _⟩) rfl (fun K hK => ?_) AllReadyH.nil
      go_simp
      go_at_call 51; refine (C2k.out _ (BA.out.trans (hHeld.2.2.2.2.out.mono BA.out.size))).mono ?_; rintro e w4 ⟨rfl, K⟩; (try go_wp2_with fail)
      refine hK.out _ _ ?_ (fun hHeld2 => ?_)
      · exact ⟨keepc hHeld.1 K, keepc hHeld.2.1 K, keepc hHeld.2.2.1 K, keepc hHeld.2.2.2.1 K, hHeld.2.2.2.2.out.trans (K.mono hHeld.2.2.2.2.out.size)⟩
      clear hK K hHeld
      have hHeld := hHeld2
      clear hHeld2
      try simp only [Act.put, List.setIfInBounds_toArray, List.set_cons_zero, List.set_cons_succ]
      refine wpAnyH_take (oi := ⟨_, _, _, _, _, _⟩) (i := 21) (v := ?_) rfl (by kernel_rfl) (by kernel_rfl) (by kernel_rfl) (fun _ _ _ h => h) (Or.inl ⟨by rfl, ?ya21⟩) (by assumption) ?ra21
      case ya21 => (intro w hSw; (try dsimp only at hSw); go_simp; (try with_reducible rfl))
      try simp only [Act.put, List.setIfInBounds_toArray, List.set_cons_zero, List.set_cons_succ]
      refine wpAnyH_take (oi := ⟨_, _, _, _, _, _⟩) (i := 22) (v := ?_) rfl (by kernel_rfl) (by kernel_rfl) (by kernel_rfl) (fun _ _ _ h => h) (Or.inl ⟨by rfl, ?ya22⟩) (by assumption) ?ra22
      case ya22 => (intro w hSw; (try dsimp only at hSw); go_simp; (try with_reducible rfl))
      try simp only [Act.put, List.setIfInBounds_toArray, List.set_cons_zero, List.set_cons_succ]
      refine wpAnyH_done (by kernel_rfl) ?_ _
      have K9 := Lib.hid hHeld.2.2.2.2.out
      have O3 := Lib.hid (O.out.below K9.out (Nat.le_refl _))
      have B9 := Lib.hid (BA.out.trans (K9.out.mono BA.out.size))
      have H9 := Lib.hid (HB.out.trans (K9.out.mono hsz))
      have hs9 := Nat.le_trans hsz K9.out.size
      clear hHeld C1k C2k v1 v2 O K9
      have haft : -99 ≤ z - w1 + w2 ∧ z - w1 + w2 ≤ 1048675 := by omega
      rw [← AF2.out] at haft ⊢
      have HZ := Lib.hid (show ay = ay from rfl)
      by_cases hov : 1048576 < ay
      · have z1 : decide (1048576 < ay) = true := by simpa using hov
        have E := Lib.hid (QNk.out hov)
        clear QNk HF
        go_wp2
        go_ret2
        have ER := RN.out E.out
        rw [E.out, ER]
        exact ⟨none, 0, rfl, ReadsV.nil _ _, B9.out⟩
      · have z1 : decide (1048576 < ay) = false := by simpa using hov
        have GG := Lib.hid (HF.out (by omega))
        clear QNk HF
        go_wp2_with (at_builtin; refine wpList_int rfl (.tmp 42) (.tmp 44) rfl (w.heap.size + 1) _ (tab k af) ay rfl (O3.out.alloc _) _ rfl (cell_new1 _ _ _) (by rw [HTAB.out]; omega) (size_le_alloc hs9 _) ?_; intro v' w5 hown' hb')
        have O5 : Hid (OwnI w5 (w.heap.size + 1) v' (tab (k + 1) af)) := by
          show OwnI _ _ _ _
          rw [TSk.out]
          exact hown'
        have B5 := Lib.hid ((H9.out.alloc hs9 _).trans hb')
        clear hown' hb'
        go_wp2
        go_roundw
        case rel => exact ⟨k + 1, by omega, by go_num, O5, B5, GG⟩
        case measure => simp [intOf]; omega
    · obtain rfl : k = pl := by omega
      have E := Lib.hid (QY.out HX.out)
      go_wp2
      go_ret2
      have ER := RY.out E.out
      rw [E.out, ER]
      exact PairPost.own (OwnI.mono O.out (by omega)) BA.out
end Go.Proofs.Ytpfkkjgklhcejaa
