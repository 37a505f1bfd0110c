/- Bounded natural solutions: All. -/
import Derived.Test.YtneediihponfiaaNRW
namespace Go.Proofs.Ytneediihponfiaa
open Go.RowKit
attribute [local go_sem] Oper.semAt_some

def allE (p : PV) (limit : Int) : Int := if chkP p.L p.b p.u = 0 then (if limit < 1 ∨ 1000 < limit then 1 else 0) else chkP p.L p.b p.u
def allV (p : PV) (limit : Int) : List (List Int) := if allE p limit = 0 then (solT p.L p.b p.u).take limit.toNat else []
def LPost2 (w : World) (rows : List (List Int)) (E : Int) (e : Ending) (w' : World) : Prop := ∃ A c L, e = .returned (.tuple #[.slice A (List.length L) c, .int .i64 E]) ∧ rowsL L = rows ∧ ReadsL w' A L ∧ Below w.heap.size w w'
theorem reads_put {W : World} {A : Option Addr} {L : List Row} {D : Nat} (h : ReadsL W A L) (hK : W.heap[D]? = some (.deferred (some []))) : ReadsL (W.putObj D (.deferred none)) A L := by
  have kc : ∀ {b o : Nat} {v : Value}, W.cell? ⟨b, o, none⟩ = some v → (W.putObj D (.deferred none)).cell? ⟨b, o, none⟩ = some v := fun h => cell_kept h (grownBy_putObj' _ D _) (fun r e => by cases e; exact ⟨_, hK, rfl⟩)
  refine ⟨fun j hj => ?_, fun r hr => ⟨fun j hj => ?_, (h.2 r hr).2⟩⟩
  · obtain ⟨b, off, q1, q2, q3⟩ := h.1 j hj
    exact ⟨b, off, q1, by simpa using q2, kc q3⟩
  · obtain ⟨b, off, q1, q2, q3⟩ := (h.2 r hr).1 j hj
    exact ⟨b, off, q1, by simpa using q2, kc q3⟩
/-- the list under construction -/
structure AI (w : World) (lB lim hi : Nat) (pre : List (List Int)) (W : World) : Prop where
  ex : ∃ v L, Boxed W lB 22 v ∧ OwnG W hi v L ∧ rowsL L = pre
  kw : Below w.heap.size w W
  lc : W.cell? ⟨w.heap.size, 0, none⟩ = some (.int .i64 (lim : Int))
theorem AI.keep {w A B : World} {lB lim hi : Nat} {pre : List (List Int)} {S : Nat → Prop} (h : AI w lB lim hi pre A) (k : KeepOn S A B) (h1 : S lB) (h2 : S w.heap.size) (h3 : ∀ b, b < w.heap.size → S b) (h4 : ∀ b, hi ≤ b → S b) : AI w lB lim hi pre B := by
  obtain ⟨v, L, b1, o1, e1⟩ := h.ex
  exact ⟨⟨v, L, (k.block _ b1.lt h1).trans b1, o1.keep k h4, e1⟩, h.kw.trans (k.below h.kw.size h3), k.cell h.lc h2⟩
set_option maxHeartbeats 8000000 in
set_option maxRecDepth 100000 in
theorem all_bad (p : PV) (limit : Int) (w : World) (hr : PR w p) (hl : lensOk p) (hc : chkP p.L p.b p.u ≠ 0) :
    Calls Try.prog 18 #[.slice p.A p.L.length p.ca, .slice p.B p.b.length p.cb, .slice p.U p.u.length p.cu, .int .i64 limit] w (LPost2 w (allV p limit) (allE p limit)) := by
  have CK : Hid (∀ W, Below w.heap.size w W → Calls Try.prog 11 #[.slice p.A p.L.length p.ca, .slice p.B p.b.length p.cb, .slice p.U p.u.length p.cu] W (VPost W.heap.size W (.int .i64 (chkP p.L p.b p.u)))) := fun W hW => pcheck_any _ _ _ _ _ _ _ _ _ W (hr.below hW).rA hl.1 (hr.below hW).rB hl.2.1 (hr.below hW).rU hl.2.2
  have e1 : allE p limit = chkP p.L p.b p.u := if_neg hc
  have e2 : allV p limit = [] := if_neg (by rw [e1]; exact hc)
  rw [e2, e1]
  generalize chkP p.L p.b p.u = E at *
  have hE : (E != 0) = true := by simpa using hc
  have k3 : Hid (Below w.heap.size w (w.alloc (.cells #[.int .i64 limit] 3))) := (Below.refl _ _).alloc (Nat.le_refl _) _
  clear hr hl e1 e2
  go_enter Try.func18, Try.ntmps18
  go_wp2_with fail
  refine (CK.out _ k3.out).mono ?_
  rintro e x1 ⟨rfl, K⟩
  go_wp2
  go_ret2
  exact ⟨none, 0, [], rfl, rfl, ReadsL.nil _ _, k3.out.trans (K.mono k3.out.size)⟩
set_option maxHeartbeats 8000000 in
set_option maxRecDepth 100000 in
theorem all_range (p : PV) (limit : Int) (w : World) (hr : PR w p) (hl : lensOk p) (hc : chkP p.L p.b p.u = 0) (hlim : limit < 1 ∨ 1000 < limit) :
    Calls Try.prog 18 #[.slice p.A p.L.length p.ca, .slice p.B p.b.length p.cb, .slice p.U p.u.length p.cu, .int .i64 limit] w (LPost2 w (allV p limit) (allE p limit)) := by
  have CK : Hid (∀ W, Below w.heap.size w W → Calls Try.prog 11 #[.slice p.A p.L.length p.ca, .slice p.B p.b.length p.cb, .slice p.U p.u.length p.cu] W (VPost W.heap.size W (.int .i64 (chkP p.L p.b p.u)))) := fun W hW => pcheck_any _ _ _ _ _ _ _ _ _ W (hr.below hW).rA hl.1 (hr.below hW).rB hl.2.1 (hr.below hW).rU hl.2.2
  have e1 : allE p limit = 1 := by unfold allE; rw [if_pos hc, if_pos hlim]
  have e2 : allV p limit = [] := if_neg (by rw [e1]; decide)
  rw [e2, e1]
  rw [hc] at CK
  have k3 : Hid (Below w.heap.size w (w.alloc (.cells #[.int .i64 limit] 3))) := (Below.refl _ _).alloc (Nat.le_refl _) _
  have b3 := Boxed.new w 3 (.int .i64 limit)
  clear hr hl e1 e2 hc
  rcases Classical.em (limit < 1) with h1 | h1
  · have d1 : decide (limit < 1) = true := decide_eq_true h1
    clear hlim
    go_enter Try.func18, Try.ntmps18
    go_wp2_with fail
    refine (CK.out _ k3.out).mono ?_
    rintro e x1 ⟨rfl, K⟩
    have lc := keepc b3.cell K
    have K1 := Lib.hid (k3.out.trans (K.mono k3.out.size))
    clear K k3 CK b3
    go_wp2
    go_ret2
    exact ⟨none, 0, [], rfl, rfl, ReadsL.nil _ _, K1.out⟩
  · have d1 : decide (limit < 1) = false := decide_eq_false h1
    have h2 : 1000 < limit := by omega
    have d2 : decide (1000 < limit) = true := decide_eq_true h2
    clear hlim
    go_enter Try.func18, Try.ntmps18
    go_wp2_with fail
    refine (CK.out _ k3.out).mono ?_
    rintro e x1 ⟨rfl, K⟩
    have lc := keepc b3.cell K
    have K1 := Lib.hid (k3.out.trans (K.mono k3.out.size))
    clear K k3 CK b3
    go_wp2
    go_ret2
    exact ⟨none, 0, [], rfl, rfl, ReadsL.nil _ _, K1.out⟩
set_option maxHeartbeats 8000000 in
set_option maxRecDepth 100000 in
theorem all_ok (p : PV) (lim : Nat) (w : World) (hr : PR w p) (hl : lensOk p) (hc : chkP p.L p.b p.u = 0) (hlim : 1 ≤ lim) (hlim2 : lim ≤ 1000) :
    Calls Try.prog 18 #[.slice p.A p.L.length p.ca, .slice p.B p.b.length p.cb, .slice p.U p.u.length p.cu, .int .i64 (lim : Nat)] w (LPost2 w (allV p (lim : Nat)) (allE p (lim : Nat))) := by
  have CK : Hid (∀ W, Below w.heap.size w W → Calls Try.prog 11 #[.slice p.A p.L.length p.ca, .slice p.B p.b.length p.cb, .slice p.U p.u.length p.cu] W (VPost W.heap.size W (.int .i64 (chkP p.L p.b p.u)))) := fun W hW => pcheck_any _ _ _ _ _ _ _ _ _ W (hr.below hW).rA hl.1 (hr.below hW).rB hl.2.1 (hr.below hW).rU hl.2.2
  have CE : Hid (∀ W, Calls Try.prog 26 #[.slice p.A p.L.length p.ca, .slice p.B p.b.length p.cb, .slice p.U p.u.length p.cu] W fun e w' => e = .returned (.func (.func 32) #[] #[.pointer (some ⟨W.heap.size + 1 + 1, 0, none⟩), .pointer (some ⟨W.heap.size + 1, 0, none⟩), .pointer (some ⟨W.heap.size, 0, none⟩)]) ∧ w' = ((W.alloc (.cells #[.slice p.A p.L.length p.ca] 22)).alloc (.cells #[.slice p.B p.b.length p.cb] 23)).alloc (.cells #[.slice p.U p.u.length p.cu] 23)) := solutions_any p
  have e1 : allE p (lim : Nat) = 0 := by unfold allE; rw [if_pos hc, if_neg (by omega)]
  have e2 : allV p (lim : Nat) = (solT p.L p.b p.u).take lim := by unfold allV; rw [if_pos e1, Int.toNat_natCast]
  rw [e2, e1]
  rw [hc] at CK
  generalize hHD : (solT p.L p.b p.u).take lim = HD
  have HHD := Lib.hid hHD
  clear hHD e1 e2
  have D0 := chk0 hc
  have TL := solT_len D0
  clear hc
  have k3 : Hid (Below w.heap.size w (w.alloc (.cells #[.int .i64 (lim : Nat)] 3))) := (Below.refl _ _).alloc (Nat.le_refl _) _
  have b3 := Boxed.new w 3 (.int .i64 (lim : Nat))
  have d1 : decide ((lim : Int) < 1) = false := decide_eq_false (by omega)
  have d2 : decide ((1000 : Int) < (lim : Int)) = false := decide_eq_false (by omega)
  refine (callsIn_wide (n := 6)).1 (callsIn_of_wp_marks Try.func18 rfl trivial ?_ rfl)
  simp only [Try.ntmps18, List.size_toArray, List.length_cons, List.length_nil, Nat.reduceAdd, Nat.reduceSub, Array.replicate_succ, Array.replicate_zero, List.push_toArray, List.append_toArray, List.nil_append, List.cons_append]
  refine wpIn_wide.2 ?_
  go_wp2_with fail
  refine (CK.out _ k3.out).mono ?_
  rintro e x1 ⟨rfl, K⟩
  have lc := keepc b3.cell K
  have K1 := Lib.hid (k3.out.trans (K.mono k3.out.size))
  have s1 : w.heap.size + 1 ≤ x1.heap.size := by have := K.size; rw [World.size_alloc] at this; exact this
  clear K k3 CK b3
  go_wp2_with fail
  refine (CE.out _).mono ?_
  rintro e x3 ⟨rfl, rfl⟩
  go_wp2_with fail
  have LW := loopW p (x1.alloc (.cells #[.slice none 0 0] 22))
  have bc := Boxed.new x1 22 (.slice none 0 0)
  obtain ⟨wz, hwz⟩ : ∃ wz, wz = (((x1.alloc (.cells #[.slice none 0 0] 22)).alloc (.cells #[.slice p.A p.L.length p.ca] 22)).alloc (.cells #[.slice p.B p.b.length p.cb] 23)).alloc (.cells #[.slice p.U p.u.length p.cu] 23) := ⟨_, rfl⟩
  rw [← hwz] at LW ⊢
  have kz : Below x1.heap.size x1 wz := ((Below.refl _ _).alloc (Nat.le_refl _) _).trans (LW.k.mono (by simp))
  have hsz : wz.heap.size = x1.heap.size + 1 + 3 := by rw [LW.sz, World.size_alloc]
  have HSZ := Lib.hid hsz
  have bz : Boxed wz x1.heap.size 22 (.slice none 0 0) := (LW.k.block x1.heap.size (by simp)).trans bc
  have la := LW.a
  have lb := LW.b
  have lu := LW.u
  simp only [World.size_alloc] at la lb lu
  (try simp only [World.size_alloc])
  have kw : Below w.heap.size w wz := K1.out.trans (kz.mono K1.out.size)
  have lz := keepc lc kz
  clear hwz LW kz hsz lc bc CE
  refine (wpIn_wide (n := 6)).1 ?_
  refine rangeFunc_scr (gf := 32) (lb := #[.pointer (some ⟨x1.heap.size + 1 + 1 + 1, 0, none⟩), .pointer (some ⟨x1.heap.size + 1 + 1, 0, none⟩), .pointer (some ⟨x1.heap.size + 1, 0, none⟩)]) rfl (enters_of Try.func32 (by kernel_rfl) rfl)
    (sols_seq (6 - 1) w wz p hr D0 kw (x1.heap.size + 1) (x1.heap.size + 1 + 1) (x1.heap.size + 1 + 1 + 1) la lb lu) (fun k h => by have := HSZ.out; rcases h with h | h | h <;> omega) (fun _ => rfl) (fun hi x A B h k => h.keep k)
    (fun hi pre W => AI w x1.heap.size lim hi pre W ∧ pre.length < lim)
    (fun c pre W => c = .exit 0 ∧ pre.length = lim ∧ ∃ hi, wz.heap.size + 2 ≤ hi ∧ AI w x1.heap.size lim hi pre W)
    (fun hi s A B hlo h k => by
      have sz := HSZ.out
      exact ⟨h.1.keep k (.inl (by omega)) (.inl (by omega)) (fun b hb => .inl (by omega)) (fun b hb => .inr hb), h.2⟩)
    (fun c s A B h k => by
      obtain ⟨h0, h1, hi, h2, h3⟩ := h
      have sz := HSZ.out
      exact ⟨h0, h1, hi, h2, h3.keep k (.inl (by omega)) (.inl (by omega)) (fun b hb => .inl (by omega)) (fun b hb => .inr (by omega))⟩)
    (fun hi W1 h1 h2 k => by
      have sz := HSZ.out
      exact ⟨⟨⟨_, [], (k.block _ (by omega)).trans bz, OwnG.nil _ _, rfl⟩, kw.trans (k.mono kw.size), keepc lz k⟩, hlim⟩) ?a1 ?assign ?body ?done ?stop
  case assign =>
    intro l x W K hK
    gi_wp2
    exact hK
  case body =>
    rintro l hi pre x W h1 h2 h3 ⟨hA, hpl⟩ hs
    have xl := hs.2.1
    obtain ⟨XA, xc, exa, hrx⟩ := ReadsV.own hs.2.2
    rw [xl] at exa
    have CC : Hid (∀ W', Below W.heap.size W W' → Calls Try.prog 27 #[.slice (some ⟨wz.heap.size + 2 + 1, 0, none⟩) p.u.length p.u.length] W' fun e w' => ∃ A2 c2, e = .returned (.slice A2 x.length c2) ∧ w'.ownsRow W'.heap.size 2 1 (.slice A2 x.length c2) x.length (x.map (Value.int .i64)) ∧ Below W'.heap.size W' w') := fun W' hW => by
      have h := clone_w XA x xc W' (hrx.below hW (Nat.le_refl _)) (by rw [xl]; have := D0.u64; omega)
      rw [xl, ← exa] at h
      rw [xl]
      exact h
    obtain ⟨v, L, b0, o0, e0⟩ := hA.ex
    have kA := hA.kw
    have lA := hA.lc
    obtain ⟨vA, vc, ev, -⟩ := o0.reads
    subst ev
    have hLl : L.length = pre.length := by rw [← e0, rowsL_len]
    have hmx : Try.prog.follows .mixedOrders = true := by kernel_rfl
    have hx1000 : x.length ≤ 1000 := by rw [xl]; have := D0.u64; omega
    have RE : Hid (∀ A2 c2, rowsL (L ++ [⟨A2, x, c2⟩]) = pre ++ [x]) := fun A2 c2 => by show _ = _; rw [rowsL_snoc, e0]
    have hL1 : L.length + 1 ≤ lim := by omega
    have HPL := Lib.hid hpl
    have HLL := Lib.hid hLl
    clear hLl exa hrx hs xl TL D0 la lb lu bz lz hA e0 hpl
    gi_wp2
    refine wpIn_region_any hmx ?_
    change wpAnyIn _ _ _ _ _ _ _ _ _ (World.drew _)
    have c0 : W.drew.cell? ⟨x1.heap.size, 0, none⟩ = some (.slice vA L.length vc) := b0.cell
    refine wpAnyIn_ready (rs := [0, 1]) (by kernel_rfl) (by simp) ?_
    refine (AllReadyIn.cons rfl (fun K hK => ?_) (AllReadyIn.cons rfl (fun K hK => ?_) AllReadyIn.nil))
    ·
      go_simp
      refine hK _ _ ?_
      clear hK K
      try simp only [Act.put, List.setIfInBounds_toArray, List.set_cons_zero, List.set_cons_succ]
      refine wpAnyIn_ready (rs := [1]) (by kernel_rfl) (by simp) ?_
      refine (AllReadyIn.cons rfl (fun K hK => ?_) AllReadyIn.nil)
      go_simp
      refine hK _ _ ?_
      clear hK K
      try simp only [Act.put, List.setIfInBounds_toArray, List.set_cons_zero, List.set_cons_succ]
      refine wpAnyIn_ready (rs := [2]) (by kernel_rfl) (by simp) ?_
      refine (AllReadyIn.cons rfl (fun K hK => ?_) AllReadyIn.nil)
      go_simp
      try refine ⟨trivial, ?_⟩
      gi_at_call 27
      refine (callsIn_wide.2 (CC.out _ (below_drewN (Below.refl _ _) 1))).mono ?_
      rintro e w4 ⟨A2, c2, rfl, o2, k4⟩
      have b4 : Boxed w4 x1.heap.size 22 (.slice vA L.length vc) := (k4.block _ b0.lt).trans b0
      have c4 := b4.cell
      refine hK _ _ ?_
      clear hK K
      try simp only [Act.put, List.setIfInBounds_toArray, List.set_cons_zero, List.set_cons_succ]
      refine wpAnyIn_ready (rs := [3]) (by kernel_rfl) (by simp) ?_
      refine (AllReadyIn.cons rfl (fun K hK => ?_) AllReadyIn.nil)
      go_simp
      refine hK _ _ ?_
      clear hK K
      try simp only [Act.put, List.setIfInBounds_toArray, List.set_cons_zero, List.set_cons_succ]
      have b5 := b4.alloc (.cells #[.slice A2 x.length c2] 23)
      have c5 := b5.cell
      refine wpAnyIn_ready (rs := [4]) (by kernel_rfl) (by simp) ?_
      refine (AllReadyIn.cons rfl (fun K hK => ?_) AllReadyIn.nil)
      obtain ⟨w5, hw5⟩ : ∃ w5, w5 = w4.alloc (.cells #[.slice A2 x.length c2] 23) := ⟨_, rfl⟩
      have k5 : KeepOn (fun _ => True) W w5 := by
        rw [hw5]
        exact ((KeepOn.drew W).trans (KeepOn.of_below _ k4)).trans (KeepOn.alloc _ _)
      have o5 := o0.keep k5 (fun _ _ => trivial)
      have s4 : hi ≤ w4.heap.size := Nat.le_trans h2 k4.size
      have f5 : FarG w5 hi ⟨A2, x, c2⟩ := by
        rw [hw5]
        exact (FarG.own (own_mono o2 h2) hx1000).keep (KeepOn.alloc (S := fun _ => True) w4 _) (fun _ _ => trivial)
      have n5 : w5.cell? ⟨w4.heap.size, 0, none⟩ = some (Row.v ⟨A2, x, c2⟩) := by
        rw [hw5]
        exact (Boxed.new w4 _ _).cell
      have s5 : hi ≤ w5.heap.size := by rw [hw5, World.size_alloc]; omega
      rw [← hw5]
      rw [← hw5] at b5
      clear hw5
      refine operIn_row (.tmp 31) (.tmp 34) rfl hi (.slice vA L.length vc) L ⟨A2, x, c2⟩ rfl o5 w4.heap.size rfl n5 f5 (by omega) s5 ?_
      intro A' c' w6 o6 k6
      have b6 : Boxed w6 x1.heap.size 22 (.slice vA L.length vc) := (k6.block _ b5.lt (by have := HSZ.out; omega)).trans b5
      have c6 := b6.cell
      have f6 := b6.frozen
      have k7 : KeepOn (fun b => b < hi) W w6 := (k5.mono fun _ _ _ => trivial).trans k6
      refine hK _ _ ?_
      clear hK K
      try simp only [Act.put, List.setIfInBounds_toArray, List.set_cons_zero, List.set_cons_succ]
      refine wpAnyIn_ready (rs := [5]) (by kernel_rfl) (by simp) ?_
      refine (AllReadyIn.cons rfl (fun K hK => ?_) AllReadyIn.nil)
      go_simp
      refine hK _ _ ?_
      clear hK K
      try simp only [Act.put, List.setIfInBounds_toArray, List.set_cons_zero, List.set_cons_succ]
      refine wpAnyIn_done (by kernel_rfl) ?_ _
      have b8 := b6.set (.slice A' (L.length + 1) c')
      have k8 : KeepOn (fun b => b < hi ∧ b ≠ x1.heap.size) W (w6.setCell ⟨x1.heap.size, 0, none⟩ (.slice A' (L.length + 1) c')) := (k7.mono fun _ _ h => h.1).trans (KeepOn.set _ _ _ (fun c => c.2 rfl))
      have o8 : OwnG (w6.setCell ⟨x1.heap.size, 0, none⟩ (.slice A' (L.length + 1) c')) hi (.slice A' (L.length + 1) c') (L ++ [⟨A2, x, c2⟩]) := o6.keep (KeepOn.set (S := fun b => hi ≤ b) w6 ⟨x1.heap.size, 0, none⟩ _ (by have := HSZ.out; show ¬ hi ≤ x1.heap.size; omega)) (fun _ h => h)
      generalize w6.setCell ⟨x1.heap.size, 0, none⟩ (.slice A' (L.length + 1) c') = w8 at *
      clear b6 c6 f6 k7 k6 o6 b5 c5 b4 c4 k4 o2 k5 o5 f5 n5 s5 s4
      have hAI : AI w x1.heap.size lim hi (pre ++ [x]) w8 := ⟨⟨_, _, b8, o8, RE.out A2 c2⟩, kA.trans (k8.below kA.size (fun b hb => ⟨by have := HSZ.out; omega, by omega⟩)), k8.cell lA ⟨by have := HSZ.out; omega, by omega⟩⟩
      have kF : KeepOn (fun k => Pv w (x1.heap.size + 1) (x1.heap.size + 1 + 1 + 1) k ∨ (wz.heap.size ≤ k ∧ k < hi)) W w8 := k8.mono fun k _ h => by
        have := HSZ.out
        rcases h with h | h
        · rcases h with h | h | h <;> exact ⟨by omega, by omega⟩
        · exact ⟨by omega, by omega⟩
      have c8 := b8.cell
      have l8 := hAI.lc
      have hAI := Lib.hid hAI
      have kF := Lib.hid kF
      clear b8 k8 o8
      by_cases hq : L.length + 1 = lim
      · have z1 : (((L.length : Int) + 1) == (lim : Int)) = true := by simp; omega
        have z2 : ((((L.length + 1 : Nat) : Nat) : Int) == (lim : Int)) = true := by simp; omega
        gi_wp2
        exact ⟨kF.out, rfl, by rw [List.length_append, List.length_singleton, ← HLL.out]; omega, hi, h1, hAI.out⟩
      · have z1 : (((L.length : Int) + 1) == (lim : Int)) = false := by simp; omega
        have z2 : ((((L.length + 1 : Nat) : Nat) : Int) == (lim : Int)) = false := by simp; omega
        gi_wp2
        exact ⟨kF.out, hAI.out, by rw [List.length_append, List.length_singleton, ← HLL.out]; omega⟩
    ·
      go_simp
      refine hK _ _ ?_
      clear hK K
      try simp only [Act.put, List.setIfInBounds_toArray, List.set_cons_zero, List.set_cons_succ]
      refine wpAnyIn_ready (rs := [0, 2]) (by kernel_rfl) (by simp) ?_
      refine (AllReadyIn.cons rfl (fun K hK => ?_) (AllReadyIn.cons rfl (fun K hK => ?_) AllReadyIn.nil))
      ·
        go_simp
        refine hK _ _ ?_
        clear hK K
        try simp only [Act.put, List.setIfInBounds_toArray, List.set_cons_zero, List.set_cons_succ]
        refine wpAnyIn_ready (rs := [2]) (by kernel_rfl) (by simp) ?_
        refine (AllReadyIn.cons rfl (fun K hK => ?_) AllReadyIn.nil)
        go_simp
        try refine ⟨trivial, ?_⟩
        gi_at_call 27
        refine (callsIn_wide.2 (CC.out _ (below_drewN (Below.refl _ _) 1))).mono ?_
        rintro e w4 ⟨A2, c2, rfl, o2, k4⟩
        have b4 : Boxed w4 x1.heap.size 22 (.slice vA L.length vc) := (k4.block _ b0.lt).trans b0
        have c4 := b4.cell
        refine hK _ _ ?_
        clear hK K
        try simp only [Act.put, List.setIfInBounds_toArray, List.set_cons_zero, List.set_cons_succ]
        refine wpAnyIn_ready (rs := [3]) (by kernel_rfl) (by simp) ?_
        refine (AllReadyIn.cons rfl (fun K hK => ?_) AllReadyIn.nil)
        go_simp
        refine hK _ _ ?_
        clear hK K
        try simp only [Act.put, List.setIfInBounds_toArray, List.set_cons_zero, List.set_cons_succ]
        have b5 := b4.alloc (.cells #[.slice A2 x.length c2] 23)
        have c5 := b5.cell
        refine wpAnyIn_ready (rs := [4]) (by kernel_rfl) (by simp) ?_
        refine (AllReadyIn.cons rfl (fun K hK => ?_) AllReadyIn.nil)
        obtain ⟨w5, hw5⟩ : ∃ w5, w5 = w4.alloc (.cells #[.slice A2 x.length c2] 23) := ⟨_, rfl⟩
        have k5 : KeepOn (fun _ => True) W w5 := by
          rw [hw5]
          exact ((KeepOn.drew W).trans (KeepOn.of_below _ k4)).trans (KeepOn.alloc _ _)
        have o5 := o0.keep k5 (fun _ _ => trivial)
        have s4 : hi ≤ w4.heap.size := Nat.le_trans h2 k4.size
        have f5 : FarG w5 hi ⟨A2, x, c2⟩ := by
          rw [hw5]
          exact (FarG.own (own_mono o2 h2) hx1000).keep (KeepOn.alloc (S := fun _ => True) w4 _) (fun _ _ => trivial)
        have n5 : w5.cell? ⟨w4.heap.size, 0, none⟩ = some (Row.v ⟨A2, x, c2⟩) := by
          rw [hw5]
          exact (Boxed.new w4 _ _).cell
        have s5 : hi ≤ w5.heap.size := by rw [hw5, World.size_alloc]; omega
        rw [← hw5]
        rw [← hw5] at b5
        clear hw5
        refine operIn_row (.tmp 31) (.tmp 34) rfl hi (.slice vA L.length vc) L ⟨A2, x, c2⟩ rfl o5 w4.heap.size rfl n5 f5 (by omega) s5 ?_
        intro A' c' w6 o6 k6
        have b6 : Boxed w6 x1.heap.size 22 (.slice vA L.length vc) := (k6.block _ b5.lt (by have := HSZ.out; omega)).trans b5
        have c6 := b6.cell
        have f6 := b6.frozen
        have k7 : KeepOn (fun b => b < hi) W w6 := (k5.mono fun _ _ _ => trivial).trans k6
        refine hK _ _ ?_
        clear hK K
        try simp only [Act.put, List.setIfInBounds_toArray, List.set_cons_zero, List.set_cons_succ]
        refine wpAnyIn_ready (rs := [5]) (by kernel_rfl) (by simp) ?_
        refine (AllReadyIn.cons rfl (fun K hK => ?_) AllReadyIn.nil)
        go_simp
        refine hK _ _ ?_
        clear hK K
        try simp only [Act.put, List.setIfInBounds_toArray, List.set_cons_zero, List.set_cons_succ]
        refine wpAnyIn_done (by kernel_rfl) ?_ _
        have b8 := b6.set (.slice A' (L.length + 1) c')
        have k8 : KeepOn (fun b => b < hi ∧ b ≠ x1.heap.size) W (w6.setCell ⟨x1.heap.size, 0, none⟩ (.slice A' (L.length + 1) c')) := (k7.mono fun _ _ h => h.1).trans (KeepOn.set _ _ _ (fun c => c.2 rfl))
        have o8 : OwnG (w6.setCell ⟨x1.heap.size, 0, none⟩ (.slice A' (L.length + 1) c')) hi (.slice A' (L.length + 1) c') (L ++ [⟨A2, x, c2⟩]) := o6.keep (KeepOn.set (S := fun b => hi ≤ b) w6 ⟨x1.heap.size, 0, none⟩ _ (by have := HSZ.out; show ¬ hi ≤ x1.heap.size; omega)) (fun _ h => h)
        generalize w6.setCell ⟨x1.heap.size, 0, none⟩ (.slice A' (L.length + 1) c') = w8 at *
        clear b6 c6 f6 k7 k6 o6 b5 c5 b4 c4 k4 o2 k5 o5 f5 n5 s5 s4
        have hAI : AI w x1.heap.size lim hi (pre ++ [x]) w8 := ⟨⟨_, _, b8, o8, RE.out A2 c2⟩, kA.trans (k8.below kA.size (fun b hb => ⟨by have := HSZ.out; omega, by omega⟩)), k8.cell lA ⟨by have := HSZ.out; omega, by omega⟩⟩
        have kF : KeepOn (fun k => Pv w (x1.heap.size + 1) (x1.heap.size + 1 + 1 + 1) k ∨ (wz.heap.size ≤ k ∧ k < hi)) W w8 := k8.mono fun k _ h => by
          have := HSZ.out
          rcases h with h | h
          · rcases h with h | h | h <;> exact ⟨by omega, by omega⟩
          · exact ⟨by omega, by omega⟩
        have c8 := b8.cell
        have l8 := hAI.lc
        have hAI := Lib.hid hAI
        have kF := Lib.hid kF
        clear b8 k8 o8
        by_cases hq : L.length + 1 = lim
        · have z1 : (((L.length : Int) + 1) == (lim : Int)) = true := by simp; omega
          have z2 : ((((L.length + 1 : Nat) : Nat) : Int) == (lim : Int)) = true := by simp; omega
          gi_wp2
          exact ⟨kF.out, rfl, by rw [List.length_append, List.length_singleton, ← HLL.out]; omega, hi, h1, hAI.out⟩
        · have z1 : (((L.length : Int) + 1) == (lim : Int)) = false := by simp; omega
          have z2 : ((((L.length + 1 : Nat) : Nat) : Int) == (lim : Int)) = false := by simp; omega
          gi_wp2
          exact ⟨kF.out, hAI.out, by rw [List.length_append, List.length_singleton, ← HLL.out]; omega⟩
      ·
        go_simp
        try refine ⟨trivial, ?_⟩
        gi_at_call 27
        refine (callsIn_wide.2 (CC.out _ (below_drewN (Below.refl _ _) 1))).mono ?_
        rintro e w4 ⟨A2, c2, rfl, o2, k4⟩
        have b4 : Boxed w4 x1.heap.size 22 (.slice vA L.length vc) := (k4.block _ b0.lt).trans b0
        have c4 := b4.cell
        refine hK _ _ ?_
        clear hK K
        try simp only [Act.put, List.setIfInBounds_toArray, List.set_cons_zero, List.set_cons_succ]
        refine wpAnyIn_ready (rs := [0, 3]) (by kernel_rfl) (by simp) ?_
        refine (AllReadyIn.cons rfl (fun K hK => ?_) (AllReadyIn.cons rfl (fun K hK => ?_) AllReadyIn.nil))
        ·
          go_simp
          refine hK _ _ ?_
          clear hK K
          try simp only [Act.put, List.setIfInBounds_toArray, List.set_cons_zero, List.set_cons_succ]
          refine wpAnyIn_ready (rs := [3]) (by kernel_rfl) (by simp) ?_
          refine (AllReadyIn.cons rfl (fun K hK => ?_) AllReadyIn.nil)
          go_simp
          refine hK _ _ ?_
          clear hK K
          try simp only [Act.put, List.setIfInBounds_toArray, List.set_cons_zero, List.set_cons_succ]
          have b5 := b4.alloc (.cells #[.slice A2 x.length c2] 23)
          have c5 := b5.cell
          refine wpAnyIn_ready (rs := [4]) (by kernel_rfl) (by simp) ?_
          refine (AllReadyIn.cons rfl (fun K hK => ?_) AllReadyIn.nil)
          obtain ⟨w5, hw5⟩ : ∃ w5, w5 = w4.alloc (.cells #[.slice A2 x.length c2] 23) := ⟨_, rfl⟩
          have k5 : KeepOn (fun _ => True) W w5 := by
            rw [hw5]
            exact ((KeepOn.drew W).trans (KeepOn.of_below _ k4)).trans (KeepOn.alloc _ _)
          have o5 := o0.keep k5 (fun _ _ => trivial)
          have s4 : hi ≤ w4.heap.size := Nat.le_trans h2 k4.size
          have f5 : FarG w5 hi ⟨A2, x, c2⟩ := by
            rw [hw5]
            exact (FarG.own (own_mono o2 h2) hx1000).keep (KeepOn.alloc (S := fun _ => True) w4 _) (fun _ _ => trivial)
          have n5 : w5.cell? ⟨w4.heap.size, 0, none⟩ = some (Row.v ⟨A2, x, c2⟩) := by
            rw [hw5]
            exact (Boxed.new w4 _ _).cell
          have s5 : hi ≤ w5.heap.size := by rw [hw5, World.size_alloc]; omega
          rw [← hw5]
          rw [← hw5] at b5
          clear hw5
          refine operIn_row (.tmp 31) (.tmp 34) rfl hi (.slice vA L.length vc) L ⟨A2, x, c2⟩ rfl o5 w4.heap.size rfl n5 f5 (by omega) s5 ?_
          intro A' c' w6 o6 k6
          have b6 : Boxed w6 x1.heap.size 22 (.slice vA L.length vc) := (k6.block _ b5.lt (by have := HSZ.out; omega)).trans b5
          have c6 := b6.cell
          have f6 := b6.frozen
          have k7 : KeepOn (fun b => b < hi) W w6 := (k5.mono fun _ _ _ => trivial).trans k6
          refine hK _ _ ?_
          clear hK K
          try simp only [Act.put, List.setIfInBounds_toArray, List.set_cons_zero, List.set_cons_succ]
          refine wpAnyIn_ready (rs := [5]) (by kernel_rfl) (by simp) ?_
          refine (AllReadyIn.cons rfl (fun K hK => ?_) AllReadyIn.nil)
          go_simp
          refine hK _ _ ?_
          clear hK K
          try simp only [Act.put, List.setIfInBounds_toArray, List.set_cons_zero, List.set_cons_succ]
          refine wpAnyIn_done (by kernel_rfl) ?_ _
          have b8 := b6.set (.slice A' (L.length + 1) c')
          have k8 : KeepOn (fun b => b < hi ∧ b ≠ x1.heap.size) W (w6.setCell ⟨x1.heap.size, 0, none⟩ (.slice A' (L.length + 1) c')) := (k7.mono fun _ _ h => h.1).trans (KeepOn.set _ _ _ (fun c => c.2 rfl))
          have o8 : OwnG (w6.setCell ⟨x1.heap.size, 0, none⟩ (.slice A' (L.length + 1) c')) hi (.slice A' (L.length + 1) c') (L ++ [⟨A2, x, c2⟩]) := o6.keep (KeepOn.set (S := fun b => hi ≤ b) w6 ⟨x1.heap.size, 0, none⟩ _ (by have := HSZ.out; show ¬ hi ≤ x1.heap.size; omega)) (fun _ h => h)
          generalize w6.setCell ⟨x1.heap.size, 0, none⟩ (.slice A' (L.length + 1) c') = w8 at *
          clear b6 c6 f6 k7 k6 o6 b5 c5 b4 c4 k4 o2 k5 o5 f5 n5 s5 s4
          have hAI : AI w x1.heap.size lim hi (pre ++ [x]) w8 := ⟨⟨_, _, b8, o8, RE.out A2 c2⟩, kA.trans (k8.below kA.size (fun b hb => ⟨by have := HSZ.out; omega, by omega⟩)), k8.cell lA ⟨by have := HSZ.out; omega, by omega⟩⟩
          have kF : KeepOn (fun k => Pv w (x1.heap.size + 1) (x1.heap.size + 1 + 1 + 1) k ∨ (wz.heap.size ≤ k ∧ k < hi)) W w8 := k8.mono fun k _ h => by
            have := HSZ.out
            rcases h with h | h
            · rcases h with h | h | h <;> exact ⟨by omega, by omega⟩
            · exact ⟨by omega, by omega⟩
          have c8 := b8.cell
          have l8 := hAI.lc
          have hAI := Lib.hid hAI
          have kF := Lib.hid kF
          clear b8 k8 o8
          by_cases hq : L.length + 1 = lim
          · have z1 : (((L.length : Int) + 1) == (lim : Int)) = true := by simp; omega
            have z2 : ((((L.length + 1 : Nat) : Nat) : Int) == (lim : Int)) = true := by simp; omega
            gi_wp2
            exact ⟨kF.out, rfl, by rw [List.length_append, List.length_singleton, ← HLL.out]; omega, hi, h1, hAI.out⟩
          · have z1 : (((L.length : Int) + 1) == (lim : Int)) = false := by simp; omega
            have z2 : ((((L.length + 1 : Nat) : Nat) : Int) == (lim : Int)) = false := by simp; omega
            gi_wp2
            exact ⟨kF.out, hAI.out, by rw [List.length_append, List.length_singleton, ← HLL.out]; omega⟩
        ·
          go_simp
          refine hK _ _ ?_
          clear hK K
          try simp only [Act.put, List.setIfInBounds_toArray, List.set_cons_zero, List.set_cons_succ]
          have b5 := b4.alloc (.cells #[.slice A2 x.length c2] 23)
          have c5 := b5.cell
          refine wpAnyIn_ready (rs := [0]) (by kernel_rfl) (by simp) ?_
          refine (AllReadyIn.cons rfl (fun K hK => ?_) AllReadyIn.nil)
          go_simp
          refine hK _ _ ?_
          clear hK K
          try simp only [Act.put, List.setIfInBounds_toArray, List.set_cons_zero, List.set_cons_succ]
          refine wpAnyIn_ready (rs := [4]) (by kernel_rfl) (by simp) ?_
          refine (AllReadyIn.cons rfl (fun K hK => ?_) AllReadyIn.nil)
          obtain ⟨w5, hw5⟩ : ∃ w5, w5 = w4.alloc (.cells #[.slice A2 x.length c2] 23) := ⟨_, rfl⟩
          have k5 : KeepOn (fun _ => True) W w5 := by
            rw [hw5]
            exact ((KeepOn.drew W).trans (KeepOn.of_below _ k4)).trans (KeepOn.alloc _ _)
          have o5 := o0.keep k5 (fun _ _ => trivial)
          have s4 : hi ≤ w4.heap.size := Nat.le_trans h2 k4.size
          have f5 : FarG w5 hi ⟨A2, x, c2⟩ := by
            rw [hw5]
            exact (FarG.own (own_mono o2 h2) hx1000).keep (KeepOn.alloc (S := fun _ => True) w4 _) (fun _ _ => trivial)
          have n5 : w5.cell? ⟨w4.heap.size, 0, none⟩ = some (Row.v ⟨A2, x, c2⟩) := by
            rw [hw5]
            exact (Boxed.new w4 _ _).cell
          have s5 : hi ≤ w5.heap.size := by rw [hw5, World.size_alloc]; omega
          rw [← hw5]
          rw [← hw5] at b5
          clear hw5
          refine operIn_row (.tmp 31) (.tmp 34) rfl hi (.slice vA L.length vc) L ⟨A2, x, c2⟩ rfl o5 w4.heap.size rfl n5 f5 (by omega) s5 ?_
          intro A' c' w6 o6 k6
          have b6 : Boxed w6 x1.heap.size 22 (.slice vA L.length vc) := (k6.block _ b5.lt (by have := HSZ.out; omega)).trans b5
          have c6 := b6.cell
          have f6 := b6.frozen
          have k7 : KeepOn (fun b => b < hi) W w6 := (k5.mono fun _ _ _ => trivial).trans k6
          refine hK _ _ ?_
          clear hK K
          try simp only [Act.put, List.setIfInBounds_toArray, List.set_cons_zero, List.set_cons_succ]
          refine wpAnyIn_ready (rs := [5]) (by kernel_rfl) (by simp) ?_
          refine (AllReadyIn.cons rfl (fun K hK => ?_) AllReadyIn.nil)
          go_simp
          refine hK _ _ ?_
          clear hK K
          try simp only [Act.put, List.setIfInBounds_toArray, List.set_cons_zero, List.set_cons_succ]
          refine wpAnyIn_done (by kernel_rfl) ?_ _
          have b8 := b6.set (.slice A' (L.length + 1) c')
          have k8 : KeepOn (fun b => b < hi ∧ b ≠ x1.heap.size) W (w6.setCell ⟨x1.heap.size, 0, none⟩ (.slice A' (L.length + 1) c')) := (k7.mono fun _ _ h => h.1).trans (KeepOn.set _ _ _ (fun c => c.2 rfl))
          have o8 : OwnG (w6.setCell ⟨x1.heap.size, 0, none⟩ (.slice A' (L.length + 1) c')) hi (.slice A' (L.length + 1) c') (L ++ [⟨A2, x, c2⟩]) := o6.keep (KeepOn.set (S := fun b => hi ≤ b) w6 ⟨x1.heap.size, 0, none⟩ _ (by have := HSZ.out; show ¬ hi ≤ x1.heap.size; omega)) (fun _ h => h)
          generalize w6.setCell ⟨x1.heap.size, 0, none⟩ (.slice A' (L.length + 1) c') = w8 at *
          clear b6 c6 f6 k7 k6 o6 b5 c5 b4 c4 k4 o2 k5 o5 f5 n5 s5 s4
          have hAI : AI w x1.heap.size lim hi (pre ++ [x]) w8 := ⟨⟨_, _, b8, o8, RE.out A2 c2⟩, kA.trans (k8.below kA.size (fun b hb => ⟨by have := HSZ.out; omega, by omega⟩)), k8.cell lA ⟨by have := HSZ.out; omega, by omega⟩⟩
          have kF : KeepOn (fun k => Pv w (x1.heap.size + 1) (x1.heap.size + 1 + 1 + 1) k ∨ (wz.heap.size ≤ k ∧ k < hi)) W w8 := k8.mono fun k _ h => by
            have := HSZ.out
            rcases h with h | h
            · rcases h with h | h | h <;> exact ⟨by omega, by omega⟩
            · exact ⟨by omega, by omega⟩
          have c8 := b8.cell
          have l8 := hAI.lc
          have hAI := Lib.hid hAI
          have kF := Lib.hid kF
          clear b8 k8 o8
          by_cases hq : L.length + 1 = lim
          · have z1 : (((L.length : Int) + 1) == (lim : Int)) = true := by simp; omega
            have z2 : ((((L.length + 1 : Nat) : Nat) : Int) == (lim : Int)) = true := by simp; omega
            gi_wp2
            exact ⟨kF.out, rfl, by rw [List.length_append, List.length_singleton, ← HLL.out]; omega, hi, h1, hAI.out⟩
          · have z1 : (((L.length : Int) + 1) == (lim : Int)) = false := by simp; omega
            have z2 : ((((L.length + 1 : Nat) : Nat) : Int) == (lim : Int)) = false := by simp; omega
            gi_wp2
            exact ⟨kF.out, hAI.out, by rw [List.length_append, List.length_singleton, ← HLL.out]; omega⟩
  case stop =>
    rintro D c pre W hD hpre ⟨rfl, hl0, hi, hh, hA⟩ hK
    obtain ⟨v, L, b0, o0, e0⟩ := hA.ex
    have kA := hA.kw
    obtain ⟨A, c, ev, hrd⟩ := o0.reads
    subst ev
    have c0 := b0.cell
    have hT : HD = pre := by
      obtain ⟨t, ht⟩ := hpre
      rw [← HHD.out, ← ht, ← hl0, List.take_left' rfl]
    subst hT
    have HR := Lib.hid hrd
    have E0 := Lib.hid e0
    clear hpre hA o0 HHD hrd e0
    gi_wp2
    go_wp2
    refine ⟨by simp, .inl ⟨_, _, rfl, run_takeDeferred hK, ?_⟩⟩
    exact ⟨_, results_tmp2 rfl _ _ _, A, c, L, rfl, E0.out, reads_put HR.out hK, kA.trans (belowK_b (w := w) (Nat.le_refl _) W D _ _ (by have := HSZ.out; omega) hK rfl rfl)⟩
  case done =>
    rintro D hi W hD h1 h2 ⟨hA, hlt⟩ hK
    obtain ⟨v, L, b0, o0, e0⟩ := hA.ex
    have kA := hA.kw
    obtain ⟨A, c, ev, hrd⟩ := o0.reads
    subst ev
    have c0 := b0.cell
    have hT : HD = solT p.L p.b p.u := by rw [← HHD.out, List.take_of_length_le (by omega)]
    have HR := Lib.hid hrd
    have E0 := Lib.hid e0
    have HT := Lib.hid hT
    clear hA o0 HHD hrd e0 hT
    go_wp2
    refine ⟨by simp, .inl ⟨_, _, rfl, run_takeDeferred hK, ?_⟩⟩
    exact ⟨_, results_tmp2 rfl _ _ _, A, c, L, rfl, by rw [HT.out]; exact E0.out, reads_put HR.out hK, kA.trans (belowK_b (w := w) (Nat.le_refl _) W D _ _ (by have := HSZ.out; omega) hK rfl rfl)⟩
theorem all_any (p : PV) (limit : Int) (w : World) (hr : PR w p) (hl : lensOk p) :
    Calls Try.prog 18 #[.slice p.A p.L.length p.ca, .slice p.B p.b.length p.cb, .slice p.U p.u.length p.cu, .int .i64 limit] w (LPost2 w (allV p limit) (allE p limit)) := by
  by_cases hc : chkP p.L p.b p.u = 0
  · by_cases h : limit < 1 ∨ 1000 < limit
    · exact all_range p limit w hr hl hc h
    · obtain ⟨k, rfl⟩ : ∃ k : Nat, limit = k := ⟨limit.toNat, by omega⟩
      exact all_ok p k w hr hl hc (by omega) (by omega)
  · exact all_bad p limit w hr hl hc
end Go.Proofs.Ytneediihponfiaa
