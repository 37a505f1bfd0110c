/- Contracts: lists of rows joined, by the program and by the reference. -/
import Derived.Test.YtlppoablhipinaaUG
import Derived.Lib.AppendZerosOnto
import Derived.Lib.AppendZeros
namespace Go.Proofs.Ytlppoablhipinaa
open Go.RowKit

theorem own_append {w w' : World} {s : Nat} {v v' : Value} {L M : List Row} (h : OwnL w s v L) (hr : ∀ r ∈ M, FarR w s r) (hg : w.grownBy w' v.ownBlock) (ho : w'.ownsRow s 28 1 v' (L.length + M.length) (L.map Row.v ++ M.map Row.v)) : OwnL w' s v' (L ++ M) := by
  refine ⟨?_, fun x hx => ?_⟩
  · rw [List.map_append, List.length_append]
    exact ho
  · rcases List.mem_append.1 hx with hx | hx
    · exact own_grown h hg x (h.2 x hx)
    · exact own_grown h hg x (hr x hx)
/-- rows are appended -/
theorem wpList_rows {ops : Array Oper} {rest : List Oper} {o : Oper} {a : Act} {w : World} {Q : Exit → Act → World → Prop} (hgd : o.guard = none) (s x : Operand)
    (ho : o.op = .call { callee := .builtin .append, args := #[s, x], argTypes := #[22, 22] })
    (base : Nat) (v : Value) (L M : List Row) (A : Option Addr) (c : Nat) (hs : a.eval s = v) (hO : OwnL w base v L) (hx : a.eval x = .slice A M.length c) (hA : A = none → c = 0)
    (hc : CellsL w A M) (hr : ∀ r ∈ M, FarR w base r) (hl : L.length ≤ 100000) (hm : M.length ≤ 100000) (hbase : base ≤ w.heap.size)
    (h : ∀ v' w', OwnL w' base v' (L ++ M) → Below base w w' → wpList Try.prog ops Q rest (a.put o.dst v') w') : wpList Try.prog ops Q (o :: rest) a w := by
  obtain ⟨i, hi, hz, h1, h2⟩ := info_parts infoR
  cases A with
  | none =>
    obtain rfl : M = [] := by
      cases M with
      | nil => rfl
      | cons r t => obtain ⟨_, _, e, _⟩ := hc 0 (by simp); cases e
    obtain rfl := hA rfl
    refine wpList_append_own_none hgd s x 22 ho base 28 i 1 Try.underlying22 hi v L.length (L.map Row.v) hs hO.1 hx ?_
    exact h v w (by rw [List.append_nil]; exact hO) (Below.refl _ _)
  | some ad =>
    refine wpList_append_own _ hgd s x 22 ho base 28 i (.slice none 0 0) 1 24 Try.underlying22 hi hz h1 h2 rfl (by decide) v L.length (L.map Row.v) hs hO.1 ad M.length c (M.map Row.v) hx (by simp) ?_ ?_ (by unfold maxLen; omega) (by omega) hbase ?_
    · intro j u hj
      have hjl : j < M.length := by
        rcases Nat.lt_or_ge j M.length with h | h
        · exact h
        · rw [List.getElem?_eq_none (by simpa using h)] at hj; cases hj
      obtain ⟨b, off, e, _, hcell⟩ := hc j hjl
      injection e with e
      subst e
      rw [Go.WideShapes.add_plain, hcell]
      rw [List.getElem?_map, List.getElem?_eq_getElem hjl] at hj
      rw [← Option.some.inj hj]
      unfold rA
      rw [List.getElem?_eq_getElem hjl]
      rfl
    · intro u hu
      obtain ⟨r, _, rfl⟩ := List.mem_map.1 hu
      simp [Value.oneCell', Row.v]
    · intro v' w' hown hgrow _
      refine h v' w' (own_append hO hr hgrow hown) ((Below.refl base w).grown hgrow hbase fun q e => (World.ownsRow.lt hO.1 q e).1)
/-! the reference -/
set_option maxHeartbeats 4000000 in
theorem runion_any (A B : Option Addr) (L M : List Row) (c cb : Nat) (w : World) (hr : ReadsL w A L) (hl : L.length ≤ 200) (rb : ReadsL w B M) (hm : M.length ≤ 200) (hA : A = none → c = 0) (hB : B = none → cb = 0) :
    Calls Try.prog 20 #[.slice A L.length c, .slice B M.length cb] w (MPost (L.length + M.length) w (unionL (rowsL L) (rowsL M))) := by
  have HL := Lib.hid hr
  have RB := Lib.hid rb
  have HA := Lib.hid hA
  have HB := Lib.hid hB
  clear hr rb hA hB
  obtain ⟨g, hg⟩ : ∃ g, g = w.heap.size := ⟨_, rfl⟩
  have HG := Lib.hid hg
  unfold MPost
  rw [← hg]
  clear hg
  have HM : Hid (∀ W A c K, ReadsL W A K → K.length ≤ 1000 → Calls Try.prog 14 #[.slice A K.length c] W (MPost K.length W (makeL (rowsL K)))) := fun W A c K h1 h2 => rmake_any A K c W h1 h2
  obtain ⟨n, hn⟩ : ∃ n, n = L.length := ⟨_, rfl⟩
  obtain ⟨m, hm'⟩ : ∃ m, m = M.length := ⟨_, rfl⟩
  rw [← hn, ← hm']
  have HN := Lib.hid hn
  have HMn := Lib.hid hm'
  clear hn hm'
  have O0 : Hid (OwnL w g (.slice none 0 0) []) := OwnL.nil _ _
  have F0 : Hid (∀ r ∈ L, FarR w g r) := fun r hr => FarR.old (HL.out.2 r hr) (Below.refl w.heap.size w) (Nat.le_refl _) (by rw [HG.out]; exact Nat.le_refl _)
  have F1 : Hid (∀ W, Below g w W → ∀ r ∈ M, FarR W g r) := fun W hW r hr => FarR.old (RB.out.2 r hr) hW (by rw [HG.out]; exact Nat.le_refl _) (by rw [HG.out]; exact Nat.le_refl _)
  have C1 : Hid (∀ W, Below g w W → CellsL W B M) := fun W hW => RB.out.1.below hW (by rw [HG.out]; exact Nat.le_refl _)
  go_enter Try.func20, Try.ntmps20
  go_wp2_with (first | (at_builtin; refine wpList_rows rfl (.tmp 6) (.tmp 7) rfl g _ [] L A c rfl O0.out (by rw [← HN.out]; rfl) HA.out HL.out.1 F0.out (by simp) (by omega) (by rw [HG.out]; exact Nat.le_refl _) ?_; intro v1 w1 hown' hb'; have O1 := Lib.hid hown'; have B1 := Lib.hid hb'; have hs1 := Nat.le_trans (Nat.le_of_eq HG.out) hb'.size; clear hown' hb') | (at_builtin; refine wpList_rows rfl (.tmp 9) (.tmp 10) rfl g _ ([] ++ L) M B cb rfl O1.out (by rw [← HMn.out]; rfl) HB.out (C1.out _ B1.out) (F1.out _ B1.out) (by simp; omega) (by omega) hs1 ?_; intro v2 w2 hown' hb'; have O2 := Lib.hid hown'; have B2 := Lib.hid (B1.out.trans hb'); obtain ⟨A2, c2, e2, R2⟩ := hown'.reads; have R2 := Lib.hid R2; subst e2; clear hown' hb'))
  have hs2 := B2.out.size
  rw [← HG.out] at hs2
  have hlen : ([] ++ L ++ M).length = L.length + M.length := by simp
  have HMk := HM.out _ _ c2 _ R2.out (by rw [hlen]; omega)
  rw [hlen] at HMk
  have HMk := Lib.hid HMk
  go_wp2_with fail
  refine HMk.out.mono ?_
  rintro e w3 ⟨A3, c3, L3, rfl, E3, N3, R3, B3⟩
  have BX := Lib.hid (B2.out.trans (B3.mono hs2))
  have R3 := Lib.hid R3
  clear B3
  go_wp2
  go_ret
  exact ⟨A3, c3, L3, rfl, by rw [E3]; simp [unionL, rowsL], by rw [HN.out, HMn.out]; exact N3, R3.out, BX.out⟩
/-! the program -/
theorem grow_any (n : Nat) (w : World) (hn : n ≤ 1000) :
    Calls Try.prog 55 #[.slice none 0 0, .int .i64 n] w fun e w' => ∃ v, e = .returned v ∧ OwnL w' w.heap.size v [] ∧ Below w.heap.size w w' := by
  have h1 : ¬ ((n : Int) < 0) := by omega
  by_cases h0 : n = 0
  · subst h0
    go_enter Try.func55, Try.ntmps55
    go_wp2
    go_ret
    exact ⟨_, rfl, OwnL.nil _ _, Below.refl _ _⟩
  · obtain ⟨i, hi, hz, hi1, hi2⟩ := info_parts infoR
    have h4 : (n : Int) > 0 := by omega
    have hold : (Builtin.firstCells i.size 0 (.slice none 0 0)).run Try.prog w.drew = .ok #[] w.drew := run_firstCells_none w.drew i.size 0 0 0
    have hrz : ∀ ty, (Builtin.append_ #[22, 3] ty #[.slice none 0 0, .int .i64 (n : Int)]).run Try.prog w =
        .ok (.slice (some ⟨w.heap.size, 0, none⟩) n (grownCap w n 0 28)) (w.drew.alloc (.cells (#[] ++ Builtin.zeroCells (Value.slice none 0 0).cells n ++ Builtin.zeroCells (Value.slice none 0 0).cells (grownCap w n 0 28 - n)) 28)) := fun ty => by
      have h := Lib.run_append_grow_zeros w 22 3 ty 28 i (.slice none 0 0) .i64 .i64 Try.underlying22 Try.underlying3 hi hz none 0 0 [] hold n (by omega) (by omega) (by omega) (by omega) (by rw [hi2]; omega) (by rw [Nat.zero_add, hi2]; exact growslice_fits (by omega) (by omega))
      rw [Nat.zero_add] at h
      exact h
    have hGn : n ≤ grownCap w n 0 28 := grownCap_ge w _ _ _
    have hG63 := grownCap_le_maxLen w n 0 28 (by unfold maxLen; omega)
    obtain ⟨G, hG⟩ : ∃ G, G = grownCap w n 0 28 := ⟨_, rfl⟩
    rw [← hG] at hrz hGn hG63
    have hO : Hid (OwnL ((w.alloc (.cells (Builtin.zeroCells #[.slice none 0 0] n ++ Builtin.zeroCells #[.slice none 0 0] (G - n)) 28)).drew) w.heap.size (.slice (some ⟨w.heap.size, 0, none⟩) 0 G) []) := by
      refine ⟨⟨rfl, .inr ⟨w.heap.size, G, Builtin.zeroCells #[.slice none 0 0] n ++ Builtin.zeroCells #[.slice none 0 0] (G - n), rfl, Nat.le_refl _, ?_, Nat.zero_le _, hG63, ?_, by simp⟩⟩, fun _ h => by cases h⟩
      · exact heap_alloc_new w _
      · simp [size_zeroCells]; omega
    have hB : Hid (Below w.heap.size w ((w.alloc (.cells (Builtin.zeroCells #[.slice none 0 0] n ++ Builtin.zeroCells #[.slice none 0 0] (G - n)) 28)).drew)) := ((Below.refl _ _).alloc (Nat.le_refl _) _).drew
    unfold maxLen at hG63
    have hn1 : ((n : Int) != 0) = true := by simp; omega
    clear hold hi hz hi1 hi2 hG
    go_enter Try.func55, Try.ntmps55
    go_wp2_with (at_builtin; refine Lib.wpList_append_run _ rfl _ _ _ _ rfl _ _ rfl rfl _ _ (hrz _) ?_)
    all_goals (go_ret; exact ⟨_, rfl, hO.out, hB.out⟩)
set_option maxHeartbeats 4000000 in
theorem concat_any (A B : Option Addr) (L M : List Row) (c cb b : Nat) (w : World) (hr : ReadsL w A L) (hl : L.length ≤ 200) (rb : ReadsL w B M) (hm : M.length ≤ 200) (hA : A = none → c = 0) (hB : B = none → cb = 0)
    (h0 : w.cell? ⟨b, 0, none⟩ = some (.slice A L.length c)) (h1 : w.cell? ⟨b, 1, none⟩ = some (.slice B M.length cb)) :
    Calls Try.prog 44 #[.slice (some ⟨b, 0, none⟩) 2 2] w fun e w' => ∃ v, e = .returned v ∧ OwnL w' w.heap.size v (L ++ M) ∧ Below w.heap.size w w' := by
  have HL := Lib.hid hr
  have RB := Lib.hid rb
  have HA := Lib.hid hA
  have HB := Lib.hid hB
  clear hr rb hA hB
  obtain ⟨g, hg⟩ : ∃ g, g = w.heap.size := ⟨_, rfl⟩
  have HG := Lib.hid hg
  rw [← hg]
  clear hg
  obtain ⟨n, hn⟩ : ∃ n, n = L.length := ⟨_, rfl⟩
  obtain ⟨m, hm'⟩ : ∃ m, m = M.length := ⟨_, rfl⟩
  rw [← hn] at h0 hl
  rw [← hm'] at h1 hm
  have HN := Lib.hid hn
  have HMn := Lib.hid hm'
  clear hn hm'
  have F0 : Hid (∀ W, Below g w W → ∀ r ∈ L, FarR W g r) := fun W hW r hr => FarR.old (HL.out.2 r hr) hW (by rw [HG.out]; exact Nat.le_refl _) (by rw [HG.out]; exact Nat.le_refl _)
  have F1 : Hid (∀ W, Below g w W → ∀ r ∈ M, FarR W g r) := fun W hW r hr => FarR.old (RB.out.2 r hr) hW (by rw [HG.out]; exact Nat.le_refl _) (by rw [HG.out]; exact Nat.le_refl _)
  have C0 : Hid (∀ W, Below g w W → CellsL W A L) := fun W hW => HL.out.1.below hW (by rw [HG.out]; exact Nat.le_refl _)
  have C1 : Hid (∀ W, Below g w W → CellsL W B M) := fun W hW => RB.out.1.below hW (by rw [HG.out]; exact Nat.le_refl _)
  have Z0 : Hid (∀ W, Below g w W → W.cell? ⟨b, 0, none⟩ = some (.slice A n c)) := fun W hW => keepc h0 (hW.mono (by rw [HG.out]; exact Nat.le_refl _))
  have Z1 : Hid (∀ W, Below g w W → W.cell? ⟨b, 1, none⟩ = some (.slice B m cb)) := fun W hW => keepc h1 (hW.mono (by rw [HG.out]; exact Nat.le_refl _))
  clear h0 h1
  have GR := Lib.hid (grow_any (n + m) w (by omega))
  rw [← HG.out] at GR
  go_enter Try.func44, Try.ntmps44
  go_wp2_with fail
  go_loopw [3, 11] (fun z q wr => ∃ (k s : Nat), k ≤ 2 ∧ q = .int .i64 k ∧ z = .int .i64 s ∧ s ≤ 400 ∧ Hid (s = if k = 0 then 0 else if k = 1 then n else n + m) ∧ wr = w) (fun _ q _ => 2 - (intOf q).toNat)
  case atStart => exact ⟨0, 0, by omega, rfl, rfl, by omega, rfl, rfl⟩
  case round =>
    obtain ⟨k, s, hk, rfl, rfl, hs, SE, rfl⟩ := hrel
    have z0 := Z0.out wr (Below.refl _ _)
    have z1 := Z1.out wr (Below.refl _ _)
    rcases (by omega : k = 0 ∨ k = 1 ∨ k = 2) with rfl | rfl | rfl
    · have e : s = 0 := SE.out
      subst e
      go_wp2_with fail
      go_roundw
      case rel => exact ⟨1, n, by omega, by go_num, by go_num, by omega, rfl, by first | trivial | rfl⟩
      case measure => simp [intOf]
    · have e : s = n := SE.out
      subst e
      go_wp2_with fail
      go_roundw
      case rel => exact ⟨2, s + m, by omega, by go_num, by go_num, by omega, rfl, by first | trivial | rfl⟩
      case measure => simp [intOf]
    · have e : s = n + m := SE.out
      subst e
      clear z0 z1
      obtain ⟨wo, rfl⟩ : ∃ wo, wo = wr := ⟨_, rfl⟩
      go_wp2_with fail
      refine GR.out.mono ?_
      rintro e w1 ⟨v, rfl, O1, B1⟩
      have O1 := Lib.hid O1
      have B1 := Lib.hid B1
      go_wp2_with fail
      go_loopw [6, 27] (fun p q ws => ∃ (k : Nat) (K : List Row), k ≤ 2 ∧ q = .int .i64 k ∧ Hid (OwnL ws g p K) ∧ Hid (K = if k = 0 then [] else if k = 1 then L else L ++ M) ∧ Hid (Below g wo ws)) (fun _ q _ => 2 - (intOf q).toNat)
      case atStart => exact ⟨0, [], by omega, rfl, O1.out, rfl, B1.out⟩
      case round =>
        clear O1 B1
        obtain ⟨k, K, hk, rfl, O, E, BB⟩ := hrel
        have z0 := Z0.out wr BB.out
        have z1 := Z1.out wr BB.out
        have hsz := BB.out.size
        rw [← HG.out] at hsz
        rcases (by omega : k = 0 ∨ k = 1 ∨ k = 2) with rfl | rfl | rfl
        · obtain rfl : K = [] := E.out
          go_wp2_with (at_builtin; refine wpList_rows rfl (.tmp 31) (.tmp 32) rfl g _ [] L A c rfl O.out (by rw [← HN.out]; rfl) HA.out (C0.out _ BB.out) (F0.out _ BB.out) (by simp) (by rw [← HN.out]; omega) hsz ?_; intro v1 w4 hown' hb')
          have O4 := Lib.hid hown'
          have B4 := Lib.hid (BB.out.trans hb')
          clear hown' hb'
          go_wp2
          go_roundw
          case rel => exact ⟨1, _, by omega, by go_num, O4, rfl, B4⟩
          case measure => simp [intOf]
        · obtain rfl : K = L := E.out
          go_wp2_with (at_builtin; refine wpList_rows rfl (.tmp 31) (.tmp 32) rfl g _ K M B cb rfl O.out (by rw [← HMn.out]; rfl) HB.out (C1.out _ BB.out) (F1.out _ BB.out) (by rw [← HN.out]; omega) (by rw [← HMn.out]; omega) hsz ?_; intro v1 w4 hown' hb')
          have O4 := Lib.hid hown'
          have B4 := Lib.hid (BB.out.trans hb')
          clear hown' hb'
          go_wp2
          go_roundw
          case rel => exact ⟨2, _, by omega, by go_num, O4, rfl, B4⟩
          case measure => simp [intOf]
        · obtain rfl : K = L ++ M := E.out
          go_wp2_with fail
          go_ret
          exact ⟨_, rfl, O.out, BB.out⟩
theorem cell_two0 (w : World) (x y : Value) (t : TypeId) : (w.alloc (.cells #[x, y] t)).cell? ⟨w.heap.size, 0, none⟩ = some x := by simp
theorem cell_two1 (w : World) (x y : Value) (t : TypeId) : (w.alloc (.cells #[x, y] t)).cell? ⟨w.heap.size, 1, none⟩ = some y := by simp
set_option maxHeartbeats 4000000 in
theorem union_any (A B : Option Addr) (L M : List Row) (c cb : Nat) (w : World) (hr : ReadsL w A L) (hl : L.length ≤ 200) (rb : ReadsL w B M) (hm : M.length ≤ 200) (hA : A = none → c = 0) (hB : B = none → cb = 0) :
    Calls Try.prog 19 #[.slice A L.length c, .slice B M.length cb] w (MPost (L.length + M.length) w (unionL (rowsL L) (rowsL M))) := by
  have HB0 : Hid (∀ o, Below w.heap.size w (w.alloc o)) := fun o => (Below.refl _ _).alloc (Nat.le_refl _) _
  have CC := Lib.hid (concat_any A B L M c cb w.heap.size (w.alloc (.cells #[.slice A L.length c, .slice B M.length cb] 22)) (hr.below (HB0.out _) (Nat.le_refl _)) hl (rb.below (HB0.out _) (Nat.le_refl _)) hm hA hB (cell_two0 _ _ _ _) (cell_two1 _ _ _ _))
  have HM : Hid (∀ W A c K, ReadsL W A K → K.length ≤ 1000 → Calls Try.prog 13 #[.slice A K.length c] W (MPost K.length W (makeL (rowsL K)))) := fun W A c K h1 h2 => make_any A K c W h1 h2
  clear hr rb hA hB
  obtain ⟨n, hn⟩ : ∃ n, n = L.length := ⟨_, rfl⟩
  obtain ⟨m, hm'⟩ : ∃ m, m = M.length := ⟨_, rfl⟩
  rw [← hn, ← hm'] at CC ⊢
  rw [← hn] at hl
  rw [← hm'] at hm
  have HN := Lib.hid hn
  have HMn := Lib.hid hm'
  clear hn hm'
  unfold MPost
  obtain ⟨g, hg⟩ : ∃ g, g = w.heap.size := ⟨_, rfl⟩
  have HG := Lib.hid hg
  rw [← hg] at HB0 CC ⊢
  clear hg
  go_enter Try.func19, Try.ntmps19
  go_wp2_with fail
  rw [← HG.out]
  refine CC.out.mono ?_
  rintro e w1 ⟨v, rfl, O1, K⟩
  have B1 := Lib.hid ((HB0.out (.cells #[.slice A n c, .slice B m cb] 22)).trans (K.mono (by rw [World.size_alloc, ← HG.out]; omega)))
  have hs1 := B1.out.size
  rw [← HG.out] at hs1
  obtain ⟨A2, c2, e2, R2⟩ := O1.reads
  subst e2
  have hlen : (L ++ M).length = L.length + M.length := by simp
  have HMk := HM.out _ _ c2 _ R2 (by rw [hlen, ← HN.out, ← HMn.out]; omega)
  rw [hlen, ← HN.out, ← HMn.out] at HMk
  have HMk := Lib.hid HMk
  clear K O1 R2 CC HM
  go_wp2_with fail
  rw [← HN.out, ← HMn.out]
  refine HMk.out.mono ?_
  rintro e w3 ⟨A3, c3, L3, rfl, E3, N3, R3, B3⟩
  have BX := Lib.hid (B1.out.trans (B3.mono hs1))
  have R3 := Lib.hid R3
  clear B3
  go_wp2
  go_ret
  exact ⟨A3, c3, L3, rfl, by rw [E3]; simp [unionL, rowsL], N3, R3.out, BX.out⟩
end Go.Proofs.Ytlppoablhipinaa
