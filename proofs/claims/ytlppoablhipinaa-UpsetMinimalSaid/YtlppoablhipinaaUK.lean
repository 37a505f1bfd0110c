/- Contracts: the intersection, by the program and by the reference. -/
import Derived.Test.YtlppoablhipinaaUJ
import Derived.Maps.AppendAt
namespace Go.Proofs.Ytlppoablhipinaa
open Go.RowKit

theorem oper_append_own_at {P : Program} (w : World) {o : Oper} {a : Act} {K : Act → World → Prop} {Q : Exit → Act → World → Prop} (s x : Operand) (t : TypeId)
    (ho : o.op = .call { callee := .builtin .append, args := #[s, x], argTypes := #[t, t] })
    (base : Nat) (e : TypeId) (i : TypeInfo) (z : Value) (size bytes : Nat) (ht : P.underlying t = some (.slice e)) (hi : P.info? e = some i) (hz : i.zero = some z)
    (hsize : i.size = size) (hby : i.bytes = bytes) (hzs : z.cells.size = size) (hsz : 0 < size)
    (v : Value) (n : Nat) (xs : List Value) (hs : a.eval s = v) (hown : w.ownsRow base e size v n xs)
    (ad : Addr) (m c : Nat) (news : List Value) (hx : a.eval x = .slice (some ad) m c) (hl : news.length = m * size) (hnews : ∀ j u, news[j]? = some u → w.cell? (ad.add j) = some u) (h1 : ∀ u ∈ news, u.oneCell' = true)
    (h63 : n + m ≤ maxLen) (hbytes : (n + m) * bytes ≤ 140737488355328) (hbase : base ≤ w.heap.size)
    (h : ∀ v' w', w'.ownsRow base e size v' (n + m) (xs ++ news) → w.grownBy w' v.ownBlock → K (a.put o.dst v') w') : Oper.wp P o a w K Q := by
  obtain ⟨v', w', hr, h2, h3, _, _⟩ := run_append_own_at (P := P) w base t o.type e i z size bytes ht hi hz hsize hby hzs hsz v n xs hown ad m c news hl hnews h1 h63 hbytes hbase
  unfold Oper.wp execOp
  simp only [ho, resolve, invoke, builtin, Sem.run_bind, Sem.run_pure, Result.andThen_ok, List.map_toArray, List.map_cons, List.map_nil, hs, hx, hr]
  exact h v' w' h2 h3
theorem oper_row {o : Oper} {a : Act} {w : World} {K : Act → World → Prop} {Q : Exit → Act → World → Prop} (s x : Operand)
    (ho : o.op = .call { callee := .builtin .append, args := #[s, x], argTypes := #[22, 22] })
    (base : Nat) (v : Value) (L : List Row) (r : Row) (hs : a.eval s = v) (hO : OwnL w base v L) (g : Nat) (hx : a.eval x = .slice (some ⟨g, 0, none⟩) 1 1)
    (hc : w.cell? ⟨g, 0, none⟩ = some r.v) (hr : FarR w base r) (hl : L.length ≤ 100000) (hbase : base ≤ w.heap.size)
    (h : ∀ v' w', OwnL w' base v' (L ++ [r]) → Below base w w' → K (a.put o.dst v') w') : Oper.wp Try.prog o a w K Q := by
  obtain ⟨i, hi, hz, h1, h2⟩ := info_parts infoR
  refine oper_append_own_at w s x 22 ho base 28 i (.slice none 0 0) 1 24 Try.underlying22 hi hz h1 h2 rfl (by decide) v L.length (L.map Row.v) hs hO.1 ⟨g, 0, none⟩ 1 1 [r.v] hx rfl ?_ ?_ (by unfold maxLen; omega) (by omega) hbase ?_
  · intro j u hj
    cases j with
    | zero => simp at hj; subst hj; simpa [Addr.add] using hc
    | succ j => simp at hj
  · intro u hu
    simp at hu
    subst hu
    simp [Value.oneCell', Row.v]
  · intro v' w' hown hgrow
    exact h v' w' (own_snoc hO r hr hgrow hown) ((Below.refl base w).grown hgrow hbase fun q e => (World.ownsRow.lt hO.1 q e).1)
theorem maxima_step {U : List Row} {k : Nat} (hk : k < U.length) (Y : List (List Int)) : maxima ((rowsL U).take (k + 1)) Y = maxima ((rowsL U).take k) Y ++ Y.map (maxL (rA U k).zs) := by
  unfold maxima
  rw [List.take_succ_eq_append_getElem (rows_lt hk), List.flatMap_append, rA_get hk]
  simp
theorem map_step {V : List Row} {j : Nat} (hj : j < V.length) (f : List Int → List Int) : ((rowsL V).take (j + 1)).map f = ((rowsL V).take j).map f ++ [f (rA V j).zs] := by
  rw [List.take_succ_eq_append_getElem (rows_lt hj), List.map_append, rA_get hj]
  rfl

set_option maxHeartbeats 8000000 in
set_option maxRecDepth 100000 in
theorem meet_any (A B : Option Addr) (L M : List Row) (c cb : Nat) (w : World) (hr : ReadsL w A L) (hl : L.length ≤ 30) (rb : ReadsL w B M) (hm : M.length ≤ 30) :
    Calls Try.prog 21 #[.slice A L.length c, .slice B M.length cb] w (MPost 900 w (meetL (rowsL L) (rowsL M))) := by
  obtain ⟨g, hg⟩ : ∃ g, g = w.heap.size := ⟨_, rfl⟩
  have HG := Lib.hid hg
  clear hg
  have CA : Hid (∀ W, Below g w W → Calls Try.prog 13 #[.slice A L.length c] W (MPost L.length W (makeL (rowsL L)))) := fun W hW => make_any A L c W (hr.below hW (by rw [HG.out]; exact Nat.le_refl _)) (by omega)
  have CB : Hid (∀ W, Below g w W → Calls Try.prog 13 #[.slice B M.length cb] W (MPost M.length W (makeL (rowsL M)))) := fun W hW => make_any B M cb W (rb.below hW (by rw [HG.out]; exact Nat.le_refl _)) (by omega)
  have CC : Hid (∀ W A2 c2 K, ReadsL W A2 K → K.length ≤ 1000 → Calls Try.prog 13 #[.slice A2 K.length c2] W (MPost K.length W (makeL (rowsL K)))) := fun W A2 c2 K h1 h2 => make_any A2 K c2 W h1 h2
  have B0 : Hid (Below g w w) := Below.refl _ _
  clear hr rb
  have HX : Hid (meetL (rowsL L) (rowsL M) = makeL (maxima (makeL (rowsL L)) (makeL (rowsL M)))) := rfl
  unfold MPost
  rw [← HG.out]
  generalize L.length = nl at *
  generalize M.length = nm at *
  go_enter Try.func21, Try.ntmps21
  go_wp2_with fail
  refine (CB.out _ B0.out).mono ?_
  rintro e w1 ⟨VA, vc, V, rfl, EV, NV, RV, B1⟩
  have RV := Lib.hid RV
  have B1 := Lib.hid (B0.out.trans (B1.mono (by rw [HG.out]; exact Nat.le_refl _)))
  go_wp2_with fail
  refine (CA.out _ B1.out).mono ?_
  rintro e w2 ⟨UA, uc, U, rfl, EU, NU, RU, B2⟩
  have RV2 := Lib.hid (RV.out.below B2 (Nat.le_refl _))
  have RU2 := Lib.hid RU
  have hs1 := B1.out.size
  rw [← HG.out] at hs1
  have BA := Lib.hid (B1.out.trans (B2.mono hs1))
  have hga := Nat.le_trans hs1 B2.size
  rw [← EU, ← EV] at HX
  have ST : Hid (∀ k, k < U.length → maxima ((rowsL U).take (k + 1)) (rowsL V) = maxima ((rowsL U).take k) (rowsL V) ++ (rowsL V).map (maxL (rA U k).zs)) := fun k hk => maxima_step hk _
  have SI : Hid (∀ (x : List Int) j, j < V.length → ((rowsL V).take (j + 1)).map (maxL x) = ((rowsL V).take j).map (maxL x) ++ [maxL x (rA V j).zs]) := fun x j hj => map_step hj _
  have TU : Hid ((rowsL U).take U.length = rowsL U) := rowsL_all U
  have TV : Hid ((rowsL V).take V.length = rowsL V) := rowsL_all V
  clear RU RV B1 B2 B0 CA CB EU EV hs1
  obtain ⟨s, hs⟩ : ∃ s, s = w2.heap.size := ⟨_, rfl⟩
  have HS := Lib.hid hs
  clear hs
  generalize hn : U.length = n at *
  have HN := Lib.hid hn
  clear hn
  generalize hm' : V.length = m at *
  have HM := Lib.hid hm'
  clear hm'
  have hn30 : n ≤ 30 := by omega
  have hm30 : m ≤ 30 := by omega
  clear NU NV
  go_wp2_with fail
  go_loopw [5, 16] (fun p q wr => ∃ (k : Nat) (K : List Row), k ≤ n ∧ q = .int .i64 k ∧ K.length ≤ 30 * k ∧ Hid (OwnL wr s p K) ∧ Hid (rowsL K = maxima ((rowsL U).take k) (rowsL V)) ∧ Hid (Below s w2 wr)) (fun _ q _ => n - (intOf q).toNat)
  case atStart => exact ⟨0, [], by omega, rfl, Nat.le_refl _, OwnL.nil _ _, rfl, Below.refl _ _⟩
  case round =>
    obtain ⟨k, K, hk, rfl, hK, O, E, BB⟩ := hrel
    obtain ⟨wo, rfl⟩ : ∃ wo, wo = wr := ⟨_, rfl⟩
    by_cases hlt : k < n
    · have hkl : k < U.length := by rw [HN.out]; exact hlt
      have RW := RU2.out.below BB.out (by rw [HS.out]; exact Nat.le_refl _)
      obtain ⟨ba, oa, e1, hx⟩ := RW.1.at k hkl
      subst e1
      have MEMX := Lib.hid (rA_mem hkl)
      have HT := ST.out k hlt
      rw [← E.out] at HT
      have SJ := Lib.hid (SI.out (rA U k).zs)
      clear RW hkl E
      generalize rA U k = r at *
      obtain ⟨xA, xs, xc⟩ := r
      dsimp only at *
      replace HT := Lib.hid HT
      go_wp2_with fail
      go_loopw [5, 22] (fun p q wi => ∃ (j : Nat) (K2 : List Row), j ≤ m ∧ q = .int .i64 j ∧ K2.length ≤ 30 * k + j ∧ Hid (OwnL wi s p K2) ∧ Hid (rowsL K2 = rowsL K ++ ((rowsL V).take j).map (maxL xs)) ∧ Hid (Below s w2 wi)) (fun _ q _ => m - (intOf q).toNat)
      case atStart => exact ⟨0, K, by omega, rfl, by omega, O.out, (by show _ = _; simp), BB.out⟩
      case round =>
        obtain ⟨j, K2, hj, rfl, hK2, O2, E2, BI⟩ := hrel
        have hsi := BI.out.size
        rw [← HS.out] at hsi
        by_cases hjl : j < m
        · have hjl2 : j < V.length := by rw [HM.out]; exact hjl
          have RW := RV2.out.below BI.out (by rw [HS.out]; exact Nat.le_refl _)
          obtain ⟨bb, ob, e2, hy⟩ := RW.1.at j hjl2
          subst e2
          have OKy := RW.2 _ (rA_mem hjl2)
          have OKx2 : OkR wr ⟨xA, xs, xc⟩ := ((RU2.out.2 ⟨xA, xs, xc⟩ MEMX.out).below BI.out (by rw [HS.out]; exact Nat.le_refl _))
          have HJ := SJ.out j hjl
          have CX : Hid (∀ W, Below wr.heap.size wr W → Calls Try.prog 45 #[.slice xA xs.length xc, .slice (rA V j).A (rA V j).zs.length (rA V j).cap] W (IsPost W.heap.size W (maxL xs (rA V j).zs))) := fun W hW => max_law xA (rA V j).A xs (rA V j).zs xc (rA V j).cap W (OKx2.1.below hW (Nat.le_refl _)) (OKy.1.below hW (Nat.le_refl _)) (by have h9 : xs.length ≤ 1000 := OKx2.2; omega)
          have hz1000 : (maxL xs (rA V j).zs).length ≤ 1000 := by rw [maxL_len]; have h9 : xs.length ≤ 1000 := OKx2.2; split <;> omega
          have HYW0 : Hid (∀ W, Below s w2 W → W.cell? ⟨bb, ob + j, none⟩ = some (.slice (rA V j).A (rA V j).zs.length (rA V j).cap)) := fun W hW => by
            obtain ⟨b2, o2, e2, h2⟩ := (RV2.out.1.below hW (by rw [HS.out]; exact Nat.le_refl _)).at j hjl2
            injection e2 with e2
            injection e2 with e3 e4
            subst e3 e4
            exact h2
          clear RW OKy hjl2 OKx2
          generalize rA V j = t at *
          obtain ⟨yA, ys, yc⟩ := t
          dsimp only at *
          replace HJ := Lib.hid HJ
          go_wp2_with fail
          refine (CX.out _ (Below.refl _ _)).mono ?_
          rintro e w4 ⟨A4, c4, rfl, F4, L4⟩
          have O4 := Lib.hid (O2.out.below L4 (Nat.le_refl _))
          have F5 := Lib.hid (FarR.fresh (s := s) (c := c4) F4 hz1000)
          have B4 := Lib.hid (BI.out.trans (L4.mono hsi))
          have hs4 := Nat.le_trans hsi L4.size
          clear L4 F4
          generalize hzl : maxL xs ys = zl at *
          have HZL := Lib.hid hzl
          clear hzl
          go_wp2_with (at_builtin; refine wpList_row rfl (.tmp 26) (.tmp 30) rfl s _ K2 ⟨A4, zl, c4⟩ rfl (O4.out.alloc _) _ rfl (cell_new1 _ _ _) (F5.out.alloc _) (by omega) (size_le_alloc hs4 _) ?_; intro v' w6 hown' hb')
          have B5x := (B4.out.alloc hs4 (.cells #[.slice A4 zl.length c4] 28)).trans hb'
          clear hb'
          have O5 := Lib.hid hown'
          have EN : Hid (rowsL (K2 ++ [⟨A4, zl, c4⟩]) = rowsL K ++ ((rowsL V).take (j + 1)).map (maxL xs)) := by
            show _ = _
            rw [rowsL_snoc, E2.out, HJ.out, List.append_assoc]
          have B5 := Lib.hid B5x
          clear hown' B5x HJ
          go_wp2
          go_roundw
          case rel => exact ⟨j + 1, _, by omega, by go_num, by rw [List.length_append]; simp; omega, O5, EN, B5⟩
          case measure => simp [intOf]; omega
        · obtain rfl : j = m := by omega
          have EN : Hid (rowsL K2 = maxima ((rowsL U).take (k + 1)) (rowsL V)) := by
            show _ = _
            rw [E2.out, HT.out, TV.out]
          clear E2 HT
          go_wp2
          go_roundw
          case rel => exact ⟨k + 1, K2, by omega, by go_num, by omega, O2, EN, BI⟩
          case measure => simp [intOf]; omega
    · obtain rfl : k = n := by omega
      rw [TU.out] at E
      obtain ⟨kA, kc, e5, RK⟩ := O.out.reads
      subst e5
      have CK := CC.out _ kA kc K RK (by omega)
      rw [E.out, ← HX.out] at CK
      have CK := Lib.hid CK
      have BX := Lib.hid (BA.out.trans (BB.out.mono (by rw [HS.out]; exact hga)))
      have hsb := BX.out.size
      rw [← HG.out] at hsb
      clear RK O E CC
      generalize hkl : K.length = kl at *
      go_wp2_with fail
      refine CK.out.mono ?_
      rintro e w7 ⟨A7, c7, L7, rfl, E7, N7, R7, B7⟩
      have BY := Lib.hid (BX.out.trans (B7.mono hsb))
      have R7 := Lib.hid R7
      clear B7
      go_wp2
      go_ret
      exact ⟨A7, c7, L7, rfl, E7, by omega, R7.out, BY.out⟩

set_option maxHeartbeats 8000000 in
set_option maxRecDepth 100000 in
theorem rmeet_any (A B : Option Addr) (L M : List Row) (c cb : Nat) (w : World) (hr : ReadsL w A L) (hl : L.length ≤ 30) (rb : ReadsL w B M) (hm : M.length ≤ 30) :
    Calls Try.prog 22 #[.slice A L.length c, .slice B M.length cb] w (MPost 900 w (meetL (rowsL L) (rowsL M))) := by
  obtain ⟨g, hg⟩ : ∃ g, g = w.heap.size := ⟨_, rfl⟩
  have HG := Lib.hid hg
  clear hg
  have CA : Hid (∀ W, Below g w W → Calls Try.prog 14 #[.slice A L.length c] W (MPost L.length W (makeL (rowsL L)))) := fun W hW => rmake_any A L c W (hr.below hW (by rw [HG.out]; exact Nat.le_refl _)) (by omega)
  have CB : Hid (∀ W, Below g w W → Calls Try.prog 14 #[.slice B M.length cb] W (MPost M.length W (makeL (rowsL M)))) := fun W hW => rmake_any B M cb W (rb.below hW (by rw [HG.out]; exact Nat.le_refl _)) (by omega)
  have CC : Hid (∀ W A2 c2 K, ReadsL W A2 K → K.length ≤ 1000 → Calls Try.prog 14 #[.slice A2 K.length c2] W (MPost K.length W (makeL (rowsL K)))) := fun W A2 c2 K h1 h2 => rmake_any A2 K c2 W h1 h2
  have B0 : Hid (Below g w w) := Below.refl _ _
  clear hr rb
  have HX : Hid (meetL (rowsL L) (rowsL M) = makeL (maxima (makeL (rowsL L)) (makeL (rowsL M)))) := rfl
  unfold MPost
  rw [← HG.out]
  generalize L.length = nl at *
  generalize M.length = nm at *
  go_enter Try.func22, Try.ntmps22
  go_wp2_with fail
  refine (CA.out _ B0.out).mono ?_
  rintro e w1 ⟨UA, uc, U, rfl, EU, NU, RU, B1⟩
  have RU := Lib.hid RU
  have B1 := Lib.hid (B0.out.trans (B1.mono (by rw [HG.out]; exact Nat.le_refl _)))
  go_wp2_with fail
  refine (CB.out _ B1.out).mono ?_
  rintro e w2 ⟨VA, vc, V, rfl, EV, NV, RV, B2⟩
  have RU2 := Lib.hid (RU.out.below B2 (Nat.le_refl _))
  have RV2 := Lib.hid RV
  have hs1 := B1.out.size
  rw [← HG.out] at hs1
  have BA := Lib.hid (B1.out.trans (B2.mono hs1))
  have hga := Nat.le_trans hs1 B2.size
  rw [← EU, ← EV] at HX
  have ST : Hid (∀ k, k < U.length → maxima ((rowsL U).take (k + 1)) (rowsL V) = maxima ((rowsL U).take k) (rowsL V) ++ (rowsL V).map (maxL (rA U k).zs)) := fun k hk => maxima_step hk _
  have SI : Hid (∀ (x : List Int) j, j < V.length → ((rowsL V).take (j + 1)).map (maxL x) = ((rowsL V).take j).map (maxL x) ++ [maxL x (rA V j).zs]) := fun x j hj => map_step hj _
  have TU : Hid ((rowsL U).take U.length = rowsL U) := rowsL_all U
  have TV : Hid ((rowsL V).take V.length = rowsL V) := rowsL_all V
  clear RU RV B1 B2 B0 CA CB EU EV hs1
  obtain ⟨s, hs⟩ : ∃ s, s = w2.heap.size := ⟨_, rfl⟩
  have HS := Lib.hid hs
  clear hs
  generalize hn : U.length = n at *
  have HN := Lib.hid hn
  clear hn
  generalize hm' : V.length = m at *
  have HM := Lib.hid hm'
  clear hm'
  have hn30 : n ≤ 30 := by omega
  have hm30 : m ≤ 30 := by omega
  clear NU NV
  go_wp2_with fail
  go_loopw [7, 8] (fun p q wr => ∃ (k : Nat) (K : List Row), k ≤ n ∧ q = .int .i64 k ∧ K.length ≤ 30 * k ∧ Hid (OwnL wr s p K) ∧ Hid (rowsL K = maxima ((rowsL U).take k) (rowsL V)) ∧ Hid (Below s w2 wr)) (fun _ q _ => n - (intOf q).toNat)
  case atStart => exact ⟨0, [], by omega, rfl, Nat.le_refl _, OwnL.nil _ _, rfl, Below.refl _ _⟩
  case round =>
    obtain ⟨k, K, hk, rfl, hK, O, E, BB⟩ := hrel
    obtain ⟨wo, rfl⟩ : ∃ wo, wo = wr := ⟨_, rfl⟩
    by_cases hlt : k < n
    · have hkl : k < U.length := by rw [HN.out]; exact hlt
      have RW := RU2.out.below BB.out (by rw [HS.out]; exact Nat.le_refl _)
      obtain ⟨ba, oa, e1, hx⟩ := RW.1.at k hkl
      subst e1
      have MEMX := Lib.hid (rA_mem hkl)
      have HT := ST.out k hlt
      rw [← E.out] at HT
      have SJ := Lib.hid (SI.out (rA U k).zs)
      have HXW : Hid (∀ W, Below s w2 W → W.cell? ⟨ba, oa + k, none⟩ = some (.slice (rA U k).A (rA U k).zs.length (rA U k).cap)) := fun W hW => by
        obtain ⟨b2, o2, e2, h2⟩ := (RU2.out.1.below hW (by rw [HS.out]; exact Nat.le_refl _)).at k hkl
        injection e2 with e2
        injection e2 with e3 e4
        subst e3 e4
        exact h2
      clear RW hkl E
      generalize rA U k = r at *
      obtain ⟨xA, xs, xc⟩ := r
      dsimp only at *
      replace HT := Lib.hid HT
      go_wp2_with fail
      go_loopw [7, 9] (fun p q wi => ∃ (j : Nat) (K2 : List Row), j ≤ m ∧ q = .int .i64 j ∧ K2.length ≤ 30 * k + j ∧ Hid (OwnL wi s p K2) ∧ Hid (rowsL K2 = rowsL K ++ ((rowsL V).take j).map (maxL xs)) ∧ Hid (Below s w2 wi)) (fun _ q _ => m - (intOf q).toNat)
      case atStart => exact ⟨0, K, by omega, rfl, by omega, O.out, (by show _ = _; simp), BB.out⟩
      case round =>
        obtain ⟨j, K2, hj, rfl, hK2, O2, E2, BI⟩ := hrel
        have hsi := BI.out.size
        rw [← HS.out] at hsi
        by_cases hjl : j < m
        · have hjl2 : j < V.length := by rw [HM.out]; exact hjl
          have RW := RV2.out.below BI.out (by rw [HS.out]; exact Nat.le_refl _)
          obtain ⟨bb, ob, e2, hy⟩ := RW.1.at j hjl2
          subst e2
          have OKy := RW.2 _ (rA_mem hjl2)
          have OKx2 : OkR wr ⟨xA, xs, xc⟩ := ((RU2.out.2 ⟨xA, xs, xc⟩ MEMX.out).below BI.out (by rw [HS.out]; exact Nat.le_refl _))
          have HJ := SJ.out j hjl
          have CX : Hid (∀ W, Below wr.heap.size wr W → Calls Try.prog 46 #[.slice xA xs.length xc, .slice (rA V j).A (rA V j).zs.length (rA V j).cap] W (IsPost W.heap.size W (maxL xs (rA V j).zs))) := fun W hW => rmax_law xA (rA V j).A xs (rA V j).zs xc (rA V j).cap W (OKx2.1.below hW (Nat.le_refl _)) (OKy.1.below hW (Nat.le_refl _)) (by have h9 : xs.length ≤ 1000 := OKx2.2; omega)
          have hz1000 : (maxL xs (rA V j).zs).length ≤ 1000 := by rw [maxL_len]; have h9 : xs.length ≤ 1000 := OKx2.2; split <;> omega
          have HYW0 : Hid (∀ W, Below s w2 W → W.cell? ⟨bb, ob + j, none⟩ = some (.slice (rA V j).A (rA V j).zs.length (rA V j).cap)) := fun W hW => by
            obtain ⟨b2, o2, e2, h2⟩ := (RV2.out.1.below hW (by rw [HS.out]; exact Nat.le_refl _)).at j hjl2
            injection e2 with e2
            injection e2 with e3 e4
            subst e3 e4
            exact h2
          clear RW OKy hjl2 OKx2
          generalize rA V j = t at *
          obtain ⟨yA, ys, yc⟩ := t
          dsimp only at *
          replace HJ := Lib.hid HJ
          have HYW : Hid (∀ W, Below s w2 W → W.cell? ⟨bb, ob + j, none⟩ = some (.slice yA ys.length yc)) := HYW0
          have hx2 : wr.cell? ⟨ba, oa + k, none⟩ = some (.slice xA xs.length xc) := HXW.out wr BI.out
          go_upto_region 9 with fail
          refine wp_region_held_drew (S := fun w' => w'.cell? ⟨ba, oa + k, none⟩ = some (.slice xA xs.length xc) ∧ w'.cell? ⟨bb, ob + j, none⟩ = some (.slice yA ys.length yc) ∧ Hid (Below s w2 w')) (by kernel_rfl) ?_ (fun hHeld => ?_)
          · exact ⟨hx2, hy, BI.out.drew⟩
          refine wpAnyH_take (oi := ⟨_, _, _, _, _, _⟩) (i := 0) (v := ?_) rfl (by kernel_rfl) (by kernel_rfl) (by kernel_rfl) (fun _ _ _ h => h) (Or.inl ⟨by rfl, ?ya0⟩) (by assumption) ?ra0
          case ya0 => (intro w hSw; (try dsimp only at hSw); go_simp; (try with_reducible rfl))
          try simp only [Act.put, List.setIfInBounds_toArray, List.set_cons_zero, List.set_cons_succ]
          refine wpAnyH_take (oi := ⟨_, _, _, _, _, _⟩) (i := 1) (v := ?_) rfl (by kernel_rfl) (by kernel_rfl) (by kernel_rfl) (fun _ _ _ h => h) (Or.inl ⟨by rfl, ?ya1⟩) (by assumption) ?ra1
          case ya1 => (intro w hSw; (try dsimp only at hSw); go_simp; (try with_reducible rfl))
          try simp only [Act.put, List.setIfInBounds_toArray, List.set_cons_zero, List.set_cons_succ]
          refine wpAnyH_take (oi := ⟨_, _, _, _, _, _⟩) (i := 2) (v := ?_) rfl (by kernel_rfl) (by kernel_rfl) (by kernel_rfl) (fun _ _ _ h => h) (Or.inl ⟨by rfl, ?ya2⟩) (by assumption) ?ra2
          case ya2 => (intro w hSw; (try dsimp only at hSw); go_simp; (try with_reducible rfl))
          try simp only [Act.put, List.setIfInBounds_toArray, List.set_cons_zero, List.set_cons_succ]
          refine wpAnyH_take (oi := ⟨_, _, _, _, _, _⟩) (i := 3) (v := ?_) rfl (by kernel_rfl) (by kernel_rfl) (by kernel_rfl) (fun _ _ _ h => h) (Or.inl ⟨by rfl, ?ya3⟩) (by assumption) ?ra3
          case ya3 => (intro w hSw; (try dsimp only at hSw); go_simp; (try with_reducible rfl))
          try simp only [Act.put, List.setIfInBounds_toArray, List.set_cons_zero, List.set_cons_succ]
          refine wpAnyH_take (oi := ⟨_, _, _, _, _, _⟩) (i := 4) (v := ?_) rfl (by kernel_rfl) (by kernel_rfl) (by kernel_rfl) (fun _ _ _ h => h) (Or.inl ⟨by rfl, ?ya4⟩) (by assumption) ?ra4
          case ya4 => (intro w hSw; (try dsimp only at hSw); go_simp; (try with_reducible rfl))
          try simp only [Act.put, List.setIfInBounds_toArray, List.set_cons_zero, List.set_cons_succ]
          refine wpAnyH_take (oi := ⟨_, _, _, _, _, _⟩) (i := 5) (v := ?_) rfl (by kernel_rfl) (by kernel_rfl) (by kernel_rfl) (fun _ _ _ h => h) (Or.inl ⟨by rfl, ?ya5⟩) (by assumption) ?ra5
          case ya5 => (intro w hSw; (try dsimp only at hSw); go_simp; (try with_reducible rfl))
          try simp only [Act.put, List.setIfInBounds_toArray, List.set_cons_zero, List.set_cons_succ]
          refine wpAnyH_take (oi := ⟨_, _, _, _, _, _⟩) (i := 6) (v := ?_) rfl (by kernel_rfl) (by kernel_rfl) (by kernel_rfl) (fun _ _ _ h => h) (Or.inl ⟨by rfl, ?ya6⟩) (by assumption) ?ra6
          case ya6 => (intro w hSw; (try dsimp only at hSw); go_simp; (try with_reducible rfl))
          try simp only [Act.put, List.setIfInBounds_toArray, List.set_cons_zero, List.set_cons_succ]
          refine wpAnyH_take (oi := ⟨_, _, _, _, _, _⟩) (i := 7) (v := ?_) rfl (by kernel_rfl) (by kernel_rfl) (by kernel_rfl) (fun _ _ _ h => h) (Or.inl ⟨by rfl, ?ya7⟩) (by assumption) ?ra7
          case ya7 => (intro w hSw; (try dsimp only at hSw); go_simp; (try with_reducible rfl))
          try simp only [Act.put, List.setIfInBounds_toArray, List.set_cons_zero, List.set_cons_succ]
          refine wpAnyH_take (oi := ⟨_, _, _, _, _, _⟩) (i := 8) (v := ?_) rfl (by kernel_rfl) (by kernel_rfl) (by kernel_rfl) (fun _ _ _ h => h) (Or.inl ⟨by rfl, ?ya8⟩) (by assumption) ?ra8
          case ya8 => (intro w hSw; (try dsimp only at hSw); go_simp; (try with_reducible rfl))
          try simp only [Act.put, List.setIfInBounds_toArray, List.set_cons_zero, List.set_cons_succ]
          refine wpAnyH_ready (rs := [9]) (by kernel_rfl) (by simp) ?_
          refine AllReadyH.cons (o := ⟨_, _, _, _, _, _⟩) rfl (fun K hK => ?_) AllReadyH.nil
          go_simp
          go_at_call 46; refine (CX.out _ ((Below.refl _ _).drew)).mono ?_; rintro e w4 ⟨A4, c4, rfl, F4, L4⟩; (try go_wp2_with fail)
          refine hK.out _ _ ?_ (fun hHeld2 => ?_)
          · obtain ⟨h1, h2, h4⟩ := hHeld; exact ⟨keepc h1 L4, keepc h2 L4, h4.out.trans (L4.mono (by rw [HS.out]; exact h4.out.size))⟩
          clear hK K hHeld
          have hHeld := hHeld2
          clear hHeld2
          try simp only [Act.put, List.setIfInBounds_toArray, List.set_cons_zero, List.set_cons_succ]
          have O4 := Lib.hid (((O2.out.below ((Below.refl wr.heap.size wr).drew) (Nat.le_refl _)).below L4 (Nat.le_refl _)).alloc (.cells #[.slice A4 (maxL xs ys).length c4] 28))
          have F5 := Lib.hid ((FarR.fresh (s := s) (c := c4) F4 hz1000).alloc (.cells #[.slice A4 (maxL xs ys).length c4] 28))
          have hs4 : s ≤ w4.heap.size := by rw [HS.out]; exact hHeld.2.2.out.size
          refine wpAnyH_ready (rs := [10]) (by kernel_rfl) (by simp) ?_
          refine AllReadyH.cons (o := ⟨_, _, _, _, _, _⟩) rfl (fun K hK => ?_) AllReadyH.nil
          rw [if_pos (by rfl)]
          have LA : Below w4.heap.size w4 (w4.alloc (.cells #[.slice A4 (maxL xs ys).length c4] 28)) := (Below.refl _ _).alloc (Nat.le_refl _) _
          go_simp
          refine hK.out _ _ ?_ (fun hHeld2 => ?_)
          · obtain ⟨h1, h2, h4⟩ := hHeld; exact ⟨keepc h1 LA, keepc h2 LA, h4.out.trans (LA.mono (by rw [HS.out]; exact h4.out.size))⟩
          clear hK K hHeld
          have hHeld := hHeld2
          clear hHeld2
          try simp only [Act.put, List.setIfInBounds_toArray, List.set_cons_zero, List.set_cons_succ]
          refine wpAnyH_ready (rs := [11]) (by kernel_rfl) (by simp) ?_
          refine AllReadyH.cons (o := ⟨_, _, _, _, _, _⟩) rfl (fun K hK => ?_) AllReadyH.nil
          rw [if_pos (by rfl)]
          refine oper_row (.tmp 26) (.tmp 36) rfl s _ K2 ⟨A4, maxL xs ys, c4⟩ rfl O4.out w4.heap.size rfl (cell_new1 _ _ _) F5.out (by omega) (size_le_alloc hs4 _) ?_
          intro v' w6 hown' hb'
          have BG : Below s w2 w6 := hHeld.2.2.out.trans hb'
          refine hK.out _ _ ?_ (fun hHeld2 => ?_)
          · exact ⟨HXW.out w6 BG, HYW.out w6 BG, BG⟩
          clear hK K hHeld
          have B5x := hHeld2.2.2.out
          have hHeld := hHeld2
          clear hHeld2
          try simp only [Act.put, List.setIfInBounds_toArray, List.set_cons_zero, List.set_cons_succ]
          refine wpAnyH_take (oi := ⟨_, _, _, _, _, _⟩) (i := 12) (v := ?_) rfl (by kernel_rfl) (by kernel_rfl) (by kernel_rfl) (fun _ _ _ h => h) (Or.inl ⟨by rfl, ?yb12⟩) (by assumption) ?rb12
          case yb12 => (intro w hSw; (try dsimp only at hSw); go_simp; (try with_reducible rfl))
          try simp only [Act.put, List.setIfInBounds_toArray, List.set_cons_zero, List.set_cons_succ]
          refine wpAnyH_done (by kernel_rfl) ?_ _
          have O5 := Lib.hid hown'
          have EN : Hid (rowsL (K2 ++ [⟨A4, maxL xs ys, c4⟩]) = rowsL K ++ ((rowsL V).take (j + 1)).map (maxL xs)) := by
            show _ = _
            rw [rowsL_snoc, E2.out, HJ.out, List.append_assoc]
          have B5 := Lib.hid B5x
          clear hown' B5x HJ
          go_wp2
          go_roundw
          case rel => exact ⟨j + 1, _, by omega, by go_num, by rw [List.length_append]; simp; omega, O5, EN, B5⟩
          case measure => simp [intOf]; omega
        · obtain rfl : j = m := by omega
          have EN : Hid (rowsL K2 = maxima ((rowsL U).take (k + 1)) (rowsL V)) := by
            show _ = _
            rw [E2.out, HT.out, TV.out]
          clear E2 HT
          go_wp2
          go_roundw
          case rel => exact ⟨k + 1, K2, by omega, by go_num, by omega, O2, EN, BI⟩
          case measure => simp [intOf]; omega
    · obtain rfl : k = n := by omega
      rw [TU.out] at E
      obtain ⟨kA, kc, e5, RK⟩ := O.out.reads
      subst e5
      have CK := CC.out _ kA kc K RK (by omega)
      rw [E.out, ← HX.out] at CK
      have CK := Lib.hid CK
      have BX := Lib.hid (BA.out.trans (BB.out.mono (by rw [HS.out]; exact hga)))
      have hsb := BX.out.size
      rw [← HG.out] at hsb
      clear RK O E CC
      generalize hkl : K.length = kl at *
      go_wp2_with fail
      refine CK.out.mono ?_
      rintro e w7 ⟨A7, c7, L7, rfl, E7, N7, R7, B7⟩
      have BY := Lib.hid (BX.out.trans (B7.mono hsb))
      have R7 := Lib.hid R7
      clear B7
      go_wp2
      go_ret
      exact ⟨A7, c7, L7, rfl, E7, by omega, R7.out, BY.out⟩
end Go.Proofs.Ytlppoablhipinaa
