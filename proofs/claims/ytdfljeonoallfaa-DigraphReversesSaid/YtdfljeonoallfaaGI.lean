/- Graphs: distances. -/
import Derived.Test.YtdfljeonoallfaaGX
namespace Go.Proofs.Ytdfljeonoallfaa
open Go.RowKit Go.Deep

/-- the memory of the search for distances: block d holds them -/
structure DisM (w1 : World) (n : Nat) (q : List Nat) (D : Nat → Int) (mv : Value) (wr : World) : Prop where
  dr : wr.rowIs w1.heap.size 3 n (fun j => .int .i64 (D j))
  mo : wr.ownsRow (w1.heap.size + 1) 3 1 mv (zN q).length (vI (zN q))
  bw : Below w1.heap.size w1 wr
theorem DisM.congr {w1 wr : World} {n : Nat} {q : List Nat} {D D' : Nat → Int} {mv : Value} (h : DisM w1 n q D mv wr) (e : ∀ v, v < n → D v = D' v) : DisM w1 n q D' mv wr :=
  ⟨h.dr.congr fun j hj => by rw [e j hj], h.mo, h.bw⟩
theorem DisM.put {w1 wr : World} {n : Nat} {q : List Nat} {D : Nat → Int} {mv : Value} (h : DisM w1 n q D mv wr) (v : Nat) (x : Int) : DisM w1 n q (fun y => if y = v then x else D y) mv (wr.setCell ⟨w1.heap.size, v, none⟩ (.int .i64 x)) :=
  ⟨(h.dr.set v (.int .i64 x)).congr fun j _ => by by_cases c : j = v <;> simp [c], own_other h.mo (by omega), h.bw.setCell (Nat.le_refl _) _⟩
theorem DisM.push {w1 wr w' : World} {n : Nat} {q : List Nat} {D : Nat → Int} {mv mv' : Value} (h : DisM w1 n q D mv wr) {v : Nat} {ob : Obj} (ho : w'.ownsRow (w1.heap.size + 1) 3 1 mv' ((zN q).length + 1) (vI (zN q) ++ [.int .i64 (v : Nat)])) (hgr : (wr.alloc ob).grownBy w' mv.ownBlock) : DisM w1 n (q ++ [v]) D mv' w' := by
  have hge : ∀ k, mv.ownBlock = some k → w1.heap.size + 1 ≤ k := fun k hk => (h.mo.lt k hk).1
  have hlt := World.rowIs.lt h.dr
  refine ⟨h.dr.of_block ?_, ?_, (h.bw.alloc (by omega) ob).grown hgr (by rw [World.size_alloc]; omega) fun k hk => by have := hge k hk; omega⟩
  · have h1 := hgr.block w1.heap.size (by rw [World.size_alloc]; omega) fun c => by have := hge _ c.symm; omega
    rw [h1]
    exact blk_alloc_lt _ _ _ hlt
  · rw [zN_snoc, vI_snoc, List.length_append, List.length_singleton]
    exact ho
set_option maxHeartbeats 8000000 in
set_option maxRecDepth 100000 in
theorem distances_any (gA : Option Addr) (n gc : Nat) (RA : Nat → Option Addr) (RL : Nat → List Int) (RK : Nat → Nat) (t : Nat) (w : World) (GR : GraphR w gA n RA RL RK) (ht : t < n) :
    Calls Try.prog 41 #[.slice gA n gc, .int .i64 (t : Nat)] w fun e w' => ∃ d, e = .returned (.slice (some ⟨d, 0, none⟩) n n) ∧ w'.rowIs d 3 n (fun j => .int .i64 (dstV RL n t n j)) ∧ w.heap.size ≤ d ∧ Below w.heap.size w w' := by
  have hn := GR.hn
  have hmki := run_make_ints n (by omega)
  have CR := Lib.hid (reverse_any gA n gc RA RL RK w GR)
  clear GR
  go_enter Try.func41, Try.ntmps41
  go_wp2_with fail
  refine CR.out.mono ?_
  rintro e w1 ⟨vs, rfl, GT, K1⟩
  have SR : Hid (∀ e, e < n → ∃ A c, ∀ W', Below w1.heap.size w1 W' → W'.cell? ⟨w.heap.size, e, none⟩ = some (.slice A (revV RL n e).length c) ∧ ReadsV W' A (revV RL n e)) := fun e he => by
    obtain ⟨A, c, e1, _⟩ := ReadsV.own (GT.2.2.2.1 e he)
    exact ⟨A, c, fun W' k => (GT.below k).rowOf he e1⟩
  have K1 := Lib.hid K1
  have R0 : Hid ((w1.alloc (.cells (madeCells #[.int .i64 0] n) 3)).rowIs w1.heap.size 3 n (fun j => .int .i64 (if j < 0 then -1 else 0))) := (World.rowIs_made w1 _ n _).congr fun j _ => by rw [if_neg (by omega)]
  have S0 : Hid (Below w1.heap.size w1 (w1.alloc (.cells (madeCells #[.int .i64 0] n) 3))) := (Below.refl _ _).alloc (Nat.le_refl _) _
  clear CR GT
  go_wp2_with fail
  go_loopw [20] (fun q wr => ∃ k : Nat, k ≤ n ∧ q = .int .i64 (k : Nat) ∧ Hid (wr.rowIs w1.heap.size 3 n (fun j => .int .i64 (if j < k then -1 else 0))) ∧ Hid (Below w1.heap.size w1 wr)) (fun q _ => n - (intOf q).toNat)
  case atStart => exact ⟨0, by omega, rfl, R0, S0⟩
  case round =>
    clear R0 S0
    obtain ⟨wo, rfl⟩ : ∃ wo, wo = wr := ⟨_, rfl⟩
    obtain ⟨k, hk, rfl, RB, BB⟩ := hrel
    by_cases hlt : k < n
    · have c0 := RB.out.cell hlt
      have hfz := RB.out.frozen k
      have R2 : Hid ((wo.setCell ⟨w1.heap.size, k, none⟩ (.int .i64 (-1))).rowIs w1.heap.size 3 n (fun j => .int .i64 (if j < k + 1 then -1 else 0))) := (RB.out.set k (.int .i64 (-1))).congr fun j _ => by
        by_cases c : j = k
        · rw [if_pos c, if_pos (by omega)]
        · rw [if_neg c]
          by_cases c2 : j < k
          · rw [if_pos c2, if_pos (by omega)]
          · rw [if_neg c2, if_neg (by omega)]
      have B2 : Hid (Below w1.heap.size w1 (wo.setCell ⟨w1.heap.size, k, none⟩ (.int .i64 (-1)))) := BB.out.setCell (Nat.le_refl _) _
      clear RB BB
      go_wp2
      go_roundw
      case rel => exact ⟨k + 1, by omega, by go_num, R2, B2⟩
      case measure => simp [intOf]; omega
    · obtain rfl : k = n := by omega
      have c0 := RB.out.cell ht
      have hfz := RB.out.frozen t
      have hzo := RB.out.lt
      have M0 : Hid (DisM w1 k [t] (fun v => if v = t then 0 else -1) (.slice (some ⟨wo.heap.size, 0, none⟩) 1 1) ((wo.setCell ⟨w1.heap.size, t, none⟩ (.int .i64 0)).alloc (.cells #[.int .i64 (t : Nat)] 3))) := by
        have hs : (wo.setCell ⟨w1.heap.size, t, none⟩ (.int .i64 0)).heap.size = wo.heap.size := nblk_setCell _ _ _
        refine ⟨((RB.out.set t (.int .i64 0)).alloc _).congr fun j hj => ?_, ?_, (BB.out.setCell (Nat.le_refl _) _).alloc (by rw [hs]; exact BB.out.size) _⟩
        · by_cases c : j = t
          · rw [if_pos c, if_pos c]
          · rw [if_neg c, if_neg c, if_pos hj]
        · have h := World.ownsRow_lit (wo.setCell ⟨w1.heap.size, t, none⟩ (.int .i64 0)) (e := 3) (size := 1) (base := w1.heap.size + 1) #[.int .i64 (t : Nat)] 1 (by rw [hs]; omega) (by unfold maxLen; omega) rfl
          rw [hs] at h
          exact h
      have I0 := Lib.hid (bfs_start (R := RL) ht)
      clear RB BB
      go_wp2_with fail
      go_loopw [9, 8] (fun ii mv wr => ∃ (i : Nat) (q : List Nat) (D : Nat → Int), ii = .int .i64 (i : Nat) ∧ Hid (DisM w1 k q D mv wr) ∧ Hid (BfsI RL k t i 0 q D)) (fun ii _ _ => k - (intOf ii).toNat)
      case atStart => exact ⟨0, [t], _, rfl, M0, I0⟩
      case round =>
        clear M0 I0 c0 hfz
        obtain ⟨wp, rfl⟩ : ∃ wp, wp = wr := ⟨_, rfl⟩
        obtain ⟨i, q, D, rfl, M, I⟩ := hrel
        have hql : q.length ≤ k := nodup_le I.out.nd I.out.lt
        obtain ⟨mA, mc, hmv, hmr⟩ := ReadsV.own M.out.mo
        rw [zN_len] at hmv
        subst hmv
        have hmr := Lib.hid hmr
        by_cases hlt : i < q.length
        · obtain ⟨b, off, rfl, _, c0⟩ := hmr.out i (by rw [zN_len]; exact hlt)
          rw [zN_at hlt] at c0
          obtain ⟨c, hc⟩ : ∃ c, q[i] = c := ⟨_, rfl⟩
          have hcn : c < k := by rw [← hc]; exact I.out.lt _ (List.getElem_mem hlt)
          rw [hc] at c0
          obtain ⟨rA, rc, hrow⟩ := SR.out c hcn
          have HROW := Lib.hid hrow
          obtain ⟨c1, -⟩ := hrow _ M.out.bw
          have HCI : Hid (∃ h : i < q.length, q[i] = c) := ⟨hlt, hc⟩
          have hrl : (revV RL k c).length ≤ k := pickI_len _ _
          clear hc hrow
          go_wp2_with fail
          go_loopw [47, 8] (fun kk mv wr => ∃ (r : Nat) (q : List Nat) (D : Nat → Int), kk = .int .i64 (r : Nat) ∧ r ≤ (revV RL k c).length ∧ Hid (DisM w1 k q D mv wr) ∧ Hid (BfsI RL k t i r q D) ∧ Hid (∃ h : i < q.length, q[i] = c)) (fun kk _ _ => (revV RL k c).length - (intOf kk).toNat)
          case atStart => exact ⟨0, q, D, rfl, by omega, M, I, HCI⟩
          case round =>
            clear M I HCI c0 c1 hmr
            obtain ⟨wq, rfl⟩ : ∃ wq, wq = wr := ⟨_, rfl⟩
            obtain ⟨r, q, D, rfl, hr, M, I, HCI⟩ := hrel
            by_cases hrk : r < (revV RL k c).length
            · have HRK := Lib.hid hrk
              obtain ⟨-, RD⟩ := HROW.out _ M.out.bw
              obtain ⟨b2, off2, e2, _, c4⟩ := RD r hrk
              rw [e2]
              obtain ⟨e, he, hen, het⟩ := pick_at (f := fun u => (RL u).contains (c : Int)) (n := k) hrk
              have he : at0 (revV RL k c) r = (e : Int) := he
              rw [he] at c4
              obtain ⟨hiq, hqc⟩ := HCI.out
              have AT : Hid (at0 (revV RL k q[i]) r = (e : Int)) := by show _ = _; rw [hqc]; exact he
              have HR2 : Hid (r < (revV RL k q[i]).length) := by show _ < _; rw [hqc]; exact hrk
              have ET : Hid (tabB RL e q[i] = true) := by show _ = _; rw [hqc]; exact het
              have c5 := M.out.dr.cell hen
              have c6 := M.out.dr.cell hcn
              have hfz := M.out.dr.frozen e
              have hql2 : q.length ≤ k := nodup_le I.out.nd I.out.lt
              have hDc : Hid (D q[i] = D c) := by show _ = _; rw [hqc]
              obtain ⟨mi, hmi, hmi2, -⟩ := I.out.lay i hiq
              rw [hDc.out] at hmi
              have hwm : IntKind.i64.wrap (D c + 1) = D c + 1 := by rw [IntKind.wrap_i64]; omega
              clear RD e2 he het hmi hmi2
              by_cases hd : D e < 0
              · have I2 : Hid (BfsI RL k t i (r + 1) (q ++ [e]) (fun v => if v = e then D c + 1 else D v)) := by
                  have h := bfs_new I.out hiq hen HR2.out AT.out hd ET.out
                  rw [hDc.out] at h
                  exact h
                have HCI2 : Hid (∃ h : i < (q ++ [e]).length, (q ++ [e])[i] = c) := ⟨by simp; omega, by rw [List.getElem_append_left hiq]; exact hqc⟩
                have MP := M.out.put e (D c + 1)
                obtain ⟨wz, hwz⟩ : ∃ wz, wz = wq.setCell ⟨w1.heap.size, e, none⟩ (.int .i64 (D c + 1)) := ⟨_, rfl⟩
                rw [← hwz] at MP
                have hzs : wz.heap.size = wq.heap.size := by rw [hwz, nblk_setCell]
                have g0 : (wz.alloc (.cells #[.int .i64 (e : Nat)] 3)).cell? ⟨wq.heap.size, 0, none⟩ = some (.int .i64 (e : Nat)) := by rw [← hzs]; exact cell_new1 _ _ _
                have HO := Lib.hid (MP.mo.alloc (.cells #[.int .i64 (e : Nat)] 3))
                have hlq : (zN q).length ≤ 100000 := by rw [zN_len]; omega
                have hbs : w1.heap.size + 1 ≤ (wz.alloc (.cells #[.int .i64 (e : Nat)] 3)).heap.size := by rw [World.size_alloc]; have := World.rowIs.lt MP.dr; omega
                have PUSH : Hid (∀ mv' w', w'.ownsRow (w1.heap.size + 1) 3 1 mv' ((zN q).length + 1) (vI (zN q) ++ [.int .i64 (e : Nat)]) → (wz.alloc (.cells #[.int .i64 (e : Nat)] 3)).grownBy w' u8.ownBlock → DisM w1 k (q ++ [e]) (fun v => if v = e then D c + 1 else D v) mv' w') := fun mv' w' h1 h2 => MP.push h1 h2
                have HWZ := Lib.hid hwz
                clear hwz hzs MP M I HCI AT HR2 ET hDc
                go_wp2_with (at_builtin; rw [← HWZ.out]; go_loud (refine wpList_intg rfl (.tmp 64) (.tmp 66) rfl (w1.heap.size + 1) u8 (zN q) (e : Int) rfl HO.out wq.heap.size rfl g0 hlq hbs ?_); intro mv' w6 ho6 hg6 hb6; have E9 := Lib.hid (PUSH.out _ w6 ho6 hg6); clear ho6 hg6 hb6 PUSH)
                go_roundw
                case rel => exact ⟨r + 1, _, _, by go_num, by have := HRK.out; omega, E9, I2, HCI2⟩
                case measure => have := HRK.out; simp [intOf] <;> omega
              · have I2 : Hid (BfsI RL k t i (r + 1) q D) := bfs_old I.out hiq hen HR2.out AT.out (by omega)
                clear I AT HR2 ET hDc
                go_wp2
                go_roundw
                case rel => exact ⟨r + 1, q, D, by go_num, by have := HRK.out; omega, M, I2, HCI⟩
                case measure => have := HRK.out; simp [intOf] <;> omega
            · obtain rfl : r = (revV RL k c).length := by omega
              obtain ⟨hiq, hqc⟩ := HCI.out
              have I2 : Hid (BfsI RL k t (i + 1) 0 q D) := bfs_next hiq (by rw [hqc]; exact I.out)
              have hql2 : q.length ≤ k := nodup_le I.out.nd I.out.lt
              have hil : i < k := by omega
              have HIL := Lib.hid hil
              clear I HCI hqc
              go_wp2
              go_roundw
              case rel => exact ⟨i + 1, q, D, by go_num, M, I2⟩
              case measure => have := HIL.out; simp [intOf] <;> omega
        · have ei : i = q.length := by have := I.out.len; omega
          have I2 : BfsI RL k t q.length 0 q D := by rw [← ei]; exact I.out
          have FIN : Hid (wp.rowIs w1.heap.size 3 k (fun j => .int .i64 (dstV RL k t k j))) := M.out.dr.congr fun j hj => by rw [bfs_end I2 hj]
          have BF : Hid (Below w.heap.size w wp) := K1.out.trans (M.out.bw.mono K1.out.size)
          have hsz := K1.out.size
          clear M I I2
          go_wp2
          go_ret
          exact ⟨_, rfl, FIN.out, hsz, BF.out⟩
end Go.Proofs.Ytdfljeonoallfaa
