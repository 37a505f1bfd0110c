/- Graphs: the order in which the search leaves the vertices. -/
import Derived.Test.YtdfljeonoallfaaGF
namespace Go.Proofs.Ytdfljeonoallfaa
open Go.RowKit Go.Deep

theorem run_make_ints (n : Nat) (hn : n ≤ 100000) (w : World) : (Instr.makeSlice 27 (.int .i64 (n : Int)) (.int .i64 (n : Int))).run Try.prog w = .ok (.slice (some ⟨w.heap.size, 0, none⟩) n n) (w.alloc (.cells (madeCells #[.int .i64 0] n) 3)) :=
  run_make_row' 27 3 (.int .i64 0) 8 Try.underlying27 infoI rfl .i64 .i64 n (by omega) (by omega) w
theorem own_cut {W : World} {B g m c : Nat} {l : List Int} {x : Int} (h : W.ownsRow B 3 1 (.slice (some ⟨g, 0, none⟩) (m + 1) c) (m + 1) (vI (l ++ [x]))) (hl : l.length = m) : W.ownsRow B 3 1 (.slice (some ⟨g, 0, none⟩) m c) m (vI l) := by
  rcases h.2 with ⟨h', _⟩ | ⟨g', cap, cur, h1, h2, h3, h4, h5, h6, h7⟩
  · cases h'
  · injection h1 with a1 a2 a3
    injection a1 with a1
    injection a1 with a1
    subst a1 a3
    refine ⟨by rw [vI_len]; omega, .inr ⟨g, c, cur, rfl, h2, h3, by omega, h5, h6, ?_⟩⟩
    have h8 := congrArg (List.take m) h7
    rw [List.take_take, vI_snoc, List.take_append_of_le_length (by rw [vI_len]; omega), List.take_of_length_le (l := vI l) (by rw [vI_len]; omega)] at h8
    rw [← h8]
    congr 1
    omega
theorem own_cap {W : World} {B g n c : Nat} {xs : List Value} (h : W.ownsRow B 3 1 (.slice (some ⟨g, 0, none⟩) n c) n xs) : n ≤ c := by
  rcases h.2 with ⟨h', _⟩ | ⟨g', cap, cur, h1, h2, h3, h4, _⟩
  · cases h'
  · injection h1 with a1 a2 a3
    omega
/-- the path that is not empty, in memory -/
theorem EnvF.path {w W : World} {n : Nat} {p o : List Nat} {nx : Nat → Nat} {sn : Nat → Bool} {ov : Value} {v : Nat} (E : EnvF w n (p ++ [v]) o nx sn ov W) :
    ∃ b c, W.cell? ⟨w.heap.size, 0, none⟩ = some (.slice (some ⟨b, 0, none⟩) (p.length + 1) c) ∧ W.cell? ⟨b, p.length, none⟩ = some (.int .i64 (v : Nat)) ∧ p.length + 1 ≤ c ∧ W.frozen? ⟨w.heap.size, 0, none⟩ = false ∧
      EnvF w n p o nx sn ov (W.setCell ⟨w.heap.size, 0, none⟩ (.slice (some ⟨b, 0, none⟩) p.length c)) := by
  obtain ⟨pv, h1, h2, h3⟩ := E.pb
  have hl : (zN (p ++ [v])).length = p.length + 1 := by rw [zN_len]; simp
  rw [hl, zN_snoc] at h2
  obtain ⟨b, c, rfl⟩ := own_form h2
  refine ⟨b, c, h1.cell (by omega), ?_, own_cap h2, h1.frozen 0, ?_⟩
  · have h4 := h2.cellAt p.length (by omega)
    rw [h4, vI_snoc, List.getElem?_append_right (by rw [vI_len, zN_len]; omega), vI_len, zN_len]
    simp
  · refine E.box (p' := p) ?_ h3
    rw [zN_len]
    exact own_cut h2 (zN_len p)
theorem EnvF.none {w W : World} {n : Nat} {o : List Nat} {nx : Nat → Nat} {sn : Nat → Bool} {ov : Value} (E : EnvF w n [] o nx sn ov W) : ∃ A c, W.cell? ⟨w.heap.size, 0, none⟩ = some (.slice A 0 c) := by
  obtain ⟨pv, h1, h2, h3⟩ := E.pb
  obtain ⟨A, c, e, _⟩ := ReadsV.own h2
  have h := h1.cell (i := 0) (by omega)
  rw [e] at h
  exact ⟨A, c, h⟩
theorem dfs_bound {R : Nat → List Int} {n : Nat} {p o : List Nat} {nx : Nat → Nat} {sn : Nat → Bool} (I : DfsI R n p o nx sn) : p.length + o.length ≤ n := by
  have h := nodup_le I.nd fun v hv => I.lt v (List.mem_append.1 hv)
  rw [List.length_append] at h
  exact h
theorem upd_true {sn : Nat → Bool} {w : Nat} {k : Nat} (h : ∀ v, v < k → sn v = true) : ∀ v, v < k → (fun x => if x = w then true else sn x) v = true := fun v hv => by
  by_cases c : v = w
  · simp [c]
  · simp [c, h v hv]
set_option maxHeartbeats 16000000 in
set_option maxRecDepth 100000 in
theorem finished_any (gA : Option Addr) (n gc : Nat) (RA : Nat → Option Addr) (RL : Nat → List Int) (RK : Nat → Nat) (w : World) (GR : GraphR w gA n RA RL RK) :
    Calls Try.prog 36 #[.slice gA n gc] w fun e w' => ∃ A c o, e = .returned (.slice A (zN o).length c) ∧ ReadsV w' A (zN o) ∧ (∀ b off, A = some ⟨b, off, none⟩ → w.heap.size ≤ b) ∧ FinO RL n o ∧ Below w.heap.size w w' := by
  have hn := GR.hn
  have RW : Hid (∀ W, Below w.heap.size w W → GraphR W gA n RA RL RK) := fun W hW => GR.below hW
  have hmkb := run_make_bools n (by omega)
  have hmki := run_make_ints n (by omega)
  have CI : Hid (∀ x W, Calls Try.prog 31 #[.slice gA n gc, .int .i64 x] W fun e w' => e = .returned (.bool (inR x n)) ∧ W = w') := fun x W => isv_any gA n gc x W
  have E0 : Hid (EnvF w n [] [] (fun _ => 0) (fun _ => false) (.slice none 0 0) ((((w.alloc (.cells #[.slice none 0 0] 27)).alloc (.cells (madeCells #[.bool false] n) 4)).alloc (.cells #[.slice (some ⟨w.heap.size + 1, 0, none⟩) n n] 29)).alloc (.cells (madeCells #[.int .i64 0] n) 3))) := by
    have s1 : (w.alloc (.cells #[.slice none 0 0] 27)).heap.size = w.heap.size + 1 := World.size_alloc _ _
    have s2 : ((w.alloc (.cells #[.slice none 0 0] 27)).alloc (.cells (madeCells #[.bool false] n) 4)).heap.size = w.heap.size + 2 := by rw [World.size_alloc, s1]
    have s3 : (((w.alloc (.cells #[.slice none 0 0] 27)).alloc (.cells (madeCells #[.bool false] n) 4)).alloc (.cells #[.slice (some ⟨w.heap.size + 1, 0, none⟩) n n] 29)).heap.size = w.heap.size + 3 := by rw [World.size_alloc, s2]
    refine ⟨⟨.slice none 0 0, ?_, World.ownsRow_nil _ _ _ _, Or.inl rfl⟩, ?_, ?_, ?_, World.ownsRow_nil _ _ _ _, ?_, ?_⟩
    · have h : (w.alloc (.cells #[.slice none 0 0] 27)).rowIs w.heap.size 27 1 (fun _ => .slice none 0 0) := World.rowIs_alloc w #[.slice none 0 0] _ _ (fun i hi => by
        have e : i = 0 := by simp at hi; omega
        rw [e]; rfl)
      exact ((h.alloc _).alloc _).alloc _
    · refine cellA ?_ _
      rw [← s2]
      exact cell_new1 _ _ _
    · have h := RowB.made (w.alloc (.cells #[.slice none 0 0] 27)) n
      rw [s1] at h
      exact World.rowIs.alloc (World.rowIs.alloc h _) _
    · have h := World.rowIs_made (((w.alloc (.cells #[.slice none 0 0] 27)).alloc (.cells (madeCells #[.bool false] n) 4)).alloc (.cells #[.slice (some ⟨w.heap.size + 1, 0, none⟩) n n] 29)) (.int .i64 0) n 3
      rw [s3] at h
      exact h
    · rw [World.size_alloc, s3]; exact Nat.le_refl _
    · exact ((((Below.refl _ _).alloc (Nat.le_refl _) _).alloc (by rw [s1]; omega) _).alloc (by rw [s2]; omega) _).alloc (by rw [s3]; omega) _
  have D0 := Lib.hid (dfs_start RL n)
  have T0 : Hid (∀ v, v < 0 → (fun _ : Nat => false) v = true) := fun v hv => absurd hv (by omega)
  clear GR
  go_enter Try.func36, Try.ntmps36
  go_wp2_with fail
  go_loopw [20, 3] (fun q u wr => ∃ (k : Nat) (o : List Nat) (nx : Nat → Nat) (sn : Nat → Bool), k ≤ n ∧ q = .int .i64 k ∧ Hid (EnvF w n [] o nx sn u wr) ∧ Hid (DfsI RL n [] o nx sn) ∧ Hid (∀ v, v < k → sn v = true)) (fun q _ _ => n - (intOf q).toNat)
  case atStart => exact ⟨0, [], _, _, by omega, rfl, E0, D0, T0⟩
  case round =>
    clear E0 D0 T0
    obtain ⟨wo, rfl⟩ : ∃ wo, wo = wr := ⟨_, rfl⟩
    obtain ⟨k, o, nx, sn, hk, rfl, E, D, TT⟩ := hrel
    by_cases hlt : k < n
    · have q0 := E.out.sb
      have q1 := E.out.sr.get hlt
      cases hs : sn k
      · rw [hs] at q1
        have CE := Lib.hid (enter_any k wo E.out hlt (by simp))
        have D1 : Hid (DfsI RL n [k] o nx (fun x => if x = k then true else sn x)) := dfs_enter D.out hlt hs (fun h => absurd rfl h)
        have T1 : Hid (∀ v, v < k + 1 → (fun x => if x = k then true else sn x) v = true) := fun v hv => by
          by_cases c : v = k
          · simp [c]
          · simp [c, TT.out v (by omega)]
        clear E D TT hs
        go_wp2_with fail
        try go_step3
        try go_wp2_with fail
        refine CE.out.mono ?_
        rintro e w1 ⟨⟨z, rfl⟩, E1⟩
        have E1 := Lib.hid E1
        clear CE q0 q1
        go_wp2_with fail
        try go_step3
        try go_wp2_with fail
        go_loopg [3] (2 * n - 1 - 2 * o.length) (fun gg u wr => ∃ (p o : List Nat) (nx : Nat → Nat) (sn : Nat → Bool), gg = 2 * n - p.length - 2 * o.length ∧ Hid (EnvF w n p o nx sn u wr) ∧ Hid (DfsI RL n p o nx sn) ∧ Hid (∀ v, v < k + 1 → sn v = true))
        case atStart => exact ⟨[k], o, nx, _, by simp, E1, D1, T1⟩
        case round =>
          clear E1 D1 T1
          obtain ⟨wp, rfl⟩ : ∃ wp, wp = wr := ⟨_, rfl⟩
          obtain ⟨p, o, nx, sn, hgg, E, D, TT⟩ := hrel
          have hbd := dfs_bound D.out
          rcases List.eq_nil_or_concat p with rfl | ⟨p, v, rfl⟩
          · obtain ⟨A, c, q0⟩ := E.out.none
            clear hgg hbd
            go_wp2
            rw [Exit.noGoto_normal]
            go_wp2
            go_roundw
            case rel => exact ⟨k + 1, o, nx, sn, by omega, by go_num, E, D, TT⟩
            case measure => simp [intOf]; omega
          · rw [List.concat_eq_append] at *
            obtain ⟨b, c, q0, q1, hc, q2, EP⟩ := E.out.path
            have EP := Lib.hid EP
            have hvn : v < n := D.out.lt v (Or.inl (by simp))
            rw [List.length_append, List.length_singleton] at hgg hbd
            obtain ⟨mp, hmp⟩ : ∃ mp, mp = p.length := ⟨_, rfl⟩
            obtain ⟨lp, hlp⟩ : ∃ lp, lp = p.length + 1 := ⟨_, rfl⟩
            rw [← hlp] at q0 hc hgg hbd
            rw [← hmp] at q1
            have hw1 : IntKind.i64.wrap ((lp : Int) - 1) = (mp : Int) := by rw [IntKind.wrap_i64]; omega
            have hml : mp < lp := by omega
            have hl0 : 0 < lp := by omega
            have HG := Lib.hid hgg
            have HB := Lib.hid hbd
            have HC := Lib.hid hc
            have HMP := Lib.hid hmp
            have HLP := Lib.hid hlp
            clear hgg hbd hc hmp hlp
            go_wp2_with fail
            go_loopg [10] ((RL v).length - nx v) (fun gi q wr => ∃ nx : Nat → Nat, gi = (RL v).length - nx v ∧ q = q ∧ Hid (EnvF w n (p ++ [v]) o nx sn u3 wr) ∧ Hid (DfsI RL n (p ++ [v]) o nx sn))
            case atStart => exact ⟨nx, rfl, rfl, E, D⟩
            case round =>
              clear E D q0 q1 q2 EP
              obtain ⟨wq, rfl⟩ : ∃ wq, wq = wr := ⟨_, rfl⟩
              obtain ⟨nx, hgi, -, E, D⟩ := hrel
              have q0 := E.out.nr.cell hvn
              obtain ⟨m, hm⟩ : ∃ m, nx v = m := ⟨_, rfl⟩
              rw [hm] at q0 hgi
              have HM := Lib.hid hm
              have HGI := Lib.hid hgi
              clear hm hgi
              obtain ⟨bg, og, eg, _, q1⟩ := (RW.out _ E.out.bw).row v hvn
              subst eg
              by_cases hlm : m < (RL v).length
              · obtain ⟨bw, ow, ew, _, q2⟩ := (RW.out _ E.out.bw).rd v hvn m hlm
                rw [ew] at q1
                have hfz := E.out.nr.frozen v
                have E2 : EnvF w n (p ++ [v]) o (fun x => if x = v then m + 1 else nx x) sn u3 (wq.setCell ⟨w.heap.size + 1 + 1 + 1, v, none⟩ (.int .i64 ((m : Int) + 1))).drew.drew := (E.out.next v (m + 1)).drew.drew
                have hwm : IntKind.i64.wrap ((m : Int) + 1) = (m : Int) + 1 := by have := (RW.out _ E.out.bw).ll v hvn; rw [IntKind.wrap_i64]; omega
                have CIx := Lib.hid (CI.out (at0 (RL v) m))
                have DR := Lib.hid (fun h => dfs_read D.out (by rw [HM.out]; exact hlm) h)
                have DG := Lib.hid (fun (x : Nat) hx e hs => dfs_go (w := x) D.out (by rw [HM.out]; exact hlm) hx e hs)
                rw [HM.out] at DR DG
                have DS := Lib.hid D.out.seen
                have hbd2 := dfs_bound D.out
                rw [List.length_append, List.length_singleton] at hbd2
                have HB2 := Lib.hid hbd2
                have HLM := Lib.hid hlm
                have E2 := Lib.hid E2
                clear E D hbd2
                generalize at0 (RL v) m = x at *
                go_wp2
                go_region
                go_wp2
                go_region
                obtain ⟨W3, hW3⟩ : ∃ W3, W3 = (wq.setCell ⟨w.heap.size + 1 + 1 + 1, v, none⟩ (.int .i64 ((m : Int) + 1))).drew.drew := ⟨_, rfl⟩
                rw [← hW3] at E2
                have HW3 := Lib.hid hW3
                clear hW3
                go_wp2_with fail
                rw [← HW3.out]
                refine (CIx.out _).mono ?_
                rintro e4 w4 ⟨rfl, rfl⟩
                clear CIx q0 q1 q2 hfz hwm HW3
                by_cases hx : 0 ≤ x ∧ x < (n : Int)
                · rw [show inR x (n : Int) = true from inR_iff.2 hx]
                  obtain ⟨e, rfl⟩ : ∃ e : Nat, x = e := ⟨x.toNat, by omega⟩
                  have he : e < n := by omega
                  clear hx
                  have q5 := E2.out.sb
                  have q6 := E2.out.sr.get he
                  cases hs : sn e
                  · have D3 := Lib.hid (DG.out e he rfl hs)
                    have T3 := Lib.hid (upd_true (w := e) TT.out)
                    have CE := Lib.hid (enter_any e _ E2.out he (by have h2 := HB2.out; rw [List.length_append, List.length_singleton]; omega))
                    rw [hs] at q6
                    clear DR DG DS hs E2
                    go_wp2_with fail
                    refine CE.out.mono ?_
                    rintro e5 w5 ⟨⟨z5, rfl⟩, E5⟩
                    have E5 := Lib.hid E5
                    clear CE q5 q6
                    go_wp2
                    go_roundg (2 * n - (p.length + 2) - 2 * o.length)
                    case rel => exact ⟨p ++ [v] ++ [e], o, _, _, by simp, E5, D3, T3⟩
                    case measure =>
                      have h1 := HG.out
                      have h2 := HB2.out
                      have h3 := HLP.out
                      have h5 := HB.out
                      omega
                  · have D3 := Lib.hid (DR.out fun s hs2 hs3 => (DS.out s hs2).1 (by
                      have : s = e := by omega
                      rw [this]; exact hs))
                    rw [hs] at q6
                    clear DR DG DS hs
                    go_wp2
                    go_roundg ((RL v).length - (m + 1))
                    case rel => exact ⟨_, by simp, by first | rfl | trivial, E2, D3⟩
                    case measure => have h1 := HGI.out; have h2 := HLM.out; omega
                · have hb : inR x (n : Int) = false := by
                    cases h : inR x (n : Int)
                    · rfl
                    · exact absurd (inR_iff.1 h) hx
                  rw [hb]
                  have D3 := Lib.hid (DR.out fun s hs2 hs3 => absurd (by omega) hx)
                  clear DR DG DS hb hx
                  go_wp2
                  go_roundg ((RL v).length - (m + 1))
                  case rel => exact ⟨_, by simp, by first | rfl | trivial, E2, D3⟩
                  case measure => have h1 := HGI.out; have h2 := HLM.out; omega
              · have DP : Hid (DfsI RL n p (o ++ [v]) nx sn) := dfs_pop D.out (by rw [HM.out]; exact hlm)
                obtain ⟨b, c, p0, p1, p2, p3, p4⟩ := E.out.drew.path
                rw [← HLP.out] at p0 p2
                rw [← HMP.out] at p1 p4
                have EP := Lib.hid p4
                have hsz := E.out.sz
                have HSZ : Hid (wq.drew.heap.size = wq.heap.size) := rfl
                have hmc : mp ≤ c := by omega
                have hbd2 := dfs_bound DP.out
                rw [List.length_append, List.length_singleton] at hbd2
                have HB2 := Lib.hid hbd2
                have hlo : (zN o).length ≤ 100000 := by rw [zN_len]; omega
                clear E D p4 hbd2
                go_wp2
                go_region
                generalize wq.drew = wd at *
                obtain ⟨W1, hW1⟩ : ∃ W1, W1 = wd.setCell ⟨w.heap.size, 0, none⟩ (.slice (some ⟨b, 0, none⟩) mp c) := ⟨_, rfl⟩
                rw [← hW1] at EP
                have hsW : W1.heap.size = wd.heap.size := by rw [hW1, nblk_setCell]
                have g0 : (W1.alloc (.cells #[.int .i64 (v : Nat)] 3)).cell? ⟨wd.heap.size, 0, none⟩ = some (.int .i64 (v : Nat)) := by rw [← hsW]; exact cell_new1 _ _ _
                have HO : Hid ((W1.alloc (.cells #[.int .i64 (v : Nat)] 3)).ownsRow (w.heap.size + 4) 3 1 u3 (zN o).length (vI (zN o))) := EP.out.oo.alloc _
                have hz4 : w.heap.size + 4 ≤ (W1.alloc (.cells #[.int .i64 (v : Nat)] 3)).heap.size := by rw [World.size_alloc]; have := EP.out.sz; omega
                have LEFT : Hid (∀ ov' w', w'.ownsRow (w.heap.size + 4) 3 1 ov' ((zN o).length + 1) (vI (zN o) ++ [.int .i64 (v : Nat)]) → (W1.alloc (.cells #[.int .i64 (v : Nat)] 3)).grownBy w' u3.ownBlock → (ov'.ownBlock = u3.ownBlock ∨ ov'.ownBlock = some (W1.alloc (.cells #[.int .i64 (v : Nat)] 3)).heap.size) → EnvF w n p (o ++ [v]) nx sn ov' w') := fun ov' w' h1 h2 h3 => (EP.out.alloc _).left h1 h2 h3
                have HW1 := Lib.hid hW1
                clear hW1 hsW EP
                go_wp2_with (at_builtin; rw [← HW1.out]; go_loud (refine wpList_intg rfl (.tmp 83) (.tmp 85) rfl (w.heap.size + 4) u3 (zN o) (v : Int) rfl HO.out wd.heap.size rfl g0 hlo hz4 ?_); intro ov' w6 ho6 hg6 hb6; have E9 := Lib.hid (LEFT.out _ w6 ho6 hg6 hb6); clear ho6 hg6 hb6 LEFT)
                go_roundg (2 * n - p.length - 2 * (o.length + 1))
                case rel => exact ⟨p, o ++ [v], nx, sn, by simp, E9, DP, TT⟩
                case measure =>
                  have h1 := HG.out
                  have h2 := HB2.out
                  have h3 := HLP.out
                  have h4 := HMP.out
                  have h5 := HB.out
                  omega
      · rw [hs] at q1
        have T1 : Hid (∀ v, v < k + 1 → sn v = true) := fun v hv => by
          by_cases c : v = k
          · rw [c]; exact hs
          · exact TT.out v (by omega)
        clear hs TT
        go_wp2_with fail
        go_step3
        go_wp2_with fail
        try rw [Exit.noGoto_exit]
        go_wp2
        go_roundw
        case rel => exact ⟨k + 1, o, nx, sn, by omega, by go_num, E, D, T1⟩
        case measure => simp [intOf]; omega
    · obtain rfl : k = n := by omega
      have F := dfs_end D.out TT.out
      obtain ⟨A, c, e1, RO⟩ := ReadsV.own E.out.oo
      have F := Lib.hid F
      have RO := Lib.hid RO
      have BW := Lib.hid E.out.bw
      subst e1
      have HA : Hid (∀ b off, A = some ⟨b, off, none⟩ → w.heap.size ≤ b) := fun b off e => by
        have := (E.out.oo.lt b (by rw [e]; rfl)).1
        omega
      clear E D TT
      go_wp2
      go_ret
      exact ⟨_, _, _, rfl, RO.out, HA.out, F.out, BW.out⟩
end Go.Proofs.Ytdfljeonoallfaa
