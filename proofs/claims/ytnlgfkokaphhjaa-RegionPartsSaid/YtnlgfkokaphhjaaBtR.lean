/- The reference's Minimal. -/
import Derived.Test.YtnlgfkokaphhjaaBtH
import Derived.Test.YtnlgfkokaphhjaaBtC
import Derived.Deep.LoopGhost
import Derived.Deep.RegionHeld3
import Derived.Laws.AppendOwnNone
namespace Go.Proofs.Ytnlgfkokaphhjaa.Bt
open Go.RowKit

def ltB (x y : U64) : Bool := decide (card x.1 < card y.1 ∨ (card x.1 = card y.1 ∧ x.1 < y.1))
theorem ltB_iff {x y : U64} : ltB x y = true ↔ ltU x y := by unfold ltB ltU; rw [decide_eq_true_eq]
theorem ltB_not {x y : U64} : ltB x y = false ↔ ¬ ltU x y := by rw [← ltB_iff]; simp
/-- no element of l is a proper subset of x -/
def minP (l : List U64) (x : U64) : Bool := l.all fun y => !(decide (y.1 ≠ x.1) && subV y.1 x.1)
theorem minP_iff {l : List U64} {x : U64} : minP l x = true ↔ ∀ y ∈ l, subV y.1 x.1 = true → y = x := by
  unfold minP
  rw [List.all_eq_true]
  constructor
  · intro h y hy hs
    have := h y hy
    rw [hs] at this
    simp at this
    exact U64.ext this
  · intro h y hy
    cases hs : subV y.1 x.1 with
    | false => simp
    | true => rw [h y hy hs]; simp
def ug (L : List U64) (k : Nat) : U64 := L[k]?.getD default
theorem ug_lt {L : List U64} {k : Nat} (h : k < L.length) : ug L k = L[k] := by simp [ug, h]
theorem ug_some {L : List U64} {k : Nat} (h : k < L.length) : L[k]? = some (ug L k) := by rw [ug_lt h]; exact List.getElem?_eq_getElem h
/-- the place behind the last element that comes before x, and whether x is there, among the first k -/
def atTo (out : List U64) (x : U64) : Nat → Nat
  | 0 => 0
  | k + 1 => if ltB (ug out k) x then k + 1 else atTo out x k
def twTo (out : List U64) (x : U64) : Nat → Bool
  | 0 => false
  | k + 1 => if (ug out k).1 = x.1 then true else twTo out x k
theorem atTo_le (out : List U64) (x : U64) : ∀ k, atTo out x k ≤ k
  | 0 => Nat.le_refl _
  | k + 1 => by
    have := atTo_le out x k
    unfold atTo
    split <;> omega
theorem atTo_after (out : List U64) (x : U64) : ∀ k j, atTo out x k ≤ j → j < k → ¬ ltU (ug out j) x
  | 0, j, _, h => absurd h (by omega)
  | k + 1, j, h, hj => by
    unfold atTo at h
    split at h
    · omega
    · rename_i hk
      by_cases e : j = k
      · subst e
        rw [← ltB_iff]; exact hk
      · exact atTo_after out x k j h (by omega)
theorem atTo_last (out : List U64) (x : U64) : ∀ k, atTo out x k = 0 ∨ (0 < atTo out x k ∧ ltU (ug out (atTo out x k - 1)) x)
  | 0 => .inl rfl
  | k + 1 => by
    unfold atTo
    split
    · rename_i hk
      exact .inr ⟨by omega, ltB_iff.1 hk⟩
    · exact atTo_last out x k
theorem ug_pair {out : List U64} (h : out.Pairwise ltU) {i j : Nat} (hij : i < j) (hj : j < out.length) : ltU (ug out i) (ug out j) := by
  rw [ug_lt (by omega), ug_lt hj]
  exact List.pairwise_iff_getElem.1 h i j (by omega) hj hij
theorem atTo_before {out : List U64} (h : out.Pairwise ltU) (x : U64) (k : Nat) (hk : k ≤ out.length) (j : Nat) (hj : j < atTo out x k) : ltU (ug out j) x := by
  have h1 := atTo_le out x k
  rcases atTo_last out x k with h2 | ⟨h2, h3⟩
  · omega
  · by_cases e : j = atTo out x k - 1
    · rw [e]; exact h3
    · exact ltU_trans (ug_pair h (by omega) (by omega)) h3
theorem twTo_iff (out : List U64) (x : U64) : ∀ k, k ≤ out.length → (twTo out x k = true ↔ x ∈ out.take k)
  | 0, _ => by simp [twTo]
  | k + 1, hk => by
    have ih := twTo_iff out x k (by omega)
    have e : out.take (k + 1) = out.take k ++ [ug out k] := by rw [List.take_succ_eq_append_getElem (by omega), ug_lt (by omega)]
    unfold twTo
    rw [e, List.mem_append, List.mem_singleton, ← ih]
    split
    · rename_i hx
      have : ug out k = x := U64.ext hx
      simp [this]
    · rename_i hx
      have : ¬ x = ug out k := fun e => hx (by rw [e])
      simp [this]
def insR (out : List U64) (x : U64) : List U64 := if twTo out x out.length = true then out else out.take (atTo out x out.length) ++ [x] ++ out.drop (atTo out x out.length)
theorem insR_spec {out : List U64} (h : out.Pairwise ltU) (x : U64) : (insR out x).Pairwise ltU ∧ ∀ y, y ∈ insR out x ↔ y ∈ out ∨ y = x := by
  have ht := twTo_iff out x out.length (Nat.le_refl _)
  rw [List.take_length] at ht
  unfold insR
  by_cases hx : twTo out x out.length = true
  · rw [if_pos hx]
    refine ⟨h, fun y => ⟨.inl, fun e => e.elim id fun e => ?_⟩⟩
    rw [e]; exact ht.1 hx
  · rw [if_neg hx]
    have hxm : x ∉ out := fun e => hx (ht.2 e)
    have hle := atTo_le out x out.length
    obtain ⟨a, ha⟩ : ∃ a, a = atTo out x out.length := ⟨_, rfl⟩
    rw [← ha] at hle ⊢
    have hT : ∀ z ∈ out.take a, ltU z x := by
      intro z hz
      obtain ⟨j, hj, e⟩ := List.getElem_of_mem hz
      rw [List.length_take] at hj
      rw [List.getElem_take] at e
      have := atTo_before h x out.length (Nat.le_refl _) j (by omega)
      rw [ug_lt (by omega), e] at this
      exact this
    have hD : ∀ z ∈ out.drop a, ltU x z := by
      intro z hz
      have hzo : z ∈ out := List.mem_of_mem_drop hz
      obtain ⟨j, hj, e⟩ := List.getElem_of_mem hz
      rw [List.length_drop] at hj
      rw [List.getElem_drop] at e
      have h1 := atTo_after out x out.length (a + j) (by omega) (by omega)
      rw [ug_lt (by omega), e] at h1
      exact Classical.byContradiction fun h2 => hxm (by rw [ltU_total h2 h1]; exact hzo)
    refine ⟨?_, fun y => ?_⟩
    · rw [List.append_assoc, List.pairwise_append]
      refine ⟨h.sublist (List.take_sublist _ _), ?_, ?_⟩
      · rw [List.singleton_append, List.pairwise_cons]
        exact ⟨hD, h.sublist (List.drop_sublist _ _)⟩
      · intro z hz v hv
        rcases List.mem_cons.1 hv with rfl | hv
        · exact hT z hz
        · exact ltU_trans (hT z hz) (hD v hv)
    · have e := List.take_append_drop a out
      rw [List.mem_append, List.mem_append, List.mem_singleton]
      constructor
      · rintro ((h1 | h1) | h1)
        · exact .inl (List.mem_of_mem_take h1)
        · exact .inr h1
        · exact .inl (List.mem_of_mem_drop h1)
      · rintro (h1 | h1)
        · rw [← e, List.mem_append] at h1
          exact h1.elim (fun h1 => .inl (.inl h1)) .inr
        · exact .inl (.inr h1)
theorem insR_len (out : List U64) (x : U64) : (insR out x).length ≤ out.length + 1 := by
  unfold insR
  split
  · omega
  · simp; omega
/-- what the reference has found among the first k -/
def accR (l : List U64) : Nat → List U64
  | 0 => []
  | k + 1 => if minP l (ug l k) = true then insR (accR l k) (ug l k) else accR l k
theorem accR_len (l : List U64) : ∀ k, (accR l k).length ≤ k
  | 0 => Nat.le_refl _
  | k + 1 => by
    have := accR_len l k
    unfold accR
    split
    · have := insR_len (accR l k) (ug l k); omega
    · omega
theorem accR_spec (l : List U64) : ∀ k, k ≤ l.length → (accR l k).Pairwise ltU ∧ ∀ x, x ∈ accR l k ↔ x ∈ l.take k ∧ minP l x = true
  | 0, _ => ⟨List.Pairwise.nil, fun x => by simp [accR]⟩
  | k + 1, hk => by
    obtain ⟨h1, h2⟩ := accR_spec l k (by omega)
    have e : l.take (k + 1) = l.take k ++ [ug l k] := by rw [List.take_succ_eq_append_getElem (by omega), ug_lt (by omega)]
    unfold accR
    by_cases hm : minP l (ug l k) = true
    · rw [if_pos hm]
      obtain ⟨h3, h4⟩ := insR_spec h1 (ug l k)
      refine ⟨h3, fun x => ?_⟩
      rw [h4, h2, e, List.mem_append, List.mem_singleton]
      constructor
      · rintro (⟨a, b⟩ | rfl)
        · exact ⟨.inl a, b⟩
        · exact ⟨.inr rfl, hm⟩
      · rintro ⟨a | a, b⟩
        · exact .inl ⟨a, b⟩
        · exact .inr a
    · rw [if_neg hm]
      refine ⟨h1, fun x => ?_⟩
      rw [h2, e, List.mem_append, List.mem_singleton]
      constructor
      · rintro ⟨a, b⟩; exact ⟨.inl a, b⟩
      · rintro ⟨a | a, b⟩
        · exact ⟨a, b⟩
        · rw [a] at b; exact absurd b hm
theorem minP_no {l : List U64} {x : U64} (k : Nat) (hk : k < l.length) (h1 : (ug l k).1 ≠ x.1) (h2 : subV (ug l k).1 x.1 = true) : minP l x = false := by
  cases e : minP l x with
  | false => rfl
  | true =>
    rw [minP_iff] at e
    have := e (ug l k) (by rw [ug_lt hk]; exact List.getElem_mem hk) h2
    exact absurd (by rw [this]) h1
theorem minP_yes {l : List U64} {x : U64} (h : ∀ k, k < l.length → (ug l k).1 ≠ x.1 → subV (ug l k).1 x.1 = false) : minP l x = true := by
  rw [minP_iff]
  intro y hy hs
  obtain ⟨j, hj, e⟩ := List.getElem_of_mem hy
  have := h j hj
  rw [ug_lt hj, e] at this
  exact U64.ext (Classical.byContradiction fun hn => by rw [this hn] at hs; cases hs)

set_option maxHeartbeats 1000000 in
set_option maxRecDepth 100000 in
theorem rminimal1 (A : Option Addr) (l : List U64) (c : Nat) (x : U64) (w : World) (hr : Reads w A (vV l)) (hl : l.length * 8 ≤ 140737488351232) :
    Calls Try.prog 63 #[.slice A l.length c, .int .u64 (x.1 : Nat)] w (BoolPost w.heap.size w (minP l x)) := by
  have RA := Lib.hid hr
  have HN : Hid (∀ k, k < l.length → (ug l k).1 ≠ x.1 → subV (ug l k).1 x.1 = true → minP l x = false) := fun k => minP_no k
  have HY : Hid ((∀ k, k < l.length → (ug l k).1 ≠ x.1 → subV (ug l k).1 x.1 = false) → minP l x = true) := minP_yes
  have HC := Lib.hid (fun k W => rsubset_any (ug l k).1 x.1 W (ug l k).2 x.2)
  have HS := Lib.hid (fun k (h : k < l.length) => ug_some h)
  clear hr
  generalize minP l x = P at *
  generalize hg : w.heap.size = g at *
  have HG := Lib.hid hg
  clear hg
  generalize hn : l.length = n at *
  obtain ⟨z, hz⟩ : ∃ z, z = x.1 := ⟨_, rfl⟩
  rw [← hz] at HN HY HC ⊢
  clear hz
  go_enter Try.func63, Try.ntmps63
  go_wp2_with fail
  go_loopg [5] n (fun gg q wr => ∃ k : Nat, gg = n - k ∧ k ≤ n ∧ q = .int .i64 k ∧ Hid (∀ j, j < k → (ug l j).1 ≠ z → subV (ug l j).1 z = false) ∧ Hid (Below g w wr))
  case atStart => exact ⟨0, rfl, Nat.zero_le _, rfl, fun j h => absurd h (by omega), Below.refl _ _⟩
  case round =>
    obtain ⟨k, hgg, hk, rfl, HP, B⟩ := hrel
    by_cases hlt : k < n
    · obtain ⟨ba, oa, e1, hx⟩ := (RA.out.below B.out (by rw [HG.out]; exact Nat.le_refl _)).at_ (vV_at (HS.out k hlt))
      subst e1
      have HNk := Lib.hid (HN.out k hlt)
      have HCk := Lib.hid (HC.out k)
      have hs := B.out.size
      rw [HG.out] at hs
      by_cases hne : (ug l k).1 = z
      · have HPn : Hid (∀ j, j < k + 1 → (ug l j).1 ≠ z → subV (ug l j).1 z = false) := fun j hj h => by
          by_cases e : j = k
          · subst e; exact absurd hne h
          · exact HP.out j (by omega) h
        rw [hne] at hx
        have e2 : ((z : Int) != (z : Int)) = false := by simp
        clear HCk HNk HP hne
        go_wp2_with fail
        go_roundg (n - (k + 1))
        case rel => exact ⟨k + 1, rfl, by omega, by go_num, HPn.out, B.out⟩
        case measure => omega
      · have HNe : Hid ((ug l k).1 ≠ z) := hne
        have e2 : (((ug l k).1 : Int) != (z : Int)) = true := by simp; omega
        rcases hb : subV (ug l k).1 z with _ | _
        · have HPn : Hid (∀ j, j < k + 1 → (ug l j).1 ≠ z → subV (ug l j).1 z = false) := fun j hj h => by
            by_cases e : j = k
            · subst e; exact hb
            · exact HP.out j (by omega) h
          rw [hb] at HCk
          clear HNk HP hb hne
          generalize (ug l k).1 = y at *
          go_wp2_with fail
          refine (HCk.out _).mono ?_
          rintro e w2 ⟨rfl, K⟩
          have B2 : Hid (Below g w w2) := B.out.trans (K.mono hs)
          clear K
          go_wp2_with fail
          go_roundg (n - (k + 1))
          case rel => exact ⟨k + 1, rfl, by omega, by go_num, HPn.out, B2.out⟩
          case measure => omega
        · obtain rfl : P = false := HNk.out hne hb
          rw [hb] at HCk
          clear HNk HP hb hne
          generalize (ug l k).1 = y at *
          go_wp2_with fail
          refine (HCk.out _).mono ?_
          rintro e w2 ⟨rfl, K⟩
          go_wp2_with fail
          go_ret
          exact ⟨rfl, B.out.trans (K.mono hs)⟩
    · obtain rfl : k = n := by omega
      obtain rfl : P = true := HY.out HP.out
      go_wp2_with fail
      go_ret
      exact ⟨rfl, B.out⟩

set_option maxHeartbeats 1000000 in
set_option maxRecDepth 100000 in
theorem rbefore_any (x y : U64) (w : World) :
    Calls Try.prog 64 #[.int .u64 (x.1 : Nat), .int .u64 (y.1 : Nat)] w (BoolPost w.heap.size w (ltB x y)) := by
  have L1 := Lib.hid (fun W => rlen_any x.1 W x.2)
  have L2 := Lib.hid (fun W => rlen_any y.1 W y.2)
  have HB : Hid (ltB x y = decide (card x.1 < card y.1 ∨ (card x.1 = card y.1 ∧ x.1 < y.1))) := rfl
  generalize ltB x y = b at *
  generalize card x.1 = p at *
  generalize card y.1 = q at *
  generalize x.1 = a at *
  generalize y.1 = c at *
  by_cases h1 : p < q
  · obtain rfl : b = true := by rw [HB.out]; exact decide_eq_true (.inl h1)
    have e1 : decide ((p : Int) < (q : Int)) = true := decide_eq_true (by omega)
    have e1' : (p : Int) < (q : Int) := by omega
    go_enter Try.func64, Try.ntmps64
    go_wp2_with fail
    refine (L1.out _).mono ?_
    rintro e w1 ⟨rfl, K1⟩
    have B1 := Lib.hid K1
    go_wp2_with fail
    refine (L2.out _).mono ?_
    rintro e w2 ⟨rfl, K2⟩
    have B2 : Hid (Below w.heap.size w w2) := B1.out.trans (K2.mono B1.out.size)
    clear K1 K2
    go_wp2_with fail
    go_ret
    exact ⟨rfl, B2.out⟩
  · have e1' : ¬ (p : Int) < (q : Int) := by omega
    by_cases h2 : p = q
    · subst h2
      obtain rfl : b = decide (a < c) := by rw [HB.out]; simp
      have e2 : ((p : Int) == (p : Int)) = true := by simp
      go_enter Try.func64, Try.ntmps64
      go_wp2_with fail
      refine (L1.out _).mono ?_
      rintro e w1 ⟨rfl, K1⟩
      have B1 := Lib.hid K1
      go_wp2_with fail
      refine (L2.out _).mono ?_
      rintro e w2 ⟨rfl, K2⟩
      have B2 : Hid (Below w.heap.size w w2) := B1.out.trans (K2.mono B1.out.size)
      clear K1 K2
      go_wp2_with fail
      refine (L1.out _).mono ?_
      rintro e w3 ⟨rfl, K1⟩
      have B3 : Hid (Below w.heap.size w w3) := B2.out.trans (K1.mono B2.out.size)
      clear K1
      go_wp2_with fail
      refine (L2.out _).mono ?_
      rintro e w4 ⟨rfl, K2⟩
      have B4 : Hid (Below w.heap.size w w4) := B3.out.trans (K2.mono B3.out.size)
      clear K2
      go_wp2_with fail
      go_ret
      exact ⟨rfl, B4.out⟩
    · obtain rfl : b = false := by rw [HB.out]; exact decide_eq_false (by omega)
      have e2 : ((p : Int) == (q : Int)) = false := by simp; omega
      go_enter Try.func64, Try.ntmps64
      go_wp2_with fail
      refine (L1.out _).mono ?_
      rintro e w1 ⟨rfl, K1⟩
      have B1 := Lib.hid K1
      go_wp2_with fail
      refine (L2.out _).mono ?_
      rintro e w2 ⟨rfl, K2⟩
      have B2 : Hid (Below w.heap.size w w2) := B1.out.trans (K2.mono B1.out.size)
      clear K1 K2
      go_wp2_with fail
      refine (L1.out _).mono ?_
      rintro e w3 ⟨rfl, K1⟩
      have B3 : Hid (Below w.heap.size w w3) := B2.out.trans (K1.mono B2.out.size)
      clear K1
      go_wp2_with fail
      refine (L2.out _).mono ?_
      rintro e w4 ⟨rfl, K2⟩
      have B4 : Hid (Below w.heap.size w w4) := B3.out.trans (K2.mono B3.out.size)
      clear K2
      go_wp2_with fail
      go_ret
      exact ⟨rfl, B4.out⟩
theorem own_mono {w : World} {B B' : Nat} {e : TypeId} {size : Nat} {v : Value} {n : Nat} {xs : List Value} (h : w.ownsRow B e size v n xs) (hb : B' ≤ B) : w.ownsRow B' e size v n xs := by
  refine ⟨h.1, ?_⟩
  rcases h.2 with h0 | ⟨g, cap, cur, h1, h2, h3⟩
  · exact .inl h0
  · exact .inr ⟨g, cap, cur, h1, Nat.le_trans hb h2, h3⟩
theorem own_below {w w' : World} {base : Nat} {e : TypeId} {size : Nat} {v : Value} {n : Nat} {xs : List Value} {B : Nat} (h : w.ownsRow base e size v n xs) (hb : Below B w w') (hB : w.heap.size ≤ B) : w'.ownsRow base e size v n xs := by
  refine ⟨h.1, ?_⟩
  rcases h.2 with h0 | ⟨g, cap, cur, h1, h2, h3, h4⟩
  · exact .inl h0
  · refine .inr ⟨g, cap, cur, h1, h2, ?_, h4⟩
    have hg : g < w.heap.size := (h.lt g (by rw [h1]; rfl)).2
    rw [hb.block g (by omega)]
    exact h3
theorem own_cap {w : World} {B : Nat} {e : TypeId} {A : Option Addr} {n k c : Nat} {xs : List Value} (h : w.ownsRow B e 1 (.slice A n c) k xs) : n ≤ c := by
  rcases h.2 with ⟨h0, _⟩ | ⟨g, cap, cur, h1, h2, h3, h4, _⟩
  · cases h0; exact Nat.le_refl _
  · cases h1
    exact h4
theorem no_cell {vs : List Value} {j : Nat} {u : Value} (h0 : vs.length = 0) (h : vs[j]? = some u) : False := by
  have := (List.getElem?_eq_some_iff.1 h).1
  omega
theorem none_row (G : Nat) : ∀ k, (Value.slice none 0 0).ownBlock = some k → G ≤ k := fun k e => by cases e
theorem grown_facts {G : Nat} {W W5 : World} {row : Option Nat} (hG : G ≤ W.heap.size) (h : W.grownBy W5 row) (hr : ∀ k, row = some k → G ≤ k) : Below G W W5 ∧ G ≤ W5.heap.size := ⟨(Below.refl G W).grown h hG hr, Nat.le_trans hG h.size⟩
theorem grown_facts2 {G : Nat} {W0 W W5 : World} {o : Obj} {row : Option Nat} (hB : Below G W0 W) (hG : G ≤ W.heap.size) (h : (W.alloc o).grownBy W5 row) (hr : ∀ k, row = some k → G ≤ k) : Below G W0 W5 ∧ G ≤ W5.heap.size := by
  have hs : G ≤ (W.alloc o).heap.size := by rw [World.size_alloc]; omega
  exact ⟨(hB.alloc hG o).grown h hs hr, Nat.le_trans hs h.size⟩
theorem addr_add (b o j : Nat) : Addr.add ⟨b, o, none⟩ j = ⟨b, o + j, none⟩ := by simp [Addr.add]
theorem insR_yes {out : List U64} {x : U64} (h : twTo out x out.length = true) : insR out x = out := if_pos h
theorem insR_no {out : List U64} {x : U64} (h : twTo out x out.length = false) : insR out x = out.take (atTo out x out.length) ++ [x] ++ out.drop (atTo out x out.length) := if_neg (by rw [h]; decide)

set_option maxHeartbeats 2000000 in
set_option maxRecDepth 1000000 in
theorem rminimal_law (A : Option Addr) (l : List U64) (c : Nat) (w : World) (hr : Reads w A (vV l)) (hl : l.length ≤ 1000) :
    Calls Try.prog 39 #[.slice A l.length c] w (ListPost w.heap.size w (vV (accR l l.length))) := by
  obtain ⟨i0, hi, hz0, hz1, hz2⟩ := info_parts infoU
  have HI := Lib.hid hi
  have HZ0 := Lib.hid hz0
  have HZ1 := Lib.hid hz1
  have HZ2 := Lib.hid hz2
  clear hi hz0 hz1 hz2
  have RA := Lib.hid hr
  have HC := Lib.hid (fun k W (h : Below w.heap.size w W) => rminimal1 A l c (ug l k) W (hr.below h (Nat.le_refl _)) (by omega))
  have HS := Lib.hid (fun k (h : k < l.length) => ug_some h)
  have HAy : Hid (∀ k, minP l (ug l k) = true → accR l (k + 1) = insR (accR l k) (ug l k)) := fun k h => if_pos h
  have HAn : Hid (∀ k, minP l (ug l k) = false → accR l (k + 1) = accR l k) := fun k h => if_neg (by rw [h]; decide)
  have HAl := Lib.hid (accR_len l)
  clear hr
  generalize hg : w.heap.size = g at *
  have HG := Lib.hid hg
  clear hg
  generalize hn : l.length = n at *
  have HNl := Lib.hid hn
  clear hn
  go_enter Try.func39, Try.ntmps39
  go_wp2_with fail
  go_loopg [3, 4, 5, 6, 7, 8] n (fun gg v q a t k nx wr => ∃ m : Nat, gg = n - m ∧ m ≤ n ∧ q = .int .i64 m ∧ Hid (wr.ownsRow g 26 1 v (accR l m).length (vV (accR l m))) ∧ Hid (accR l m = [] → v = .slice none 0 0) ∧ Hid (Below g w wr))
  case atStart => exact ⟨0, rfl, Nat.zero_le _, rfl, World.ownsRow_nil _ _ _ _, fun _ => rfl, Below.refl _ _⟩
  case round =>
    obtain ⟨m, hgg, hm, rfl, O, HV, B⟩ := hrel
    by_cases hlt : m < n
    · obtain ⟨ba, oa, e1, hx⟩ := (RA.out.below B.out (by rw [HG.out]; exact Nat.le_refl _)).at_ (vV_at (HS.out m hlt))
      subst e1
      have lx : Hid (ba < g) := by
        obtain ⟨b', off', e, h1, _⟩ := RA.out m _ (vV_at (HS.out m hlt))
        cases e
        show _ < _
        rw [← HG.out]; exact h1
      have HCm := Lib.hid (HC.out m wr B.out)
      have HAym := Lib.hid (HAy.out m)
      have HAnm := Lib.hid (HAn.out m)
      have hol := HAl.out m
      have hs := B.out.size
      rw [HG.out] at hs
      rcases hp : minP l (ug l m) with _ | _
      · have HE := Lib.hid (HAnm.out hp)
        rw [hp] at HCm
        clear HAym HAnm hp
        generalize ug l m = x at *
        go_wp2_with fail
        refine HCm.out.mono ?_
        rintro e w1 ⟨rfl, K⟩
        have O1 := Lib.hid (own_below O.out K (Nat.le_refl _))
        have B1 : Hid (Below g w w1) := B.out.trans (K.mono hs)
        clear K
        go_wp2_with fail
        go_roundg (n - (m + 1))
        case rel => exact ⟨m + 1, rfl, by omega, by go_num, by show World.ownsRow _ _ _ _ _ _ _; rw [HE.out]; exact O1.out, by show _ → _; rw [HE.out]; exact HV.out, B1.out⟩
        case measure => omega
      · have HE := Lib.hid (HAym.out hp)
        rw [hp] at HCm
        clear HAym HAnm hp
        generalize ug l m = x at *
        generalize hout : accR l m = out at *
        clear hout
        go_wp2_with fail
        refine HCm.out.mono ?_
        rintro e w1 ⟨rfl, K⟩
        have O1 := Lib.hid (own_below O.out K (Nat.le_refl _))
        have B1 : Hid (Below g w w1) := B.out.trans (K.mono hs)
        replace hx := (K.cell (p := ⟨ba, oa + m, none⟩) (show ba < wr.heap.size by have := lx.out; omega)).trans hx
        have hs1 := B1.out.size
        rw [HG.out] at hs1
        clear K O
        by_cases hnil : out = []
        · obtain rfl := HV.out hnil
          subst hnil
          have HI1 : Hid (insR [] x = [x]) := rfl
          have b1 : 0 + 1 ≤ maxLen := by unfold maxLen; omega
          have b3 : g ≤ (w1.alloc (.cells #[.int .u64 (x.1 : Nat)] 26)).heap.size := by rw [World.size_alloc]; omega
          go_wp2_with fail
          refine wp_loop_rounds 1 ?_
          rw [rounds_succ]
          go_wp2_with (at_builtin; first
            | (refine wpList_append_own_none rfl (.tmp 50) (.tmp 53) 37 rfl g 26 i0 1 Try.underlying37 HI.out (.slice none 0 0) 0 [] rfl (World.ownsRow_nil _ _ _ _) rfl ?_)
            | (refine wpList_append_own _ rfl (.tmp 55) (.tmp 60) 37 rfl g 26 i0 (.int .u64 0) 1 8 Try.underlying37 HI.out HZ0.out HZ1.out HZ2.out rfl (by decide) (.slice none 0 0) 0 [] rfl (World.ownsRow_nil _ _ _ _) ⟨w1.heap.size, 0, none⟩ 1 1 [.int .u64 (x.1 : Nat)] rfl rfl (cell_one_new _ _ _) (one_cellU _) b1 (by omega) b3 ?_; intro v' w5 hown' hgrow _)
            | (refine wpList_append_own_none rfl (.tmp 62) (.tmp 65) 37 rfl g 26 i0 1 Try.underlying37 HI.out v' (0 + 1) _ rfl hown' rfl ?_))
          have O5 : Hid (w5.ownsRow g 26 1 v' (accR l (m + 1)).length (vV (accR l (m + 1)))) := by
            show World.ownsRow _ _ _ _ _ _ _
            rw [HE.out, HI1.out]
            exact hown'
          have B5 : Hid (Below g w w5) := (B1.out.alloc hs1 _).grown hgrow b3 (fun r e => by cases e)
          have HN5 : Hid (accR l (m + 1) = [] → v' = .slice none 0 0) := fun h => by rw [HE.out, HI1.out] at h; cases h
          clear hown' hgrow
          go_roundg (n - (m + 1))
          case rel => exact ⟨m + 1, rfl, by omega, by go_num, O5.out, HN5.out, B5.out⟩
          case measure => omega
        · have hLpos : 0 < out.length := List.length_pos_iff.2 hnil
          have HNil : Hid (out ≠ []) := hnil
          clear hnil HV
          obtain ⟨hvl, A3, c3, hv3, R3⟩ := Reads.own O1.out
          have HSo := Lib.hid (fun k (h : k < out.length) => ug_some h)
          obtain ⟨qb, qo, eA, lq, _⟩ := R3 0 _ (vV_at (HSo.out 0 hLpos))
          subst eA
          subst hv3
          replace R3 := Lib.hid R3
          have HIy := Lib.hid (@insR_yes out x)
          have HIn := Lib.hid (@insR_no out x)
          have HAt := Lib.hid (atTo_le out x)
          have HBf := Lib.hid (fun k W => rbefore_any (ug out k) x W)
          have HA1 : Hid (∀ k, ltB (ug out k) x = true → atTo out x (k + 1) = k + 1) := fun k h => if_pos h
          have HA2 : Hid (∀ k, ltB (ug out k) x = false → atTo out x (k + 1) = atTo out x k) := fun k h => if_neg (by rw [h]; decide)
          have HT1 : Hid (∀ k, (ug out k).1 = x.1 → twTo out x (k + 1) = true) := fun k h => if_pos h
          have HT2 : Hid (∀ k, ¬ (ug out k).1 = x.1 → twTo out x (k + 1) = twTo out x k) := fun k h => if_neg h
          generalize hL : out.length = L at *
          have HLl := Lib.hid hL
          clear hL hvl
          obtain ⟨H, hH⟩ : ∃ H, H = w1.heap.size := ⟨_, rfl⟩
          have HH : Hid (w1.heap.size = H) := hH.symm
          clear hH
          have X1 : Hid (∀ W, Below H w1 W → W.cell? ⟨ba, oa + m, none⟩ = some (.int .u64 (x.1 : Nat))) := fun W h => (h.cell (p := ⟨ba, oa + m, none⟩) (show ba < H by have := lx.out; have := HH.out; omega)).trans hx
          clear hx
          go_wp2_with fail
          go_loopg [5, 6, 7] L (fun gi a t q wi => ∃ k : Nat, gi = L - k ∧ k ≤ L ∧ a = .int .i64 (atTo out x k : Nat) ∧ t = .bool (twTo out x k) ∧ q = .int .i64 k ∧ Hid (Below H w1 wi))
          case atStart => exact ⟨0, rfl, Nat.zero_le _, rfl, rfl, rfl, Below.refl _ _⟩
          case round =>
            obtain ⟨k, hgi, hk, rfl, rfl, rfl, BI⟩ := hrel
            by_cases hkl : k < L
            · obtain ⟨b', o', eq', _, hy0⟩ := R3.out k _ (vV_at (HSo.out k hkl))
              cases eq'
              have hy := (BI.out.cell (p := ⟨qb, qo + k, none⟩) (show qb < H by have := HH.out; omega)).trans hy0
              have hx := X1.out _ BI.out
              clear hy0
              have HBk := Lib.hid (HBf.out k)
              have h1 := Lib.hid (HA1.out k)
              have h2 := Lib.hid (HA2.out k)
              have h3 := Lib.hid (HT1.out k)
              have h4 := Lib.hid (HT2.out k)
              have hsi := BI.out.size
              rw [HH.out] at hsi
              by_cases he : (ug out k).1 = x.1
              · have e9 := Lib.hid (h3.out he)
                have e2 : (((ug out k).1 : Int) == ((x.1 : Nat) : Int)) = true := by simp; omega
                clear h3 h4 he
                rcases hb : ltB (ug out k) x with _ | _
                · have e8 := Lib.hid (h2.out hb)
                  rw [hb] at HBk
                  clear h1 h2 hb
                  go_wp2_with fail
                  go_quiet (fail)
                  go_wp2_with fail
                  go_region_held3 (fun w' => w'.cell? ⟨qb, qo + k, none⟩ = some (.int .u64 ((ug out k).1 : Nat)) ∧ w'.cell? ⟨ba, oa + m, none⟩ = some (.int .u64 (x.1 : Nat)) ∧ Hid (Below H w1 w') ∧ H ≤ w'.heap.size)
                    (first
                      | exact ⟨hy, hx, BI.out, hsi⟩
                      | exact ⟨hy, hx, (below_drewN BI.out _).drew, hsi⟩
                      | (go_split_ands
                         refine ⟨(hb.cell ?_).trans ?_, (hb.cell ?_).trans ?_, ?_, ?_⟩
                         · exact World.block_lt_of_cell? _ ⟨qb, qo + k, none⟩ (by assumption)
                         · assumption
                         · exact World.block_lt_of_cell? _ ⟨ba, oa + m, none⟩ (by assumption)
                         · assumption
                         · exact Below.trans (Hid.out (by assumption)) (hb.mono (by assumption))
                         · exact Nat.le_trans (by assumption) hb.size)
                      | go_keep)
                    ((go_at_call 64; refine (HBk.out _).mono ?_; rintro _ w4 ⟨rfl, hb⟩))
                  rename_i hHeld
                  obtain ⟨E1, E2, K9, E3⟩ := hHeld
                  go_wp2_with fail
                  go_roundg (L - (k + 1))
                  case rel => exact ⟨k + 1, rfl, by omega, (by rw [e8.out]), (by rw [e9.out]), by go_num, K9⟩
                  case measure => omega
                · have e8 := Lib.hid (h1.out hb)
                  rw [hb] at HBk
                  clear h1 h2 hb
                  go_wp2_with fail
                  go_quiet (fail)
                  go_wp2_with fail
                  go_region_held3 (fun w' => w'.cell? ⟨qb, qo + k, none⟩ = some (.int .u64 ((ug out k).1 : Nat)) ∧ w'.cell? ⟨ba, oa + m, none⟩ = some (.int .u64 (x.1 : Nat)) ∧ Hid (Below H w1 w') ∧ H ≤ w'.heap.size)
                    (first
                      | exact ⟨hy, hx, BI.out, hsi⟩
                      | exact ⟨hy, hx, (below_drewN BI.out _).drew, hsi⟩
                      | (go_split_ands
                         refine ⟨(hb.cell ?_).trans ?_, (hb.cell ?_).trans ?_, ?_, ?_⟩
                         · exact World.block_lt_of_cell? _ ⟨qb, qo + k, none⟩ (by assumption)
                         · assumption
                         · exact World.block_lt_of_cell? _ ⟨ba, oa + m, none⟩ (by assumption)
                         · assumption
                         · exact Below.trans (Hid.out (by assumption)) (hb.mono (by assumption))
                         · exact Nat.le_trans (by assumption) hb.size)
                      | go_keep)
                    ((go_at_call 64; refine (HBk.out _).mono ?_; rintro _ w4 ⟨rfl, hb⟩))
                  rename_i hHeld
                  obtain ⟨E1, E2, K9, E3⟩ := hHeld
                  go_wp2_with fail
                  go_roundg (L - (k + 1))
                  case rel => exact ⟨k + 1, rfl, by omega, (by rw [e8.out]; go_num), (by rw [e9.out]), by go_num, K9⟩
                  case measure => omega
              · have e9 := Lib.hid (h4.out he)
                have e2 : (((ug out k).1 : Int) == ((x.1 : Nat) : Int)) = false := by simp; omega
                clear h3 h4 he
                rcases hb : ltB (ug out k) x with _ | _
                · have e8 := Lib.hid (h2.out hb)
                  rw [hb] at HBk
                  clear h1 h2 hb
                  go_wp2_with fail
                  go_quiet (fail)
                  go_wp2_with fail
                  go_region_held3 (fun w' => w'.cell? ⟨qb, qo + k, none⟩ = some (.int .u64 ((ug out k).1 : Nat)) ∧ w'.cell? ⟨ba, oa + m, none⟩ = some (.int .u64 (x.1 : Nat)) ∧ Hid (Below H w1 w') ∧ H ≤ w'.heap.size)
                    (first
                      | exact ⟨hy, hx, BI.out, hsi⟩
                      | exact ⟨hy, hx, (below_drewN BI.out _).drew, hsi⟩
                      | (go_split_ands
                         refine ⟨(hb.cell ?_).trans ?_, (hb.cell ?_).trans ?_, ?_, ?_⟩
                         · exact World.block_lt_of_cell? _ ⟨qb, qo + k, none⟩ (by assumption)
                         · assumption
                         · exact World.block_lt_of_cell? _ ⟨ba, oa + m, none⟩ (by assumption)
                         · assumption
                         · exact Below.trans (Hid.out (by assumption)) (hb.mono (by assumption))
                         · exact Nat.le_trans (by assumption) hb.size)
                      | go_keep)
                    ((go_at_call 64; refine (HBk.out _).mono ?_; rintro _ w4 ⟨rfl, hb⟩))
                  rename_i hHeld
                  obtain ⟨E1, E2, K9, E3⟩ := hHeld
                  go_wp2_with fail
                  go_roundg (L - (k + 1))
                  case rel => exact ⟨k + 1, rfl, by omega, (by rw [e8.out]), (by rw [e9.out]), by go_num, K9⟩
                  case measure => omega
                · have e8 := Lib.hid (h1.out hb)
                  rw [hb] at HBk
                  clear h1 h2 hb
                  go_wp2_with fail
                  go_quiet (fail)
                  go_wp2_with fail
                  go_region_held3 (fun w' => w'.cell? ⟨qb, qo + k, none⟩ = some (.int .u64 ((ug out k).1 : Nat)) ∧ w'.cell? ⟨ba, oa + m, none⟩ = some (.int .u64 (x.1 : Nat)) ∧ Hid (Below H w1 w') ∧ H ≤ w'.heap.size)
                    (first
                      | exact ⟨hy, hx, BI.out, hsi⟩
                      | exact ⟨hy, hx, (below_drewN BI.out _).drew, hsi⟩
                      | (go_split_ands
                         refine ⟨(hb.cell ?_).trans ?_, (hb.cell ?_).trans ?_, ?_, ?_⟩
                         · exact World.block_lt_of_cell? _ ⟨qb, qo + k, none⟩ (by assumption)
                         · assumption
                         · exact World.block_lt_of_cell? _ ⟨ba, oa + m, none⟩ (by assumption)
                         · assumption
                         · exact Below.trans (Hid.out (by assumption)) (hb.mono (by assumption))
                         · exact Nat.le_trans (by assumption) hb.size)
                      | go_keep)
                    ((go_at_call 64; refine (HBk.out _).mono ?_; rintro _ w4 ⟨rfl, hb⟩))
                  rename_i hHeld
                  obtain ⟨E1, E2, K9, E3⟩ := hHeld
                  go_wp2_with fail
                  go_roundg (L - (k + 1))
                  case rel => exact ⟨k + 1, rfl, by omega, (by rw [e8.out]; go_num), (by rw [e9.out]), by go_num, K9⟩
                  case measure => omega
            · obtain rfl : k = L := by omega
              have hat := HAt.out k
              have HLout := hol
              rcases ht : twTo out x k with _ | _
              · have HI1 := Lib.hid (HIn.out ht)
                obtain ⟨a, ha⟩ : ∃ a, a = atTo out x k := ⟨_, rfl⟩
                rw [← ha] at hat HI1 ⊢
                clear ha ht HIy HIn HAt HA1 HA2 HT1 HT2 HBf
                have hsi := BI.out.size
                rw [HH.out] at hsi
                have RO := Lib.hid (R3.out.below BI.out (by rw [HH.out]; exact Nat.le_refl _))
                have hx := X1.out _ BI.out
                have t1 : Hid ((vV (out.take a)).length = a * 1) := by show _ = _; rw [vV_len, List.length_take, HLl.out]; omega
                have hkc : k ≤ c3 := own_cap O1.out
                have hac : a ≤ c3 := Nat.le_trans hat hkc
                have lenA : (out.take a).length = a := by rw [List.length_take, HLl.out]; omega
                have lenD : (out.drop a).length = k - a := by rw [List.length_drop, HLl.out]
                have cT : Hid (∀ j u, (vV (out.take a))[j]? = some u → wr.cell? (Addr.add ⟨qb, qo, none⟩ j) = some u) := fun j u h => by
                  have hj : j < a := by have := (List.getElem?_eq_some_iff.1 h).1; rwa [vV_len, lenA] at this
                  have e : (vV out)[j]? = some u := by unfold vV at h ⊢; rw [List.getElem?_map] at h ⊢; rwa [List.getElem?_take_of_lt hj] at h
                  obtain ⟨b', o', eq', _, h2⟩ := RO.out j u e
                  cases eq'
                  rw [addr_add]
                  exact h2
                have cD : Hid (∀ j u, (vV (out.drop a))[j]? = some u → wr.cell? (Addr.add ⟨qb, qo + a, none⟩ j) = some u) := fun j u h => by
                  have e : (vV out)[a + j]? = some u := by unfold vV at h ⊢; rw [List.getElem?_map] at h ⊢; rwa [List.getElem?_drop] at h
                  obtain ⟨b', o', eq', _, h2⟩ := RO.out (a + j) u e
                  cases eq'
                  rw [addr_add, Nat.add_assoc]
                  exact h2
                have oT : Hid (∀ u ∈ vV (out.take a), u.oneCell' = true) := fun u h => by
                  unfold vV at h
                  obtain ⟨z, _, rfl⟩ := List.mem_map.1 h
                  rfl
                have oD : Hid (∀ u ∈ vV (out.drop a), u.oneCell' = true) := fun u h => by
                  unfold vV at h
                  obtain ⟨z, _, rfl⟩ := List.mem_map.1 h
                  rfl
                have lT : Hid ((vV (out.take a)).length = a * 1) := by show _ = _; rw [vV_len, lenA]; omega
                have lD : Hid ((vV (out.drop a)).length = (k - a) * 1) := by show _ = _; rw [vV_len, lenD]; omega
                have lS : Hid (vV (out.take a) ++ [Value.int .u64 (x.1 : Nat)] ++ vV (out.drop a) = vV (out.take a ++ [x] ++ out.drop a)) := by show _ = _; simp [vV, eU]
                have lLen : Hid ((out.take a ++ [x] ++ out.drop a).length = 0 + a + 1 + (k - a)) := by show _ = _; simp only [List.length_append, lenA, lenD, List.length_singleton]; omega
                clear lenA lenD t1
                obtain ⟨G, hG⟩ : ∃ G, G = wr.heap.size := ⟨_, rfl⟩
                have HGG : Hid (wr.heap.size = G) := hG.symm
                clear hG
                have hbG : ba < G := by have := lx.out; have := HGG.out; have := HH.out; omega
                have hqG : ∀ j, (Addr.add ⟨qb, qo + a, none⟩ j).block < G := fun j => by rw [addr_add]; show qb < G; have := HGG.out; have := HH.out; omega
                replace hqG := Lib.hid hqG
                by_cases hca : c3 = a
                · subst hca
                  obtain rfl : c3 = k := by omega
                  go_wp2_with (at_builtin; go_loud (first
                    | (refine wpList_append_own _ rfl (.tmp 50) (.tmp 53) 37 rfl G 26 i0 (.int .u64 0) 1 8 Try.underlying37 HI.out HZ0.out HZ1.out HZ2.out rfl (by decide) (.slice none 0 0) 0 [] rfl (World.ownsRow_nil _ _ _ _) ⟨qb, qo, none⟩ c3 c3 (vV (out.take c3)) rfl lT.out cT.out oT.out (by unfold maxLen; omega) (by omega) (Nat.le_of_eq HGG.out.symm) ?_; intro v5 w5 own5 grow5 _; obtain ⟨B5, gx5⟩ := grown_facts (Nat.le_of_eq HGG.out.symm) grow5 (none_row G); have hx5 := (B5.cell (p := ⟨ba, oa + m, none⟩) hbG).trans hx)
                    | (refine wpList_append_own _ rfl (.tmp 55) (.tmp 60) 37 rfl G 26 i0 (.int .u64 0) 1 8 Try.underlying37 HI.out HZ0.out HZ1.out HZ2.out rfl (by decide) v5 (0 + c3) _ rfl (own5.alloc _) ⟨w5.heap.size, 0, none⟩ 1 1 [.int .u64 (x.1 : Nat)] rfl rfl (cell_one_new _ _ _) (one_cellU _) (by unfold maxLen; omega) (by omega) (Nat.le_trans gx5 (by rw [World.size_alloc]; omega)) ?_; intro v6 w6 own6 grow6 _; obtain ⟨B6, gx6⟩ := grown_facts2 B5 gx5 grow6 (fun r e => (own5.lt r e).1))
                    | (refine wpList_append_own _ rfl (.tmp 62) (.tmp 65) 37 rfl G 26 i0 (.int .u64 0) 1 8 Try.underlying37 HI.out HZ0.out HZ1.out HZ2.out rfl (by decide) v6 (0 + c3 + 1) _ rfl own6 ⟨qb, qo, none⟩ 0 0 (vV (out.drop c3)) rfl (lD.out.trans (by simp)) (fun j u h => (no_cell (lD.out.trans (by simp)) h).elim) oD.out (by unfold maxLen; omega) (by omega) gx6 ?_; intro v7 w7 own7 grow7 _; have B7 := B6.grown grow7 gx6 (fun r e => (own6.lt r e).1))))
                  have O9 : Hid (w7.ownsRow g 26 1 v7 (accR l (m + 1)).length (vV (accR l (m + 1)))) := by
                    show World.ownsRow _ _ _ _ _ _ _
                    rw [HE.out, HI1.out, lLen.out, ← lS.out, Nat.sub_self]
                    exact own_mono (B := G) own7 (by have := HGG.out; have := HH.out; omega)
                  have HN9 : Hid (accR l (m + 1) = [] → v7 = .slice none 0 0) := fun h => by
                    rw [HE.out, HI1.out] at h
                    simp at h
                  have B9 : Hid (Below g w w7) := B1.out.trans ((BI.out.mono (by have := HH.out; omega)).trans (B7.mono (by have := HGG.out; have := HH.out; omega)))
                  clear own7 grow7 own6 grow6 own5 grow5 B5 B6 B7
                  go_roundg (n - (m + 1))
                  case rel => exact ⟨m + 1, rfl, by omega, by go_num, O9.out, HN9.out, B9.out⟩
                  case measure => omega
                · replace hca : ¬ c3 = a := hca
                  go_wp2_with (at_builtin; go_loud (first
                    | (refine wpList_append_own _ rfl (.tmp 50) (.tmp 53) 37 rfl G 26 i0 (.int .u64 0) 1 8 Try.underlying37 HI.out HZ0.out HZ1.out HZ2.out rfl (by decide) (.slice none 0 0) 0 [] rfl (World.ownsRow_nil _ _ _ _) ⟨qb, qo, none⟩ a c3 (vV (out.take a)) rfl lT.out cT.out oT.out (by unfold maxLen; omega) (by omega) (Nat.le_of_eq HGG.out.symm) ?_; intro v5 w5 own5 grow5 _; obtain ⟨B5, gx5⟩ := grown_facts (Nat.le_of_eq HGG.out.symm) grow5 (none_row G); have hx5 := (B5.cell (p := ⟨ba, oa + m, none⟩) hbG).trans hx)
                    | (refine wpList_append_own _ rfl (.tmp 55) (.tmp 60) 37 rfl G 26 i0 (.int .u64 0) 1 8 Try.underlying37 HI.out HZ0.out HZ1.out HZ2.out rfl (by decide) v5 (0 + a) _ rfl (own5.alloc _) ⟨w5.heap.size, 0, none⟩ 1 1 [.int .u64 (x.1 : Nat)] rfl rfl (cell_one_new _ _ _) (one_cellU _) (by unfold maxLen; omega) (by omega) (Nat.le_trans gx5 (by rw [World.size_alloc]; omega)) ?_; intro v6 w6 own6 grow6 _; obtain ⟨B6, gx6⟩ := grown_facts2 B5 gx5 grow6 (fun r e => (own5.lt r e).1))
                    | (refine wpList_append_own _ rfl (.tmp 62) (.tmp 65) 37 rfl G 26 i0 (.int .u64 0) 1 8 Try.underlying37 HI.out HZ0.out HZ1.out HZ2.out rfl (by decide) v6 (0 + a + 1) _ rfl own6 ⟨qb, qo + a, none⟩ (k - a) (c3 - a) (vV (out.drop a)) rfl lD.out (fun j u h => (B6.cell (p := Addr.add ⟨qb, qo + a, none⟩ j) (hqG.out j)).trans (cD.out j u h)) oD.out (by unfold maxLen; omega) (by omega) gx6 ?_; intro v7 w7 own7 grow7 _; have B7 := B6.grown grow7 gx6 (fun r e => (own6.lt r e).1))))
                  have O9 : Hid (w7.ownsRow g 26 1 v7 (accR l (m + 1)).length (vV (accR l (m + 1)))) := by
                    show World.ownsRow _ _ _ _ _ _ _
                    rw [HE.out, HI1.out, lLen.out, ← lS.out]
                    exact own_mono (B := G) own7 (by have := HGG.out; have := HH.out; omega)
                  have HN9 : Hid (accR l (m + 1) = [] → v7 = .slice none 0 0) := fun h => by
                    rw [HE.out, HI1.out] at h
                    simp at h
                  have B9 : Hid (Below g w w7) := B1.out.trans ((BI.out.mono (by have := HH.out; omega)).trans (B7.mono (by have := HGG.out; have := HH.out; omega)))
                  clear own7 grow7 own6 grow6 own5 grow5 B5 B6 B7
                  go_roundg (n - (m + 1))
                  case rel => exact ⟨m + 1, rfl, by omega, by go_num, O9.out, HN9.out, B9.out⟩
                  case measure => omega
              · have HI1 := Lib.hid (HIy.out ht)
                clear ht HIy HIn HAt HA1 HA2 HT1 HT2 HBf
                generalize atTo out x k = a at *
                have O9 := Lib.hid (own_below O1.out BI.out (by rw [HH.out]; exact Nat.le_refl _))
                have B9 : Hid (Below g w wr) := B1.out.trans (BI.out.mono (by have := HH.out; omega))
                go_wp2_with fail
                go_roundg (n - (m + 1))
                case rel => exact ⟨m + 1, rfl, by omega, by go_num, by show World.ownsRow _ _ _ _ _ _ _; rw [HE.out, HI1.out, HLl.out]; exact O9.out, by show _ → _; rw [HE.out, HI1.out]; exact fun h => absurd h HNil.out, B9.out⟩
                case measure => omega
    · obtain rfl : m = n := by omega
      obtain ⟨_, A9, c9, e9, R9⟩ := Reads.own O.out
      subst e9
      go_wp2_with fail
      go_ret
      exact ⟨A9, c9, by rw [vV_len]; rfl, R9, B.out⟩
set_option maxHeartbeats 1000000 in
theorem sets_same (A B : Option Addr) (L : List U64) (ca cb : Nat) (w : World) (ra : Reads w A (vV L)) (rb : Reads w B (vV L)) (hl : L.length ≤ 9223372036854775806) :
    Calls Try.prog 23 #[.slice A L.length ca, .slice B L.length cb] w (BoolPost w.heap.size w true) := by
  have RA := Lib.hid ra
  have RB := Lib.hid rb
  clear ra rb
  generalize hg : w.heap.size = g at *
  have HG := Lib.hid hg
  clear hg
  generalize hn : L.length = n at *
  have HN := Lib.hid hn
  clear hn
  go_enter Try.func23, Try.ntmps23
  go_wp2_with fail
  go_loopw [5] (fun q wr => ∃ k : Nat, k ≤ n ∧ q = .int .i64 k ∧ Hid (Below g w wr)) (fun q _ => n - (intOf q).toNat)
  case atStart => exact ⟨0, by omega, rfl, Below.refl _ _⟩
  case round =>
    obtain ⟨k, hk, rfl, B1⟩ := hrel
    by_cases hlt : k < n
    · obtain ⟨x, hx⟩ := get_of_lt (L := L) (k := k) (by rw [HN.out]; exact hlt)
      obtain ⟨ba, oa, e1, hx1⟩ := (RA.out.below B1.out (by rw [HG.out]; exact Nat.le_refl _)).at_ (vV_at hx)
      subst e1
      obtain ⟨bb, ob, e2, hy1⟩ := (RB.out.below B1.out (by rw [HG.out]; exact Nat.le_refl _)).at_ (vV_at hx)
      subst e2
      clear hx
      go_wp2_with fail
      go_quiet (fail)
      go_wp2
      go_roundw
      case rel => exact ⟨k + 1, by omega, by go_num, below_drewN B1.out _⟩
      case measure => simp [intOf]; omega
    · go_wp2
      go_ret
      exact ⟨rfl, B1.out⟩

theorem acc_min (l : List U64) : accR l l.length = minU l := by
  obtain ⟨h1, h2⟩ := accR_spec l l.length (Nat.le_refl _)
  obtain ⟨g1, g2, _, _⟩ := minU_spec l
  refine sorted_ext ltU ltU_asym _ _ h1 g1 fun x => ?_
  rw [h2, g2, List.take_length, minP_iff]
end Go.Proofs.Ytnlgfkokaphhjaa.Bt
