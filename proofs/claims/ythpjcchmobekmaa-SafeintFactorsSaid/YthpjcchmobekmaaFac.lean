/- The law on divisors and multiples returns true, and only new memory is touched. -/
import Derived.Test.YthpjcchmobekmaaFac1
import Derived.Test.YthpjcchmobekmaaFac2
import Derived.Test.YthpjcchmobekmaaFac3
namespace Go.Proofs.Ythpjcchmobekmaa
open Go.RowKit

theorem factors_walk (a b : Int) (h1 : -9223372036854775808 ≤ a) (h2 : a ≤ 9223372036854775807) (h3 : -9223372036854775808 ≤ b) (h4 : b ≤ 9223372036854775807) (w : World) :
    Calls Try.prog 8 #[.int .i64 a, .int .i64 b] w fun e w' => e = .returned (.bool true) ∧ Below w.heap.size w w' := by
  have CG := Lib.hid (gcd_any a b h1 h2 h3 h4)
  have CL := Lib.hid (lcm_any a b h1 h2 h3 h4)
  have CP := Lib.hid (mul_any a b h1 h2 h3 h4)
  have FG := gcd_facts a b
  have FL := lcm_facts a b
  have FM := mul_facts a b
  obtain ⟨g1, g2⟩ := fitV_in (Nat.gcd a.natAbs b.natAbs : Nat)
  obtain ⟨l1, l2⟩ := fitV_in (Nat.lcm a.natAbs b.natAbs : Nat)
  obtain ⟨p1, p2⟩ := fitV_in (a * b)
  generalize fitV (Nat.gcd a.natAbs b.natAbs : Nat) = g at *
  generalize fits (Nat.gcd a.natAbs b.natAbs : Nat) = gi at *
  generalize fitV (Nat.lcm a.natAbs b.natAbs : Nat) = l at *
  generalize fits (Nat.lcm a.natAbs b.natAbs : Nat) = li at *
  generalize fitV (a * b) = p at *
  generalize fits (a * b) = pi at *
  have tm : ∀ x : Int, 0 ≤ l → l.tmod x = 0 → l % x = 0 := fun x h k => by rw [← Int.tmod_eq_emod_of_nonneg h]; exact k
  cases gi <;> cases li
  · exact fac_ff pi a b g l p w CG CL CP
  · obtain ⟨k1, k2, k3⟩ := FL rfl
    exact fac_ft pi a b g l p w CG CL CP k1 (tm a k1 k2) (tm b k1 k3)
  · obtain ⟨k1, k2, k3, k4⟩ := FG rfl
    by_cases gz : g = 0
    · obtain ⟨rfl, rfl⟩ := k4 gz
      subst gz
      exact fac_zf pi l p w CG CL CP
    · exact fac_tf pi a b g l p w CG CL CP (by omega) k2 k3
  · obtain ⟨k1, k2, k3, k4⟩ := FG rfl
    obtain ⟨k5, k6, k7⟩ := FL rfl
    have t1 := tm a k5 k6
    have t2 := tm b k5 k7
    by_cases gz : g = 0
    · obtain ⟨rfl, rfl⟩ := k4 gz
      subst gz
      have lz : l = 0 := by simpa using t1
      subst lz
      cases pi
      · exact fac_z1 p w CG CL CP
      · by_cases pm : -9223372036854775808 < p
        · obtain ⟨m1, m2⟩ := FM rfl rfl rfl pm
          have CQ := mul_any 0 0 (by omega) (by omega) (by omega) (by omega)
          rw [m1] at CQ
          generalize fitV (0 * 0) = q at *
          exact fac_z3 p q w CG CL CP (Lib.hid CQ) pm p2 m2
        · exact fac_z2 p w CG CL CP pm
    · cases pi
      · exact fac_no a b g l p w CG CL CP (by omega) k2 k3 k5 t1 t2
      · by_cases pm : -9223372036854775808 < p
        · obtain ⟨m1, m2⟩ := FM rfl rfl rfl pm
          have CQ := mul_any g l g1 g2 l1 l2
          rw [m1] at CQ
          generalize fitV (g * l) = q at *
          exact fac_yes a b g l p q w CG CL CP (Lib.hid CQ) (by omega) k2 k3 k5 t1 t2 pm p2 m2
        · exact fac_low a b g l p w CG CL CP (by omega) k2 k3 k5 t1 t2 pm

end Go.Proofs.Ythpjcchmobekmaa
