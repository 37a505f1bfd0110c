/- Plain facts on names as lists of bytes: no program in sight. -/
import Derived.WalkKit
namespace Go.Proofs.YtlbcdnobpnllkaaGreat
open Go.RowKit

def startI (c : Int) : Bool := decide (97 ≤ c ∧ c ≤ 122 ∨ c = 95)
def contI (c : Int) : Bool := startI c || decide (48 ≤ c ∧ c ≤ 57 ∨ c = 46)
def bytesI (s : ByteArray) : List Int := s.data.toList.map fun b => (b.toNat : Int)
theorem bytesI_len (s : ByteArray) : (bytesI s).length = s.size := by simp [bytesI]
theorem bytesI_at (s : ByteArray) (k : Nat) (h : k < s.size) : (bytesI s)[k]?.getD 0 = (s[k].toNat : Int) := by
  have hk : k < (bytesI s).length := by rw [bytesI_len]; exact h
  rw [List.getElem?_eq_getElem hk]
  simp [bytesI]
  rfl
theorem byte_range (s : ByteArray) (k : Nat) (h : k < s.size) : 0 ≤ (s[k].toNat : Int) ∧ (s[k].toNat : Int) ≤ 255 := by
  have := s[k].toNat_lt
  omega
/-- whether a text is a name -/
def nameB (l : List Int) : Bool := decide (1 ≤ l.length ∧ l.length ≤ 16) && startI (l[0]?.getD 0) && l.all contI
theorem nameB_len {l : List Int} (h : l.length < 1 ∨ 16 < l.length) : nameB l = false := by
  have : ¬ (1 ≤ l.length ∧ l.length ≤ 16) := by omega
  simp [nameB, this]
theorem nameB_start {l : List Int} (h : startI (l[0]?.getD 0) = false) : nameB l = false := by simp [nameB, h]
theorem nameB_cont {l : List Int} (k : Nat) (hk : k < l.length) (h : contI (l[k]?.getD 0) = false) : nameB l = false := by
  have : l.all contI = false := by
    rw [List.all_eq_false]
    rw [List.getElem?_eq_getElem hk] at h
    exact ⟨l[k], List.getElem_mem hk, by simpa using h⟩
  simp [nameB, this]
theorem nameB_yes {l : List Int} (h1 : 1 ≤ l.length) (h2 : l.length ≤ 16) (h3 : startI (l[0]?.getD 0) = true) (h4 : (l.take l.length).all contI = true) : nameB l = true := by
  rw [List.take_length] at h4
  simp [nameB, h1, h2, h3, h4]
theorem all_snoc {l : List Int} (k : Nat) (hk : k < l.length) (h : (l.take k).all contI = true) (hc : contI (l[k]?.getD 0) = true) : (l.take (k + 1)).all contI = true := by
  rw [List.take_add_one, List.getElem?_eq_getElem hk] at *
  simp only [Option.getD_some] at hc
  simp only [Option.toList, List.all_append, h, Bool.true_and, List.all_cons, hc, List.all_nil]
end Go.Proofs.YtlbcdnobpnllkaaGreat
