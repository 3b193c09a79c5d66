/- Fractions in lowest terms (mathematics). -/
import Derived.Test.YtkdlppekjjbgoaaG2

set_option linter.unusedSimpArgs false

set_option linter.unusedVariables false

namespace Go.Proofs.Ytkdlppekjjbgoaa

def rN (a b : Nat) : Int := ((a / Nat.gcd a b : Nat) : Int)
def rD (a b : Nat) : Int := ((b / Nat.gcd a b : Nat) : Int)
theorem gcd_step {a b x y : Nat} (h : Nat.gcd x y = Nat.gcd a b) : Nat.gcd y (x % y) = Nat.gcd a b := by
  rw [← h, Nat.gcd_comm y, ← Nat.gcd_rec, Nat.gcd_comm]
theorem r_mul {c x y : Nat} (hc : 0 < c) : rN (c * x) (c * y) = rN x y ∧ rD (c * x) (c * y) = rD x y := by
  unfold rN rD
  rw [Nat.gcd_mul_left, Nat.mul_div_mul_left _ _ hc, Nat.mul_div_mul_left _ _ hc]
  exact ⟨rfl, rfl⟩
theorem r_scale {A O k m : Nat} (hO : 0 < O) (hm : 0 < m) : rN (k * m * A) (O * m) = rN (A / Nat.gcd A O * k) (O / Nat.gcd A O) ∧ rD (k * m * A) (O * m) = rD (A / Nat.gcd A O * k) (O / Nat.gcd A O) := by
  obtain ⟨g, hg⟩ : ∃ g, Nat.gcd A O = g := ⟨_, rfl⟩
  have hg0 : 0 < g := by rw [← hg]; exact Nat.gcd_pos_of_pos_right _ hO
  have eA : g * (A / g) = A := Nat.mul_div_cancel' (by rw [← hg]; exact Nat.gcd_dvd_left _ _)
  have eO : g * (O / g) = O := Nat.mul_div_cancel' (by rw [← hg]; exact Nat.gcd_dvd_right _ _)
  rw [hg]
  have e1 : k * m * A = m * g * (A / g * k) := by
    conv => lhs; rw [← eA]
    rw [← Nat.mul_assoc, ← Nat.mul_assoc, Nat.mul_comm k m, Nat.mul_assoc m k g, Nat.mul_comm k g, ← Nat.mul_assoc m g k, Nat.mul_assoc (m * g) k, Nat.mul_comm k (A / g), ← Nat.mul_assoc]
  have e2 : O * m = m * g * (O / g) := by
    conv => lhs; rw [← eO]
    rw [Nat.mul_comm, Nat.mul_assoc]
  rw [e1, e2]
  exact r_mul (Nat.mul_pos hm hg0)
theorem r_le {A O W : Nat} (hO : 0 < O) (h : A ≤ W * O) : rN A O ≤ (W : Int) * rD A O := by
  obtain ⟨g, hg⟩ : ∃ g, Nat.gcd A O = g := ⟨_, rfl⟩
  have hg0 : 0 < g := by rw [← hg]; exact Nat.gcd_pos_of_pos_right _ hO
  have eO : g * (O / g) = O := Nat.mul_div_cancel' (by rw [← hg]; exact Nat.gcd_dvd_right _ _)
  unfold rN rD
  rw [hg]
  have : A / g ≤ W * (O / g) := by
    refine Nat.div_le_of_le_mul ?_
    rw [← Nat.mul_assoc, Nat.mul_comm g W, Nat.mul_assoc, eO]
    exact h
  exact_mod_cast this
theorem rN_bd {A O : Nat} : 0 ≤ rN A O ∧ rN A O ≤ (A : Int) := by
  have := Nat.div_le_self A (Nat.gcd A O)
  exact ⟨Int.natCast_nonneg _, Int.ofNat_le.2 this⟩
theorem rD_bd {A O : Nat} (hO : 0 < O) : 1 ≤ rD A O ∧ rD A O ≤ (O : Int) := by
  have := Nat.div_le_self O (Nat.gcd A O)
  have h2 : 0 < O / Nat.gcd A O := Nat.div_pos (Nat.le_of_dvd hO (Nat.gcd_dvd_right _ _)) (Nat.gcd_pos_of_pos_right _ hO)
  exact ⟨Int.ofNat_le.2 h2, Int.ofNat_le.2 this⟩
end Go.Proofs.Ytkdlppekjjbgoaa
