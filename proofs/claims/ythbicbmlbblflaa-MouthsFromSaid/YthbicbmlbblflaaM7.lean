/- Boxes of mouths: what Exact gives, in lowest terms; all rounded parts together. -/
import Derived.Test.YthbicbmlbblflaaC8

import Derived.Test.YthbicbmlbblflaaM5

set_option linter.unusedSimpArgs false

set_option linter.unusedVariables false

namespace Go.Proofs.Ythbicbmlbblflaa

open Go.RowKit

/-- all shares together, or 1 -/
def mxA (D : Bx) : Int := if allS D < 1 then 1 else allS D
theorem rN_low {x y : Nat} (hy : 0 < y) : rN (x / Nat.gcd x y) (y / Nat.gcd x y) = ((x / Nat.gcd x y : Nat) : Int) ∧ rD (x / Nat.gcd x y) (y / Nat.gcd x y) = ((y / Nat.gcd x y : Nat) : Int) := by
  have hg : 0 < Nat.gcd x y := Nat.gcd_pos_of_pos_right _ hy
  have h := Nat.gcd_div_gcd_div_gcd_of_pos_right (n := x) hy
  unfold rN rD
  rw [h, Nat.div_one, Nat.div_one]
  exact ⟨rfl, rfl⟩
theorem cross_mul {a b x y g : Nat} (h1 : a * g = x) (h2 : b * g = y) : a * y = x * b := by subst h1; subst h2; rw [Nat.mul_right_comm, Nat.mul_assoc]
theorem ex_part {D : Bx} {F k : Nat} (hok : D.ok = true) (hF : F ≤ 40) (hk : k < D.n) : ∃ a b : Nat, exN D F k = (a : Int) ∧ exD D F k = (b : Int) ∧ 0 < b ∧ (b : Int) ≤ mxA D ∧ a ≤ 800 ∧ rN a b = (a : Int) ∧ rD a b = (b : Int) ∧
    (a : Int) * mxA D = (F : Int) * D.sh k * (b : Int) ∧ (RM D F k = ((a / b : Nat) : Int) ∨ RM D F k = ((a / b : Nat) : Int) + 1) := by
  have hs0 := ((Bx.ok_parts hok).2.2.1 k hk).1
  have hA0 := (allS_bd hok).1
  by_cases ha : allS D = 0
  · have hsk : D.sh k = 0 := by have := sh_le_all hok hk; omega
    refine ⟨0, 1, if_pos ha, if_pos ha, by omega, ?_, by omega, rfl, rfl, ?_, ?_⟩
    · unfold mxA; rw [ha]; decide
    · rw [hsk]; simp
    · rw [show RM D F = fun _ => 0 from if_pos ha]; simp
  · obtain ⟨y, hy⟩ : ∃ y : Nat, allS D = (y : Int) := ⟨(allS D).toNat, by omega⟩
    have hpb := part_bd (fl := (F : Int)) hok ⟨by omega, by omega⟩ hk
    obtain ⟨x, hx⟩ : ∃ x : Nat, (F : Int) * D.sh k = (x : Int) := ⟨((F : Int) * D.sh k).toNat, by omega⟩
    have hy0 : 0 < y := by omega
    have hg : 0 < Nat.gcd x y := Nat.gcd_pos_of_pos_right _ hy0
    have hm : mxA D = (y : Int) := by unfold mxA; rw [hy]; rw [if_neg (by omega)]
    have hdx := Nat.gcd_dvd_left x y
    have hdy := Nat.gcd_dvd_right x y
    have hl := rN_low (x := x) hy0
    have e1 : exN D F k = ((x / Nat.gcd x y : Nat) : Int) := by
      rw [show exN D F k = rN ((F : Int) * D.sh k).toNat (allS D).toNat from if_neg ha, hx, hy]; rfl
    have e2 : exD D F k = ((y / Nat.gcd x y : Nat) : Int) := by
      rw [show exD D F k = rD ((F : Int) * D.sh k).toNat (allS D).toNat from if_neg ha, hx, hy]; rfl
    have hmx : x / Nat.gcd x y * Nat.gcd x y = x := Nat.div_mul_cancel hdx
    have hmy : y / Nat.gcd x y * Nat.gcd x y = y := Nat.div_mul_cancel hdy
    have hq : x / Nat.gcd x y / (y / Nat.gcd x y) = x / y := by
      have := Nat.mul_div_mul_right (x / Nat.gcd x y) (y / Nat.gcd x y) hg
      rw [hmx, hmy] at this
      exact this.symm
    have h1 : x / Nat.gcd x y ≤ x := Nat.div_le_self _ _
    have h2 : y / Nat.gcd x y ≤ y := Nat.div_le_self _ _
    have hbp : 0 < y / Nat.gcd x y := Nat.div_pos (Nat.le_of_dvd hy0 hdy) hg
    refine ⟨x / Nat.gcd x y, y / Nat.gcd x y, e1, e2, hbp, by rw [hm]; omega, by omega, hl.1, hl.2, ?_, ?_⟩
    · rw [hm, hx]
      have := cross_mul hmx hmy
      exact_mod_cast this
    · rw [hq]
      have h3 := (got_last (fl := (F : Int)) hok ha).hh k
      have h4 : h0 D F k = ((x / y : Nat) : Int) := by
        rw [show h0 D F k = (F : Int) * D.sh k / allS D from if_pos hk, hx, hy]; rfl
      rw [h3, h4]
      split
      · exact .inr rfl
      · exact .inl (by omega)
theorem sum_got (h c : Nat → Int) : ∀ j : Nat, sumN (got h c j).2.1 5 = sumN h 5 + (j : Int)
  | 0 => by show sumN h 5 = _; omega
  | j + 1 => by
    show sumN (up (got h c j).2.1 (grt (got h c j).2.2 5)) 5 = _
    rw [sumN_up, if_pos (grt_lt _ (by omega)), sum_got h c j]; omega
theorem sum_RM {D : Bx} {fl : Int} (hok : D.ok = true) (ha : allS D ≠ 0) : sumN (RM D fl) D.n = fl := by
  rw [← sumN_padM (f := RM D fl) (n := D.n) (fun i hi => RM_out hok hi) (m := 5) (Bx.ok_parts hok).1, show RM D fl = (got (h0 D fl) (c0 D fl) (lft D fl).toNat).2.1 from if_neg ha, sum_got]
  have := (lft_bd (fl := fl) hok ha).1
  have e : lft D fl = fl - sumN (h0 D fl) 5 := rfl
  omega
theorem sum_RM0 {D : Bx} {fl : Int} (ha : allS D = 0) : ∀ k, sumN (RM D fl) k = 0
  | 0 => rfl
  | k + 1 => by show sumN (RM D fl) k + RM D fl k = 0; rw [sum_RM0 ha k, show RM D fl = fun _ => 0 from if_pos ha]; rfl
end Go.Proofs.Ythbicbmlbblflaa
