/- Rosters of hours: those who can stay (mathematics alone). -/
import Derived.Test.YtegkgfiaegpihaaD0

set_option linter.unusedSimpArgs false

set_option linter.unusedVariables false

namespace Go.Proofs.Ytegkgfiaegpihaa

open Go.RowKit

theorem moved_nil {D : Ro} {f : Nat → Int} : ∀ {k : Nat}, movedL D f k = [] ↔ ∀ i, i < k → ¬ 0 < mv D i (f i)
  | 0 => by simp [movedL]
  | k + 1 => by
    have ih := moved_nil (D := D) (f := f) (k := k)
    simp only [movedL, List.append_eq_nil_iff]
    constructor
    · rintro ⟨h1, h2⟩ i hi
      rcases Nat.lt_succ_iff_lt_or_eq.1 hi with h3 | rfl
      · exact ih.1 h1 i h3
      · intro h4; rw [if_pos h4] at h2; cases h2
    · intro h
      exact ⟨ih.2 fun i hi => h i (by omega), if_neg (h k (by omega))⟩
theorem mv_nn {D : Ro} (hD : OkP D) {f : Nat → Int} (h : NR D f) {k : Nat} (hk : k < D.m) : 0 ≤ mv D k (f k) := (mvP_bd (hD.st k hk).hs (h.hr hD hk)).1
theorem far_zero {D : Ro} (hD : OkP D) {f : Nat → Int} (h : NR D f) : farF D f D.m ≤ 0 ↔ movedL D f D.m = [] := by
  rw [← near_iff (by omega), moved_nil]
  exact ⟨fun H i hi => by have := H i hi; omega, fun H k hk => by have := H k hk; omega⟩
theorem cost_zero {D : Ro} {f : Nat → Int} (hD : OkP D) (h : NR D f) (hm : movedL D f D.m = []) : costF D f D.m = 0 := by
  have := moved_nil.1 hm
  suffices H : ∀ k, k ≤ D.m → costF D f k = 0 from H _ (Nat.le_refl _)
  intro k
  induction k with
  | zero => intro _; rfl
  | succ k ih =>
    intro hk
    have h1 := this k (by omega)
    have h2 := mv_nn hD h (show k < D.m by omega)
    have h3 : mv D k (f k) = 0 := by omega
    show costF D f k + mv D k (f k) * D.co k = 0
    rw [ih (by omega), h3]; simp
theorem stay1 {D : Ro} (hD : OkP D) (h : Ex D) : frC D = 0 ↔ fwC D = 0 := by
  obtain ⟨a1, ⟨f, hf, hf2⟩, a3⟩ := fr_spec hD h
  obtain ⟨g, hg, hg2⟩ := fw_ex hD h
  have b1 := fw_bd hD h
  constructor
  · intro e
    have := (far_zero hD hf).1 (by omega)
    have h2 := fw_le hD hf
    unfold cntM at h2; rw [this] at h2
    simp at h2; omega
  · intro e
    have hz : movedL D g D.m = [] := by
      unfold cntM at hg2
      exact List.length_eq_zero_iff.1 (by omega)
    have := (far_zero hD hg).2 hz
    have := a3 g hg
    omega
theorem stay2 {D : Ro} (hD : OkP D) {f : Nat → Int} (h : NR D f) (hm : movedL D f D.m = []) : lsC D = 0 ∧ frC D = 0 ∧ fwC D = 0 := by
  have hx : Ex D := ⟨f, h⟩
  have h1 := ls_le hD h
  rw [cost_zero hD h hm] at h1
  have h2 := (ls_bd hD).1
  have h3 := (fr_spec hD hx).2.2 f h
  have h4 := (far_zero hD h).2 hm
  have h5 := (fr_spec hD hx).1.1
  have h6 : frC D = 0 := by omega
  exact ⟨by omega, h6, (stay1 hD hx).1 h6⟩
/-- the least Cost of the first k streets, at most 9 -/
def minC (D : Ro) : Nat → Int
  | 0 => 9
  | k + 1 => min (minC D k) (D.co k)
theorem minC_bd {D : Ro} (hD : OkP D) : ∀ {k : Nat}, k ≤ D.m → 0 ≤ minC D k ∧ minC D k ≤ 9
  | 0, _ => by simp [minC]
  | k + 1, hk => by have ih := minC_bd hD (k := k) (by omega); have := (hD.st k (by omega)).co; simp only [minC]; omega
theorem minC_le {D : Ro} : ∀ {k i : Nat}, i < k → minC D k ≤ D.co i
  | 0, _, h => by omega
  | k + 1, i, h => by
    simp only [minC]
    rcases Nat.lt_succ_iff_lt_or_eq.1 h with h1 | rfl
    · have := minC_le (D := D) h1; omega
    · omega
theorem stay3 {D : Ro} (hD : OkP D) (h : Ex D) : minC D D.m * fwC D ≤ lsC D := by
  obtain ⟨f, hf, hf2⟩ := ls_ex hD h
  have h1 := fw_le hD hf
  have hb := minC_bd hD (Nat.le_refl _)
  have h2 : minC D D.m * cntM D f D.m ≤ costF D f D.m := by
    suffices H : ∀ k, k ≤ D.m → minC D D.m * cntM D f k ≤ costF D f k from H _ (Nat.le_refl _)
    intro k
    induction k with
    | zero => intro _; simp [cntM, movedL, costF, sumN]
    | succ k ih =>
      intro hk
      have ih := ih (by omega)
      have hm := mv_nn hD hf (show k < D.m by omega)
      have hc := (hD.st k (by omega)).co
      have hl := minC_le (D := D) (show k < D.m by omega)
      show minC D D.m * cntM D f (k + 1) ≤ costF D f k + mv D k (f k) * D.co k
      have hp : 0 ≤ mv D k (f k) * D.co k := Int.mul_nonneg hm hc.1
      by_cases h3 : 0 < mv D k (f k)
      · have e : cntM D f (k + 1) = cntM D f k + 1 := by
          have e2 : movedL D f (k + 1) = movedL D f k ++ [k] := moved_hit h3
          unfold cntM; rw [e2]; simp
        rw [e, Int.mul_add, Int.mul_one]
        have : D.co k ≤ mv D k (f k) * D.co k := by
          have := Int.mul_le_mul_of_nonneg_right (show (1 : Int) ≤ mv D k (f k) by omega) hc.1
          rwa [Int.one_mul] at this
        omega
      · have e : cntM D f (k + 1) = cntM D f k := by
          have e2 : movedL D f (k + 1) = movedL D f k := moved_miss h3
          unfold cntM; rw [e2]
        rw [e]; omega
  have h4 : minC D D.m * fwC D ≤ minC D D.m * cntM D f D.m := Int.mul_le_mul_of_nonneg_left h1 hb.1
  omega
end Go.Proofs.Ytegkgfiaegpihaa
