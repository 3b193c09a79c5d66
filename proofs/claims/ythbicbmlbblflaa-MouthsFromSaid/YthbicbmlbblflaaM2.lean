/- Boxes of mouths: a gauge is worth no less to whom it goes (mathematics). -/
import Derived.Test.YthbicbmlbblflaaM1

set_option linter.unusedSimpArgs false

set_option linter.unusedVariables false

namespace Go.Proofs.Ythbicbmlbblflaa

theorem frac_trans {a b c x y z : Int} (h1 : a * y ≤ b * x) (h2 : b * z ≤ c * y) (hy : 0 < y) (hx : 0 ≤ x) (hz : 0 ≤ z) : a * z ≤ c * x := by
  have k1 : (a * y) * z ≤ (b * x) * z := Int.mul_le_mul_of_nonneg_right h1 hz
  have k2 : (b * z) * x ≤ (c * y) * x := Int.mul_le_mul_of_nonneg_right h2 hx
  have e1 : (a * y) * z = (a * z) * y := Int.mul_right_comm _ _ _
  have e2 : (b * x) * z = (b * z) * x := Int.mul_right_comm _ _ _
  have e3 : (c * y) * x = (c * x) * y := Int.mul_right_comm _ _ _
  have k3 : (a * z) * y ≤ (c * x) * y := by omega
  exact Int.le_of_mul_le_mul_right k3 hy
theorem btr_iff {D : Bx} {g : Nat → Int} {b k : Nat} : btr D g b k = true ↔ D.sh b * (2 * g k + 1) < D.sh k * (2 * g b + 1) := by simp [btr]
/-- the next gauge goes to whom it is worth the most -/
theorem nxA_max {D : Bx} {g : Nat → Int} (hg : ∀ i, 0 ≤ g i) : ∀ {k b : Nat}, nxA D g k = some b → ∀ i, i < k → blk D g i = false → D.sh i * (2 * g b + 1) ≤ D.sh b * (2 * g i + 1)
  | 0, b, h => by cases h
  | k + 1, b, h => by
    intro i hi hbi
    have gi := hg i; have gk := hg k; have gb := hg b
    cases hb : blk D g k with
    | true =>
      rw [nxA_blk hb] at h
      have : i ≠ k := fun e => by rw [e, hb] at hbi; cases hbi
      exact nxA_max hg h i (by omega) hbi
    | false =>
      cases h2 : nxA D g k with
      | none =>
        rw [nxA_first hb h2] at h
        cases h
        have : i = k := by
          rcases Nat.lt_or_ge i k with h3 | h3
          · have := nxA_none.1 h2 i h3; rw [hbi] at this; cases this
          · omega
        subst this
        exact Int.le_refl _
      | some c =>
        have ih := nxA_max hg h2
        have gc := hg c
        rw [nxA_btr hb h2] at h
        split at h
        · rename_i hbt
          cases h
          rw [btr_iff] at hbt
          rcases Nat.lt_succ_iff_lt_or_eq.1 hi with h3 | rfl
          · have h4 := ih i h3 hbi
            exact frac_trans (y := 2 * g c + 1) h4 (by omega) (by omega) (by omega) (by omega)
          · exact Int.le_refl _
        · rename_i hbt
          cases h
          rcases Nat.lt_succ_iff_lt_or_eq.1 hi with h3 | rfl
          · exact ih i h3 hbi
          · have : ¬ D.sh b * (2 * g i + 1) < D.sh i * (2 * g b + 1) := fun h => hbt (btr_iff.2 h)
            omega
theorem nx_max {D : Bx} {g : Nat → Int} (hg : ∀ i, 0 ≤ g i) {b : Nat} (h : nx D g = some b) {i : Nat} (hi : i < D.n) (hb : blk D g i = false) : D.sh i * (2 * g b + 1) ≤ D.sh b * (2 * g i + 1) := nxA_max hg h i hi hb
theorem blk_mk {D : Bx} {g : Nat → Int} {k : Nat} (h1 : D.sh k ≠ 0) (h2 : g k ≠ D.mo k) : blk D g k = false := by simp [blk, h1, h2]
/-- what a quarter has is worth no less than one more would be to another one -/
theorem gv_worth {D : Bx} (hok : D.ok = true) : ∀ (f a b : Nat), a < D.n → b < D.n → gv D f a ≠ 0 → gv D f b ≠ D.mo b → D.sh b * (2 * gv D f a - 1) ≤ D.sh a * (2 * gv D f b + 1)
  | 0, a, b, _, _, h, _ => absurd rfl h
  | f + 1, a, b, ha, hb, h1, h2 => by
    obtain ⟨o1, o2, o3, o4⟩ := Bx.ok_parts hok
    have g0 := fun i => (gv_bd hok f i).1
    have ga := g0 a; have gb := g0 b
    have sa := o3 a ha; have sb := o3 b hb
    cases h : nx D (gv D f) with
    | none => rw [(nx_none_next h).1] at *; exact gv_worth hok f a b ha hb h1 h2
    | some q =>
      rw [(nx_some_next h).1] at *
      obtain ⟨hq, hqb⟩ := nx_lt h
      obtain ⟨q1, q2⟩ := blk_no hqb
      by_cases e1 : a = q
      · subst e1
        rw [up_same]
        rw [show 2 * (gv D f a + 1) - 1 = 2 * gv D f a + 1 by omega]
        by_cases e2 : b = a
        · subst e2
          rw [up_same]
          exact Int.mul_le_mul_of_nonneg_left (by omega) sb.1
        · rw [up_ne _ e2] at h2 ⊢
          by_cases e3 : D.sh b = 0
          · rw [e3, Int.zero_mul]; exact Int.mul_nonneg sa.1 (by omega)
          · exact nx_max g0 h hb (blk_mk e3 h2)
      · rw [up_ne _ e1] at h1 ⊢
        by_cases e2 : b = q
        · subst e2
          rw [up_same]
          have ih := gv_worth hok f a b ha hb h1 q2
          have : D.sh a * (2 * gv D f b + 1) ≤ D.sh a * (2 * (gv D f b + 1) + 1) := Int.mul_le_mul_of_nonneg_left (by omega) sa.1
          omega
        · rw [up_ne _ e2] at h2 ⊢
          exact gv_worth hok f a b ha hb h1 h2
end Go.Proofs.Ythbicbmlbblflaa
