/- Rosters of hours: the room that is left, as eight numbers, and which street it is the room of (mathematics alone). -/
import Derived.Test.YtegkgfiaegpihaaM2

set_option linter.unusedSimpArgs false

set_option linter.unusedVariables false

namespace Go.Proofs.Ytegkgfiaegpihaa

/-- room that can be left: nothing behind the eighth hour -/
structure Rm (L : Nat → Int) : Prop where
  z : ∀ i, 8 ≤ i → L i = 0
  b : ∀ i, 0 ≤ L i ∧ L i ≤ 6
theorem Rm.dec {L : Nat → Int} (h : Rm L) {x : Nat} (hx : x < 8) (h0 : L x ≠ 0) : Rm (dec L x) := by
  refine ⟨fun i hi => ?_, fun i => ?_⟩
  · rw [dec_ne _ (by omega)]; exact h.z i hi
  · by_cases e : i = x
    · subst e; rw [dec_same]; have := h.b i; omega
    · rw [dec_ne _ e]; exact h.b i
def sumL (L : Nat → Int) : Int := sumN L 8
theorem sumN_dec {L : Nat → Int} {x : Nat} : ∀ {k : Nat}, sumN (dec L x) k = sumN L k - (if x < k then 1 else 0)
  | 0 => by simp [sumN]
  | k + 1 => by
    simp only [sumN]
    rw [sumN_dec (k := k)]
    by_cases e : k = x
    · subst e; rw [dec_same, if_neg (by omega), if_pos (by omega)]; omega
    · rw [dec_ne _ e]
      by_cases h : x < k
      · rw [if_pos h, if_pos (by omega)]; omega
      · rw [if_neg h, if_neg (by omega)]; omega
theorem sumL_dec {L : Nat → Int} {x : Nat} (hx : x < 8) : sumL (dec L x) = sumL L - 1 := by
  unfold sumL; rw [sumN_dec, if_pos hx]
/-- what is to be found for some room that is left -/
def sOf (D : Ro) (L : Nat → Int) : Nat := (sumL (lf0 D) - sumL L).toNat
def fV (D : Ro) (P : Pr) (L : Nat → Int) : Ch := chV D P (D.m - sOf D L) (sOf D L) L
def Str (D : Ro) (s : Nat) (L : Nat → Int) : Prop := sumL L = sumL (lf0 D) - s
theorem Str.eq {D : Ro} {s : Nat} {L : Nat → Int} (h : Str D s L) : sOf D L = s := by unfold sOf Str at *; omega
theorem Str.fV {D : Ro} {P : Pr} {s : Nat} {L : Nat → Int} (h : Str D s L) : fV D P L = chV D P (D.m - s) s L := by unfold Go.Proofs.Ytegkgfiaegpihaa.fV; rw [h.eq]
theorem Str.dec {D : Ro} {s : Nat} {L : Nat → Int} (h : Str D s L) {x : Nat} (hx : x < 8) : Str D (s + 1) (dec L x) := by
  unfold Str at *; rw [sumL_dec hx, h]; omega
theorem Str.zero (D : Ro) : Str D 0 (lf0 D) := by unfold Str; omega
theorem Rm.all {D : Ro} (hD : OkP D) : Rm (lf0 D) := by
  refine ⟨fun i hi => ?_, fun i => ?_⟩
  · unfold lf0; rw [if_neg (by have := hD.n; omega)]
  · unfold lf0; split
    · rename_i h; have := hD.rm i h; omega
    · omega
end Go.Proofs.Ytegkgfiaegpihaa
