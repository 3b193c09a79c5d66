/- The cheapest gaugings where every gauging costs the same (mathematics). -/
import Derived.Test.YtkdlppekjjbgoaaV1

set_option linter.unusedSimpArgs false

set_option linter.unusedVariables false

namespace Go.Proofs.Ytkdlppekjjbgoaa

open Go.RowKit

/-- the cost among n stretches, 8 at the most, if every gauging costs x -/
def gEv (x : Int) (n : Nat) : Int := if n ≤ 1 then 0 else if n ≤ 2 then x else if n ≤ 4 then 2 * x else 3 * x
theorem gEv_mono {x : Int} (hx : 0 ≤ x) {a b : Nat} (h : a ≤ b) : gEv x a ≤ gEv x b := by
  unfold gEv
  split <;> split <;> (try split) <;> (try split) <;> (try split) <;> (try split) <;> omega
theorem gEv_half {x : Int} {n : Nat} (h : 1 < n) (h8 : n ≤ 8) : x + gEv x (n - n / 2) = gEv x n := by
  unfold gEv
  split <;> split <;> (try split) <;> (try split) <;> (try split) <;> (try split) <;> omega
theorem W_even {D : Duct} {x : Int} (hc : ∀ k, k < D.n → D.co k = x) (hx : 0 ≤ x) : ∀ {n f t : Nat}, t - f ≤ n → n ≤ 8 → t < D.n → WW D f t = gEv x (t - f)
  | 0, f, t, h, _, _ => by rw [W_one (by omega), show t - f = 0 by omega]; rfl
  | n + 1, f, t, h, h8, ht => by
    by_cases h2 : f + 1 < t
    · obtain ⟨p, p1, p2, _, p4, p5, _⟩ := W_spec (D := D) (f := f) (t := t) h2
      have i1 := W_even hc hx (n := n) (f := f) (t := p) (by omega) (by omega) (by omega)
      have i2 := W_even hc hx (n := n) (f := p) (t := t) (by omega) (by omega) ht
      have j1 := W_even hc hx (n := n) (f := f) (t := f + (t - f) / 2) (by omega) (by omega) (by omega)
      have j2 := W_even hc hx (n := n) (f := f + (t - f) / 2) (t := t) (by omega) (by omega) ht
      have q := p5 (f + (t - f) / 2) (by omega) (by omega)
      have hh := gEv_half (x := x) (n := t - f) (by omega) (by omega)
      rw [p4]
      unfold vW at q ⊢
      rw [i1, i2, j1, j2, hc p (by omega), hc (f + (t - f) / 2) (by omega)] at q
      rw [i1, i2, hc p (by omega)]
      rw [show t - (f + (t - f) / 2) = t - f - (t - f) / 2 by omega, show f + (t - f) / 2 - f = (t - f) / 2 by omega] at q
      have k1 := gEv_mono hx (a := (t - f) / 2) (b := t - f - (t - f) / 2) (by omega)
      have k2 : gEv x (t - f - (t - f) / 2) ≤ max (gEv x (p - f)) (gEv x (t - p)) := by
        rcases Nat.lt_or_ge (p - f) (t - p) with c | c
        · have := gEv_mono hx (a := t - f - (t - f) / 2) (b := t - p) (by omega); omega
        · have := gEv_mono hx (a := t - f - (t - f) / 2) (b := p - f) (by omega); omega
      omega
    · rw [W_one (by omega)]; unfold gEv; rw [if_pos (by omega)]
end Go.Proofs.Ytkdlppekjjbgoaa
