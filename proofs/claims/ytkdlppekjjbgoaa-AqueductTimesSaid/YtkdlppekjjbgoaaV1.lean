/- The cheapest gaugings: fewer stretches, and what they cost at the most and at the least (mathematics); a box of four numbers. -/
import Derived.Test.YtkdlppekjjbgoaaW1

import Derived.Test.YtkdlppekjjbgoaaC4

set_option linter.unusedSimpArgs false

set_option linter.unusedVariables false

namespace Go.Proofs.Ytkdlppekjjbgoaa

open Go.RowKit

theorem W_nn {D : Duct} (hc : ∀ k, k < D.n → 0 ≤ D.co k ∧ D.co k ≤ 20) {f t : Nat} (ht : t < D.n) : 0 ≤ WW D f t := (W_bd hc (n := t - f) (Nat.le_refl _) ht).1
theorem W_mono {D : Duct} (hc : ∀ k, k < D.n → 0 ≤ D.co k ∧ D.co k ≤ 20) : ∀ {n a b c e : Nat}, b - a ≤ n → b < D.n → a ≤ c → e ≤ b → WW D c e ≤ WW D a b
  | 0, a, b, c, e, h, _, h1, h2 => by rw [W_one (f := c) (t := e) (by omega), W_one (f := a) (t := b) (by omega)]; exact Int.le_refl _
  | n + 1, a, b, c, e, h, hb, h1, h2 => by
    by_cases h3 : c + 1 < e
    · obtain ⟨p, p1, p2, _, p4, _, _⟩ := W_spec (D := D) (f := a) (t := b) (by omega)
      have hp := (hc p (by omega)).1
      have n1 := W_nn hc (f := a) (t := p) (by omega)
      have n2 := W_nn hc (f := p) (t := b) (by omega)
      rw [p4]
      rcases Nat.lt_or_ge c p with c1 | c1
      · rcases Nat.lt_or_ge p e with c2 | c2
        · obtain ⟨p0, _, _, _, q4, q5, _⟩ := W_spec (D := D) (f := c) (t := e) h3
          have q := q5 p c1 c2
          have i1 := W_mono hc (n := n) (a := a) (b := p) (c := c) (e := p) (by omega) (by omega) h1 (Nat.le_refl _)
          have i2 := W_mono hc (n := n) (a := p) (b := b) (c := p) (e := e) (by omega) hb (Nat.le_refl _) h2
          rw [q4]
          refine Int.le_trans q ?_
          unfold vW; omega
        · have i1 := W_mono hc (n := n) (a := a) (b := p) (c := c) (e := e) (by omega) (by omega) h1 c2
          unfold vW; omega
      · have i2 := W_mono hc (n := n) (a := p) (b := b) (c := c) (e := e) (by omega) hb c1 h2
        unfold vW; omega
    · rw [W_one (f := c) (t := e) (by omega)]; exact W_nn hc hb
/-- what the points below k cost -/
def sC (D : Duct) : Nat → Int
  | 0 => 0
  | k + 1 => sC D k + D.co k
theorem sC_bd {D : Duct} (hc : ∀ k, k < D.n → 0 ≤ D.co k ∧ D.co k ≤ 20) : ∀ {k i : Nat}, k + i ≤ D.n → 0 ≤ sC D (k + i) - sC D k ∧ sC D (k + i) - sC D k ≤ 20 * (i : Int)
  | k, 0, _ => by rw [Nat.add_zero]; omega
  | k, i + 1, h => by
    have a := sC_bd hc (k := k) (i := i) (by omega)
    have b := hc (k + i) (by omega)
    have e : sC D (k + (i + 1)) = sC D (k + i) + D.co (k + i) := rfl
    omega
theorem W_sum {D : Duct} (hc : ∀ k, k < D.n → 0 ≤ D.co k ∧ D.co k ≤ 20) : ∀ {n f t : Nat}, t - f ≤ n → f < t → t < D.n → WW D f t ≤ sC D t - sC D (f + 1)
  | 0, f, t, h, h1, _ => absurd h1 (by omega)
  | n + 1, f, t, h, h1, ht => by
    by_cases h2 : f + 1 < t
    · obtain ⟨p, p1, p2, _, p4, _, _⟩ := W_spec (D := D) (f := f) (t := t) h2
      have i1 := W_sum hc (n := n) (f := f) (t := p) (by omega) p1 (by omega)
      have i2 := W_sum hc (n := n) (f := p) (t := t) (by omega) p2 ht
      have n1 := W_nn hc (f := f) (t := p) (by omega)
      have n2 := W_nn hc (f := p) (t := t) (by omega)
      have e : sC D (p + 1) = sC D p + D.co p := rfl
      rw [p4]; unfold vW; omega
    · obtain rfl : t = f + 1 := by omega
      rw [W_one (Nat.le_refl _)]; omega
/-- the least cost of k points behind f; 20 if there are none -/
def mC (D : Duct) (f : Nat) : Nat → Int
  | 0 => 20
  | k + 1 => min (mC D f k) (D.co (f + 1 + k))
theorem mC_le {D : Duct} {f : Nat} : ∀ {k i : Nat}, i < k → mC D f k ≤ D.co (f + 1 + i)
  | 0, i, h => absurd h (Nat.not_lt_zero _)
  | k + 1, i, h => by
    show min _ _ ≤ _
    rcases Nat.lt_succ_iff_lt_or_eq.1 h with h1 | rfl
    · have := mC_le (D := D) (f := f) h1; omega
    · omega
theorem mC_bd {D : Duct} (hc : ∀ k, k < D.n → 0 ≤ D.co k ∧ D.co k ≤ 20) {f : Nat} : ∀ {k : Nat}, f + 1 + k ≤ D.n → 0 ≤ mC D f k ∧ mC D f k ≤ 20
  | 0, _ => by unfold mC; omega
  | k + 1, h => by
    have a := mC_bd hc (f := f) (k := k) (by omega)
    have b := hc (f + 1 + k) (by omega)
    show 0 ≤ min _ _ ∧ min _ _ ≤ _
    omega
theorem W_least {D : Duct} (hc : ∀ k, k < D.n → 0 ≤ D.co k ∧ D.co k ≤ 20) {f t : Nat} (h : f + 1 < t) (ht : t < D.n) : mC D f (t - f - 1) ≤ WW D f t := by
  obtain ⟨p, p1, p2, _, p4, _, _⟩ := W_spec (D := D) (f := f) (t := t) h
  have n1 := W_nn hc (f := f) (t := p) (by omega)
  have n2 := W_nn hc (f := p) (t := t) (by omega)
  have m := mC_le (D := D) (f := f) (k := t - f - 1) (i := p - f - 1) (by omega)
  rw [show f + 1 + (p - f - 1) = p by omega] at m
  rw [p4]; unfold vW; omega
theorem W_two {D : Duct} {f : Nat} : WW D f (f + 2) = sC D (f + 2) - sC D (f + 1) := by
  obtain ⟨p, p1, p2, _, p4, _, _⟩ := W_spec (D := D) (f := f) (t := f + 2) (by omega)
  obtain rfl : p = f + 1 := by omega
  have e : sC D (f + 2) = sC D (f + 1) + D.co (f + 1) := rfl
  rw [p4]; unfold vW
  rw [W_one (f := f) (t := f + 1) (by omega), W_one (f := f + 1) (t := f + 2) (by omega)]
  omega
structure FourBox (w : World) (b : Nat) (u0 u1 u2 u3 : Int) : Prop where
  lt : b < w.heap.size
  c0 : w.cell? ⟨b, 0, none⟩ = some (.int .i64 u0)
  c1 : w.cell? ⟨b, 1, none⟩ = some (.int .i64 u1)
  c2 : w.cell? ⟨b, 2, none⟩ = some (.int .i64 u2)
  c3 : w.cell? ⟨b, 3, none⟩ = some (.int .i64 u3)
theorem FourBox.bel {w w' : World} {b : Nat} {u0 u1 u2 u3 : Int} (h : FourBox w b u0 u1 u2 u3) (hb : Below w.heap.size w w') : FourBox w' b u0 u1 u2 u3 :=
  ⟨Nat.lt_of_lt_of_le h.lt hb.size, (hb.cell h.lt).trans h.c0, (hb.cell h.lt).trans h.c1, (hb.cell h.lt).trans h.c2, (hb.cell h.lt).trans h.c3⟩
theorem mk_four {w0 : World} (x0 : Ext w0) (t : TypeId) (u0 u1 u2 u3 : Int) :
    ∃ (w1 : World) (x : Ext w1), x0.v.alloc (Obj.cells #[.int .i64 u0, .int .i64 u1, .int .i64 u2, .int .i64 u3] t) = x.v ∧ Below w0.heap.size w0 w1 ∧ FourBox w1 x0.v.heap.size u0 u1 u2 u3 :=
  ⟨_, ⟨_, Below.refl _ _⟩, rfl, bA x0.b _, by simp, by go_simp, by go_simp, by go_simp, by go_simp⟩
end Go.Proofs.Ytkdlppekjjbgoaa
