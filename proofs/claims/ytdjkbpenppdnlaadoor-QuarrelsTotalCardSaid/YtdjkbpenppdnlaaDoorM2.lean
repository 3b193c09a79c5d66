/- Worlds as bits (mathematics). -/
import Derived.Test.YtdjkbpenppdnlaaDoorM1

set_option linter.unusedSimpArgs false

set_option linter.unusedVariables false

namespace Go.Proofs.YtdjkbpenppdnlaaDoor

/-- the number whose bits are the numbers below n of which something is so -/
def mk (b : Nat → Bool) : Nat → Nat
  | 0 => 0
  | n + 1 => mk b n + (if b n then 2 ^ n else 0)
/-- the bits of a number below 64, ascending -/
def bitsM (m : Nat) : List Nat := pick (fun i => m.testBit i) 6
theorem mk_lt {b : Nat → Bool} : ∀ {n : Nat}, mk b n < 2 ^ n
  | 0 => by show 0 < 1; decide
  | n + 1 => by
    have := mk_lt (b := b) (n := n)
    have e : 2 ^ (n + 1) = 2 ^ n + 2 ^ n := by rw [Nat.pow_succ]; omega
    unfold mk
    split <;> omega
theorem mk_bit {b : Nat → Bool} : ∀ {n i : Nat}, (mk b n).testBit i = (decide (i < n) && b i)
  | 0, i => by simp [mk]
  | n + 1, i => by
    have hl := mk_lt (b := b) (n := n)
    have ih := mk_bit (b := b) (n := n) (i := i)
    unfold mk
    by_cases h : b n = true
    · rw [if_pos h, Nat.add_comm]
      rcases Nat.lt_trichotomy i n with h1 | h1 | h1
      · rw [Nat.testBit_two_pow_add_gt h1, ih]
        simp [h1, Nat.lt_succ_of_lt h1]
      · subst h1
        rw [Nat.testBit_two_pow_add_eq, Nat.testBit_lt_two_pow hl]
        simp [h]
      · have e : 2 ^ n + mk b n < 2 ^ i := by
          have : 2 ^ (n + 1) ≤ 2 ^ i := Nat.pow_le_pow_right (by decide) h1
          have e2 : 2 ^ (n + 1) = 2 ^ n + 2 ^ n := by rw [Nat.pow_succ]; omega
          omega
        rw [Nat.testBit_lt_two_pow e]
        have : ¬ i < n + 1 := by omega
        simp [this]
    · rw [if_neg h, Nat.add_zero, ih]
      by_cases h1 : i < n
      · simp [h1, Nat.lt_succ_of_lt h1]
      · by_cases h2 : i = n
        · subst h2; simp [h]
        · have : ¬ i < n + 1 := by omega
          simp [h1, this]
theorem pick_succ {b : Nat → Bool} {n : Nat} : pick b (n + 1) = pick b n ++ (if b n then [n] else []) := rfl
theorem pick_more {b : Nat → Bool} {n : Nat} : ∀ {m : Nat}, pick (fun i => decide (i < n) && b i) (n + m) = pick b n
  | 0 => pick_congr fun i hi => by have : i < n := hi; simp [this]
  | m + 1 => by
    rw [← Nat.add_assoc, pick_succ, pick_more]
    have : ¬ n + m < n := by omega
    simp [this]
theorem bits_mk {b : Nat → Bool} {n : Nat} (h : n ≤ 6) : bitsM (mk b n) = pick b n := by
  unfold bitsM
  rw [pick_congr (c := fun i => decide (i < n) && b i) fun i _ => mk_bit]
  have := pick_more (b := b) (n := n) (m := 6 - n)
  rw [show n + (6 - n) = 6 by omega] at this
  exact this
theorem mk_64 {b : Nat → Bool} {n : Nat} (h : n ≤ 6) : mk b n < 64 := by
  have := mk_lt (b := b) (n := n)
  have e : 2 ^ n ≤ 2 ^ 6 := Nat.pow_le_pow_right (by decide) h
  omega
/-- the lowest bit -/
def tz (m : Nat) : Nat := (bitsM m).headD 0
theorem bits_step : ∀ m, m < 64 → m ≠ 0 → bitsM m = tz m :: bitsM (m &&& (m - 1)) := by decide +kernel
theorem bits_less : ∀ m, m < 64 → m ≠ 0 → (m &&& (m - 1)) < m ∧ tz m < 6 := by decide +kernel
theorem bits_zero : bitsM 0 = [] := by decide +kernel
theorem bits_nil : ∀ m, m < 64 → (bitsM m = [] ↔ m = 0) := by decide +kernel
theorem or_add : ∀ n, n < 6 → ∀ m, m < 2 ^ n → m ||| 2 ^ n = m + 2 ^ n := by decide +kernel
theorem mk_or {b : Nat → Bool} {n : Nat} (hn : n < 6) (h : b n = true) : mk b n ||| 2 ^ n = mk b (n + 1) := by
  rw [or_add n hn _ mk_lt]
  show _ = mk b n + _
  rw [if_pos h]
theorem mk_skip {b : Nat → Bool} {n : Nat} (h : b n = false) : mk b (n + 1) = mk b n := by
  show mk b n + (if b n then _ else _) = _
  rw [h]; rfl
end Go.Proofs.YtdjkbpenppdnlaaDoor
