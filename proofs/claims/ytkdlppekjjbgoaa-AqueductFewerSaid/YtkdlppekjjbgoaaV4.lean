/- AqueductFewer returns true in every walk. -/
import Derived.Test.YtkdlppekjjbgoaaV2

import Derived.Test.YtkdlppekjjbgoaaV3

import Derived.Test.YtkdlppekjjbgoaaV5

set_option linter.unusedSimpArgs false

set_option linter.unusedVariables false

namespace Go.Proofs.Ytkdlppekjjbgoaa

open Go.RowKit

theorem fewer_law (D : Duct) (p q : Option Addr) (c d : Nat) (g0 g1 g2 g3 : Int) (w : World) (hn : D.n ≤ maxLen) (hm : D.m ≤ maxLen) (hi : DuctIn w w.heap.size D p q) :
    Calls Try.prog 6 #[.agg #[.slice p D.n c, .slice q D.m d], .agg #[.int .i64 g0, .int .i64 g1, .int .i64 g2, .int .i64 g3]] w fun e w' => e = .returned (.bool true) ∧ Below w.heap.size w w' := by
  cases hrd : (!(decide (40 < D.n) || decide (40 < D.m)) && D.ok) with
  | false => exact fewer_out1 D p q c d g0 g1 g2 g3 w hn hm hi hrd
  | true =>
    have h : (D.n ≤ 40 ∧ D.m ≤ 40) ∧ D.ok = true := by simpa using hrd
    obtain ⟨⟨hn4, hm4⟩, hok⟩ := h
    cases s0 : areS D g0 g1 with
    | false => exact fewer_out2 D p q c d g0 g1 g2 g3 w hn hm hi hrd hm4 s0
    | true =>
    cases s1 : areS D g2 g3 with
    | false => exact fewer_out3 D p q c d g0 g1 g2 g3 w hn hm hi hrd hm4 s0 s1
    | true =>
    by_cases h4 : g2 < g0
    · exact fewer_out4 D p q c d g0 g1 g2 g3 w hn hm hi hrd hm4 s0 s1 h4
    by_cases h5 : g1 < g3
    · exact fewer_out5 D p q c d g0 g1 g2 g3 w hn hm hi hrd hm4 s0 s1 h4 h5
    obtain ⟨a, b, ea, eb, hab, hbm⟩ := areS_nat s0
    obtain ⟨e, f, ee, ef, hef, hfm⟩ := areS_nat s1
    by_cases h2 : b = a + 1
    · exact fewer_one D p q c d g0 g1 g2 g3 w hn4 hm4 hi hrd hok a b e f ea eb ee ef hab hbm hef hfm (by omega) (by omega) h2
    · exact fewer_many D p q c d g0 g1 g2 g3 w hn4 hm4 hi hrd hok a b e f ea eb ee ef hab hbm hef hfm (by omega) (by omega) (by omega)
end Go.Proofs.Ytkdlppekjjbgoaa
