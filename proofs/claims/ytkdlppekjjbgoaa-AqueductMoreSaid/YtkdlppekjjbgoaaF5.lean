/- AqueductMore returns true in every walk. -/
import Derived.Test.YtkdlppekjjbgoaaF2

import Derived.Test.YtkdlppekjjbgoaaF3

import Derived.Test.YtkdlppekjjbgoaaF4

set_option linter.unusedSimpArgs false

set_option linter.unusedVariables false

namespace Go.Proofs.Ytkdlppekjjbgoaa

open Go.RowKit

theorem more_law (D : Duct) (p q : Option Addr) (c d : Nat) (g0 g1 g2 g3 g4 : Int) (w : World) (hn : D.n ≤ maxLen) (hm : D.m ≤ maxLen) (hi : DuctIn w w.heap.size D p q) :
    Calls Try.prog 4 #[.agg #[.slice p D.n c, .slice q D.m d], .agg #[.int .i64 g0, .int .i64 g1, .int .i64 g2, .int .i64 g3, .int .i64 g4]] w fun e w' => e = .returned (.bool true) ∧ Below w.heap.size w w' := by
  cases hrd : (!(decide (40 < D.n) || decide (40 < D.m)) && D.ok) with
  | false => exact more_out1 D p q c d g0 g1 g2 g3 g4 w hn hm hi hrd
  | true =>
    have h : (D.n ≤ 40 ∧ D.m ≤ 40) ∧ D.ok = true := by simpa using hrd
    obtain ⟨⟨hn4, hm4⟩, hok⟩ := h
    cases i1 : isPt D g0 with
    | false => exact more_out2 D p q c d g0 g1 g2 g3 g4 w hn hm hi hrd hn4 i1
    | true =>
      obtain ⟨k, rfl, hk⟩ := isPt_nat i1
      cases hins : decide (D.lo k ≤ g1 ∧ g1 ≤ g2 ∧ g2 ≤ D.hi k) with
      | false => exact more_out3 D p q c d 0 g1 g2 g3 g4 w hn hm hi k hk hrd hn4 hins
      | true =>
        cases i4 : isPt D g4 with
        | false => exact more_out4 D p q c d 0 g1 g2 g3 g4 w hn hm hi k hk hrd hn4 hins i4
        | true =>
          obtain ⟨u, rfl, hu⟩ := isPt_nat i4
          have hin := of_decide_eq_true hins
          cases hoN : (nar D k g1 g2).one with
          | false => exact more_one D p q c d k u g1 g2 g3 w hn4 hm4 hi hrd hok hk hu hin hoN
          | true =>
            cases i5 : isSt D g3 with
            | false => exact more_nost D p q c d k u g1 g2 g3 w hn4 hm4 hi hrd hok hk hu hin hoN i5
            | true =>
              obtain ⟨s, rfl, hs⟩ := isSt_nat i5
              exact more_full D p q c d k u g1 g2 0 w hn4 hm4 hi hrd hok hk hu hin hoN s hs
end Go.Proofs.Ytkdlppekjjbgoaa
