/- AqueductEach returns true in every walk. -/
import Derived.Test.YtkdlppekjjbgoaaD2

import Derived.Test.YtkdlppekjjbgoaaD3

set_option linter.unusedSimpArgs false

set_option linter.unusedVariables false

namespace Go.Proofs.Ytkdlppekjjbgoaa

open Go.RowKit

theorem each_law (D : Duct) (p q : Option Addr) (c d : Nat) (tl : Nat) (t : Nat → Int) (r : Option Addr) (tc : Nat) (w : World) (hn : D.n ≤ maxLen) (hm : D.m ≤ maxLen) (hi : DuctIn w w.heap.size D p q) (hr : NumIn w w.heap.size tl t r) :
    Calls Try.prog 3 #[.agg #[.slice p D.n c, .slice q D.m d], .slice r tl tc] w fun e w' => e = .returned (.bool true) ∧ Below w.heap.size w w' := by
  cases hrd : (!(decide (40 < D.n) || decide (40 < D.m)) && D.ok) with
  | false => exact each_out1 D p q c d tl t r tc w hn hm hi hr hrd
  | true =>
    by_cases htl : 40 < tl
    · exact each_out2 D p q c d tl t r tc w hn hm hi hr hrd htl
    · have h : (D.n ≤ 40 ∧ D.m ≤ 40) ∧ D.ok = true := by simpa using hrd
      obtain ⟨⟨hn4, hm4⟩, hok⟩ := h
      cases hc : D.clash with
      | some x => exact each_clash D p q c d tl t r tc x.1 x.2 w hn4 hm4 (by omega) hok hc hi hr
      | none =>
        cases hT : D.truth tl t with
        | false => exact each_false D p q c d tl t r tc w hn4 hm4 (by omega) hok hc hT hi hr
        | true => exact each_true D p q c d tl t r tc w hn4 hm4 (by omega) hok hc hT hi hr
end Go.Proofs.Ytkdlppekjjbgoaa
