/- works of layer 6 says true (the evaluator). -/
import Derived.Test.YtkdlppekjjbgoaaA1

import Derived.Test.YtkdlppekjjbgoaaE15

set_option linter.unusedSimpArgs false

set_option linter.unusedVariables false

namespace Go.Proofs.Ytkdlppekjjbgoaa

open Go.RowKit

set_option maxRecDepth 100000 in
theorem works_ex (w : World) : Calls Try.prog 16 #[] w fun e w' => e = .returned (.bool true) ∧ Below w.heap.size w w' :=
  says_true (N := 100000) (d := 60) (by kernel_rfl) (by kernel_rfl) w
end Go.Proofs.Ytkdlppekjjbgoaa
