/- works of layer 8 says true (the evaluator). -/
import Derived.Test.YtegkgfiaegpihaaA1

import Derived.Test.YtegkgfiaegpihaaE15

set_option linter.unusedSimpArgs false

set_option linter.unusedVariables false

namespace Go.Proofs.Ytegkgfiaegpihaa

open Go.RowKit

set_option maxRecDepth 100000 in
theorem works_ex (w : World) : Calls Try.prog 16 #[] w fun e w' => e = .returned (.bool true) ∧ Below w.heap.size w w' :=
  says_true (N := 200000) (d := 60) (by kernel_rfl) (by kernel_rfl) w
end Go.Proofs.Ytegkgfiaegpihaa
