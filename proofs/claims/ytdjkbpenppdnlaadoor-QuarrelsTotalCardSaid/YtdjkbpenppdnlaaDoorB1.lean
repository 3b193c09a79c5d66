/- works of layer 5 says true (the evaluator), by what the package variables hold. -/
import Derived.Test.YtdjkbpenppdnlaaDoorA1

import Derived.Test.YtdjkbpenppdnlaaDoorV15

set_option linter.unusedSimpArgs false

set_option linter.unusedVariables false

namespace Go.Proofs.YtdjkbpenppdnlaaDoor

open Go.RowKit

def tab32 : List Int := [0, 1, 28, 2, 29, 14, 24, 3, 30, 22, 20, 15, 25, 17, 4, 8, 31, 27, 13, 23, 21, 19, 16, 7, 26, 12, 18, 6, 11, 5, 10, 9]
def tab64 : List Int := [0, 1, 56, 2, 57, 49, 28, 3, 61, 58, 42, 50, 38, 29, 17, 4, 62, 47, 59, 36, 45, 43, 51, 22, 53, 39, 33, 30, 24, 18, 12, 5, 63, 55, 48, 27, 60, 41, 37, 16, 46, 35, 44, 21, 52, 32, 23, 11, 54, 26, 40, 15, 34, 20, 31, 10, 25, 14, 19, 9, 13, 8, 7, 6]
def bytesV (l : List Int) : List Value := l.map (.int .u8)
/-- what the package variables hold -/
def laid : Globs := [(0, bytesV tab32), (1, bytesV tab64)]
theorem GlobsOk.below {gs : Globs} {w w' : World} (h : GlobsOk gs w) (hb : Below w.heap.size w w') : GlobsOk gs w' := fun p hp => by
  obtain ⟨e, he⟩ := h p hp
  exact ⟨e, (hb.block p.1 (Array.getElem?_eq_some_iff.1 he).1).trans he⟩
theorem laid_tab64 {w : World} (h : GlobsOk laid w) : 1 < w.heap.size ∧ ∀ i, i < 64 → w.cell? ⟨1, i, none⟩ = some (.int .u8 (tab64.getD i 0)) := by
  obtain ⟨e, he⟩ := h (1, bytesV tab64) (by unfold laid; exact List.mem_cons_of_mem _ List.mem_cons_self)
  refine ⟨(Array.getElem?_eq_some_iff.1 he).1, fun i hi => ?_⟩
  simp only [World.cell?, he]
  have : (bytesV tab64)[i]? = some (.int .u8 (tab64.getD i 0)) := by
    unfold bytesV
    rw [List.getElem?_map, List.getD_eq_getElem?_getD]
    have hl : tab64.length = 64 := rfl
    rw [List.getElem?_eq_getElem (by omega)]
    rfl
  simpa using this
set_option maxRecDepth 100000 in
theorem works_ex (w : World) (hg : GlobsOk laid w) : Calls Tryd.prog 16 #[] w fun e w' => e = .returned (.bool true) ∧ Below w.heap.size w w' :=
  says_trueG (N := 100000) (d := 60) (next := 30) (by kernel_rfl) (by kernel_rfl) w hg
end Go.Proofs.YtdjkbpenppdnlaaDoor
