/- Small words for walks of laws: a box as a row, and equal lists. -/
import Derived.Test.YtmfbfcknnjbabaaG9
set_option linter.unusedSimpArgs false
set_option linter.unusedVariables false
namespace Go.Proofs.Ytmfbfcknnjbabaa
open Go.RowKit

theorem rowLt {W : World} {b : Nat} {o : Obj} (h : W.heap[b]? = some o) : b < W.heap.size := (Array.getElem?_eq_some_iff.1 h).1
theorem box_row (w : World) (x : Obj) : ∃ w1, w.alloc x = w1 ∧ Below w.heap.size w w1 ∧ w1.heap.size = w.heap.size + 1 ∧ w1.heap[w.heap.size]? = some x :=
  ⟨_, rfl, bA (Below.refl _ _) _, by simp, heap_alloc_new _ _⟩
theorem same_ints (xs : List Int) (n : Nat) (p q : Option Addr) (c d : Nat) (w : World) (hn : xs.length = n) (hx : xs.length ≤ 1000000) (h1 : Ints w p xs) (h2 : Ints w q xs) :
    Calls Try.prog 23 #[.slice p n c, .slice q n d] w fun e w' => e = .returned (.bool true) ∧ Below w.heap.size w w' := by
  subst hn
  refine (sameInts_any xs xs p q c d w hx hx h1 h2).mono ?_
  rintro e w' ⟨rfl, n, rfl⟩
  exact ⟨by simp, bD (Below.refl _ _) n⟩
end Go.Proofs.Ytmfbfcknnjbabaa
