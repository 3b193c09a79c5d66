/- Walks of small functions. -/
import Derived.Test.YtmfbfcknnjbabaaChecked
import Derived.WalkKit
import Derived.WalkSpells
import Derived.WalkLawsBesides
import Derived.BigQuiet
import Derived.Deep.QuietTactic
import Derived.Lib.Hide
import Derived.RowKit3
set_option linter.unusedSimpArgs false
set_option linter.unusedVariables false
namespace Go.Proofs.Ytmfbfcknnjbabaa
open Go.RowKit

theorem bA {a w : World} (h : Below a.heap.size a w) (o : Obj) : Below a.heap.size a (w.alloc o) := h.alloc h.size o
theorem bT {a b c : World} (h : Below a.heap.size a b) (k : Below b.heap.size b c) : Below a.heap.size a c := h.trans (k.mono h.size)
theorem bD {a w : World} (h : Below a.heap.size a w) (n : Nat) : Below a.heap.size a (w.drewN n) := ⟨h.os, h.tape, h.output, h.size, h.block⟩
theorem bd {a w : World} (h : Below a.heap.size a w) : Below a.heap.size a w.drew := ⟨h.os, h.tape, h.output, h.size, h.block⟩
theorem bS {a w : World} (h : Below a.heap.size a w) {p : Addr} (hp : a.heap.size ≤ p.block) (u : Value) : Below a.heap.size a (w.setCell p u) := h.setCell hp u

def within (n lo hi : Int) : Bool := decide (lo ≤ n ∧ n ≤ hi)
theorem within_tt {n lo hi : Int} (h : lo ≤ n) (h' : n ≤ hi) : within n lo hi = true := by simp [within, h, h']
theorem within_lo {n lo hi : Int} (h : n < lo) : within n lo hi = false := by simp [within]; omega
theorem within_eq {n lo hi : Int} (h : lo ≤ n) : within n lo hi = decide (n ≤ hi) := by simp [within, h]
theorem ret_b {a b : Bool} (h : a = b) : Ending.returned (.bool a) = .returned (.bool b) := by rw [h]

theorem within_any (n lo hi : Int) (w : World) :
    Calls Try.prog 49 #[.int .i64 n, .int .i64 lo, .int .i64 hi] w fun e w' => e = .returned (.bool (within n lo hi)) ∧ w = w' := by
  go_enter Try.func49, Try.ntmps49
  go_wp2
  · go_ret
    have h : lo ≤ n := by assumption
    exact ⟨ret_b (within_eq h).symm, rfl⟩
  · go_ret
    have h : n < lo := by assumption
    exact ⟨ret_b (within_lo h).symm, rfl⟩

/-- a town by value -/
def town (W : Int) (s r : Value) : Value := .agg #[.int .i64 W, s, r]

theorem isWell_any (W n : Int) (s r : Value) (w : World) (h0 : -100 ≤ W) (h1 : W ≤ 100) :
    Calls Try.prog 48 #[.agg #[.int .i64 W, s, r], .int .i64 n] w fun e w' => e = .returned (.bool (within n 0 (W-1))) ∧ Below w.heap.size w w' := by
  go_enter Try.func48, Try.ntmps48
  go_wp2_with (go_at_call 49; refine (within_any _ _ _ _).mono ?_; rintro e w' ⟨rfl, rfl⟩)
  go_ret
  exact ⟨rfl, (Below.refl _ _).alloc (Nat.le_refl _) _⟩
end Go.Proofs.Ytmfbfcknnjbabaa
