/- Shafts: whether a rock can be, which numbers are ones of the shaft. -/
import Derived.Test.YtaaocomgmacjnabDoorA1

set_option linter.unusedSimpArgs false

set_option linter.unusedVariables false

namespace Go.Proofs.YtaaocomgmacjnabDoor

open Go.RowKit

set_option maxHeartbeats 1000000 in
theorem isRock_any (x : Rock) (w : World) :
    Calls Tryd.prog 58 #[.agg #[.int .i64 x.h, .int .i64 x.p, .int .i64 x.s, .int .i64 x.e]] w fun e w' => e = .returned (.bool (rockOk x)) ∧ Below w.heap.size w w' := by
  have key : rockOk x = ((x.e == -1 || within x.e 0 99) && (within x.h 0 9 && (within x.p 0 99 && within x.s 0 12))) := by
    have : within x.e (-1) 99 = (x.e == -1 || within x.e 0 99) := by
      unfold within
      by_cases h : x.e = -1
      · simp [h]
      · have h' : (x.e == -1) = false := by simp [h]
        rw [h', Bool.false_or]; congr 1; simp; omega
    unfold rockOk; rw [this]
  have K := Lib.hid key; clear key
  cases h0 : (x.e == -1) <;> cases h1 : within x.e 0 99 <;> cases h2 : within x.h 0 9 <;> cases h3 : within x.p 0 99 <;> cases h4 : within x.s 0 12
  all_goals
    go_enter Tryd.func58, Tryd.ntmps58
    go_wp2_with (go_at_call 59; refine (upTo_any _ _ _).mono ?_; rintro e w' ⟨rfl, rfl⟩)
    go_ret
    exact ⟨ret_b (by rw [K.out]; simp [h0, h1, h2, h3, h4]), bA (Below.refl _ _) _⟩
theorem isRockR_any (D H T n : Int) (q : Option Addr) (m c : Nat) (f : Value) (w : World) (hm : m ≤ 1000000) :
    Calls Tryd.prog 36 #[.agg #[.slice q m c, f, .int .i64 D, .int .i64 H, .int .i64 T], .int .i64 n] w fun e w' => e = .returned (.bool (within n 0 ((m : Int) - 1))) ∧ Below w.heap.size w w' := by
  go_enter Tryd.func36, Tryd.ntmps36
  go_wp2_with (go_at_call 35; refine (within_any _ _ _ _).mono ?_; rintro e w' ⟨rfl, rfl⟩)
  go_ret
  exact ⟨rfl, bA (Below.refl _ _) _⟩
theorem isFootR_any (D H T n : Int) (p : Option Addr) (m c : Nat) (r : Value) (w : World) (hm : m ≤ 1000000) :
    Calls Tryd.prog 39 #[.agg #[r, .slice p m c, .int .i64 D, .int .i64 H, .int .i64 T], .int .i64 n] w fun e w' => e = .returned (.bool (within n 0 ((m : Int) - 1))) ∧ Below w.heap.size w w' := by
  go_enter Tryd.func39, Tryd.ntmps39
  go_wp2_with (go_at_call 35; refine (within_any _ _ _ _).mono ?_; rintro e w' ⟨rfl, rfl⟩)
  go_ret
  exact ⟨rfl, bA (Below.refl _ _) _⟩
end Go.Proofs.YtaaocomgmacjnabDoor
