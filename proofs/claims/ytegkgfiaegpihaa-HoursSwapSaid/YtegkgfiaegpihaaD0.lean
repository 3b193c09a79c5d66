/- Rosters of hours: Least, Far and Fewest together, as the laws ask them. -/
import Derived.Test.YtegkgfiaegpihaaF5

import Derived.Test.YtegkgfiaegpihaaB1

set_option linter.unusedSimpArgs false

set_option linter.unusedVariables false

namespace Go.Proofs.Ytegkgfiaegpihaa

open Go.RowKit

/-- whether there is a new roster -/
def exB (D : Ro) : Bool := !(best D (prC D)).no
theorem exB_iff {D : Ro} (hD : OkP D) : exB D = true ↔ Ex D := by rw [← exC hD]; simp [exB]
theorem exB_N {D : Ro} (hD : OkP D) : (!(best D (prN D)).no) = exB D := by rw [Bool.eq_iff_iff, exB_iff hD, ← exN hD]; simp
theorem exB_T {D : Ro} (hD : OkP D) : (farT D 8).isSome = exB D := by rw [Bool.eq_iff_iff, exB_iff hD, exT hD]
def exE (D : Ro) : Int := if exB D then 0 else 3
def tL (D : Ro) : Int := if exB D then lsC D else 0
def tM (D : Ro) : Int := if exB D then frC D else 0
def tN (D : Ro) : Int := if exB D then fwC D else 0
theorem t_bd {D : Ro} (hD : OkP D) : (0 ≤ tL D ∧ tL D ≤ 378) ∧ (0 ≤ tM D ∧ tM D ≤ 7) ∧ 0 ≤ tN D ∧ tN D ≤ D.m := by
  unfold tL tM tN
  cases h : exB D with
  | true =>
    have hx := (exB_iff hD).1 h
    exact ⟨ls_bd hD, (fr_spec hD hx).1, fw_bd hD hx⟩
  | false => simp
theorem exE_is {D : Ro} : exE D = 0 ∧ exB D = true ∨ exE D = 3 ∧ exB D = false := by unfold exE; cases exB D <;> simp
theorem least_is {D : Ro} {p q : Option Addr} {c d : Nat} (hD : OkP D) (w : World) (hI : RoIn w w.heap.size D p q) : Calls Try.prog 35 #[.agg #[.slice p D.n c, .slice q D.m d]] w fun e w' => e = .returned (.tuple #[.int .i64 (tL D), .int .i64 (exE D)]) ∧ Below w.heap.size w w' := leastP_any D p q c d hD w hI
theorem far_is' {D : Ro} {p q : Option Addr} {c d : Nat} (hD : OkP D) (w : World) (hI : RoIn w w.heap.size D p q) : Calls Try.prog 53 #[.agg #[.slice p D.n c, .slice q D.m d]] w fun e w' => e = .returned (.tuple #[.int .i64 (tM D), .int .i64 (exE D)]) ∧ Below w.heap.size w w' := by
  have := farP_any D p q c d hD w hI
  rw [exB_T hD] at this; exact this
theorem fewest_is {D : Ro} {p q : Option Addr} {c d : Nat} (hD : OkP D) (w : World) (hI : RoIn w w.heap.size D p q) : Calls Try.prog 55 #[.agg #[.slice p D.n c, .slice q D.m d]] w fun e w' => e = .returned (.tuple #[.int .i64 (tN D), .int .i64 (exE D)]) ∧ Below w.heap.size w w' := by
  have := fewestP_any D p q c d hD w hI
  rw [exB_N hD] at this; exact this
set_option maxRecDepth 100000 in
set_option maxHeartbeats 4000000 in
theorem three_walk (D : Ro) (p q : Option Addr) (c d : Nat) (l m n er : Int) (b : Bool) (hm6 : D.m ≤ 6) (hl : 0 ≤ l ∧ l ≤ 378) (hmm : 0 ≤ m ∧ m ≤ 7) (hnn : 0 ≤ n ∧ n ≤ D.m) (he : (er = 0 ∧ b = true) ∨ (er = 3 ∧ b = false)) (w : World) (hI : RoIn w w.heap.size D p q)
    (HL : ∀ V, RoIn V V.heap.size D p q → Calls Try.prog 35 #[.agg #[.slice p D.n c, .slice q D.m d]] V fun e w' => e = .returned (.tuple #[.int .i64 l, .int .i64 er]) ∧ Below V.heap.size V w')
    (HF : ∀ V, RoIn V V.heap.size D p q → Calls Try.prog 53 #[.agg #[.slice p D.n c, .slice q D.m d]] V fun e w' => e = .returned (.tuple #[.int .i64 m, .int .i64 er]) ∧ Below V.heap.size V w')
    (HW : ∀ V, RoIn V V.heap.size D p q → Calls Try.prog 55 #[.agg #[.slice p D.n c, .slice q D.m d]] V fun e w' => e = .returned (.tuple #[.int .i64 n, .int .i64 er]) ∧ Below V.heap.size V w') :
    Calls Try.prog 17 #[.agg #[.slice p D.n c, .slice q D.m d]] w fun e w' => e = .returned (.tuple #[.int .i64 l, .int .i64 m, .int .i64 n, .bool b, .bool false]) ∧ Below w.heap.size w w' := by
  obtain ⟨w1, x, hw1, hb1, hz1, F0, F1, _⟩ := box_ro w p q D.n D.m c d
  have HB := Lib.hid hb1
  have HI : Hid (∀ x : Ext w1, RoIn x.v x.v.heap.size D p q) := fun x => (hI.bel hb1).bel x.b
  have HL' := Lib.hid HL; have HF' := Lib.hid HF; have HW' := Lib.hid HW
  have j1 : decide (l < 0) = false := by simp; omega
  have j2 : decide (10000 < l) = false := by simp; omega
  have j3 : decide (m < 0) = false := by simp; omega
  have j4 : decide (8 < m) = false := by simp; omega
  have j5 : decide (n < 0) = false := by simp; omega
  have j6 : decide ((D.m : Int) < n) = false := by simp; omega
  have k1 : ¬ l < 0 := by omega
  have k2 : ¬ 10000 < l := by omega
  have k3 : ¬ m < 0 := by omega
  have k4 : ¬ 8 < m := by omega
  have k5 : ¬ n < 0 := by omega
  have k6 : ¬ (D.m : Int) < n := by omega
  clear hb1 hz1 hI HL HF HW
  rcases he with ⟨rfl, rfl⟩ | ⟨rfl, rfl⟩
  · have i1 : ((0 : Int) != 0) = false := by decide
    have i2 : ((0 : Int) == 0) = true := by decide
    have HX := HB
    go_enter Try.func17, Try.ntmps17
    go_wp2_with fail
    refine (quiet_x (HL'.out _ (HI.out _))).mono ?_
    rintro e w' ⟨rfl, y1, rfl⟩
    go_wp2_with fail
    refine (quiet_x (HF'.out _ (HI.out _))).mono ?_
    rintro e w' ⟨rfl, y2, rfl⟩
    go_wp2_with fail
    refine (quiet_x (HW'.out _ (HI.out _))).mono ?_
    rintro e w' ⟨rfl, y3, rfl⟩
    go_wp2
    exact bodyPost_ret (v := .tuple #[.int .i64 l, .int .i64 m, .int .i64 n, .bool true, .bool false]) (by simp [results, Try.f17, go_sem]) rfl ⟨rfl, bT HB.out y3.b⟩
  · have i1 : ((3 : Int) != 0) = true := by decide
    have i2 : ((3 : Int) == 0) = false := by decide
    have i3 : ((3 : Int) != 3) = false := by decide
    have HX := HB
    go_enter Try.func17, Try.ntmps17
    go_wp2_with fail
    refine (quiet_x (HL'.out _ (HI.out _))).mono ?_
    rintro e w' ⟨rfl, y1, rfl⟩
    go_wp2_with fail
    refine (quiet_x (HF'.out _ (HI.out _))).mono ?_
    rintro e w' ⟨rfl, y2, rfl⟩
    go_wp2_with fail
    refine (quiet_x (HW'.out _ (HI.out _))).mono ?_
    rintro e w' ⟨rfl, y3, rfl⟩
    go_wp2
    exact bodyPost_ret (v := .tuple #[.int .i64 l, .int .i64 m, .int .i64 n, .bool false, .bool false]) (by simp [results, Try.f17, go_sem]) rfl ⟨rfl, bT HB.out y3.b⟩
theorem three_any (D : Ro) (p q : Option Addr) (c d : Nat) (hD : OkP D) (w : World) (hI : RoIn w w.heap.size D p q) : Calls Try.prog 17 #[.agg #[.slice p D.n c, .slice q D.m d]] w fun e w' => e = .returned (.tuple #[.int .i64 (tL D), .int .i64 (tM D), .int .i64 (tN D), .bool (exB D), .bool false]) ∧ Below w.heap.size w w' := by
  obtain ⟨h1, h2, h3⟩ := t_bd hD
  exact three_walk D p q c d (tL D) (tM D) (tN D) (exE D) (exB D) hD.m h1 h2 h3 exE_is w hI (fun V h => least_is hD V h) (fun V h => far_is' hD V h) (fun V h => fewest_is hD V h)
end Go.Proofs.Ytegkgfiaegpihaa
