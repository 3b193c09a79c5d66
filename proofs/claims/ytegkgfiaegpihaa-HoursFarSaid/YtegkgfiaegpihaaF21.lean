/- Rosters of hours: the errors of Least, Roster, Far, Fewest, Fair and Bound of the program. -/
import Derived.Test.YtegkgfiaegpihaaF20

import Derived.Test.YtegkgfiaegpihaaF14

set_option linter.unusedSimpArgs false

set_option linter.unusedVariables false

namespace Go.Proofs.Ytegkgfiaegpihaa

open Go.RowKit

set_option maxRecDepth 100000 in
set_option maxHeartbeats 2000000 in
theorem leastP_er (D : Ro) (p q : Option Addr) (c d : Nat) (er : Int) (w : World) (hn : D.n ≤ maxLen) (hm : D.m ≤ maxLen) (hi : RoIn w w.heap.size D p q) (he : chkE D.ok true = er) (h0 : er ≠ 0) :
    Calls Try.prog 35 #[.agg #[.slice p D.n c, .slice q D.m d]] w fun e w' => e = .returned (.tuple #[.int .i64 0, .int .i64 er]) ∧ Below w.heap.size w w' := by
  obtain ⟨w1, x1, hw1, hb1, hz1, F0, F1, _⟩ := box_ro w p q D.n D.m c d
  have HB := Lib.hid hb1
  have HI : Hid (∀ x : Ext w1, RoIn x.v x.v.heap.size D p q) := fun x => (hi.bel hb1).bel x.b
  clear hb1 hz1 hi
  have HE := Lib.hid he; have HN0 := Lib.hid h0
  have j0 : (er != 0) = true := by simp [h0]
  clear he h0
  go_enter Try.func35, Try.ntmps35
  go_wp2_with fail
  refine (quiet_x (checkP_is HE.out _ hn hm (HI.out _))).mono ?_
  rintro e w' ⟨rfl, y, rfl⟩
  go_wp2
  go_ret2
  exact ⟨rfl, bT HB.out y.b⟩
set_option maxRecDepth 100000 in
set_option maxHeartbeats 2000000 in
theorem rosterP_er (D : Ro) (p q : Option Addr) (c d : Nat) (er : Int) (w : World) (hn : D.n ≤ maxLen) (hm : D.m ≤ maxLen) (hi : RoIn w w.heap.size D p q) (he : chkE D.ok true = er) (h0 : er ≠ 0) :
    Calls Try.prog 18 #[.agg #[.slice p D.n c, .slice q D.m d]] w fun e w' => e = .returned (.tuple #[.slice none 0 0, .int .i64 er]) ∧ Below w.heap.size w w' := by
  obtain ⟨w1, x1, hw1, hb1, hz1, F0, F1, _⟩ := box_ro w p q D.n D.m c d
  have HB := Lib.hid hb1
  have HI : Hid (∀ x : Ext w1, RoIn x.v x.v.heap.size D p q) := fun x => (hi.bel hb1).bel x.b
  clear hb1 hz1 hi
  have HE := Lib.hid he; have HN0 := Lib.hid h0
  have j0 : (er != 0) = true := by simp [h0]
  clear he h0
  go_enter Try.func18, Try.ntmps18
  go_wp2_with fail
  refine (quiet_x (checkP_is HE.out _ hn hm (HI.out _))).mono ?_
  rintro e w' ⟨rfl, y, rfl⟩
  go_wp2
  go_ret2
  exact ⟨rfl, bT HB.out y.b⟩
set_option maxRecDepth 100000 in
set_option maxHeartbeats 2000000 in
theorem farP_er (D : Ro) (p q : Option Addr) (c d : Nat) (er : Int) (w : World) (hn : D.n ≤ maxLen) (hm : D.m ≤ maxLen) (hi : RoIn w w.heap.size D p q) (he : chkE D.ok true = er) (h0 : er ≠ 0) :
    Calls Try.prog 53 #[.agg #[.slice p D.n c, .slice q D.m d]] w fun e w' => e = .returned (.tuple #[.int .i64 0, .int .i64 er]) ∧ Below w.heap.size w w' := by
  obtain ⟨w1, x1, hw1, hb1, hz1, F0, F1, _⟩ := box_ro w p q D.n D.m c d
  have HB := Lib.hid hb1
  have HI : Hid (∀ x : Ext w1, RoIn x.v x.v.heap.size D p q) := fun x => (hi.bel hb1).bel x.b
  clear hb1 hz1 hi
  have HE := Lib.hid he; have HN0 := Lib.hid h0
  have j0 : (er != 0) = true := by simp [h0]
  clear he h0
  go_enter Try.func53, Try.ntmps53
  go_wp2_with fail
  refine (quiet_x (checkP_is HE.out _ hn hm (HI.out _))).mono ?_
  rintro e w' ⟨rfl, y, rfl⟩
  go_wp2
  go_ret2
  exact ⟨rfl, bT HB.out y.b⟩
set_option maxRecDepth 100000 in
set_option maxHeartbeats 2000000 in
theorem fewestP_er (D : Ro) (p q : Option Addr) (c d : Nat) (er : Int) (w : World) (hn : D.n ≤ maxLen) (hm : D.m ≤ maxLen) (hi : RoIn w w.heap.size D p q) (he : chkE D.ok true = er) (h0 : er ≠ 0) :
    Calls Try.prog 55 #[.agg #[.slice p D.n c, .slice q D.m d]] w fun e w' => e = .returned (.tuple #[.int .i64 0, .int .i64 er]) ∧ Below w.heap.size w w' := by
  obtain ⟨w1, x1, hw1, hb1, hz1, F0, F1, _⟩ := box_ro w p q D.n D.m c d
  have HB := Lib.hid hb1
  have HI : Hid (∀ x : Ext w1, RoIn x.v x.v.heap.size D p q) := fun x => (hi.bel hb1).bel x.b
  clear hb1 hz1 hi
  have HE := Lib.hid he; have HN0 := Lib.hid h0
  have j0 : (er != 0) = true := by simp [h0]
  clear he h0
  go_enter Try.func55, Try.ntmps55
  go_wp2_with fail
  refine (quiet_x (checkP_is HE.out _ hn hm (HI.out _))).mono ?_
  rintro e w' ⟨rfl, y, rfl⟩
  go_wp2
  go_ret2
  exact ⟨rfl, bT HB.out y.b⟩
set_option maxRecDepth 100000 in
set_option maxHeartbeats 2000000 in
theorem fairP_er (D : Ro) (p q : Option Addr) (c d : Nat) (er : Int) (w : World) (hn : D.n ≤ maxLen) (hm : D.m ≤ maxLen) (hi : RoIn w w.heap.size D p q) (he : chkE D.ok true = er) (h0 : er ≠ 0) :
    Calls Try.prog 19 #[.agg #[.slice p D.n c, .slice q D.m d]] w fun e w' => e = .returned (.tuple #[.slice none 0 0, .int .i64 er]) ∧ Below w.heap.size w w' := by
  obtain ⟨w1, x1, hw1, hb1, hz1, F0, F1, _⟩ := box_ro w p q D.n D.m c d
  have HB := Lib.hid hb1
  have HI : Hid (∀ x : Ext w1, RoIn x.v x.v.heap.size D p q) := fun x => (hi.bel hb1).bel x.b
  clear hb1 hz1 hi
  have HE := Lib.hid he; have HN0 := Lib.hid h0
  have j0 : (er != 0) = true := by simp [h0]
  clear he h0
  go_enter Try.func19, Try.ntmps19
  go_wp2_with fail
  refine (quiet_x (farP_er D p q c d er _ hn hm (HI.out _) HE.out HN0.out)).mono ?_
  rintro e w' ⟨rfl, y, rfl⟩
  go_wp2
  go_ret2
  exact ⟨rfl, bT HB.out y.b⟩
set_option maxRecDepth 100000 in
set_option maxHeartbeats 2000000 in
theorem boundP_er (D : Ro) (p q : Option Addr) (c d : Nat) (st er : Int) (w : World) (hn : D.n ≤ maxLen) (hm : D.m ≤ maxLen) (hi : RoIn w w.heap.size D p q) (he : chkE D.ok (isS D st) = er) (h0 : er ≠ 0) :
    Calls Try.prog 37 #[.agg #[.slice p D.n c, .slice q D.m d], .int .i64 st] w fun e w' => e = .returned (.tuple #[.int .i64 0, .int .i64 er]) ∧ Below w.heap.size w w' := by
  obtain ⟨w1, x1, hw1, hb1, hz1, F0, F1, _⟩ := box_ro w p q D.n D.m c d
  have HB := Lib.hid hb1
  have HI : Hid (∀ x : Ext w1, RoIn x.v x.v.heap.size D p q) := fun x => (hi.bel hb1).bel x.b
  clear hb1 hz1 hi
  have HS := Lib.hid (fun y : Ext w1 => isStreet_any D p q c d st y.v)
  have HC := Lib.hid (fun y : Ext w1 => check_is (p := p) (q := q) (c := c) (d := d) he y.v hn hm (HI.out y))
  have j0 : (er != 0) = true := by simp [h0]
  obtain ⟨b, hb⟩ : ∃ b, isS D st = b := ⟨_, rfl⟩
  rw [hb] at HS HC
  clear he h0 hb
  go_enter Try.func37, Try.ntmps37
  go_wp2
  refine quiet_e (by kernel_rfl) (by kernel_rfl) ?_
  repeat (first | go_big_quiet_step ((first | (go_at_call 78; with_reducible exact quiet_x (HS.out _)) | (go_at_call 77; with_reducible exact quiet_x (HC.out _)))) | quiet_step ((first | (go_at_call 78; with_reducible exact quiet_x (HS.out _)) | (go_at_call 77; with_reducible exact quiet_x (HC.out _)))))
  refine wpQuiet_nil ?_
  intro w6 hw6
  obtain ⟨y3, rfl⟩ := hw6
  go_wp2
  go_ret2
  exact ⟨rfl, bT HB.out y3.b⟩
theorem far_parts {D : Ro} (h : farV D = false) : D.n ≤ 40 ∧ D.m ≤ 40 := by
  simp only [farV, hugeV, Bool.or_eq_false_iff, decide_eq_false_iff_not] at h
  omega
end Go.Proofs.Ytegkgfiaegpihaa
