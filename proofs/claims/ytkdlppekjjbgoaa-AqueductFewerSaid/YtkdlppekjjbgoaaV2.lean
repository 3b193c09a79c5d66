/- AqueductFewer returns true in every walk: the ways out ahead of the gaugings. -/
import Derived.Test.YtkdlppekjjbgoaaA8

import Derived.Test.YtkdlppekjjbgoaaB1

import Derived.Test.YtkdlppekjjbgoaaC1

import Derived.Test.YtkdlppekjjbgoaaW4

import Derived.Test.YtkdlppekjjbgoaaV1

set_option linter.unusedSimpArgs false

set_option linter.unusedVariables false

namespace Go.Proofs.Ytkdlppekjjbgoaa

open Go.RowKit

set_option maxRecDepth 100000 in
set_option maxHeartbeats 4000000 in
theorem fewer_out1 (D : Duct) (p q : Option Addr) (c d : Nat) (g0 g1 g2 g3 : Int) (w : World) (hn : D.n ≤ maxLen) (hm : D.m ≤ maxLen) (hi : DuctIn w w.heap.size D p q) (hrd : (!(decide (40 < D.n) || decide (40 < D.m)) && D.ok) = false) :
    Calls Try.prog 6 #[.agg #[.slice p D.n c, .slice q D.m d], .agg #[.int .i64 g0, .int .i64 g1, .int .i64 g2, .int .i64 g3]] w fun e w' => e = .returned (.bool true) ∧ Below w.heap.size w w' := by
  have HRD := Lib.hid (show ∀ V : World, DuctIn V V.heap.size D p q → Calls Try.prog 15 #[.agg #[.slice p D.n c, .slice q D.m d]] V fun e w' => e = .returned (.bool false) ∧ Below V.heap.size V w' from fun V h => by
    have := ready_any D p q c d V hn hm h
    rw [hrd] at this
    exact this)
  obtain ⟨w1, x, e1, hb1, hl1⟩ := mk_line w p q D.n D.m c d
  obtain ⟨w2, x2, e2, b2, f2⟩ := mk_four x 56 g0 g1 g2 g3
  have HB := Lib.hid (bT hb1 b2)
  have HI := Lib.hid ((hi.bel hb1).bel b2)
  have HLb := Lib.hid (hl1.bel b2)
  have HF := Lib.hid f2
  clear hb1 hl1 hi b2 f2
  have L0 : ∀ z : Ext w2, z.v.cell? ⟨w.heap.size, 0, none⟩ = some (.slice p D.n c) := fun z => (HLb.out.bel z.b).c0
  have L1 : ∀ z : Ext w2, z.v.cell? ⟨w.heap.size, 1, none⟩ = some (.slice q D.m d) := fun z => (HLb.out.bel z.b).c1
  have V0 : ∀ z : Ext w2, z.v.cell? ⟨x.v.heap.size, 0, none⟩ = some (.int .i64 g0) := fun z => (HF.out.bel z.b).c0
  have V1 : ∀ z : Ext w2, z.v.cell? ⟨x.v.heap.size, 1, none⟩ = some (.int .i64 g1) := fun z => (HF.out.bel z.b).c1
  have V2 : ∀ z : Ext w2, z.v.cell? ⟨x.v.heap.size, 2, none⟩ = some (.int .i64 g2) := fun z => (HF.out.bel z.b).c2
  have V3 : ∀ z : Ext w2, z.v.cell? ⟨x.v.heap.size, 3, none⟩ = some (.int .i64 g3) := fun z => (HF.out.bel z.b).c3
  go_enter Try.func6, Try.ntmps6
  go_wp2_with fail
  refine (quiet_x (HRD.out _ (HI.out.bel (Ext.b _)))).mono ?_
  rintro e w' ⟨rfl, y, rfl⟩
  go_wp2_with fail
  refine (quiet_x (works_ex _)).mono ?_
  rintro e w' ⟨rfl, y, rfl⟩
  go_wp2_with fail
  go_ret
  exact ⟨rfl, bT HB.out (Ext.b _)⟩
set_option maxRecDepth 100000 in
set_option maxHeartbeats 4000000 in
theorem fewer_out2 (D : Duct) (p q : Option Addr) (c d : Nat) (g0 g1 g2 g3 : Int) (w : World) (hn : D.n ≤ maxLen) (hm : D.m ≤ maxLen) (hi : DuctIn w w.heap.size D p q) (hrd : (!(decide (40 < D.n) || decide (40 < D.m)) && D.ok) = true) (hm4 : D.m ≤ 40) (s0 : areS D g0 g1 = false) :
    Calls Try.prog 6 #[.agg #[.slice p D.n c, .slice q D.m d], .agg #[.int .i64 g0, .int .i64 g1, .int .i64 g2, .int .i64 g3]] w fun e w' => e = .returned (.bool true) ∧ Below w.heap.size w w' := by
  have HRD := Lib.hid (show ∀ V : World, DuctIn V V.heap.size D p q → Calls Try.prog 15 #[.agg #[.slice p D.n c, .slice q D.m d]] V fun e w' => e = .returned (.bool true) ∧ Below V.heap.size V w' from fun V h => by
    have := ready_any D p q c d V hn hm h
    rw [hrd] at this
    exact this)
  have HS0 := Lib.hid (show ∀ V : World, Calls Try.prog 35 #[.agg #[.slice p D.n c, .slice q D.m d], .int .i64 g0, .int .i64 g1] V fun e w' => e = .returned (.bool false) ∧ Below V.heap.size V w' from fun V => by
    have := areSomeR_any D p q c d g0 g1 V hm4
    rw [s0] at this
    exact this)
  obtain ⟨w1, x, e1, hb1, hl1⟩ := mk_line w p q D.n D.m c d
  obtain ⟨w2, x2, e2, b2, f2⟩ := mk_four x 56 g0 g1 g2 g3
  have HB := Lib.hid (bT hb1 b2)
  have HI := Lib.hid ((hi.bel hb1).bel b2)
  have HLb := Lib.hid (hl1.bel b2)
  have HF := Lib.hid f2
  clear hb1 hl1 hi b2 f2
  have L0 : ∀ z : Ext w2, z.v.cell? ⟨w.heap.size, 0, none⟩ = some (.slice p D.n c) := fun z => (HLb.out.bel z.b).c0
  have L1 : ∀ z : Ext w2, z.v.cell? ⟨w.heap.size, 1, none⟩ = some (.slice q D.m d) := fun z => (HLb.out.bel z.b).c1
  have V0 : ∀ z : Ext w2, z.v.cell? ⟨x.v.heap.size, 0, none⟩ = some (.int .i64 g0) := fun z => (HF.out.bel z.b).c0
  have V1 : ∀ z : Ext w2, z.v.cell? ⟨x.v.heap.size, 1, none⟩ = some (.int .i64 g1) := fun z => (HF.out.bel z.b).c1
  have V2 : ∀ z : Ext w2, z.v.cell? ⟨x.v.heap.size, 2, none⟩ = some (.int .i64 g2) := fun z => (HF.out.bel z.b).c2
  have V3 : ∀ z : Ext w2, z.v.cell? ⟨x.v.heap.size, 3, none⟩ = some (.int .i64 g3) := fun z => (HF.out.bel z.b).c3
  go_enter Try.func6, Try.ntmps6
  go_wp2_with fail
  refine (quiet_x (HRD.out _ (HI.out.bel (Ext.b _)))).mono ?_
  rintro e w' ⟨rfl, y, rfl⟩
  go_wp2_with fail
  refine (quiet_x (HS0.out _)).mono ?_
  rintro e w' ⟨rfl, y, rfl⟩
  go_wp2_with fail
  refine (quiet_x (works_ex _)).mono ?_
  rintro e w' ⟨rfl, y, rfl⟩
  go_wp2_with fail
  go_ret
  exact ⟨rfl, bT HB.out (Ext.b _)⟩
set_option maxRecDepth 100000 in
set_option maxHeartbeats 4000000 in
theorem fewer_out3 (D : Duct) (p q : Option Addr) (c d : Nat) (g0 g1 g2 g3 : Int) (w : World) (hn : D.n ≤ maxLen) (hm : D.m ≤ maxLen) (hi : DuctIn w w.heap.size D p q) (hrd : (!(decide (40 < D.n) || decide (40 < D.m)) && D.ok) = true) (hm4 : D.m ≤ 40) (s0 : areS D g0 g1 = true) (s1 : areS D g2 g3 = false) :
    Calls Try.prog 6 #[.agg #[.slice p D.n c, .slice q D.m d], .agg #[.int .i64 g0, .int .i64 g1, .int .i64 g2, .int .i64 g3]] w fun e w' => e = .returned (.bool true) ∧ Below w.heap.size w w' := by
  have HRD := Lib.hid (show ∀ V : World, DuctIn V V.heap.size D p q → Calls Try.prog 15 #[.agg #[.slice p D.n c, .slice q D.m d]] V fun e w' => e = .returned (.bool true) ∧ Below V.heap.size V w' from fun V h => by
    have := ready_any D p q c d V hn hm h
    rw [hrd] at this
    exact this)
  have HS0 := Lib.hid (show ∀ V : World, Calls Try.prog 35 #[.agg #[.slice p D.n c, .slice q D.m d], .int .i64 g0, .int .i64 g1] V fun e w' => e = .returned (.bool true) ∧ Below V.heap.size V w' from fun V => by
    have := areSomeR_any D p q c d g0 g1 V hm4
    rw [s0] at this
    exact this)
  have HS1 := Lib.hid (show ∀ V : World, Calls Try.prog 35 #[.agg #[.slice p D.n c, .slice q D.m d], .int .i64 g2, .int .i64 g3] V fun e w' => e = .returned (.bool false) ∧ Below V.heap.size V w' from fun V => by
    have := areSomeR_any D p q c d g2 g3 V hm4
    rw [s1] at this
    exact this)
  obtain ⟨w1, x, e1, hb1, hl1⟩ := mk_line w p q D.n D.m c d
  obtain ⟨w2, x2, e2, b2, f2⟩ := mk_four x 56 g0 g1 g2 g3
  have HB := Lib.hid (bT hb1 b2)
  have HI := Lib.hid ((hi.bel hb1).bel b2)
  have HLb := Lib.hid (hl1.bel b2)
  have HF := Lib.hid f2
  clear hb1 hl1 hi b2 f2
  have L0 : ∀ z : Ext w2, z.v.cell? ⟨w.heap.size, 0, none⟩ = some (.slice p D.n c) := fun z => (HLb.out.bel z.b).c0
  have L1 : ∀ z : Ext w2, z.v.cell? ⟨w.heap.size, 1, none⟩ = some (.slice q D.m d) := fun z => (HLb.out.bel z.b).c1
  have V0 : ∀ z : Ext w2, z.v.cell? ⟨x.v.heap.size, 0, none⟩ = some (.int .i64 g0) := fun z => (HF.out.bel z.b).c0
  have V1 : ∀ z : Ext w2, z.v.cell? ⟨x.v.heap.size, 1, none⟩ = some (.int .i64 g1) := fun z => (HF.out.bel z.b).c1
  have V2 : ∀ z : Ext w2, z.v.cell? ⟨x.v.heap.size, 2, none⟩ = some (.int .i64 g2) := fun z => (HF.out.bel z.b).c2
  have V3 : ∀ z : Ext w2, z.v.cell? ⟨x.v.heap.size, 3, none⟩ = some (.int .i64 g3) := fun z => (HF.out.bel z.b).c3
  go_enter Try.func6, Try.ntmps6
  go_wp2_with fail
  refine (quiet_x (HRD.out _ (HI.out.bel (Ext.b _)))).mono ?_
  rintro e w' ⟨rfl, y, rfl⟩
  go_wp2_with fail
  refine (quiet_x (HS0.out _)).mono ?_
  rintro e w' ⟨rfl, y, rfl⟩
  go_wp2_with fail
  refine (quiet_x (HS1.out _)).mono ?_
  rintro e w' ⟨rfl, y, rfl⟩
  go_wp2_with fail
  refine (quiet_x (works_ex _)).mono ?_
  rintro e w' ⟨rfl, y, rfl⟩
  go_wp2_with fail
  go_ret
  exact ⟨rfl, bT HB.out (Ext.b _)⟩
set_option maxRecDepth 100000 in
set_option maxHeartbeats 4000000 in
theorem fewer_out4 (D : Duct) (p q : Option Addr) (c d : Nat) (g0 g1 g2 g3 : Int) (w : World) (hn : D.n ≤ maxLen) (hm : D.m ≤ maxLen) (hi : DuctIn w w.heap.size D p q) (hrd : (!(decide (40 < D.n) || decide (40 < D.m)) && D.ok) = true) (hm4 : D.m ≤ 40) (s0 : areS D g0 g1 = true) (s1 : areS D g2 g3 = true) (hlt : g2 < g0) :
    Calls Try.prog 6 #[.agg #[.slice p D.n c, .slice q D.m d], .agg #[.int .i64 g0, .int .i64 g1, .int .i64 g2, .int .i64 g3]] w fun e w' => e = .returned (.bool true) ∧ Below w.heap.size w w' := by
  have d1 : decide (g2 < g0) = true := by simpa using hlt
  have HRD := Lib.hid (show ∀ V : World, DuctIn V V.heap.size D p q → Calls Try.prog 15 #[.agg #[.slice p D.n c, .slice q D.m d]] V fun e w' => e = .returned (.bool true) ∧ Below V.heap.size V w' from fun V h => by
    have := ready_any D p q c d V hn hm h
    rw [hrd] at this
    exact this)
  have HS0 := Lib.hid (show ∀ V : World, Calls Try.prog 35 #[.agg #[.slice p D.n c, .slice q D.m d], .int .i64 g0, .int .i64 g1] V fun e w' => e = .returned (.bool true) ∧ Below V.heap.size V w' from fun V => by
    have := areSomeR_any D p q c d g0 g1 V hm4
    rw [s0] at this
    exact this)
  have HS1 := Lib.hid (show ∀ V : World, Calls Try.prog 35 #[.agg #[.slice p D.n c, .slice q D.m d], .int .i64 g2, .int .i64 g3] V fun e w' => e = .returned (.bool true) ∧ Below V.heap.size V w' from fun V => by
    have := areSomeR_any D p q c d g2 g3 V hm4
    rw [s1] at this
    exact this)
  obtain ⟨w1, x, e1, hb1, hl1⟩ := mk_line w p q D.n D.m c d
  obtain ⟨w2, x2, e2, b2, f2⟩ := mk_four x 56 g0 g1 g2 g3
  have HB := Lib.hid (bT hb1 b2)
  have HI := Lib.hid ((hi.bel hb1).bel b2)
  have HLb := Lib.hid (hl1.bel b2)
  have HF := Lib.hid f2
  clear hb1 hl1 hi b2 f2
  have L0 : ∀ z : Ext w2, z.v.cell? ⟨w.heap.size, 0, none⟩ = some (.slice p D.n c) := fun z => (HLb.out.bel z.b).c0
  have L1 : ∀ z : Ext w2, z.v.cell? ⟨w.heap.size, 1, none⟩ = some (.slice q D.m d) := fun z => (HLb.out.bel z.b).c1
  have V0 : ∀ z : Ext w2, z.v.cell? ⟨x.v.heap.size, 0, none⟩ = some (.int .i64 g0) := fun z => (HF.out.bel z.b).c0
  have V1 : ∀ z : Ext w2, z.v.cell? ⟨x.v.heap.size, 1, none⟩ = some (.int .i64 g1) := fun z => (HF.out.bel z.b).c1
  have V2 : ∀ z : Ext w2, z.v.cell? ⟨x.v.heap.size, 2, none⟩ = some (.int .i64 g2) := fun z => (HF.out.bel z.b).c2
  have V3 : ∀ z : Ext w2, z.v.cell? ⟨x.v.heap.size, 3, none⟩ = some (.int .i64 g3) := fun z => (HF.out.bel z.b).c3
  go_enter Try.func6, Try.ntmps6
  go_wp2_with fail
  refine (quiet_x (HRD.out _ (HI.out.bel (Ext.b _)))).mono ?_
  rintro e w' ⟨rfl, y, rfl⟩
  go_wp2_with fail
  refine (quiet_x (HS0.out _)).mono ?_
  rintro e w' ⟨rfl, y, rfl⟩
  go_wp2_with fail
  refine (quiet_x (HS1.out _)).mono ?_
  rintro e w' ⟨rfl, y, rfl⟩
  go_wp2_with fail
  refine (quiet_x (works_ex _)).mono ?_
  rintro e w' ⟨rfl, y, rfl⟩
  go_wp2_with fail
  go_ret
  exact ⟨rfl, bT HB.out (Ext.b _)⟩
set_option maxRecDepth 100000 in
set_option maxHeartbeats 4000000 in
theorem fewer_out5 (D : Duct) (p q : Option Addr) (c d : Nat) (g0 g1 g2 g3 : Int) (w : World) (hn : D.n ≤ maxLen) (hm : D.m ≤ maxLen) (hi : DuctIn w w.heap.size D p q) (hrd : (!(decide (40 < D.n) || decide (40 < D.m)) && D.ok) = true) (hm4 : D.m ≤ 40) (s0 : areS D g0 g1 = true) (s1 : areS D g2 g3 = true) (hge : ¬ g2 < g0) (hlt : g1 < g3) :
    Calls Try.prog 6 #[.agg #[.slice p D.n c, .slice q D.m d], .agg #[.int .i64 g0, .int .i64 g1, .int .i64 g2, .int .i64 g3]] w fun e w' => e = .returned (.bool true) ∧ Below w.heap.size w w' := by
  have d1 : decide (g2 < g0) = false := by simpa using hge
  have d2 : decide (g1 < g3) = true := by simpa using hlt
  have HRD := Lib.hid (show ∀ V : World, DuctIn V V.heap.size D p q → Calls Try.prog 15 #[.agg #[.slice p D.n c, .slice q D.m d]] V fun e w' => e = .returned (.bool true) ∧ Below V.heap.size V w' from fun V h => by
    have := ready_any D p q c d V hn hm h
    rw [hrd] at this
    exact this)
  have HS0 := Lib.hid (show ∀ V : World, Calls Try.prog 35 #[.agg #[.slice p D.n c, .slice q D.m d], .int .i64 g0, .int .i64 g1] V fun e w' => e = .returned (.bool true) ∧ Below V.heap.size V w' from fun V => by
    have := areSomeR_any D p q c d g0 g1 V hm4
    rw [s0] at this
    exact this)
  have HS1 := Lib.hid (show ∀ V : World, Calls Try.prog 35 #[.agg #[.slice p D.n c, .slice q D.m d], .int .i64 g2, .int .i64 g3] V fun e w' => e = .returned (.bool true) ∧ Below V.heap.size V w' from fun V => by
    have := areSomeR_any D p q c d g2 g3 V hm4
    rw [s1] at this
    exact this)
  obtain ⟨w1, x, e1, hb1, hl1⟩ := mk_line w p q D.n D.m c d
  obtain ⟨w2, x2, e2, b2, f2⟩ := mk_four x 56 g0 g1 g2 g3
  have HB := Lib.hid (bT hb1 b2)
  have HI := Lib.hid ((hi.bel hb1).bel b2)
  have HLb := Lib.hid (hl1.bel b2)
  have HF := Lib.hid f2
  clear hb1 hl1 hi b2 f2
  have L0 : ∀ z : Ext w2, z.v.cell? ⟨w.heap.size, 0, none⟩ = some (.slice p D.n c) := fun z => (HLb.out.bel z.b).c0
  have L1 : ∀ z : Ext w2, z.v.cell? ⟨w.heap.size, 1, none⟩ = some (.slice q D.m d) := fun z => (HLb.out.bel z.b).c1
  have V0 : ∀ z : Ext w2, z.v.cell? ⟨x.v.heap.size, 0, none⟩ = some (.int .i64 g0) := fun z => (HF.out.bel z.b).c0
  have V1 : ∀ z : Ext w2, z.v.cell? ⟨x.v.heap.size, 1, none⟩ = some (.int .i64 g1) := fun z => (HF.out.bel z.b).c1
  have V2 : ∀ z : Ext w2, z.v.cell? ⟨x.v.heap.size, 2, none⟩ = some (.int .i64 g2) := fun z => (HF.out.bel z.b).c2
  have V3 : ∀ z : Ext w2, z.v.cell? ⟨x.v.heap.size, 3, none⟩ = some (.int .i64 g3) := fun z => (HF.out.bel z.b).c3
  go_enter Try.func6, Try.ntmps6
  go_wp2_with fail
  refine (quiet_x (HRD.out _ (HI.out.bel (Ext.b _)))).mono ?_
  rintro e w' ⟨rfl, y, rfl⟩
  go_wp2_with fail
  refine (quiet_x (HS0.out _)).mono ?_
  rintro e w' ⟨rfl, y, rfl⟩
  go_wp2_with fail
  refine (quiet_x (HS1.out _)).mono ?_
  rintro e w' ⟨rfl, y, rfl⟩
  go_wp2_with fail
  refine (quiet_x (works_ex _)).mono ?_
  rintro e w' ⟨rfl, y, rfl⟩
  go_wp2_with fail
  go_ret
  exact ⟨rfl, bT HB.out (Ext.b _)⟩
end Go.Proofs.Ytkdlppekjjbgoaa
