/- AqueductTimes returns true in every walk. -/
import Derived.Test.YtkdlppekjjbgoaaG18

import Derived.Test.YtkdlppekjjbgoaaS6

import Derived.Test.YtkdlppekjjbgoaaB1

set_option linter.unusedSimpArgs false

set_option linter.unusedVariables false

namespace Go.Proofs.Ytkdlppekjjbgoaa

open Go.RowKit

theorem mk_twoB {w0 : World} (x0 : Ext w0) (t : TypeId) (u v : Int) :
    ∃ (w1 : World) (x : Ext w1), x0.v.alloc (Obj.cells #[Value.int .i64 u, Value.int .i64 v] t) = x.v ∧ Below w0.heap.size w0 w1 ∧ TwoBox w1 x0.v.heap.size u v := by
  obtain ⟨w1, x, h1, h2, _, h4⟩ := mk_two x0 t u v
  exact ⟨w1, x, h1, h2, h4⟩
set_option maxRecDepth 100000 in
set_option maxHeartbeats 4000000 in
theorem times_o1 (D : Duct) (p q : Option Addr) (c d : Nat) (g0 g1 g2 g3 y0 y1 : Int) (w : World) (hn : D.n ≤ maxLen) (hm : D.m ≤ maxLen) (hrd : (!(decide (40 < D.n) || decide (40 < D.m)) && D.ok) = false) (hi : DuctIn w w.heap.size D p q) :
    Calls Try.prog 8 #[.agg #[.slice p D.n c, .slice q D.m d], .agg #[.int .i64 g0, .int .i64 g1, .int .i64 g2, .int .i64 g3], .agg #[.int .i64 y0, .int .i64 y1]] w fun e w' => e = .returned (.bool true) ∧ Below w.heap.size w w' := by
  have HRD := Lib.hid (show ∀ V : World, DuctIn V V.heap.size D p q → Calls Try.prog 15 #[.agg #[.slice p D.n c, .slice q D.m d]] V fun e w' => e = .returned (.bool false) ∧ Below V.heap.size V w' from fun V h => by
    have := ready_any D p q c d V hn hm h
    rw [hrd] at this
    exact this)
  clear hrd
  obtain ⟨w1, x1, ew1, hb1, hl1⟩ := mk_line w p q D.n D.m c d
  have HL1 := Lib.hid hl1; have HI1 := Lib.hid (hi.bel hb1); have HB1 := Lib.hid hb1
  clear hb1 hl1 hi
  have HW_0 : Hid (∀ z : Ext w1, Below w.heap.size w z.v) := fun z => bT HB1.out z.b
  have HI_0 : Hid (∀ z : Ext w1, DuctIn z.v z.v.heap.size D p q) := fun z => HI1.out.bel z.b
  have L0_0 : ∀ z : Ext w1, z.v.cell? ⟨w.heap.size, 0, none⟩ = some (.slice p D.n c) := fun z => (HL1.out.bel z.b).c0
  have L1_0 : ∀ z : Ext w1, z.v.cell? ⟨w.heap.size, 1, none⟩ = some (.slice q D.m d) := fun z => (HL1.out.bel z.b).c1
  obtain ⟨wb1, xb1, eb1, bb1, tb1⟩ := mk_four x1 56 g0 g1 g2 g3
  have HBB1 := Lib.hid bb1; have HTB1 := Lib.hid tb1
  clear bb1 tb1
  have HW_1 : Hid (∀ z : Ext wb1, Below w.heap.size w z.v) := fun z => HW_0.out (z.up HBB1.out)
  have HI_1 : Hid (∀ z : Ext wb1, DuctIn z.v z.v.heap.size D p q) := fun z => HI_0.out (z.up HBB1.out)
  have L0_1 : ∀ z : Ext wb1, z.v.cell? ⟨w.heap.size, 0, none⟩ = some (.slice p D.n c) := fun z => L0_0 (z.up HBB1.out)
  have L1_1 : ∀ z : Ext wb1, z.v.cell? ⟨w.heap.size, 1, none⟩ = some (.slice q D.m d) := fun z => L1_0 (z.up HBB1.out)
  clear HW_0 HI_0 L0_0 L1_0
  have V0_1 : ∀ z : Ext wb1, z.v.cell? ⟨x1.v.heap.size, 0, none⟩ = some (.int .i64 g0) := fun z => (HTB1.out.bel z.b).c0
  have V1_1 : ∀ z : Ext wb1, z.v.cell? ⟨x1.v.heap.size, 1, none⟩ = some (.int .i64 g1) := fun z => (HTB1.out.bel z.b).c1
  have V2_1 : ∀ z : Ext wb1, z.v.cell? ⟨x1.v.heap.size, 2, none⟩ = some (.int .i64 g2) := fun z => (HTB1.out.bel z.b).c2
  have V3_1 : ∀ z : Ext wb1, z.v.cell? ⟨x1.v.heap.size, 3, none⟩ = some (.int .i64 g3) := fun z => (HTB1.out.bel z.b).c3
  obtain ⟨wb2, xb2, eb2, bb2, tb2⟩ := mk_twoB xb1 64 y0 y1
  have HBB2 := Lib.hid bb2; have HTB2 := Lib.hid tb2
  clear bb2 tb2
  have HW_2 : Hid (∀ z : Ext wb2, Below w.heap.size w z.v) := fun z => HW_1.out (z.up HBB2.out)
  have HI_2 : Hid (∀ z : Ext wb2, DuctIn z.v z.v.heap.size D p q) := fun z => HI_1.out (z.up HBB2.out)
  have L0_2 : ∀ z : Ext wb2, z.v.cell? ⟨w.heap.size, 0, none⟩ = some (.slice p D.n c) := fun z => L0_1 (z.up HBB2.out)
  have L1_2 : ∀ z : Ext wb2, z.v.cell? ⟨w.heap.size, 1, none⟩ = some (.slice q D.m d) := fun z => L1_1 (z.up HBB2.out)
  have V0_2 : ∀ z : Ext wb2, z.v.cell? ⟨x1.v.heap.size, 0, none⟩ = some (.int .i64 g0) := fun z => V0_1 (z.up HBB2.out)
  have V1_2 : ∀ z : Ext wb2, z.v.cell? ⟨x1.v.heap.size, 1, none⟩ = some (.int .i64 g1) := fun z => V1_1 (z.up HBB2.out)
  have V2_2 : ∀ z : Ext wb2, z.v.cell? ⟨x1.v.heap.size, 2, none⟩ = some (.int .i64 g2) := fun z => V2_1 (z.up HBB2.out)
  have V3_2 : ∀ z : Ext wb2, z.v.cell? ⟨x1.v.heap.size, 3, none⟩ = some (.int .i64 g3) := fun z => V3_1 (z.up HBB2.out)
  clear HW_1 HI_1 L0_1 L1_1 V0_1 V1_1 V2_1 V3_1
  have B0_2 : ∀ z : Ext wb2, z.v.cell? ⟨xb1.v.heap.size, 0, none⟩ = some (.int .i64 y0) := fun z => (HTB2.out.bel z.b).c0
  have B1_2 : ∀ z : Ext wb2, z.v.cell? ⟨xb1.v.heap.size, 1, none⟩ = some (.int .i64 y1) := fun z => (HTB2.out.bel z.b).c1
  go_enter Try.func8, Try.ntmps8
  go_wp2_with fail
  refine (quiet_x (HRD.out _ (HI_2.out _))).mono ?_
  rintro e w' ⟨rfl, y3, rfl⟩
  go_wp2_with fail
  refine (quiet_x (works_ex _)).mono ?_
  rintro e w' ⟨rfl, y4, rfl⟩
  go_wp2_with fail
  go_ret
  exact ⟨rfl, HW_2.out y4⟩

set_option maxRecDepth 100000 in
set_option maxHeartbeats 4000000 in
theorem times_o2 (D : Duct) (p q : Option Addr) (c d : Nat) (g0 g1 g2 g3 y0 y1 : Int) (w : World) (hn : D.n ≤ maxLen) (hm : D.m ≤ maxLen) (hn4 : D.n ≤ 40) (hm4 : D.m ≤ 40) (hrd : (!(decide (40 < D.n) || decide (40 < D.m)) && D.ok) = true) (has : areS D g0 g1 = false) (hi : DuctIn w w.heap.size D p q) :
    Calls Try.prog 8 #[.agg #[.slice p D.n c, .slice q D.m d], .agg #[.int .i64 g0, .int .i64 g1, .int .i64 g2, .int .i64 g3], .agg #[.int .i64 y0, .int .i64 y1]] w fun e w' => e = .returned (.bool true) ∧ Below w.heap.size w w' := by
  have HRD := Lib.hid (show ∀ V : World, DuctIn V V.heap.size D p q → Calls Try.prog 15 #[.agg #[.slice p D.n c, .slice q D.m d]] V fun e w' => e = .returned (.bool true) ∧ Below V.heap.size V w' from fun V h => by
    have := ready_any D p q c d V hn hm h
    rw [hrd] at this
    exact this)
  have HAS := Lib.hid (show ∀ V : World, Calls Try.prog 35 #[.agg #[.slice p D.n c, .slice q D.m d], .int .i64 g0, .int .i64 g1] V fun e w' => e = .returned (.bool false) ∧ Below V.heap.size V w' from fun V => by
    have := areSomeR_any D p q c d g0 g1 V hm4
    rw [has] at this
    exact this)
  clear hrd has
  obtain ⟨w1, x1, ew1, hb1, hl1⟩ := mk_line w p q D.n D.m c d
  have HL1 := Lib.hid hl1; have HI1 := Lib.hid (hi.bel hb1); have HB1 := Lib.hid hb1
  clear hb1 hl1 hi
  have HW_0 : Hid (∀ z : Ext w1, Below w.heap.size w z.v) := fun z => bT HB1.out z.b
  have HI_0 : Hid (∀ z : Ext w1, DuctIn z.v z.v.heap.size D p q) := fun z => HI1.out.bel z.b
  have L0_0 : ∀ z : Ext w1, z.v.cell? ⟨w.heap.size, 0, none⟩ = some (.slice p D.n c) := fun z => (HL1.out.bel z.b).c0
  have L1_0 : ∀ z : Ext w1, z.v.cell? ⟨w.heap.size, 1, none⟩ = some (.slice q D.m d) := fun z => (HL1.out.bel z.b).c1
  obtain ⟨wb1, xb1, eb1, bb1, tb1⟩ := mk_four x1 56 g0 g1 g2 g3
  have HBB1 := Lib.hid bb1; have HTB1 := Lib.hid tb1
  clear bb1 tb1
  have HW_1 : Hid (∀ z : Ext wb1, Below w.heap.size w z.v) := fun z => HW_0.out (z.up HBB1.out)
  have HI_1 : Hid (∀ z : Ext wb1, DuctIn z.v z.v.heap.size D p q) := fun z => HI_0.out (z.up HBB1.out)
  have L0_1 : ∀ z : Ext wb1, z.v.cell? ⟨w.heap.size, 0, none⟩ = some (.slice p D.n c) := fun z => L0_0 (z.up HBB1.out)
  have L1_1 : ∀ z : Ext wb1, z.v.cell? ⟨w.heap.size, 1, none⟩ = some (.slice q D.m d) := fun z => L1_0 (z.up HBB1.out)
  clear HW_0 HI_0 L0_0 L1_0
  have V0_1 : ∀ z : Ext wb1, z.v.cell? ⟨x1.v.heap.size, 0, none⟩ = some (.int .i64 g0) := fun z => (HTB1.out.bel z.b).c0
  have V1_1 : ∀ z : Ext wb1, z.v.cell? ⟨x1.v.heap.size, 1, none⟩ = some (.int .i64 g1) := fun z => (HTB1.out.bel z.b).c1
  have V2_1 : ∀ z : Ext wb1, z.v.cell? ⟨x1.v.heap.size, 2, none⟩ = some (.int .i64 g2) := fun z => (HTB1.out.bel z.b).c2
  have V3_1 : ∀ z : Ext wb1, z.v.cell? ⟨x1.v.heap.size, 3, none⟩ = some (.int .i64 g3) := fun z => (HTB1.out.bel z.b).c3
  obtain ⟨wb2, xb2, eb2, bb2, tb2⟩ := mk_twoB xb1 64 y0 y1
  have HBB2 := Lib.hid bb2; have HTB2 := Lib.hid tb2
  clear bb2 tb2
  have HW_2 : Hid (∀ z : Ext wb2, Below w.heap.size w z.v) := fun z => HW_1.out (z.up HBB2.out)
  have HI_2 : Hid (∀ z : Ext wb2, DuctIn z.v z.v.heap.size D p q) := fun z => HI_1.out (z.up HBB2.out)
  have L0_2 : ∀ z : Ext wb2, z.v.cell? ⟨w.heap.size, 0, none⟩ = some (.slice p D.n c) := fun z => L0_1 (z.up HBB2.out)
  have L1_2 : ∀ z : Ext wb2, z.v.cell? ⟨w.heap.size, 1, none⟩ = some (.slice q D.m d) := fun z => L1_1 (z.up HBB2.out)
  have V0_2 : ∀ z : Ext wb2, z.v.cell? ⟨x1.v.heap.size, 0, none⟩ = some (.int .i64 g0) := fun z => V0_1 (z.up HBB2.out)
  have V1_2 : ∀ z : Ext wb2, z.v.cell? ⟨x1.v.heap.size, 1, none⟩ = some (.int .i64 g1) := fun z => V1_1 (z.up HBB2.out)
  have V2_2 : ∀ z : Ext wb2, z.v.cell? ⟨x1.v.heap.size, 2, none⟩ = some (.int .i64 g2) := fun z => V2_1 (z.up HBB2.out)
  have V3_2 : ∀ z : Ext wb2, z.v.cell? ⟨x1.v.heap.size, 3, none⟩ = some (.int .i64 g3) := fun z => V3_1 (z.up HBB2.out)
  clear HW_1 HI_1 L0_1 L1_1 V0_1 V1_1 V2_1 V3_1
  have B0_2 : ∀ z : Ext wb2, z.v.cell? ⟨xb1.v.heap.size, 0, none⟩ = some (.int .i64 y0) := fun z => (HTB2.out.bel z.b).c0
  have B1_2 : ∀ z : Ext wb2, z.v.cell? ⟨xb1.v.heap.size, 1, none⟩ = some (.int .i64 y1) := fun z => (HTB2.out.bel z.b).c1
  go_enter Try.func8, Try.ntmps8
  go_wp2_with fail
  refine (quiet_x (HRD.out _ (HI_2.out _))).mono ?_
  rintro e w' ⟨rfl, y3, rfl⟩
  go_wp2_with fail
  refine (quiet_x (HAS.out _)).mono ?_
  rintro e w' ⟨rfl, y4, rfl⟩
  go_wp2_with fail
  refine (quiet_x (works_ex _)).mono ?_
  rintro e w' ⟨rfl, y5, rfl⟩
  go_wp2_with fail
  go_ret
  exact ⟨rfl, HW_2.out y5⟩

set_option maxRecDepth 100000 in
set_option maxHeartbeats 4000000 in
theorem times_o3 (D : Duct) (p q : Option Addr) (c d : Nat) (g0 g1 g2 g3 y0 y1 : Int) (w : World) (hn : D.n ≤ maxLen) (hm : D.m ≤ maxLen) (hn4 : D.n ≤ 40) (hm4 : D.m ≤ 40) (hrd : (!(decide (40 < D.n) || decide (40 < D.m)) && D.ok) = true) (has : areS D g0 g1 = true) (hip : isPt D g2 = false) (hi : DuctIn w w.heap.size D p q) :
    Calls Try.prog 8 #[.agg #[.slice p D.n c, .slice q D.m d], .agg #[.int .i64 g0, .int .i64 g1, .int .i64 g2, .int .i64 g3], .agg #[.int .i64 y0, .int .i64 y1]] w fun e w' => e = .returned (.bool true) ∧ Below w.heap.size w w' := by
  have HRD := Lib.hid (show ∀ V : World, DuctIn V V.heap.size D p q → Calls Try.prog 15 #[.agg #[.slice p D.n c, .slice q D.m d]] V fun e w' => e = .returned (.bool true) ∧ Below V.heap.size V w' from fun V h => by
    have := ready_any D p q c d V hn hm h
    rw [hrd] at this
    exact this)
  have HAS := Lib.hid (show ∀ V : World, Calls Try.prog 35 #[.agg #[.slice p D.n c, .slice q D.m d], .int .i64 g0, .int .i64 g1] V fun e w' => e = .returned (.bool true) ∧ Below V.heap.size V w' from fun V => by
    have := areSomeR_any D p q c d g0 g1 V hm4
    rw [has] at this
    exact this)
  have HIP := Lib.hid (show ∀ V : World, Calls Try.prog 19 #[.agg #[.slice p D.n c, .slice q D.m d], .int .i64 g2] V fun e w' => e = .returned (.bool false) ∧ Below V.heap.size V w' from fun V => by
    have := isPointR_any D p q c d g2 V hn4
    rw [hip] at this
    exact this)
  clear hrd has hip
  obtain ⟨w1, x1, ew1, hb1, hl1⟩ := mk_line w p q D.n D.m c d
  have HL1 := Lib.hid hl1; have HI1 := Lib.hid (hi.bel hb1); have HB1 := Lib.hid hb1
  clear hb1 hl1 hi
  have HW_0 : Hid (∀ z : Ext w1, Below w.heap.size w z.v) := fun z => bT HB1.out z.b
  have HI_0 : Hid (∀ z : Ext w1, DuctIn z.v z.v.heap.size D p q) := fun z => HI1.out.bel z.b
  have L0_0 : ∀ z : Ext w1, z.v.cell? ⟨w.heap.size, 0, none⟩ = some (.slice p D.n c) := fun z => (HL1.out.bel z.b).c0
  have L1_0 : ∀ z : Ext w1, z.v.cell? ⟨w.heap.size, 1, none⟩ = some (.slice q D.m d) := fun z => (HL1.out.bel z.b).c1
  obtain ⟨wb1, xb1, eb1, bb1, tb1⟩ := mk_four x1 56 g0 g1 g2 g3
  have HBB1 := Lib.hid bb1; have HTB1 := Lib.hid tb1
  clear bb1 tb1
  have HW_1 : Hid (∀ z : Ext wb1, Below w.heap.size w z.v) := fun z => HW_0.out (z.up HBB1.out)
  have HI_1 : Hid (∀ z : Ext wb1, DuctIn z.v z.v.heap.size D p q) := fun z => HI_0.out (z.up HBB1.out)
  have L0_1 : ∀ z : Ext wb1, z.v.cell? ⟨w.heap.size, 0, none⟩ = some (.slice p D.n c) := fun z => L0_0 (z.up HBB1.out)
  have L1_1 : ∀ z : Ext wb1, z.v.cell? ⟨w.heap.size, 1, none⟩ = some (.slice q D.m d) := fun z => L1_0 (z.up HBB1.out)
  clear HW_0 HI_0 L0_0 L1_0
  have V0_1 : ∀ z : Ext wb1, z.v.cell? ⟨x1.v.heap.size, 0, none⟩ = some (.int .i64 g0) := fun z => (HTB1.out.bel z.b).c0
  have V1_1 : ∀ z : Ext wb1, z.v.cell? ⟨x1.v.heap.size, 1, none⟩ = some (.int .i64 g1) := fun z => (HTB1.out.bel z.b).c1
  have V2_1 : ∀ z : Ext wb1, z.v.cell? ⟨x1.v.heap.size, 2, none⟩ = some (.int .i64 g2) := fun z => (HTB1.out.bel z.b).c2
  have V3_1 : ∀ z : Ext wb1, z.v.cell? ⟨x1.v.heap.size, 3, none⟩ = some (.int .i64 g3) := fun z => (HTB1.out.bel z.b).c3
  obtain ⟨wb2, xb2, eb2, bb2, tb2⟩ := mk_twoB xb1 64 y0 y1
  have HBB2 := Lib.hid bb2; have HTB2 := Lib.hid tb2
  clear bb2 tb2
  have HW_2 : Hid (∀ z : Ext wb2, Below w.heap.size w z.v) := fun z => HW_1.out (z.up HBB2.out)
  have HI_2 : Hid (∀ z : Ext wb2, DuctIn z.v z.v.heap.size D p q) := fun z => HI_1.out (z.up HBB2.out)
  have L0_2 : ∀ z : Ext wb2, z.v.cell? ⟨w.heap.size, 0, none⟩ = some (.slice p D.n c) := fun z => L0_1 (z.up HBB2.out)
  have L1_2 : ∀ z : Ext wb2, z.v.cell? ⟨w.heap.size, 1, none⟩ = some (.slice q D.m d) := fun z => L1_1 (z.up HBB2.out)
  have V0_2 : ∀ z : Ext wb2, z.v.cell? ⟨x1.v.heap.size, 0, none⟩ = some (.int .i64 g0) := fun z => V0_1 (z.up HBB2.out)
  have V1_2 : ∀ z : Ext wb2, z.v.cell? ⟨x1.v.heap.size, 1, none⟩ = some (.int .i64 g1) := fun z => V1_1 (z.up HBB2.out)
  have V2_2 : ∀ z : Ext wb2, z.v.cell? ⟨x1.v.heap.size, 2, none⟩ = some (.int .i64 g2) := fun z => V2_1 (z.up HBB2.out)
  have V3_2 : ∀ z : Ext wb2, z.v.cell? ⟨x1.v.heap.size, 3, none⟩ = some (.int .i64 g3) := fun z => V3_1 (z.up HBB2.out)
  clear HW_1 HI_1 L0_1 L1_1 V0_1 V1_1 V2_1 V3_1
  have B0_2 : ∀ z : Ext wb2, z.v.cell? ⟨xb1.v.heap.size, 0, none⟩ = some (.int .i64 y0) := fun z => (HTB2.out.bel z.b).c0
  have B1_2 : ∀ z : Ext wb2, z.v.cell? ⟨xb1.v.heap.size, 1, none⟩ = some (.int .i64 y1) := fun z => (HTB2.out.bel z.b).c1
  go_enter Try.func8, Try.ntmps8
  go_wp2_with fail
  refine (quiet_x (HRD.out _ (HI_2.out _))).mono ?_
  rintro e w' ⟨rfl, y3, rfl⟩
  go_wp2_with fail
  refine (quiet_x (HAS.out _)).mono ?_
  rintro e w' ⟨rfl, y4, rfl⟩
  go_wp2_with fail
  refine (quiet_x (HIP.out _)).mono ?_
  rintro e w' ⟨rfl, y5, rfl⟩
  go_wp2_with fail
  refine (quiet_x (works_ex _)).mono ?_
  rintro e w' ⟨rfl, y6, rfl⟩
  go_wp2_with fail
  go_ret
  exact ⟨rfl, HW_2.out y6⟩

set_option maxRecDepth 100000 in
set_option maxHeartbeats 4000000 in
theorem times_o4 (D : Duct) (p q : Option Addr) (c d : Nat) (g0 g1 g2 g3 y0 y1 : Int) (w : World) (hn : D.n ≤ maxLen) (hm : D.m ≤ maxLen) (hn4 : D.n ≤ 40) (hm4 : D.m ≤ 40) (hrd : (!(decide (40 < D.n) || decide (40 < D.m)) && D.ok) = true) (has : areS D g0 g1 = true) (hip : isPt D g2 = true) (hy0 : within y0 1 20 = false) (hi : DuctIn w w.heap.size D p q) :
    Calls Try.prog 8 #[.agg #[.slice p D.n c, .slice q D.m d], .agg #[.int .i64 g0, .int .i64 g1, .int .i64 g2, .int .i64 g3], .agg #[.int .i64 y0, .int .i64 y1]] w fun e w' => e = .returned (.bool true) ∧ Below w.heap.size w w' := by
  have HRD := Lib.hid (show ∀ V : World, DuctIn V V.heap.size D p q → Calls Try.prog 15 #[.agg #[.slice p D.n c, .slice q D.m d]] V fun e w' => e = .returned (.bool true) ∧ Below V.heap.size V w' from fun V h => by
    have := ready_any D p q c d V hn hm h
    rw [hrd] at this
    exact this)
  have HAS := Lib.hid (show ∀ V : World, Calls Try.prog 35 #[.agg #[.slice p D.n c, .slice q D.m d], .int .i64 g0, .int .i64 g1] V fun e w' => e = .returned (.bool true) ∧ Below V.heap.size V w' from fun V => by
    have := areSomeR_any D p q c d g0 g1 V hm4
    rw [has] at this
    exact this)
  have HIP := Lib.hid (show ∀ V : World, Calls Try.prog 19 #[.agg #[.slice p D.n c, .slice q D.m d], .int .i64 g2] V fun e w' => e = .returned (.bool true) ∧ Below V.heap.size V w' from fun V => by
    have := isPointR_any D p q c d g2 V hn4
    rw [hip] at this
    exact this)
  have HY0 := Lib.hid (show ∀ V : World, Calls Try.prog 32 #[.int .i64 y0, .int .i64 1, .int .i64 20] V fun e w' => e = .returned (.bool false) ∧ Below V.heap.size V w' from fun V => by
    have := within1_any y0 1 20 V
    rw [hy0] at this
    exact this.mono fun e w' ⟨he, hb⟩ => ⟨he, by rw [hb]; exact Below.refl _ _⟩)
  clear hrd has hip hy0
  obtain ⟨w1, x1, ew1, hb1, hl1⟩ := mk_line w p q D.n D.m c d
  have HL1 := Lib.hid hl1; have HI1 := Lib.hid (hi.bel hb1); have HB1 := Lib.hid hb1
  clear hb1 hl1 hi
  have HW_0 : Hid (∀ z : Ext w1, Below w.heap.size w z.v) := fun z => bT HB1.out z.b
  have HI_0 : Hid (∀ z : Ext w1, DuctIn z.v z.v.heap.size D p q) := fun z => HI1.out.bel z.b
  have L0_0 : ∀ z : Ext w1, z.v.cell? ⟨w.heap.size, 0, none⟩ = some (.slice p D.n c) := fun z => (HL1.out.bel z.b).c0
  have L1_0 : ∀ z : Ext w1, z.v.cell? ⟨w.heap.size, 1, none⟩ = some (.slice q D.m d) := fun z => (HL1.out.bel z.b).c1
  obtain ⟨wb1, xb1, eb1, bb1, tb1⟩ := mk_four x1 56 g0 g1 g2 g3
  have HBB1 := Lib.hid bb1; have HTB1 := Lib.hid tb1
  clear bb1 tb1
  have HW_1 : Hid (∀ z : Ext wb1, Below w.heap.size w z.v) := fun z => HW_0.out (z.up HBB1.out)
  have HI_1 : Hid (∀ z : Ext wb1, DuctIn z.v z.v.heap.size D p q) := fun z => HI_0.out (z.up HBB1.out)
  have L0_1 : ∀ z : Ext wb1, z.v.cell? ⟨w.heap.size, 0, none⟩ = some (.slice p D.n c) := fun z => L0_0 (z.up HBB1.out)
  have L1_1 : ∀ z : Ext wb1, z.v.cell? ⟨w.heap.size, 1, none⟩ = some (.slice q D.m d) := fun z => L1_0 (z.up HBB1.out)
  clear HW_0 HI_0 L0_0 L1_0
  have V0_1 : ∀ z : Ext wb1, z.v.cell? ⟨x1.v.heap.size, 0, none⟩ = some (.int .i64 g0) := fun z => (HTB1.out.bel z.b).c0
  have V1_1 : ∀ z : Ext wb1, z.v.cell? ⟨x1.v.heap.size, 1, none⟩ = some (.int .i64 g1) := fun z => (HTB1.out.bel z.b).c1
  have V2_1 : ∀ z : Ext wb1, z.v.cell? ⟨x1.v.heap.size, 2, none⟩ = some (.int .i64 g2) := fun z => (HTB1.out.bel z.b).c2
  have V3_1 : ∀ z : Ext wb1, z.v.cell? ⟨x1.v.heap.size, 3, none⟩ = some (.int .i64 g3) := fun z => (HTB1.out.bel z.b).c3
  obtain ⟨wb2, xb2, eb2, bb2, tb2⟩ := mk_twoB xb1 64 y0 y1
  have HBB2 := Lib.hid bb2; have HTB2 := Lib.hid tb2
  clear bb2 tb2
  have HW_2 : Hid (∀ z : Ext wb2, Below w.heap.size w z.v) := fun z => HW_1.out (z.up HBB2.out)
  have HI_2 : Hid (∀ z : Ext wb2, DuctIn z.v z.v.heap.size D p q) := fun z => HI_1.out (z.up HBB2.out)
  have L0_2 : ∀ z : Ext wb2, z.v.cell? ⟨w.heap.size, 0, none⟩ = some (.slice p D.n c) := fun z => L0_1 (z.up HBB2.out)
  have L1_2 : ∀ z : Ext wb2, z.v.cell? ⟨w.heap.size, 1, none⟩ = some (.slice q D.m d) := fun z => L1_1 (z.up HBB2.out)
  have V0_2 : ∀ z : Ext wb2, z.v.cell? ⟨x1.v.heap.size, 0, none⟩ = some (.int .i64 g0) := fun z => V0_1 (z.up HBB2.out)
  have V1_2 : ∀ z : Ext wb2, z.v.cell? ⟨x1.v.heap.size, 1, none⟩ = some (.int .i64 g1) := fun z => V1_1 (z.up HBB2.out)
  have V2_2 : ∀ z : Ext wb2, z.v.cell? ⟨x1.v.heap.size, 2, none⟩ = some (.int .i64 g2) := fun z => V2_1 (z.up HBB2.out)
  have V3_2 : ∀ z : Ext wb2, z.v.cell? ⟨x1.v.heap.size, 3, none⟩ = some (.int .i64 g3) := fun z => V3_1 (z.up HBB2.out)
  clear HW_1 HI_1 L0_1 L1_1 V0_1 V1_1 V2_1 V3_1
  have B0_2 : ∀ z : Ext wb2, z.v.cell? ⟨xb1.v.heap.size, 0, none⟩ = some (.int .i64 y0) := fun z => (HTB2.out.bel z.b).c0
  have B1_2 : ∀ z : Ext wb2, z.v.cell? ⟨xb1.v.heap.size, 1, none⟩ = some (.int .i64 y1) := fun z => (HTB2.out.bel z.b).c1
  go_enter Try.func8, Try.ntmps8
  go_wp2_with fail
  refine (quiet_x (HRD.out _ (HI_2.out _))).mono ?_
  rintro e w' ⟨rfl, y3, rfl⟩
  go_wp2_with fail
  refine (quiet_x (HAS.out _)).mono ?_
  rintro e w' ⟨rfl, y4, rfl⟩
  go_wp2_with fail
  refine (quiet_x (HIP.out _)).mono ?_
  rintro e w' ⟨rfl, y5, rfl⟩
  go_wp2_with fail
  refine (quiet_x (HY0.out _)).mono ?_
  rintro e w' ⟨rfl, y6, rfl⟩
  go_wp2_with fail
  refine (quiet_x (works_ex _)).mono ?_
  rintro e w' ⟨rfl, y7, rfl⟩
  go_wp2_with fail
  go_ret
  exact ⟨rfl, HW_2.out y7⟩

set_option maxRecDepth 100000 in
set_option maxHeartbeats 4000000 in
theorem times_o5 (D : Duct) (p q : Option Addr) (c d : Nat) (g0 g1 g2 g3 y0 y1 : Int) (w : World) (hn : D.n ≤ maxLen) (hm : D.m ≤ maxLen) (hn4 : D.n ≤ 40) (hm4 : D.m ≤ 40) (hrd : (!(decide (40 < D.n) || decide (40 < D.m)) && D.ok) = true) (has : areS D g0 g1 = true) (hip : isPt D g2 = true) (hy0 : within y0 1 20 = true) (hy1 : within y1 1 9 = false) (hi : DuctIn w w.heap.size D p q) :
    Calls Try.prog 8 #[.agg #[.slice p D.n c, .slice q D.m d], .agg #[.int .i64 g0, .int .i64 g1, .int .i64 g2, .int .i64 g3], .agg #[.int .i64 y0, .int .i64 y1]] w fun e w' => e = .returned (.bool true) ∧ Below w.heap.size w w' := by
  have HRD := Lib.hid (show ∀ V : World, DuctIn V V.heap.size D p q → Calls Try.prog 15 #[.agg #[.slice p D.n c, .slice q D.m d]] V fun e w' => e = .returned (.bool true) ∧ Below V.heap.size V w' from fun V h => by
    have := ready_any D p q c d V hn hm h
    rw [hrd] at this
    exact this)
  have HAS := Lib.hid (show ∀ V : World, Calls Try.prog 35 #[.agg #[.slice p D.n c, .slice q D.m d], .int .i64 g0, .int .i64 g1] V fun e w' => e = .returned (.bool true) ∧ Below V.heap.size V w' from fun V => by
    have := areSomeR_any D p q c d g0 g1 V hm4
    rw [has] at this
    exact this)
  have HIP := Lib.hid (show ∀ V : World, Calls Try.prog 19 #[.agg #[.slice p D.n c, .slice q D.m d], .int .i64 g2] V fun e w' => e = .returned (.bool true) ∧ Below V.heap.size V w' from fun V => by
    have := isPointR_any D p q c d g2 V hn4
    rw [hip] at this
    exact this)
  have HY0 := Lib.hid (show ∀ V : World, Calls Try.prog 32 #[.int .i64 y0, .int .i64 1, .int .i64 20] V fun e w' => e = .returned (.bool true) ∧ Below V.heap.size V w' from fun V => by
    have := within1_any y0 1 20 V
    rw [hy0] at this
    exact this.mono fun e w' ⟨he, hb⟩ => ⟨he, by rw [hb]; exact Below.refl _ _⟩)
  have HY1 := Lib.hid (show ∀ V : World, Calls Try.prog 32 #[.int .i64 y1, .int .i64 1, .int .i64 9] V fun e w' => e = .returned (.bool false) ∧ Below V.heap.size V w' from fun V => by
    have := within1_any y1 1 9 V
    rw [hy1] at this
    exact this.mono fun e w' ⟨he, hb⟩ => ⟨he, by rw [hb]; exact Below.refl _ _⟩)
  clear hrd has hip hy0 hy1
  obtain ⟨w1, x1, ew1, hb1, hl1⟩ := mk_line w p q D.n D.m c d
  have HL1 := Lib.hid hl1; have HI1 := Lib.hid (hi.bel hb1); have HB1 := Lib.hid hb1
  clear hb1 hl1 hi
  have HW_0 : Hid (∀ z : Ext w1, Below w.heap.size w z.v) := fun z => bT HB1.out z.b
  have HI_0 : Hid (∀ z : Ext w1, DuctIn z.v z.v.heap.size D p q) := fun z => HI1.out.bel z.b
  have L0_0 : ∀ z : Ext w1, z.v.cell? ⟨w.heap.size, 0, none⟩ = some (.slice p D.n c) := fun z => (HL1.out.bel z.b).c0
  have L1_0 : ∀ z : Ext w1, z.v.cell? ⟨w.heap.size, 1, none⟩ = some (.slice q D.m d) := fun z => (HL1.out.bel z.b).c1
  obtain ⟨wb1, xb1, eb1, bb1, tb1⟩ := mk_four x1 56 g0 g1 g2 g3
  have HBB1 := Lib.hid bb1; have HTB1 := Lib.hid tb1
  clear bb1 tb1
  have HW_1 : Hid (∀ z : Ext wb1, Below w.heap.size w z.v) := fun z => HW_0.out (z.up HBB1.out)
  have HI_1 : Hid (∀ z : Ext wb1, DuctIn z.v z.v.heap.size D p q) := fun z => HI_0.out (z.up HBB1.out)
  have L0_1 : ∀ z : Ext wb1, z.v.cell? ⟨w.heap.size, 0, none⟩ = some (.slice p D.n c) := fun z => L0_0 (z.up HBB1.out)
  have L1_1 : ∀ z : Ext wb1, z.v.cell? ⟨w.heap.size, 1, none⟩ = some (.slice q D.m d) := fun z => L1_0 (z.up HBB1.out)
  clear HW_0 HI_0 L0_0 L1_0
  have V0_1 : ∀ z : Ext wb1, z.v.cell? ⟨x1.v.heap.size, 0, none⟩ = some (.int .i64 g0) := fun z => (HTB1.out.bel z.b).c0
  have V1_1 : ∀ z : Ext wb1, z.v.cell? ⟨x1.v.heap.size, 1, none⟩ = some (.int .i64 g1) := fun z => (HTB1.out.bel z.b).c1
  have V2_1 : ∀ z : Ext wb1, z.v.cell? ⟨x1.v.heap.size, 2, none⟩ = some (.int .i64 g2) := fun z => (HTB1.out.bel z.b).c2
  have V3_1 : ∀ z : Ext wb1, z.v.cell? ⟨x1.v.heap.size, 3, none⟩ = some (.int .i64 g3) := fun z => (HTB1.out.bel z.b).c3
  obtain ⟨wb2, xb2, eb2, bb2, tb2⟩ := mk_twoB xb1 64 y0 y1
  have HBB2 := Lib.hid bb2; have HTB2 := Lib.hid tb2
  clear bb2 tb2
  have HW_2 : Hid (∀ z : Ext wb2, Below w.heap.size w z.v) := fun z => HW_1.out (z.up HBB2.out)
  have HI_2 : Hid (∀ z : Ext wb2, DuctIn z.v z.v.heap.size D p q) := fun z => HI_1.out (z.up HBB2.out)
  have L0_2 : ∀ z : Ext wb2, z.v.cell? ⟨w.heap.size, 0, none⟩ = some (.slice p D.n c) := fun z => L0_1 (z.up HBB2.out)
  have L1_2 : ∀ z : Ext wb2, z.v.cell? ⟨w.heap.size, 1, none⟩ = some (.slice q D.m d) := fun z => L1_1 (z.up HBB2.out)
  have V0_2 : ∀ z : Ext wb2, z.v.cell? ⟨x1.v.heap.size, 0, none⟩ = some (.int .i64 g0) := fun z => V0_1 (z.up HBB2.out)
  have V1_2 : ∀ z : Ext wb2, z.v.cell? ⟨x1.v.heap.size, 1, none⟩ = some (.int .i64 g1) := fun z => V1_1 (z.up HBB2.out)
  have V2_2 : ∀ z : Ext wb2, z.v.cell? ⟨x1.v.heap.size, 2, none⟩ = some (.int .i64 g2) := fun z => V2_1 (z.up HBB2.out)
  have V3_2 : ∀ z : Ext wb2, z.v.cell? ⟨x1.v.heap.size, 3, none⟩ = some (.int .i64 g3) := fun z => V3_1 (z.up HBB2.out)
  clear HW_1 HI_1 L0_1 L1_1 V0_1 V1_1 V2_1 V3_1
  have B0_2 : ∀ z : Ext wb2, z.v.cell? ⟨xb1.v.heap.size, 0, none⟩ = some (.int .i64 y0) := fun z => (HTB2.out.bel z.b).c0
  have B1_2 : ∀ z : Ext wb2, z.v.cell? ⟨xb1.v.heap.size, 1, none⟩ = some (.int .i64 y1) := fun z => (HTB2.out.bel z.b).c1
  go_enter Try.func8, Try.ntmps8
  go_wp2_with fail
  refine (quiet_x (HRD.out _ (HI_2.out _))).mono ?_
  rintro e w' ⟨rfl, y3, rfl⟩
  go_wp2_with fail
  refine (quiet_x (HAS.out _)).mono ?_
  rintro e w' ⟨rfl, y4, rfl⟩
  go_wp2_with fail
  refine (quiet_x (HIP.out _)).mono ?_
  rintro e w' ⟨rfl, y5, rfl⟩
  go_wp2_with fail
  refine (quiet_x (HY0.out _)).mono ?_
  rintro e w' ⟨rfl, y6, rfl⟩
  go_wp2_with fail
  refine (quiet_x (HY1.out _)).mono ?_
  rintro e w' ⟨rfl, y7, rfl⟩
  go_wp2_with fail
  refine (quiet_x (works_ex _)).mono ?_
  rintro e w' ⟨rfl, y8, rfl⟩
  go_wp2_with fail
  go_ret
  exact ⟨rfl, HW_2.out y8⟩

set_option maxRecDepth 100000 in
set_option maxHeartbeats 16000000 in
theorem times_off (D : Duct) (p q : Option Addr) (c d : Nat) (g0 g1 g2 g3 y0 y1 al u v : Int) (w : World) (hn4 : D.n ≤ 40) (hm4 : D.m ≤ 40) (hrd : (!(decide (40 < D.n) || decide (40 < D.m)) && D.ok) = true) (has : areS D g0 g1 = true) (hip : isPt D g2 = true) (hy0 : within y0 1 20 = true) (hy1 : within y1 1 9 = true) (hm0 : 0 < D.m) (hnm : D.n = D.m + 1) (hco : ∀ k, k < D.n → 0 ≤ D.co k ∧ D.co k ≤ 20) (hod : ∀ k, k < D.m → 1 ≤ D.od k ∧ D.od k ≤ 9) (hal : 0 ≤ al ∧ al ≤ 1000) (hub : 0 ≤ u ∧ u ≤ 100000) (hvb : 1 ≤ v ∧ v ≤ 1000) (huv : u ≤ al * v)
    (hW1 : ∀ V : World, DuctIn V V.heap.size D p q → Calls Try.prog 28 #[.agg #[.slice p D.n c, .slice q D.m d], .int .i64 g0, .int .i64 g1] V fun e w' => e = .returned (.tuple #[.int .i64 al, .int .i64 0]) ∧ Below V.heap.size V w') (hA1 : ∀ V : World, DuctIn V V.heap.size D p q → Calls Try.prog 36 #[.agg #[.slice p D.n c, .slice q D.m d], .int .i64 g0, .int .i64 g1] V fun e w' => e = .returned (.tuple #[.agg #[.int .i64 u, .int .i64 v], .int .i64 0]) ∧ Below V.heap.size V w') (hR : ∀ (V : World) P Q cc dd, DuctIn V V.heap.size (tmD D y0 y1) P Q → Calls Try.prog 15 #[.agg #[.slice P D.n cc, .slice Q D.m dd]] V fun e w' => e = .returned (.bool false) ∧ Below V.heap.size V w') (hi : DuctIn w w.heap.size D p q) :
    Calls Try.prog 8 #[.agg #[.slice p D.n c, .slice q D.m d], .agg #[.int .i64 g0, .int .i64 g1, .int .i64 g2, .int .i64 g3], .agg #[.int .i64 y0, .int .i64 y1]] w fun e w' => e = .returned (.bool true) ∧ Below w.heap.size w w' := by
  have hn : D.n ≤ maxLen := by unfold maxLen; omega
  have hm : D.m ≤ maxLen := by unfold maxLen; omega
  have HRD := Lib.hid (show ∀ V : World, DuctIn V V.heap.size D p q → Calls Try.prog 15 #[.agg #[.slice p D.n c, .slice q D.m d]] V fun e w' => e = .returned (.bool true) ∧ Below V.heap.size V w' from fun V h => by
    have := ready_any D p q c d V hn hm h
    rw [hrd] at this
    exact this)
  have HAS := Lib.hid (show ∀ V : World, Calls Try.prog 35 #[.agg #[.slice p D.n c, .slice q D.m d], .int .i64 g0, .int .i64 g1] V fun e w' => e = .returned (.bool true) ∧ Below V.heap.size V w' from fun V => by
    have := areSomeR_any D p q c d g0 g1 V hm4
    rw [has] at this
    exact this)
  have HIP := Lib.hid (show ∀ V : World, Calls Try.prog 19 #[.agg #[.slice p D.n c, .slice q D.m d], .int .i64 g2] V fun e w' => e = .returned (.bool true) ∧ Below V.heap.size V w' from fun V => by
    have := isPointR_any D p q c d g2 V hn4
    rw [hip] at this
    exact this)
  have HY0 := Lib.hid (show ∀ V : World, Calls Try.prog 32 #[.int .i64 y0, .int .i64 1, .int .i64 20] V fun e w' => e = .returned (.bool true) ∧ Below V.heap.size V w' from fun V => by
    have := within1_any y0 1 20 V
    rw [hy0] at this
    exact this.mono fun e w' ⟨he, hb⟩ => ⟨he, by rw [hb]; exact Below.refl _ _⟩)
  have HY1 := Lib.hid (show ∀ V : World, Calls Try.prog 32 #[.int .i64 y1, .int .i64 1, .int .i64 9] V fun e w' => e = .returned (.bool true) ∧ Below V.heap.size V w' from fun V => by
    have := within1_any y1 1 9 V
    rw [hy1] at this
    exact this.mono fun e w' ⟨he, hb⟩ => ⟨he, by rw [hb]; exact Below.refl _ _⟩)
  have hyb := within_iff.1 hy0
  have hyc := within_iff.1 hy1
  have HNM := Lib.hid hnm; have HM0 := Lib.hid hm0; have HM4 := Lib.hid hm4; have HCO := Lib.hid hco; have HOD := Lib.hid hod; have HYB := Lib.hid hyb; have HYC := Lib.hid hyc
  have HW1 := Lib.hid hW1
  have HA1 := Lib.hid hA1
  have HR := Lib.hid hR
  have a1 : decide (al < 0) = false := by simp; omega
  have a2 : decide (1000 < al) = false := by simp; omega
  have a3 : decide (u < 0) = false := by simp; omega
  have a4 : decide (100000 < u) = false := by simp; omega
  have a5 : decide (v < 1) = false := by simp; omega
  have a6 : decide (1000 < v) = false := by simp; omega
  obtain ⟨AV2, hAV2⟩ : ∃ e, al * v = e := ⟨_, rfl⟩
  have hm1 := mul_in (a := al) (A := 1000) hal (b := v) (B := 1000) ⟨by omega, hvb.2⟩
  rw [hAV2] at hm1 huv
  have a7 : IntKind.i64.wrap (al * v) = AV2 := by rw [hAV2]; exact IntWalk.i64_in _ (by omega)
  have a8 : decide (AV2 < u) = false := by simp; omega
  clear hrd has hip hy0 hy1 hm0 hnm hco hod hal hub hvb huv hyb hyc hAV2 hm1 hW1 hA1 hR
  obtain ⟨pb, po, rfl, hpb1, hpb2⟩ := hi.pt (by have := HM0.out; have := HNM.out; omega)
  obtain ⟨qb, qo, rfl, hqb1, hqb2⟩ := hi.od HM0.out
  clear hpb1 hpb2 hqb1 hqb2
  obtain ⟨w1, x1, ew1, hb1, hl1⟩ := mk_line w (some ⟨pb, po, none⟩) (some ⟨qb, qo, none⟩) D.n D.m c d
  have HL1 := Lib.hid hl1; have HI1 := Lib.hid (hi.bel hb1); have HB1 := Lib.hid hb1
  clear hb1 hl1 hi
  have HW_0 : Hid (∀ z : Ext w1, Below w.heap.size w z.v) := fun z => bT HB1.out z.b
  have HI_0 : Hid (∀ z : Ext w1, DuctIn z.v z.v.heap.size D (some ⟨pb, po, none⟩) (some ⟨qb, qo, none⟩)) := fun z => HI1.out.bel z.b
  have L0_0 : ∀ z : Ext w1, z.v.cell? ⟨w.heap.size, 0, none⟩ = some (.slice (some ⟨pb, po, none⟩) D.n c) := fun z => (HL1.out.bel z.b).c0
  have L1_0 : ∀ z : Ext w1, z.v.cell? ⟨w.heap.size, 1, none⟩ = some (.slice (some ⟨qb, qo, none⟩) D.m d) := fun z => (HL1.out.bel z.b).c1
  obtain ⟨wb1, xb1, eb1, bb1, tb1⟩ := mk_four x1 56 g0 g1 g2 g3
  have HBB1 := Lib.hid bb1; have HTB1 := Lib.hid tb1
  clear bb1 tb1
  have HW_1 : Hid (∀ z : Ext wb1, Below w.heap.size w z.v) := fun z => HW_0.out (z.up HBB1.out)
  have HI_1 : Hid (∀ z : Ext wb1, DuctIn z.v z.v.heap.size D (some ⟨pb, po, none⟩) (some ⟨qb, qo, none⟩)) := fun z => HI_0.out (z.up HBB1.out)
  have L0_1 : ∀ z : Ext wb1, z.v.cell? ⟨w.heap.size, 0, none⟩ = some (.slice (some ⟨pb, po, none⟩) D.n c) := fun z => L0_0 (z.up HBB1.out)
  have L1_1 : ∀ z : Ext wb1, z.v.cell? ⟨w.heap.size, 1, none⟩ = some (.slice (some ⟨qb, qo, none⟩) D.m d) := fun z => L1_0 (z.up HBB1.out)
  clear HW_0 HI_0 L0_0 L1_0
  have V0_1 : ∀ z : Ext wb1, z.v.cell? ⟨x1.v.heap.size, 0, none⟩ = some (.int .i64 g0) := fun z => (HTB1.out.bel z.b).c0
  have V1_1 : ∀ z : Ext wb1, z.v.cell? ⟨x1.v.heap.size, 1, none⟩ = some (.int .i64 g1) := fun z => (HTB1.out.bel z.b).c1
  have V2_1 : ∀ z : Ext wb1, z.v.cell? ⟨x1.v.heap.size, 2, none⟩ = some (.int .i64 g2) := fun z => (HTB1.out.bel z.b).c2
  have V3_1 : ∀ z : Ext wb1, z.v.cell? ⟨x1.v.heap.size, 3, none⟩ = some (.int .i64 g3) := fun z => (HTB1.out.bel z.b).c3
  obtain ⟨wb2, xb2, eb2, bb2, tb2⟩ := mk_twoB xb1 64 y0 y1
  have HBB2 := Lib.hid bb2; have HTB2 := Lib.hid tb2
  clear bb2 tb2
  have HW_2 : Hid (∀ z : Ext wb2, Below w.heap.size w z.v) := fun z => HW_1.out (z.up HBB2.out)
  have HI_2 : Hid (∀ z : Ext wb2, DuctIn z.v z.v.heap.size D (some ⟨pb, po, none⟩) (some ⟨qb, qo, none⟩)) := fun z => HI_1.out (z.up HBB2.out)
  have L0_2 : ∀ z : Ext wb2, z.v.cell? ⟨w.heap.size, 0, none⟩ = some (.slice (some ⟨pb, po, none⟩) D.n c) := fun z => L0_1 (z.up HBB2.out)
  have L1_2 : ∀ z : Ext wb2, z.v.cell? ⟨w.heap.size, 1, none⟩ = some (.slice (some ⟨qb, qo, none⟩) D.m d) := fun z => L1_1 (z.up HBB2.out)
  have V0_2 : ∀ z : Ext wb2, z.v.cell? ⟨x1.v.heap.size, 0, none⟩ = some (.int .i64 g0) := fun z => V0_1 (z.up HBB2.out)
  have V1_2 : ∀ z : Ext wb2, z.v.cell? ⟨x1.v.heap.size, 1, none⟩ = some (.int .i64 g1) := fun z => V1_1 (z.up HBB2.out)
  have V2_2 : ∀ z : Ext wb2, z.v.cell? ⟨x1.v.heap.size, 2, none⟩ = some (.int .i64 g2) := fun z => V2_1 (z.up HBB2.out)
  have V3_2 : ∀ z : Ext wb2, z.v.cell? ⟨x1.v.heap.size, 3, none⟩ = some (.int .i64 g3) := fun z => V3_1 (z.up HBB2.out)
  clear HW_1 HI_1 L0_1 L1_1 V0_1 V1_1 V2_1 V3_1
  have B0_2 : ∀ z : Ext wb2, z.v.cell? ⟨xb1.v.heap.size, 0, none⟩ = some (.int .i64 y0) := fun z => (HTB2.out.bel z.b).c0
  have B1_2 : ∀ z : Ext wb2, z.v.cell? ⟨xb1.v.heap.size, 1, none⟩ = some (.int .i64 y1) := fun z => (HTB2.out.bel z.b).c1
  go_enter Try.func8, Try.ntmps8
  go_wp2_with fail
  refine (quiet_x (HRD.out _ (HI_2.out _))).mono ?_
  rintro e w' ⟨rfl, y3, rfl⟩
  go_wp2_with fail
  refine (quiet_x (HAS.out _)).mono ?_
  rintro e w' ⟨rfl, y4, rfl⟩
  go_wp2_with fail
  refine (quiet_x (HIP.out _)).mono ?_
  rintro e w' ⟨rfl, y5, rfl⟩
  go_wp2_with fail
  refine (quiet_x (HY0.out _)).mono ?_
  rintro e w' ⟨rfl, y6, rfl⟩
  go_wp2_with fail
  refine (quiet_x (HY1.out _)).mono ?_
  rintro e w' ⟨rfl, y7, rfl⟩
  go_wp2_with fail
  refine (copyC_any D (some ⟨pb, po, none⟩) (some ⟨qb, qo, none⟩) c d _ hn4 hm4 (HI_2.out _)).mono ?_
  rintro e w' ⟨p', c', q', d', rfl, hcp, hoq, hcc, hdd⟩
  obtain ⟨g, go, rfl, hg1, hfz, hne⟩ := hcp.own (by have := HM0.out; have := HNM.out; omega)
  obtain ⟨wo, xo, ewo, bwo, lwo⟩ := mk_line w' (some ⟨g, go, none⟩) q' D.n D.m c' d'
  obtain ⟨g9, o9, rfl, hwk⟩ := work_new (wb := wb2) (y := y7) (by have := HM0.out; have := HNM.out; omega) HM0.out hcp hoq hne hfz hg1 bwo lwo
  obtain ⟨OB, hOB⟩ : ∃ n, w'.heap.size = n := ⟨_, rfl⟩
  have HWK := Lib.hid hwk; have HDD := Lib.hid hdd
  clear hcp hoq hcc hdd hg1 hfz hne bwo lwo hwk
  rw [hOB] at HWK
  go_wp2_with fail
  clear hOB
  go_loopw [8] (fun i wr => ∃ k : Nat, i = .int .i64 (k : Int) ∧ k ≤ D.n ∧ Work wb2 wr OB g go g9 o9 c' d' D (tmP D y0 k)) (fun i _ => D.n - (intOf i).toNat)
  case atStart => exact ⟨0, rfl, Nat.zero_le _, tmP_zero (HWK.out.ext xo.b)⟩
  case round =>
    obtain ⟨k, rfl, hk, hwk⟩ := hrel
    have HWR := Lib.hid hwk
    clear hwk
    obtain ⟨z0, hz0⟩ := rebase wr
    rw [hz0]; clear hz0 xo ewo
    have HW_3 : Hid (∀ z : Ext wr, Below w.heap.size w z.v) := fun z => HW_2.out (z.up HWR.out.bel)
    have HI_3 : Hid (∀ z : Ext wr, DuctIn z.v z.v.heap.size D (some ⟨pb, po, none⟩) (some ⟨qb, qo, none⟩)) := fun z => HI_2.out (z.up HWR.out.bel)
    have L0_3 : ∀ z : Ext wr, z.v.cell? ⟨w.heap.size, 0, none⟩ = some (.slice (some ⟨pb, po, none⟩) D.n c) := fun z => L0_2 (z.up HWR.out.bel)
    have L1_3 : ∀ z : Ext wr, z.v.cell? ⟨w.heap.size, 1, none⟩ = some (.slice (some ⟨qb, qo, none⟩) D.m d) := fun z => L1_2 (z.up HWR.out.bel)
    have V0_3 : ∀ z : Ext wr, z.v.cell? ⟨x1.v.heap.size, 0, none⟩ = some (.int .i64 g0) := fun z => V0_2 (z.up HWR.out.bel)
    have V1_3 : ∀ z : Ext wr, z.v.cell? ⟨x1.v.heap.size, 1, none⟩ = some (.int .i64 g1) := fun z => V1_2 (z.up HWR.out.bel)
    have V2_3 : ∀ z : Ext wr, z.v.cell? ⟨x1.v.heap.size, 2, none⟩ = some (.int .i64 g2) := fun z => V2_2 (z.up HWR.out.bel)
    have V3_3 : ∀ z : Ext wr, z.v.cell? ⟨x1.v.heap.size, 3, none⟩ = some (.int .i64 g3) := fun z => V3_2 (z.up HWR.out.bel)
    have B0_3 : ∀ z : Ext wr, z.v.cell? ⟨xb1.v.heap.size, 0, none⟩ = some (.int .i64 y0) := fun z => B0_2 (z.up HWR.out.bel)
    have B1_3 : ∀ z : Ext wr, z.v.cell? ⟨xb1.v.heap.size, 1, none⟩ = some (.int .i64 y1) := fun z => B1_2 (z.up HWR.out.bel)
    have O0_3 : ∀ z : Ext wr, z.v.cell? ⟨OB, 0, none⟩ = some (.slice (some ⟨g, go, none⟩) D.n c') := fun z => (HWR.out.box.bel z.b).c0
    have O1_3 : ∀ z : Ext wr, z.v.cell? ⟨OB, 1, none⟩ = some (.slice (some ⟨g9, o9, none⟩) D.m d') := fun z => (HWR.out.box.bel z.b).c1
    have FZ_3 : ∀ z : Ext wr, ∀ i, z.v.frozen? ⟨g, i, none⟩ = false := fun z => (HWR.out.ext z.b).fz
    by_cases hlt : k < D.n
    · have d1 : decide ((k : Int) < (D.n : Int)) = true := by simp; omega
      have jk : (k : Int) < (D.n : Int) := by omega
      have k40 : k ≤ 40 := by omega
      have hcb := HCO.out k hlt
      have hmk := mul_in (a := D.co k) (A := 20) hcb (b := y0) (B := 20) ⟨by have := HYB.out; omega, HYB.out.2⟩
      have hwk : IntKind.i64.wrap (D.co k * y0) = D.co k * y0 := IntWalk.i64_in _ (by omega)
      have E2 : ∀ z : Ext wr, z.v.cell? ⟨g, go + k * 3 + 2, none⟩ = some (.int .i64 (D.co k)) := fun z => by
        have := (HWR.out.duct.bel z.b).co' hlt
        simpa [tmP] using this
      clear hcb hmk
      go_wp2_with fail
      refine wp_region_lastE 11 (by kernel_rfl) rfl (fun yr => ?_)
      refine wpAnyG_take (i := 0) (v := ?_) (by kernel_rfl) rfl (by kernel_rfl) (by kernel_rfl) (by kernel_rfl) (fun _ _ _ h => h) (Or.inl ⟨by rfl, ?_⟩) ⟨_, rfl⟩ ?_
      rotate_left
      · rintro wS ⟨yS, rfl⟩
        go_simp
        try (with_reducible rfl)
      try simp only [Act.put, List.setIfInBounds_toArray, List.set_cons_zero, List.set_cons_succ]
      refine wpAnyG_take (i := 1) (v := ?_) (by kernel_rfl) rfl (by kernel_rfl) (by kernel_rfl) (by kernel_rfl) (fun _ _ _ h => h) (Or.inl ⟨by rfl, ?_⟩) ⟨_, rfl⟩ ?_
      rotate_left
      · rintro wS ⟨yS, rfl⟩
        go_simp
        try (with_reducible rfl)
      try simp only [Act.put, List.setIfInBounds_toArray, List.set_cons_zero, List.set_cons_succ]
      refine wpAnyG_take (i := 2) (v := ?_) (by kernel_rfl) rfl (by kernel_rfl) (by kernel_rfl) (by kernel_rfl) (fun _ _ _ h => h) (Or.inl ⟨by rfl, ?_⟩) ⟨_, rfl⟩ ?_
      rotate_left
      · rintro wS ⟨yS, rfl⟩
        go_simp
        try (with_reducible rfl)
      try simp only [Act.put, List.setIfInBounds_toArray, List.set_cons_zero, List.set_cons_succ]
      refine wpAnyG_take (i := 3) (v := ?_) (by kernel_rfl) rfl (by kernel_rfl) (by kernel_rfl) (by kernel_rfl) (fun _ _ _ h => h) (Or.inl ⟨by rfl, ?_⟩) ⟨_, rfl⟩ ?_
      rotate_left
      · rintro wS ⟨yS, rfl⟩
        go_simp
        try (with_reducible rfl)
      try simp only [Act.put, List.setIfInBounds_toArray, List.set_cons_zero, List.set_cons_succ]
      refine wpAnyG_take (i := 4) (v := ?_) (by kernel_rfl) rfl (by kernel_rfl) (by kernel_rfl) (by kernel_rfl) (fun _ _ _ h => h) (Or.inl ⟨by rfl, ?_⟩) ⟨_, rfl⟩ ?_
      rotate_left
      · rintro wS ⟨yS, rfl⟩
        go_simp
        try (with_reducible rfl)
      try simp only [Act.put, List.setIfInBounds_toArray, List.set_cons_zero, List.set_cons_succ]
      refine wpAnyG_take (i := 5) (v := ?_) (by kernel_rfl) rfl (by kernel_rfl) (by kernel_rfl) (by kernel_rfl) (fun _ _ _ h => h) (Or.inl ⟨by rfl, ?_⟩) ⟨_, rfl⟩ ?_
      rotate_left
      · rintro wS ⟨yS, rfl⟩
        go_simp
        try (with_reducible rfl)
      try simp only [Act.put, List.setIfInBounds_toArray, List.set_cons_zero, List.set_cons_succ]
      refine wpAnyG_take (i := 6) (v := ?_) (by kernel_rfl) rfl (by kernel_rfl) (by kernel_rfl) (by kernel_rfl) (fun _ _ _ h => h) (Or.inl ⟨by rfl, ?_⟩) ⟨_, rfl⟩ ?_
      rotate_left
      · rintro wS ⟨yS, rfl⟩
        go_simp
        try (with_reducible rfl)
      try simp only [Act.put, List.setIfInBounds_toArray, List.set_cons_zero, List.set_cons_succ]
      refine wpAnyG_take (i := 7) (v := ?_) (by kernel_rfl) rfl (by kernel_rfl) (by kernel_rfl) (by kernel_rfl) (fun _ _ _ h => h) (Or.inl ⟨by rfl, ?_⟩) ⟨_, rfl⟩ ?_
      rotate_left
      · rintro wS ⟨yS, rfl⟩
        go_simp
        try (with_reducible rfl)
      try simp only [Act.put, List.setIfInBounds_toArray, List.set_cons_zero, List.set_cons_succ]
      refine wpAnyG_take (i := 8) (v := ?_) (by kernel_rfl) rfl (by kernel_rfl) (by kernel_rfl) (by kernel_rfl) (fun _ _ _ h => h) (Or.inl ⟨by rfl, ?_⟩) ⟨_, rfl⟩ ?_
      rotate_left
      · rintro wS ⟨yS, rfl⟩
        go_simp
        try (with_reducible rfl)
      try simp only [Act.put, List.setIfInBounds_toArray, List.set_cons_zero, List.set_cons_succ]
      refine wpAnyG_take (i := 9) (v := ?_) (by kernel_rfl) rfl (by kernel_rfl) (by kernel_rfl) (by kernel_rfl) (fun _ _ _ h => h) (Or.inl ⟨by rfl, ?_⟩) ⟨_, rfl⟩ ?_
      rotate_left
      · rintro wS ⟨yS, rfl⟩
        go_simp
        try (with_reducible rfl)
      try simp only [Act.put, List.setIfInBounds_toArray, List.set_cons_zero, List.set_cons_succ]
      refine wpAnyG_take (i := 10) (v := ?_) (by kernel_rfl) rfl (by kernel_rfl) (by kernel_rfl) (by kernel_rfl) (fun _ _ _ h => h) (Or.inl ⟨by rfl, ?_⟩) ⟨_, rfl⟩ ?_
      rotate_left
      · rintro wS ⟨yS, rfl⟩
        go_simp
        try (with_reducible rfl)
      try simp only [Act.put, List.setIfInBounds_toArray, List.set_cons_zero, List.set_cons_succ]
      refine wpAnyG_done (by kernel_rfl) (by kernel_rfl) (wpOp_plain rfl rfl ?_)
      go_simp
      go_wp2
      go_roundw
      case rel => exact ⟨k + 1, by go_num, hlt, tmP_step ((HWR.out.ext yr.b).co hlt)⟩
      case measure => first | (simp [intOf]; done) | (simp [intOf]; omega)
    · obtain rfl : k = D.n := by omega
      have d1 : decide ((D.n : Int) < (D.n : Int)) = false := by simp
      have HWS := Lib.hid (tmO_zero (b := y1) HWR.out)
      clear hk hlt
      go_wp2_with fail
      clear d1
      go_loopw [9] (fun i wq => ∃ k : Nat, i = .int .i64 (k : Int) ∧ k ≤ D.m ∧ Work wb2 wq OB g go g9 o9 c' d' D (tmO D y0 y1 k)) (fun i _ => D.m - (intOf i).toNat)
      case atStart => exact ⟨0, rfl, Nat.zero_le _, HWS.out.ext z0.b⟩
      case round =>
        clear z0 HWS
        obtain ⟨k, rfl, hk, hwk⟩ := hrel
        have HWT := Lib.hid hwk
        clear hwk
        obtain ⟨z0, hz0⟩ := rebase wr
        rw [hz0]; clear hz0
        clear HW_3 HI_3 L0_3 L1_3 V0_3 V1_3 V2_3 V3_3 B0_3 B1_3 O0_3 O1_3 FZ_3
        have HW_51 : Hid (∀ z : Ext wr, Below w.heap.size w z.v) := fun z => HW_2.out (z.up HWT.out.bel)
        have HI_51 : Hid (∀ z : Ext wr, DuctIn z.v z.v.heap.size D (some ⟨pb, po, none⟩) (some ⟨qb, qo, none⟩)) := fun z => HI_2.out (z.up HWT.out.bel)
        have L0_51 : ∀ z : Ext wr, z.v.cell? ⟨w.heap.size, 0, none⟩ = some (.slice (some ⟨pb, po, none⟩) D.n c) := fun z => L0_2 (z.up HWT.out.bel)
        have L1_51 : ∀ z : Ext wr, z.v.cell? ⟨w.heap.size, 1, none⟩ = some (.slice (some ⟨qb, qo, none⟩) D.m d) := fun z => L1_2 (z.up HWT.out.bel)
        have V0_51 : ∀ z : Ext wr, z.v.cell? ⟨x1.v.heap.size, 0, none⟩ = some (.int .i64 g0) := fun z => V0_2 (z.up HWT.out.bel)
        have V1_51 : ∀ z : Ext wr, z.v.cell? ⟨x1.v.heap.size, 1, none⟩ = some (.int .i64 g1) := fun z => V1_2 (z.up HWT.out.bel)
        have V2_51 : ∀ z : Ext wr, z.v.cell? ⟨x1.v.heap.size, 2, none⟩ = some (.int .i64 g2) := fun z => V2_2 (z.up HWT.out.bel)
        have V3_51 : ∀ z : Ext wr, z.v.cell? ⟨x1.v.heap.size, 3, none⟩ = some (.int .i64 g3) := fun z => V3_2 (z.up HWT.out.bel)
        have B0_51 : ∀ z : Ext wr, z.v.cell? ⟨xb1.v.heap.size, 0, none⟩ = some (.int .i64 y0) := fun z => B0_2 (z.up HWT.out.bel)
        have B1_51 : ∀ z : Ext wr, z.v.cell? ⟨xb1.v.heap.size, 1, none⟩ = some (.int .i64 y1) := fun z => B1_2 (z.up HWT.out.bel)
        have O0_51 : ∀ z : Ext wr, z.v.cell? ⟨OB, 0, none⟩ = some (.slice (some ⟨g, go, none⟩) D.n c') := fun z => (HWT.out.box.bel z.b).c0
        have O1_51 : ∀ z : Ext wr, z.v.cell? ⟨OB, 1, none⟩ = some (.slice (some ⟨g9, o9, none⟩) D.m d') := fun z => (HWT.out.box.bel z.b).c1
        have FZ2_51 : ∀ z : Ext wr, ∀ i, z.v.frozen? ⟨g9, i, none⟩ = false := fun z => (HWT.out.ext z.b).fz2
        by_cases hlt : k < D.m
        · have d1 : decide ((k : Int) < (D.m : Int)) = true := by simp; omega
          have jk : (k : Int) < (D.m : Int) := by omega
          have k40 : k ≤ 40 := by omega
          have hcb := HOD.out k hlt
          have hmk := mul_in (a := D.od k) (A := 9) ⟨by omega, hcb.2⟩ (b := y1) (B := 9) ⟨by have := HYC.out; omega, HYC.out.2⟩
          have hwk : IntKind.i64.wrap (D.od k * y1) = D.od k * y1 := IntWalk.i64_in _ (by omega)
          have E0 : ∀ z : Ext wr, z.v.cell? ⟨g9, o9 + k, none⟩ = some (.int .i64 (D.od k)) := fun z => by
            have := ((HWT.out.duct.bel z.b).od.cell hlt).2
            simpa [tmO] using this
          clear hcb hmk
          go_wp2_with fail
          refine wp_region_lastE 9 (by kernel_rfl) rfl (fun yr => ?_)
          refine wpAnyG_take (i := 0) (v := ?_) (by kernel_rfl) rfl (by kernel_rfl) (by kernel_rfl) (by kernel_rfl) (fun _ _ _ h => h) (Or.inl ⟨by rfl, ?_⟩) ⟨_, rfl⟩ ?_
          rotate_left
          · rintro wS ⟨yS, rfl⟩
            go_simp
            try (with_reducible rfl)
          try simp only [Act.put, List.setIfInBounds_toArray, List.set_cons_zero, List.set_cons_succ]
          refine wpAnyG_take (i := 1) (v := ?_) (by kernel_rfl) rfl (by kernel_rfl) (by kernel_rfl) (by kernel_rfl) (fun _ _ _ h => h) (Or.inl ⟨by rfl, ?_⟩) ⟨_, rfl⟩ ?_
          rotate_left
          · rintro wS ⟨yS, rfl⟩
            go_simp
            try (with_reducible rfl)
          try simp only [Act.put, List.setIfInBounds_toArray, List.set_cons_zero, List.set_cons_succ]
          refine wpAnyG_take (i := 2) (v := ?_) (by kernel_rfl) rfl (by kernel_rfl) (by kernel_rfl) (by kernel_rfl) (fun _ _ _ h => h) (Or.inl ⟨by rfl, ?_⟩) ⟨_, rfl⟩ ?_
          rotate_left
          · rintro wS ⟨yS, rfl⟩
            go_simp
            try (with_reducible rfl)
          try simp only [Act.put, List.setIfInBounds_toArray, List.set_cons_zero, List.set_cons_succ]
          refine wpAnyG_take (i := 3) (v := ?_) (by kernel_rfl) rfl (by kernel_rfl) (by kernel_rfl) (by kernel_rfl) (fun _ _ _ h => h) (Or.inl ⟨by rfl, ?_⟩) ⟨_, rfl⟩ ?_
          rotate_left
          · rintro wS ⟨yS, rfl⟩
            go_simp
            try (with_reducible rfl)
          try simp only [Act.put, List.setIfInBounds_toArray, List.set_cons_zero, List.set_cons_succ]
          refine wpAnyG_take (i := 4) (v := ?_) (by kernel_rfl) rfl (by kernel_rfl) (by kernel_rfl) (by kernel_rfl) (fun _ _ _ h => h) (Or.inl ⟨by rfl, ?_⟩) ⟨_, rfl⟩ ?_
          rotate_left
          · rintro wS ⟨yS, rfl⟩
            go_simp
            try (with_reducible rfl)
          try simp only [Act.put, List.setIfInBounds_toArray, List.set_cons_zero, List.set_cons_succ]
          refine wpAnyG_take (i := 5) (v := ?_) (by kernel_rfl) rfl (by kernel_rfl) (by kernel_rfl) (by kernel_rfl) (fun _ _ _ h => h) (Or.inl ⟨by rfl, ?_⟩) ⟨_, rfl⟩ ?_
          rotate_left
          · rintro wS ⟨yS, rfl⟩
            go_simp
            try (with_reducible rfl)
          try simp only [Act.put, List.setIfInBounds_toArray, List.set_cons_zero, List.set_cons_succ]
          refine wpAnyG_take (i := 6) (v := ?_) (by kernel_rfl) rfl (by kernel_rfl) (by kernel_rfl) (by kernel_rfl) (fun _ _ _ h => h) (Or.inl ⟨by rfl, ?_⟩) ⟨_, rfl⟩ ?_
          rotate_left
          · rintro wS ⟨yS, rfl⟩
            go_simp
            try (with_reducible rfl)
          try simp only [Act.put, List.setIfInBounds_toArray, List.set_cons_zero, List.set_cons_succ]
          refine wpAnyG_take (i := 7) (v := ?_) (by kernel_rfl) rfl (by kernel_rfl) (by kernel_rfl) (by kernel_rfl) (fun _ _ _ h => h) (Or.inl ⟨by rfl, ?_⟩) ⟨_, rfl⟩ ?_
          rotate_left
          · rintro wS ⟨yS, rfl⟩
            go_simp
            try (with_reducible rfl)
          try simp only [Act.put, List.setIfInBounds_toArray, List.set_cons_zero, List.set_cons_succ]
          refine wpAnyG_take (i := 8) (v := ?_) (by kernel_rfl) rfl (by kernel_rfl) (by kernel_rfl) (by kernel_rfl) (fun _ _ _ h => h) (Or.inl ⟨by rfl, ?_⟩) ⟨_, rfl⟩ ?_
          rotate_left
          · rintro wS ⟨yS, rfl⟩
            go_simp
            try (with_reducible rfl)
          try simp only [Act.put, List.setIfInBounds_toArray, List.set_cons_zero, List.set_cons_succ]
          refine wpAnyG_done (by kernel_rfl) (by kernel_rfl) (wpOp_plain rfl rfl ?_)
          go_simp
          go_wp2
          go_roundw
          case rel => exact ⟨k + 1, by go_num, hlt, tmO_step ((HWT.out.ext yr.b).od hlt)⟩
          case measure => first | (simp [intOf]; done) | (simp [intOf]; omega)
        · obtain rfl : k = D.m := by omega
          have d1 : decide ((D.m : Int) < (D.m : Int)) = false := by simp
          have HO := Lib.hid (tmO_end HWT.out).duct
          clear hk hlt
          have HO_50 : Hid (∀ z : Ext wr, DuctIn z.v z.v.heap.size (tmD D y0 y1) (some ⟨g, go, none⟩) (some ⟨g9, o9, none⟩)) := fun z => HO.out.bel z.b
          go_wp2_with fail
          refine (quiet_x (HW1.out _ (HI_51.out _))).mono ?_
          rintro e w' ⟨rfl, y61, rfl⟩
          go_wp2_with fail
          refine (quiet_x (HA1.out _ (HI_51.out _))).mono ?_
          rintro e w' ⟨rfl, y62, rfl⟩
          obtain ⟨wt62, xt62, et62, bt62, zt62, tt62⟩ := mk_two y62 60 u v
          have HBT62 := Lib.hid bt62; have HTT62 := Lib.hid tt62
          clear bt62 tt62 zt62
          have HW_52 : Hid (∀ z : Ext wt62, Below w.heap.size w z.v) := fun z => HW_51.out (z.up HBT62.out)
          have HI_52 : Hid (∀ z : Ext wt62, DuctIn z.v z.v.heap.size D (some ⟨pb, po, none⟩) (some ⟨qb, qo, none⟩)) := fun z => HI_51.out (z.up HBT62.out)
          have L0_52 : ∀ z : Ext wt62, z.v.cell? ⟨w.heap.size, 0, none⟩ = some (.slice (some ⟨pb, po, none⟩) D.n c) := fun z => L0_51 (z.up HBT62.out)
          have L1_52 : ∀ z : Ext wt62, z.v.cell? ⟨w.heap.size, 1, none⟩ = some (.slice (some ⟨qb, qo, none⟩) D.m d) := fun z => L1_51 (z.up HBT62.out)
          have V0_52 : ∀ z : Ext wt62, z.v.cell? ⟨x1.v.heap.size, 0, none⟩ = some (.int .i64 g0) := fun z => V0_51 (z.up HBT62.out)
          have V1_52 : ∀ z : Ext wt62, z.v.cell? ⟨x1.v.heap.size, 1, none⟩ = some (.int .i64 g1) := fun z => V1_51 (z.up HBT62.out)
          have V2_52 : ∀ z : Ext wt62, z.v.cell? ⟨x1.v.heap.size, 2, none⟩ = some (.int .i64 g2) := fun z => V2_51 (z.up HBT62.out)
          have V3_52 : ∀ z : Ext wt62, z.v.cell? ⟨x1.v.heap.size, 3, none⟩ = some (.int .i64 g3) := fun z => V3_51 (z.up HBT62.out)
          have B0_52 : ∀ z : Ext wt62, z.v.cell? ⟨xb1.v.heap.size, 0, none⟩ = some (.int .i64 y0) := fun z => B0_51 (z.up HBT62.out)
          have B1_52 : ∀ z : Ext wt62, z.v.cell? ⟨xb1.v.heap.size, 1, none⟩ = some (.int .i64 y1) := fun z => B1_51 (z.up HBT62.out)
          have O0_52 : ∀ z : Ext wt62, z.v.cell? ⟨OB, 0, none⟩ = some (.slice (some ⟨g, go, none⟩) D.n c') := fun z => O0_51 (z.up HBT62.out)
          have O1_52 : ∀ z : Ext wt62, z.v.cell? ⟨OB, 1, none⟩ = some (.slice (some ⟨g9, o9, none⟩) D.m d') := fun z => O1_51 (z.up HBT62.out)
          have FZ2_52 : ∀ z : Ext wt62, ∀ i, z.v.frozen? ⟨g9, i, none⟩ = false := fun z => FZ2_51 (z.up HBT62.out)
          have HO_52 : Hid (∀ z : Ext wt62, DuctIn z.v z.v.heap.size (tmD D y0 y1) (some ⟨g, go, none⟩) (some ⟨g9, o9, none⟩)) := fun z => HO_50.out (z.up HBT62.out)
          clear HW_51 HI_51 L0_51 L1_51 V0_51 V1_51 V2_51 V3_51 B0_51 B1_51 O0_51 O1_51 FZ2_51 HO_50
          have A0_52 : ∀ z : Ext wt62, z.v.cell? ⟨y62.v.heap.size, 0, none⟩ = some (.int .i64 u) := fun z => (HTT62.out.bel z.b).c0
          have A1_52 : ∀ z : Ext wt62, z.v.cell? ⟨y62.v.heap.size, 1, none⟩ = some (.int .i64 v) := fun z => (HTT62.out.bel z.b).c1
          have Af_52 : ∀ z : Ext wt62, ∀ i, z.v.frozen? ⟨y62.v.heap.size, i, none⟩ = false := fun z => (HTT62.out.bel z.b).fz
          go_wp2_with fail
          refine (quiet_x (HR.out _ (some ⟨g, go, none⟩) (some ⟨g9, o9, none⟩) c' d' (HO_52.out _))).mono ?_
          rintro e w' ⟨rfl, y63, rfl⟩
          go_wp2_with fail
          refine (quiet_x (works_ex _)).mono ?_
          rintro e w' ⟨rfl, y64, rfl⟩
          go_wp2_with fail
          go_ret
          exact ⟨rfl, HW_52.out y64⟩
set_option maxRecDepth 100000 in
set_option maxHeartbeats 16000000 in
theorem times_full (D : Duct) (p q : Option Addr) (c d : Nat) (g0 g1 g2 g3 y0 y1 al u v u2 v2 nx ne fr : Int) (w : World) (hn4 : D.n ≤ 40) (hm4 : D.m ≤ 40) (hrd : (!(decide (40 < D.n) || decide (40 < D.m)) && D.ok) = true) (has : areS D g0 g1 = true) (hip : isPt D g2 = true) (hy0 : within y0 1 20 = true) (hy1 : within y1 1 9 = true) (hm0 : 0 < D.m) (hnm : D.n = D.m + 1) (hco : ∀ k, k < D.n → 0 ≤ D.co k ∧ D.co k ≤ 20) (hod : ∀ k, k < D.m → 1 ≤ D.od k ∧ D.od k ≤ 9) (hal : 0 ≤ al ∧ al ≤ 1000) (hub : 0 ≤ u ∧ u ≤ 100000) (hvb : 1 ≤ v ∧ v ≤ 1000) (huv : u ≤ al * v) (hfb : 0 ≤ fr ∧ fr ≤ 1000)
    (hW1 : ∀ V : World, DuctIn V V.heap.size D p q → Calls Try.prog 28 #[.agg #[.slice p D.n c, .slice q D.m d], .int .i64 g0, .int .i64 g1] V fun e w' => e = .returned (.tuple #[.int .i64 al, .int .i64 0]) ∧ Below V.heap.size V w') (hA1 : ∀ V : World, DuctIn V V.heap.size D p q → Calls Try.prog 36 #[.agg #[.slice p D.n c, .slice q D.m d], .int .i64 g0, .int .i64 g1] V fun e w' => e = .returned (.tuple #[.agg #[.int .i64 u, .int .i64 v], .int .i64 0]) ∧ Below V.heap.size V w') (hR : ∀ (V : World) P Q cc dd, DuctIn V V.heap.size (tmD D y0 y1) P Q → Calls Try.prog 15 #[.agg #[.slice P D.n cc, .slice Q D.m dd]] V fun e w' => e = .returned (.bool true) ∧ Below V.heap.size V w') (hW2 : ∀ (V : World) P Q cc dd, DuctIn V V.heap.size (tmD D y0 y1) P Q → Calls Try.prog 28 #[.agg #[.slice P D.n cc, .slice Q D.m dd], .int .i64 g0, .int .i64 g1] V fun e w' => e = .returned (.tuple #[.int .i64 (al * y0), .int .i64 0]) ∧ Below V.heap.size V w') (hA2 : ∀ (V : World) P Q cc dd, D.m ≤ dd → DuctIn V V.heap.size (tmD D y0 y1) P Q → Calls Try.prog 36 #[.agg #[.slice P D.n cc, .slice Q D.m dd], .int .i64 g0, .int .i64 g1] V fun e w' => e = .returned (.tuple #[.agg #[.int .i64 u2, .int .i64 v2], .int .i64 0]) ∧ Below V.heap.size V w') (hN1 : ∀ V : World, DuctIn V V.heap.size D p q → Calls Try.prog 31 #[.agg #[.slice p D.n c, .slice q D.m d], .int .i64 g0, .int .i64 g1] V fun e w' => e = .returned (.tuple #[.int .i64 nx, .int .i64 ne]) ∧ Below V.heap.size V w') (hN2 : ∀ (V : World) P Q cc dd, DuctIn V V.heap.size (tmD D y0 y1) P Q → Calls Try.prog 31 #[.agg #[.slice P D.n cc, .slice Q D.m dd], .int .i64 g0, .int .i64 g1] V fun e w' => e = .returned (.tuple #[.int .i64 nx, .int .i64 ne]) ∧ Below V.heap.size V w') (hRe : ∀ V : World, Calls Try.prog 38 #[.int .i64 (u * y0), .int .i64 v] V fun e w' => e = .returned (.agg #[.int .i64 u2, .int .i64 v2]) ∧ Below V.heap.size V w') (hF1 : ∀ V : World, DuctIn V V.heap.size D p q → Calls Try.prog 37 #[.agg #[.slice p D.n c, .slice q D.m d], .int .i64 g2] V fun e w' => e = .returned (.tuple #[.int .i64 fr, .int .i64 0]) ∧ Below V.heap.size V w') (hF2 : ∀ (V : World) P Q cc dd, DuctIn V V.heap.size (tmD D y0 y1) P Q → Calls Try.prog 37 #[.agg #[.slice P D.n cc, .slice Q D.m dd], .int .i64 g2] V fun e w' => e = .returned (.tuple #[.int .i64 (fr * y0), .int .i64 0]) ∧ Below V.heap.size V w') (hi : DuctIn w w.heap.size D p q) :
    Calls Try.prog 8 #[.agg #[.slice p D.n c, .slice q D.m d], .agg #[.int .i64 g0, .int .i64 g1, .int .i64 g2, .int .i64 g3], .agg #[.int .i64 y0, .int .i64 y1]] w fun e w' => e = .returned (.bool true) ∧ Below w.heap.size w w' := by
  have hn : D.n ≤ maxLen := by unfold maxLen; omega
  have hm : D.m ≤ maxLen := by unfold maxLen; omega
  have HRD := Lib.hid (show ∀ V : World, DuctIn V V.heap.size D p q → Calls Try.prog 15 #[.agg #[.slice p D.n c, .slice q D.m d]] V fun e w' => e = .returned (.bool true) ∧ Below V.heap.size V w' from fun V h => by
    have := ready_any D p q c d V hn hm h
    rw [hrd] at this
    exact this)
  have HAS := Lib.hid (show ∀ V : World, Calls Try.prog 35 #[.agg #[.slice p D.n c, .slice q D.m d], .int .i64 g0, .int .i64 g1] V fun e w' => e = .returned (.bool true) ∧ Below V.heap.size V w' from fun V => by
    have := areSomeR_any D p q c d g0 g1 V hm4
    rw [has] at this
    exact this)
  have HIP := Lib.hid (show ∀ V : World, Calls Try.prog 19 #[.agg #[.slice p D.n c, .slice q D.m d], .int .i64 g2] V fun e w' => e = .returned (.bool true) ∧ Below V.heap.size V w' from fun V => by
    have := isPointR_any D p q c d g2 V hn4
    rw [hip] at this
    exact this)
  have HY0 := Lib.hid (show ∀ V : World, Calls Try.prog 32 #[.int .i64 y0, .int .i64 1, .int .i64 20] V fun e w' => e = .returned (.bool true) ∧ Below V.heap.size V w' from fun V => by
    have := within1_any y0 1 20 V
    rw [hy0] at this
    exact this.mono fun e w' ⟨he, hb⟩ => ⟨he, by rw [hb]; exact Below.refl _ _⟩)
  have HY1 := Lib.hid (show ∀ V : World, Calls Try.prog 32 #[.int .i64 y1, .int .i64 1, .int .i64 9] V fun e w' => e = .returned (.bool true) ∧ Below V.heap.size V w' from fun V => by
    have := within1_any y1 1 9 V
    rw [hy1] at this
    exact this.mono fun e w' ⟨he, hb⟩ => ⟨he, by rw [hb]; exact Below.refl _ _⟩)
  have hyb := within_iff.1 hy0
  have hyc := within_iff.1 hy1
  have HNM := Lib.hid hnm; have HM0 := Lib.hid hm0; have HM4 := Lib.hid hm4; have HCO := Lib.hid hco; have HOD := Lib.hid hod; have HYB := Lib.hid hyb; have HYC := Lib.hid hyc
  have HW1 := Lib.hid hW1
  have HA1 := Lib.hid hA1
  have HR := Lib.hid hR
  have HW2 := Lib.hid hW2
  have HA2 := Lib.hid hA2
  have HN1 := Lib.hid hN1
  have HN2 := Lib.hid hN2
  have HRe := Lib.hid hRe
  have HF1 := Lib.hid hF1
  have HF2 := Lib.hid hF2
  have a1 : decide (al < 0) = false := by simp; omega
  have a2 : decide (1000 < al) = false := by simp; omega
  have a3 : decide (u < 0) = false := by simp; omega
  have a4 : decide (100000 < u) = false := by simp; omega
  have a5 : decide (v < 1) = false := by simp; omega
  have a6 : decide (1000 < v) = false := by simp; omega
  obtain ⟨AV2, hAV2⟩ : ∃ e, al * v = e := ⟨_, rfl⟩
  have hm1 := mul_in (a := al) (A := 1000) hal (b := v) (B := 1000) ⟨by omega, hvb.2⟩
  rw [hAV2] at hm1 huv
  have a7 : IntKind.i64.wrap (al * v) = AV2 := by rw [hAV2]; exact IntWalk.i64_in _ (by omega)
  have a8 : decide (AV2 < u) = false := by simp; omega
  obtain ⟨al2, hal2⟩ : ∃ e, al * y0 = e := ⟨_, rfl⟩
  have hm2 := mul_in (a := al) (A := 1000) hal (b := y0) (B := 20) ⟨by omega, by omega⟩
  rw [hal2] at hm2 HW2
  have b1 : IntKind.i64.wrap (al * y0) = al2 := by rw [hal2]; exact IntWalk.i64_in _ (by omega)
  have b2 : (al2 != al2) = false := by simp
  obtain ⟨uy, huy⟩ : ∃ e, u * y0 = e := ⟨_, rfl⟩
  have hm3 := mul_in (a := u) (A := 100000) hub (b := y0) (B := 20) ⟨by omega, by omega⟩
  rw [huy] at hm3 HRe
  have b3 : IntKind.i64.wrap (u * y0) = uy := by rw [huy]; exact IntWalk.i64_in _ (by omega)
  obtain ⟨fr2, hfr2⟩ : ∃ e, fr * y0 = e := ⟨_, rfl⟩
  have hm4' := mul_in (a := fr) (A := 1000) hfb (b := y0) (B := 20) ⟨by omega, by omega⟩
  rw [hfr2] at hm4' HF2
  have b4 : IntKind.i64.wrap (fr * y0) = fr2 := by rw [hfr2]; exact IntWalk.i64_in _ (by omega)
  have b5 : (fr2 == fr2) = true := by simp
  have b6 : decide (0 ≤ fr) = true := by simp; omega
  have b7 : decide (fr ≤ 1000) = true := by simp; omega
  have b8 : (u2 != u2) = false := by simp
  have b9 : (v2 != v2) = false := by simp
  have b8' : (u2 == u2) = true := by simp
  have b9' : (v2 == v2) = true := by simp
  have b10 : (nx != nx) = false := by simp
  have b11 : (ne != ne) = false := by simp
  clear hal2 hm2 huy hm3 hfr2 hm4' hfb
  clear hrd has hip hy0 hy1 hm0 hnm hco hod hal hub hvb huv hyb hyc hAV2 hm1 hW1 hA1 hR hW2 hA2 hN1 hN2 hRe hF1 hF2
  obtain ⟨pb, po, rfl, hpb1, hpb2⟩ := hi.pt (by have := HM0.out; have := HNM.out; omega)
  obtain ⟨qb, qo, rfl, hqb1, hqb2⟩ := hi.od HM0.out
  clear hpb1 hpb2 hqb1 hqb2
  obtain ⟨w1, x1, ew1, hb1, hl1⟩ := mk_line w (some ⟨pb, po, none⟩) (some ⟨qb, qo, none⟩) D.n D.m c d
  have HL1 := Lib.hid hl1; have HI1 := Lib.hid (hi.bel hb1); have HB1 := Lib.hid hb1
  clear hb1 hl1 hi
  have HW_0 : Hid (∀ z : Ext w1, Below w.heap.size w z.v) := fun z => bT HB1.out z.b
  have HI_0 : Hid (∀ z : Ext w1, DuctIn z.v z.v.heap.size D (some ⟨pb, po, none⟩) (some ⟨qb, qo, none⟩)) := fun z => HI1.out.bel z.b
  have L0_0 : ∀ z : Ext w1, z.v.cell? ⟨w.heap.size, 0, none⟩ = some (.slice (some ⟨pb, po, none⟩) D.n c) := fun z => (HL1.out.bel z.b).c0
  have L1_0 : ∀ z : Ext w1, z.v.cell? ⟨w.heap.size, 1, none⟩ = some (.slice (some ⟨qb, qo, none⟩) D.m d) := fun z => (HL1.out.bel z.b).c1
  obtain ⟨wb1, xb1, eb1, bb1, tb1⟩ := mk_four x1 56 g0 g1 g2 g3
  have HBB1 := Lib.hid bb1; have HTB1 := Lib.hid tb1
  clear bb1 tb1
  have HW_1 : Hid (∀ z : Ext wb1, Below w.heap.size w z.v) := fun z => HW_0.out (z.up HBB1.out)
  have HI_1 : Hid (∀ z : Ext wb1, DuctIn z.v z.v.heap.size D (some ⟨pb, po, none⟩) (some ⟨qb, qo, none⟩)) := fun z => HI_0.out (z.up HBB1.out)
  have L0_1 : ∀ z : Ext wb1, z.v.cell? ⟨w.heap.size, 0, none⟩ = some (.slice (some ⟨pb, po, none⟩) D.n c) := fun z => L0_0 (z.up HBB1.out)
  have L1_1 : ∀ z : Ext wb1, z.v.cell? ⟨w.heap.size, 1, none⟩ = some (.slice (some ⟨qb, qo, none⟩) D.m d) := fun z => L1_0 (z.up HBB1.out)
  clear HW_0 HI_0 L0_0 L1_0
  have V0_1 : ∀ z : Ext wb1, z.v.cell? ⟨x1.v.heap.size, 0, none⟩ = some (.int .i64 g0) := fun z => (HTB1.out.bel z.b).c0
  have V1_1 : ∀ z : Ext wb1, z.v.cell? ⟨x1.v.heap.size, 1, none⟩ = some (.int .i64 g1) := fun z => (HTB1.out.bel z.b).c1
  have V2_1 : ∀ z : Ext wb1, z.v.cell? ⟨x1.v.heap.size, 2, none⟩ = some (.int .i64 g2) := fun z => (HTB1.out.bel z.b).c2
  have V3_1 : ∀ z : Ext wb1, z.v.cell? ⟨x1.v.heap.size, 3, none⟩ = some (.int .i64 g3) := fun z => (HTB1.out.bel z.b).c3
  obtain ⟨wb2, xb2, eb2, bb2, tb2⟩ := mk_twoB xb1 64 y0 y1
  have HBB2 := Lib.hid bb2; have HTB2 := Lib.hid tb2
  clear bb2 tb2
  have HW_2 : Hid (∀ z : Ext wb2, Below w.heap.size w z.v) := fun z => HW_1.out (z.up HBB2.out)
  have HI_2 : Hid (∀ z : Ext wb2, DuctIn z.v z.v.heap.size D (some ⟨pb, po, none⟩) (some ⟨qb, qo, none⟩)) := fun z => HI_1.out (z.up HBB2.out)
  have L0_2 : ∀ z : Ext wb2, z.v.cell? ⟨w.heap.size, 0, none⟩ = some (.slice (some ⟨pb, po, none⟩) D.n c) := fun z => L0_1 (z.up HBB2.out)
  have L1_2 : ∀ z : Ext wb2, z.v.cell? ⟨w.heap.size, 1, none⟩ = some (.slice (some ⟨qb, qo, none⟩) D.m d) := fun z => L1_1 (z.up HBB2.out)
  have V0_2 : ∀ z : Ext wb2, z.v.cell? ⟨x1.v.heap.size, 0, none⟩ = some (.int .i64 g0) := fun z => V0_1 (z.up HBB2.out)
  have V1_2 : ∀ z : Ext wb2, z.v.cell? ⟨x1.v.heap.size, 1, none⟩ = some (.int .i64 g1) := fun z => V1_1 (z.up HBB2.out)
  have V2_2 : ∀ z : Ext wb2, z.v.cell? ⟨x1.v.heap.size, 2, none⟩ = some (.int .i64 g2) := fun z => V2_1 (z.up HBB2.out)
  have V3_2 : ∀ z : Ext wb2, z.v.cell? ⟨x1.v.heap.size, 3, none⟩ = some (.int .i64 g3) := fun z => V3_1 (z.up HBB2.out)
  clear HW_1 HI_1 L0_1 L1_1 V0_1 V1_1 V2_1 V3_1
  have B0_2 : ∀ z : Ext wb2, z.v.cell? ⟨xb1.v.heap.size, 0, none⟩ = some (.int .i64 y0) := fun z => (HTB2.out.bel z.b).c0
  have B1_2 : ∀ z : Ext wb2, z.v.cell? ⟨xb1.v.heap.size, 1, none⟩ = some (.int .i64 y1) := fun z => (HTB2.out.bel z.b).c1
  go_enter Try.func8, Try.ntmps8
  go_wp2_with fail
  refine (quiet_x (HRD.out _ (HI_2.out _))).mono ?_
  rintro e w' ⟨rfl, y3, rfl⟩
  go_wp2_with fail
  refine (quiet_x (HAS.out _)).mono ?_
  rintro e w' ⟨rfl, y4, rfl⟩
  go_wp2_with fail
  refine (quiet_x (HIP.out _)).mono ?_
  rintro e w' ⟨rfl, y5, rfl⟩
  go_wp2_with fail
  refine (quiet_x (HY0.out _)).mono ?_
  rintro e w' ⟨rfl, y6, rfl⟩
  go_wp2_with fail
  refine (quiet_x (HY1.out _)).mono ?_
  rintro e w' ⟨rfl, y7, rfl⟩
  go_wp2_with fail
  refine (copyC_any D (some ⟨pb, po, none⟩) (some ⟨qb, qo, none⟩) c d _ hn4 hm4 (HI_2.out _)).mono ?_
  rintro e w' ⟨p', c', q', d', rfl, hcp, hoq, hcc, hdd⟩
  obtain ⟨g, go, rfl, hg1, hfz, hne⟩ := hcp.own (by have := HM0.out; have := HNM.out; omega)
  obtain ⟨wo, xo, ewo, bwo, lwo⟩ := mk_line w' (some ⟨g, go, none⟩) q' D.n D.m c' d'
  obtain ⟨g9, o9, rfl, hwk⟩ := work_new (wb := wb2) (y := y7) (by have := HM0.out; have := HNM.out; omega) HM0.out hcp hoq hne hfz hg1 bwo lwo
  obtain ⟨OB, hOB⟩ : ∃ n, w'.heap.size = n := ⟨_, rfl⟩
  have HWK := Lib.hid hwk; have HDD := Lib.hid hdd
  clear hcp hoq hcc hdd hg1 hfz hne bwo lwo hwk
  rw [hOB] at HWK
  go_wp2_with fail
  clear hOB
  go_loopw [8] (fun i wr => ∃ k : Nat, i = .int .i64 (k : Int) ∧ k ≤ D.n ∧ Work wb2 wr OB g go g9 o9 c' d' D (tmP D y0 k)) (fun i _ => D.n - (intOf i).toNat)
  case atStart => exact ⟨0, rfl, Nat.zero_le _, tmP_zero (HWK.out.ext xo.b)⟩
  case round =>
    obtain ⟨k, rfl, hk, hwk⟩ := hrel
    have HWR := Lib.hid hwk
    clear hwk
    obtain ⟨z0, hz0⟩ := rebase wr
    rw [hz0]; clear hz0 xo ewo
    have HW_3 : Hid (∀ z : Ext wr, Below w.heap.size w z.v) := fun z => HW_2.out (z.up HWR.out.bel)
    have HI_3 : Hid (∀ z : Ext wr, DuctIn z.v z.v.heap.size D (some ⟨pb, po, none⟩) (some ⟨qb, qo, none⟩)) := fun z => HI_2.out (z.up HWR.out.bel)
    have L0_3 : ∀ z : Ext wr, z.v.cell? ⟨w.heap.size, 0, none⟩ = some (.slice (some ⟨pb, po, none⟩) D.n c) := fun z => L0_2 (z.up HWR.out.bel)
    have L1_3 : ∀ z : Ext wr, z.v.cell? ⟨w.heap.size, 1, none⟩ = some (.slice (some ⟨qb, qo, none⟩) D.m d) := fun z => L1_2 (z.up HWR.out.bel)
    have V0_3 : ∀ z : Ext wr, z.v.cell? ⟨x1.v.heap.size, 0, none⟩ = some (.int .i64 g0) := fun z => V0_2 (z.up HWR.out.bel)
    have V1_3 : ∀ z : Ext wr, z.v.cell? ⟨x1.v.heap.size, 1, none⟩ = some (.int .i64 g1) := fun z => V1_2 (z.up HWR.out.bel)
    have V2_3 : ∀ z : Ext wr, z.v.cell? ⟨x1.v.heap.size, 2, none⟩ = some (.int .i64 g2) := fun z => V2_2 (z.up HWR.out.bel)
    have V3_3 : ∀ z : Ext wr, z.v.cell? ⟨x1.v.heap.size, 3, none⟩ = some (.int .i64 g3) := fun z => V3_2 (z.up HWR.out.bel)
    have B0_3 : ∀ z : Ext wr, z.v.cell? ⟨xb1.v.heap.size, 0, none⟩ = some (.int .i64 y0) := fun z => B0_2 (z.up HWR.out.bel)
    have B1_3 : ∀ z : Ext wr, z.v.cell? ⟨xb1.v.heap.size, 1, none⟩ = some (.int .i64 y1) := fun z => B1_2 (z.up HWR.out.bel)
    have O0_3 : ∀ z : Ext wr, z.v.cell? ⟨OB, 0, none⟩ = some (.slice (some ⟨g, go, none⟩) D.n c') := fun z => (HWR.out.box.bel z.b).c0
    have O1_3 : ∀ z : Ext wr, z.v.cell? ⟨OB, 1, none⟩ = some (.slice (some ⟨g9, o9, none⟩) D.m d') := fun z => (HWR.out.box.bel z.b).c1
    have FZ_3 : ∀ z : Ext wr, ∀ i, z.v.frozen? ⟨g, i, none⟩ = false := fun z => (HWR.out.ext z.b).fz
    by_cases hlt : k < D.n
    · have d1 : decide ((k : Int) < (D.n : Int)) = true := by simp; omega
      have jk : (k : Int) < (D.n : Int) := by omega
      have k40 : k ≤ 40 := by omega
      have hcb := HCO.out k hlt
      have hmk := mul_in (a := D.co k) (A := 20) hcb (b := y0) (B := 20) ⟨by have := HYB.out; omega, HYB.out.2⟩
      have hwk : IntKind.i64.wrap (D.co k * y0) = D.co k * y0 := IntWalk.i64_in _ (by omega)
      have E2 : ∀ z : Ext wr, z.v.cell? ⟨g, go + k * 3 + 2, none⟩ = some (.int .i64 (D.co k)) := fun z => by
        have := (HWR.out.duct.bel z.b).co' hlt
        simpa [tmP] using this
      clear hcb hmk
      go_wp2_with fail
      refine wp_region_lastE 11 (by kernel_rfl) rfl (fun yr => ?_)
      refine wpAnyG_take (i := 0) (v := ?_) (by kernel_rfl) rfl (by kernel_rfl) (by kernel_rfl) (by kernel_rfl) (fun _ _ _ h => h) (Or.inl ⟨by rfl, ?_⟩) ⟨_, rfl⟩ ?_
      rotate_left
      · rintro wS ⟨yS, rfl⟩
        go_simp
        try (with_reducible rfl)
      try simp only [Act.put, List.setIfInBounds_toArray, List.set_cons_zero, List.set_cons_succ]
      refine wpAnyG_take (i := 1) (v := ?_) (by kernel_rfl) rfl (by kernel_rfl) (by kernel_rfl) (by kernel_rfl) (fun _ _ _ h => h) (Or.inl ⟨by rfl, ?_⟩) ⟨_, rfl⟩ ?_
      rotate_left
      · rintro wS ⟨yS, rfl⟩
        go_simp
        try (with_reducible rfl)
      try simp only [Act.put, List.setIfInBounds_toArray, List.set_cons_zero, List.set_cons_succ]
      refine wpAnyG_take (i := 2) (v := ?_) (by kernel_rfl) rfl (by kernel_rfl) (by kernel_rfl) (by kernel_rfl) (fun _ _ _ h => h) (Or.inl ⟨by rfl, ?_⟩) ⟨_, rfl⟩ ?_
      rotate_left
      · rintro wS ⟨yS, rfl⟩
        go_simp
        try (with_reducible rfl)
      try simp only [Act.put, List.setIfInBounds_toArray, List.set_cons_zero, List.set_cons_succ]
      refine wpAnyG_take (i := 3) (v := ?_) (by kernel_rfl) rfl (by kernel_rfl) (by kernel_rfl) (by kernel_rfl) (fun _ _ _ h => h) (Or.inl ⟨by rfl, ?_⟩) ⟨_, rfl⟩ ?_
      rotate_left
      · rintro wS ⟨yS, rfl⟩
        go_simp
        try (with_reducible rfl)
      try simp only [Act.put, List.setIfInBounds_toArray, List.set_cons_zero, List.set_cons_succ]
      refine wpAnyG_take (i := 4) (v := ?_) (by kernel_rfl) rfl (by kernel_rfl) (by kernel_rfl) (by kernel_rfl) (fun _ _ _ h => h) (Or.inl ⟨by rfl, ?_⟩) ⟨_, rfl⟩ ?_
      rotate_left
      · rintro wS ⟨yS, rfl⟩
        go_simp
        try (with_reducible rfl)
      try simp only [Act.put, List.setIfInBounds_toArray, List.set_cons_zero, List.set_cons_succ]
      refine wpAnyG_take (i := 5) (v := ?_) (by kernel_rfl) rfl (by kernel_rfl) (by kernel_rfl) (by kernel_rfl) (fun _ _ _ h => h) (Or.inl ⟨by rfl, ?_⟩) ⟨_, rfl⟩ ?_
      rotate_left
      · rintro wS ⟨yS, rfl⟩
        go_simp
        try (with_reducible rfl)
      try simp only [Act.put, List.setIfInBounds_toArray, List.set_cons_zero, List.set_cons_succ]
      refine wpAnyG_take (i := 6) (v := ?_) (by kernel_rfl) rfl (by kernel_rfl) (by kernel_rfl) (by kernel_rfl) (fun _ _ _ h => h) (Or.inl ⟨by rfl, ?_⟩) ⟨_, rfl⟩ ?_
      rotate_left
      · rintro wS ⟨yS, rfl⟩
        go_simp
        try (with_reducible rfl)
      try simp only [Act.put, List.setIfInBounds_toArray, List.set_cons_zero, List.set_cons_succ]
      refine wpAnyG_take (i := 7) (v := ?_) (by kernel_rfl) rfl (by kernel_rfl) (by kernel_rfl) (by kernel_rfl) (fun _ _ _ h => h) (Or.inl ⟨by rfl, ?_⟩) ⟨_, rfl⟩ ?_
      rotate_left
      · rintro wS ⟨yS, rfl⟩
        go_simp
        try (with_reducible rfl)
      try simp only [Act.put, List.setIfInBounds_toArray, List.set_cons_zero, List.set_cons_succ]
      refine wpAnyG_take (i := 8) (v := ?_) (by kernel_rfl) rfl (by kernel_rfl) (by kernel_rfl) (by kernel_rfl) (fun _ _ _ h => h) (Or.inl ⟨by rfl, ?_⟩) ⟨_, rfl⟩ ?_
      rotate_left
      · rintro wS ⟨yS, rfl⟩
        go_simp
        try (with_reducible rfl)
      try simp only [Act.put, List.setIfInBounds_toArray, List.set_cons_zero, List.set_cons_succ]
      refine wpAnyG_take (i := 9) (v := ?_) (by kernel_rfl) rfl (by kernel_rfl) (by kernel_rfl) (by kernel_rfl) (fun _ _ _ h => h) (Or.inl ⟨by rfl, ?_⟩) ⟨_, rfl⟩ ?_
      rotate_left
      · rintro wS ⟨yS, rfl⟩
        go_simp
        try (with_reducible rfl)
      try simp only [Act.put, List.setIfInBounds_toArray, List.set_cons_zero, List.set_cons_succ]
      refine wpAnyG_take (i := 10) (v := ?_) (by kernel_rfl) rfl (by kernel_rfl) (by kernel_rfl) (by kernel_rfl) (fun _ _ _ h => h) (Or.inl ⟨by rfl, ?_⟩) ⟨_, rfl⟩ ?_
      rotate_left
      · rintro wS ⟨yS, rfl⟩
        go_simp
        try (with_reducible rfl)
      try simp only [Act.put, List.setIfInBounds_toArray, List.set_cons_zero, List.set_cons_succ]
      refine wpAnyG_done (by kernel_rfl) (by kernel_rfl) (wpOp_plain rfl rfl ?_)
      go_simp
      go_wp2
      go_roundw
      case rel => exact ⟨k + 1, by go_num, hlt, tmP_step ((HWR.out.ext yr.b).co hlt)⟩
      case measure => first | (simp [intOf]; done) | (simp [intOf]; omega)
    · obtain rfl : k = D.n := by omega
      have d1 : decide ((D.n : Int) < (D.n : Int)) = false := by simp
      have HWS := Lib.hid (tmO_zero (b := y1) HWR.out)
      clear hk hlt
      go_wp2_with fail
      clear d1
      go_loopw [9] (fun i wq => ∃ k : Nat, i = .int .i64 (k : Int) ∧ k ≤ D.m ∧ Work wb2 wq OB g go g9 o9 c' d' D (tmO D y0 y1 k)) (fun i _ => D.m - (intOf i).toNat)
      case atStart => exact ⟨0, rfl, Nat.zero_le _, HWS.out.ext z0.b⟩
      case round =>
        clear z0 HWS
        obtain ⟨k, rfl, hk, hwk⟩ := hrel
        have HWT := Lib.hid hwk
        clear hwk
        obtain ⟨z0, hz0⟩ := rebase wr
        rw [hz0]; clear hz0
        clear HW_3 HI_3 L0_3 L1_3 V0_3 V1_3 V2_3 V3_3 B0_3 B1_3 O0_3 O1_3 FZ_3
        have HW_51 : Hid (∀ z : Ext wr, Below w.heap.size w z.v) := fun z => HW_2.out (z.up HWT.out.bel)
        have HI_51 : Hid (∀ z : Ext wr, DuctIn z.v z.v.heap.size D (some ⟨pb, po, none⟩) (some ⟨qb, qo, none⟩)) := fun z => HI_2.out (z.up HWT.out.bel)
        have L0_51 : ∀ z : Ext wr, z.v.cell? ⟨w.heap.size, 0, none⟩ = some (.slice (some ⟨pb, po, none⟩) D.n c) := fun z => L0_2 (z.up HWT.out.bel)
        have L1_51 : ∀ z : Ext wr, z.v.cell? ⟨w.heap.size, 1, none⟩ = some (.slice (some ⟨qb, qo, none⟩) D.m d) := fun z => L1_2 (z.up HWT.out.bel)
        have V0_51 : ∀ z : Ext wr, z.v.cell? ⟨x1.v.heap.size, 0, none⟩ = some (.int .i64 g0) := fun z => V0_2 (z.up HWT.out.bel)
        have V1_51 : ∀ z : Ext wr, z.v.cell? ⟨x1.v.heap.size, 1, none⟩ = some (.int .i64 g1) := fun z => V1_2 (z.up HWT.out.bel)
        have V2_51 : ∀ z : Ext wr, z.v.cell? ⟨x1.v.heap.size, 2, none⟩ = some (.int .i64 g2) := fun z => V2_2 (z.up HWT.out.bel)
        have V3_51 : ∀ z : Ext wr, z.v.cell? ⟨x1.v.heap.size, 3, none⟩ = some (.int .i64 g3) := fun z => V3_2 (z.up HWT.out.bel)
        have B0_51 : ∀ z : Ext wr, z.v.cell? ⟨xb1.v.heap.size, 0, none⟩ = some (.int .i64 y0) := fun z => B0_2 (z.up HWT.out.bel)
        have B1_51 : ∀ z : Ext wr, z.v.cell? ⟨xb1.v.heap.size, 1, none⟩ = some (.int .i64 y1) := fun z => B1_2 (z.up HWT.out.bel)
        have O0_51 : ∀ z : Ext wr, z.v.cell? ⟨OB, 0, none⟩ = some (.slice (some ⟨g, go, none⟩) D.n c') := fun z => (HWT.out.box.bel z.b).c0
        have O1_51 : ∀ z : Ext wr, z.v.cell? ⟨OB, 1, none⟩ = some (.slice (some ⟨g9, o9, none⟩) D.m d') := fun z => (HWT.out.box.bel z.b).c1
        have FZ2_51 : ∀ z : Ext wr, ∀ i, z.v.frozen? ⟨g9, i, none⟩ = false := fun z => (HWT.out.ext z.b).fz2
        by_cases hlt : k < D.m
        · have d1 : decide ((k : Int) < (D.m : Int)) = true := by simp; omega
          have jk : (k : Int) < (D.m : Int) := by omega
          have k40 : k ≤ 40 := by omega
          have hcb := HOD.out k hlt
          have hmk := mul_in (a := D.od k) (A := 9) ⟨by omega, hcb.2⟩ (b := y1) (B := 9) ⟨by have := HYC.out; omega, HYC.out.2⟩
          have hwk : IntKind.i64.wrap (D.od k * y1) = D.od k * y1 := IntWalk.i64_in _ (by omega)
          have E0 : ∀ z : Ext wr, z.v.cell? ⟨g9, o9 + k, none⟩ = some (.int .i64 (D.od k)) := fun z => by
            have := ((HWT.out.duct.bel z.b).od.cell hlt).2
            simpa [tmO] using this
          clear hcb hmk
          go_wp2_with fail
          refine wp_region_lastE 9 (by kernel_rfl) rfl (fun yr => ?_)
          refine wpAnyG_take (i := 0) (v := ?_) (by kernel_rfl) rfl (by kernel_rfl) (by kernel_rfl) (by kernel_rfl) (fun _ _ _ h => h) (Or.inl ⟨by rfl, ?_⟩) ⟨_, rfl⟩ ?_
          rotate_left
          · rintro wS ⟨yS, rfl⟩
            go_simp
            try (with_reducible rfl)
          try simp only [Act.put, List.setIfInBounds_toArray, List.set_cons_zero, List.set_cons_succ]
          refine wpAnyG_take (i := 1) (v := ?_) (by kernel_rfl) rfl (by kernel_rfl) (by kernel_rfl) (by kernel_rfl) (fun _ _ _ h => h) (Or.inl ⟨by rfl, ?_⟩) ⟨_, rfl⟩ ?_
          rotate_left
          · rintro wS ⟨yS, rfl⟩
            go_simp
            try (with_reducible rfl)
          try simp only [Act.put, List.setIfInBounds_toArray, List.set_cons_zero, List.set_cons_succ]
          refine wpAnyG_take (i := 2) (v := ?_) (by kernel_rfl) rfl (by kernel_rfl) (by kernel_rfl) (by kernel_rfl) (fun _ _ _ h => h) (Or.inl ⟨by rfl, ?_⟩) ⟨_, rfl⟩ ?_
          rotate_left
          · rintro wS ⟨yS, rfl⟩
            go_simp
            try (with_reducible rfl)
          try simp only [Act.put, List.setIfInBounds_toArray, List.set_cons_zero, List.set_cons_succ]
          refine wpAnyG_take (i := 3) (v := ?_) (by kernel_rfl) rfl (by kernel_rfl) (by kernel_rfl) (by kernel_rfl) (fun _ _ _ h => h) (Or.inl ⟨by rfl, ?_⟩) ⟨_, rfl⟩ ?_
          rotate_left
          · rintro wS ⟨yS, rfl⟩
            go_simp
            try (with_reducible rfl)
          try simp only [Act.put, List.setIfInBounds_toArray, List.set_cons_zero, List.set_cons_succ]
          refine wpAnyG_take (i := 4) (v := ?_) (by kernel_rfl) rfl (by kernel_rfl) (by kernel_rfl) (by kernel_rfl) (fun _ _ _ h => h) (Or.inl ⟨by rfl, ?_⟩) ⟨_, rfl⟩ ?_
          rotate_left
          · rintro wS ⟨yS, rfl⟩
            go_simp
            try (with_reducible rfl)
          try simp only [Act.put, List.setIfInBounds_toArray, List.set_cons_zero, List.set_cons_succ]
          refine wpAnyG_take (i := 5) (v := ?_) (by kernel_rfl) rfl (by kernel_rfl) (by kernel_rfl) (by kernel_rfl) (fun _ _ _ h => h) (Or.inl ⟨by rfl, ?_⟩) ⟨_, rfl⟩ ?_
          rotate_left
          · rintro wS ⟨yS, rfl⟩
            go_simp
            try (with_reducible rfl)
          try simp only [Act.put, List.setIfInBounds_toArray, List.set_cons_zero, List.set_cons_succ]
          refine wpAnyG_take (i := 6) (v := ?_) (by kernel_rfl) rfl (by kernel_rfl) (by kernel_rfl) (by kernel_rfl) (fun _ _ _ h => h) (Or.inl ⟨by rfl, ?_⟩) ⟨_, rfl⟩ ?_
          rotate_left
          · rintro wS ⟨yS, rfl⟩
            go_simp
            try (with_reducible rfl)
          try simp only [Act.put, List.setIfInBounds_toArray, List.set_cons_zero, List.set_cons_succ]
          refine wpAnyG_take (i := 7) (v := ?_) (by kernel_rfl) rfl (by kernel_rfl) (by kernel_rfl) (by kernel_rfl) (fun _ _ _ h => h) (Or.inl ⟨by rfl, ?_⟩) ⟨_, rfl⟩ ?_
          rotate_left
          · rintro wS ⟨yS, rfl⟩
            go_simp
            try (with_reducible rfl)
          try simp only [Act.put, List.setIfInBounds_toArray, List.set_cons_zero, List.set_cons_succ]
          refine wpAnyG_take (i := 8) (v := ?_) (by kernel_rfl) rfl (by kernel_rfl) (by kernel_rfl) (by kernel_rfl) (fun _ _ _ h => h) (Or.inl ⟨by rfl, ?_⟩) ⟨_, rfl⟩ ?_
          rotate_left
          · rintro wS ⟨yS, rfl⟩
            go_simp
            try (with_reducible rfl)
          try simp only [Act.put, List.setIfInBounds_toArray, List.set_cons_zero, List.set_cons_succ]
          refine wpAnyG_done (by kernel_rfl) (by kernel_rfl) (wpOp_plain rfl rfl ?_)
          go_simp
          go_wp2
          go_roundw
          case rel => exact ⟨k + 1, by go_num, hlt, tmO_step ((HWT.out.ext yr.b).od hlt)⟩
          case measure => first | (simp [intOf]; done) | (simp [intOf]; omega)
        · obtain rfl : k = D.m := by omega
          have d1 : decide ((D.m : Int) < (D.m : Int)) = false := by simp
          have HO := Lib.hid (tmO_end HWT.out).duct
          clear hk hlt
          have HO_50 : Hid (∀ z : Ext wr, DuctIn z.v z.v.heap.size (tmD D y0 y1) (some ⟨g, go, none⟩) (some ⟨g9, o9, none⟩)) := fun z => HO.out.bel z.b
          go_wp2_with fail
          refine (quiet_x (HW1.out _ (HI_51.out _))).mono ?_
          rintro e w' ⟨rfl, y61, rfl⟩
          go_wp2_with fail
          refine (quiet_x (HA1.out _ (HI_51.out _))).mono ?_
          rintro e w' ⟨rfl, y62, rfl⟩
          obtain ⟨wt62, xt62, et62, bt62, zt62, tt62⟩ := mk_two y62 60 u v
          have HBT62 := Lib.hid bt62; have HTT62 := Lib.hid tt62
          clear bt62 tt62 zt62
          have HW_52 : Hid (∀ z : Ext wt62, Below w.heap.size w z.v) := fun z => HW_51.out (z.up HBT62.out)
          have HI_52 : Hid (∀ z : Ext wt62, DuctIn z.v z.v.heap.size D (some ⟨pb, po, none⟩) (some ⟨qb, qo, none⟩)) := fun z => HI_51.out (z.up HBT62.out)
          have L0_52 : ∀ z : Ext wt62, z.v.cell? ⟨w.heap.size, 0, none⟩ = some (.slice (some ⟨pb, po, none⟩) D.n c) := fun z => L0_51 (z.up HBT62.out)
          have L1_52 : ∀ z : Ext wt62, z.v.cell? ⟨w.heap.size, 1, none⟩ = some (.slice (some ⟨qb, qo, none⟩) D.m d) := fun z => L1_51 (z.up HBT62.out)
          have V0_52 : ∀ z : Ext wt62, z.v.cell? ⟨x1.v.heap.size, 0, none⟩ = some (.int .i64 g0) := fun z => V0_51 (z.up HBT62.out)
          have V1_52 : ∀ z : Ext wt62, z.v.cell? ⟨x1.v.heap.size, 1, none⟩ = some (.int .i64 g1) := fun z => V1_51 (z.up HBT62.out)
          have V2_52 : ∀ z : Ext wt62, z.v.cell? ⟨x1.v.heap.size, 2, none⟩ = some (.int .i64 g2) := fun z => V2_51 (z.up HBT62.out)
          have V3_52 : ∀ z : Ext wt62, z.v.cell? ⟨x1.v.heap.size, 3, none⟩ = some (.int .i64 g3) := fun z => V3_51 (z.up HBT62.out)
          have B0_52 : ∀ z : Ext wt62, z.v.cell? ⟨xb1.v.heap.size, 0, none⟩ = some (.int .i64 y0) := fun z => B0_51 (z.up HBT62.out)
          have B1_52 : ∀ z : Ext wt62, z.v.cell? ⟨xb1.v.heap.size, 1, none⟩ = some (.int .i64 y1) := fun z => B1_51 (z.up HBT62.out)
          have O0_52 : ∀ z : Ext wt62, z.v.cell? ⟨OB, 0, none⟩ = some (.slice (some ⟨g, go, none⟩) D.n c') := fun z => O0_51 (z.up HBT62.out)
          have O1_52 : ∀ z : Ext wt62, z.v.cell? ⟨OB, 1, none⟩ = some (.slice (some ⟨g9, o9, none⟩) D.m d') := fun z => O1_51 (z.up HBT62.out)
          have FZ2_52 : ∀ z : Ext wt62, ∀ i, z.v.frozen? ⟨g9, i, none⟩ = false := fun z => FZ2_51 (z.up HBT62.out)
          have HO_52 : Hid (∀ z : Ext wt62, DuctIn z.v z.v.heap.size (tmD D y0 y1) (some ⟨g, go, none⟩) (some ⟨g9, o9, none⟩)) := fun z => HO_50.out (z.up HBT62.out)
          clear HW_51 HI_51 L0_51 L1_51 V0_51 V1_51 V2_51 V3_51 B0_51 B1_51 O0_51 O1_51 FZ2_51 HO_50
          have A0_52 : ∀ z : Ext wt62, z.v.cell? ⟨y62.v.heap.size, 0, none⟩ = some (.int .i64 u) := fun z => (HTT62.out.bel z.b).c0
          have A1_52 : ∀ z : Ext wt62, z.v.cell? ⟨y62.v.heap.size, 1, none⟩ = some (.int .i64 v) := fun z => (HTT62.out.bel z.b).c1
          have Af_52 : ∀ z : Ext wt62, ∀ i, z.v.frozen? ⟨y62.v.heap.size, i, none⟩ = false := fun z => (HTT62.out.bel z.b).fz
          go_wp2_with fail
          refine (quiet_x (HR.out _ (some ⟨g, go, none⟩) (some ⟨g9, o9, none⟩) c' d' (HO_52.out _))).mono ?_
          rintro e w' ⟨rfl, y63, rfl⟩
          go_wp2_with fail
          refine (quiet_x (HW2.out _ (some ⟨g, go, none⟩) (some ⟨g9, o9, none⟩) c' d' (HO_52.out _))).mono ?_
          rintro e w' ⟨rfl, y64, rfl⟩
          go_wp2_with fail
          refine (quiet_x (HA2.out _ (some ⟨g, go, none⟩) (some ⟨g9, o9, none⟩) c' d' HDD.out (HO_52.out _))).mono ?_
          rintro e w' ⟨rfl, y65, rfl⟩
          obtain ⟨wt65, xt65, et65, bt65, zt65, tt65⟩ := mk_two y65 60 u2 v2
          have HBT65 := Lib.hid bt65; have HTT65 := Lib.hid tt65
          clear bt65 tt65 zt65
          have HW_53 : Hid (∀ z : Ext wt65, Below w.heap.size w z.v) := fun z => HW_52.out (z.up HBT65.out)
          have HI_53 : Hid (∀ z : Ext wt65, DuctIn z.v z.v.heap.size D (some ⟨pb, po, none⟩) (some ⟨qb, qo, none⟩)) := fun z => HI_52.out (z.up HBT65.out)
          have L0_53 : ∀ z : Ext wt65, z.v.cell? ⟨w.heap.size, 0, none⟩ = some (.slice (some ⟨pb, po, none⟩) D.n c) := fun z => L0_52 (z.up HBT65.out)
          have L1_53 : ∀ z : Ext wt65, z.v.cell? ⟨w.heap.size, 1, none⟩ = some (.slice (some ⟨qb, qo, none⟩) D.m d) := fun z => L1_52 (z.up HBT65.out)
          have V0_53 : ∀ z : Ext wt65, z.v.cell? ⟨x1.v.heap.size, 0, none⟩ = some (.int .i64 g0) := fun z => V0_52 (z.up HBT65.out)
          have V1_53 : ∀ z : Ext wt65, z.v.cell? ⟨x1.v.heap.size, 1, none⟩ = some (.int .i64 g1) := fun z => V1_52 (z.up HBT65.out)
          have V2_53 : ∀ z : Ext wt65, z.v.cell? ⟨x1.v.heap.size, 2, none⟩ = some (.int .i64 g2) := fun z => V2_52 (z.up HBT65.out)
          have V3_53 : ∀ z : Ext wt65, z.v.cell? ⟨x1.v.heap.size, 3, none⟩ = some (.int .i64 g3) := fun z => V3_52 (z.up HBT65.out)
          have B0_53 : ∀ z : Ext wt65, z.v.cell? ⟨xb1.v.heap.size, 0, none⟩ = some (.int .i64 y0) := fun z => B0_52 (z.up HBT65.out)
          have B1_53 : ∀ z : Ext wt65, z.v.cell? ⟨xb1.v.heap.size, 1, none⟩ = some (.int .i64 y1) := fun z => B1_52 (z.up HBT65.out)
          have O0_53 : ∀ z : Ext wt65, z.v.cell? ⟨OB, 0, none⟩ = some (.slice (some ⟨g, go, none⟩) D.n c') := fun z => O0_52 (z.up HBT65.out)
          have O1_53 : ∀ z : Ext wt65, z.v.cell? ⟨OB, 1, none⟩ = some (.slice (some ⟨g9, o9, none⟩) D.m d') := fun z => O1_52 (z.up HBT65.out)
          have FZ2_53 : ∀ z : Ext wt65, ∀ i, z.v.frozen? ⟨g9, i, none⟩ = false := fun z => FZ2_52 (z.up HBT65.out)
          have HO_53 : Hid (∀ z : Ext wt65, DuctIn z.v z.v.heap.size (tmD D y0 y1) (some ⟨g, go, none⟩) (some ⟨g9, o9, none⟩)) := fun z => HO_52.out (z.up HBT65.out)
          have A0_53 : ∀ z : Ext wt65, z.v.cell? ⟨y62.v.heap.size, 0, none⟩ = some (.int .i64 u) := fun z => A0_52 (z.up HBT65.out)
          have A1_53 : ∀ z : Ext wt65, z.v.cell? ⟨y62.v.heap.size, 1, none⟩ = some (.int .i64 v) := fun z => A1_52 (z.up HBT65.out)
          have Af_53 : ∀ z : Ext wt65, ∀ i, z.v.frozen? ⟨y62.v.heap.size, i, none⟩ = false := fun z => Af_52 (z.up HBT65.out)
          clear HW_52 HI_52 L0_52 L1_52 V0_52 V1_52 V2_52 V3_52 B0_52 B1_52 O0_52 O1_52 FZ2_52 HO_52 A0_52 A1_52 Af_52
          have Z0_53 : ∀ z : Ext wt65, z.v.cell? ⟨y65.v.heap.size, 0, none⟩ = some (.int .i64 u2) := fun z => (HTT65.out.bel z.b).c0
          have Z1_53 : ∀ z : Ext wt65, z.v.cell? ⟨y65.v.heap.size, 1, none⟩ = some (.int .i64 v2) := fun z => (HTT65.out.bel z.b).c1
          have Zf_53 : ∀ z : Ext wt65, ∀ i, z.v.frozen? ⟨y65.v.heap.size, i, none⟩ = false := fun z => (HTT65.out.bel z.b).fz
          go_wp2_with fail
          refine (quiet_x (HN1.out _ (HI_53.out _))).mono ?_
          rintro e w' ⟨rfl, y66, rfl⟩
          go_wp2_with fail
          refine (quiet_x (HN2.out _ (some ⟨g, go, none⟩) (some ⟨g9, o9, none⟩) c' d' (HO_53.out _))).mono ?_
          rintro e w' ⟨rfl, y67, rfl⟩
          go_wp2_with fail
          refine quiet_e (by kernel_rfl) (by kernel_rfl) ?_
          repeat (first | go_big_quiet_step ((first | (go_at_call 38; exact quiet_x (HRe.out _)))) | quiet_step ((first | (go_at_call 38; exact quiet_x (HRe.out _)))))
          refine wpQuiet_nil ?_
          intro w6 hw6
          obtain ⟨y90, rfl⟩ := hw6
          go_wp2_with fail
          refine (quiet_x (HF1.out _ (HI_53.out _))).mono ?_
          rintro e w' ⟨rfl, y68, rfl⟩
          go_wp2_with fail
          refine (quiet_x (HF2.out _ (some ⟨g, go, none⟩) (some ⟨g9, o9, none⟩) c' d' (HO_53.out _))).mono ?_
          rintro e w' ⟨rfl, y69, rfl⟩
          go_wp2_with fail
          refine (quiet_x (works_ex _)).mono ?_
          rintro e w' ⟨rfl, y70, rfl⟩
          go_wp2_with fail
          go_ret
          exact ⟨rfl, HW_53.out y70⟩
theorem tm_vals {D : Duct} {A O k m : Nat} {a b : Nat} (hA : AW D a b = (A : Int)) (hO : oS D a b = (O : Int)) (hk : 1 ≤ k) (hm : 1 ≤ m) (hOp : 0 < O) :
    avN (tmD D k m) a b = rN (A / Nat.gcd A O * k) (O / Nat.gcd A O) ∧ avD (tmD D k m) a b = rD (A / Nat.gcd A O * k) (O / Nat.gcd A O) := by
  have e1 : (AW (tmD D k m) a b).toNat = k * m * A := by
    rw [tm_A (by omega) (by omega), hA]
    have : (k : Int) * (m : Int) * (A : Int) = ((k * m * A : Nat) : Int) := by push_cast; rfl
    rw [this]; rfl
  have e2 : (oS (tmD D k m) a b).toNat = O * m := by
    rw [tm_oS, hO]
    have : (O : Int) * (m : Int) = ((O * m : Nat) : Int) := by push_cast; rfl
    rw [this]; rfl
  unfold avN avD
  rw [e1, e2]
  exact r_scale hOp (by omega)
theorem times_law (D : Duct) (p q : Option Addr) (c d : Nat) (g0 g1 g2 g3 y0 y1 : Int) (w : World) (hn : D.n ≤ maxLen) (hm : D.m ≤ maxLen) (hd : D.m ≤ d) (hi : DuctIn w w.heap.size D p q) :
    Calls Try.prog 8 #[.agg #[.slice p D.n c, .slice q D.m d], .agg #[.int .i64 g0, .int .i64 g1, .int .i64 g2, .int .i64 g3], .agg #[.int .i64 y0, .int .i64 y1]] w fun e w' => e = .returned (.bool true) ∧ Below w.heap.size w w' := by
  cases hrd : (!(decide (40 < D.n) || decide (40 < D.m)) && D.ok) with
  | false => exact times_o1 D p q c d g0 g1 g2 g3 y0 y1 w hn hm hrd hi
  | true =>
    have h : (D.n ≤ 40 ∧ D.m ≤ 40) ∧ D.ok = true := by simpa using hrd
    obtain ⟨⟨hn4, hm4⟩, hok⟩ := h
    cases has : areS D g0 g1 with
    | false => exact times_o2 D p q c d g0 g1 g2 g3 y0 y1 w hn hm hn4 hm4 hrd has hi
    | true =>
    cases hip : isPt D g2 with
    | false => exact times_o3 D p q c d g0 g1 g2 g3 y0 y1 w hn hm hn4 hm4 hrd has hip hi
    | true =>
    cases hy0 : within y0 1 20 with
    | false => exact times_o4 D p q c d g0 g1 g2 g3 y0 y1 w hn hm hn4 hm4 hrd has hip hy0 hi
    | true =>
    cases hy1 : within y1 1 9 with
    | false => exact times_o5 D p q c d g0 g1 g2 g3 y0 y1 w hn hm hn4 hm4 hrd has hip hy0 hy1 hi
    | true =>
      obtain ⟨hm7, hnm, hod, _⟩ := D.ok_parts hok
      have hco := co_bd hok
      obtain ⟨a, b, rfl, rfl, hab, hbm⟩ := areS_nat has
      obtain ⟨j, rfl, hj⟩ := isPt_nat hip
      have hyb := within_iff.1 hy0
      have hyc := within_iff.1 hy1
      obtain ⟨k, rfl⟩ : ∃ k : Nat, y0 = (k : Int) := ⟨y0.toNat, by omega⟩
      obtain ⟨m, rfl⟩ : ∃ m : Nat, y1 = (m : Int) := ⟨y1.toNat, by omega⟩
      obtain ⟨A, O, hA, hO, hA1, hO1, hO2, hvN, hvD⟩ := av_vals hok hab hbm
      have hWb := W_bd hco (n := 7) (f := a) (t := b) (by omega) (by omega)
      have hle := AW_le hco hod hnm (n := b - a) (f := a) (t := b) (Nat.le_refl _) hab hbm
      obtain ⟨W, hW⟩ : ∃ W : Nat, WW D a b = (W : Int) := ⟨(WW D a b).toNat, by omega⟩
      rw [hA, hO, hW] at hle
      have hle' : A ≤ W * O := by exact_mod_cast hle
      have huv := r_le hO1 hle'
      have hNb := rN_bd (A := A) (O := O)
      have hDb := rD_bd (A := A) hO1
      have hFb := FR_bd (D := D) (x := j) (hco j hj).1
      have hcj := hco j hj
      rw [← hvN, ← hvD, ← hW] at huv
      rw [← hvN] at hNb; rw [← hvD] at hDb
      have hRb : ∀ (V : World) P Q cc dd, DuctIn V V.heap.size (tmD D k m) P Q → Calls Try.prog 15 #[.agg #[.slice P D.n cc, .slice Q D.m dd]] V fun e w' => e = .returned (.bool (tmD D k m).ok) ∧ Below V.heap.size V w' := fun V P Q cc dd h => by
        have := ready_any (tmD D k m) P Q cc dd V hn hm h
        have e : (!(decide (40 < (tmD D k m).n) || decide (40 < (tmD D k m).m)) && (tmD D k m).ok) = (tmD D k m).ok := by
          have h1 : decide (40 < (tmD D k m).n) = false := by show decide (40 < D.n) = false; simp; omega
          have h2 : decide (40 < (tmD D k m).m) = false := by show decide (40 < D.m) = false; simp; omega
          rw [h1, h2]; rfl
        rw [e] at this; exact this
      cases hokT : (tmD D k m).ok with
      | false =>
        rw [hokT] at hRb
        exact times_off D p q c d (a : Int) (b : Int) (j : Int) g3 (k : Int) (m : Int) (WW D a b) (avN D a b) (avD D a b) w hn4 hm4 hrd has hip hy0 hy1 (by omega) hnm hco hod (by omega) (by omega) (by omega) huv
          (fun V h => worstP_ok D p q c d a b V hab hbm hn4 hok h) (fun V h => averageP_ok D p q c d a b V hab hbm hn4 hok hd h) hRb hi
      | true =>
        rw [hokT] at hRb
        obtain ⟨v1, v2⟩ := tm_vals (m := m) hA hO (show 1 ≤ k by omega) (by omega) hO1
        have hWt := tm_W (D := D) (k := (k : Int)) (m := (m : Int)) hyb.1 a b
        have hFt := FR_tm (D := D) (k := (k : Int)) (m := (m : Int)) hyb.1 (x := j)
        have hRe : ∀ V : World, Calls Try.prog 38 #[.int .i64 (avN D a b * (k : Int)), .int .i64 (avD D a b)] V fun e w' => e = .returned (.agg #[.int .i64 (avN (tmD D k m) a b), .int .i64 (avD (tmD D k m) a b)]) ∧ Below V.heap.size V w' := fun V => by
          have e1 : avN D a b * (k : Int) = ((A / Nat.gcd A O * k : Nat) : Int) := by rw [hvN]; unfold rN; push_cast; rfl
          have e2 : avD D a b = ((O / Nat.gcd A O : Nat) : Int) := by rw [hvD]; rfl
          rw [e1, e2, v1, v2]
          have l1 : A / Nat.gcd A O ≤ 10000 := Nat.le_trans (Nat.div_le_self _ _) hA1
          have l2 : A / Nat.gcd A O * k ≤ 10000 * 20 := Nat.mul_le_mul l1 (by omega)
          have l3 : O / Nat.gcd A O ≤ 63 := Nat.le_trans (Nat.div_le_self _ _) hO2
          have l4 : 0 < O / Nat.gcd A O := by have := hDb.1; rw [e2] at this; omega
          exact reduced_any _ _ V (by omega) l4 (by omega)
        have wT : ∀ (V : World) P Q cc dd, DuctIn V V.heap.size (tmD D k m) P Q → Calls Try.prog 28 #[.agg #[.slice P D.n cc, .slice Q D.m dd], .int .i64 (a : Int), .int .i64 (b : Int)] V fun e w' => e = .returned (.tuple #[.int .i64 (WW D a b * (k : Int)), .int .i64 0]) ∧ Below V.heap.size V w' := fun V P Q cc dd h => by
          have := worstP_ok (tmD D k m) P Q cc dd a b V hab hbm hn4 hokT h
          rw [hWt.1, Int.mul_comm] at this; exact this
        have aT : ∀ (V : World) P Q cc dd, D.m ≤ dd → DuctIn V V.heap.size (tmD D k m) P Q → Calls Try.prog 36 #[.agg #[.slice P D.n cc, .slice Q D.m dd], .int .i64 (a : Int), .int .i64 (b : Int)] V fun e w' => e = .returned (.tuple #[.agg #[.int .i64 (avN (tmD D k m) a b), .int .i64 (avD (tmD D k m) a b)], .int .i64 0]) ∧ Below V.heap.size V w' := fun V P Q cc dd hdd h => averageP_ok (tmD D k m) P Q cc dd a b V hab hbm hn4 hokT hdd h
        have fT : ∀ (V : World) P Q cc dd, DuctIn V V.heap.size (tmD D k m) P Q → Calls Try.prog 37 #[.agg #[.slice P D.n cc, .slice Q D.m dd], .int .i64 (j : Int)] V fun e w' => e = .returned (.tuple #[.int .i64 (FR D j * (k : Int)), .int .i64 0]) ∧ Below V.heap.size V w' := fun V P Q cc dd h => by
          have := freeP_ok (tmD D k m) P Q cc dd j V hj (by show 0 < D.m; omega) hokT h
          rw [hFt] at this; exact this
        by_cases h3 : b = a + 1
        · exact times_full D p q c d (a : Int) (b : Int) (j : Int) g3 (k : Int) (m : Int) (WW D a b) (avN D a b) (avD D a b) (avN (tmD D k m) a b) (avD (tmD D k m) a b) 0 3 (FR D j) w hn4 hm4 hrd has hip hy0 hy1 (by omega) hnm hco hod (by omega) (by omega) (by omega) huv (by omega)
            (fun V h => worstP_ok D p q c d a b V hab hbm hn4 hok h) (fun V h => averageP_ok D p q c d a b V hab hbm hn4 hok hd h) hRb wT aT
            (fun V h => nextP_one D p q c d a b V h3 hbm hn4 hok h) (fun V P Q cc dd h => nextP_one (tmD D k m) P Q cc dd a b V h3 hbm hn4 hokT h) hRe
            (fun V h => freeP_ok D p q c d j V hj (by omega) hok h) fT hi
        · have nT : ∀ (V : World) P Q cc dd, DuctIn V V.heap.size (tmD D k m) P Q → Calls Try.prog 31 #[.agg #[.slice P D.n cc, .slice Q D.m dd], .int .i64 (a : Int), .int .i64 (b : Int)] V fun e w' => e = .returned (.tuple #[.int .i64 (NX D a b), .int .i64 0]) ∧ Below V.heap.size V w' := fun V P Q cc dd h => by
            have := nextP_ok (tmD D k m) P Q cc dd a b V (by omega) hbm hn4 hokT h
            rw [hWt.2] at this; exact this
          exact times_full D p q c d (a : Int) (b : Int) (j : Int) g3 (k : Int) (m : Int) (WW D a b) (avN D a b) (avD D a b) (avN (tmD D k m) a b) (avD (tmD D k m) a b) (NX D a b) 0 (FR D j) w hn4 hm4 hrd has hip hy0 hy1 (by omega) hnm hco hod (by omega) (by omega) (by omega) huv (by omega)
            (fun V h => worstP_ok D p q c d a b V hab hbm hn4 hok h) (fun V h => averageP_ok D p q c d a b V hab hbm hn4 hok hd h) hRb wT aT
            (fun V h => nextP_ok D p q c d a b V (by omega) hbm hn4 hok h) nT hRe
            (fun V h => freeP_ok D p q c d j V hj (by omega) hok h) fT hi
end Go.Proofs.Ytkdlppekjjbgoaa
