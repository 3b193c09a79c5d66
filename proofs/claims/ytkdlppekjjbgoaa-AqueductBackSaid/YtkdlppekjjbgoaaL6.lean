/- AqueductBack returns true in every walk. -/
import Derived.Test.YtkdlppekjjbgoaaG18

import Derived.Test.YtkdlppekjjbgoaaS6

import Derived.Test.YtkdlppekjjbgoaaB1

set_option linter.unusedSimpArgs false

set_option linter.unusedVariables false

namespace Go.Proofs.Ytkdlppekjjbgoaa

open Go.RowKit

set_option maxRecDepth 100000 in
set_option maxHeartbeats 4000000 in
theorem back_o1 (D : Duct) (p q : Option Addr) (c d : Nat) (g0 g1 g2 g3 : Int) (w : World) (hn : D.n ≤ maxLen) (hm : D.m ≤ maxLen) (hrd : (!(decide (40 < D.n) || decide (40 < D.m)) && D.ok) = false) (hi : DuctIn w w.heap.size D p q) :
    Calls Try.prog 7 #[.agg #[.slice p D.n c, .slice q D.m d], .agg #[.int .i64 g0, .int .i64 g1, .int .i64 g2, .int .i64 g3]] w fun e w' => e = .returned (.bool true) ∧ Below w.heap.size w w' := by
  have HRD := Lib.hid (show ∀ V : World, DuctIn V V.heap.size D p q → Calls Try.prog 15 #[.agg #[.slice p D.n c, .slice q D.m d]] V fun e w' => e = .returned (.bool false) ∧ Below V.heap.size V w' from fun V h => by
    have := ready_any D p q c d V hn hm h
    rw [hrd] at this
    exact this)
  clear hrd
  obtain ⟨w1, x1, ew1, hb1, hl1⟩ := mk_line w p q D.n D.m c d
  have HL1 := Lib.hid hl1; have HI1 := Lib.hid (hi.bel hb1); have HB1 := Lib.hid hb1
  clear hb1 hl1 hi
  have HW_0 : Hid (∀ z : Ext w1, Below w.heap.size w z.v) := fun z => bT HB1.out z.b
  have HI_0 : Hid (∀ z : Ext w1, DuctIn z.v z.v.heap.size D p q) := fun z => HI1.out.bel z.b
  have L0_0 : ∀ z : Ext w1, z.v.cell? ⟨w.heap.size, 0, none⟩ = some (.slice p D.n c) := fun z => (HL1.out.bel z.b).c0
  have L1_0 : ∀ z : Ext w1, z.v.cell? ⟨w.heap.size, 1, none⟩ = some (.slice q D.m d) := fun z => (HL1.out.bel z.b).c1
  obtain ⟨wb1, xb1, eb1, bb1, tb1⟩ := mk_four x1 56 g0 g1 g2 g3
  have HBB1 := Lib.hid bb1; have HTB1 := Lib.hid tb1
  clear bb1 tb1
  have HW_1 : Hid (∀ z : Ext wb1, Below w.heap.size w z.v) := fun z => HW_0.out (z.up HBB1.out)
  have HI_1 : Hid (∀ z : Ext wb1, DuctIn z.v z.v.heap.size D p q) := fun z => HI_0.out (z.up HBB1.out)
  have L0_1 : ∀ z : Ext wb1, z.v.cell? ⟨w.heap.size, 0, none⟩ = some (.slice p D.n c) := fun z => L0_0 (z.up HBB1.out)
  have L1_1 : ∀ z : Ext wb1, z.v.cell? ⟨w.heap.size, 1, none⟩ = some (.slice q D.m d) := fun z => L1_0 (z.up HBB1.out)
  clear HW_0 HI_0 L0_0 L1_0
  have V0_1 : ∀ z : Ext wb1, z.v.cell? ⟨x1.v.heap.size, 0, none⟩ = some (.int .i64 g0) := fun z => (HTB1.out.bel z.b).c0
  have V1_1 : ∀ z : Ext wb1, z.v.cell? ⟨x1.v.heap.size, 1, none⟩ = some (.int .i64 g1) := fun z => (HTB1.out.bel z.b).c1
  have V2_1 : ∀ z : Ext wb1, z.v.cell? ⟨x1.v.heap.size, 2, none⟩ = some (.int .i64 g2) := fun z => (HTB1.out.bel z.b).c2
  have V3_1 : ∀ z : Ext wb1, z.v.cell? ⟨x1.v.heap.size, 3, none⟩ = some (.int .i64 g3) := fun z => (HTB1.out.bel z.b).c3
  go_enter Try.func7, Try.ntmps7
  go_wp2_with fail
  refine (quiet_x (HRD.out _ (HI_1.out _))).mono ?_
  rintro e w' ⟨rfl, y2, rfl⟩
  go_wp2_with fail
  refine (quiet_x (works_ex _)).mono ?_
  rintro e w' ⟨rfl, y3, rfl⟩
  go_wp2_with fail
  go_ret
  exact ⟨rfl, HW_1.out y3⟩

set_option maxRecDepth 100000 in
set_option maxHeartbeats 4000000 in
theorem back_o2 (D : Duct) (p q : Option Addr) (c d : Nat) (g0 g1 g2 g3 : Int) (w : World) (hn : D.n ≤ maxLen) (hm : D.m ≤ maxLen) (hm4 : D.m ≤ 40) (hrd : (!(decide (40 < D.n) || decide (40 < D.m)) && D.ok) = true) (has : areS D g0 g1 = false) (hi : DuctIn w w.heap.size D p q) :
    Calls Try.prog 7 #[.agg #[.slice p D.n c, .slice q D.m d], .agg #[.int .i64 g0, .int .i64 g1, .int .i64 g2, .int .i64 g3]] w fun e w' => e = .returned (.bool true) ∧ Below w.heap.size w w' := by
  have HRD := Lib.hid (show ∀ V : World, DuctIn V V.heap.size D p q → Calls Try.prog 15 #[.agg #[.slice p D.n c, .slice q D.m d]] V fun e w' => e = .returned (.bool true) ∧ Below V.heap.size V w' from fun V h => by
    have := ready_any D p q c d V hn hm h
    rw [hrd] at this
    exact this)
  have HAS := Lib.hid (show ∀ V : World, Calls Try.prog 35 #[.agg #[.slice p D.n c, .slice q D.m d], .int .i64 g0, .int .i64 g1] V fun e w' => e = .returned (.bool false) ∧ Below V.heap.size V w' from fun V => by
    have := areSomeR_any D p q c d g0 g1 V hm4
    rw [has] at this
    exact this)
  clear hrd has
  obtain ⟨w1, x1, ew1, hb1, hl1⟩ := mk_line w p q D.n D.m c d
  have HL1 := Lib.hid hl1; have HI1 := Lib.hid (hi.bel hb1); have HB1 := Lib.hid hb1
  clear hb1 hl1 hi
  have HW_0 : Hid (∀ z : Ext w1, Below w.heap.size w z.v) := fun z => bT HB1.out z.b
  have HI_0 : Hid (∀ z : Ext w1, DuctIn z.v z.v.heap.size D p q) := fun z => HI1.out.bel z.b
  have L0_0 : ∀ z : Ext w1, z.v.cell? ⟨w.heap.size, 0, none⟩ = some (.slice p D.n c) := fun z => (HL1.out.bel z.b).c0
  have L1_0 : ∀ z : Ext w1, z.v.cell? ⟨w.heap.size, 1, none⟩ = some (.slice q D.m d) := fun z => (HL1.out.bel z.b).c1
  obtain ⟨wb1, xb1, eb1, bb1, tb1⟩ := mk_four x1 56 g0 g1 g2 g3
  have HBB1 := Lib.hid bb1; have HTB1 := Lib.hid tb1
  clear bb1 tb1
  have HW_1 : Hid (∀ z : Ext wb1, Below w.heap.size w z.v) := fun z => HW_0.out (z.up HBB1.out)
  have HI_1 : Hid (∀ z : Ext wb1, DuctIn z.v z.v.heap.size D p q) := fun z => HI_0.out (z.up HBB1.out)
  have L0_1 : ∀ z : Ext wb1, z.v.cell? ⟨w.heap.size, 0, none⟩ = some (.slice p D.n c) := fun z => L0_0 (z.up HBB1.out)
  have L1_1 : ∀ z : Ext wb1, z.v.cell? ⟨w.heap.size, 1, none⟩ = some (.slice q D.m d) := fun z => L1_0 (z.up HBB1.out)
  clear HW_0 HI_0 L0_0 L1_0
  have V0_1 : ∀ z : Ext wb1, z.v.cell? ⟨x1.v.heap.size, 0, none⟩ = some (.int .i64 g0) := fun z => (HTB1.out.bel z.b).c0
  have V1_1 : ∀ z : Ext wb1, z.v.cell? ⟨x1.v.heap.size, 1, none⟩ = some (.int .i64 g1) := fun z => (HTB1.out.bel z.b).c1
  have V2_1 : ∀ z : Ext wb1, z.v.cell? ⟨x1.v.heap.size, 2, none⟩ = some (.int .i64 g2) := fun z => (HTB1.out.bel z.b).c2
  have V3_1 : ∀ z : Ext wb1, z.v.cell? ⟨x1.v.heap.size, 3, none⟩ = some (.int .i64 g3) := fun z => (HTB1.out.bel z.b).c3
  go_enter Try.func7, Try.ntmps7
  go_wp2_with fail
  refine (quiet_x (HRD.out _ (HI_1.out _))).mono ?_
  rintro e w' ⟨rfl, y2, rfl⟩
  go_wp2_with fail
  refine (quiet_x (HAS.out _)).mono ?_
  rintro e w' ⟨rfl, y3, rfl⟩
  go_wp2_with fail
  refine (quiet_x (works_ex _)).mono ?_
  rintro e w' ⟨rfl, y4, rfl⟩
  go_wp2_with fail
  go_ret
  exact ⟨rfl, HW_1.out y4⟩

set_option maxRecDepth 100000 in
set_option maxHeartbeats 4000000 in
theorem back_o3 (D : Duct) (p q : Option Addr) (c d : Nat) (g0 g1 g2 g3 : Int) (w : World) (hn : D.n ≤ maxLen) (hm : D.m ≤ maxLen) (hn4 : D.n ≤ 40) (hm4 : D.m ≤ 40) (hrd : (!(decide (40 < D.n) || decide (40 < D.m)) && D.ok) = true) (has : areS D g0 g1 = true) (hip : isPt D g2 = false) (hi : DuctIn w w.heap.size D p q) :
    Calls Try.prog 7 #[.agg #[.slice p D.n c, .slice q D.m d], .agg #[.int .i64 g0, .int .i64 g1, .int .i64 g2, .int .i64 g3]] w fun e w' => e = .returned (.bool true) ∧ Below w.heap.size w w' := by
  have HRD := Lib.hid (show ∀ V : World, DuctIn V V.heap.size D p q → Calls Try.prog 15 #[.agg #[.slice p D.n c, .slice q D.m d]] V fun e w' => e = .returned (.bool true) ∧ Below V.heap.size V w' from fun V h => by
    have := ready_any D p q c d V hn hm h
    rw [hrd] at this
    exact this)
  have HAS := Lib.hid (show ∀ V : World, Calls Try.prog 35 #[.agg #[.slice p D.n c, .slice q D.m d], .int .i64 g0, .int .i64 g1] V fun e w' => e = .returned (.bool true) ∧ Below V.heap.size V w' from fun V => by
    have := areSomeR_any D p q c d g0 g1 V hm4
    rw [has] at this
    exact this)
  have HIP := Lib.hid (show ∀ V : World, Calls Try.prog 19 #[.agg #[.slice p D.n c, .slice q D.m d], .int .i64 g2] V fun e w' => e = .returned (.bool false) ∧ Below V.heap.size V w' from fun V => by
    have := isPointR_any D p q c d g2 V hn4
    rw [hip] at this
    exact this)
  clear hrd has hip
  obtain ⟨w1, x1, ew1, hb1, hl1⟩ := mk_line w p q D.n D.m c d
  have HL1 := Lib.hid hl1; have HI1 := Lib.hid (hi.bel hb1); have HB1 := Lib.hid hb1
  clear hb1 hl1 hi
  have HW_0 : Hid (∀ z : Ext w1, Below w.heap.size w z.v) := fun z => bT HB1.out z.b
  have HI_0 : Hid (∀ z : Ext w1, DuctIn z.v z.v.heap.size D p q) := fun z => HI1.out.bel z.b
  have L0_0 : ∀ z : Ext w1, z.v.cell? ⟨w.heap.size, 0, none⟩ = some (.slice p D.n c) := fun z => (HL1.out.bel z.b).c0
  have L1_0 : ∀ z : Ext w1, z.v.cell? ⟨w.heap.size, 1, none⟩ = some (.slice q D.m d) := fun z => (HL1.out.bel z.b).c1
  obtain ⟨wb1, xb1, eb1, bb1, tb1⟩ := mk_four x1 56 g0 g1 g2 g3
  have HBB1 := Lib.hid bb1; have HTB1 := Lib.hid tb1
  clear bb1 tb1
  have HW_1 : Hid (∀ z : Ext wb1, Below w.heap.size w z.v) := fun z => HW_0.out (z.up HBB1.out)
  have HI_1 : Hid (∀ z : Ext wb1, DuctIn z.v z.v.heap.size D p q) := fun z => HI_0.out (z.up HBB1.out)
  have L0_1 : ∀ z : Ext wb1, z.v.cell? ⟨w.heap.size, 0, none⟩ = some (.slice p D.n c) := fun z => L0_0 (z.up HBB1.out)
  have L1_1 : ∀ z : Ext wb1, z.v.cell? ⟨w.heap.size, 1, none⟩ = some (.slice q D.m d) := fun z => L1_0 (z.up HBB1.out)
  clear HW_0 HI_0 L0_0 L1_0
  have V0_1 : ∀ z : Ext wb1, z.v.cell? ⟨x1.v.heap.size, 0, none⟩ = some (.int .i64 g0) := fun z => (HTB1.out.bel z.b).c0
  have V1_1 : ∀ z : Ext wb1, z.v.cell? ⟨x1.v.heap.size, 1, none⟩ = some (.int .i64 g1) := fun z => (HTB1.out.bel z.b).c1
  have V2_1 : ∀ z : Ext wb1, z.v.cell? ⟨x1.v.heap.size, 2, none⟩ = some (.int .i64 g2) := fun z => (HTB1.out.bel z.b).c2
  have V3_1 : ∀ z : Ext wb1, z.v.cell? ⟨x1.v.heap.size, 3, none⟩ = some (.int .i64 g3) := fun z => (HTB1.out.bel z.b).c3
  go_enter Try.func7, Try.ntmps7
  go_wp2_with fail
  refine (quiet_x (HRD.out _ (HI_1.out _))).mono ?_
  rintro e w' ⟨rfl, y2, rfl⟩
  go_wp2_with fail
  refine (quiet_x (HAS.out _)).mono ?_
  rintro e w' ⟨rfl, y3, rfl⟩
  go_wp2_with fail
  refine (quiet_x (HIP.out _)).mono ?_
  rintro e w' ⟨rfl, y4, rfl⟩
  go_wp2_with fail
  refine (quiet_x (works_ex _)).mono ?_
  rintro e w' ⟨rfl, y5, rfl⟩
  go_wp2_with fail
  go_ret
  exact ⟨rfl, HW_1.out y5⟩

set_option maxRecDepth 100000 in
set_option maxHeartbeats 16000000 in
theorem back_walk (D : Duct) (p q : Option Addr) (c d : Nat) (g0 g1 g2 g3 al u v fr i1 i2 i3 : Int) (w : World) (hn4 : D.n ≤ 40) (hm4 : D.m ≤ 40) (hrd : (!(decide (40 < D.n) || decide (40 < D.m)) && D.ok) = true) (has : areS D g0 g1 = true) (hip : isPt D g2 = true) (hm0 : 0 < D.m) (hnm : D.n = D.m + 1)
    (h1 : IntKind.i64.wrap ((D.m : Int) - g1) = i1) (h2 : IntKind.i64.wrap ((D.m : Int) - g0) = i2) (h3 : IntKind.i64.wrap ((D.m : Int) - g2) = i3)
    (hW1 : ∀ V : World, DuctIn V V.heap.size D p q → Calls Try.prog 28 #[.agg #[.slice p D.n c, .slice q D.m d], .int .i64 g0, .int .i64 g1] V fun e w' => e = .returned (.tuple #[.int .i64 al, .int .i64 0]) ∧ Below V.heap.size V w') (hW2 : ∀ (V : World) P Q cc dd, DuctIn V V.heap.size (revD D) P Q → Calls Try.prog 28 #[.agg #[.slice P D.n cc, .slice Q D.m dd], .int .i64 i1, .int .i64 i2] V fun e w' => e = .returned (.tuple #[.int .i64 al, .int .i64 0]) ∧ Below V.heap.size V w') (hA1 : ∀ V : World, DuctIn V V.heap.size D p q → Calls Try.prog 36 #[.agg #[.slice p D.n c, .slice q D.m d], .int .i64 g0, .int .i64 g1] V fun e w' => e = .returned (.tuple #[.agg #[.int .i64 u, .int .i64 v], .int .i64 0]) ∧ Below V.heap.size V w') (hA2 : ∀ (V : World) P Q cc dd, D.m ≤ dd → DuctIn V V.heap.size (revD D) P Q → Calls Try.prog 36 #[.agg #[.slice P D.n cc, .slice Q D.m dd], .int .i64 i1, .int .i64 i2] V fun e w' => e = .returned (.tuple #[.agg #[.int .i64 u, .int .i64 v], .int .i64 0]) ∧ Below V.heap.size V w') (hF1 : ∀ V : World, DuctIn V V.heap.size D p q → Calls Try.prog 37 #[.agg #[.slice p D.n c, .slice q D.m d], .int .i64 g2] V fun e w' => e = .returned (.tuple #[.int .i64 fr, .int .i64 0]) ∧ Below V.heap.size V w') (hF2 : ∀ (V : World) P Q cc dd, DuctIn V V.heap.size (revD D) P Q → Calls Try.prog 37 #[.agg #[.slice P D.n cc, .slice Q D.m dd], .int .i64 i3] V fun e w' => e = .returned (.tuple #[.int .i64 fr, .int .i64 0]) ∧ Below V.heap.size V w') (hi : DuctIn w w.heap.size D p q) :
    Calls Try.prog 7 #[.agg #[.slice p D.n c, .slice q D.m d], .agg #[.int .i64 g0, .int .i64 g1, .int .i64 g2, .int .i64 g3]] w fun e w' => e = .returned (.bool true) ∧ Below w.heap.size w w' := by
  have hn : D.n ≤ maxLen := by unfold maxLen; omega
  have hm : D.m ≤ maxLen := by unfold maxLen; omega
  have HRD := Lib.hid (show ∀ V : World, DuctIn V V.heap.size D p q → Calls Try.prog 15 #[.agg #[.slice p D.n c, .slice q D.m d]] V fun e w' => e = .returned (.bool true) ∧ Below V.heap.size V w' from fun V h => by
    have := ready_any D p q c d V hn hm h
    rw [hrd] at this
    exact this)
  have HAS := Lib.hid (show ∀ V : World, Calls Try.prog 35 #[.agg #[.slice p D.n c, .slice q D.m d], .int .i64 g0, .int .i64 g1] V fun e w' => e = .returned (.bool true) ∧ Below V.heap.size V w' from fun V => by
    have := areSomeR_any D p q c d g0 g1 V hm4
    rw [has] at this
    exact this)
  have HIP := Lib.hid (show ∀ V : World, Calls Try.prog 19 #[.agg #[.slice p D.n c, .slice q D.m d], .int .i64 g2] V fun e w' => e = .returned (.bool true) ∧ Below V.heap.size V w' from fun V => by
    have := isPointR_any D p q c d g2 V hn4
    rw [hip] at this
    exact this)
  have HNM := Lib.hid hnm; have HM0 := Lib.hid hm0; have HM4 := Lib.hid hm4
  have HW1 := Lib.hid hW1
  have HW2 := Lib.hid hW2
  have HA1 := Lib.hid hA1
  have HA2 := Lib.hid hA2
  have HF1 := Lib.hid hF1
  have HF2 := Lib.hid hF2
  have bal : (al == al) = true := by simp
  have bu : (u == u) = true := by simp
  have bv : (v == v) = true := by simp
  have bfr : (fr == fr) = true := by simp
  have nal : (al != al) = false := by simp
  have nu : (u != u) = false := by simp
  have nv : (v != v) = false := by simp
  clear hrd has hip hm0 hnm hW1 hW2 hA1 hA2 hF1 hF2
  obtain ⟨pb, po, rfl, hpb1, hpb2⟩ := hi.pt (by have := HM0.out; have := HNM.out; omega)
  obtain ⟨qb, qo, rfl, hqb1, hqb2⟩ := hi.od HM0.out
  clear hpb1 hpb2 hqb1 hqb2
  obtain ⟨w1, x1, ew1, hb1, hl1⟩ := mk_line w (some ⟨pb, po, none⟩) (some ⟨qb, qo, none⟩) D.n D.m c d
  have HL1 := Lib.hid hl1; have HI1 := Lib.hid (hi.bel hb1); have HB1 := Lib.hid hb1
  clear hb1 hl1 hi
  have HW_0 : Hid (∀ z : Ext w1, Below w.heap.size w z.v) := fun z => bT HB1.out z.b
  have HI_0 : Hid (∀ z : Ext w1, DuctIn z.v z.v.heap.size D (some ⟨pb, po, none⟩) (some ⟨qb, qo, none⟩)) := fun z => HI1.out.bel z.b
  have L0_0 : ∀ z : Ext w1, z.v.cell? ⟨w.heap.size, 0, none⟩ = some (.slice (some ⟨pb, po, none⟩) D.n c) := fun z => (HL1.out.bel z.b).c0
  have L1_0 : ∀ z : Ext w1, z.v.cell? ⟨w.heap.size, 1, none⟩ = some (.slice (some ⟨qb, qo, none⟩) D.m d) := fun z => (HL1.out.bel z.b).c1
  obtain ⟨wb1, xb1, eb1, bb1, tb1⟩ := mk_four x1 56 g0 g1 g2 g3
  have HBB1 := Lib.hid bb1; have HTB1 := Lib.hid tb1
  clear bb1 tb1
  have HW_1 : Hid (∀ z : Ext wb1, Below w.heap.size w z.v) := fun z => HW_0.out (z.up HBB1.out)
  have HI_1 : Hid (∀ z : Ext wb1, DuctIn z.v z.v.heap.size D (some ⟨pb, po, none⟩) (some ⟨qb, qo, none⟩)) := fun z => HI_0.out (z.up HBB1.out)
  have L0_1 : ∀ z : Ext wb1, z.v.cell? ⟨w.heap.size, 0, none⟩ = some (.slice (some ⟨pb, po, none⟩) D.n c) := fun z => L0_0 (z.up HBB1.out)
  have L1_1 : ∀ z : Ext wb1, z.v.cell? ⟨w.heap.size, 1, none⟩ = some (.slice (some ⟨qb, qo, none⟩) D.m d) := fun z => L1_0 (z.up HBB1.out)
  clear HW_0 HI_0 L0_0 L1_0
  have V0_1 : ∀ z : Ext wb1, z.v.cell? ⟨x1.v.heap.size, 0, none⟩ = some (.int .i64 g0) := fun z => (HTB1.out.bel z.b).c0
  have V1_1 : ∀ z : Ext wb1, z.v.cell? ⟨x1.v.heap.size, 1, none⟩ = some (.int .i64 g1) := fun z => (HTB1.out.bel z.b).c1
  have V2_1 : ∀ z : Ext wb1, z.v.cell? ⟨x1.v.heap.size, 2, none⟩ = some (.int .i64 g2) := fun z => (HTB1.out.bel z.b).c2
  have V3_1 : ∀ z : Ext wb1, z.v.cell? ⟨x1.v.heap.size, 3, none⟩ = some (.int .i64 g3) := fun z => (HTB1.out.bel z.b).c3
  go_enter Try.func7, Try.ntmps7
  go_wp2_with fail
  refine (quiet_x (HRD.out _ (HI_1.out _))).mono ?_
  rintro e w' ⟨rfl, y2, rfl⟩
  go_wp2_with fail
  refine (quiet_x (HAS.out _)).mono ?_
  rintro e w' ⟨rfl, y3, rfl⟩
  go_wp2_with fail
  refine (quiet_x (HIP.out _)).mono ?_
  rintro e w' ⟨rfl, y4, rfl⟩
  go_wp2_with fail
  refine (copyC_any D (some ⟨pb, po, none⟩) (some ⟨qb, qo, none⟩) c d _ hn4 hm4 (HI_1.out _)).mono ?_
  rintro e w' ⟨p', c', q', d', rfl, hcp, hoq, hcc, hdd⟩
  obtain ⟨g, go, rfl, hg1, hfz, hne⟩ := hcp.own (by have := HM0.out; have := HNM.out; omega)
  obtain ⟨wo, xo, ewo, bwo, lwo⟩ := mk_line w' (some ⟨g, go, none⟩) q' D.n D.m c' d'
  obtain ⟨g9, o9, rfl, hwk⟩ := work_new (wb := wb1) (y := y4) (by have := HM0.out; have := HNM.out; omega) HM0.out hcp hoq hne hfz hg1 bwo lwo
  obtain ⟨OB, hOB⟩ : ∃ n, w'.heap.size = n := ⟨_, rfl⟩
  have HWK := Lib.hid hwk; have HDD := Lib.hid hdd
  have HOB := Lib.hid hOB
  clear hcp hoq hcc hdd hg1 hfz hne bwo lwo hwk
  rw [hOB] at HWK
  have L1x : xo.v.cell? ⟨w.heap.size, 1, none⟩ = some (.slice (some ⟨qb, qo, none⟩) D.m d) := L1_1 (xo.up HWK.out.bel)
  go_wp2_with fail
  clear hOB L1x
  go_loopw [7] (fun i wr => ∃ k : Nat, i = .int .i64 (k : Int) ∧ k ≤ D.n ∧ Work wb1 wr OB g go g9 o9 c' d' D (rvP D k)) (fun i _ => D.n - (intOf i).toNat)
  case atStart => exact ⟨0, rfl, Nat.zero_le _, rvP_zero (HWK.out.ext xo.b)⟩
  case round =>
    obtain ⟨k, rfl, hk, hwk⟩ := hrel
    have HWR := Lib.hid hwk
    clear hwk
    obtain ⟨z0, hz0⟩ := rebase wr
    rw [hz0]; clear hz0 xo ewo
    have HW_2 : Hid (∀ z : Ext wr, Below w.heap.size w z.v) := fun z => HW_1.out (z.up HWR.out.bel)
    have HI_2 : Hid (∀ z : Ext wr, DuctIn z.v z.v.heap.size D (some ⟨pb, po, none⟩) (some ⟨qb, qo, none⟩)) := fun z => HI_1.out (z.up HWR.out.bel)
    have L0_2 : ∀ z : Ext wr, z.v.cell? ⟨w.heap.size, 0, none⟩ = some (.slice (some ⟨pb, po, none⟩) D.n c) := fun z => L0_1 (z.up HWR.out.bel)
    have L1_2 : ∀ z : Ext wr, z.v.cell? ⟨w.heap.size, 1, none⟩ = some (.slice (some ⟨qb, qo, none⟩) D.m d) := fun z => L1_1 (z.up HWR.out.bel)
    have V0_2 : ∀ z : Ext wr, z.v.cell? ⟨x1.v.heap.size, 0, none⟩ = some (.int .i64 g0) := fun z => V0_1 (z.up HWR.out.bel)
    have V1_2 : ∀ z : Ext wr, z.v.cell? ⟨x1.v.heap.size, 1, none⟩ = some (.int .i64 g1) := fun z => V1_1 (z.up HWR.out.bel)
    have V2_2 : ∀ z : Ext wr, z.v.cell? ⟨x1.v.heap.size, 2, none⟩ = some (.int .i64 g2) := fun z => V2_1 (z.up HWR.out.bel)
    have V3_2 : ∀ z : Ext wr, z.v.cell? ⟨x1.v.heap.size, 3, none⟩ = some (.int .i64 g3) := fun z => V3_1 (z.up HWR.out.bel)
    have O0_2 : ∀ z : Ext wr, z.v.cell? ⟨OB, 0, none⟩ = some (.slice (some ⟨g, go, none⟩) D.n c') := fun z => (HWR.out.box.bel z.b).c0
    have O1_2 : ∀ z : Ext wr, z.v.cell? ⟨OB, 1, none⟩ = some (.slice (some ⟨g9, o9, none⟩) D.m d') := fun z => (HWR.out.box.bel z.b).c1
    have FZ_2 : ∀ z : Ext wr, ∀ i, z.v.frozen? ⟨g, i, none⟩ = false := fun z => (HWR.out.ext z.b).fz
    by_cases hlt : k ≤ D.m
    · have d1 : decide ((k : Int) ≤ (D.m : Int)) = true := by simp; omega
      obtain ⟨j, hj⟩ : ∃ j, D.m - k = j := ⟨_, rfl⟩
      have hjn : j < D.n := by have := HNM.out; omega
      have hkn : k < D.n := by have := HNM.out; omega
      have hwj : IntKind.i64.wrap ((D.m : Int) - (k : Int)) = (j : Int) := by rw [IntWalk.i64_in _ (by omega)]; omega
      have jj : (j : Int) < (D.n : Int) := by omega
      have jk : (k : Int) < (D.n : Int) := by omega
      have k40 : k ≤ 40 := by omega
      have S0 : ∀ z : Ext wr, z.v.cell? ⟨pb, po + j * 3, none⟩ = some (.int .i64 (D.lo j)) := fun z => (HI_2.out z).lo' hjn
      have S1 : ∀ z : Ext wr, z.v.cell? ⟨pb, po + j * 3 + 1, none⟩ = some (.int .i64 (D.hi j)) := fun z => (HI_2.out z).hi' hjn
      have S2 : ∀ z : Ext wr, z.v.cell? ⟨pb, po + j * 3 + 2, none⟩ = some (.int .i64 (D.co j)) := fun z => (HI_2.out z).co' hjn
      have E0 : ∀ z : Ext wr, z.v.cell? ⟨g, go + k * 3, none⟩ = some (.int .i64 ((rvP D k).lo k)) := fun z => (HWR.out.duct.bel z.b).lo' hkn
      have E1 : ∀ z : Ext wr, z.v.cell? ⟨g, go + k * 3 + 1, none⟩ = some (.int .i64 ((rvP D k).hi k)) := fun z => (HWR.out.duct.bel z.b).hi' hkn
      have E2 : ∀ z : Ext wr, z.v.cell? ⟨g, go + k * 3 + 2, none⟩ = some (.int .i64 ((rvP D k).co k)) := fun z => (HWR.out.duct.bel z.b).co' hkn
      have HJ := Lib.hid hj
      clear hj
      go_wp2_with fail
      refine wp_region_lastE 11 (by kernel_rfl) rfl (fun yr => ?_)
      refine wpAnyG_take (i := 0) (v := ?_) (by kernel_rfl) rfl (by kernel_rfl) (by kernel_rfl) (by kernel_rfl) (fun _ _ _ h => h) (Or.inl ⟨by rfl, ?_⟩) ⟨_, rfl⟩ ?_
      rotate_left
      · rintro wS ⟨yS, rfl⟩
        go_simp
        try (with_reducible rfl)
      try simp only [Act.put, List.setIfInBounds_toArray, List.set_cons_zero, List.set_cons_succ]
      refine wpAnyG_take (i := 1) (v := ?_) (by kernel_rfl) rfl (by kernel_rfl) (by kernel_rfl) (by kernel_rfl) (fun _ _ _ h => h) (Or.inl ⟨by rfl, ?_⟩) ⟨_, rfl⟩ ?_
      rotate_left
      · rintro wS ⟨yS, rfl⟩
        go_simp
        try (with_reducible rfl)
      try simp only [Act.put, List.setIfInBounds_toArray, List.set_cons_zero, List.set_cons_succ]
      refine wpAnyG_take (i := 2) (v := ?_) (by kernel_rfl) rfl (by kernel_rfl) (by kernel_rfl) (by kernel_rfl) (fun _ _ _ h => h) (Or.inl ⟨by rfl, ?_⟩) ⟨_, rfl⟩ ?_
      rotate_left
      · rintro wS ⟨yS, rfl⟩
        go_simp
        try (with_reducible rfl)
      try simp only [Act.put, List.setIfInBounds_toArray, List.set_cons_zero, List.set_cons_succ]
      refine wpAnyG_take (i := 3) (v := ?_) (by kernel_rfl) rfl (by kernel_rfl) (by kernel_rfl) (by kernel_rfl) (fun _ _ _ h => h) (Or.inl ⟨by rfl, ?_⟩) ⟨_, rfl⟩ ?_
      rotate_left
      · rintro wS ⟨yS, rfl⟩
        go_simp
        try (with_reducible rfl)
      try simp only [Act.put, List.setIfInBounds_toArray, List.set_cons_zero, List.set_cons_succ]
      refine wpAnyG_take (i := 4) (v := ?_) (by kernel_rfl) rfl (by kernel_rfl) (by kernel_rfl) (by kernel_rfl) (fun _ _ _ h => h) (Or.inl ⟨by rfl, ?_⟩) ⟨_, rfl⟩ ?_
      rotate_left
      · rintro wS ⟨yS, rfl⟩
        go_simp
        try (with_reducible rfl)
      try simp only [Act.put, List.setIfInBounds_toArray, List.set_cons_zero, List.set_cons_succ]
      refine wpAnyG_take (i := 5) (v := ?_) (by kernel_rfl) rfl (by kernel_rfl) (by kernel_rfl) (by kernel_rfl) (fun _ _ _ h => h) (Or.inl ⟨by rfl, ?_⟩) ⟨_, rfl⟩ ?_
      rotate_left
      · rintro wS ⟨yS, rfl⟩
        go_simp
        try (with_reducible rfl)
      try simp only [Act.put, List.setIfInBounds_toArray, List.set_cons_zero, List.set_cons_succ]
      refine wpAnyG_take (i := 6) (v := ?_) (by kernel_rfl) rfl (by kernel_rfl) (by kernel_rfl) (by kernel_rfl) (fun _ _ _ h => h) (Or.inl ⟨by rfl, ?_⟩) ⟨_, rfl⟩ ?_
      rotate_left
      · rintro wS ⟨yS, rfl⟩
        go_simp
        try (with_reducible rfl)
      try simp only [Act.put, List.setIfInBounds_toArray, List.set_cons_zero, List.set_cons_succ]
      refine wpAnyG_take (i := 7) (v := ?_) (by kernel_rfl) rfl (by kernel_rfl) (by kernel_rfl) (by kernel_rfl) (fun _ _ _ h => h) (Or.inl ⟨by rfl, ?_⟩) ⟨_, rfl⟩ ?_
      rotate_left
      · rintro wS ⟨yS, rfl⟩
        go_simp
        try (with_reducible rfl)
      try simp only [Act.put, List.setIfInBounds_toArray, List.set_cons_zero, List.set_cons_succ]
      refine wpAnyG_take (i := 8) (v := ?_) (by kernel_rfl) rfl (by kernel_rfl) (by kernel_rfl) (by kernel_rfl) (fun _ _ _ h => h) (Or.inl ⟨by rfl, ?_⟩) ⟨_, rfl⟩ ?_
      rotate_left
      · rintro wS ⟨yS, rfl⟩
        go_simp
        try (with_reducible rfl)
      try simp only [Act.put, List.setIfInBounds_toArray, List.set_cons_zero, List.set_cons_succ]
      refine wpAnyG_take (i := 9) (v := ?_) (by kernel_rfl) rfl (by kernel_rfl) (by kernel_rfl) (by kernel_rfl) (fun _ _ _ h => h) (Or.inl ⟨by rfl, ?_⟩) ⟨_, rfl⟩ ?_
      rotate_left
      · rintro wS ⟨yS, rfl⟩
        go_simp
        try (with_reducible rfl)
      try simp only [Act.put, List.setIfInBounds_toArray, List.set_cons_zero, List.set_cons_succ]
      refine wpAnyG_take (i := 10) (v := ?_) (by kernel_rfl) rfl (by kernel_rfl) (by kernel_rfl) (by kernel_rfl) (fun _ _ _ h => h) (Or.inl ⟨by rfl, ?_⟩) ⟨_, rfl⟩ ?_
      rotate_left
      · rintro wS ⟨yS, rfl⟩
        go_simp
        try (with_reducible rfl)
      try simp only [Act.put, List.setIfInBounds_toArray, List.set_cons_zero, List.set_cons_succ]
      refine wpAnyG_done (by kernel_rfl) (by kernel_rfl) (wpOp_plain rfl rfl ?_)
      go_simp
      go_wp2
      go_roundw
      case rel =>
        refine ⟨k + 1, by go_num, hkn, rvP_step ?_⟩
        rw [HJ.out]
        exact (HWR.out.ext yr.b).pt hkn
      case measure => first | (simp [intOf]; done) | (simp [intOf]; omega)
    · obtain rfl : k = D.n := by have := HNM.out; omega
      have d1 : decide ((D.n : Int) ≤ (D.m : Int)) = false := by have := HNM.out; simp; omega
      have d2 : ¬ D.n ≤ D.m := hlt
      have HWS := Lib.hid (rvO_zero HWR.out)
      clear hk hlt
      go_wp2_with fail
      clear d1 d2
      go_loopw [8] (fun i wq => ∃ k : Nat, i = .int .i64 (k : Int) ∧ k ≤ D.m ∧ Work wb1 wq OB g go g9 o9 c' d' D (rvO D k)) (fun i _ => D.m - (intOf i).toNat)
      case atStart => exact ⟨0, rfl, Nat.zero_le _, HWS.out.ext z0.b⟩
      case round =>
        clear z0 HWS
        skip
        obtain ⟨k, rfl, hk, hwk⟩ := hrel
        have HWT := Lib.hid hwk
        clear hwk
        obtain ⟨z0, hz0⟩ := rebase wr
        rw [hz0]; clear hz0
        clear HW_2 HI_2 L0_2 L1_2 V0_2 V1_2 V2_2 V3_2 O0_2 O1_2 FZ_2
        have HW_51 : Hid (∀ z : Ext wr, Below w.heap.size w z.v) := fun z => HW_1.out (z.up HWT.out.bel)
        have HI_51 : Hid (∀ z : Ext wr, DuctIn z.v z.v.heap.size D (some ⟨pb, po, none⟩) (some ⟨qb, qo, none⟩)) := fun z => HI_1.out (z.up HWT.out.bel)
        have L0_51 : ∀ z : Ext wr, z.v.cell? ⟨w.heap.size, 0, none⟩ = some (.slice (some ⟨pb, po, none⟩) D.n c) := fun z => L0_1 (z.up HWT.out.bel)
        have L1_51 : ∀ z : Ext wr, z.v.cell? ⟨w.heap.size, 1, none⟩ = some (.slice (some ⟨qb, qo, none⟩) D.m d) := fun z => L1_1 (z.up HWT.out.bel)
        have V0_51 : ∀ z : Ext wr, z.v.cell? ⟨x1.v.heap.size, 0, none⟩ = some (.int .i64 g0) := fun z => V0_1 (z.up HWT.out.bel)
        have V1_51 : ∀ z : Ext wr, z.v.cell? ⟨x1.v.heap.size, 1, none⟩ = some (.int .i64 g1) := fun z => V1_1 (z.up HWT.out.bel)
        have V2_51 : ∀ z : Ext wr, z.v.cell? ⟨x1.v.heap.size, 2, none⟩ = some (.int .i64 g2) := fun z => V2_1 (z.up HWT.out.bel)
        have V3_51 : ∀ z : Ext wr, z.v.cell? ⟨x1.v.heap.size, 3, none⟩ = some (.int .i64 g3) := fun z => V3_1 (z.up HWT.out.bel)
        have O0_51 : ∀ z : Ext wr, z.v.cell? ⟨OB, 0, none⟩ = some (.slice (some ⟨g, go, none⟩) D.n c') := fun z => (HWT.out.box.bel z.b).c0
        have O1_51 : ∀ z : Ext wr, z.v.cell? ⟨OB, 1, none⟩ = some (.slice (some ⟨g9, o9, none⟩) D.m d') := fun z => (HWT.out.box.bel z.b).c1
        have FZ2_51 : ∀ z : Ext wr, ∀ i, z.v.frozen? ⟨g9, i, none⟩ = false := fun z => (HWT.out.ext z.b).fz2
        by_cases hlt : k < D.m
        · have d1 : decide ((k : Int) < (D.m : Int)) = true := by simp; omega
          obtain ⟨j, hj⟩ : ∃ j, D.m - 1 - k = j := ⟨_, rfl⟩
          have hjm : j < D.m := by omega
          have hwj1 : IntKind.i64.wrap ((D.m : Int) - 1) = (D.m : Int) - 1 := IntWalk.i64_in _ (by omega)
          have hwj : IntKind.i64.wrap ((D.m : Int) - 1 - (k : Int)) = (j : Int) := by rw [IntWalk.i64_in _ (by omega)]; omega
          have jj : (j : Int) < (D.m : Int) := by omega
          have jk : (k : Int) < (D.m : Int) := by omega
          have k40 : k ≤ 40 := by omega
          have S0 : ∀ z : Ext wr, z.v.cell? ⟨qb, qo + j, none⟩ = some (.int .i64 (D.od j)) := fun z => ((HI_51.out z).od.cell hjm).2
          have E0 : ∀ z : Ext wr, z.v.cell? ⟨g9, o9 + k, none⟩ = some (.int .i64 ((rvO D k).od k)) := fun z => ((HWT.out.duct.bel z.b).od.cell hlt).2
          have HJ := Lib.hid hj
          clear hj
          go_wp2_with fail
          refine wp_region_lastE 12 (by kernel_rfl) rfl (fun yr => ?_)
          refine wpAnyG_take (i := 0) (v := ?_) (by kernel_rfl) rfl (by kernel_rfl) (by kernel_rfl) (by kernel_rfl) (fun _ _ _ h => h) (Or.inl ⟨by rfl, ?_⟩) ⟨_, rfl⟩ ?_
          rotate_left
          · rintro wS ⟨yS, rfl⟩
            go_simp
            try (with_reducible rfl)
          try simp only [Act.put, List.setIfInBounds_toArray, List.set_cons_zero, List.set_cons_succ]
          refine wpAnyG_take (i := 1) (v := ?_) (by kernel_rfl) rfl (by kernel_rfl) (by kernel_rfl) (by kernel_rfl) (fun _ _ _ h => h) (Or.inl ⟨by rfl, ?_⟩) ⟨_, rfl⟩ ?_
          rotate_left
          · rintro wS ⟨yS, rfl⟩
            go_simp
            try (with_reducible rfl)
          try simp only [Act.put, List.setIfInBounds_toArray, List.set_cons_zero, List.set_cons_succ]
          refine wpAnyG_take (i := 2) (v := ?_) (by kernel_rfl) rfl (by kernel_rfl) (by kernel_rfl) (by kernel_rfl) (fun _ _ _ h => h) (Or.inl ⟨by rfl, ?_⟩) ⟨_, rfl⟩ ?_
          rotate_left
          · rintro wS ⟨yS, rfl⟩
            go_simp
            try (with_reducible rfl)
          try simp only [Act.put, List.setIfInBounds_toArray, List.set_cons_zero, List.set_cons_succ]
          refine wpAnyG_take (i := 3) (v := ?_) (by kernel_rfl) rfl (by kernel_rfl) (by kernel_rfl) (by kernel_rfl) (fun _ _ _ h => h) (Or.inl ⟨by rfl, ?_⟩) ⟨_, rfl⟩ ?_
          rotate_left
          · rintro wS ⟨yS, rfl⟩
            go_simp
            try (with_reducible rfl)
          try simp only [Act.put, List.setIfInBounds_toArray, List.set_cons_zero, List.set_cons_succ]
          refine wpAnyG_take (i := 4) (v := ?_) (by kernel_rfl) rfl (by kernel_rfl) (by kernel_rfl) (by kernel_rfl) (fun _ _ _ h => h) (Or.inl ⟨by rfl, ?_⟩) ⟨_, rfl⟩ ?_
          rotate_left
          · rintro wS ⟨yS, rfl⟩
            go_simp
            try (with_reducible rfl)
          try simp only [Act.put, List.setIfInBounds_toArray, List.set_cons_zero, List.set_cons_succ]
          refine wpAnyG_take (i := 5) (v := ?_) (by kernel_rfl) rfl (by kernel_rfl) (by kernel_rfl) (by kernel_rfl) (fun _ _ _ h => h) (Or.inl ⟨by rfl, ?_⟩) ⟨_, rfl⟩ ?_
          rotate_left
          · rintro wS ⟨yS, rfl⟩
            go_simp
            try (with_reducible rfl)
          try simp only [Act.put, List.setIfInBounds_toArray, List.set_cons_zero, List.set_cons_succ]
          refine wpAnyG_take (i := 6) (v := ?_) (by kernel_rfl) rfl (by kernel_rfl) (by kernel_rfl) (by kernel_rfl) (fun _ _ _ h => h) (Or.inl ⟨by rfl, ?_⟩) ⟨_, rfl⟩ ?_
          rotate_left
          · rintro wS ⟨yS, rfl⟩
            go_simp
            try (with_reducible rfl)
          try simp only [Act.put, List.setIfInBounds_toArray, List.set_cons_zero, List.set_cons_succ]
          refine wpAnyG_take (i := 7) (v := ?_) (by kernel_rfl) rfl (by kernel_rfl) (by kernel_rfl) (by kernel_rfl) (fun _ _ _ h => h) (Or.inl ⟨by rfl, ?_⟩) ⟨_, rfl⟩ ?_
          rotate_left
          · rintro wS ⟨yS, rfl⟩
            go_simp
            try (with_reducible rfl)
          try simp only [Act.put, List.setIfInBounds_toArray, List.set_cons_zero, List.set_cons_succ]
          refine wpAnyG_take (i := 8) (v := ?_) (by kernel_rfl) rfl (by kernel_rfl) (by kernel_rfl) (by kernel_rfl) (fun _ _ _ h => h) (Or.inl ⟨by rfl, ?_⟩) ⟨_, rfl⟩ ?_
          rotate_left
          · rintro wS ⟨yS, rfl⟩
            go_simp
            try (with_reducible rfl)
          try simp only [Act.put, List.setIfInBounds_toArray, List.set_cons_zero, List.set_cons_succ]
          refine wpAnyG_take (i := 9) (v := ?_) (by kernel_rfl) rfl (by kernel_rfl) (by kernel_rfl) (by kernel_rfl) (fun _ _ _ h => h) (Or.inl ⟨by rfl, ?_⟩) ⟨_, rfl⟩ ?_
          rotate_left
          · rintro wS ⟨yS, rfl⟩
            go_simp
            try (with_reducible rfl)
          try simp only [Act.put, List.setIfInBounds_toArray, List.set_cons_zero, List.set_cons_succ]
          refine wpAnyG_take (i := 10) (v := ?_) (by kernel_rfl) rfl (by kernel_rfl) (by kernel_rfl) (by kernel_rfl) (fun _ _ _ h => h) (Or.inl ⟨by rfl, ?_⟩) ⟨_, rfl⟩ ?_
          rotate_left
          · rintro wS ⟨yS, rfl⟩
            go_simp
            try (with_reducible rfl)
          try simp only [Act.put, List.setIfInBounds_toArray, List.set_cons_zero, List.set_cons_succ]
          refine wpAnyG_take (i := 11) (v := ?_) (by kernel_rfl) rfl (by kernel_rfl) (by kernel_rfl) (by kernel_rfl) (fun _ _ _ h => h) (Or.inl ⟨by rfl, ?_⟩) ⟨_, rfl⟩ ?_
          rotate_left
          · rintro wS ⟨yS, rfl⟩
            go_simp
            try (with_reducible rfl)
          try simp only [Act.put, List.setIfInBounds_toArray, List.set_cons_zero, List.set_cons_succ]
          refine wpAnyG_done (by kernel_rfl) (by kernel_rfl) (wpOp_plain rfl rfl ?_)
          go_simp
          go_wp2
          go_roundw
          case rel =>
            refine ⟨k + 1, by go_num, hlt, rvO_step ?_⟩
            rw [HJ.out]
            exact (HWT.out.ext yr.b).od hlt
          case measure => first | (simp [intOf]; done) | (simp [intOf]; omega)
        · obtain rfl : k = D.m := by omega
          have d1 : decide ((D.m : Int) < (D.m : Int)) = false := by simp
          have HO := Lib.hid (rvO_end HWT.out).duct
          clear hk hlt
          have HH1 := Lib.hid h1; have HH2 := Lib.hid h2
          have HO_50 : Hid (∀ z : Ext wr, DuctIn z.v z.v.heap.size (revD D) (some ⟨g, go, none⟩) (some ⟨g9, o9, none⟩)) := fun z => HO.out.bel z.b
          go_wp2_with fail
          refine (quiet_x (HW1.out _ (HI_51.out _))).mono ?_
          rintro e w' ⟨rfl, y61, rfl⟩
          go_wp2_with fail
          refine (quiet_x (HW2.out _ (some ⟨g, go, none⟩) (some ⟨g9, o9, none⟩) c' d' (HO_50.out _))).mono ?_
          rintro e w' ⟨rfl, y62, rfl⟩
          go_wp2_with fail
          refine (quiet_x (HA1.out _ (HI_51.out _))).mono ?_
          rintro e w' ⟨rfl, y63, rfl⟩
          obtain ⟨wt63, xt63, et63, bt63, zt63, tt63⟩ := mk_two y63 60 u v
          have HBT63 := Lib.hid bt63; have HTT63 := Lib.hid tt63
          clear bt63 tt63 zt63
          have HW_52 : Hid (∀ z : Ext wt63, Below w.heap.size w z.v) := fun z => HW_51.out (z.up HBT63.out)
          have HI_52 : Hid (∀ z : Ext wt63, DuctIn z.v z.v.heap.size D (some ⟨pb, po, none⟩) (some ⟨qb, qo, none⟩)) := fun z => HI_51.out (z.up HBT63.out)
          have L0_52 : ∀ z : Ext wt63, z.v.cell? ⟨w.heap.size, 0, none⟩ = some (.slice (some ⟨pb, po, none⟩) D.n c) := fun z => L0_51 (z.up HBT63.out)
          have L1_52 : ∀ z : Ext wt63, z.v.cell? ⟨w.heap.size, 1, none⟩ = some (.slice (some ⟨qb, qo, none⟩) D.m d) := fun z => L1_51 (z.up HBT63.out)
          have V0_52 : ∀ z : Ext wt63, z.v.cell? ⟨x1.v.heap.size, 0, none⟩ = some (.int .i64 g0) := fun z => V0_51 (z.up HBT63.out)
          have V1_52 : ∀ z : Ext wt63, z.v.cell? ⟨x1.v.heap.size, 1, none⟩ = some (.int .i64 g1) := fun z => V1_51 (z.up HBT63.out)
          have V2_52 : ∀ z : Ext wt63, z.v.cell? ⟨x1.v.heap.size, 2, none⟩ = some (.int .i64 g2) := fun z => V2_51 (z.up HBT63.out)
          have V3_52 : ∀ z : Ext wt63, z.v.cell? ⟨x1.v.heap.size, 3, none⟩ = some (.int .i64 g3) := fun z => V3_51 (z.up HBT63.out)
          have O0_52 : ∀ z : Ext wt63, z.v.cell? ⟨OB, 0, none⟩ = some (.slice (some ⟨g, go, none⟩) D.n c') := fun z => O0_51 (z.up HBT63.out)
          have O1_52 : ∀ z : Ext wt63, z.v.cell? ⟨OB, 1, none⟩ = some (.slice (some ⟨g9, o9, none⟩) D.m d') := fun z => O1_51 (z.up HBT63.out)
          have FZ2_52 : ∀ z : Ext wt63, ∀ i, z.v.frozen? ⟨g9, i, none⟩ = false := fun z => FZ2_51 (z.up HBT63.out)
          have HO_52 : Hid (∀ z : Ext wt63, DuctIn z.v z.v.heap.size (revD D) (some ⟨g, go, none⟩) (some ⟨g9, o9, none⟩)) := fun z => HO_50.out (z.up HBT63.out)
          clear HW_51 HI_51 L0_51 L1_51 V0_51 V1_51 V2_51 V3_51 O0_51 O1_51 FZ2_51 HO_50
          have A0_52 : ∀ z : Ext wt63, z.v.cell? ⟨y63.v.heap.size, 0, none⟩ = some (.int .i64 u) := fun z => (HTT63.out.bel z.b).c0
          have A1_52 : ∀ z : Ext wt63, z.v.cell? ⟨y63.v.heap.size, 1, none⟩ = some (.int .i64 v) := fun z => (HTT63.out.bel z.b).c1
          have Af_52 : ∀ z : Ext wt63, ∀ i, z.v.frozen? ⟨y63.v.heap.size, i, none⟩ = false := fun z => (HTT63.out.bel z.b).fz
          go_wp2_with fail
          refine (quiet_x (HA2.out _ (some ⟨g, go, none⟩) (some ⟨g9, o9, none⟩) c' d' HDD.out (HO_52.out _))).mono ?_
          rintro e w' ⟨rfl, y64, rfl⟩
          obtain ⟨wt64, xt64, et64, bt64, zt64, tt64⟩ := mk_two y64 60 u v
          have HBT64 := Lib.hid bt64; have HTT64 := Lib.hid tt64
          clear bt64 tt64 zt64
          have HW_53 : Hid (∀ z : Ext wt64, Below w.heap.size w z.v) := fun z => HW_52.out (z.up HBT64.out)
          have HI_53 : Hid (∀ z : Ext wt64, DuctIn z.v z.v.heap.size D (some ⟨pb, po, none⟩) (some ⟨qb, qo, none⟩)) := fun z => HI_52.out (z.up HBT64.out)
          have L0_53 : ∀ z : Ext wt64, z.v.cell? ⟨w.heap.size, 0, none⟩ = some (.slice (some ⟨pb, po, none⟩) D.n c) := fun z => L0_52 (z.up HBT64.out)
          have L1_53 : ∀ z : Ext wt64, z.v.cell? ⟨w.heap.size, 1, none⟩ = some (.slice (some ⟨qb, qo, none⟩) D.m d) := fun z => L1_52 (z.up HBT64.out)
          have V0_53 : ∀ z : Ext wt64, z.v.cell? ⟨x1.v.heap.size, 0, none⟩ = some (.int .i64 g0) := fun z => V0_52 (z.up HBT64.out)
          have V1_53 : ∀ z : Ext wt64, z.v.cell? ⟨x1.v.heap.size, 1, none⟩ = some (.int .i64 g1) := fun z => V1_52 (z.up HBT64.out)
          have V2_53 : ∀ z : Ext wt64, z.v.cell? ⟨x1.v.heap.size, 2, none⟩ = some (.int .i64 g2) := fun z => V2_52 (z.up HBT64.out)
          have V3_53 : ∀ z : Ext wt64, z.v.cell? ⟨x1.v.heap.size, 3, none⟩ = some (.int .i64 g3) := fun z => V3_52 (z.up HBT64.out)
          have O0_53 : ∀ z : Ext wt64, z.v.cell? ⟨OB, 0, none⟩ = some (.slice (some ⟨g, go, none⟩) D.n c') := fun z => O0_52 (z.up HBT64.out)
          have O1_53 : ∀ z : Ext wt64, z.v.cell? ⟨OB, 1, none⟩ = some (.slice (some ⟨g9, o9, none⟩) D.m d') := fun z => O1_52 (z.up HBT64.out)
          have FZ2_53 : ∀ z : Ext wt64, ∀ i, z.v.frozen? ⟨g9, i, none⟩ = false := fun z => FZ2_52 (z.up HBT64.out)
          have HO_53 : Hid (∀ z : Ext wt64, DuctIn z.v z.v.heap.size (revD D) (some ⟨g, go, none⟩) (some ⟨g9, o9, none⟩)) := fun z => HO_52.out (z.up HBT64.out)
          have A0_53 : ∀ z : Ext wt64, z.v.cell? ⟨y63.v.heap.size, 0, none⟩ = some (.int .i64 u) := fun z => A0_52 (z.up HBT64.out)
          have A1_53 : ∀ z : Ext wt64, z.v.cell? ⟨y63.v.heap.size, 1, none⟩ = some (.int .i64 v) := fun z => A1_52 (z.up HBT64.out)
          have Af_53 : ∀ z : Ext wt64, ∀ i, z.v.frozen? ⟨y63.v.heap.size, i, none⟩ = false := fun z => Af_52 (z.up HBT64.out)
          clear HW_52 HI_52 L0_52 L1_52 V0_52 V1_52 V2_52 V3_52 O0_52 O1_52 FZ2_52 HO_52 A0_52 A1_52 Af_52
          have B0_53 : ∀ z : Ext wt64, z.v.cell? ⟨y64.v.heap.size, 0, none⟩ = some (.int .i64 u) := fun z => (HTT64.out.bel z.b).c0
          have B1_53 : ∀ z : Ext wt64, z.v.cell? ⟨y64.v.heap.size, 1, none⟩ = some (.int .i64 v) := fun z => (HTT64.out.bel z.b).c1
          have Bf_53 : ∀ z : Ext wt64, ∀ i, z.v.frozen? ⟨y64.v.heap.size, i, none⟩ = false := fun z => (HTT64.out.bel z.b).fz
          go_wp2_with fail
          refine (quiet_x (HF1.out _ (HI_53.out _))).mono ?_
          rintro e w' ⟨rfl, y65, rfl⟩
          go_wp2_with fail
          refine (quiet_x (HF2.out _ (some ⟨g, go, none⟩) (some ⟨g9, o9, none⟩) c' d' (HO_53.out _))).mono ?_
          rintro e w' ⟨rfl, y66, rfl⟩
          go_wp2_with fail
          refine (quiet_x (works_ex _)).mono ?_
          rintro e w' ⟨rfl, y67, rfl⟩
          go_wp2_with fail
          go_ret
          exact ⟨rfl, HW_53.out y67⟩
theorem back_law (D : Duct) (p q : Option Addr) (c d : Nat) (g0 g1 g2 g3 : Int) (w : World) (hn : D.n ≤ maxLen) (hm : D.m ≤ maxLen) (hd : D.m ≤ d) (hi : DuctIn w w.heap.size D p q) :
    Calls Try.prog 7 #[.agg #[.slice p D.n c, .slice q D.m d], .agg #[.int .i64 g0, .int .i64 g1, .int .i64 g2, .int .i64 g3]] w fun e w' => e = .returned (.bool true) ∧ Below w.heap.size w w' := by
  cases hrd : (!(decide (40 < D.n) || decide (40 < D.m)) && D.ok) with
  | false => exact back_o1 D p q c d g0 g1 g2 g3 w hn hm hrd hi
  | true =>
    have h : (D.n ≤ 40 ∧ D.m ≤ 40) ∧ D.ok = true := by simpa using hrd
    obtain ⟨⟨hn4, hm4⟩, hok⟩ := h
    cases has : areS D g0 g1 with
    | false => exact back_o2 D p q c d g0 g1 g2 g3 w hn hm hm4 hrd has hi
    | true =>
    cases hip : isPt D g2 with
    | false => exact back_o3 D p q c d g0 g1 g2 g3 w hn hm hn4 hm4 hrd has hip hi
    | true =>
      obtain ⟨hm7, hnm, _, _⟩ := D.ok_parts hok
      obtain ⟨a, b, rfl, rfl, hab, hbm⟩ := areS_nat has
      obtain ⟨j, rfl, hj⟩ := isPt_nat hip
      have hokR := rev_ok hok
      have e1 : (((D.m - b : Nat)) : Int) = (D.m : Int) - (b : Int) := by omega
      have e2 : (((D.m - a : Nat)) : Int) = (D.m : Int) - (a : Int) := by omega
      have e3 : (((D.m - j : Nat)) : Int) = (D.m : Int) - (j : Int) := by omega
      have hWr := rev_W (D := D) (n := b - a) (f := a) (t := b) (Nat.le_refl _) hbm
      have hAr := rev_A (D := D) (n := b - a) (f := a) (t := b) (Nat.le_refl _) hbm
      have hOr := rev_oS (D := D) (f := a) (t := b) (by omega) hbm
      have hFr := FR_rev (D := D) (x := j) (by omega)
      refine back_walk D p q c d (a : Int) (b : Int) (j : Int) g3 (WW D a b) (avN D a b) (avD D a b) (FR D j) ((D.m - b : Nat) : Int) ((D.m - a : Nat) : Int) ((D.m - j : Nat) : Int) w hn4 hm4 hrd has hip (by omega) hnm
        (by rw [IntWalk.i64_in _ (by omega)]; exact e1.symm) (by rw [IntWalk.i64_in _ (by omega)]; exact e2.symm) (by rw [IntWalk.i64_in _ (by omega)]; exact e3.symm)
        (fun V h => worstP_ok D p q c d a b V hab hbm hn4 hok h) (fun V P Q cc dd h => ?_) (fun V h => averageP_ok D p q c d a b V hab hbm hn4 hok hd h) (fun V P Q cc dd hdd h => ?_)
        (fun V h => freeP_ok D p q c d j V hj (by omega) hok h) (fun V P Q cc dd h => ?_) hi
      · have := worstP_ok (revD D) P Q cc dd (D.m - b) (D.m - a) V (by omega) (by show D.m - a ≤ D.m; omega) hn4 hokR h
        rw [hWr] at this; exact this
      · have := averageP_ok (revD D) P Q cc dd (D.m - b) (D.m - a) V (by omega) (by show D.m - a ≤ D.m; omega) hn4 hokR hdd h
        have v1 : avN (revD D) (D.m - b) (D.m - a) = avN D a b := by unfold avN; rw [hAr, hOr]
        have v2 : avD (revD D) (D.m - b) (D.m - a) = avD D a b := by unfold avD; rw [hAr, hOr]
        rw [v1, v2] at this; exact this
      · have := freeP_ok (revD D) P Q cc dd (D.m - j) V (by show D.m - j < D.n; omega) (by show 0 < D.m; omega) hokR h
        rw [hFr] at this; exact this
end Go.Proofs.Ytkdlppekjjbgoaa
