/- AqueductMore returns true in every walk: the first ways out. -/
import Derived.Test.YtkdlppekjjbgoaaC4

set_option linter.unusedSimpArgs false

set_option linter.unusedVariables false

namespace Go.Proofs.Ytkdlppekjjbgoaa

open Go.RowKit

set_option maxRecDepth 100000 in
set_option maxHeartbeats 4000000 in
theorem more_out1 (D : Duct) (p q : Option Addr) (c d : Nat) (g0 g1 g2 g3 g4 : Int) (w : World) (hn : D.n ≤ maxLen) (hm : D.m ≤ maxLen) (hi : DuctIn w w.heap.size D p q) (hrd : (!(decide (40 < D.n) || decide (40 < D.m)) && D.ok) = false) :
    Calls Try.prog 4 #[.agg #[.slice p D.n c, .slice q D.m d], .agg #[.int .i64 g0, .int .i64 g1, .int .i64 g2, .int .i64 g3, .int .i64 g4]] w fun e w' => e = .returned (.bool true) ∧ Below w.heap.size w w' := by
  have HRD := Lib.hid (show ∀ (V : World), DuctIn V V.heap.size D p q → Calls Try.prog 15 #[.agg #[.slice p D.n c, .slice q D.m d]] V fun e w' => e = .returned (.bool false) ∧ Below V.heap.size V w' from fun V h => by
    have := ready_any D p q c d V hn hm h
    rw [hrd] at this
    exact this)
  clear hrd
  obtain ⟨w1, x, e1, hb1, hl1⟩ := mk_line w p q D.n D.m c d
  have HLb := Lib.hid hl1
  have HI := Lib.hid (hi.bel hb1)
  have HB := Lib.hid hb1
  clear hb1 hl1 hi
  obtain ⟨w2, x2, e2, b2, f2⟩ := mk_five x 46 g0 g1 g2 g3 g4
  have HF := Lib.hid f2
  have H1_0 := Lib.hid (HLb.out.bel b2)
  have H1_1 := Lib.hid (HI.out.bel b2)
  have HB1 := Lib.hid (bT HB.out b2)
  clear b2 f2
  have L0a_2 : ∀ z : Ext w2, z.v.cell? ⟨w.heap.size, 0, none⟩ = some (.slice p D.n c) := fun z => (H1_0.out.bel z.b).c0
  have L0b_2 : ∀ z : Ext w2, z.v.cell? ⟨w.heap.size, 1, none⟩ = some (.slice q D.m d) := fun z => (H1_0.out.bel z.b).c1
  have V20_2 : ∀ z : Ext w2, z.v.cell? ⟨x.v.heap.size, 0, none⟩ = some (.int .i64 g0) := fun z => (HF.out.bel z.b).c0
  have V21_2 : ∀ z : Ext w2, z.v.cell? ⟨x.v.heap.size, 1, none⟩ = some (.int .i64 g1) := fun z => (HF.out.bel z.b).c1
  have V22_2 : ∀ z : Ext w2, z.v.cell? ⟨x.v.heap.size, 2, none⟩ = some (.int .i64 g2) := fun z => (HF.out.bel z.b).c2
  have V23_2 : ∀ z : Ext w2, z.v.cell? ⟨x.v.heap.size, 3, none⟩ = some (.int .i64 g3) := fun z => (HF.out.bel z.b).c3
  have V24_2 : ∀ z : Ext w2, z.v.cell? ⟨x.v.heap.size, 4, none⟩ = some (.int .i64 g4) := fun z => (HF.out.bel z.b).c4
  go_enter Try.func4, Try.ntmps4
  go_wp2
  refine quiet_e (by kernel_rfl) (by kernel_rfl) ?_
  repeat (first | go_big_quiet_step ((first | (go_at_call 15; exact quiet_x (HRD.out _ (H1_1.out.bel (Ext.b _)))))) | quiet_step ((first | (go_at_call 15; exact quiet_x (HRD.out _ (H1_1.out.bel (Ext.b _)))))))
  refine wpQuiet_nil ?_
  intro w6 hw6
  obtain ⟨y, rfl⟩ := hw6
  go_wp2_with fail
  refine (quiet_x (works_ex _)).mono ?_
  rintro e w' ⟨rfl, y2, rfl⟩
  go_wp2_with fail
  go_ret
  exact ⟨rfl, bT HB1.out y2.b⟩
set_option maxRecDepth 100000 in
set_option maxHeartbeats 4000000 in
theorem more_out2 (D : Duct) (p q : Option Addr) (c d : Nat) (g0 g1 g2 g3 g4 : Int) (w : World) (hn : D.n ≤ maxLen) (hm : D.m ≤ maxLen) (hi : DuctIn w w.heap.size D p q) (hrd : (!(decide (40 < D.n) || decide (40 < D.m)) && D.ok) = true) (hn4 : D.n ≤ 40) (i1 : isPt D g0 = false) :
    Calls Try.prog 4 #[.agg #[.slice p D.n c, .slice q D.m d], .agg #[.int .i64 g0, .int .i64 g1, .int .i64 g2, .int .i64 g3, .int .i64 g4]] w fun e w' => e = .returned (.bool true) ∧ Below w.heap.size w w' := by
  have HRD := Lib.hid (show ∀ (V : World), DuctIn V V.heap.size D p q → Calls Try.prog 15 #[.agg #[.slice p D.n c, .slice q D.m d]] V fun e w' => e = .returned (.bool true) ∧ Below V.heap.size V w' from fun V h => by
    have := ready_any D p q c d V hn hm h
    rw [hrd] at this
    exact this)
  clear hrd
  obtain ⟨w1, x, e1, hb1, hl1⟩ := mk_line w p q D.n D.m c d
  have HLb := Lib.hid hl1
  have HI := Lib.hid (hi.bel hb1)
  have HB := Lib.hid hb1
  clear hb1 hl1 hi
  obtain ⟨w2, x2, e2, b2, f2⟩ := mk_five x 46 g0 g1 g2 g3 g4
  have HF := Lib.hid f2
  have H3_0 := Lib.hid (HLb.out.bel b2)
  have H3_1 := Lib.hid (HI.out.bel b2)
  have HB3 := Lib.hid (bT HB.out b2)
  clear b2 f2
  have L0a_4 : ∀ z : Ext w2, z.v.cell? ⟨w.heap.size, 0, none⟩ = some (.slice p D.n c) := fun z => (H3_0.out.bel z.b).c0
  have L0b_4 : ∀ z : Ext w2, z.v.cell? ⟨w.heap.size, 1, none⟩ = some (.slice q D.m d) := fun z => (H3_0.out.bel z.b).c1
  have V20_4 : ∀ z : Ext w2, z.v.cell? ⟨x.v.heap.size, 0, none⟩ = some (.int .i64 g0) := fun z => (HF.out.bel z.b).c0
  have V21_4 : ∀ z : Ext w2, z.v.cell? ⟨x.v.heap.size, 1, none⟩ = some (.int .i64 g1) := fun z => (HF.out.bel z.b).c1
  have V22_4 : ∀ z : Ext w2, z.v.cell? ⟨x.v.heap.size, 2, none⟩ = some (.int .i64 g2) := fun z => (HF.out.bel z.b).c2
  have V23_4 : ∀ z : Ext w2, z.v.cell? ⟨x.v.heap.size, 3, none⟩ = some (.int .i64 g3) := fun z => (HF.out.bel z.b).c3
  have V24_4 : ∀ z : Ext w2, z.v.cell? ⟨x.v.heap.size, 4, none⟩ = some (.int .i64 g4) := fun z => (HF.out.bel z.b).c4
  go_enter Try.func4, Try.ntmps4
  go_wp2
  refine quiet_e (by kernel_rfl) (by kernel_rfl) ?_
  repeat (first | go_big_quiet_step ((first | (go_at_call 15; exact quiet_x (HRD.out _ (H3_1.out.bel (Ext.b _)))) | (go_at_call 19; exact quiet_x (isPointR_any D _ q c d _ _ hn4)) | (go_at_call 22; exact quiet_x (inside_any _ _ _ _ _)))) | quiet_step ((first | (go_at_call 15; exact quiet_x (HRD.out _ (H3_1.out.bel (Ext.b _)))) | (go_at_call 19; exact quiet_x (isPointR_any D _ q c d _ _ hn4)) | (go_at_call 22; exact quiet_x (inside_any _ _ _ _ _)))))
  refine wpQuiet_nil ?_
  intro w6 hw6
  obtain ⟨y, rfl⟩ := hw6
  go_wp2_with fail
  refine (quiet_x (works_ex _)).mono ?_
  rintro e w' ⟨rfl, y2, rfl⟩
  go_wp2_with fail
  go_ret
  exact ⟨rfl, bT HB3.out y2.b⟩
set_option maxRecDepth 100000 in
set_option maxHeartbeats 4000000 in
theorem more_out3 (D : Duct) (p q : Option Addr) (c d : Nat) (g0 g1 g2 g3 g4 : Int) (w : World) (hn : D.n ≤ maxLen) (hm : D.m ≤ maxLen) (hi : DuctIn w w.heap.size D p q) (k : Nat) (hk : k < D.n) (hrd : (!(decide (40 < D.n) || decide (40 < D.m)) && D.ok) = true) (hn4 : D.n ≤ 40) (hins : decide (D.lo k ≤ g1 ∧ g1 ≤ g2 ∧ g2 ≤ D.hi k) = false) :
    Calls Try.prog 4 #[.agg #[.slice p D.n c, .slice q D.m d], .agg #[.int .i64 (k : Int), .int .i64 g1, .int .i64 g2, .int .i64 g3, .int .i64 g4]] w fun e w' => e = .returned (.bool true) ∧ Below w.heap.size w w' := by
  obtain ⟨pb, po, rfl, _, _⟩ := hi.pt (by omega)
  have i1 : isPt D (k : Int) = true := within_tt (by omega) (by omega)
  have j2 : (k : Int) < (D.n : Int) := by omega
  have HRD := Lib.hid (show ∀ (V : World), DuctIn V V.heap.size D (some ⟨pb, po, none⟩) q → Calls Try.prog 15 #[.agg #[.slice (some ⟨pb, po, none⟩) D.n c, .slice q D.m d]] V fun e w' => e = .returned (.bool true) ∧ Below V.heap.size V w' from fun V h => by
    have := ready_any D (some ⟨pb, po, none⟩) q c d V hn hm h
    rw [hrd] at this
    exact this)
  clear hrd
  obtain ⟨w1, x, e1, hb1, hl1⟩ := mk_line w (some ⟨pb, po, none⟩) q D.n D.m c d
  have HLb := Lib.hid hl1
  have HI := Lib.hid (hi.bel hb1)
  have HB := Lib.hid hb1
  clear hb1 hl1 hi
  obtain ⟨w2, x2, e2, b2, f2⟩ := mk_five x 46 (k : Int) g1 g2 g3 g4
  have HF := Lib.hid f2
  have H5_0 := Lib.hid (HLb.out.bel b2)
  have H5_1 := Lib.hid (HI.out.bel b2)
  have HB5 := Lib.hid (bT HB.out b2)
  clear b2 f2
  have L0a_6 : ∀ z : Ext w2, z.v.cell? ⟨w.heap.size, 0, none⟩ = some (.slice (some ⟨pb, po, none⟩) D.n c) := fun z => (H5_0.out.bel z.b).c0
  have L0b_6 : ∀ z : Ext w2, z.v.cell? ⟨w.heap.size, 1, none⟩ = some (.slice q D.m d) := fun z => (H5_0.out.bel z.b).c1
  have V20_6 : ∀ z : Ext w2, z.v.cell? ⟨x.v.heap.size, 0, none⟩ = some (.int .i64 (k : Int)) := fun z => (HF.out.bel z.b).c0
  have V21_6 : ∀ z : Ext w2, z.v.cell? ⟨x.v.heap.size, 1, none⟩ = some (.int .i64 g1) := fun z => (HF.out.bel z.b).c1
  have V22_6 : ∀ z : Ext w2, z.v.cell? ⟨x.v.heap.size, 2, none⟩ = some (.int .i64 g2) := fun z => (HF.out.bel z.b).c2
  have V23_6 : ∀ z : Ext w2, z.v.cell? ⟨x.v.heap.size, 3, none⟩ = some (.int .i64 g3) := fun z => (HF.out.bel z.b).c3
  have V24_6 : ∀ z : Ext w2, z.v.cell? ⟨x.v.heap.size, 4, none⟩ = some (.int .i64 g4) := fun z => (HF.out.bel z.b).c4
  go_enter Try.func4, Try.ntmps4
  go_wp2
  have C0 : ∀ z : Ext w2, z.v.cell? ⟨pb, po + k * 3, none⟩ = some (.int .i64 (D.lo k)) := fun z => (H5_1.out.bel z.b).lo' hk
  have C1 : ∀ z : Ext w2, z.v.cell? ⟨pb, po + k * 3 + 1, none⟩ = some (.int .i64 (D.hi k)) := fun z => (H5_1.out.bel z.b).hi' hk
  refine quiet_e (by kernel_rfl) (by kernel_rfl) ?_
  repeat (first | go_big_quiet_step ((first | (go_at_call 15; exact quiet_x (HRD.out _ (H5_1.out.bel (Ext.b _)))) | (go_at_call 19; exact quiet_x (isPointR_any D _ q c d _ _ hn4)) | (go_at_call 22; exact quiet_x (inside_any _ _ _ _ _)))) | quiet_step ((first | (go_at_call 15; exact quiet_x (HRD.out _ (H5_1.out.bel (Ext.b _)))) | (go_at_call 19; exact quiet_x (isPointR_any D _ q c d _ _ hn4)) | (go_at_call 22; exact quiet_x (inside_any _ _ _ _ _)))))
  refine wpQuiet_nil ?_
  intro w6 hw6
  obtain ⟨y, rfl⟩ := hw6
  go_wp2_with fail
  refine (quiet_x (works_ex _)).mono ?_
  rintro e w' ⟨rfl, y2, rfl⟩
  go_wp2_with fail
  go_ret
  exact ⟨rfl, bT HB5.out y2.b⟩
set_option maxRecDepth 100000 in
set_option maxHeartbeats 4000000 in
theorem more_out4 (D : Duct) (p q : Option Addr) (c d : Nat) (g0 g1 g2 g3 g4 : Int) (w : World) (hn : D.n ≤ maxLen) (hm : D.m ≤ maxLen) (hi : DuctIn w w.heap.size D p q) (k : Nat) (hk : k < D.n) (hrd : (!(decide (40 < D.n) || decide (40 < D.m)) && D.ok) = true) (hn4 : D.n ≤ 40) (hins : decide (D.lo k ≤ g1 ∧ g1 ≤ g2 ∧ g2 ≤ D.hi k) = true) (i4 : isPt D g4 = false) :
    Calls Try.prog 4 #[.agg #[.slice p D.n c, .slice q D.m d], .agg #[.int .i64 (k : Int), .int .i64 g1, .int .i64 g2, .int .i64 g3, .int .i64 g4]] w fun e w' => e = .returned (.bool true) ∧ Below w.heap.size w w' := by
  obtain ⟨pb, po, rfl, _, _⟩ := hi.pt (by omega)
  have i1 : isPt D (k : Int) = true := within_tt (by omega) (by omega)
  have j2 : (k : Int) < (D.n : Int) := by omega
  have HRD := Lib.hid (show ∀ (V : World), DuctIn V V.heap.size D (some ⟨pb, po, none⟩) q → Calls Try.prog 15 #[.agg #[.slice (some ⟨pb, po, none⟩) D.n c, .slice q D.m d]] V fun e w' => e = .returned (.bool true) ∧ Below V.heap.size V w' from fun V h => by
    have := ready_any D (some ⟨pb, po, none⟩) q c d V hn hm h
    rw [hrd] at this
    exact this)
  clear hrd
  obtain ⟨w1, x, e1, hb1, hl1⟩ := mk_line w (some ⟨pb, po, none⟩) q D.n D.m c d
  have HLb := Lib.hid hl1
  have HI := Lib.hid (hi.bel hb1)
  have HB := Lib.hid hb1
  clear hb1 hl1 hi
  obtain ⟨w2, x2, e2, b2, f2⟩ := mk_five x 46 (k : Int) g1 g2 g3 g4
  have HF := Lib.hid f2
  have H7_0 := Lib.hid (HLb.out.bel b2)
  have H7_1 := Lib.hid (HI.out.bel b2)
  have HB7 := Lib.hid (bT HB.out b2)
  clear b2 f2
  have L0a_8 : ∀ z : Ext w2, z.v.cell? ⟨w.heap.size, 0, none⟩ = some (.slice (some ⟨pb, po, none⟩) D.n c) := fun z => (H7_0.out.bel z.b).c0
  have L0b_8 : ∀ z : Ext w2, z.v.cell? ⟨w.heap.size, 1, none⟩ = some (.slice q D.m d) := fun z => (H7_0.out.bel z.b).c1
  have V20_8 : ∀ z : Ext w2, z.v.cell? ⟨x.v.heap.size, 0, none⟩ = some (.int .i64 (k : Int)) := fun z => (HF.out.bel z.b).c0
  have V21_8 : ∀ z : Ext w2, z.v.cell? ⟨x.v.heap.size, 1, none⟩ = some (.int .i64 g1) := fun z => (HF.out.bel z.b).c1
  have V22_8 : ∀ z : Ext w2, z.v.cell? ⟨x.v.heap.size, 2, none⟩ = some (.int .i64 g2) := fun z => (HF.out.bel z.b).c2
  have V23_8 : ∀ z : Ext w2, z.v.cell? ⟨x.v.heap.size, 3, none⟩ = some (.int .i64 g3) := fun z => (HF.out.bel z.b).c3
  have V24_8 : ∀ z : Ext w2, z.v.cell? ⟨x.v.heap.size, 4, none⟩ = some (.int .i64 g4) := fun z => (HF.out.bel z.b).c4
  go_enter Try.func4, Try.ntmps4
  go_wp2
  have C0 : ∀ z : Ext w2, z.v.cell? ⟨pb, po + k * 3, none⟩ = some (.int .i64 (D.lo k)) := fun z => (H7_1.out.bel z.b).lo' hk
  have C1 : ∀ z : Ext w2, z.v.cell? ⟨pb, po + k * 3 + 1, none⟩ = some (.int .i64 (D.hi k)) := fun z => (H7_1.out.bel z.b).hi' hk
  refine quiet_e (by kernel_rfl) (by kernel_rfl) ?_
  repeat (first | go_big_quiet_step ((first | (go_at_call 15; exact quiet_x (HRD.out _ (H7_1.out.bel (Ext.b _)))) | (go_at_call 19; exact quiet_x (isPointR_any D _ q c d _ _ hn4)) | (go_at_call 22; exact quiet_x (inside_any _ _ _ _ _)))) | quiet_step ((first | (go_at_call 15; exact quiet_x (HRD.out _ (H7_1.out.bel (Ext.b _)))) | (go_at_call 19; exact quiet_x (isPointR_any D _ q c d _ _ hn4)) | (go_at_call 22; exact quiet_x (inside_any _ _ _ _ _)))))
  refine wpQuiet_nil ?_
  intro w6 hw6
  obtain ⟨y, rfl⟩ := hw6
  go_wp2_with fail
  refine (quiet_x (works_ex _)).mono ?_
  rintro e w' ⟨rfl, y2, rfl⟩
  go_wp2_with fail
  go_ret
  exact ⟨rfl, bT HB7.out y2.b⟩
end Go.Proofs.Ytkdlppekjjbgoaa
