/- AqueductLoss returns true in every walk. -/
import Derived.Test.YtkdlppekjjbgoaaS6

set_option linter.unusedSimpArgs false

set_option linter.unusedVariables false

namespace Go.Proofs.Ytkdlppekjjbgoaa

open Go.RowKit

set_option maxRecDepth 100000 in
set_option maxHeartbeats 8000000 in
theorem loss_big (D : Duct) (p q : Option Addr) (c d : Nat) (k : Int) (w : World) (hn : D.n ≤ maxLen) (hm : D.m ≤ maxLen) (hi : DuctIn w w.heap.size D p q) (hf : (decide (40 < D.n) || decide (40 < D.m)) = true) :
    Calls Try.prog 12 #[.agg #[.slice p D.n c, .slice q D.m d], .int .i64 k] w fun e w' => e = .returned (.bool true) ∧ Below w.heap.size w w' := by
  have HFAR := Lib.hid (show ∀ (V : World), Calls Try.prog 40 #[.agg #[.slice p D.n c, .slice q D.m d]] V fun e w' => e = .returned (.bool true) ∧ Below V.heap.size V w' from fun V => by
    have := far_any D p q c d V hn hm
    rw [hf] at this
    exact this)
  clear hf
  obtain ⟨w1, x, e1, hb1, hl1⟩ := mk_line w p q D.n D.m c d
  have HLb := Lib.hid hl1
  have HB := Lib.hid hb1
  clear hb1 hl1 hi
  have L0a_17 : ∀ z : Ext w1, z.v.cell? ⟨w.heap.size, 0, none⟩ = some (.slice p D.n c) := fun z => (HLb.out.bel z.b).c0
  have L0b_17 : ∀ z : Ext w1, z.v.cell? ⟨w.heap.size, 1, none⟩ = some (.slice q D.m d) := fun z => (HLb.out.bel z.b).c1
  go_enter Try.func12, Try.ntmps12
  go_wp2_with fail
  refine (quiet_x (HFAR.out _)).mono ?_
  rintro e w' ⟨rfl, y, rfl⟩
  go_wp2_with fail
  refine (quiet_x (works_ex _)).mono ?_
  rintro e w' ⟨rfl, y2, rfl⟩
  go_wp2_with fail
  go_ret
  exact ⟨rfl, bT HB.out y2.b⟩
set_option maxRecDepth 100000 in
set_option maxHeartbeats 8000000 in
theorem loss_small (D : Duct) (p q : Option Addr) (c d : Nat) (k : Int) (w : World) (hn4 : D.n ≤ 40) (hm4 : D.m ≤ 40) (hi : DuctIn w w.heap.size D p q) :
    Calls Try.prog 12 #[.agg #[.slice p D.n c, .slice q D.m d], .int .i64 k] w fun e w' => e = .returned (.bool true) ∧ Below w.heap.size w w' := by
  have hn : D.n ≤ maxLen := by unfold maxLen; omega
  have hm : D.m ≤ maxLen := by unfold maxLen; omega
  have hf : (decide (40 < D.n) || decide (40 < D.m)) = false := by simp; omega
  have HFAR := Lib.hid (show ∀ (V : World), Calls Try.prog 40 #[.agg #[.slice p D.n c, .slice q D.m d]] V fun e w' => e = .returned (.bool false) ∧ Below V.heap.size V w' from fun V => by
    have := far_any D p q c d V hn hm
    rw [hf] at this
    exact this)
  clear hf
  obtain ⟨f0, ef0⟩ : ∃ e, lsV0 D k = e := ⟨_, rfl⟩
  obtain ⟨f1, ef1⟩ : ∃ e, lsV1 D k = e := ⟨_, rfl⟩
  obtain ⟨fe, efe⟩ : ∃ e, lrnE D (isSt D k) = e := ⟨_, rfl⟩
  obtain ⟨yv, eyv⟩ : ∃ e, lyV D k = e := ⟨_, rfl⟩
  have HL1 := Lib.hid (show ∀ (V : World) (P Q : Option Addr) (cc dd : Nat), DuctIn V V.heap.size D P Q → Calls Try.prog 23 #[.agg #[.slice P D.n cc, .slice Q D.m dd], .int .i64 k] V fun e w' => e = .returned (.tuple #[.agg #[.int .i64 f0, .int .i64 f1], .int .i64 fe]) ∧ Below V.heap.size V w' from fun V P Q cc dd h => by
    have := lossP_any D P Q cc dd k V hn4 hm4 h
    rw [ef0, ef1, efe] at this
    exact this)
  have HL2 := Lib.hid (show ∀ (V : World) (P Q : Option Addr) (cc dd : Nat), DuctIn V V.heap.size D P Q → Calls Try.prog 47 #[.agg #[.slice P D.n cc, .slice Q D.m dd], .int .i64 k] V fun e w' => e = .returned (.tuple #[.agg #[.int .i64 f0, .int .i64 f1], .int .i64 fe]) ∧ Below V.heap.size V w' from fun V P Q cc dd h => by
    have := lossR_any D P Q cc dd k V hn4 hm4 h
    rw [ef0, ef1, efe] at this
    exact this)
  have HY1 := Lib.hid (show ∀ (V : World) (P Q : Option Addr) (cc dd : Nat), DuctIn V V.heap.size D P Q → Calls Try.prog 24 #[.agg #[.slice P D.n cc, .slice Q D.m dd], .int .i64 k] V fun e w' => e = .returned (.tuple #[.int .i64 yv, .int .i64 fe]) ∧ Below V.heap.size V w' from fun V P Q cc dd h => by
    have := lossyP_any D P Q cc dd k V hn4 hm4 h
    rw [eyv, efe] at this
    exact this)
  have HY2 := Lib.hid (show ∀ (V : World) (P Q : Option Addr) (cc dd : Nat), DuctIn V V.heap.size D P Q → Calls Try.prog 48 #[.agg #[.slice P D.n cc, .slice Q D.m dd], .int .i64 k] V fun e w' => e = .returned (.tuple #[.int .i64 yv, .int .i64 fe]) ∧ Below V.heap.size V w' from fun V P Q cc dd h => by
    have := lossyR_any D P Q cc dd k V hn4 hm4 h
    rw [eyv, efe] at this
    exact this)
  clear ef0 ef1 efe eyv
  have bf0 : (f0 == f0) = true := by simp
  have bf1 : (f1 == f1) = true := by simp
  have bfe : (fe == fe) = true := by simp
  have byv : (yv == yv) = true := by simp
  obtain ⟨w1, x, e1, hb1, hl1⟩ := mk_line w p q D.n D.m c d
  have HLb := Lib.hid hl1
  have HI := Lib.hid (hi.bel hb1)
  have HB := Lib.hid hb1
  clear hb1 hl1 hi
  have L0a_18 : ∀ z : Ext w1, z.v.cell? ⟨w.heap.size, 0, none⟩ = some (.slice p D.n c) := fun z => (HLb.out.bel z.b).c0
  have L0b_18 : ∀ z : Ext w1, z.v.cell? ⟨w.heap.size, 1, none⟩ = some (.slice q D.m d) := fun z => (HLb.out.bel z.b).c1
  go_enter Try.func12, Try.ntmps12
  go_wp2_with fail
  refine (quiet_x (HFAR.out _)).mono ?_
  rintro e w' ⟨rfl, y, rfl⟩
  go_wp2_with fail
  refine (copy_any D p q c d _ hn4 hm4 (HI.out.bel y.b)).mono ?_
  rintro e w' ⟨p', c', q', d', rfl, hcp⟩
  have hcb := hcp.below; have hch := hcp.here
  clear hcp
  obtain ⟨y3, rfl⟩ : ∃ z : Ext w1, w' = z.v := ⟨⟨w', bT y.b hcb⟩, rfl⟩
  obtain ⟨w5, x5, e5, b5, l5⟩ := mk_line y3.v p' q' D.n D.m c' d'
  have HB15 := Lib.hid (bT y3.b b5); have HLo := Lib.hid l5; have HDo := Lib.hid (hch.bel b5)
  clear b5 l5 hcb hch
  clear L0a_18 L0b_18
  have H19_0 := Lib.hid (HLb.out.bel HB15.out)
  have H19_1 := Lib.hid (HI.out.bel HB15.out)
  have HB19 := Lib.hid (bT HB.out HB15.out)
  have L0a_20 : ∀ z : Ext w5, z.v.cell? ⟨w.heap.size, 0, none⟩ = some (.slice p D.n c) := fun z => (H19_0.out.bel z.b).c0
  have L0b_20 : ∀ z : Ext w5, z.v.cell? ⟨w.heap.size, 1, none⟩ = some (.slice q D.m d) := fun z => (H19_0.out.bel z.b).c1
  have L2a_20 : ∀ z : Ext w5, z.v.cell? ⟨y3.v.heap.size, 0, none⟩ = some (.slice p' D.n c') := fun z => (HLo.out.bel z.b).c0
  have L2b_20 : ∀ z : Ext w5, z.v.cell? ⟨y3.v.heap.size, 1, none⟩ = some (.slice q' D.m d') := fun z => (HLo.out.bel z.b).c1
  go_wp2_with fail
  refine (quiet_x (HL1.out _ p' q' c' d' (HDo.out.bel (Ext.b _)))).mono ?_
  rintro e w' ⟨rfl, y11, rfl⟩
  obtain ⟨w11, x11, e11, b11, z11, t11⟩ := mk_two y11 34 f0 f1
  have Ht11 := Lib.hid t11
  have Hz11 := Lib.hid z11
  clear t11 z11
  clear L0a_20 L0b_20 L2a_20 L2b_20
  have H21_0 := Lib.hid (H19_0.out.bel b11)
  have H21_1 := Lib.hid (H19_1.out.bel b11)
  have H21_2 := Lib.hid (HLo.out.bel b11)
  have H21_3 := Lib.hid (HDo.out.bel b11)
  have HB21 := Lib.hid (bT HB19.out b11)
  clear b11
  have L0a_22 : ∀ z : Ext w11, z.v.cell? ⟨w.heap.size, 0, none⟩ = some (.slice p D.n c) := fun z => (H21_0.out.bel z.b).c0
  have L0b_22 : ∀ z : Ext w11, z.v.cell? ⟨w.heap.size, 1, none⟩ = some (.slice q D.m d) := fun z => (H21_0.out.bel z.b).c1
  have L2a_22 : ∀ z : Ext w11, z.v.cell? ⟨y3.v.heap.size, 0, none⟩ = some (.slice p' D.n c') := fun z => (H21_2.out.bel z.b).c0
  have L2b_22 : ∀ z : Ext w11, z.v.cell? ⟨y3.v.heap.size, 1, none⟩ = some (.slice q' D.m d') := fun z => (H21_2.out.bel z.b).c1
  have T4a_22 : ∀ z : Ext w11, z.v.cell? ⟨y11.v.heap.size, 0, none⟩ = some (.int .i64 f0) := fun z => (Ht11.out.bel z.b).c0
  have T4b_22 : ∀ z : Ext w11, z.v.cell? ⟨y11.v.heap.size, 1, none⟩ = some (.int .i64 f1) := fun z => (Ht11.out.bel z.b).c1
  have T4f_22 : ∀ z : Ext w11, ∀ i, z.v.frozen? ⟨y11.v.heap.size, i, none⟩ = false := fun z => (Ht11.out.bel z.b).fz
  go_wp2_with fail
  refine (quiet_x (HL2.out _ p q c d (H21_1.out.bel (Ext.b _)))).mono ?_
  rintro e w' ⟨rfl, y12, rfl⟩
  obtain ⟨w12, x12, e12, b12, z12, t12⟩ := mk_two y12 34 f0 f1
  have Ht12 := Lib.hid t12
  have Hz12 := Lib.hid z12
  clear t12 z12
  clear L0a_22 L0b_22 L2a_22 L2b_22 T4a_22 T4b_22 T4f_22
  have H23_0 := Lib.hid (H21_0.out.bel b12)
  have H23_1 := Lib.hid (H21_1.out.bel b12)
  have H23_2 := Lib.hid (H21_2.out.bel b12)
  have H23_3 := Lib.hid (H21_3.out.bel b12)
  have H23_4 := Lib.hid (Ht11.out.bel b12)
  have HB23 := Lib.hid (bT HB21.out b12)
  clear b12
  have L0a_24 : ∀ z : Ext w12, z.v.cell? ⟨w.heap.size, 0, none⟩ = some (.slice p D.n c) := fun z => (H23_0.out.bel z.b).c0
  have L0b_24 : ∀ z : Ext w12, z.v.cell? ⟨w.heap.size, 1, none⟩ = some (.slice q D.m d) := fun z => (H23_0.out.bel z.b).c1
  have L2a_24 : ∀ z : Ext w12, z.v.cell? ⟨y3.v.heap.size, 0, none⟩ = some (.slice p' D.n c') := fun z => (H23_2.out.bel z.b).c0
  have L2b_24 : ∀ z : Ext w12, z.v.cell? ⟨y3.v.heap.size, 1, none⟩ = some (.slice q' D.m d') := fun z => (H23_2.out.bel z.b).c1
  have T4a_24 : ∀ z : Ext w12, z.v.cell? ⟨y11.v.heap.size, 0, none⟩ = some (.int .i64 f0) := fun z => (H23_4.out.bel z.b).c0
  have T4b_24 : ∀ z : Ext w12, z.v.cell? ⟨y11.v.heap.size, 1, none⟩ = some (.int .i64 f1) := fun z => (H23_4.out.bel z.b).c1
  have T4f_24 : ∀ z : Ext w12, ∀ i, z.v.frozen? ⟨y11.v.heap.size, i, none⟩ = false := fun z => (H23_4.out.bel z.b).fz
  have T5a_24 : ∀ z : Ext w12, z.v.cell? ⟨y12.v.heap.size, 0, none⟩ = some (.int .i64 f0) := fun z => (Ht12.out.bel z.b).c0
  have T5b_24 : ∀ z : Ext w12, z.v.cell? ⟨y12.v.heap.size, 1, none⟩ = some (.int .i64 f1) := fun z => (Ht12.out.bel z.b).c1
  have T5f_24 : ∀ z : Ext w12, ∀ i, z.v.frozen? ⟨y12.v.heap.size, i, none⟩ = false := fun z => (Ht12.out.bel z.b).fz
  go_wp2_with fail
  refine (quiet_x (HY1.out _ p' q' c' d' (H23_3.out.bel (Ext.b _)))).mono ?_
  rintro e w' ⟨rfl, y13, rfl⟩
  go_wp2_with fail
  refine (quiet_x (HY2.out _ p q c d (H23_1.out.bel (Ext.b _)))).mono ?_
  rintro e w' ⟨rfl, y14, rfl⟩
  go_wp2_with fail
  refine (quiet_x (same_any D p' q' c' d' p q c d _ hn4 hm4 (H23_3.out.bel (Ext.b _)) (H23_1.out.bel (Ext.b _)))).mono ?_
  rintro e w' ⟨rfl, y30, rfl⟩
  go_wp2_with fail
  refine (quiet_x (works_ex _)).mono ?_
  rintro e w' ⟨rfl, y31, rfl⟩
  go_wp2_with fail
  go_ret
  exact ⟨rfl, bT HB23.out y31.b⟩
theorem loss_law (D : Duct) (p q : Option Addr) (c d : Nat) (k : Int) (w : World) (hn : D.n ≤ maxLen) (hm : D.m ≤ maxLen) (hi : DuctIn w w.heap.size D p q) :
    Calls Try.prog 12 #[.agg #[.slice p D.n c, .slice q D.m d], .int .i64 k] w fun e w' => e = .returned (.bool true) ∧ Below w.heap.size w w' := by
  cases hf : (decide (40 < D.n) || decide (40 < D.m)) with
  | true => exact loss_big D p q c d k w hn hm hi hf
  | false =>
    have h : D.n ≤ 40 ∧ D.m ≤ 40 := by simpa using hf
    exact loss_small D p q c d k w h.1 h.2 hi
end Go.Proofs.Ytkdlppekjjbgoaa
