/- AqueductFlow returns true in every walk. -/
import Derived.Test.YtkdlppekjjbgoaaS6

set_option linter.unusedSimpArgs false

set_option linter.unusedVariables false

namespace Go.Proofs.Ytkdlppekjjbgoaa

open Go.RowKit

set_option maxRecDepth 100000 in
set_option maxHeartbeats 8000000 in
theorem flow_big (D : Duct) (p q : Option Addr) (c d : Nat) (k : Int) (w : World) (hn : D.n ≤ maxLen) (hm : D.m ≤ maxLen) (hi : DuctIn w w.heap.size D p q) (hf : (decide (40 < D.n) || decide (40 < D.m)) = true) :
    Calls Try.prog 11 #[.agg #[.slice p D.n c, .slice q D.m d], .int .i64 k] w fun e w' => e = .returned (.bool true) ∧ Below w.heap.size w w' := by
  have HFAR := Lib.hid (show ∀ (V : World), Calls Try.prog 40 #[.agg #[.slice p D.n c, .slice q D.m d]] V fun e w' => e = .returned (.bool true) ∧ Below V.heap.size V w' from fun V => by
    have := far_any D p q c d V hn hm
    rw [hf] at this
    exact this)
  clear hf
  obtain ⟨w1, x, e1, hb1, hl1⟩ := mk_line w p q D.n D.m c d
  have HLb := Lib.hid hl1
  have HB := Lib.hid hb1
  clear hb1 hl1 hi
  have L0a_1 : ∀ z : Ext w1, z.v.cell? ⟨w.heap.size, 0, none⟩ = some (.slice p D.n c) := fun z => (HLb.out.bel z.b).c0
  have L0b_1 : ∀ z : Ext w1, z.v.cell? ⟨w.heap.size, 1, none⟩ = some (.slice q D.m d) := fun z => (HLb.out.bel z.b).c1
  go_enter Try.func11, Try.ntmps11
  go_wp2_with fail
  refine (quiet_x (HFAR.out _)).mono ?_
  rintro e w' ⟨rfl, y, rfl⟩
  go_wp2_with fail
  refine (quiet_x (works_ex _)).mono ?_
  rintro e w' ⟨rfl, y2, rfl⟩
  go_wp2_with fail
  go_ret
  exact ⟨rfl, bT HB.out y2.b⟩
set_option maxRecDepth 100000 in
set_option maxHeartbeats 8000000 in
theorem flow_small (D : Duct) (p q : Option Addr) (c d : Nat) (k : Int) (w : World) (hn4 : D.n ≤ 40) (hm4 : D.m ≤ 40) (hi : DuctIn w w.heap.size D p q) :
    Calls Try.prog 11 #[.agg #[.slice p D.n c, .slice q D.m d], .int .i64 k] w fun e w' => e = .returned (.bool true) ∧ Below w.heap.size w w' := by
  have hn : D.n ≤ maxLen := by unfold maxLen; omega
  have hm : D.m ≤ maxLen := by unfold maxLen; omega
  have hf : (decide (40 < D.n) || decide (40 < D.m)) = false := by simp; omega
  have HFAR := Lib.hid (show ∀ (V : World), Calls Try.prog 40 #[.agg #[.slice p D.n c, .slice q D.m d]] V fun e w' => e = .returned (.bool false) ∧ Below V.heap.size V w' from fun V => by
    have := far_any D p q c d V hn hm
    rw [hf] at this
    exact this)
  clear hf
  obtain ⟨k0, ek0⟩ : ∃ e, chkE D.ok true = e := ⟨_, rfl⟩
  obtain ⟨c0, ec0⟩ : ∃ e, clAv D = e := ⟨_, rfl⟩
  obtain ⟨c1, ec1⟩ : ∃ e, clBv D = e := ⟨_, rfl⟩
  obtain ⟨ce, ece⟩ : ∃ e, clE D = e := ⟨_, rfl⟩
  obtain ⟨f0, ef0⟩ : ∃ e, flV0 D k = e := ⟨_, rfl⟩
  obtain ⟨f1, ef1⟩ : ∃ e, flV1 D k = e := ⟨_, rfl⟩
  obtain ⟨fe, efe⟩ : ∃ e, lrnE D (isPt D k) = e := ⟨_, rfl⟩
  obtain ⟨h0, eh0⟩ : ∃ e, whV0 D = e := ⟨_, rfl⟩
  obtain ⟨h1, eh1⟩ : ∃ e, whV1 D = e := ⟨_, rfl⟩
  obtain ⟨he, ehe⟩ : ∃ e, lrnE D true = e := ⟨_, rfl⟩
  have HCP := Lib.hid (show ∀ (V : World) (P Q : Option Addr) (cc dd : Nat), DuctIn V V.heap.size D P Q → Calls Try.prog 41 #[.agg #[.slice P D.n cc, .slice Q D.m dd]] V fun e w' => e = .returned (.int .i64 k0) ∧ Below V.heap.size V w' from fun V P Q cc dd h => by
    have := checkP_any D P Q cc dd V hn4 hm4 h
    rw [ek0] at this
    exact this)
  have HCR := Lib.hid (show ∀ (V : World) (P Q : Option Addr) (cc dd : Nat), DuctIn V V.heap.size D P Q → Calls Try.prog 42 #[.agg #[.slice P D.n cc, .slice Q D.m dd]] V fun e w' => e = .returned (.int .i64 k0) ∧ Below V.heap.size V w' from fun V P Q cc dd h => by
    have := checkR_any D P Q cc dd V hn4 hm4 h
    rw [ek0] at this
    exact this)
  have HC1 := Lib.hid (show ∀ (V : World) (P Q : Option Addr) (cc dd : Nat), DuctIn V V.heap.size D P Q → Calls Try.prog 17 #[.agg #[.slice P D.n cc, .slice Q D.m dd]] V fun e w' => e = .returned (.tuple #[.agg #[.int .i64 c0, .int .i64 c1], .int .i64 ce]) ∧ Below V.heap.size V w' from fun V P Q cc dd h => by
    have := clashP_any D P Q cc dd V hn4 hm4 h
    rw [ec0, ec1, ece] at this
    exact this)
  have HC2 := Lib.hid (show ∀ (V : World) (P Q : Option Addr) (cc dd : Nat), DuctIn V V.heap.size D P Q → Calls Try.prog 43 #[.agg #[.slice P D.n cc, .slice Q D.m dd]] V fun e w' => e = .returned (.tuple #[.agg #[.int .i64 c0, .int .i64 c1], .int .i64 ce]) ∧ Below V.heap.size V w' from fun V P Q cc dd h => by
    have := clashR_any D P Q cc dd V hn4 hm4 h
    rw [ec0, ec1, ece] at this
    exact this)
  have HF1 := Lib.hid (show ∀ (V : World) (P Q : Option Addr) (cc dd : Nat), DuctIn V V.heap.size D P Q → Calls Try.prog 21 #[.agg #[.slice P D.n cc, .slice Q D.m dd], .int .i64 k] V fun e w' => e = .returned (.tuple #[.agg #[.int .i64 f0, .int .i64 f1], .int .i64 fe]) ∧ Below V.heap.size V w' from fun V P Q cc dd h => by
    have := flowP_any D P Q cc dd k V hn4 hm4 h
    rw [ef0, ef1, efe] at this
    exact this)
  have HF2 := Lib.hid (show ∀ (V : World) (P Q : Option Addr) (cc dd : Nat), DuctIn V V.heap.size D P Q → Calls Try.prog 44 #[.agg #[.slice P D.n cc, .slice Q D.m dd], .int .i64 k] V fun e w' => e = .returned (.tuple #[.agg #[.int .i64 f0, .int .i64 f1], .int .i64 fe]) ∧ Below V.heap.size V w' from fun V P Q cc dd h => by
    have := flowR_any D P Q cc dd k V hn4 hm4 h
    rw [ef0, ef1, efe] at this
    exact this)
  have HW1 := Lib.hid (show ∀ (V : World) (P Q : Option Addr) (cc dd : Nat), DuctIn V V.heap.size D P Q → Calls Try.prog 18 #[.agg #[.slice P D.n cc, .slice Q D.m dd]] V fun e w' => e = .returned (.tuple #[.agg #[.int .i64 h0, .int .i64 h1], .int .i64 he]) ∧ Below V.heap.size V w' from fun V P Q cc dd h => by
    have := wholeP_any D P Q cc dd V hn4 hm4 h
    rw [eh0, eh1, ehe] at this
    exact this)
  have HW2 := Lib.hid (show ∀ (V : World) (P Q : Option Addr) (cc dd : Nat), DuctIn V V.heap.size D P Q → Calls Try.prog 45 #[.agg #[.slice P D.n cc, .slice Q D.m dd]] V fun e w' => e = .returned (.tuple #[.agg #[.int .i64 h0, .int .i64 h1], .int .i64 he]) ∧ Below V.heap.size V w' from fun V P Q cc dd h => by
    have := wholeR_any D P Q cc dd V hn4 hm4 h
    rw [eh0, eh1, ehe] at this
    exact this)
  clear ek0 ec0 ec1 ece ef0 ef1 efe eh0 eh1 ehe
  have bk0 : (k0 == k0) = true := by simp
  have bc0 : (c0 == c0) = true := by simp
  have bc1 : (c1 == c1) = true := by simp
  have bce : (ce == ce) = true := by simp
  have bf0 : (f0 == f0) = true := by simp
  have bf1 : (f1 == f1) = true := by simp
  have bfe : (fe == fe) = true := by simp
  have bh0 : (h0 == h0) = true := by simp
  have bh1 : (h1 == h1) = true := by simp
  have bhe : (he == he) = true := by simp
  have bk : (k0 != k0) = false := by simp
  obtain ⟨w1, x, e1, hb1, hl1⟩ := mk_line w p q D.n D.m c d
  have HLb := Lib.hid hl1
  have HI := Lib.hid (hi.bel hb1)
  have HB := Lib.hid hb1
  clear hb1 hl1 hi
  have L0a_2 : ∀ z : Ext w1, z.v.cell? ⟨w.heap.size, 0, none⟩ = some (.slice p D.n c) := fun z => (HLb.out.bel z.b).c0
  have L0b_2 : ∀ z : Ext w1, z.v.cell? ⟨w.heap.size, 1, none⟩ = some (.slice q D.m d) := fun z => (HLb.out.bel z.b).c1
  go_enter Try.func11, Try.ntmps11
  go_wp2_with fail
  refine (quiet_x (HFAR.out _)).mono ?_
  rintro e w' ⟨rfl, y, rfl⟩
  go_wp2_with fail
  refine (copy_any D p q c d _ hn4 hm4 (HI.out.bel y.b)).mono ?_
  rintro e w' ⟨p', c', q', d', rfl, hcp⟩
  have hcb := hcp.below; have hch := hcp.here
  clear hcp
  obtain ⟨y3, rfl⟩ : ∃ z : Ext w1, w' = z.v := ⟨⟨w', bT y.b hcb⟩, rfl⟩
  obtain ⟨w5, x5, e5, b5, l5⟩ := mk_line y3.v p' q' D.n D.m c' d'
  have HB15 := Lib.hid (bT y3.b b5); have HLo := Lib.hid l5; have HDo := Lib.hid (hch.bel b5)
  clear b5 l5 hcb hch
  clear L0a_2 L0b_2
  have H3_0 := Lib.hid (HLb.out.bel HB15.out)
  have H3_1 := Lib.hid (HI.out.bel HB15.out)
  have HB3 := Lib.hid (bT HB.out HB15.out)
  have L0a_4 : ∀ z : Ext w5, z.v.cell? ⟨w.heap.size, 0, none⟩ = some (.slice p D.n c) := fun z => (H3_0.out.bel z.b).c0
  have L0b_4 : ∀ z : Ext w5, z.v.cell? ⟨w.heap.size, 1, none⟩ = some (.slice q D.m d) := fun z => (H3_0.out.bel z.b).c1
  have L2a_4 : ∀ z : Ext w5, z.v.cell? ⟨y3.v.heap.size, 0, none⟩ = some (.slice p' D.n c') := fun z => (HLo.out.bel z.b).c0
  have L2b_4 : ∀ z : Ext w5, z.v.cell? ⟨y3.v.heap.size, 1, none⟩ = some (.slice q' D.m d') := fun z => (HLo.out.bel z.b).c1
  go_wp2_with fail
  refine quiet_e (by kernel_rfl) (by kernel_rfl) ?_
  repeat (first | go_big_quiet_step ((first | (go_at_call 41; exact quiet_x (HCP.out _ p' q' c' d' (HDo.out.bel (Ext.b _)))) | (go_at_call 42; exact quiet_x (HCR.out _ p q c d (H3_1.out.bel (Ext.b _)))))) | quiet_step ((first | (go_at_call 41; exact quiet_x (HCP.out _ p' q' c' d' (HDo.out.bel (Ext.b _)))) | (go_at_call 42; exact quiet_x (HCR.out _ p q c d (H3_1.out.bel (Ext.b _)))))))
  refine wpQuiet_nil ?_
  intro w6 hw6
  obtain ⟨y4, rfl⟩ := hw6
  go_wp2_with fail
  refine (quiet_x (HC1.out _ p' q' c' d' (HDo.out.bel (Ext.b _)))).mono ?_
  rintro e w' ⟨rfl, y11, rfl⟩
  obtain ⟨w11, x11, e11, b11, z11, t11⟩ := mk_two y11 29 c0 c1
  have Ht11 := Lib.hid t11
  have Hz11 := Lib.hid z11
  clear t11 z11
  clear L0a_4 L0b_4 L2a_4 L2b_4
  have H5_0 := Lib.hid (H3_0.out.bel b11)
  have H5_1 := Lib.hid (H3_1.out.bel b11)
  have H5_2 := Lib.hid (HLo.out.bel b11)
  have H5_3 := Lib.hid (HDo.out.bel b11)
  have HB5 := Lib.hid (bT HB3.out b11)
  clear b11
  have L0a_6 : ∀ z : Ext w11, z.v.cell? ⟨w.heap.size, 0, none⟩ = some (.slice p D.n c) := fun z => (H5_0.out.bel z.b).c0
  have L0b_6 : ∀ z : Ext w11, z.v.cell? ⟨w.heap.size, 1, none⟩ = some (.slice q D.m d) := fun z => (H5_0.out.bel z.b).c1
  have L2a_6 : ∀ z : Ext w11, z.v.cell? ⟨y3.v.heap.size, 0, none⟩ = some (.slice p' D.n c') := fun z => (H5_2.out.bel z.b).c0
  have L2b_6 : ∀ z : Ext w11, z.v.cell? ⟨y3.v.heap.size, 1, none⟩ = some (.slice q' D.m d') := fun z => (H5_2.out.bel z.b).c1
  have T4a_6 : ∀ z : Ext w11, z.v.cell? ⟨y11.v.heap.size, 0, none⟩ = some (.int .i64 c0) := fun z => (Ht11.out.bel z.b).c0
  have T4b_6 : ∀ z : Ext w11, z.v.cell? ⟨y11.v.heap.size, 1, none⟩ = some (.int .i64 c1) := fun z => (Ht11.out.bel z.b).c1
  have T4f_6 : ∀ z : Ext w11, ∀ i, z.v.frozen? ⟨y11.v.heap.size, i, none⟩ = false := fun z => (Ht11.out.bel z.b).fz
  go_wp2_with fail
  refine (quiet_x (HC2.out _ p q c d (H5_1.out.bel (Ext.b _)))).mono ?_
  rintro e w' ⟨rfl, y12, rfl⟩
  obtain ⟨w12, x12, e12, b12, z12, t12⟩ := mk_two y12 29 c0 c1
  have Ht12 := Lib.hid t12
  have Hz12 := Lib.hid z12
  clear t12 z12
  clear L0a_6 L0b_6 L2a_6 L2b_6 T4a_6 T4b_6 T4f_6
  have H7_0 := Lib.hid (H5_0.out.bel b12)
  have H7_1 := Lib.hid (H5_1.out.bel b12)
  have H7_2 := Lib.hid (H5_2.out.bel b12)
  have H7_3 := Lib.hid (H5_3.out.bel b12)
  have H7_4 := Lib.hid (Ht11.out.bel b12)
  have HB7 := Lib.hid (bT HB5.out b12)
  clear b12
  have L0a_8 : ∀ z : Ext w12, z.v.cell? ⟨w.heap.size, 0, none⟩ = some (.slice p D.n c) := fun z => (H7_0.out.bel z.b).c0
  have L0b_8 : ∀ z : Ext w12, z.v.cell? ⟨w.heap.size, 1, none⟩ = some (.slice q D.m d) := fun z => (H7_0.out.bel z.b).c1
  have L2a_8 : ∀ z : Ext w12, z.v.cell? ⟨y3.v.heap.size, 0, none⟩ = some (.slice p' D.n c') := fun z => (H7_2.out.bel z.b).c0
  have L2b_8 : ∀ z : Ext w12, z.v.cell? ⟨y3.v.heap.size, 1, none⟩ = some (.slice q' D.m d') := fun z => (H7_2.out.bel z.b).c1
  have T4a_8 : ∀ z : Ext w12, z.v.cell? ⟨y11.v.heap.size, 0, none⟩ = some (.int .i64 c0) := fun z => (H7_4.out.bel z.b).c0
  have T4b_8 : ∀ z : Ext w12, z.v.cell? ⟨y11.v.heap.size, 1, none⟩ = some (.int .i64 c1) := fun z => (H7_4.out.bel z.b).c1
  have T4f_8 : ∀ z : Ext w12, ∀ i, z.v.frozen? ⟨y11.v.heap.size, i, none⟩ = false := fun z => (H7_4.out.bel z.b).fz
  have T5a_8 : ∀ z : Ext w12, z.v.cell? ⟨y12.v.heap.size, 0, none⟩ = some (.int .i64 c0) := fun z => (Ht12.out.bel z.b).c0
  have T5b_8 : ∀ z : Ext w12, z.v.cell? ⟨y12.v.heap.size, 1, none⟩ = some (.int .i64 c1) := fun z => (Ht12.out.bel z.b).c1
  have T5f_8 : ∀ z : Ext w12, ∀ i, z.v.frozen? ⟨y12.v.heap.size, i, none⟩ = false := fun z => (Ht12.out.bel z.b).fz
  go_wp2_with fail
  refine (quiet_x (HF1.out _ p' q' c' d' (H7_3.out.bel (Ext.b _)))).mono ?_
  rintro e w' ⟨rfl, y13, rfl⟩
  obtain ⟨w13, x13, e13, b13, z13, t13⟩ := mk_two y13 34 f0 f1
  have Ht13 := Lib.hid t13
  have Hz13 := Lib.hid z13
  clear t13 z13
  clear L0a_8 L0b_8 L2a_8 L2b_8 T4a_8 T4b_8 T4f_8 T5a_8 T5b_8 T5f_8
  have H9_0 := Lib.hid (H7_0.out.bel b13)
  have H9_1 := Lib.hid (H7_1.out.bel b13)
  have H9_2 := Lib.hid (H7_2.out.bel b13)
  have H9_3 := Lib.hid (H7_3.out.bel b13)
  have H9_4 := Lib.hid (H7_4.out.bel b13)
  have H9_5 := Lib.hid (Ht12.out.bel b13)
  have HB9 := Lib.hid (bT HB7.out b13)
  clear b13
  have L0a_10 : ∀ z : Ext w13, z.v.cell? ⟨w.heap.size, 0, none⟩ = some (.slice p D.n c) := fun z => (H9_0.out.bel z.b).c0
  have L0b_10 : ∀ z : Ext w13, z.v.cell? ⟨w.heap.size, 1, none⟩ = some (.slice q D.m d) := fun z => (H9_0.out.bel z.b).c1
  have L2a_10 : ∀ z : Ext w13, z.v.cell? ⟨y3.v.heap.size, 0, none⟩ = some (.slice p' D.n c') := fun z => (H9_2.out.bel z.b).c0
  have L2b_10 : ∀ z : Ext w13, z.v.cell? ⟨y3.v.heap.size, 1, none⟩ = some (.slice q' D.m d') := fun z => (H9_2.out.bel z.b).c1
  have T4a_10 : ∀ z : Ext w13, z.v.cell? ⟨y11.v.heap.size, 0, none⟩ = some (.int .i64 c0) := fun z => (H9_4.out.bel z.b).c0
  have T4b_10 : ∀ z : Ext w13, z.v.cell? ⟨y11.v.heap.size, 1, none⟩ = some (.int .i64 c1) := fun z => (H9_4.out.bel z.b).c1
  have T4f_10 : ∀ z : Ext w13, ∀ i, z.v.frozen? ⟨y11.v.heap.size, i, none⟩ = false := fun z => (H9_4.out.bel z.b).fz
  have T5a_10 : ∀ z : Ext w13, z.v.cell? ⟨y12.v.heap.size, 0, none⟩ = some (.int .i64 c0) := fun z => (H9_5.out.bel z.b).c0
  have T5b_10 : ∀ z : Ext w13, z.v.cell? ⟨y12.v.heap.size, 1, none⟩ = some (.int .i64 c1) := fun z => (H9_5.out.bel z.b).c1
  have T5f_10 : ∀ z : Ext w13, ∀ i, z.v.frozen? ⟨y12.v.heap.size, i, none⟩ = false := fun z => (H9_5.out.bel z.b).fz
  have T6a_10 : ∀ z : Ext w13, z.v.cell? ⟨y13.v.heap.size, 0, none⟩ = some (.int .i64 f0) := fun z => (Ht13.out.bel z.b).c0
  have T6b_10 : ∀ z : Ext w13, z.v.cell? ⟨y13.v.heap.size, 1, none⟩ = some (.int .i64 f1) := fun z => (Ht13.out.bel z.b).c1
  have T6f_10 : ∀ z : Ext w13, ∀ i, z.v.frozen? ⟨y13.v.heap.size, i, none⟩ = false := fun z => (Ht13.out.bel z.b).fz
  go_wp2_with fail
  refine (quiet_x (HF2.out _ p q c d (H9_1.out.bel (Ext.b _)))).mono ?_
  rintro e w' ⟨rfl, y14, rfl⟩
  obtain ⟨w14, x14, e14, b14, z14, t14⟩ := mk_two y14 34 f0 f1
  have Ht14 := Lib.hid t14
  have Hz14 := Lib.hid z14
  clear t14 z14
  clear L0a_10 L0b_10 L2a_10 L2b_10 T4a_10 T4b_10 T4f_10 T5a_10 T5b_10 T5f_10 T6a_10 T6b_10 T6f_10
  have H11_0 := Lib.hid (H9_0.out.bel b14)
  have H11_1 := Lib.hid (H9_1.out.bel b14)
  have H11_2 := Lib.hid (H9_2.out.bel b14)
  have H11_3 := Lib.hid (H9_3.out.bel b14)
  have H11_4 := Lib.hid (H9_4.out.bel b14)
  have H11_5 := Lib.hid (H9_5.out.bel b14)
  have H11_6 := Lib.hid (Ht13.out.bel b14)
  have HB11 := Lib.hid (bT HB9.out b14)
  clear b14
  have L0a_12 : ∀ z : Ext w14, z.v.cell? ⟨w.heap.size, 0, none⟩ = some (.slice p D.n c) := fun z => (H11_0.out.bel z.b).c0
  have L0b_12 : ∀ z : Ext w14, z.v.cell? ⟨w.heap.size, 1, none⟩ = some (.slice q D.m d) := fun z => (H11_0.out.bel z.b).c1
  have L2a_12 : ∀ z : Ext w14, z.v.cell? ⟨y3.v.heap.size, 0, none⟩ = some (.slice p' D.n c') := fun z => (H11_2.out.bel z.b).c0
  have L2b_12 : ∀ z : Ext w14, z.v.cell? ⟨y3.v.heap.size, 1, none⟩ = some (.slice q' D.m d') := fun z => (H11_2.out.bel z.b).c1
  have T4a_12 : ∀ z : Ext w14, z.v.cell? ⟨y11.v.heap.size, 0, none⟩ = some (.int .i64 c0) := fun z => (H11_4.out.bel z.b).c0
  have T4b_12 : ∀ z : Ext w14, z.v.cell? ⟨y11.v.heap.size, 1, none⟩ = some (.int .i64 c1) := fun z => (H11_4.out.bel z.b).c1
  have T4f_12 : ∀ z : Ext w14, ∀ i, z.v.frozen? ⟨y11.v.heap.size, i, none⟩ = false := fun z => (H11_4.out.bel z.b).fz
  have T5a_12 : ∀ z : Ext w14, z.v.cell? ⟨y12.v.heap.size, 0, none⟩ = some (.int .i64 c0) := fun z => (H11_5.out.bel z.b).c0
  have T5b_12 : ∀ z : Ext w14, z.v.cell? ⟨y12.v.heap.size, 1, none⟩ = some (.int .i64 c1) := fun z => (H11_5.out.bel z.b).c1
  have T5f_12 : ∀ z : Ext w14, ∀ i, z.v.frozen? ⟨y12.v.heap.size, i, none⟩ = false := fun z => (H11_5.out.bel z.b).fz
  have T6a_12 : ∀ z : Ext w14, z.v.cell? ⟨y13.v.heap.size, 0, none⟩ = some (.int .i64 f0) := fun z => (H11_6.out.bel z.b).c0
  have T6b_12 : ∀ z : Ext w14, z.v.cell? ⟨y13.v.heap.size, 1, none⟩ = some (.int .i64 f1) := fun z => (H11_6.out.bel z.b).c1
  have T6f_12 : ∀ z : Ext w14, ∀ i, z.v.frozen? ⟨y13.v.heap.size, i, none⟩ = false := fun z => (H11_6.out.bel z.b).fz
  have T7a_12 : ∀ z : Ext w14, z.v.cell? ⟨y14.v.heap.size, 0, none⟩ = some (.int .i64 f0) := fun z => (Ht14.out.bel z.b).c0
  have T7b_12 : ∀ z : Ext w14, z.v.cell? ⟨y14.v.heap.size, 1, none⟩ = some (.int .i64 f1) := fun z => (Ht14.out.bel z.b).c1
  have T7f_12 : ∀ z : Ext w14, ∀ i, z.v.frozen? ⟨y14.v.heap.size, i, none⟩ = false := fun z => (Ht14.out.bel z.b).fz
  go_wp2_with fail
  refine (quiet_x (HW1.out _ p' q' c' d' (H11_3.out.bel (Ext.b _)))).mono ?_
  rintro e w' ⟨rfl, y15, rfl⟩
  obtain ⟨w15, x15, e15, b15, z15, t15⟩ := mk_two y15 34 h0 h1
  have Ht15 := Lib.hid t15
  have Hz15 := Lib.hid z15
  clear t15 z15
  clear L0a_12 L0b_12 L2a_12 L2b_12 T4a_12 T4b_12 T4f_12 T5a_12 T5b_12 T5f_12 T6a_12 T6b_12 T6f_12 T7a_12 T7b_12 T7f_12
  have H13_0 := Lib.hid (H11_0.out.bel b15)
  have H13_1 := Lib.hid (H11_1.out.bel b15)
  have H13_2 := Lib.hid (H11_2.out.bel b15)
  have H13_3 := Lib.hid (H11_3.out.bel b15)
  have H13_4 := Lib.hid (H11_4.out.bel b15)
  have H13_5 := Lib.hid (H11_5.out.bel b15)
  have H13_6 := Lib.hid (H11_6.out.bel b15)
  have H13_7 := Lib.hid (Ht14.out.bel b15)
  have HB13 := Lib.hid (bT HB11.out b15)
  clear b15
  have L0a_14 : ∀ z : Ext w15, z.v.cell? ⟨w.heap.size, 0, none⟩ = some (.slice p D.n c) := fun z => (H13_0.out.bel z.b).c0
  have L0b_14 : ∀ z : Ext w15, z.v.cell? ⟨w.heap.size, 1, none⟩ = some (.slice q D.m d) := fun z => (H13_0.out.bel z.b).c1
  have L2a_14 : ∀ z : Ext w15, z.v.cell? ⟨y3.v.heap.size, 0, none⟩ = some (.slice p' D.n c') := fun z => (H13_2.out.bel z.b).c0
  have L2b_14 : ∀ z : Ext w15, z.v.cell? ⟨y3.v.heap.size, 1, none⟩ = some (.slice q' D.m d') := fun z => (H13_2.out.bel z.b).c1
  have T4a_14 : ∀ z : Ext w15, z.v.cell? ⟨y11.v.heap.size, 0, none⟩ = some (.int .i64 c0) := fun z => (H13_4.out.bel z.b).c0
  have T4b_14 : ∀ z : Ext w15, z.v.cell? ⟨y11.v.heap.size, 1, none⟩ = some (.int .i64 c1) := fun z => (H13_4.out.bel z.b).c1
  have T4f_14 : ∀ z : Ext w15, ∀ i, z.v.frozen? ⟨y11.v.heap.size, i, none⟩ = false := fun z => (H13_4.out.bel z.b).fz
  have T5a_14 : ∀ z : Ext w15, z.v.cell? ⟨y12.v.heap.size, 0, none⟩ = some (.int .i64 c0) := fun z => (H13_5.out.bel z.b).c0
  have T5b_14 : ∀ z : Ext w15, z.v.cell? ⟨y12.v.heap.size, 1, none⟩ = some (.int .i64 c1) := fun z => (H13_5.out.bel z.b).c1
  have T5f_14 : ∀ z : Ext w15, ∀ i, z.v.frozen? ⟨y12.v.heap.size, i, none⟩ = false := fun z => (H13_5.out.bel z.b).fz
  have T6a_14 : ∀ z : Ext w15, z.v.cell? ⟨y13.v.heap.size, 0, none⟩ = some (.int .i64 f0) := fun z => (H13_6.out.bel z.b).c0
  have T6b_14 : ∀ z : Ext w15, z.v.cell? ⟨y13.v.heap.size, 1, none⟩ = some (.int .i64 f1) := fun z => (H13_6.out.bel z.b).c1
  have T6f_14 : ∀ z : Ext w15, ∀ i, z.v.frozen? ⟨y13.v.heap.size, i, none⟩ = false := fun z => (H13_6.out.bel z.b).fz
  have T7a_14 : ∀ z : Ext w15, z.v.cell? ⟨y14.v.heap.size, 0, none⟩ = some (.int .i64 f0) := fun z => (H13_7.out.bel z.b).c0
  have T7b_14 : ∀ z : Ext w15, z.v.cell? ⟨y14.v.heap.size, 1, none⟩ = some (.int .i64 f1) := fun z => (H13_7.out.bel z.b).c1
  have T7f_14 : ∀ z : Ext w15, ∀ i, z.v.frozen? ⟨y14.v.heap.size, i, none⟩ = false := fun z => (H13_7.out.bel z.b).fz
  have T8a_14 : ∀ z : Ext w15, z.v.cell? ⟨y15.v.heap.size, 0, none⟩ = some (.int .i64 h0) := fun z => (Ht15.out.bel z.b).c0
  have T8b_14 : ∀ z : Ext w15, z.v.cell? ⟨y15.v.heap.size, 1, none⟩ = some (.int .i64 h1) := fun z => (Ht15.out.bel z.b).c1
  have T8f_14 : ∀ z : Ext w15, ∀ i, z.v.frozen? ⟨y15.v.heap.size, i, none⟩ = false := fun z => (Ht15.out.bel z.b).fz
  go_wp2_with fail
  refine (quiet_x (HW2.out _ p q c d (H13_1.out.bel (Ext.b _)))).mono ?_
  rintro e w' ⟨rfl, y16, rfl⟩
  obtain ⟨w16, x16, e16, b16, z16, t16⟩ := mk_two y16 34 h0 h1
  have Ht16 := Lib.hid t16
  have Hz16 := Lib.hid z16
  clear t16 z16
  clear L0a_14 L0b_14 L2a_14 L2b_14 T4a_14 T4b_14 T4f_14 T5a_14 T5b_14 T5f_14 T6a_14 T6b_14 T6f_14 T7a_14 T7b_14 T7f_14 T8a_14 T8b_14 T8f_14
  have H15_0 := Lib.hid (H13_0.out.bel b16)
  have H15_1 := Lib.hid (H13_1.out.bel b16)
  have H15_2 := Lib.hid (H13_2.out.bel b16)
  have H15_3 := Lib.hid (H13_3.out.bel b16)
  have H15_4 := Lib.hid (H13_4.out.bel b16)
  have H15_5 := Lib.hid (H13_5.out.bel b16)
  have H15_6 := Lib.hid (H13_6.out.bel b16)
  have H15_7 := Lib.hid (H13_7.out.bel b16)
  have H15_8 := Lib.hid (Ht15.out.bel b16)
  have HB15 := Lib.hid (bT HB13.out b16)
  clear b16
  have L0a_16 : ∀ z : Ext w16, z.v.cell? ⟨w.heap.size, 0, none⟩ = some (.slice p D.n c) := fun z => (H15_0.out.bel z.b).c0
  have L0b_16 : ∀ z : Ext w16, z.v.cell? ⟨w.heap.size, 1, none⟩ = some (.slice q D.m d) := fun z => (H15_0.out.bel z.b).c1
  have L2a_16 : ∀ z : Ext w16, z.v.cell? ⟨y3.v.heap.size, 0, none⟩ = some (.slice p' D.n c') := fun z => (H15_2.out.bel z.b).c0
  have L2b_16 : ∀ z : Ext w16, z.v.cell? ⟨y3.v.heap.size, 1, none⟩ = some (.slice q' D.m d') := fun z => (H15_2.out.bel z.b).c1
  have T4a_16 : ∀ z : Ext w16, z.v.cell? ⟨y11.v.heap.size, 0, none⟩ = some (.int .i64 c0) := fun z => (H15_4.out.bel z.b).c0
  have T4b_16 : ∀ z : Ext w16, z.v.cell? ⟨y11.v.heap.size, 1, none⟩ = some (.int .i64 c1) := fun z => (H15_4.out.bel z.b).c1
  have T4f_16 : ∀ z : Ext w16, ∀ i, z.v.frozen? ⟨y11.v.heap.size, i, none⟩ = false := fun z => (H15_4.out.bel z.b).fz
  have T5a_16 : ∀ z : Ext w16, z.v.cell? ⟨y12.v.heap.size, 0, none⟩ = some (.int .i64 c0) := fun z => (H15_5.out.bel z.b).c0
  have T5b_16 : ∀ z : Ext w16, z.v.cell? ⟨y12.v.heap.size, 1, none⟩ = some (.int .i64 c1) := fun z => (H15_5.out.bel z.b).c1
  have T5f_16 : ∀ z : Ext w16, ∀ i, z.v.frozen? ⟨y12.v.heap.size, i, none⟩ = false := fun z => (H15_5.out.bel z.b).fz
  have T6a_16 : ∀ z : Ext w16, z.v.cell? ⟨y13.v.heap.size, 0, none⟩ = some (.int .i64 f0) := fun z => (H15_6.out.bel z.b).c0
  have T6b_16 : ∀ z : Ext w16, z.v.cell? ⟨y13.v.heap.size, 1, none⟩ = some (.int .i64 f1) := fun z => (H15_6.out.bel z.b).c1
  have T6f_16 : ∀ z : Ext w16, ∀ i, z.v.frozen? ⟨y13.v.heap.size, i, none⟩ = false := fun z => (H15_6.out.bel z.b).fz
  have T7a_16 : ∀ z : Ext w16, z.v.cell? ⟨y14.v.heap.size, 0, none⟩ = some (.int .i64 f0) := fun z => (H15_7.out.bel z.b).c0
  have T7b_16 : ∀ z : Ext w16, z.v.cell? ⟨y14.v.heap.size, 1, none⟩ = some (.int .i64 f1) := fun z => (H15_7.out.bel z.b).c1
  have T7f_16 : ∀ z : Ext w16, ∀ i, z.v.frozen? ⟨y14.v.heap.size, i, none⟩ = false := fun z => (H15_7.out.bel z.b).fz
  have T8a_16 : ∀ z : Ext w16, z.v.cell? ⟨y15.v.heap.size, 0, none⟩ = some (.int .i64 h0) := fun z => (H15_8.out.bel z.b).c0
  have T8b_16 : ∀ z : Ext w16, z.v.cell? ⟨y15.v.heap.size, 1, none⟩ = some (.int .i64 h1) := fun z => (H15_8.out.bel z.b).c1
  have T8f_16 : ∀ z : Ext w16, ∀ i, z.v.frozen? ⟨y15.v.heap.size, i, none⟩ = false := fun z => (H15_8.out.bel z.b).fz
  have T9a_16 : ∀ z : Ext w16, z.v.cell? ⟨y16.v.heap.size, 0, none⟩ = some (.int .i64 h0) := fun z => (Ht16.out.bel z.b).c0
  have T9b_16 : ∀ z : Ext w16, z.v.cell? ⟨y16.v.heap.size, 1, none⟩ = some (.int .i64 h1) := fun z => (Ht16.out.bel z.b).c1
  have T9f_16 : ∀ z : Ext w16, ∀ i, z.v.frozen? ⟨y16.v.heap.size, i, none⟩ = false := fun z => (Ht16.out.bel z.b).fz
  go_wp2_with fail
  refine (quiet_x (same_any D p' q' c' d' p q c d _ hn4 hm4 (H15_3.out.bel (Ext.b _)) (H15_1.out.bel (Ext.b _)))).mono ?_
  rintro e w' ⟨rfl, y30, rfl⟩
  go_wp2_with fail
  refine (quiet_x (works_ex _)).mono ?_
  rintro e w' ⟨rfl, y31, rfl⟩
  go_wp2_with fail
  go_ret
  exact ⟨rfl, bT HB15.out y31.b⟩
theorem flow_law (D : Duct) (p q : Option Addr) (c d : Nat) (k : Int) (w : World) (hn : D.n ≤ maxLen) (hm : D.m ≤ maxLen) (hi : DuctIn w w.heap.size D p q) :
    Calls Try.prog 11 #[.agg #[.slice p D.n c, .slice q D.m d], .int .i64 k] w fun e w' => e = .returned (.bool true) ∧ Below w.heap.size w w' := by
  cases hf : (decide (40 < D.n) || decide (40 < D.m)) with
  | true => exact flow_big D p q c d k w hn hm hi hf
  | false =>
    have h : D.n ≤ 40 ∧ D.m ≤ 40 := by simpa using hf
    exact flow_small D p q c d k w h.1 h.2 hi
end Go.Proofs.Ytkdlppekjjbgoaa
