/- MouthsFrom returns true in every walk. -/
import Derived.Test.YthbicbmlbblflaaC25

import Derived.Test.YthbicbmlbblflaaC7

import Derived.Test.YthbicbmlbblflaaD0

set_option linter.unusedSimpArgs false

set_option linter.unusedVariables false

namespace Go.Proofs.Ythbicbmlbblflaa

open Go.RowKit

set_option maxRecDepth 100000 in
set_option maxHeartbeats 16000000 in
theorem from_out (D : Bx) (p q : Option Addr) (c d : Nat) (a1 a2 a3 a4 : Int) (w : World) (hn : D.n ≤ maxLen) (hm : D.m ≤ maxLen) (hf : (decide (40 < D.n) || decide (40 < D.m)) = true) (hi : BxIn w w.heap.size D p q) :
    Calls Try.prog 4 #[.agg #[.slice p D.n c, .slice q D.m d], .agg #[.int .i64 a1, .int .i64 a2, .int .i64 a3, .int .i64 a4]] w fun e w' => e = .returned (.bool true) ∧ Below w.heap.size w w' := by
  obtain ⟨w1, x1, w2, x2, hw1, hw2, hb, hz, hB, hA, hI⟩ := start_ba D p q c d a1 a2 a3 a4 w hi
  have HB := Lib.hid hb
  have HI_0 := Lib.hid hI
  have HBX_0 := Lib.hid hB
  have HAX_0 := Lib.hid hA
  clear hI hB hA hb hz hi
  have F0_0 : ∀ z : Ext w2, z.v.cell? ⟨w.heap.size, 0, none⟩ = some (.slice p D.n c) := fun z => (HBX_0.out z).c0
  have F1_0 : ∀ z : Ext w2, z.v.cell? ⟨w.heap.size, 1, none⟩ = some (.slice q D.m d) := fun z => (HBX_0.out z).c1
  have A0_0 : ∀ z : Ext w2, z.v.cell? ⟨x1.v.heap.size, 0, none⟩ = some (.int .i64 a1) := fun z => (HAX_0.out z).c0
  have A1_0 : ∀ z : Ext w2, z.v.cell? ⟨x1.v.heap.size, 1, none⟩ = some (.int .i64 a2) := fun z => (HAX_0.out z).c1
  have A2_0 : ∀ z : Ext w2, z.v.cell? ⟨x1.v.heap.size, 2, none⟩ = some (.int .i64 a3) := fun z => (HAX_0.out z).c2
  have A3_0 : ∀ z : Ext w2, z.v.cell? ⟨x1.v.heap.size, 3, none⟩ = some (.int .i64 a4) := fun z => (HAX_0.out z).c3
  have HF := Lib.hid (show ∀ V : World, Calls Try.prog 15 #[.agg #[.slice p D.n c, .slice q D.m d]] V fun e w' => e = .returned (.bool true) ∧ Below V.heap.size V w' from fun V => by
    have := far_any D p q c d V hn hm
    rw [hf] at this
    exact this)
  clear hf
  go_enter Try.func4, Try.ntmps4
  go_wp2_with fail
  refine (quiet_x (HF.out _)).mono ?_
  rintro e w' ⟨rfl, y, rfl⟩
  go_wp2_with fail
  refine (quiet_x (works_ex _)).mono ?_
  rintro e w' ⟨rfl, y2, rfl⟩
  go_wp2
  go_ret
  exact ⟨rfl, bT HB.out y2.b⟩
set_option maxRecDepth 100000 in
set_option maxHeartbeats 16000000 in
theorem from_in (D : Bx) (p q : Option Addr) (c d : Nat) (a1 a2 a3 a4 : Int) (w : World) (hn : D.n ≤ 40) (hm : D.m ≤ 40) (hi : BxIn w w.heap.size D p q) :
    Calls Try.prog 4 #[.agg #[.slice p D.n c, .slice q D.m d], .agg #[.int .i64 a1, .int .i64 a2, .int .i64 a3, .int .i64 a4]] w fun e w' => e = .returned (.bool true) ∧ Below w.heap.size w w' := by
  obtain ⟨w1, x1, w2, x2, hw1, hw2, hb, hz, hB, hA, hI⟩ := start_ba D p q c d a1 a2 a3 a4 w hi
  have HB := Lib.hid hb
  have HI_0 := Lib.hid hI
  have HBX_0 := Lib.hid hB
  have HAX_0 := Lib.hid hA
  clear hI hB hA hb hz hi
  have F0_0 : ∀ z : Ext w2, z.v.cell? ⟨w.heap.size, 0, none⟩ = some (.slice p D.n c) := fun z => (HBX_0.out z).c0
  have F1_0 : ∀ z : Ext w2, z.v.cell? ⟨w.heap.size, 1, none⟩ = some (.slice q D.m d) := fun z => (HBX_0.out z).c1
  have A0_0 : ∀ z : Ext w2, z.v.cell? ⟨x1.v.heap.size, 0, none⟩ = some (.int .i64 a1) := fun z => (HAX_0.out z).c0
  have A1_0 : ∀ z : Ext w2, z.v.cell? ⟨x1.v.heap.size, 1, none⟩ = some (.int .i64 a2) := fun z => (HAX_0.out z).c1
  have A2_0 : ∀ z : Ext w2, z.v.cell? ⟨x1.v.heap.size, 2, none⟩ = some (.int .i64 a3) := fun z => (HAX_0.out z).c2
  have A3_0 : ∀ z : Ext w2, z.v.cell? ⟨x1.v.heap.size, 3, none⟩ = some (.int .i64 a4) := fun z => (HAX_0.out z).c3
  have HF := Lib.hid (show ∀ V : World, Calls Try.prog 15 #[.agg #[.slice p D.n c, .slice q D.m d]] V fun e w' => e = .returned (.bool false) ∧ Below V.heap.size V w' from fun V => by
    have := far_any D p q c d V (by unfold maxLen; omega) (by unfold maxLen; omega)
    rw [show (decide (40 < D.n) || decide (40 < D.m)) = false by simp; omega] at this
    exact this)
  go_enter Try.func4, Try.ntmps4
  go_wp2_with fail
  refine (quiet_x (HF.out _)).mono ?_
  rintro e w' ⟨rfl, y, rfl⟩
  go_wp2_with fail
  refine (copy_any D p q c d _ hn hm (HI_0.out _)).mono ?_
  rintro e wc ⟨p', c', q', d', rfl, hcp⟩
  have hin := hcp.inn
  obtain ⟨w3, x3, hw3, hb3, hz3, G0, G1⟩ := box_bx wc p' q' D.n D.m c' d'
  have hB3 : ∀ y : Ext w3, BoxAt y.v wc.heap.size D p' q' c' d' := fun y => ⟨G0 y, G1 y⟩
  have HX3 := Lib.hid (bT (bT y.b hcp.below) hb3)
  have HO_1 : Hid (∀ z : Ext w3, BxIn z.v z.v.heap.size D p' q') := fun z => hin.bel (bT hb3 z.b)
  have HOX := Lib.hid hB3
  clear hcp hb3 hB3 hin hz3 G0 G1 hw1 hw2
  have HI_1 : Hid (∀ z : Ext w3, BxIn z.v z.v.heap.size D p q) := fun z => HI_0.out (z.up HX3.out)
  have HBX_1 : Hid (∀ z : Ext w3, BoxAt z.v w.heap.size D p q c d) := fun z => HBX_0.out (z.up HX3.out)
  have HAX_1 : Hid (∀ z : Ext w3, AskAt z.v x1.v.heap.size a1 a2 a3 a4) := fun z => HAX_0.out (z.up HX3.out)
  have F0_1 : ∀ z : Ext w3, z.v.cell? ⟨w.heap.size, 0, none⟩ = some (.slice p D.n c) := fun z => F0_0 (z.up HX3.out)
  have F1_1 : ∀ z : Ext w3, z.v.cell? ⟨w.heap.size, 1, none⟩ = some (.slice q D.m d) := fun z => F1_0 (z.up HX3.out)
  have A0_1 : ∀ z : Ext w3, z.v.cell? ⟨x1.v.heap.size, 0, none⟩ = some (.int .i64 a1) := fun z => A0_0 (z.up HX3.out)
  have A1_1 : ∀ z : Ext w3, z.v.cell? ⟨x1.v.heap.size, 1, none⟩ = some (.int .i64 a2) := fun z => A1_0 (z.up HX3.out)
  have A2_1 : ∀ z : Ext w3, z.v.cell? ⟨x1.v.heap.size, 2, none⟩ = some (.int .i64 a3) := fun z => A2_0 (z.up HX3.out)
  have A3_1 : ∀ z : Ext w3, z.v.cell? ⟨x1.v.heap.size, 3, none⟩ = some (.int .i64 a4) := fun z => A3_0 (z.up HX3.out)
  clear HI_0 HBX_0 HAX_0 F0_0 F1_0 A0_0 A1_0 A2_0 A3_0
  have O0_1 : ∀ z : Ext w3, z.v.cell? ⟨wc.heap.size, 0, none⟩ = some (.slice p' D.n c') := fun z => (HOX.out z).c0
  have O1_1 : ∀ z : Ext w3, z.v.cell? ⟨wc.heap.size, 1, none⟩ = some (.slice q' D.m d') := fun z => (HOX.out z).c1
  have HW_1 : Hid (∀ z : Ext w3, Below w.heap.size w z.v) := fun z => bT HB.out (bT HX3.out z.b)
  go_wp2_with fail
  refine (quiet_x (fromP_any D p' q' c' d' a1 a4 _ hn hm (HO_1.out _))).mono ?_
  rintro e w' ⟨rfl, y3, rfl⟩
  go_wp2_with fail
  refine (quiet_x (fromR_any D p q c d a1 a4 _ hn hm (HI_1.out _))).mono ?_
  rintro e w' ⟨rfl, y4, rfl⟩
  go_wp2_with fail
  refine (betweenP_any D p' q' c' d' a2 a3 _ hn hm (HO_1.out _)).mono ?_
  rintro e wa ⟨ga, gac, rfl, hbga, hpga⟩
  have HXwa := Lib.hid (bT y4.b hbga); have HPga0 := Lib.hid hpga
  obtain ⟨zwa, hzwa⟩ := rebase wa
  clear hbga hpga
  have HI_2 : Hid (∀ z : Ext wa, BxIn z.v z.v.heap.size D p q) := fun z => HI_1.out (z.up HXwa.out)
  have HBX_2 : Hid (∀ z : Ext wa, BoxAt z.v w.heap.size D p q c d) := fun z => HBX_1.out (z.up HXwa.out)
  have HAX_2 : Hid (∀ z : Ext wa, AskAt z.v x1.v.heap.size a1 a2 a3 a4) := fun z => HAX_1.out (z.up HXwa.out)
  have F0_2 : ∀ z : Ext wa, z.v.cell? ⟨w.heap.size, 0, none⟩ = some (.slice p D.n c) := fun z => F0_1 (z.up HXwa.out)
  have F1_2 : ∀ z : Ext wa, z.v.cell? ⟨w.heap.size, 1, none⟩ = some (.slice q D.m d) := fun z => F1_1 (z.up HXwa.out)
  have A0_2 : ∀ z : Ext wa, z.v.cell? ⟨x1.v.heap.size, 0, none⟩ = some (.int .i64 a1) := fun z => A0_1 (z.up HXwa.out)
  have A1_2 : ∀ z : Ext wa, z.v.cell? ⟨x1.v.heap.size, 1, none⟩ = some (.int .i64 a2) := fun z => A1_1 (z.up HXwa.out)
  have A2_2 : ∀ z : Ext wa, z.v.cell? ⟨x1.v.heap.size, 2, none⟩ = some (.int .i64 a3) := fun z => A2_1 (z.up HXwa.out)
  have A3_2 : ∀ z : Ext wa, z.v.cell? ⟨x1.v.heap.size, 3, none⟩ = some (.int .i64 a4) := fun z => A3_1 (z.up HXwa.out)
  have HO_2 : Hid (∀ z : Ext wa, BxIn z.v z.v.heap.size D p' q') := fun z => HO_1.out (z.up HXwa.out)
  have O0_2 : ∀ z : Ext wa, z.v.cell? ⟨wc.heap.size, 0, none⟩ = some (.slice p' D.n c') := fun z => O0_1 (z.up HXwa.out)
  have O1_2 : ∀ z : Ext wa, z.v.cell? ⟨wc.heap.size, 1, none⟩ = some (.slice q' D.m d') := fun z => O1_1 (z.up HXwa.out)
  have HW_2 : Hid (∀ z : Ext wa, Below w.heap.size w z.v) := fun z => HW_1.out (z.up HXwa.out)
  clear HI_1 HBX_1 HAX_1 F0_1 F1_1 A0_1 A1_1 A2_1 A3_1 HO_1 O0_1 O1_1 HW_1
  have Pga_2 : Hid (∀ z : Ext wa, PairIn z.v z.v.heap.size (btN D a2 a3) (gv D a2.toNat) (gv D a3.toNat) ga) := fun z => HPga0.out.bel z.b
  rw [hzwa]; clear hzwa
  go_wp2_with fail
  refine (betweenR_any D p q c d a2 a3 _ hn hm (HI_2.out _)).mono ?_
  rintro e wb ⟨gb, gbc, rfl, hbgb, hpgb⟩
  have HXwb := Lib.hid (bT zwa.b hbgb); have HPgb0 := Lib.hid hpgb
  obtain ⟨zwb, hzwb⟩ := rebase wb
  clear hbgb hpgb
  have HI_3 : Hid (∀ z : Ext wb, BxIn z.v z.v.heap.size D p q) := fun z => HI_2.out (z.up HXwb.out)
  have HBX_3 : Hid (∀ z : Ext wb, BoxAt z.v w.heap.size D p q c d) := fun z => HBX_2.out (z.up HXwb.out)
  have HAX_3 : Hid (∀ z : Ext wb, AskAt z.v x1.v.heap.size a1 a2 a3 a4) := fun z => HAX_2.out (z.up HXwb.out)
  have F0_3 : ∀ z : Ext wb, z.v.cell? ⟨w.heap.size, 0, none⟩ = some (.slice p D.n c) := fun z => F0_2 (z.up HXwb.out)
  have F1_3 : ∀ z : Ext wb, z.v.cell? ⟨w.heap.size, 1, none⟩ = some (.slice q D.m d) := fun z => F1_2 (z.up HXwb.out)
  have A0_3 : ∀ z : Ext wb, z.v.cell? ⟨x1.v.heap.size, 0, none⟩ = some (.int .i64 a1) := fun z => A0_2 (z.up HXwb.out)
  have A1_3 : ∀ z : Ext wb, z.v.cell? ⟨x1.v.heap.size, 1, none⟩ = some (.int .i64 a2) := fun z => A1_2 (z.up HXwb.out)
  have A2_3 : ∀ z : Ext wb, z.v.cell? ⟨x1.v.heap.size, 2, none⟩ = some (.int .i64 a3) := fun z => A2_2 (z.up HXwb.out)
  have A3_3 : ∀ z : Ext wb, z.v.cell? ⟨x1.v.heap.size, 3, none⟩ = some (.int .i64 a4) := fun z => A3_2 (z.up HXwb.out)
  have HO_3 : Hid (∀ z : Ext wb, BxIn z.v z.v.heap.size D p' q') := fun z => HO_2.out (z.up HXwb.out)
  have O0_3 : ∀ z : Ext wb, z.v.cell? ⟨wc.heap.size, 0, none⟩ = some (.slice p' D.n c') := fun z => O0_2 (z.up HXwb.out)
  have O1_3 : ∀ z : Ext wb, z.v.cell? ⟨wc.heap.size, 1, none⟩ = some (.slice q' D.m d') := fun z => O1_2 (z.up HXwb.out)
  have HW_3 : Hid (∀ z : Ext wb, Below w.heap.size w z.v) := fun z => HW_2.out (z.up HXwb.out)
  have Pga_3 : Hid (∀ z : Ext wb, PairIn z.v z.v.heap.size (btN D a2 a3) (gv D a2.toNat) (gv D a3.toNat) ga) := fun z => Pga_2.out (z.up HXwb.out)
  clear HI_2 HBX_2 HAX_2 F0_2 F1_2 A0_2 A1_2 A2_2 A3_2 HO_2 O0_2 O1_2 HW_2 Pga_2
  have Pgb_3 : Hid (∀ z : Ext wb, PairIn z.v z.v.heap.size (btN D a2 a3) (gv D a2.toNat) (gv D a3.toNat) gb) := fun z => HPgb0.out.bel z.b
  rw [hzwb]; clear hzwb
  go_wp2_with fail
  refine (quiet_x (sameSpans_any (btN D a2 a3) (gv D a2.toNat) (gv D a3.toNat) ga gb gac gbc _ (by unfold btN; split <;> omega) (Pga_3.out _) (Pgb_3.out _))).mono ?_
  rintro e w' ⟨rfl, y7, rfl⟩
  go_wp2_with fail
  refine (quiet_x (needP_any D p' q' c' d' a1 a2 a4 _ hn hm (HO_3.out _))).mono ?_
  rintro e w' ⟨rfl, y5, rfl⟩
  go_wp2_with fail
  refine (quiet_x (needR_any D p q c d a1 a2 a4 _ hn hm (HI_3.out _))).mono ?_
  rintro e w' ⟨rfl, y6, rfl⟩
  go_wp2_with fail
  refine (quiet_x (same_any D p' q' c' d' p q c d _ hn hm (HO_3.out _) (HI_3.out _))).mono ?_
  rintro e w' ⟨rfl, y9, rfl⟩
  go_wp2_with fail
  refine (quiet_x (works_ex _)).mono ?_
  rintro e w' ⟨rfl, y10, rfl⟩
  go_wp2
  go_ret
  exact ⟨rfl, HW_3.out y10⟩
theorem from_law (D : Bx) (p q : Option Addr) (c d : Nat) (a1 a2 a3 a4 : Int) (w : World) (hn : D.n ≤ maxLen) (hm : D.m ≤ maxLen) (hi : BxIn w w.heap.size D p q) :
    Calls Try.prog 4 #[.agg #[.slice p D.n c, .slice q D.m d], .agg #[.int .i64 a1, .int .i64 a2, .int .i64 a3, .int .i64 a4]] w fun e w' => e = .returned (.bool true) ∧ Below w.heap.size w w' := by
  cases hf : (decide (40 < D.n) || decide (40 < D.m)) with
  | true => exact from_out D p q c d a1 a2 a3 a4 w hn hm hf hi
  | false => exact from_in D p q c d a1 a2 a3 a4 w (by simp at hf; omega) (by simp at hf; omega) hi
end Go.Proofs.Ythbicbmlbblflaa
