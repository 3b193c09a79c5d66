/- MouthsExact returns true in every walk. -/
import Derived.Test.YthbicbmlbblflaaC17

import Derived.Test.YthbicbmlbblflaaC18

import Derived.Test.YthbicbmlbblflaaC7

import Derived.Test.YthbicbmlbblflaaD2

set_option linter.unusedSimpArgs false

set_option linter.unusedVariables false

namespace Go.Proofs.Ythbicbmlbblflaa

open Go.RowKit

set_option maxRecDepth 100000 in
set_option maxHeartbeats 16000000 in
theorem exact_out (D : Bx) (p q : Option Addr) (c d : Nat) (fl : Int) (w : World) (hn : D.n ≤ maxLen) (hm : D.m ≤ maxLen) (hf : (decide (40 < D.n) || decide (40 < D.m)) = true) (hi : BxIn w w.heap.size D p q) :
    Calls Try.prog 5 #[.agg #[.slice p D.n c, .slice q D.m d], .int .i64 fl] w fun e w' => e = .returned (.bool true) ∧ Below w.heap.size w w' := by
  obtain ⟨w2, x2, hw1, hb, hB, hI⟩ := start_b D p q c d w hi
  have HB := Lib.hid hb
  have HI_0 := Lib.hid hI
  have HBX_0 := Lib.hid hB
  clear hI hB hb hi
  have F0_0 : ∀ z : Ext w2, z.v.cell? ⟨w.heap.size, 0, none⟩ = some (.slice p D.n c) := fun z => (HBX_0.out z).c0
  have F1_0 : ∀ z : Ext w2, z.v.cell? ⟨w.heap.size, 1, none⟩ = some (.slice q D.m d) := fun z => (HBX_0.out z).c1
  have HF := Lib.hid (show ∀ V : World, Calls Try.prog 15 #[.agg #[.slice p D.n c, .slice q D.m d]] V fun e w' => e = .returned (.bool true) ∧ Below V.heap.size V w' from fun V => by
    have := far_any D p q c d V hn hm
    rw [hf] at this
    exact this)
  clear hf
  go_enter Try.func5, Try.ntmps5
  go_wp2_with fail
  refine (quiet_x (HF.out _)).mono ?_
  rintro e w' ⟨rfl, y, rfl⟩
  go_wp2_with fail
  refine (quiet_x (works_ex _)).mono ?_
  rintro e w' ⟨rfl, y2, rfl⟩
  go_wp2
  go_ret
  exact ⟨rfl, bT HB.out y2.b⟩
set_option maxRecDepth 100000 in
set_option maxHeartbeats 16000000 in
theorem exact_in (D : Bx) (p q : Option Addr) (c d : Nat) (fl : Int) (w : World) (hn : D.n ≤ 40) (hm : D.m ≤ 40) (hi : BxIn w w.heap.size D p q) :
    Calls Try.prog 5 #[.agg #[.slice p D.n c, .slice q D.m d], .int .i64 fl] w fun e w' => e = .returned (.bool true) ∧ Below w.heap.size w w' := by
  obtain ⟨w2, x2, hw1, hb, hB, hI⟩ := start_b D p q c d w hi
  have HB := Lib.hid hb
  have HI_0 := Lib.hid hI
  have HBX_0 := Lib.hid hB
  clear hI hB hb hi
  have F0_0 : ∀ z : Ext w2, z.v.cell? ⟨w.heap.size, 0, none⟩ = some (.slice p D.n c) := fun z => (HBX_0.out z).c0
  have F1_0 : ∀ z : Ext w2, z.v.cell? ⟨w.heap.size, 1, none⟩ = some (.slice q D.m d) := fun z => (HBX_0.out z).c1
  have HF := Lib.hid (show ∀ V : World, Calls Try.prog 15 #[.agg #[.slice p D.n c, .slice q D.m d]] V fun e w' => e = .returned (.bool false) ∧ Below V.heap.size V w' from fun V => by
    have := far_any D p q c d V (by unfold maxLen; omega) (by unfold maxLen; omega)
    rw [show (decide (40 < D.n) || decide (40 < D.m)) = false by simp; omega] at this
    exact this)
  go_enter Try.func5, Try.ntmps5
  go_wp2_with fail
  refine (quiet_x (HF.out _)).mono ?_
  rintro e w' ⟨rfl, y, rfl⟩
  go_wp2_with fail
  refine (copy_any D p q c d _ hn hm (HI_0.out _)).mono ?_
  rintro e wc ⟨p', c', q', d', rfl, hcp⟩
  have hin := hcp.inn
  obtain ⟨w3, x3, hw3, hb3, hz3, G0, G1⟩ := box_bx wc p' q' D.n D.m c' d'
  have hB3 : ∀ y : Ext w3, BoxAt y.v wc.heap.size D p' q' c' d' := fun y => ⟨G0 y, G1 y⟩
  have HX3 := Lib.hid (bT (bT y.b hcp.below) hb3)
  have HO_1 : Hid (∀ z : Ext w3, BxIn z.v z.v.heap.size D p' q') := fun z => hin.bel (bT hb3 z.b)
  have HOX := Lib.hid hB3
  clear hcp hb3 hB3 hin hz3 G0 G1 hw1
  have HI_1 : Hid (∀ z : Ext w3, BxIn z.v z.v.heap.size D p q) := fun z => HI_0.out (z.up HX3.out)
  have HBX_1 : Hid (∀ z : Ext w3, BoxAt z.v w.heap.size D p q c d) := fun z => HBX_0.out (z.up HX3.out)
  have F0_1 : ∀ z : Ext w3, z.v.cell? ⟨w.heap.size, 0, none⟩ = some (.slice p D.n c) := fun z => F0_0 (z.up HX3.out)
  have F1_1 : ∀ z : Ext w3, z.v.cell? ⟨w.heap.size, 1, none⟩ = some (.slice q D.m d) := fun z => F1_0 (z.up HX3.out)
  clear HI_0 HBX_0 F0_0 F1_0
  have O0_1 : ∀ z : Ext w3, z.v.cell? ⟨wc.heap.size, 0, none⟩ = some (.slice p' D.n c') := fun z => (HOX.out z).c0
  have O1_1 : ∀ z : Ext w3, z.v.cell? ⟨wc.heap.size, 1, none⟩ = some (.slice q' D.m d') := fun z => (HOX.out z).c1
  have HW_1 : Hid (∀ z : Ext w3, Below w.heap.size w z.v) := fun z => bT HB.out (bT HX3.out z.b)
  go_wp2_with fail
  refine (exactP_any D p' q' c' d' fl _ hn hm (HO_1.out _)).mono ?_
  rintro e wa ⟨ga, gac, rfl, hbga, hpga⟩
  have HXwa := Lib.hid (bT x3.b hbga); have HPga0 := Lib.hid hpga
  obtain ⟨zwa, hzwa⟩ := rebase wa
  clear hbga hpga
  have HI_2 : Hid (∀ z : Ext wa, BxIn z.v z.v.heap.size D p q) := fun z => HI_1.out (z.up HXwa.out)
  have HBX_2 : Hid (∀ z : Ext wa, BoxAt z.v w.heap.size D p q c d) := fun z => HBX_1.out (z.up HXwa.out)
  have F0_2 : ∀ z : Ext wa, z.v.cell? ⟨w.heap.size, 0, none⟩ = some (.slice p D.n c) := fun z => F0_1 (z.up HXwa.out)
  have F1_2 : ∀ z : Ext wa, z.v.cell? ⟨w.heap.size, 1, none⟩ = some (.slice q D.m d) := fun z => F1_1 (z.up HXwa.out)
  have HO_2 : Hid (∀ z : Ext wa, BxIn z.v z.v.heap.size D p' q') := fun z => HO_1.out (z.up HXwa.out)
  have O0_2 : ∀ z : Ext wa, z.v.cell? ⟨wc.heap.size, 0, none⟩ = some (.slice p' D.n c') := fun z => O0_1 (z.up HXwa.out)
  have O1_2 : ∀ z : Ext wa, z.v.cell? ⟨wc.heap.size, 1, none⟩ = some (.slice q' D.m d') := fun z => O1_1 (z.up HXwa.out)
  have HW_2 : Hid (∀ z : Ext wa, Below w.heap.size w z.v) := fun z => HW_1.out (z.up HXwa.out)
  clear HI_1 HBX_1 F0_1 F1_1 HO_1 O0_1 O1_1 HW_1
  have Pga_2 : Hid (∀ z : Ext wa, PairIn z.v z.v.heap.size (gN D fl) (exN D fl) (exD D fl) ga) := fun z => HPga0.out.bel z.b
  rw [hzwa]; clear hzwa
  go_wp2_with fail
  refine (exactR_any D p q c d fl _ hn hm (HI_2.out _)).mono ?_
  rintro e wb ⟨gb, gbc, rfl, hbgb, hpgb⟩
  have HXwb := Lib.hid (bT zwa.b hbgb); have HPgb0 := Lib.hid hpgb
  obtain ⟨zwb, hzwb⟩ := rebase wb
  clear hbgb hpgb
  have HI_3 : Hid (∀ z : Ext wb, BxIn z.v z.v.heap.size D p q) := fun z => HI_2.out (z.up HXwb.out)
  have HBX_3 : Hid (∀ z : Ext wb, BoxAt z.v w.heap.size D p q c d) := fun z => HBX_2.out (z.up HXwb.out)
  have F0_3 : ∀ z : Ext wb, z.v.cell? ⟨w.heap.size, 0, none⟩ = some (.slice p D.n c) := fun z => F0_2 (z.up HXwb.out)
  have F1_3 : ∀ z : Ext wb, z.v.cell? ⟨w.heap.size, 1, none⟩ = some (.slice q D.m d) := fun z => F1_2 (z.up HXwb.out)
  have HO_3 : Hid (∀ z : Ext wb, BxIn z.v z.v.heap.size D p' q') := fun z => HO_2.out (z.up HXwb.out)
  have O0_3 : ∀ z : Ext wb, z.v.cell? ⟨wc.heap.size, 0, none⟩ = some (.slice p' D.n c') := fun z => O0_2 (z.up HXwb.out)
  have O1_3 : ∀ z : Ext wb, z.v.cell? ⟨wc.heap.size, 1, none⟩ = some (.slice q' D.m d') := fun z => O1_2 (z.up HXwb.out)
  have HW_3 : Hid (∀ z : Ext wb, Below w.heap.size w z.v) := fun z => HW_2.out (z.up HXwb.out)
  have Pga_3 : Hid (∀ z : Ext wb, PairIn z.v z.v.heap.size (gN D fl) (exN D fl) (exD D fl) ga) := fun z => Pga_2.out (z.up HXwb.out)
  clear HI_2 HBX_2 F0_2 F1_2 HO_2 O0_2 O1_2 HW_2 Pga_2
  have Pgb_3 : Hid (∀ z : Ext wb, PairIn z.v z.v.heap.size (gN D fl) (exN D fl) (exD D fl) gb) := fun z => HPgb0.out.bel z.b
  rw [hzwb]; clear hzwb
  go_wp2_with fail
  refine (remP_any D p' q' c' d' fl _ hn hm (HO_3.out _)).mono ?_
  rintro e wcc ⟨gc, gcc, rfl, hcgc⟩
  have HXwcc := Lib.hid (bT zwb.b hcgc.below); have HNgc0 := Lib.hid hcgc.num
  obtain ⟨zwcc, hzwcc⟩ := rebase wcc
  clear hcgc
  have HI_4 : Hid (∀ z : Ext wcc, BxIn z.v z.v.heap.size D p q) := fun z => HI_3.out (z.up HXwcc.out)
  have HBX_4 : Hid (∀ z : Ext wcc, BoxAt z.v w.heap.size D p q c d) := fun z => HBX_3.out (z.up HXwcc.out)
  have F0_4 : ∀ z : Ext wcc, z.v.cell? ⟨w.heap.size, 0, none⟩ = some (.slice p D.n c) := fun z => F0_3 (z.up HXwcc.out)
  have F1_4 : ∀ z : Ext wcc, z.v.cell? ⟨w.heap.size, 1, none⟩ = some (.slice q D.m d) := fun z => F1_3 (z.up HXwcc.out)
  have HO_4 : Hid (∀ z : Ext wcc, BxIn z.v z.v.heap.size D p' q') := fun z => HO_3.out (z.up HXwcc.out)
  have O0_4 : ∀ z : Ext wcc, z.v.cell? ⟨wc.heap.size, 0, none⟩ = some (.slice p' D.n c') := fun z => O0_3 (z.up HXwcc.out)
  have O1_4 : ∀ z : Ext wcc, z.v.cell? ⟨wc.heap.size, 1, none⟩ = some (.slice q' D.m d') := fun z => O1_3 (z.up HXwcc.out)
  have HW_4 : Hid (∀ z : Ext wcc, Below w.heap.size w z.v) := fun z => HW_3.out (z.up HXwcc.out)
  have Pga_4 : Hid (∀ z : Ext wcc, PairIn z.v z.v.heap.size (gN D fl) (exN D fl) (exD D fl) ga) := fun z => Pga_3.out (z.up HXwcc.out)
  have Pgb_4 : Hid (∀ z : Ext wcc, PairIn z.v z.v.heap.size (gN D fl) (exN D fl) (exD D fl) gb) := fun z => Pgb_3.out (z.up HXwcc.out)
  clear HI_3 HBX_3 F0_3 F1_3 HO_3 O0_3 O1_3 HW_3 Pga_3 Pgb_3
  have Ngc_4 : Hid (∀ z : Ext wcc, NumIn z.v z.v.heap.size (gN D fl) (RM D fl) gc) := fun z => HNgc0.out.bel z.b
  rw [hzwcc]; clear hzwcc
  go_wp2_with fail
  refine (remR_any D p q c d fl _ hn hm (HI_4.out _)).mono ?_
  rintro e wd ⟨gd, gdc, rfl, hcgd⟩
  have HXwd := Lib.hid (bT zwcc.b hcgd.below); have HNgd0 := Lib.hid hcgd.num
  obtain ⟨zwd, hzwd⟩ := rebase wd
  clear hcgd
  have HI_5 : Hid (∀ z : Ext wd, BxIn z.v z.v.heap.size D p q) := fun z => HI_4.out (z.up HXwd.out)
  have HBX_5 : Hid (∀ z : Ext wd, BoxAt z.v w.heap.size D p q c d) := fun z => HBX_4.out (z.up HXwd.out)
  have F0_5 : ∀ z : Ext wd, z.v.cell? ⟨w.heap.size, 0, none⟩ = some (.slice p D.n c) := fun z => F0_4 (z.up HXwd.out)
  have F1_5 : ∀ z : Ext wd, z.v.cell? ⟨w.heap.size, 1, none⟩ = some (.slice q D.m d) := fun z => F1_4 (z.up HXwd.out)
  have HO_5 : Hid (∀ z : Ext wd, BxIn z.v z.v.heap.size D p' q') := fun z => HO_4.out (z.up HXwd.out)
  have O0_5 : ∀ z : Ext wd, z.v.cell? ⟨wc.heap.size, 0, none⟩ = some (.slice p' D.n c') := fun z => O0_4 (z.up HXwd.out)
  have O1_5 : ∀ z : Ext wd, z.v.cell? ⟨wc.heap.size, 1, none⟩ = some (.slice q' D.m d') := fun z => O1_4 (z.up HXwd.out)
  have HW_5 : Hid (∀ z : Ext wd, Below w.heap.size w z.v) := fun z => HW_4.out (z.up HXwd.out)
  have Pga_5 : Hid (∀ z : Ext wd, PairIn z.v z.v.heap.size (gN D fl) (exN D fl) (exD D fl) ga) := fun z => Pga_4.out (z.up HXwd.out)
  have Pgb_5 : Hid (∀ z : Ext wd, PairIn z.v z.v.heap.size (gN D fl) (exN D fl) (exD D fl) gb) := fun z => Pgb_4.out (z.up HXwd.out)
  have Ngc_5 : Hid (∀ z : Ext wd, NumIn z.v z.v.heap.size (gN D fl) (RM D fl) gc) := fun z => Ngc_4.out (z.up HXwd.out)
  clear HI_4 HBX_4 F0_4 F1_4 HO_4 O0_4 O1_4 HW_4 Pga_4 Pgb_4 Ngc_4
  have Ngd_5 : Hid (∀ z : Ext wd, NumIn z.v z.v.heap.size (gN D fl) (RM D fl) gd) := fun z => HNgd0.out.bel z.b
  rw [hzwd]; clear hzwd
  go_wp2_with fail
  refine (quiet_x (servedP_any D p' q' c' d' fl _ hn hm (HO_5.out _))).mono ?_
  rintro e w' ⟨rfl, y5, rfl⟩
  go_wp2_with fail
  refine (quiet_x (servedR_any D p q c d fl _ hn hm (HI_5.out _))).mono ?_
  rintro e w' ⟨rfl, y6, rfl⟩
  go_wp2_with fail
  refine (quiet_x (sameRatios_any (gN D fl) (exN D fl) (exD D fl) ga gb gac gbc _ (by unfold gN; split <;> omega) (Pga_5.out _) (Pgb_5.out _))).mono ?_
  rintro e w' ⟨rfl, y7, rfl⟩
  go_wp2_with fail
  refine (quiet_x (sameInts_any (gN D fl) (RM D fl) gc gd gcc gdc _ (by unfold gN; split <;> omega) (Ngc_5.out _) (Ngd_5.out _))).mono ?_
  rintro e w' ⟨rfl, y8, rfl⟩
  go_wp2_with fail
  refine (quiet_x (same_any D p' q' c' d' p q c d _ hn hm (HO_5.out _) (HI_5.out _))).mono ?_
  rintro e w' ⟨rfl, y9, rfl⟩
  go_wp2_with fail
  refine (quiet_x (works_ex _)).mono ?_
  rintro e w' ⟨rfl, y10, rfl⟩
  go_wp2
  go_ret
  exact ⟨rfl, HW_5.out y10⟩
theorem exact_law (D : Bx) (p q : Option Addr) (c d : Nat) (fl : Int) (w : World) (hn : D.n ≤ maxLen) (hm : D.m ≤ maxLen) (hi : BxIn w w.heap.size D p q) :
    Calls Try.prog 5 #[.agg #[.slice p D.n c, .slice q D.m d], .int .i64 fl] w fun e w' => e = .returned (.bool true) ∧ Below w.heap.size w w' := by
  cases hf : (decide (40 < D.n) || decide (40 < D.m)) with
  | true => exact exact_out D p q c d fl w hn hm hf hi
  | false => exact exact_in D p q c d fl w (by simp at hf; omega) (by simp at hf; omega) hi
end Go.Proofs.Ythbicbmlbblflaa
