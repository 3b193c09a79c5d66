/- MouthsParadox returns true in every walk. -/
import Derived.Test.YthbicbmlbblflaaC16

import Derived.Test.YthbicbmlbblflaaC7

import Derived.Test.YthbicbmlbblflaaD2

set_option linter.unusedSimpArgs false

set_option linter.unusedVariables false

namespace Go.Proofs.Ythbicbmlbblflaa

open Go.RowKit

set_option maxRecDepth 100000 in
set_option maxHeartbeats 16000000 in
theorem paradox_out (D : Bx) (p q : Option Addr) (c d : Nat)  (w : World) (hn : D.n ≤ maxLen) (hm : D.m ≤ maxLen) (hf : (decide (40 < D.n) || decide (40 < D.m)) = true) (hi : BxIn w w.heap.size D p q) :
    Calls Try.prog 6 #[.agg #[.slice p D.n c, .slice q D.m d]] w fun e w' => e = .returned (.bool true) ∧ Below w.heap.size w w' := by
  obtain ⟨w2, x2, hw1, hb, hB, hI⟩ := start_b D p q c d w hi
  have HB := Lib.hid hb
  have HI_0 := Lib.hid hI
  have HBX_0 := Lib.hid hB
  clear hI hB hb hi
  have F0_0 : ∀ z : Ext w2, z.v.cell? ⟨w.heap.size, 0, none⟩ = some (.slice p D.n c) := fun z => (HBX_0.out z).c0
  have F1_0 : ∀ z : Ext w2, z.v.cell? ⟨w.heap.size, 1, none⟩ = some (.slice q D.m d) := fun z => (HBX_0.out z).c1
  have HF := Lib.hid (show ∀ V : World, Calls Try.prog 15 #[.agg #[.slice p D.n c, .slice q D.m d]] V fun e w' => e = .returned (.bool true) ∧ Below V.heap.size V w' from fun V => by
    have := far_any D p q c d V hn hm
    rw [hf] at this
    exact this)
  clear hf
  go_enter Try.func6, Try.ntmps6
  go_wp2_with fail
  refine (quiet_x (HF.out _)).mono ?_
  rintro e w' ⟨rfl, y, rfl⟩
  go_wp2_with fail
  refine (quiet_x (works_ex _)).mono ?_
  rintro e w' ⟨rfl, y2, rfl⟩
  go_wp2
  go_ret
  exact ⟨rfl, bT HB.out y2.b⟩
set_option maxRecDepth 100000 in
set_option maxHeartbeats 16000000 in
theorem paradox_in (D : Bx) (p q : Option Addr) (c d : Nat)  (w : World) (hn : D.n ≤ 40) (hm : D.m ≤ 40) (hi : BxIn w w.heap.size D p q) :
    Calls Try.prog 6 #[.agg #[.slice p D.n c, .slice q D.m d]] w fun e w' => e = .returned (.bool true) ∧ Below w.heap.size w w' := by
  obtain ⟨w2, x2, hw1, hb, hB, hI⟩ := start_b D p q c d w hi
  have HB := Lib.hid hb
  have HI_0 := Lib.hid hI
  have HBX_0 := Lib.hid hB
  clear hI hB hb hi
  have F0_0 : ∀ z : Ext w2, z.v.cell? ⟨w.heap.size, 0, none⟩ = some (.slice p D.n c) := fun z => (HBX_0.out z).c0
  have F1_0 : ∀ z : Ext w2, z.v.cell? ⟨w.heap.size, 1, none⟩ = some (.slice q D.m d) := fun z => (HBX_0.out z).c1
  have HF := Lib.hid (show ∀ V : World, Calls Try.prog 15 #[.agg #[.slice p D.n c, .slice q D.m d]] V fun e w' => e = .returned (.bool false) ∧ Below V.heap.size V w' from fun V => by
    have := far_any D p q c d V (by unfold maxLen; omega) (by unfold maxLen; omega)
    rw [show (decide (40 < D.n) || decide (40 < D.m)) = false by simp; omega] at this
    exact this)
  go_enter Try.func6, Try.ntmps6
  go_wp2_with fail
  refine (quiet_x (HF.out _)).mono ?_
  rintro e w' ⟨rfl, y, rfl⟩
  go_wp2_with fail
  refine (copy_any D p q c d _ hn hm (HI_0.out _)).mono ?_
  rintro e wc ⟨p', c', q', d', rfl, hcp⟩
  have hin := hcp.inn
  obtain ⟨w3, x3, hw3, hb3, hz3, G0, G1⟩ := box_bx wc p' q' D.n D.m c' d'
  have hB3 : ∀ y : Ext w3, BoxAt y.v wc.heap.size D p' q' c' d' := fun y => ⟨G0 y, G1 y⟩
  have HX3 := Lib.hid (bT (bT y.b hcp.below) hb3)
  have HO_1 : Hid (∀ z : Ext w3, BxIn z.v z.v.heap.size D p' q') := fun z => hin.bel (bT hb3 z.b)
  have HOX := Lib.hid hB3
  clear hcp hb3 hB3 hin hz3 G0 G1 hw1
  have HI_1 : Hid (∀ z : Ext w3, BxIn z.v z.v.heap.size D p q) := fun z => HI_0.out (z.up HX3.out)
  have HBX_1 : Hid (∀ z : Ext w3, BoxAt z.v w.heap.size D p q c d) := fun z => HBX_0.out (z.up HX3.out)
  have F0_1 : ∀ z : Ext w3, z.v.cell? ⟨w.heap.size, 0, none⟩ = some (.slice p D.n c) := fun z => F0_0 (z.up HX3.out)
  have F1_1 : ∀ z : Ext w3, z.v.cell? ⟨w.heap.size, 1, none⟩ = some (.slice q D.m d) := fun z => F1_0 (z.up HX3.out)
  clear HI_0 HBX_0 F0_0 F1_0
  have O0_1 : ∀ z : Ext w3, z.v.cell? ⟨wc.heap.size, 0, none⟩ = some (.slice p' D.n c') := fun z => (HOX.out z).c0
  have O1_1 : ∀ z : Ext w3, z.v.cell? ⟨wc.heap.size, 1, none⟩ = some (.slice q' D.m d') := fun z => (HOX.out z).c1
  have HW_1 : Hid (∀ z : Ext w3, Below w.heap.size w z.v) := fun z => bT HB.out (bT HX3.out z.b)
  go_wp2_with fail
  refine (quiet_x (paradoxP_any D p' q' c' d' _ hn hm (HO_1.out _))).mono ?_
  rintro e w' ⟨rfl, y3, rfl⟩
  go_wp2_with fail
  refine (quiet_x (paradoxR_any D p q c d _ hn hm (HI_1.out _))).mono ?_
  rintro e w' ⟨rfl, y4, rfl⟩
  go_wp2_with fail
  refine (quiet_x (differP_any D p' q' c' d' _ hn hm (HO_1.out _))).mono ?_
  rintro e w' ⟨rfl, y5, rfl⟩
  go_wp2_with fail
  refine (quiet_x (differR_any D p q c d _ hn hm (HI_1.out _))).mono ?_
  rintro e w' ⟨rfl, y6, rfl⟩
  go_wp2_with fail
  refine (quiet_x (same_any D p' q' c' d' p q c d _ hn hm (HO_1.out _) (HI_1.out _))).mono ?_
  rintro e w' ⟨rfl, y8, rfl⟩
  go_wp2_with fail
  refine (quiet_x (works_ex _)).mono ?_
  rintro e w' ⟨rfl, y9, rfl⟩
  go_wp2
  go_ret
  exact ⟨rfl, HW_1.out y9⟩
theorem paradox_law (D : Bx) (p q : Option Addr) (c d : Nat)  (w : World) (hn : D.n ≤ maxLen) (hm : D.m ≤ maxLen) (hi : BxIn w w.heap.size D p q) :
    Calls Try.prog 6 #[.agg #[.slice p D.n c, .slice q D.m d]] w fun e w' => e = .returned (.bool true) ∧ Below w.heap.size w w' := by
  cases hf : (decide (40 < D.n) || decide (40 < D.m)) with
  | true => exact paradox_out D p q c d  w hn hm hf hi
  | false => exact paradox_in D p q c d  w (by simp at hf; omega) (by simp at hf; omega) hi
end Go.Proofs.Ythbicbmlbblflaa
