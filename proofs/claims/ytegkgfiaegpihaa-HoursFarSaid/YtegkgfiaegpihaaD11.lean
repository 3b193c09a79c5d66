/- HoursFar returns true in every walk. -/
import Derived.Test.YtegkgfiaegpihaaF21

import Derived.Test.YtegkgfiaegpihaaF22

set_option linter.unusedSimpArgs false

set_option linter.unusedVariables false

namespace Go.Proofs.Ytegkgfiaegpihaa

open Go.RowKit

set_option maxRecDepth 100000 in
set_option maxHeartbeats 4000000 in
theorem far_out (D : Ro) (p q : Option Addr) (c d : Nat) (w : World) (hn : D.n ≤ maxLen) (hm : D.m ≤ maxLen) (hr : farV D = true) (hi : RoIn w w.heap.size D p q) :
    Calls Try.prog 13 #[.agg #[.slice p D.n c, .slice q D.m d]] w fun e w' => e = .returned (.bool true) ∧ Below w.heap.size w w' := by
  obtain ⟨w1, x1, hw1, hb1, hz1, F0i, F1i, _⟩ := box_ro w p q D.n D.m c d
  have HW_0 : Hid (∀ z : Ext w1, Below w.heap.size w z.v) := fun z => bT hb1 z.b
  have HI_0 : Hid (∀ z : Ext w1, RoIn z.v z.v.heap.size D p q) := fun z => (hi.bel hb1).bel z.b
  clear hb1 hz1 hi
  have F0_0 : ∀ z : Ext w1, z.v.cell? ⟨w.heap.size, 0, none⟩ = some (.slice p D.n c) := fun z => F0i z
  have F1_0 : ∀ z : Ext w1, z.v.cell? ⟨w.heap.size, 1, none⟩ = some (.slice q D.m d) := fun z => F1i z
  have HR := Lib.hid hr; clear hr
  go_enter Try.func13, Try.ntmps13
  go_wp2_with fail
  refine (quiet_x (far_is HR.out _ hn hm (HI_0.out _))).mono ?_
  rintro e w' ⟨rfl, y, rfl⟩
  go_wp2_with fail
  refine (quiet_x (works_ex _)).mono ?_
  rintro e w' ⟨rfl, y2, rfl⟩
  go_wp2
  go_ret
  exact ⟨rfl, HW_0.out y2⟩
set_option maxRecDepth 100000 in
set_option maxHeartbeats 8000000 in
theorem far_nil (D : Ro) (p q : Option Addr) (c d : Nat) (w : World) (fv wv er : Int) (hr : farV D = false)
    (HAP : ∀ (p q : Option Addr) (c d : Nat) (V : World), RoIn V V.heap.size D p q → Calls Try.prog 53 #[.agg #[.slice p D.n c, .slice q D.m d]] V fun e w' => e = .returned (.tuple #[.int .i64 fv, .int .i64 er]) ∧ Below V.heap.size V w')
    (HAR : ∀ (p q : Option Addr) (c d : Nat) (V : World), RoIn V V.heap.size D p q → Calls Try.prog 54 #[.agg #[.slice p D.n c, .slice q D.m d]] V fun e w' => e = .returned (.tuple #[.int .i64 fv, .int .i64 er]) ∧ Below V.heap.size V w')
    (HEP : ∀ (p q : Option Addr) (c d : Nat) (V : World), RoIn V V.heap.size D p q → Calls Try.prog 55 #[.agg #[.slice p D.n c, .slice q D.m d]] V fun e w' => e = .returned (.tuple #[.int .i64 wv, .int .i64 er]) ∧ Below V.heap.size V w')
    (HER : ∀ (p q : Option Addr) (c d : Nat) (V : World), RoIn V V.heap.size D p q → Calls Try.prog 56 #[.agg #[.slice p D.n c, .slice q D.m d]] V fun e w' => e = .returned (.tuple #[.int .i64 wv, .int .i64 er]) ∧ Below V.heap.size V w')
    (HFP : ∀ (p q : Option Addr) (c d : Nat) (V : World), RoIn V V.heap.size D p q → Calls Try.prog 19 #[.agg #[.slice p D.n c, .slice q D.m d]] V fun e w' => e = .returned (.tuple #[.slice none 0 0, .int .i64 er]) ∧ Below V.heap.size V w')
    (HFR : ∀ (p q : Option Addr) (c d : Nat) (V : World), RoIn V V.heap.size D p q → Calls Try.prog 57 #[.agg #[.slice p D.n c, .slice q D.m d]] V fun e w' => e = .returned (.tuple #[.slice none 0 0, .int .i64 er]) ∧ Below V.heap.size V w') (hi : RoIn w w.heap.size D p q) :
    Calls Try.prog 13 #[.agg #[.slice p D.n c, .slice q D.m d]] w fun e w' => e = .returned (.bool true) ∧ Below w.heap.size w w' := by
  obtain ⟨w1, x1, hw1, hb1, hz1, F0i, F1i, _⟩ := box_ro w p q D.n D.m c d
  have HW_0 : Hid (∀ z : Ext w1, Below w.heap.size w z.v) := fun z => bT hb1 z.b
  have HI_0 : Hid (∀ z : Ext w1, RoIn z.v z.v.heap.size D p q) := fun z => (hi.bel hb1).bel z.b
  clear hb1 hz1 hi
  have F0_0 : ∀ z : Ext w1, z.v.cell? ⟨w.heap.size, 0, none⟩ = some (.slice p D.n c) := fun z => F0i z
  have F1_0 : ∀ z : Ext w1, z.v.cell? ⟨w.heap.size, 1, none⟩ = some (.slice q D.m d) := fun z => F1i z
  obtain ⟨hn40, hm40⟩ := far_parts hr
  have HR := Lib.hid hr; clear hr
  have hn : D.n ≤ maxLen := by unfold maxLen; omega
  have hm : D.m ≤ maxLen := by unfold maxLen; omega
  have H1 := Lib.hid HAP; have H2 := Lib.hid HAR; have H3 := Lib.hid HEP; have H4 := Lib.hid HER; have H5 := Lib.hid HFP; have H6 := Lib.hid HFR
  clear HAP HAR HEP HER HFP HFR
  have i1 : (fv == fv) = true := by simp
  have i2 : (er == er) = true := by simp
  have i3 : (wv == wv) = true := by simp
  go_enter Try.func13, Try.ntmps13
  go_wp2_with fail
  refine (quiet_x (far_is HR.out _ hn hm (HI_0.out _))).mono ?_
  rintro e w' ⟨rfl, y, rfl⟩
  go_wp2_with fail
  refine (copy_any D p q c d _ (by omega) (by omega) (HI_0.out y)).mono ?_
  rintro e wc ⟨p', c', q', d', rfl, hcp⟩
  have hin := hcp.here
  have HXc := Lib.hid (bT y.b hcp.below)
  obtain ⟨w3, x3, hw3, hb3, hz3, O0i, O1i, _⟩ := box_ro wc p' q' D.n D.m c' d'
  have HX3 := Lib.hid (bT HXc.out hb3)
  have HO_1 : Hid (∀ z : Ext w3, RoIn z.v z.v.heap.size D p' q') := fun z => (hin.bel hb3).bel z.b
  clear hb3 hz3 hin hcp hw1
  have HI_1 : Hid (∀ z : Ext w3, RoIn z.v z.v.heap.size D p q) := fun z => HI_0.out (z.up HX3.out)
  have F0_1 : ∀ z : Ext w3, z.v.cell? ⟨w.heap.size, 0, none⟩ = some (.slice p D.n c) := fun z => F0_0 (z.up HX3.out)
  have F1_1 : ∀ z : Ext w3, z.v.cell? ⟨w.heap.size, 1, none⟩ = some (.slice q D.m d) := fun z => F1_0 (z.up HX3.out)
  have HW_1 : Hid (∀ z : Ext w3, Below w.heap.size w z.v) := fun z => HW_0.out (z.up HX3.out)
  clear HI_0 F0_0 F1_0 HW_0
  have O0_1 : ∀ z : Ext w3, z.v.cell? ⟨wc.heap.size, 0, none⟩ = some (.slice p' D.n c') := fun z => O0i z
  have O1_1 : ∀ z : Ext w3, z.v.cell? ⟨wc.heap.size, 1, none⟩ = some (.slice q' D.m d') := fun z => O1i z
  go_wp2_with fail
  refine (quiet_x (H1.out _ _ _ _ _ (HO_1.out _))).mono ?_
  rintro e w' ⟨rfl, y1, rfl⟩
  go_wp2_with fail
  refine (quiet_x (H2.out _ _ _ _ _ (HI_1.out _))).mono ?_
  rintro e w' ⟨rfl, y2, rfl⟩
  go_wp2_with fail
  refine (quiet_x (H3.out _ _ _ _ _ (HO_1.out _))).mono ?_
  rintro e w' ⟨rfl, y3, rfl⟩
  go_wp2_with fail
  refine (quiet_x (H4.out _ _ _ _ _ (HI_1.out _))).mono ?_
  rintro e w' ⟨rfl, y4, rfl⟩
  go_wp2_with fail
  refine (quiet_x (H5.out _ _ _ _ _ (HO_1.out _))).mono ?_
  rintro e w' ⟨rfl, y5, rfl⟩
  go_wp2_with fail
  refine (quiet_x (H6.out _ _ _ _ _ (HI_1.out _))).mono ?_
  rintro e w' ⟨rfl, y6, rfl⟩
  go_wp2_with fail
  refine (quiet_x (sameInts_is (l := 0) (f := fun _ => 0) _ (by omega) (fun h => absurd h (Nat.lt_irrefl _)) (fun h => absurd h (Nat.lt_irrefl _)))).mono ?_
  rintro e w' ⟨rfl, y7, rfl⟩
  go_wp2_with fail
  refine (quiet_x (same_any D _ _ _ _ _ _ _ _ _ hn40 hm40 (HO_1.out _) (HI_1.out _))).mono ?_
  rintro e w' ⟨rfl, y8, rfl⟩
  go_wp2_with fail
  refine (quiet_x (works_ex _)).mono ?_
  rintro e w' ⟨rfl, y9, rfl⟩
  go_wp2
  go_ret
  exact ⟨rfl, HW_1.out y9⟩

set_option maxRecDepth 100000 in
set_option maxHeartbeats 8000000 in
theorem far_lst (D : Ro) (p q : Option Addr) (c d : Nat) (w : World) (fv wv er : Int) (rs : Nat → Int) (hr : farV D = false)
    (HAP : ∀ (p q : Option Addr) (c d : Nat) (V : World), RoIn V V.heap.size D p q → Calls Try.prog 53 #[.agg #[.slice p D.n c, .slice q D.m d]] V fun e w' => e = .returned (.tuple #[.int .i64 fv, .int .i64 er]) ∧ Below V.heap.size V w')
    (HAR : ∀ (p q : Option Addr) (c d : Nat) (V : World), RoIn V V.heap.size D p q → Calls Try.prog 54 #[.agg #[.slice p D.n c, .slice q D.m d]] V fun e w' => e = .returned (.tuple #[.int .i64 fv, .int .i64 er]) ∧ Below V.heap.size V w')
    (HEP : ∀ (p q : Option Addr) (c d : Nat) (V : World), RoIn V V.heap.size D p q → Calls Try.prog 55 #[.agg #[.slice p D.n c, .slice q D.m d]] V fun e w' => e = .returned (.tuple #[.int .i64 wv, .int .i64 er]) ∧ Below V.heap.size V w')
    (HER : ∀ (p q : Option Addr) (c d : Nat) (V : World), RoIn V V.heap.size D p q → Calls Try.prog 56 #[.agg #[.slice p D.n c, .slice q D.m d]] V fun e w' => e = .returned (.tuple #[.int .i64 wv, .int .i64 er]) ∧ Below V.heap.size V w')
    (HFP : ∀ (p q : Option Addr) (c d : Nat) (V : World), RoIn V V.heap.size D p q → Calls Try.prog 19 #[.agg #[.slice p D.n c, .slice q D.m d]] V fun e w' => ∃ y c', e = .returned (.tuple #[.slice y D.m c', .int .i64 er]) ∧ Below V.heap.size V w' ∧ NumIn w' w'.heap.size D.m rs y)
    (HFR : ∀ (p q : Option Addr) (c d : Nat) (V : World), RoIn V V.heap.size D p q → Calls Try.prog 57 #[.agg #[.slice p D.n c, .slice q D.m d]] V fun e w' => ∃ y c', e = .returned (.tuple #[.slice y D.m c', .int .i64 er]) ∧ Below V.heap.size V w' ∧ NumIn w' w'.heap.size D.m rs y) (hi : RoIn w w.heap.size D p q) :
    Calls Try.prog 13 #[.agg #[.slice p D.n c, .slice q D.m d]] w fun e w' => e = .returned (.bool true) ∧ Below w.heap.size w w' := by
  obtain ⟨w1, x1, hw1, hb1, hz1, F0i, F1i, _⟩ := box_ro w p q D.n D.m c d
  have HW_0 : Hid (∀ z : Ext w1, Below w.heap.size w z.v) := fun z => bT hb1 z.b
  have HI_0 : Hid (∀ z : Ext w1, RoIn z.v z.v.heap.size D p q) := fun z => (hi.bel hb1).bel z.b
  clear hb1 hz1 hi
  have F0_0 : ∀ z : Ext w1, z.v.cell? ⟨w.heap.size, 0, none⟩ = some (.slice p D.n c) := fun z => F0i z
  have F1_0 : ∀ z : Ext w1, z.v.cell? ⟨w.heap.size, 1, none⟩ = some (.slice q D.m d) := fun z => F1i z
  obtain ⟨hn40, hm40⟩ := far_parts hr
  have HR := Lib.hid hr; clear hr
  have hn : D.n ≤ maxLen := by unfold maxLen; omega
  have hm : D.m ≤ maxLen := by unfold maxLen; omega
  have H1 := Lib.hid HAP; have H2 := Lib.hid HAR; have H3 := Lib.hid HEP; have H4 := Lib.hid HER; have H5 := Lib.hid HFP; have H6 := Lib.hid HFR
  clear HAP HAR HEP HER HFP HFR
  have i1 : (fv == fv) = true := by simp
  have i2 : (er == er) = true := by simp
  have i3 : (wv == wv) = true := by simp
  go_enter Try.func13, Try.ntmps13
  go_wp2_with fail
  refine (quiet_x (far_is HR.out _ hn hm (HI_0.out _))).mono ?_
  rintro e w' ⟨rfl, y, rfl⟩
  go_wp2_with fail
  refine (copy_any D p q c d _ (by omega) (by omega) (HI_0.out y)).mono ?_
  rintro e wc ⟨p', c', q', d', rfl, hcp⟩
  have hin := hcp.here
  have HXc := Lib.hid (bT y.b hcp.below)
  obtain ⟨w3, x3, hw3, hb3, hz3, O0i, O1i, _⟩ := box_ro wc p' q' D.n D.m c' d'
  have HX3 := Lib.hid (bT HXc.out hb3)
  have HO_1 : Hid (∀ z : Ext w3, RoIn z.v z.v.heap.size D p' q') := fun z => (hin.bel hb3).bel z.b
  clear hb3 hz3 hin hcp hw1
  have HI_1 : Hid (∀ z : Ext w3, RoIn z.v z.v.heap.size D p q) := fun z => HI_0.out (z.up HX3.out)
  have F0_1 : ∀ z : Ext w3, z.v.cell? ⟨w.heap.size, 0, none⟩ = some (.slice p D.n c) := fun z => F0_0 (z.up HX3.out)
  have F1_1 : ∀ z : Ext w3, z.v.cell? ⟨w.heap.size, 1, none⟩ = some (.slice q D.m d) := fun z => F1_0 (z.up HX3.out)
  have HW_1 : Hid (∀ z : Ext w3, Below w.heap.size w z.v) := fun z => HW_0.out (z.up HX3.out)
  clear HI_0 F0_0 F1_0 HW_0
  have O0_1 : ∀ z : Ext w3, z.v.cell? ⟨wc.heap.size, 0, none⟩ = some (.slice p' D.n c') := fun z => O0i z
  have O1_1 : ∀ z : Ext w3, z.v.cell? ⟨wc.heap.size, 1, none⟩ = some (.slice q' D.m d') := fun z => O1i z
  go_wp2_with fail
  refine (quiet_x (H1.out _ _ _ _ _ (HO_1.out _))).mono ?_
  rintro e w' ⟨rfl, y1, rfl⟩
  go_wp2_with fail
  refine (quiet_x (H2.out _ _ _ _ _ (HI_1.out _))).mono ?_
  rintro e w' ⟨rfl, y2, rfl⟩
  go_wp2_with fail
  refine (quiet_x (H3.out _ _ _ _ _ (HO_1.out _))).mono ?_
  rintro e w' ⟨rfl, y3, rfl⟩
  go_wp2_with fail
  refine (quiet_x (H4.out _ _ _ _ _ (HI_1.out _))).mono ?_
  rintro e w' ⟨rfl, y4, rfl⟩
  go_wp2_with fail
  refine (H5.out _ _ _ _ _ (HO_1.out _)).mono ?_
  rintro e w4 ⟨yk, ykc, rfl, hbyk, hnyk⟩
  have HXw4 := Lib.hid (bT y4.b hbyk); have HNyk0 := Lib.hid hnyk
  obtain ⟨zw4, hzw4⟩ := rebase w4
  clear hbyk hnyk
  have HI_2 : Hid (∀ z : Ext w4, RoIn z.v z.v.heap.size D p q) := fun z => HI_1.out (z.up HXw4.out)
  have F0_2 : ∀ z : Ext w4, z.v.cell? ⟨w.heap.size, 0, none⟩ = some (.slice p D.n c) := fun z => F0_1 (z.up HXw4.out)
  have F1_2 : ∀ z : Ext w4, z.v.cell? ⟨w.heap.size, 1, none⟩ = some (.slice q D.m d) := fun z => F1_1 (z.up HXw4.out)
  have HW_2 : Hid (∀ z : Ext w4, Below w.heap.size w z.v) := fun z => HW_1.out (z.up HXw4.out)
  have HO_2 : Hid (∀ z : Ext w4, RoIn z.v z.v.heap.size D p' q') := fun z => HO_1.out (z.up HXw4.out)
  have O0_2 : ∀ z : Ext w4, z.v.cell? ⟨wc.heap.size, 0, none⟩ = some (.slice p' D.n c') := fun z => O0_1 (z.up HXw4.out)
  have O1_2 : ∀ z : Ext w4, z.v.cell? ⟨wc.heap.size, 1, none⟩ = some (.slice q' D.m d') := fun z => O1_1 (z.up HXw4.out)
  clear HI_1 F0_1 F1_1 HW_1 HO_1 O0_1 O1_1
  have Nyk_2 : Hid (∀ z : Ext w4, NumIn z.v z.v.heap.size D.m rs yk) := fun z => HNyk0.out.bel z.b
  rw [hzw4]; clear hzw4
  go_wp2_with fail
  refine (H6.out _ _ _ _ _ (HI_2.out _)).mono ?_
  rintro e w5 ⟨yl, ylc, rfl, hbyl, hnyl⟩
  have HXw5 := Lib.hid (bT zw4.b hbyl); have HNyl0 := Lib.hid hnyl
  obtain ⟨zw5, hzw5⟩ := rebase w5
  clear hbyl hnyl
  have HI_3 : Hid (∀ z : Ext w5, RoIn z.v z.v.heap.size D p q) := fun z => HI_2.out (z.up HXw5.out)
  have F0_3 : ∀ z : Ext w5, z.v.cell? ⟨w.heap.size, 0, none⟩ = some (.slice p D.n c) := fun z => F0_2 (z.up HXw5.out)
  have F1_3 : ∀ z : Ext w5, z.v.cell? ⟨w.heap.size, 1, none⟩ = some (.slice q D.m d) := fun z => F1_2 (z.up HXw5.out)
  have HW_3 : Hid (∀ z : Ext w5, Below w.heap.size w z.v) := fun z => HW_2.out (z.up HXw5.out)
  have HO_3 : Hid (∀ z : Ext w5, RoIn z.v z.v.heap.size D p' q') := fun z => HO_2.out (z.up HXw5.out)
  have O0_3 : ∀ z : Ext w5, z.v.cell? ⟨wc.heap.size, 0, none⟩ = some (.slice p' D.n c') := fun z => O0_2 (z.up HXw5.out)
  have O1_3 : ∀ z : Ext w5, z.v.cell? ⟨wc.heap.size, 1, none⟩ = some (.slice q' D.m d') := fun z => O1_2 (z.up HXw5.out)
  have Nyk_3 : Hid (∀ z : Ext w5, NumIn z.v z.v.heap.size D.m rs yk) := fun z => Nyk_2.out (z.up HXw5.out)
  clear HI_2 F0_2 F1_2 HW_2 HO_2 O0_2 O1_2 Nyk_2
  have Nyl_3 : Hid (∀ z : Ext w5, NumIn z.v z.v.heap.size D.m rs yl) := fun z => HNyl0.out.bel z.b
  rw [hzw5]; clear hzw5
  go_wp2_with fail
  refine (quiet_x (sameInts_is _ (by omega) (Nyk_3.out _) (Nyl_3.out _))).mono ?_
  rintro e w' ⟨rfl, y7, rfl⟩
  go_wp2_with fail
  refine (quiet_x (same_any D _ _ _ _ _ _ _ _ _ hn40 hm40 (HO_3.out _) (HI_3.out _))).mono ?_
  rintro e w' ⟨rfl, y8, rfl⟩
  go_wp2_with fail
  refine (quiet_x (works_ex _)).mono ?_
  rintro e w' ⟨rfl, y9, rfl⟩
  go_wp2
  go_ret
  exact ⟨rfl, HW_3.out y9⟩

theorem far_law (D : Ro) (p q : Option Addr) (c d : Nat) (w : World) (hn : D.n ≤ maxLen) (hm : D.m ≤ maxLen) (hi : RoIn w w.heap.size D p q) :
    Calls Try.prog 13 #[.agg #[.slice p D.n c, .slice q D.m d]] w fun e w' => e = .returned (.bool true) ∧ Below w.heap.size w w' := by
  cases hf : farV D with
  | true => exact far_out D p q c d w hn hm hf hi
  | false =>
    cases ho : D.ok with
    | false =>
      have e1 : chkE D.ok true = 80 := chk_no ho
      have h80 : (80 : Int) ≠ 0 := by decide
      have hne := fun p q c d => news_bad D p q c d true 80 hn hm e1 h80
      exact far_nil D p q c d w 0 0 80 hf (fun p q c d V hV => farP_er D p q c d 80 V hn hm hV e1 h80) (fun p q c d V hV => farRR_er D p q c d 80 V hV (hne p q c d))
        (fun p q c d V hV => fewestP_er D p q c d 80 V hn hm hV e1 h80) (fun p q c d V hV => fewestRR_er D p q c d 80 V hV (hne p q c d))
        (fun p q c d V hV => fairP_er D p q c d 80 V hn hm hV e1 h80) (fun p q c d V hV => fairR_er D p q c d 80 V hV (hne p q c d)) hi
    | true =>
      have hD := Ro.ok_iff.1 ho
      cases hx : exB D with
      | false =>
        have hne := fun p q c d => news_none D p q c d hD hx
        have e3 : exE D = 3 := by unfold exE; rw [hx]; rfl
        refine far_nil D p q c d w 0 0 3 hf (fun p q c d V hV => ?_) (fun p q c d V hV => farRR_er D p q c d 3 V hV (hne p q c d)) (fun p q c d V hV => ?_) (fun p q c d V hV => fewestRR_er D p q c d 3 V hV (hne p q c d)) (fun p q c d V hV => fair_no D p q c d hD V hV hx) (fun p q c d V hV => fairR_er D p q c d 3 V hV (hne p q c d)) hi
        · have := far_is' (c := c) (d := d) hD V hV
          rw [show tM D = 0 by simp [tM, hx], e3] at this
          exact this
        · have := fewest_is (c := c) (d := d) hD V hV
          rw [show tN D = 0 by simp [tN, hx], e3] at this
          exact this
      | true =>
        have e0 : exE D = 0 := by unfold exE; rw [hx]; rfl
        refine far_lst D p q c d w (tM D) (tN D) 0 (faF D) hf (fun p q c d V hV => ?_) (fun p q c d V hV => farRR_ok D p q c d V hD hx hV) (fun p q c d V hV => ?_) (fun p q c d V hV => fewestR_ok D p q c d V hD hx hV) (fun p q c d V hV => fair_ok D p q c d hD V hV hx) (fun p q c d V hV => fairR_ok D p q c d V hD hx hV) hi
        · have := far_is' (c := c) (d := d) hD V hV
          rw [e0] at this
          exact this
        · have := fewest_is (c := c) (d := d) hD V hV
          rw [e0] at this
          exact this
end Go.Proofs.Ytegkgfiaegpihaa
