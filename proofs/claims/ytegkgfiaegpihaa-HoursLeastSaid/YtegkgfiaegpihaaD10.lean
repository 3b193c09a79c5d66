/- HoursLeast returns true in every walk. -/
import Derived.Test.YtegkgfiaegpihaaF21

set_option linter.unusedSimpArgs false

set_option linter.unusedVariables false

namespace Go.Proofs.Ytegkgfiaegpihaa

open Go.RowKit

set_option maxRecDepth 100000 in
set_option maxHeartbeats 4000000 in
theorem least_out (D : Ro) (p q : Option Addr) (c d : Nat) (st : Int) (w : World) (hn : D.n ≤ maxLen) (hm : D.m ≤ maxLen) (hr : farV D = true) (hi : RoIn w w.heap.size D p q) :
    Calls Try.prog 12 #[.agg #[.slice p D.n c, .slice q D.m d], .int .i64 st] w fun e w' => e = .returned (.bool true) ∧ Below w.heap.size w w' := by
  obtain ⟨w1, x1, hw1, hb1, hz1, F0i, F1i, _⟩ := box_ro w p q D.n D.m c d
  have HW_0 : Hid (∀ z : Ext w1, Below w.heap.size w z.v) := fun z => bT hb1 z.b
  have HI_0 : Hid (∀ z : Ext w1, RoIn z.v z.v.heap.size D p q) := fun z => (hi.bel hb1).bel z.b
  clear hb1 hz1 hi
  have F0_0 : ∀ z : Ext w1, z.v.cell? ⟨w.heap.size, 0, none⟩ = some (.slice p D.n c) := fun z => F0i z
  have F1_0 : ∀ z : Ext w1, z.v.cell? ⟨w.heap.size, 1, none⟩ = some (.slice q D.m d) := fun z => F1i z
  have HR := Lib.hid hr; clear hr
  go_enter Try.func12, Try.ntmps12
  go_wp2_with fail
  refine (quiet_x (far_is HR.out _ hn hm (HI_0.out _))).mono ?_
  rintro e w' ⟨rfl, y, rfl⟩
  go_wp2_with fail
  refine (quiet_x (works_ex _)).mono ?_
  rintro e w' ⟨rfl, y2, rfl⟩
  go_wp2
  go_ret
  exact ⟨rfl, HW_0.out y2⟩
set_option maxRecDepth 100000 in
set_option maxHeartbeats 8000000 in
theorem least_nil (D : Ro) (p q : Option Addr) (c d : Nat) (st : Int) (w : World) (lv er bv be : Int) (hr : farV D = false)
    (HLP : ∀ (p q : Option Addr) (c d : Nat) (V : World), RoIn V V.heap.size D p q → Calls Try.prog 35 #[.agg #[.slice p D.n c, .slice q D.m d]] V fun e w' => e = .returned (.tuple #[.int .i64 lv, .int .i64 er]) ∧ Below V.heap.size V w')
    (HLR : ∀ (p q : Option Addr) (c d : Nat) (V : World), RoIn V V.heap.size D p q → Calls Try.prog 50 #[.agg #[.slice p D.n c, .slice q D.m d]] V fun e w' => e = .returned (.tuple #[.int .i64 lv, .int .i64 er]) ∧ Below V.heap.size V w')
    (HRP : ∀ (p q : Option Addr) (c d : Nat) (V : World), RoIn V V.heap.size D p q → Calls Try.prog 18 #[.agg #[.slice p D.n c, .slice q D.m d]] V fun e w' => e = .returned (.tuple #[.slice none 0 0, .int .i64 er]) ∧ Below V.heap.size V w')
    (HRR : ∀ (p q : Option Addr) (c d : Nat) (V : World), RoIn V V.heap.size D p q → Calls Try.prog 51 #[.agg #[.slice p D.n c, .slice q D.m d]] V fun e w' => e = .returned (.tuple #[.slice none 0 0, .int .i64 er]) ∧ Below V.heap.size V w')
    (HBP : ∀ (p q : Option Addr) (c d : Nat) (V : World), RoIn V V.heap.size D p q → Calls Try.prog 37 #[.agg #[.slice p D.n c, .slice q D.m d], .int .i64 st] V fun e w' => e = .returned (.tuple #[.int .i64 bv, .int .i64 be]) ∧ Below V.heap.size V w')
    (HBR : ∀ (p q : Option Addr) (c d : Nat) (V : World), RoIn V V.heap.size D p q → Calls Try.prog 52 #[.agg #[.slice p D.n c, .slice q D.m d], .int .i64 st] V fun e w' => e = .returned (.tuple #[.int .i64 bv, .int .i64 be]) ∧ Below V.heap.size V w') (hi : RoIn w w.heap.size D p q) :
    Calls Try.prog 12 #[.agg #[.slice p D.n c, .slice q D.m d], .int .i64 st] w fun e w' => e = .returned (.bool true) ∧ Below w.heap.size w w' := by
  obtain ⟨w1, x1, hw1, hb1, hz1, F0i, F1i, _⟩ := box_ro w p q D.n D.m c d
  have HW_0 : Hid (∀ z : Ext w1, Below w.heap.size w z.v) := fun z => bT hb1 z.b
  have HI_0 : Hid (∀ z : Ext w1, RoIn z.v z.v.heap.size D p q) := fun z => (hi.bel hb1).bel z.b
  clear hb1 hz1 hi
  have F0_0 : ∀ z : Ext w1, z.v.cell? ⟨w.heap.size, 0, none⟩ = some (.slice p D.n c) := fun z => F0i z
  have F1_0 : ∀ z : Ext w1, z.v.cell? ⟨w.heap.size, 1, none⟩ = some (.slice q D.m d) := fun z => F1i z
  obtain ⟨hn40, hm40⟩ := far_parts hr
  have HR := Lib.hid hr; clear hr
  have hn : D.n ≤ maxLen := by unfold maxLen; omega
  have hm : D.m ≤ maxLen := by unfold maxLen; omega
  have H1 := Lib.hid HLP; have H2 := Lib.hid HLR; have H3 := Lib.hid HRP; have H4 := Lib.hid HRR; have H5 := Lib.hid HBP; have H6 := Lib.hid HBR
  clear HLP HLR HRP HRR HBP HBR
  have i1 : (lv == lv) = true := by simp
  have i2 : (er == er) = true := by simp
  have i3 : (bv == bv) = true := by simp
  have i4 : (be == be) = true := by simp
  go_enter Try.func12, Try.ntmps12
  go_wp2_with fail
  refine (quiet_x (far_is HR.out _ hn hm (HI_0.out _))).mono ?_
  rintro e w' ⟨rfl, y, rfl⟩
  go_wp2_with fail
  refine (copy_any D p q c d _ (by omega) (by omega) (HI_0.out y)).mono ?_
  rintro e wc ⟨p', c', q', d', rfl, hcp⟩
  have hin := hcp.here
  have HXc := Lib.hid (bT y.b hcp.below)
  obtain ⟨w3, x3, hw3, hb3, hz3, O0i, O1i, _⟩ := box_ro wc p' q' D.n D.m c' d'
  have HX3 := Lib.hid (bT HXc.out hb3)
  have HO_1 : Hid (∀ z : Ext w3, RoIn z.v z.v.heap.size D p' q') := fun z => (hin.bel hb3).bel z.b
  clear hb3 hz3 hin hcp hw1
  have HI_1 : Hid (∀ z : Ext w3, RoIn z.v z.v.heap.size D p q) := fun z => HI_0.out (z.up HX3.out)
  have F0_1 : ∀ z : Ext w3, z.v.cell? ⟨w.heap.size, 0, none⟩ = some (.slice p D.n c) := fun z => F0_0 (z.up HX3.out)
  have F1_1 : ∀ z : Ext w3, z.v.cell? ⟨w.heap.size, 1, none⟩ = some (.slice q D.m d) := fun z => F1_0 (z.up HX3.out)
  have HW_1 : Hid (∀ z : Ext w3, Below w.heap.size w z.v) := fun z => HW_0.out (z.up HX3.out)
  clear HI_0 F0_0 F1_0 HW_0
  have O0_1 : ∀ z : Ext w3, z.v.cell? ⟨wc.heap.size, 0, none⟩ = some (.slice p' D.n c') := fun z => O0i z
  have O1_1 : ∀ z : Ext w3, z.v.cell? ⟨wc.heap.size, 1, none⟩ = some (.slice q' D.m d') := fun z => O1i z
  go_wp2_with fail
  refine (quiet_x (H1.out _ _ _ _ _ (HO_1.out _))).mono ?_
  rintro e w' ⟨rfl, y1, rfl⟩
  go_wp2_with fail
  refine (quiet_x (H2.out _ _ _ _ _ (HI_1.out _))).mono ?_
  rintro e w' ⟨rfl, y2, rfl⟩
  go_wp2_with fail
  refine (quiet_x (H3.out _ _ _ _ _ (HO_1.out _))).mono ?_
  rintro e w' ⟨rfl, y3, rfl⟩
  go_wp2_with fail
  refine (quiet_x (H4.out _ _ _ _ _ (HI_1.out _))).mono ?_
  rintro e w' ⟨rfl, y4, rfl⟩
  go_wp2_with fail
  refine (quiet_x (H5.out _ _ _ _ _ (HO_1.out _))).mono ?_
  rintro e w' ⟨rfl, y5, rfl⟩
  go_wp2_with fail
  refine (quiet_x (H6.out _ _ _ _ _ (HI_1.out _))).mono ?_
  rintro e w' ⟨rfl, y6, rfl⟩
  go_wp2_with fail
  refine (quiet_x (sameInts_is (l := 0) (f := fun _ => 0) _ (by omega) (fun h => absurd h (Nat.lt_irrefl _)) (fun h => absurd h (Nat.lt_irrefl _)))).mono ?_
  rintro e w' ⟨rfl, y7, rfl⟩
  go_wp2_with fail
  refine (quiet_x (same_any D _ _ _ _ _ _ _ _ _ hn40 hm40 (HO_1.out _) (HI_1.out _))).mono ?_
  rintro e w' ⟨rfl, y8, rfl⟩
  go_wp2_with fail
  refine (quiet_x (works_ex _)).mono ?_
  rintro e w' ⟨rfl, y9, rfl⟩
  go_wp2
  go_ret
  exact ⟨rfl, HW_1.out y9⟩

set_option maxRecDepth 100000 in
set_option maxHeartbeats 8000000 in
theorem least_lst (D : Ro) (p q : Option Addr) (c d : Nat) (st : Int) (w : World) (lv er bv be : Int) (rs : Nat → Int) (hr : farV D = false)
    (HLP : ∀ (p q : Option Addr) (c d : Nat) (V : World), RoIn V V.heap.size D p q → Calls Try.prog 35 #[.agg #[.slice p D.n c, .slice q D.m d]] V fun e w' => e = .returned (.tuple #[.int .i64 lv, .int .i64 er]) ∧ Below V.heap.size V w')
    (HLR : ∀ (p q : Option Addr) (c d : Nat) (V : World), RoIn V V.heap.size D p q → Calls Try.prog 50 #[.agg #[.slice p D.n c, .slice q D.m d]] V fun e w' => e = .returned (.tuple #[.int .i64 lv, .int .i64 er]) ∧ Below V.heap.size V w')
    (HRP : ∀ (p q : Option Addr) (c d : Nat) (V : World), RoIn V V.heap.size D p q → Calls Try.prog 18 #[.agg #[.slice p D.n c, .slice q D.m d]] V fun e w' => ∃ y c', e = .returned (.tuple #[.slice y D.m c', .int .i64 er]) ∧ Below V.heap.size V w' ∧ NumIn w' w'.heap.size D.m rs y)
    (HRR : ∀ (p q : Option Addr) (c d : Nat) (V : World), RoIn V V.heap.size D p q → Calls Try.prog 51 #[.agg #[.slice p D.n c, .slice q D.m d]] V fun e w' => ∃ y c', e = .returned (.tuple #[.slice y D.m c', .int .i64 er]) ∧ Below V.heap.size V w' ∧ NumIn w' w'.heap.size D.m rs y)
    (HBP : ∀ (p q : Option Addr) (c d : Nat) (V : World), RoIn V V.heap.size D p q → Calls Try.prog 37 #[.agg #[.slice p D.n c, .slice q D.m d], .int .i64 st] V fun e w' => e = .returned (.tuple #[.int .i64 bv, .int .i64 be]) ∧ Below V.heap.size V w')
    (HBR : ∀ (p q : Option Addr) (c d : Nat) (V : World), RoIn V V.heap.size D p q → Calls Try.prog 52 #[.agg #[.slice p D.n c, .slice q D.m d], .int .i64 st] V fun e w' => e = .returned (.tuple #[.int .i64 bv, .int .i64 be]) ∧ Below V.heap.size V w') (hi : RoIn w w.heap.size D p q) :
    Calls Try.prog 12 #[.agg #[.slice p D.n c, .slice q D.m d], .int .i64 st] w fun e w' => e = .returned (.bool true) ∧ Below w.heap.size w w' := by
  obtain ⟨w1, x1, hw1, hb1, hz1, F0i, F1i, _⟩ := box_ro w p q D.n D.m c d
  have HW_0 : Hid (∀ z : Ext w1, Below w.heap.size w z.v) := fun z => bT hb1 z.b
  have HI_0 : Hid (∀ z : Ext w1, RoIn z.v z.v.heap.size D p q) := fun z => (hi.bel hb1).bel z.b
  clear hb1 hz1 hi
  have F0_0 : ∀ z : Ext w1, z.v.cell? ⟨w.heap.size, 0, none⟩ = some (.slice p D.n c) := fun z => F0i z
  have F1_0 : ∀ z : Ext w1, z.v.cell? ⟨w.heap.size, 1, none⟩ = some (.slice q D.m d) := fun z => F1i z
  obtain ⟨hn40, hm40⟩ := far_parts hr
  have HR := Lib.hid hr; clear hr
  have hn : D.n ≤ maxLen := by unfold maxLen; omega
  have hm : D.m ≤ maxLen := by unfold maxLen; omega
  have H1 := Lib.hid HLP; have H2 := Lib.hid HLR; have H3 := Lib.hid HRP; have H4 := Lib.hid HRR; have H5 := Lib.hid HBP; have H6 := Lib.hid HBR
  clear HLP HLR HRP HRR HBP HBR
  have i1 : (lv == lv) = true := by simp
  have i2 : (er == er) = true := by simp
  have i3 : (bv == bv) = true := by simp
  have i4 : (be == be) = true := by simp
  go_enter Try.func12, Try.ntmps12
  go_wp2_with fail
  refine (quiet_x (far_is HR.out _ hn hm (HI_0.out _))).mono ?_
  rintro e w' ⟨rfl, y, rfl⟩
  go_wp2_with fail
  refine (copy_any D p q c d _ (by omega) (by omega) (HI_0.out y)).mono ?_
  rintro e wc ⟨p', c', q', d', rfl, hcp⟩
  have hin := hcp.here
  have HXc := Lib.hid (bT y.b hcp.below)
  obtain ⟨w3, x3, hw3, hb3, hz3, O0i, O1i, _⟩ := box_ro wc p' q' D.n D.m c' d'
  have HX3 := Lib.hid (bT HXc.out hb3)
  have HO_1 : Hid (∀ z : Ext w3, RoIn z.v z.v.heap.size D p' q') := fun z => (hin.bel hb3).bel z.b
  clear hb3 hz3 hin hcp hw1
  have HI_1 : Hid (∀ z : Ext w3, RoIn z.v z.v.heap.size D p q) := fun z => HI_0.out (z.up HX3.out)
  have F0_1 : ∀ z : Ext w3, z.v.cell? ⟨w.heap.size, 0, none⟩ = some (.slice p D.n c) := fun z => F0_0 (z.up HX3.out)
  have F1_1 : ∀ z : Ext w3, z.v.cell? ⟨w.heap.size, 1, none⟩ = some (.slice q D.m d) := fun z => F1_0 (z.up HX3.out)
  have HW_1 : Hid (∀ z : Ext w3, Below w.heap.size w z.v) := fun z => HW_0.out (z.up HX3.out)
  clear HI_0 F0_0 F1_0 HW_0
  have O0_1 : ∀ z : Ext w3, z.v.cell? ⟨wc.heap.size, 0, none⟩ = some (.slice p' D.n c') := fun z => O0i z
  have O1_1 : ∀ z : Ext w3, z.v.cell? ⟨wc.heap.size, 1, none⟩ = some (.slice q' D.m d') := fun z => O1i z
  go_wp2_with fail
  refine (quiet_x (H1.out _ _ _ _ _ (HO_1.out _))).mono ?_
  rintro e w' ⟨rfl, y1, rfl⟩
  go_wp2_with fail
  refine (quiet_x (H2.out _ _ _ _ _ (HI_1.out _))).mono ?_
  rintro e w' ⟨rfl, y2, rfl⟩
  go_wp2_with fail
  refine (H3.out _ _ _ _ _ (HO_1.out _)).mono ?_
  rintro e w4 ⟨yk, ykc, rfl, hbyk, hnyk⟩
  have HXw4 := Lib.hid (bT y2.b hbyk); have HNyk0 := Lib.hid hnyk
  obtain ⟨zw4, hzw4⟩ := rebase w4
  clear hbyk hnyk
  have HI_2 : Hid (∀ z : Ext w4, RoIn z.v z.v.heap.size D p q) := fun z => HI_1.out (z.up HXw4.out)
  have F0_2 : ∀ z : Ext w4, z.v.cell? ⟨w.heap.size, 0, none⟩ = some (.slice p D.n c) := fun z => F0_1 (z.up HXw4.out)
  have F1_2 : ∀ z : Ext w4, z.v.cell? ⟨w.heap.size, 1, none⟩ = some (.slice q D.m d) := fun z => F1_1 (z.up HXw4.out)
  have HW_2 : Hid (∀ z : Ext w4, Below w.heap.size w z.v) := fun z => HW_1.out (z.up HXw4.out)
  have HO_2 : Hid (∀ z : Ext w4, RoIn z.v z.v.heap.size D p' q') := fun z => HO_1.out (z.up HXw4.out)
  have O0_2 : ∀ z : Ext w4, z.v.cell? ⟨wc.heap.size, 0, none⟩ = some (.slice p' D.n c') := fun z => O0_1 (z.up HXw4.out)
  have O1_2 : ∀ z : Ext w4, z.v.cell? ⟨wc.heap.size, 1, none⟩ = some (.slice q' D.m d') := fun z => O1_1 (z.up HXw4.out)
  clear HI_1 F0_1 F1_1 HW_1 HO_1 O0_1 O1_1
  have Nyk_2 : Hid (∀ z : Ext w4, NumIn z.v z.v.heap.size D.m rs yk) := fun z => HNyk0.out.bel z.b
  rw [hzw4]; clear hzw4
  go_wp2_with fail
  refine (H4.out _ _ _ _ _ (HI_2.out _)).mono ?_
  rintro e w5 ⟨yl, ylc, rfl, hbyl, hnyl⟩
  have HXw5 := Lib.hid (bT zw4.b hbyl); have HNyl0 := Lib.hid hnyl
  obtain ⟨zw5, hzw5⟩ := rebase w5
  clear hbyl hnyl
  have HI_3 : Hid (∀ z : Ext w5, RoIn z.v z.v.heap.size D p q) := fun z => HI_2.out (z.up HXw5.out)
  have F0_3 : ∀ z : Ext w5, z.v.cell? ⟨w.heap.size, 0, none⟩ = some (.slice p D.n c) := fun z => F0_2 (z.up HXw5.out)
  have F1_3 : ∀ z : Ext w5, z.v.cell? ⟨w.heap.size, 1, none⟩ = some (.slice q D.m d) := fun z => F1_2 (z.up HXw5.out)
  have HW_3 : Hid (∀ z : Ext w5, Below w.heap.size w z.v) := fun z => HW_2.out (z.up HXw5.out)
  have HO_3 : Hid (∀ z : Ext w5, RoIn z.v z.v.heap.size D p' q') := fun z => HO_2.out (z.up HXw5.out)
  have O0_3 : ∀ z : Ext w5, z.v.cell? ⟨wc.heap.size, 0, none⟩ = some (.slice p' D.n c') := fun z => O0_2 (z.up HXw5.out)
  have O1_3 : ∀ z : Ext w5, z.v.cell? ⟨wc.heap.size, 1, none⟩ = some (.slice q' D.m d') := fun z => O1_2 (z.up HXw5.out)
  have Nyk_3 : Hid (∀ z : Ext w5, NumIn z.v z.v.heap.size D.m rs yk) := fun z => Nyk_2.out (z.up HXw5.out)
  clear HI_2 F0_2 F1_2 HW_2 HO_2 O0_2 O1_2 Nyk_2
  have Nyl_3 : Hid (∀ z : Ext w5, NumIn z.v z.v.heap.size D.m rs yl) := fun z => HNyl0.out.bel z.b
  rw [hzw5]; clear hzw5
  go_wp2_with fail
  refine (quiet_x (H5.out _ _ _ _ _ (HO_3.out _))).mono ?_
  rintro e w' ⟨rfl, y5, rfl⟩
  go_wp2_with fail
  refine (quiet_x (H6.out _ _ _ _ _ (HI_3.out _))).mono ?_
  rintro e w' ⟨rfl, y6, rfl⟩
  go_wp2_with fail
  refine (quiet_x (sameInts_is _ (by omega) (Nyk_3.out _) (Nyl_3.out _))).mono ?_
  rintro e w' ⟨rfl, y7, rfl⟩
  go_wp2_with fail
  refine (quiet_x (same_any D _ _ _ _ _ _ _ _ _ hn40 hm40 (HO_3.out _) (HI_3.out _))).mono ?_
  rintro e w' ⟨rfl, y8, rfl⟩
  go_wp2_with fail
  refine (quiet_x (works_ex _)).mono ?_
  rintro e w' ⟨rfl, y9, rfl⟩
  go_wp2
  go_ret
  exact ⟨rfl, HW_3.out y9⟩

theorem least_law (D : Ro) (p q : Option Addr) (c d : Nat) (st : Int) (w : World) (hn : D.n ≤ maxLen) (hm : D.m ≤ maxLen) (hi : RoIn w w.heap.size D p q) :
    Calls Try.prog 12 #[.agg #[.slice p D.n c, .slice q D.m d], .int .i64 st] w fun e w' => e = .returned (.bool true) ∧ Below w.heap.size w w' := by
  cases hf : farV D with
  | true => exact least_out D p q c d st w hn hm hf hi
  | false =>
    cases ho : D.ok with
    | false =>
      have e1 : ∀ b, chkE D.ok b = 80 := fun b => chk_no ho
      have h80 : (80 : Int) ≠ 0 := by decide
      exact least_nil D p q c d st w 0 80 0 80 hf (fun p q c d V hV => leastP_er D p q c d 80 V hn hm hV (e1 _) h80) (fun p q c d V hV => leastRR_er D p q c d 80 V hV (news_bad D p q c d true 80 hn hm (e1 _) h80))
        (fun p q c d V hV => rosterP_er D p q c d 80 V hn hm hV (e1 _) h80) (fun p q c d V hV => rosterR_er D p q c d 80 V hV (news_bad D p q c d true 80 hn hm (e1 _) h80))
        (fun p q c d V hV => boundP_er D p q c d st 80 V hn hm hV (e1 _) h80) (fun p q c d V hV => boundRR_er D p q c d st 80 V hm hV (news_bad D p q c d _ 80 hn hm (e1 _) h80)) hi
    | true =>
      have hD := Ro.ok_iff.1 ho
      have hone : (1 : Int) ≠ 0 := by decide
      -- what Bound says, of both
      have key : ∃ bv be : Int, (∀ (p q : Option Addr) (c d : Nat) (V : World), RoIn V V.heap.size D p q → Calls Try.prog 37 #[.agg #[.slice p D.n c, .slice q D.m d], .int .i64 st] V fun e w' => e = .returned (.tuple #[.int .i64 bv, .int .i64 be]) ∧ Below V.heap.size V w') ∧
          (∀ (p q : Option Addr) (c d : Nat) (V : World), RoIn V V.heap.size D p q → Calls Try.prog 52 #[.agg #[.slice p D.n c, .slice q D.m d], .int .i64 st] V fun e w' => e = .returned (.tuple #[.int .i64 bv, .int .i64 be]) ∧ Below V.heap.size V w') := by
        cases hs : isS D st with
        | false =>
          have e1 : chkE D.ok (isS D st) = 1 := by rw [hs]; exact chk_arg ho
          exact ⟨0, 1, fun p q c d V hV => boundP_er D p q c d st 1 V hn hm hV e1 hone, fun p q c d V hV => boundRR_er D p q c d st 1 V hm hV (news_bad D p q c d _ 1 hn hm e1 hone)⟩
        | true =>
          have h6 := isS_iff.1 hs
          obtain ⟨s, rfl⟩ : ∃ s : Nat, st = (s : Int) := ⟨st.toNat, by omega⟩
          have hsm : s < D.m := by omega
          cases hx : exB D with
          | false =>
            refine ⟨0, 3, fun p q c d V hV => ?_, fun p q c d V hV => boundRR_er D p q c d s 3 V hm hV ?_⟩
            · have := boundP_any D p q c d s hD hsm V hV
              rw [bn_no hx, show exE D = 3 by unfold exE; rw [hx]; rfl] at this
              exact this
            · rw [hs]; exact news_none D p q c d hD hx
          | true =>
            refine ⟨bdV D s, 0, fun p q c d V hV => ?_, fun p q c d V hV => boundRR_ok D p q c d s V hsm hD hx hV⟩
            have := boundP_any D p q c d s hD hsm V hV
            rw [show bnV D s = bdV D s by unfold bnV; rw [hx]; rfl, show exE D = 0 by unfold exE; rw [hx]; rfl] at this
            exact this
      obtain ⟨bv, be, hb1, hb2⟩ := key
      cases hx : exB D with
      | false =>
        have hne := fun p q c d => news_none D p q c d hD hx
        refine least_nil D p q c d st w 0 3 bv be hf (fun p q c d V hV => ?_) (fun p q c d V hV => leastRR_er D p q c d 3 V hV (hne p q c d)) (fun p q c d V hV => roster_no D p q c d hD V hV hx) (fun p q c d V hV => rosterR_er D p q c d 3 V hV (hne p q c d)) hb1 hb2 hi
        have := least_is (c := c) (d := d) hD V hV
        rw [show tL D = 0 by simp [tL, hx], show exE D = 3 by unfold exE; rw [hx]; rfl] at this
        exact this
      | true =>
        refine least_lst D p q c d st w (tL D) 0 bv be (rsF D) hf (fun p q c d V hV => ?_) (fun p q c d V hV => leastRR_ok D p q c d V hD hx hV) (fun p q c d V hV => roster_ok D p q c d hD V hV hx) (fun p q c d V hV => rosterR_ok D p q c d V hD hx hV) hb1 hb2 hi
        have := least_is (c := c) (d := d) hD V hV
        rw [show exE D = 0 by unfold exE; rw [hx]; rfl] at this
        exact this
end Go.Proofs.Ytegkgfiaegpihaa
