/- AqueductFree returns true in every walk. -/
import Derived.Test.YtkdlppekjjbgoaaG13

import Derived.Test.YtkdlppekjjbgoaaS6

import Derived.Test.YtkdlppekjjbgoaaB1

set_option linter.unusedSimpArgs false

set_option linter.unusedVariables false

namespace Go.Proofs.Ytkdlppekjjbgoaa

open Go.RowKit

set_option maxRecDepth 100000 in
set_option maxHeartbeats 4000000 in
theorem free_o1 (D : Duct) (p q : Option Addr) (c d : Nat) (k : Int) (w : World) (hn : D.n ≤ maxLen) (hm : D.m ≤ maxLen) (hrd : (!(decide (40 < D.n) || decide (40 < D.m)) && D.ok) = false) (hi : DuctIn w w.heap.size D p q) :
    Calls Try.prog 10 #[.agg #[.slice p D.n c, .slice q D.m d], .int .i64 k] w fun e w' => e = .returned (.bool true) ∧ Below w.heap.size w w' := by
  have HRD := Lib.hid (show ∀ V : World, DuctIn V V.heap.size D p q → Calls Try.prog 15 #[.agg #[.slice p D.n c, .slice q D.m d]] V fun e w' => e = .returned (.bool false) ∧ Below V.heap.size V w' from fun V h => by
    have := ready_any D p q c d V hn hm h
    rw [hrd] at this
    exact this)
  clear hrd
  obtain ⟨w1, x1, ew1, hb1, hl1⟩ := mk_line w p q D.n D.m c d
  have HL1 := Lib.hid hl1; have HI1 := Lib.hid (hi.bel hb1); have HB1 := Lib.hid hb1
  clear hb1 hl1 hi
  have HW_0 : Hid (∀ z : Ext w1, Below w.heap.size w z.v) := fun z => bT HB1.out z.b
  have HI_0 : Hid (∀ z : Ext w1, DuctIn z.v z.v.heap.size D p q) := fun z => HI1.out.bel z.b
  have L0_0 : ∀ z : Ext w1, z.v.cell? ⟨w.heap.size, 0, none⟩ = some (.slice p D.n c) := fun z => (HL1.out.bel z.b).c0
  have L1_0 : ∀ z : Ext w1, z.v.cell? ⟨w.heap.size, 1, none⟩ = some (.slice q D.m d) := fun z => (HL1.out.bel z.b).c1
  go_enter Try.func10, Try.ntmps10
  go_wp2_with fail
  refine (quiet_x (HRD.out _ (HI_0.out _))).mono ?_
  rintro e w' ⟨rfl, y1, rfl⟩
  go_wp2_with fail
  refine (quiet_x (works_ex _)).mono ?_
  rintro e w' ⟨rfl, y2, rfl⟩
  go_wp2_with fail
  go_ret
  exact ⟨rfl, HW_0.out y2⟩

set_option maxRecDepth 100000 in
set_option maxHeartbeats 4000000 in
theorem free_o2 (D : Duct) (p q : Option Addr) (c d : Nat) (k : Int) (w : World) (hn : D.n ≤ maxLen) (hm : D.m ≤ maxLen) (hn4 : D.n ≤ 40) (hrd : (!(decide (40 < D.n) || decide (40 < D.m)) && D.ok) = true) (hip : isPt D k = false) (hi : DuctIn w w.heap.size D p q) :
    Calls Try.prog 10 #[.agg #[.slice p D.n c, .slice q D.m d], .int .i64 k] w fun e w' => e = .returned (.bool true) ∧ Below w.heap.size w w' := by
  have HRD := Lib.hid (show ∀ V : World, DuctIn V V.heap.size D p q → Calls Try.prog 15 #[.agg #[.slice p D.n c, .slice q D.m d]] V fun e w' => e = .returned (.bool true) ∧ Below V.heap.size V w' from fun V h => by
    have := ready_any D p q c d V hn hm h
    rw [hrd] at this
    exact this)
  have HIP := Lib.hid (show ∀ V : World, Calls Try.prog 19 #[.agg #[.slice p D.n c, .slice q D.m d], .int .i64 k] V fun e w' => e = .returned (.bool false) ∧ Below V.heap.size V w' from fun V => by
    have := isPointR_any D p q c d k V hn4
    rw [hip] at this
    exact this)
  clear hrd hip
  obtain ⟨w1, x1, ew1, hb1, hl1⟩ := mk_line w p q D.n D.m c d
  have HL1 := Lib.hid hl1; have HI1 := Lib.hid (hi.bel hb1); have HB1 := Lib.hid hb1
  clear hb1 hl1 hi
  have HW_0 : Hid (∀ z : Ext w1, Below w.heap.size w z.v) := fun z => bT HB1.out z.b
  have HI_0 : Hid (∀ z : Ext w1, DuctIn z.v z.v.heap.size D p q) := fun z => HI1.out.bel z.b
  have L0_0 : ∀ z : Ext w1, z.v.cell? ⟨w.heap.size, 0, none⟩ = some (.slice p D.n c) := fun z => (HL1.out.bel z.b).c0
  have L1_0 : ∀ z : Ext w1, z.v.cell? ⟨w.heap.size, 1, none⟩ = some (.slice q D.m d) := fun z => (HL1.out.bel z.b).c1
  go_enter Try.func10, Try.ntmps10
  go_wp2_with fail
  refine (quiet_x (HRD.out _ (HI_0.out _))).mono ?_
  rintro e w' ⟨rfl, y1, rfl⟩
  go_wp2_with fail
  refine (quiet_x (HIP.out _)).mono ?_
  rintro e w' ⟨rfl, y2, rfl⟩
  go_wp2_with fail
  refine (quiet_x (works_ex _)).mono ?_
  rintro e w' ⟨rfl, y3, rfl⟩
  go_wp2_with fail
  go_ret
  exact ⟨rfl, HW_0.out y3⟩

set_option maxRecDepth 100000 in
set_option maxHeartbeats 4000000 in
theorem free_o3 (D : Duct) (p q : Option Addr) (c d : Nat) (k : Int) (w : World) (hn : D.n ≤ maxLen) (hm : D.m ≤ maxLen) (hn4 : D.n ≤ 40) (hrd : (!(decide (40 < D.n) || decide (40 < D.m)) && D.ok) = true) (hip : isPt D k = true) (hok : D.ok = true) (hm0 : D.m = 0) (hi : DuctIn w w.heap.size D p q) :
    Calls Try.prog 10 #[.agg #[.slice p D.n c, .slice q D.m d], .int .i64 k] w fun e w' => e = .returned (.bool true) ∧ Below w.heap.size w w' := by
  have HRD := Lib.hid (show ∀ V : World, DuctIn V V.heap.size D p q → Calls Try.prog 15 #[.agg #[.slice p D.n c, .slice q D.m d]] V fun e w' => e = .returned (.bool true) ∧ Below V.heap.size V w' from fun V h => by
    have := ready_any D p q c d V hn hm h
    rw [hrd] at this
    exact this)
  have HIP := Lib.hid (show ∀ V : World, Calls Try.prog 19 #[.agg #[.slice p D.n c, .slice q D.m d], .int .i64 k] V fun e w' => e = .returned (.bool true) ∧ Below V.heap.size V w' from fun V => by
    have := isPointR_any D p q c d k V hn4
    rw [hip] at this
    exact this)
  have HF := Lib.hid (show ∀ V : World, DuctIn V V.heap.size D p q → Calls Try.prog 37 #[.agg #[.slice p D.n c, .slice q D.m d], .int .i64 k] V fun e w' => e = .returned (.tuple #[.int .i64 0, .int .i64 3]) ∧ Below V.heap.size V w' from fun V h => freeP_none D p q c d k V hip hm0 hok h)
  have jm : ((D.m : Int) == 0) = true := by simp [hm0]
  clear hrd hip hok hm0
  obtain ⟨w1, x1, ew1, hb1, hl1⟩ := mk_line w p q D.n D.m c d
  have HL1 := Lib.hid hl1; have HI1 := Lib.hid (hi.bel hb1); have HB1 := Lib.hid hb1
  clear hb1 hl1 hi
  have HW_0 : Hid (∀ z : Ext w1, Below w.heap.size w z.v) := fun z => bT HB1.out z.b
  have HI_0 : Hid (∀ z : Ext w1, DuctIn z.v z.v.heap.size D p q) := fun z => HI1.out.bel z.b
  have L0_0 : ∀ z : Ext w1, z.v.cell? ⟨w.heap.size, 0, none⟩ = some (.slice p D.n c) := fun z => (HL1.out.bel z.b).c0
  have L1_0 : ∀ z : Ext w1, z.v.cell? ⟨w.heap.size, 1, none⟩ = some (.slice q D.m d) := fun z => (HL1.out.bel z.b).c1
  go_enter Try.func10, Try.ntmps10
  go_wp2_with fail
  refine (quiet_x (HRD.out _ (HI_0.out _))).mono ?_
  rintro e w' ⟨rfl, y1, rfl⟩
  go_wp2_with fail
  refine (quiet_x (HIP.out _)).mono ?_
  rintro e w' ⟨rfl, y2, rfl⟩
  go_wp2_with fail
  refine (quiet_x (HF.out _ (HI_0.out _))).mono ?_
  rintro e w' ⟨rfl, y3, rfl⟩
  go_wp2_with fail
  refine (quiet_x (works_ex _)).mono ?_
  rintro e w' ⟨rfl, y4, rfl⟩
  go_wp2_with fail
  go_ret
  exact ⟨rfl, HW_0.out y4⟩

set_option maxRecDepth 100000 in
set_option maxHeartbeats 8000000 in
theorem free_walk (D : Duct) (p q : Option Addr) (c d : Nat) (j : Nat) (n m k2 : Int) (w : World) (hn4 : D.n ≤ 40) (hm4 : D.m ≤ 40) (hrd : (!(decide (40 < D.n) || decide (40 < D.m)) && D.ok) = true) (hj : j < D.n) (hm0 : 0 < D.m) (hn0 : 0 ≤ n) (hnm : n = m - k2) (hmb : 0 ≤ m ∧ m ≤ 1000) (hkb : 0 ≤ k2 ∧ k2 ≤ 1000) (hco : n ≤ D.co j) (hend : (0 < j ∧ j < D.m) ∨ n = 0)
    (hF : ∀ V : World, DuctIn V V.heap.size D p q → Calls Try.prog 37 #[.agg #[.slice p D.n c, .slice q D.m d], .int .i64 (j : Int)] V fun e w' => e = .returned (.tuple #[.int .i64 n, .int .i64 0]) ∧ Below V.heap.size V w')
    (hW : ∀ V : World, DuctIn V V.heap.size D p q → Calls Try.prog 28 #[.agg #[.slice p D.n c, .slice q D.m d], .int .i64 0, .int .i64 D.m] V fun e w' => e = .returned (.tuple #[.int .i64 m, .int .i64 0]) ∧ Below V.heap.size V w')
    (hW2 : ∀ (V : World) P Q cc dd, DuctIn V V.heap.size (frD D j) P Q → Calls Try.prog 28 #[.agg #[.slice P D.n cc, .slice Q D.m dd], .int .i64 0, .int .i64 D.m] V fun e w' => e = .returned (.tuple #[.int .i64 k2, .int .i64 0]) ∧ Below V.heap.size V w') (hi : DuctIn w w.heap.size D p q) :
    Calls Try.prog 10 #[.agg #[.slice p D.n c, .slice q D.m d], .int .i64 (j : Int)] w fun e w' => e = .returned (.bool true) ∧ Below w.heap.size w w' := by
  have hn : D.n ≤ maxLen := by unfold maxLen; omega
  have hm : D.m ≤ maxLen := by unfold maxLen; omega
  have HRD := Lib.hid (show ∀ V : World, DuctIn V V.heap.size D p q → Calls Try.prog 15 #[.agg #[.slice p D.n c, .slice q D.m d]] V fun e w' => e = .returned (.bool true) ∧ Below V.heap.size V w' from fun V h => by
    have := ready_any D p q c d V hn hm h
    rw [hrd] at this
    exact this)
  have HIP := Lib.hid (show ∀ V : World, Calls Try.prog 19 #[.agg #[.slice p D.n c, .slice q D.m d], .int .i64 (j : Int)] V fun e w' => e = .returned (.bool true) ∧ Below V.heap.size V w' from fun V => by
    have := isPointR_any D p q c d (j : Int) V hn4
    rw [show isPt D (j : Int) = true from within_tt (by omega) (by omega)] at this
    exact this)
  have HF := Lib.hid hF; have HW1 := Lib.hid hW; have HW2 := Lib.hid hW2; have HJ := Lib.hid hj; have HN4 := Lib.hid hn4; have HM4 := Lib.hid hm4; have HEND := Lib.hid hend
  have jm : ((D.m : Int) == 0) = false := by simp; omega
  have jm2 : ¬ D.m = 0 := by omega
  have b1 : decide (m < 0) = false := by simp; omega
  have b2 : decide (1000 < m) = false := by simp; omega
  have b3 : decide (k2 < 0) = false := by simp; omega
  have b4 : decide (1000 < k2) = false := by simp; omega
  have b5 : IntKind.i64.wrap (m - k2) = n := by rw [hnm]; exact IntWalk.i64_in _ (by omega)
  have b6 : (n != n) = false := by simp
  have b7 : decide (n < 0) = false := by simp; omega
  have b8 : decide (D.co j < n) = false := by simp; omega
  have jn : (j : Int) < (D.n : Int) := by omega
  obtain ⟨pb, po, rfl, _, _⟩ := hi.pt (by omega)
  clear hrd hF hW hW2 hj hm0 hn0 hnm hmb hkb hco hend
  obtain ⟨w1, x1, ew1, hb1, hl1⟩ := mk_line w (some ⟨pb, po, none⟩) q D.n D.m c d
  have HL1 := Lib.hid hl1; have HI1 := Lib.hid (hi.bel hb1); have HB1 := Lib.hid hb1
  clear hb1 hl1 hi
  have HW_0 : Hid (∀ z : Ext w1, Below w.heap.size w z.v) := fun z => bT HB1.out z.b
  have HI_0 : Hid (∀ z : Ext w1, DuctIn z.v z.v.heap.size D (some ⟨pb, po, none⟩) q) := fun z => HI1.out.bel z.b
  have L0_0 : ∀ z : Ext w1, z.v.cell? ⟨w.heap.size, 0, none⟩ = some (.slice (some ⟨pb, po, none⟩) D.n c) := fun z => (HL1.out.bel z.b).c0
  have L1_0 : ∀ z : Ext w1, z.v.cell? ⟨w.heap.size, 1, none⟩ = some (.slice q D.m d) := fun z => (HL1.out.bel z.b).c1
  have P2_0 : ∀ z : Ext w1, z.v.cell? ⟨pb, po + j * 3 + 2, none⟩ = some (.int .i64 (D.co j)) := fun z => (HI1.out.bel z.b).co' HJ.out
  go_enter Try.func10, Try.ntmps10
  go_wp2_with fail
  refine (quiet_x (HRD.out _ (HI_0.out _))).mono ?_
  rintro e w' ⟨rfl, y1, rfl⟩
  go_wp2_with fail
  refine (quiet_x (HIP.out _)).mono ?_
  rintro e w' ⟨rfl, y2, rfl⟩
  go_wp2_with fail
  refine (quiet_x (HF.out _ (HI_0.out _))).mono ?_
  rintro e w' ⟨rfl, y3, rfl⟩
  go_wp2_with fail
  refine (quiet_x (HW1.out _ (HI_0.out _))).mono ?_
  rintro e w' ⟨rfl, y4, rfl⟩
  go_wp2_with fail
  refine wp_region_lastE 11 (by kernel_rfl) rfl (fun yr => ?_)
  refine wpAnyG_take (i := 0) (v := ?_) (by kernel_rfl) rfl (by kernel_rfl) (by kernel_rfl) (by kernel_rfl) (fun _ _ _ h => h) (Or.inl ⟨by rfl, ?_⟩) ⟨_, rfl⟩ ?_
  rotate_left
  · rintro wS ⟨yS, rfl⟩
    go_simp
    try (with_reducible rfl)
  try simp only [Act.put, List.setIfInBounds_toArray, List.set_cons_zero, List.set_cons_succ]
  refine wpAnyG_take (i := 1) (v := ?_) (by kernel_rfl) rfl (by kernel_rfl) (by kernel_rfl) (by kernel_rfl) (fun _ _ _ h => h) (Or.inl ⟨by rfl, ?_⟩) ⟨_, rfl⟩ ?_
  rotate_left
  · rintro wS ⟨yS, rfl⟩
    go_simp
    try (with_reducible rfl)
  try simp only [Act.put, List.setIfInBounds_toArray, List.set_cons_zero, List.set_cons_succ]
  refine wpAnyG_take (i := 3) (v := ?_) (by kernel_rfl) rfl (by kernel_rfl) (by kernel_rfl) (by kernel_rfl) (fun _ _ _ h => h) (Or.inl ⟨by rfl, ?_⟩) ⟨_, rfl⟩ ?_
  rotate_left
  · rintro wS ⟨yS, rfl⟩
    go_simp
    try (with_reducible rfl)
  try simp only [Act.put, List.setIfInBounds_toArray, List.set_cons_zero, List.set_cons_succ]
  refine wpAnyG_take (i := 4) (v := ?_) (by kernel_rfl) rfl (by kernel_rfl) (by kernel_rfl) (by kernel_rfl) (fun _ _ _ h => h) (Or.inl ⟨by rfl, ?_⟩) ⟨_, rfl⟩ ?_
  rotate_left
  · rintro wS ⟨yS, rfl⟩
    go_simp
    try (with_reducible rfl)
  try simp only [Act.put, List.setIfInBounds_toArray, List.set_cons_zero, List.set_cons_succ]
  refine wpAnyG_take (i := 5) (v := ?_) (by kernel_rfl) rfl (by kernel_rfl) (by kernel_rfl) (by kernel_rfl) (fun _ _ _ h => h) (Or.inl ⟨by rfl, ?_⟩) ⟨_, rfl⟩ ?_
  rotate_left
  · rintro wS ⟨yS, rfl⟩
    go_simp
    try (with_reducible rfl)
  try simp only [Act.put, List.setIfInBounds_toArray, List.set_cons_zero, List.set_cons_succ]
  refine wpAnyG_one (i := 2) (by kernel_rfl) (by decide) (wpOp_plain rfl rfl ?_)
  go_simp
  go_at_call 39
  refine (freed_any D (some ⟨pb, po, none⟩) q c d j _ HN4.out HM4.out HJ.out (HI_0.out _)).mono ?_
  rintro e w' ⟨p2, c2, q2, d2, rfl, hb2, hd2⟩
  have HD2 := Lib.hid hd2
  obtain ⟨y20, rfl⟩ : ∃ z : Ext w1, w' = z.v := ⟨⟨w', bT (Ext.b _) hb2⟩, rfl⟩
  clear hb2 hd2
  refine ⟨⟨_, rfl⟩, ?_⟩
  try simp only [Act.put, List.setIfInBounds_toArray, List.set_cons_zero, List.set_cons_succ]
  refine wpAnyG_one (i := 6) (by kernel_rfl) (by decide) (wpOp_plain rfl rfl ?_)
  go_simp
  go_at_call 28
  refine (quiet_x (HW2.out _ p2 q2 c2 d2 HD2.out)).mono ?_
  rintro e w' ⟨rfl, y21, rfl⟩
  refine ⟨⟨_, rfl⟩, ?_⟩
  try simp only [Act.put, List.setIfInBounds_toArray, List.set_cons_zero, List.set_cons_succ]
  refine wpAnyG_take (i := 7) (v := ?_) (by kernel_rfl) rfl (by kernel_rfl) (by kernel_rfl) (by kernel_rfl) (fun _ _ _ h => h) (Or.inl ⟨by rfl, ?_⟩) ⟨_, rfl⟩ ?_
  rotate_left
  · rintro wS ⟨yS, rfl⟩
    go_simp
    try (with_reducible rfl)
  try simp only [Act.put, List.setIfInBounds_toArray, List.set_cons_zero, List.set_cons_succ]
  refine wpAnyG_take (i := 8) (v := ?_) (by kernel_rfl) rfl (by kernel_rfl) (by kernel_rfl) (by kernel_rfl) (fun _ _ _ h => h) (Or.inl ⟨by rfl, ?_⟩) ⟨_, rfl⟩ ?_
  rotate_left
  · rintro wS ⟨yS, rfl⟩
    go_simp
    try (with_reducible rfl)
  try simp only [Act.put, List.setIfInBounds_toArray, List.set_cons_zero, List.set_cons_succ]
  refine wpAnyG_take (i := 10) (v := ?_) (by kernel_rfl) rfl (by kernel_rfl) (by kernel_rfl) (by kernel_rfl) (fun _ _ _ h => h) (Or.inl ⟨by rfl, ?_⟩) ⟨_, rfl⟩ ?_
  rotate_left
  · rintro wS ⟨yS, rfl⟩
    go_simp
    try (with_reducible rfl)
  try simp only [Act.put, List.setIfInBounds_toArray, List.set_cons_zero, List.set_cons_succ]
  refine wpAnyG_take (i := 9) (v := ?_) (by kernel_rfl) rfl (by kernel_rfl) (by kernel_rfl) (by kernel_rfl) (fun _ _ _ h => h) (Or.inl ⟨by rfl, ?_⟩) ⟨_, rfl⟩ ?_
  rotate_left
  · rintro wS ⟨yS, rfl⟩
    go_simp
    try (with_reducible rfl)
  try simp only [Act.put, List.setIfInBounds_toArray, List.set_cons_zero, List.set_cons_succ]
  refine wpAnyG_done (by kernel_rfl) (by kernel_rfl) (wpOp_plain rfl rfl ?_)
  go_simp
  rcases HEND.out with ⟨e1, e2⟩ | e1
  · have d1 : decide (0 < (j : Int)) = true := by simp; omega
    have d2 : decide ((j : Int) < (D.m : Int)) = true := by simp; omega
    have d3 : 0 < j := e1
    have d4 : j < D.m := e2
    go_wp2_with fail
    refine (quiet_x (works_ex _)).mono ?_
    rintro e w' ⟨rfl, y31, rfl⟩
    go_wp2_with fail
    go_ret
    exact ⟨rfl, HW_0.out y31⟩
  · subst e1
    by_cases e2 : 0 < j
    · have d1 : decide (0 < (j : Int)) = true := by simp; omega
      by_cases e3 : j < D.m
      · have d2 : decide ((j : Int) < (D.m : Int)) = true := by simp; omega
        go_wp2_with fail
        refine (quiet_x (works_ex _)).mono ?_
        rintro e w' ⟨rfl, y32, rfl⟩
        go_wp2_with fail
        go_ret
        exact ⟨rfl, HW_0.out y32⟩
      · have d2 : decide ((j : Int) < (D.m : Int)) = false := by simp; omega
        go_wp2_with fail
        refine (quiet_x (works_ex _)).mono ?_
        rintro e w' ⟨rfl, y33, rfl⟩
        go_wp2_with fail
        go_ret
        exact ⟨rfl, HW_0.out y33⟩
    · have d1 : decide (0 < (j : Int)) = false := by simp; omega
      go_wp2_with fail
      refine (quiet_x (works_ex _)).mono ?_
      rintro e w' ⟨rfl, y34, rfl⟩
      go_wp2_with fail
      go_ret
      exact ⟨rfl, HW_0.out y34⟩
theorem free_law (D : Duct) (p q : Option Addr) (c d : Nat) (k : Int) (w : World) (hn : D.n ≤ maxLen) (hm : D.m ≤ maxLen) (hi : DuctIn w w.heap.size D p q) :
    Calls Try.prog 10 #[.agg #[.slice p D.n c, .slice q D.m d], .int .i64 k] w fun e w' => e = .returned (.bool true) ∧ Below w.heap.size w w' := by
  cases hrd : (!(decide (40 < D.n) || decide (40 < D.m)) && D.ok) with
  | false => exact free_o1 D p q c d k w hn hm hrd hi
  | true =>
    have h : (D.n ≤ 40 ∧ D.m ≤ 40) ∧ D.ok = true := by simpa using hrd
    obtain ⟨⟨hn4, hm4⟩, hok⟩ := h
    cases hip : isPt D k with
    | false => exact free_o2 D p q c d k w hn hm hn4 hrd hip hi
    | true =>
      by_cases hm0 : D.m = 0
      · exact free_o3 D p q c d k w hn hm hn4 hrd hip hok hm0 hi
      obtain ⟨j, rfl, hj⟩ := isPt_nat hip
      obtain ⟨hm7, hnm, _, _⟩ := D.ok_parts hok
      have hco := co_bd hok
      have hb := FR_bd (D := D) (x := j) (hco j hj).1
      have w1 := W_bd hco (n := 7) (f := 0) (t := D.m) (by omega) (by omega)
      have w2 := W_bd (D := frD D j) (co_bd (frD_ok hok)) (n := 7) (f := 0) (t := D.m) (by omega) (by show D.m < D.n; omega)
      refine free_walk D p q c d j (FR D j) (WW D 0 D.m) (WW (frD D j) 0 D.m) w hn4 hm4 hrd hj (by omega) hb.1 rfl (by omega) (by omega) hb.2 ?_ (fun V h => freeP_ok D p q c d j V hj (by omega) hok h)
        (fun V h => worstP_ok D p q c d 0 D.m V (by omega) (Nat.le_refl _) hn4 hok h) (fun V P Q cc dd h => worstP_ok (frD D j) P Q cc dd 0 D.m V (by omega) (Nat.le_refl _) hn4 (frD_ok hok) h) hi
      by_cases e : 0 < j ∧ j < D.m
      · exact Or.inl e
      · exact Or.inr (FR_end (by omega))
end Go.Proofs.Ytkdlppekjjbgoaa
