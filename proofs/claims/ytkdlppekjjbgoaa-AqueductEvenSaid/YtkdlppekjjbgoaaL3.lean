/- AqueductEven returns true in every walk. -/
import Derived.Test.YtkdlppekjjbgoaaG13

import Derived.Test.YtkdlppekjjbgoaaS6

import Derived.Test.YtkdlppekjjbgoaaB1

set_option linter.unusedSimpArgs false

set_option linter.unusedVariables false

namespace Go.Proofs.Ytkdlppekjjbgoaa

open Go.RowKit

set_option maxRecDepth 100000 in
set_option maxHeartbeats 4000000 in
theorem even_o1 (D : Duct) (p q : Option Addr) (c d : Nat) (x g0 g1 g2 g3 : Int) (w : World) (hn : D.n ≤ maxLen) (hm : D.m ≤ maxLen) (hrd : (!(decide (40 < D.n) || decide (40 < D.m)) && D.ok) = false) (hi : DuctIn w w.heap.size D p q) :
    Calls Try.prog 9 #[.agg #[.slice p D.n c, .slice q D.m d], .int .i64 x, .agg #[.int .i64 g0, .int .i64 g1, .int .i64 g2, .int .i64 g3]] w fun e w' => e = .returned (.bool true) ∧ Below w.heap.size w w' := by
  have HRD := Lib.hid (show ∀ V : World, DuctIn V V.heap.size D p q → Calls Try.prog 15 #[.agg #[.slice p D.n c, .slice q D.m d]] V fun e w' => e = .returned (.bool false) ∧ Below V.heap.size V w' from fun V h => by
    have := ready_any D p q c d V hn hm h
    rw [hrd] at this
    exact this)
  clear hrd
  obtain ⟨w1, x1, ew1, hb1, hl1⟩ := mk_line w p q D.n D.m c d
  have HL1 := Lib.hid hl1; have HI1 := Lib.hid (hi.bel hb1); have HB1 := Lib.hid hb1
  clear hb1 hl1 hi
  have HW_0 : Hid (∀ z : Ext w1, Below w.heap.size w z.v) := fun z => bT HB1.out z.b
  have HI_0 : Hid (∀ z : Ext w1, DuctIn z.v z.v.heap.size D p q) := fun z => HI1.out.bel z.b
  have L0_0 : ∀ z : Ext w1, z.v.cell? ⟨w.heap.size, 0, none⟩ = some (.slice p D.n c) := fun z => (HL1.out.bel z.b).c0
  have L1_0 : ∀ z : Ext w1, z.v.cell? ⟨w.heap.size, 1, none⟩ = some (.slice q D.m d) := fun z => (HL1.out.bel z.b).c1
  obtain ⟨wb1, xb1, eb1, bb1, tb1⟩ := mk_four x1 56 g0 g1 g2 g3
  have HBB1 := Lib.hid bb1; have HTB1 := Lib.hid tb1
  clear bb1 tb1
  have HW_1 : Hid (∀ z : Ext wb1, Below w.heap.size w z.v) := fun z => HW_0.out (z.up HBB1.out)
  have HI_1 : Hid (∀ z : Ext wb1, DuctIn z.v z.v.heap.size D p q) := fun z => HI_0.out (z.up HBB1.out)
  have L0_1 : ∀ z : Ext wb1, z.v.cell? ⟨w.heap.size, 0, none⟩ = some (.slice p D.n c) := fun z => L0_0 (z.up HBB1.out)
  have L1_1 : ∀ z : Ext wb1, z.v.cell? ⟨w.heap.size, 1, none⟩ = some (.slice q D.m d) := fun z => L1_0 (z.up HBB1.out)
  clear HW_0 HI_0 L0_0 L1_0
  have V0_1 : ∀ z : Ext wb1, z.v.cell? ⟨x1.v.heap.size, 0, none⟩ = some (.int .i64 g0) := fun z => (HTB1.out.bel z.b).c0
  have V1_1 : ∀ z : Ext wb1, z.v.cell? ⟨x1.v.heap.size, 1, none⟩ = some (.int .i64 g1) := fun z => (HTB1.out.bel z.b).c1
  have V2_1 : ∀ z : Ext wb1, z.v.cell? ⟨x1.v.heap.size, 2, none⟩ = some (.int .i64 g2) := fun z => (HTB1.out.bel z.b).c2
  have V3_1 : ∀ z : Ext wb1, z.v.cell? ⟨x1.v.heap.size, 3, none⟩ = some (.int .i64 g3) := fun z => (HTB1.out.bel z.b).c3
  go_enter Try.func9, Try.ntmps9
  go_wp2_with fail
  refine (quiet_x (HRD.out _ (HI_1.out _))).mono ?_
  rintro e w' ⟨rfl, y2, rfl⟩
  go_wp2_with fail
  refine (quiet_x (works_ex _)).mono ?_
  rintro e w' ⟨rfl, y3, rfl⟩
  go_wp2_with fail
  go_ret
  exact ⟨rfl, HW_1.out y3⟩

set_option maxRecDepth 100000 in
set_option maxHeartbeats 4000000 in
theorem even_o2 (D : Duct) (p q : Option Addr) (c d : Nat) (x g0 g1 g2 g3 : Int) (w : World) (hn : D.n ≤ maxLen) (hm : D.m ≤ maxLen) (hm4 : D.m ≤ 40) (hrd : (!(decide (40 < D.n) || decide (40 < D.m)) && D.ok) = true) (has : areS D g0 g1 = false) (hi : DuctIn w w.heap.size D p q) :
    Calls Try.prog 9 #[.agg #[.slice p D.n c, .slice q D.m d], .int .i64 x, .agg #[.int .i64 g0, .int .i64 g1, .int .i64 g2, .int .i64 g3]] w fun e w' => e = .returned (.bool true) ∧ Below w.heap.size w w' := by
  have HRD := Lib.hid (show ∀ V : World, DuctIn V V.heap.size D p q → Calls Try.prog 15 #[.agg #[.slice p D.n c, .slice q D.m d]] V fun e w' => e = .returned (.bool true) ∧ Below V.heap.size V w' from fun V h => by
    have := ready_any D p q c d V hn hm h
    rw [hrd] at this
    exact this)
  have HAS := Lib.hid (show ∀ V : World, Calls Try.prog 35 #[.agg #[.slice p D.n c, .slice q D.m d], .int .i64 g0, .int .i64 g1] V fun e w' => e = .returned (.bool false) ∧ Below V.heap.size V w' from fun V => by
    have := areSomeR_any D p q c d g0 g1 V hm4
    rw [has] at this
    exact this)
  clear hrd has
  obtain ⟨w1, x1, ew1, hb1, hl1⟩ := mk_line w p q D.n D.m c d
  have HL1 := Lib.hid hl1; have HI1 := Lib.hid (hi.bel hb1); have HB1 := Lib.hid hb1
  clear hb1 hl1 hi
  have HW_0 : Hid (∀ z : Ext w1, Below w.heap.size w z.v) := fun z => bT HB1.out z.b
  have HI_0 : Hid (∀ z : Ext w1, DuctIn z.v z.v.heap.size D p q) := fun z => HI1.out.bel z.b
  have L0_0 : ∀ z : Ext w1, z.v.cell? ⟨w.heap.size, 0, none⟩ = some (.slice p D.n c) := fun z => (HL1.out.bel z.b).c0
  have L1_0 : ∀ z : Ext w1, z.v.cell? ⟨w.heap.size, 1, none⟩ = some (.slice q D.m d) := fun z => (HL1.out.bel z.b).c1
  obtain ⟨wb1, xb1, eb1, bb1, tb1⟩ := mk_four x1 56 g0 g1 g2 g3
  have HBB1 := Lib.hid bb1; have HTB1 := Lib.hid tb1
  clear bb1 tb1
  have HW_1 : Hid (∀ z : Ext wb1, Below w.heap.size w z.v) := fun z => HW_0.out (z.up HBB1.out)
  have HI_1 : Hid (∀ z : Ext wb1, DuctIn z.v z.v.heap.size D p q) := fun z => HI_0.out (z.up HBB1.out)
  have L0_1 : ∀ z : Ext wb1, z.v.cell? ⟨w.heap.size, 0, none⟩ = some (.slice p D.n c) := fun z => L0_0 (z.up HBB1.out)
  have L1_1 : ∀ z : Ext wb1, z.v.cell? ⟨w.heap.size, 1, none⟩ = some (.slice q D.m d) := fun z => L1_0 (z.up HBB1.out)
  clear HW_0 HI_0 L0_0 L1_0
  have V0_1 : ∀ z : Ext wb1, z.v.cell? ⟨x1.v.heap.size, 0, none⟩ = some (.int .i64 g0) := fun z => (HTB1.out.bel z.b).c0
  have V1_1 : ∀ z : Ext wb1, z.v.cell? ⟨x1.v.heap.size, 1, none⟩ = some (.int .i64 g1) := fun z => (HTB1.out.bel z.b).c1
  have V2_1 : ∀ z : Ext wb1, z.v.cell? ⟨x1.v.heap.size, 2, none⟩ = some (.int .i64 g2) := fun z => (HTB1.out.bel z.b).c2
  have V3_1 : ∀ z : Ext wb1, z.v.cell? ⟨x1.v.heap.size, 3, none⟩ = some (.int .i64 g3) := fun z => (HTB1.out.bel z.b).c3
  go_enter Try.func9, Try.ntmps9
  go_wp2_with fail
  refine (quiet_x (HRD.out _ (HI_1.out _))).mono ?_
  rintro e w' ⟨rfl, y2, rfl⟩
  go_wp2_with fail
  refine (quiet_x (HAS.out _)).mono ?_
  rintro e w' ⟨rfl, y3, rfl⟩
  go_wp2_with fail
  refine (quiet_x (works_ex _)).mono ?_
  rintro e w' ⟨rfl, y4, rfl⟩
  go_wp2_with fail
  go_ret
  exact ⟨rfl, HW_1.out y4⟩

set_option maxRecDepth 100000 in
set_option maxHeartbeats 4000000 in
theorem even_o3 (D : Duct) (p q : Option Addr) (c d : Nat) (x g0 g1 g2 g3 : Int) (w : World) (hn : D.n ≤ maxLen) (hm : D.m ≤ maxLen) (hm4 : D.m ≤ 40) (hrd : (!(decide (40 < D.n) || decide (40 < D.m)) && D.ok) = true) (has : areS D g0 g1 = true) (hwi : within x 0 20 = false) (hi : DuctIn w w.heap.size D p q) :
    Calls Try.prog 9 #[.agg #[.slice p D.n c, .slice q D.m d], .int .i64 x, .agg #[.int .i64 g0, .int .i64 g1, .int .i64 g2, .int .i64 g3]] w fun e w' => e = .returned (.bool true) ∧ Below w.heap.size w w' := by
  have HRD := Lib.hid (show ∀ V : World, DuctIn V V.heap.size D p q → Calls Try.prog 15 #[.agg #[.slice p D.n c, .slice q D.m d]] V fun e w' => e = .returned (.bool true) ∧ Below V.heap.size V w' from fun V h => by
    have := ready_any D p q c d V hn hm h
    rw [hrd] at this
    exact this)
  have HAS := Lib.hid (show ∀ V : World, Calls Try.prog 35 #[.agg #[.slice p D.n c, .slice q D.m d], .int .i64 g0, .int .i64 g1] V fun e w' => e = .returned (.bool true) ∧ Below V.heap.size V w' from fun V => by
    have := areSomeR_any D p q c d g0 g1 V hm4
    rw [has] at this
    exact this)
  have HWI := Lib.hid (show ∀ V : World, Calls Try.prog 32 #[.int .i64 x, .int .i64 0, .int .i64 20] V fun e w' => e = .returned (.bool false) ∧ Below V.heap.size V w' from fun V => by
    have := within1_any x 0 20 V
    rw [hwi] at this
    exact this.mono fun e w' ⟨he, hb⟩ => ⟨he, by rw [hb]; exact Below.refl _ _⟩)
  clear hrd has hwi
  obtain ⟨w1, x1, ew1, hb1, hl1⟩ := mk_line w p q D.n D.m c d
  have HL1 := Lib.hid hl1; have HI1 := Lib.hid (hi.bel hb1); have HB1 := Lib.hid hb1
  clear hb1 hl1 hi
  have HW_0 : Hid (∀ z : Ext w1, Below w.heap.size w z.v) := fun z => bT HB1.out z.b
  have HI_0 : Hid (∀ z : Ext w1, DuctIn z.v z.v.heap.size D p q) := fun z => HI1.out.bel z.b
  have L0_0 : ∀ z : Ext w1, z.v.cell? ⟨w.heap.size, 0, none⟩ = some (.slice p D.n c) := fun z => (HL1.out.bel z.b).c0
  have L1_0 : ∀ z : Ext w1, z.v.cell? ⟨w.heap.size, 1, none⟩ = some (.slice q D.m d) := fun z => (HL1.out.bel z.b).c1
  obtain ⟨wb1, xb1, eb1, bb1, tb1⟩ := mk_four x1 56 g0 g1 g2 g3
  have HBB1 := Lib.hid bb1; have HTB1 := Lib.hid tb1
  clear bb1 tb1
  have HW_1 : Hid (∀ z : Ext wb1, Below w.heap.size w z.v) := fun z => HW_0.out (z.up HBB1.out)
  have HI_1 : Hid (∀ z : Ext wb1, DuctIn z.v z.v.heap.size D p q) := fun z => HI_0.out (z.up HBB1.out)
  have L0_1 : ∀ z : Ext wb1, z.v.cell? ⟨w.heap.size, 0, none⟩ = some (.slice p D.n c) := fun z => L0_0 (z.up HBB1.out)
  have L1_1 : ∀ z : Ext wb1, z.v.cell? ⟨w.heap.size, 1, none⟩ = some (.slice q D.m d) := fun z => L1_0 (z.up HBB1.out)
  clear HW_0 HI_0 L0_0 L1_0
  have V0_1 : ∀ z : Ext wb1, z.v.cell? ⟨x1.v.heap.size, 0, none⟩ = some (.int .i64 g0) := fun z => (HTB1.out.bel z.b).c0
  have V1_1 : ∀ z : Ext wb1, z.v.cell? ⟨x1.v.heap.size, 1, none⟩ = some (.int .i64 g1) := fun z => (HTB1.out.bel z.b).c1
  have V2_1 : ∀ z : Ext wb1, z.v.cell? ⟨x1.v.heap.size, 2, none⟩ = some (.int .i64 g2) := fun z => (HTB1.out.bel z.b).c2
  have V3_1 : ∀ z : Ext wb1, z.v.cell? ⟨x1.v.heap.size, 3, none⟩ = some (.int .i64 g3) := fun z => (HTB1.out.bel z.b).c3
  go_enter Try.func9, Try.ntmps9
  go_wp2_with fail
  refine (quiet_x (HRD.out _ (HI_1.out _))).mono ?_
  rintro e w' ⟨rfl, y2, rfl⟩
  go_wp2_with fail
  refine (quiet_x (HAS.out _)).mono ?_
  rintro e w' ⟨rfl, y3, rfl⟩
  go_wp2_with fail
  refine (quiet_x (HWI.out _)).mono ?_
  rintro e w' ⟨rfl, y4, rfl⟩
  go_wp2_with fail
  refine (quiet_x (works_ex _)).mono ?_
  rintro e w' ⟨rfl, y5, rfl⟩
  go_wp2_with fail
  go_ret
  exact ⟨rfl, HW_1.out y5⟩

/-- powers of two -/
def pw : Nat → Nat
  | 0 => 1
  | j + 1 => 2 * pw j
theorem pw_val {j : Nat} (h : j ≤ 3) : (j = 0 ∧ pw j = 1) ∨ (j = 1 ∧ pw j = 2) ∨ (j = 2 ∧ pw j = 4) ∨ (j = 3 ∧ pw j = 8) := by
  rcases (show j = 0 ∨ j = 1 ∨ j = 2 ∨ j = 3 by omega) with rfl | rfl | rfl | rfl
  · exact Or.inl ⟨rfl, rfl⟩
  · exact Or.inr (Or.inl ⟨rfl, rfl⟩)
  · exact Or.inr (Or.inr (Or.inl ⟨rfl, rfl⟩))
  · exact Or.inr (Or.inr (Or.inr ⟨rfl, rfl⟩))
theorem pw_gEv {x : Int} {j N : Nat} (hj : j ≤ 3) (h0 : 0 < N) (hN : N ≤ 7) (h1 : j = 0 ∨ pw (j - 1) < N) (h2 : N ≤ pw j) : (j : Int) * x = gEv x N := by
  rcases pw_val hj with ⟨rfl, e⟩ | ⟨rfl, e⟩ | ⟨rfl, e⟩ | ⟨rfl, e⟩
  · rw [e] at h2
    unfold gEv; rw [if_pos (by omega)]; simp
  · rw [e] at h2
    have h3 : 1 < N := by rcases h1 with h | h; · omega
                          · exact h
    unfold gEv; rw [if_neg (by omega), if_pos (by omega)]; simp
  · rw [e] at h2
    have h3 : 2 < N := by rcases h1 with h | h; · omega
                          · exact h
    unfold gEv; rw [if_neg (by omega), if_neg (by omega), if_pos (by omega)]; rfl
  · rw [e] at h2
    have h3 : 4 < N := by rcases h1 with h | h; · omega
                          · exact h
    unfold gEv; rw [if_neg (by omega), if_neg (by omega), if_neg (by omega)]; rfl
theorem coD_zero {D : Duct} {x : Int} : coD D x 0 = D := by
  unfold coD; simp
theorem coD_step {W : World} {K : Nat} {D : Duct} {x : Int} {k : Nat} {p q : Option Addr} (h : DuctIn W K (setCo (coD D x k) k x) p q) : DuctIn W K (coD D x (k + 1)) p q :=
  h.congr rfl rfl (fun i _ => ⟨rfl, rfl, by
    show (if i < k + 1 then x else D.co i) = if i = k then x else (if i < k then x else D.co i)
    by_cases e : i = k
    · subst e; rw [if_pos rfl, if_pos (by omega)]
    · rw [if_neg e]
      by_cases e2 : i < k
      · rw [if_pos e2, if_pos (by omega)]
      · rw [if_neg e2, if_neg (by omega)]⟩) (fun i _ => rfl)
set_option maxRecDepth 100000 in
set_option maxHeartbeats 16000000 in
theorem even_walk (D : Duct) (p q : Option Addr) (c d : Nat) (x g0 g1 g2 g3 : Int) (a b N : Nat) (u : Int) (w : World) (hn4 : D.n ≤ 40) (hm4 : D.m ≤ 40) (hrd : (!(decide (40 < D.n) || decide (40 < D.m)) && D.ok) = true) (has : areS D g0 g1 = true) (hwi : within x 0 20 = true) (hnp : 0 < D.n) (hN : N ≤ 7) (hN0 : 0 < N) (hsub : g1 - g0 = (N : Int)) (hx : 0 ≤ x ∧ x ≤ 20) (hu : u = gEv x N)
    (hW : ∀ (V : World) P Q cc dd, DuctIn V V.heap.size (coD D x D.n) P Q → Calls Try.prog 28 #[.agg #[.slice P D.n cc, .slice Q D.m dd], .int .i64 g0, .int .i64 g1] V fun e w' => e = .returned (.tuple #[.int .i64 u, .int .i64 0]) ∧ Below V.heap.size V w') (hi : DuctIn w w.heap.size D p q) :
    Calls Try.prog 9 #[.agg #[.slice p D.n c, .slice q D.m d], .int .i64 x, .agg #[.int .i64 g0, .int .i64 g1, .int .i64 g2, .int .i64 g3]] w fun e w' => e = .returned (.bool true) ∧ Below w.heap.size w w' := by
  have hn : D.n ≤ maxLen := by unfold maxLen; omega
  have hm : D.m ≤ maxLen := by unfold maxLen; omega
  have HRD := Lib.hid (show ∀ V : World, DuctIn V V.heap.size D p q → Calls Try.prog 15 #[.agg #[.slice p D.n c, .slice q D.m d]] V fun e w' => e = .returned (.bool true) ∧ Below V.heap.size V w' from fun V h => by
    have := ready_any D p q c d V hn hm h
    rw [hrd] at this
    exact this)
  have HAS := Lib.hid (show ∀ V : World, Calls Try.prog 35 #[.agg #[.slice p D.n c, .slice q D.m d], .int .i64 g0, .int .i64 g1] V fun e w' => e = .returned (.bool true) ∧ Below V.heap.size V w' from fun V => by
    have := areSomeR_any D p q c d g0 g1 V hm4
    rw [has] at this
    exact this)
  have HWI := Lib.hid (show ∀ V : World, Calls Try.prog 32 #[.int .i64 x, .int .i64 0, .int .i64 20] V fun e w' => e = .returned (.bool true) ∧ Below V.heap.size V w' from fun V => by
    have := within1_any x 0 20 V
    rw [hwi] at this
    exact this.mono fun e w' ⟨he, hb⟩ => ⟨he, by rw [hb]; exact Below.refl _ _⟩)
  have HW := Lib.hid hW; have HNP := Lib.hid hnp; have HU := Lib.hid hu; have HX := Lib.hid hx; have HN0 := Lib.hid hN0
  have hw1 : IntKind.i64.wrap (g1 - g0) = (N : Int) := by rw [hsub]; exact IntWalk.i64_in _ (by omega)
  have bu : (u == u) = true := by simp
  clear hrd has hwi hW hnp hu hsub hN0
  obtain ⟨w1, x1, ew1, hb1, hl1⟩ := mk_line w p q D.n D.m c d
  have HL1 := Lib.hid hl1; have HI1 := Lib.hid (hi.bel hb1); have HB1 := Lib.hid hb1
  clear hb1 hl1 hi
  have HW_0 : Hid (∀ z : Ext w1, Below w.heap.size w z.v) := fun z => bT HB1.out z.b
  have HI_0 : Hid (∀ z : Ext w1, DuctIn z.v z.v.heap.size D p q) := fun z => HI1.out.bel z.b
  have L0_0 : ∀ z : Ext w1, z.v.cell? ⟨w.heap.size, 0, none⟩ = some (.slice p D.n c) := fun z => (HL1.out.bel z.b).c0
  have L1_0 : ∀ z : Ext w1, z.v.cell? ⟨w.heap.size, 1, none⟩ = some (.slice q D.m d) := fun z => (HL1.out.bel z.b).c1
  obtain ⟨wb1, xb1, eb1, bb1, tb1⟩ := mk_four x1 56 g0 g1 g2 g3
  have HBB1 := Lib.hid bb1; have HTB1 := Lib.hid tb1
  clear bb1 tb1
  have HW_1 : Hid (∀ z : Ext wb1, Below w.heap.size w z.v) := fun z => HW_0.out (z.up HBB1.out)
  have HI_1 : Hid (∀ z : Ext wb1, DuctIn z.v z.v.heap.size D p q) := fun z => HI_0.out (z.up HBB1.out)
  have L0_1 : ∀ z : Ext wb1, z.v.cell? ⟨w.heap.size, 0, none⟩ = some (.slice p D.n c) := fun z => L0_0 (z.up HBB1.out)
  have L1_1 : ∀ z : Ext wb1, z.v.cell? ⟨w.heap.size, 1, none⟩ = some (.slice q D.m d) := fun z => L1_0 (z.up HBB1.out)
  clear HW_0 HI_0 L0_0 L1_0
  have V0_1 : ∀ z : Ext wb1, z.v.cell? ⟨x1.v.heap.size, 0, none⟩ = some (.int .i64 g0) := fun z => (HTB1.out.bel z.b).c0
  have V1_1 : ∀ z : Ext wb1, z.v.cell? ⟨x1.v.heap.size, 1, none⟩ = some (.int .i64 g1) := fun z => (HTB1.out.bel z.b).c1
  have V2_1 : ∀ z : Ext wb1, z.v.cell? ⟨x1.v.heap.size, 2, none⟩ = some (.int .i64 g2) := fun z => (HTB1.out.bel z.b).c2
  have V3_1 : ∀ z : Ext wb1, z.v.cell? ⟨x1.v.heap.size, 3, none⟩ = some (.int .i64 g3) := fun z => (HTB1.out.bel z.b).c3
  go_enter Try.func9, Try.ntmps9
  go_wp2_with fail
  refine (quiet_x (HRD.out _ (HI_1.out _))).mono ?_
  rintro e w' ⟨rfl, y2, rfl⟩
  go_wp2_with fail
  refine (quiet_x (HAS.out _)).mono ?_
  rintro e w' ⟨rfl, y3, rfl⟩
  go_wp2_with fail
  refine (quiet_x (HWI.out _)).mono ?_
  rintro e w' ⟨rfl, y4, rfl⟩
  go_wp2_with fail
  refine (copyC_any D p q c d _ hn4 hm4 (HI_1.out _)).mono ?_
  rintro e w' ⟨p', c', q', d', rfl, hcp, hoq, hcc, hdd⟩
  obtain ⟨g, go, rfl, hg1, hfz, hne⟩ := hcp.own HNP.out
  have hcb := hcp.below; have hch := hcp.here
  obtain ⟨yc, rfl⟩ : ∃ z : Ext wb1, w' = z.v := ⟨⟨w', bT y4.b hcb⟩, rfl⟩
  have HG : Hid (wb1.heap.size ≤ g) := Nat.le_trans y4.b.size hg1
  have HGL := Lib.hid (hch.pb HNP.out)
  obtain ⟨wo, xo, ewo, bwo, lwo⟩ := mk_line yc.v (some ⟨g, go, none⟩) q' D.n D.m c' d'
  have HBO := Lib.hid (bT yc.b bwo); have HLO := Lib.hid lwo; have HDO := Lib.hid (hch.bel bwo); have HNE := Lib.hid hne
  have HFO : Hid (∀ i, wo.frozen? ⟨g, i, none⟩ = false) := fun i => (bwo.frozen (p := ⟨g, i, none⟩) HGL.out).trans (hfz i)
  clear hcp hoq hcc hdd hg1 hfz hne hcb hch bwo lwo
  go_wp2_with fail
  go_loopw [8] (fun i wr => ∃ k : Nat, i = .int .i64 (k : Int) ∧ k ≤ D.n ∧ Below wb1.heap.size wb1 wr ∧ LineBox wr yc.v.heap.size (some ⟨g, go, none⟩) D.n c' q' D.m d' ∧ DuctIn wr wr.heap.size (coD D x k) (some ⟨g, go, none⟩) q' ∧ ∀ i, wr.frozen? ⟨g, i, none⟩ = false) (fun i _ => D.n - (intOf i).toNat)
  case atStart => exact ⟨0, rfl, Nat.zero_le _, bT HBO.out xo.b, HLO.out.bel xo.b, by rw [coD_zero]; exact HDO.out.bel xo.b, fun i => (xo.b.frozen (p := ⟨g, i, none⟩) (by have := HDO.out.pb HNP.out; exact this)).trans (HFO.out i)⟩
  case round =>
    obtain ⟨k, rfl, hk, hbr, hlr, hdr, hfr⟩ := hrel
    have HBR := Lib.hid hbr; have HLR := Lib.hid hlr; have HDR := Lib.hid hdr; have HFR := Lib.hid hfr
    clear hbr hlr hdr hfr
    obtain ⟨z0, hz0⟩ := rebase wr
    rw [hz0]; clear hz0 xo ewo
    have HW_2 : Hid (∀ z : Ext wr, Below w.heap.size w z.v) := fun z => HW_1.out (z.up HBR.out)
    have HI_2 : Hid (∀ z : Ext wr, DuctIn z.v z.v.heap.size D p q) := fun z => HI_1.out (z.up HBR.out)
    have L0_2 : ∀ z : Ext wr, z.v.cell? ⟨w.heap.size, 0, none⟩ = some (.slice p D.n c) := fun z => L0_1 (z.up HBR.out)
    have L1_2 : ∀ z : Ext wr, z.v.cell? ⟨w.heap.size, 1, none⟩ = some (.slice q D.m d) := fun z => L1_1 (z.up HBR.out)
    have V0_2 : ∀ z : Ext wr, z.v.cell? ⟨x1.v.heap.size, 0, none⟩ = some (.int .i64 g0) := fun z => V0_1 (z.up HBR.out)
    have V1_2 : ∀ z : Ext wr, z.v.cell? ⟨x1.v.heap.size, 1, none⟩ = some (.int .i64 g1) := fun z => V1_1 (z.up HBR.out)
    have V2_2 : ∀ z : Ext wr, z.v.cell? ⟨x1.v.heap.size, 2, none⟩ = some (.int .i64 g2) := fun z => V2_1 (z.up HBR.out)
    have V3_2 : ∀ z : Ext wr, z.v.cell? ⟨x1.v.heap.size, 3, none⟩ = some (.int .i64 g3) := fun z => V3_1 (z.up HBR.out)
    have O0_2 : ∀ z : Ext wr, z.v.cell? ⟨yc.v.heap.size, 0, none⟩ = some (.slice (some ⟨g, go, none⟩) D.n c') := fun z => (HLR.out.bel z.b).c0
    have O1_2 : ∀ z : Ext wr, z.v.cell? ⟨yc.v.heap.size, 1, none⟩ = some (.slice q' D.m d') := fun z => (HLR.out.bel z.b).c1
    have HO_2 : Hid (∀ z : Ext wr, DuctIn z.v z.v.heap.size (coD D x k) (some ⟨g, go, none⟩) q') := fun z => HDR.out.bel z.b
    by_cases hlt : k < D.n
    · have d1 : decide ((k : Int) < (D.n : Int)) = true := by simp; omega
      have jk : (k : Int) < (D.n : Int) := by omega
      have k40 : k ≤ 40 := by omega
      have E2 : ∀ z : Ext wr, z.v.cell? ⟨g, go + k * 3 + 2, none⟩ = some (.int .i64 ((coD D x k).co k)) := fun z => (HDR.out.bel z.b).co' hlt
      have FZ : ∀ (z : Ext wr) i, z.v.frozen? ⟨g, i, none⟩ = false := fun z i => (z.b.frozen (p := ⟨g, i, none⟩) (HDR.out.pb HNP.out)).trans (HFR.out i)
      go_wp2
      go_roundw
      case rel =>
        refine ⟨k + 1, by go_num, hlt, bS (bT HBR.out z0.b) HG.out _, (HLR.out.bel z0.b).set1 (by have := HGL.out; omega), ?_, fun i => by simpa using FZ z0 i⟩
        have := coD_step ((HDR.out.bel z0.b).setCo (v := x) hlt HNE.out)
        simpa using this
      case measure => first | (simp [intOf]; done) | (simp [intOf]; omega)
    · obtain rfl : k = D.n := by omega
      have d1 : decide ((D.n : Int) < (D.n : Int)) = false := by simp
      clear hlt hk
      go_wp2_with fail
      go_loopw [9, 10] (fun s i wq => ∃ j : Nat, i = .int .i64 (pw j : Int) ∧ s = .int .i64 ((j : Int) * x) ∧ j ≤ 3 ∧ (j = 0 ∨ pw (j - 1) < N) ∧ ∃ z : Ext wr, wq = z.v) (fun _ i _ => 8 - (intOf i).toNat)
      case atStart => exact ⟨0, rfl, by simp, by omega, Or.inl rfl, z0, rfl⟩
      case round =>
        obtain ⟨j, rfl, rfl, hj, hjN, z2, rfl⟩ := hrel
        clear z0
        have hpv := pw_val hj
        obtain ⟨P, hP⟩ : ∃ e, pw j = e := ⟨_, rfl⟩
        obtain ⟨S, hS⟩ : ∃ e, (j : Int) * x = e := ⟨_, rfl⟩
        rw [hP, hS]
        by_cases hlt : P < N
        · have d2 : decide ((P : Int) < (N : Int)) = true := by simp; omega
          have hj2 : j ≤ 2 := by omega
          have hSb : 0 ≤ S ∧ S ≤ 60 := by
            rw [← hS]
            have := mul_in (a := (j : Int)) (A := 3) ⟨by omega, by omega⟩ (b := x) (B := 20) HX.out
            omega
          have hwS : IntKind.i64.wrap (S + x) = S + x := IntWalk.i64_in _ (by have := HX.out; omega)
          have hwP : IntKind.i64.wrap ((P : Int) * 2) = ((2 * P : Nat) : Int) := by rw [IntWalk.i64_in _ (by omega)]; omega
          have HP := Lib.hid hP; have HS := Lib.hid hS; have HLT := Lib.hid hlt
          have hP8 : P ≤ 8 := by omega
          have hP1 : 1 ≤ P := by omega
          clear hP hS hSb hjN hpv
          go_wp2
          go_roundw
          case rel => exact ⟨j + 1, by show _ = Value.int .i64 ((2 * pw j : Nat) : Int); rw [HP.out]; congr 1, by rw [← HS.out]; congr 1; rw [show ((j + 1 : Nat) : Int) = (j : Int) + 1 by omega, Int.add_mul, Int.one_mul], by omega, Or.inr (by rw [Nat.add_sub_cancel, HP.out]; exact HLT.out), z2, rfl⟩
          case measure => have := HLT.out; simp [intOf]; omega
        · have d2 : decide ((P : Int) < (N : Int)) = false := by simp; omega
          have hval := pw_gEv (x := x) hj HN0.out hN hjN (by omega)
          rw [hS, ← HU.out] at hval
          clear hP hpv
          subst hval
          go_wp2_with fail
          refine (quiet_x (HW.out _ (some ⟨g, go, none⟩) q' c' d' (HO_2.out _))).mono ?_
          rintro e w' ⟨rfl, y21, rfl⟩
          go_wp2_with fail
          refine (quiet_x (works_ex _)).mono ?_
          rintro e w' ⟨rfl, y21, rfl⟩
          go_wp2_with fail
          go_ret
          exact ⟨rfl, HW_2.out y21⟩
theorem even_law (D : Duct) (p q : Option Addr) (c d : Nat) (x g0 g1 g2 g3 : Int) (w : World) (hn : D.n ≤ maxLen) (hm : D.m ≤ maxLen) (hi : DuctIn w w.heap.size D p q) :
    Calls Try.prog 9 #[.agg #[.slice p D.n c, .slice q D.m d], .int .i64 x, .agg #[.int .i64 g0, .int .i64 g1, .int .i64 g2, .int .i64 g3]] w fun e w' => e = .returned (.bool true) ∧ Below w.heap.size w w' := by
  cases hrd : (!(decide (40 < D.n) || decide (40 < D.m)) && D.ok) with
  | false => exact even_o1 D p q c d x g0 g1 g2 g3 w hn hm hrd hi
  | true =>
    have h : (D.n ≤ 40 ∧ D.m ≤ 40) ∧ D.ok = true := by simpa using hrd
    obtain ⟨⟨hn4, hm4⟩, hok⟩ := h
    cases has : areS D g0 g1 with
    | false => exact even_o2 D p q c d x g0 g1 g2 g3 w hn hm hm4 hrd has hi
    | true =>
    cases hwi : within x 0 20 with
    | false => exact even_o3 D p q c d x g0 g1 g2 g3 w hn hm hm4 hrd has hwi hi
    | true =>
      obtain ⟨hm7, hnm, _, _⟩ := D.ok_parts hok
      obtain ⟨a, b, ea, eb, hab, hbm⟩ := areS_nat has
      have hx := within_iff.1 hwi
      have hokE : (coD D x D.n).ok = true := by
        obtain ⟨h1, h2, h3, h4⟩ := D.ok_parts hok
        refine Duct.ok_mk h1 h2 (allN_iff.2 fun k hk => within_iff.2 (h3 k hk)) (allN_iff.2 fun k hk => ptOk_iff.2 ?_)
        have := h4 k hk
        refine ⟨this.1, this.2.1, ?_⟩
        show 0 ≤ (if k < D.n then x else D.co k) ∧ (if k < D.n then x else D.co k) ≤ 20
        rw [if_pos (show k < D.n from hk)]; exact hx
      have hWE : WW (coD D x D.n) a b = gEv x (b - a) := W_even (D := coD D x D.n) (fun k hk => if_pos hk) hx.1 (n := b - a) (Nat.le_refl _) (by omega) (by show b < D.n; omega)
      refine even_walk D p q c d x g0 g1 g2 g3 a b (b - a) (gEv x (b - a)) w hn4 hm4 hrd has hwi (by omega) (by omega) (by omega) (by rw [ea, eb]; omega) hx rfl (fun V P Q cc dd h => ?_) hi
      have := worstP_ok (coD D x D.n) P Q cc dd a b V hab hbm hn4 hokE h
      rw [hWE, ← ea, ← eb] at this
      exact this
end Go.Proofs.Ytkdlppekjjbgoaa
