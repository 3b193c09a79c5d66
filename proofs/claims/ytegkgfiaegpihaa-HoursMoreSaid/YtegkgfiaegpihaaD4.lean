/- HoursMore returns true in every walk. -/
import Derived.Test.YtegkgfiaegpihaaM7

set_option linter.unusedSimpArgs false

set_option linter.unusedVariables false

namespace Go.Proofs.Ytegkgfiaegpihaa

open Go.RowKit

theorem within1_is {n lo hi : Int} {b : Bool} (h : within n lo hi = b) (w : World) : Calls Try.prog 21 #[.int .i64 n, .int .i64 lo, .int .i64 hi] w fun e w' => e = .returned (.bool b) ∧ w = w' := by subst h; exact within1_any n lo hi w
theorem isStreetR_is {D : Ro} {p q : Option Addr} {c d : Nat} {k : Int} {b : Bool} (h : within k 0 ((D.m : Int) - 1) = b) (hn : D.m ≤ maxLen) (w : World) :
    Calls Try.prog 29 #[.agg #[.slice p D.n c, .slice q D.m d], .int .i64 k] w fun e w' => e = .returned (.bool b) ∧ Below w.heap.size w w' := by
  subst h; exact isStreetR_any D p q c d k w hn
theorem st_set1 {wo : World} {b : Nat} {a0 a1 a2 a3 v : Value} (y : Ext wo) (hb : wo.heap.size ≤ b) (h0 : y.v.cell? ⟨b, 0, none⟩ = some a0) (h1 : y.v.cell? ⟨b, 1, none⟩ = some a1) (h2 : y.v.cell? ⟨b, 2, none⟩ = some a2) (h3 : y.v.cell? ⟨b, 3, none⟩ = some a3) (hf : ∀ i, y.v.frozen? ⟨b, i, none⟩ = false) :
    ∃ z : Ext wo, y.v.setCell ⟨b, 1, none⟩ v = z.v ∧ z.v.cell? ⟨b, 0, none⟩ = some a0 ∧ z.v.cell? ⟨b, 1, none⟩ = some v ∧ z.v.cell? ⟨b, 2, none⟩ = some a2 ∧ z.v.cell? ⟨b, 3, none⟩ = some a3 ∧ ∀ i, z.v.frozen? ⟨b, i, none⟩ = false :=
  ⟨⟨_, bS y.b hb _⟩, rfl, by go_simp, by go_simp, by go_simp, by go_simp, fun i => by go_simp⟩
theorem st_set2 {wo : World} {b : Nat} {a0 a1 a2 a3 v : Value} (y : Ext wo) (hb : wo.heap.size ≤ b) (h0 : y.v.cell? ⟨b, 0, none⟩ = some a0) (h1 : y.v.cell? ⟨b, 1, none⟩ = some a1) (h2 : y.v.cell? ⟨b, 2, none⟩ = some a2) (h3 : y.v.cell? ⟨b, 3, none⟩ = some a3) (hf : ∀ i, y.v.frozen? ⟨b, i, none⟩ = false) :
    ∃ z : Ext wo, y.v.setCell ⟨b, 2, none⟩ v = z.v ∧ z.v.cell? ⟨b, 0, none⟩ = some a0 ∧ z.v.cell? ⟨b, 1, none⟩ = some a1 ∧ z.v.cell? ⟨b, 2, none⟩ = some v ∧ z.v.cell? ⟨b, 3, none⟩ = some a3 ∧ ∀ i, z.v.frozen? ⟨b, i, none⟩ = false :=
  ⟨⟨_, bS y.b hb _⟩, rfl, by go_simp, by go_simp, by go_simp, by go_simp, fun i => by go_simp⟩
/-- the wider roster behind the statement's first part -/
structure MoreS (D : Ro) (w1 wc : World) (ob : Nat) (p' q' : Option Addr) (c' d' : Nat) (E : Ro) : Prop where
  w : Wid D E
  n : E.n = D.n
  m : E.m = D.m
  b : Below w1.heap.size w1 wc
  i : RoIn wc wc.heap.size E p' q'
  c0 : wc.cell? ⟨ob, 0, none⟩ = some (.slice p' E.n c')
  c1 : wc.cell? ⟨ob, 1, none⟩ = some (.slice q' E.m d')
  l : ob < wc.heap.size

set_option maxRecDepth 100000 in
set_option maxHeartbeats 4000000 in
theorem more_o1 (D : Ro) (p q : Option Addr) (c d : Nat) (lp : Option Addr) (lc l : Nat) (f : Nat → Int) (g0 g1 g2 : Int) (g3 g4 : Bool) (w : World) (hn : D.n ≤ maxLen) (hm : D.m ≤ maxLen) (hl : l ≤ maxLen) (hr : rdy D = false) (hi : RoIn w w.heap.size D p q) (hf : NumIn w w.heap.size l f lp) :
    Calls Try.prog 5 #[.agg #[.slice p D.n c, .slice q D.m d], .slice lp l lc, .agg #[.int .i64 g0, .int .i64 g1, .int .i64 g2, .bool g3, .bool g4]] w fun e w' => e = .returned (.bool true) ∧ Below w.heap.size w w' := by
  obtain ⟨wa, xa, hw1, hba, hza, A0, A1, _⟩ := box_ro w p q D.n D.m c d
  obtain ⟨w1, x1, hw2, hb2, hz2, M0, M1, M2, M3, M4⟩ := box_more xa.v g0 g1 g2 g3 g4
  have hb1 : Below wa.heap.size wa w1 := bT xa.b hb2
  have F0 : ∀ z : Ext w1, z.v.cell? ⟨w.heap.size, 0, none⟩ = some (.slice p D.n c) := fun z => A0 (z.up hb1)
  have F1 : ∀ z : Ext w1, z.v.cell? ⟨w.heap.size, 1, none⟩ = some (.slice q D.m d) := fun z => A1 (z.up hb1)
  have HW_0 : Hid (∀ z : Ext w1, Below w.heap.size w z.v) := fun z => bT hba (bT hb1 z.b)
  have HI_0 : Hid (∀ z : Ext w1, RoIn z.v z.v.heap.size D p q) := fun z => (hi.bel (bT hba hb1)).bel z.b
  have HL_0 : Hid (∀ z : Ext w1, NumIn z.v z.v.heap.size l f lp) := fun z => (hf.bel (bT hba hb1)).bel z.b
  have HZ : Hid (w.heap.size < w1.heap.size ∧ xa.v.heap.size < w1.heap.size) := by have := hba.size; have := xa.b.size; exact ⟨by omega, by omega⟩
  clear A0 A1 hba hza hb2 hz2 hb1 hi hf
  have HR := Lib.hid hr; clear hr
  go_enter Try.func5, Try.ntmps5
  go_wp2_with fail
  refine (quiet_x (ready_is HR.out _ hn hm (HI_0.out _))).mono ?_
  rintro e w' ⟨rfl, y, rfl⟩
  go_wp2_with fail
  refine (quiet_x (works_ex _)).mono ?_
  rintro e w' ⟨rfl, y2, rfl⟩
  go_wp2
  go_ret
  exact ⟨rfl, HW_0.out y2⟩
set_option maxRecDepth 100000 in
set_option maxHeartbeats 4000000 in
theorem more_o2 (D : Ro) (p q : Option Addr) (c d : Nat) (lp : Option Addr) (lc l : Nat) (f : Nat → Int) (g0 g1 g2 : Int) (g3 g4 : Bool) (w : World) (hn : D.n ≤ maxLen) (hm : D.m ≤ maxLen) (hl : l ≤ maxLen) (hr : rdy D = true) (h4 : 40 < l) (hi : RoIn w w.heap.size D p q) (hf : NumIn w w.heap.size l f lp) :
    Calls Try.prog 5 #[.agg #[.slice p D.n c, .slice q D.m d], .slice lp l lc, .agg #[.int .i64 g0, .int .i64 g1, .int .i64 g2, .bool g3, .bool g4]] w fun e w' => e = .returned (.bool true) ∧ Below w.heap.size w w' := by
  obtain ⟨wa, xa, hw1, hba, hza, A0, A1, _⟩ := box_ro w p q D.n D.m c d
  obtain ⟨w1, x1, hw2, hb2, hz2, M0, M1, M2, M3, M4⟩ := box_more xa.v g0 g1 g2 g3 g4
  have hb1 : Below wa.heap.size wa w1 := bT xa.b hb2
  have F0 : ∀ z : Ext w1, z.v.cell? ⟨w.heap.size, 0, none⟩ = some (.slice p D.n c) := fun z => A0 (z.up hb1)
  have F1 : ∀ z : Ext w1, z.v.cell? ⟨w.heap.size, 1, none⟩ = some (.slice q D.m d) := fun z => A1 (z.up hb1)
  have HW_0 : Hid (∀ z : Ext w1, Below w.heap.size w z.v) := fun z => bT hba (bT hb1 z.b)
  have HI_0 : Hid (∀ z : Ext w1, RoIn z.v z.v.heap.size D p q) := fun z => (hi.bel (bT hba hb1)).bel z.b
  have HL_0 : Hid (∀ z : Ext w1, NumIn z.v z.v.heap.size l f lp) := fun z => (hf.bel (bT hba hb1)).bel z.b
  have HZ : Hid (w.heap.size < w1.heap.size ∧ xa.v.heap.size < w1.heap.size) := by have := hba.size; have := xa.b.size; exact ⟨by omega, by omega⟩
  clear A0 A1 hba hza hb2 hz2 hb1 hi hf
  have HR := Lib.hid hr; clear hr
  have j4 : decide (40 < (l : Int)) = true := by simp; omega
  go_enter Try.func5, Try.ntmps5
  go_wp2_with fail
  refine (quiet_x (ready_is HR.out _ hn hm (HI_0.out _))).mono ?_
  rintro e w' ⟨rfl, y, rfl⟩
  go_wp2_with fail
  refine (quiet_x (works_ex _)).mono ?_
  rintro e w' ⟨rfl, y2, rfl⟩
  go_wp2
  go_ret
  exact ⟨rfl, HW_0.out y2⟩
set_option maxRecDepth 100000 in
set_option maxHeartbeats 4000000 in
theorem more_o3 (D : Ro) (p q : Option Addr) (c d : Nat) (lp : Option Addr) (lc l : Nat) (f : Nat → Int) (g0 g1 g2 : Int) (g3 g4 : Bool) (w : World) (hn : D.n ≤ maxLen) (hm : D.m ≤ maxLen) (hl : l ≤ 40) (hr : rdy D = true) (hh : isH D g0 = false) (hi : RoIn w w.heap.size D p q) (hf : NumIn w w.heap.size l f lp) :
    Calls Try.prog 5 #[.agg #[.slice p D.n c, .slice q D.m d], .slice lp l lc, .agg #[.int .i64 g0, .int .i64 g1, .int .i64 g2, .bool g3, .bool g4]] w fun e w' => e = .returned (.bool true) ∧ Below w.heap.size w w' := by
  obtain ⟨wa, xa, hw1, hba, hza, A0, A1, _⟩ := box_ro w p q D.n D.m c d
  obtain ⟨w1, x1, hw2, hb2, hz2, M0, M1, M2, M3, M4⟩ := box_more xa.v g0 g1 g2 g3 g4
  have hb1 : Below wa.heap.size wa w1 := bT xa.b hb2
  have F0 : ∀ z : Ext w1, z.v.cell? ⟨w.heap.size, 0, none⟩ = some (.slice p D.n c) := fun z => A0 (z.up hb1)
  have F1 : ∀ z : Ext w1, z.v.cell? ⟨w.heap.size, 1, none⟩ = some (.slice q D.m d) := fun z => A1 (z.up hb1)
  have HW_0 : Hid (∀ z : Ext w1, Below w.heap.size w z.v) := fun z => bT hba (bT hb1 z.b)
  have HI_0 : Hid (∀ z : Ext w1, RoIn z.v z.v.heap.size D p q) := fun z => (hi.bel (bT hba hb1)).bel z.b
  have HL_0 : Hid (∀ z : Ext w1, NumIn z.v z.v.heap.size l f lp) := fun z => (hf.bel (bT hba hb1)).bel z.b
  have HZ : Hid (w.heap.size < w1.heap.size ∧ xa.v.heap.size < w1.heap.size) := by have := hba.size; have := xa.b.size; exact ⟨by omega, by omega⟩
  clear A0 A1 hba hza hb2 hz2 hb1 hi hf
  have HR := Lib.hid hr; clear hr
  have j4 : decide (40 < (l : Int)) = false := by simp; omega
  have h40 : ¬ 40 < l := by omega
  have HH := Lib.hid hh; clear hh
  go_enter Try.func5, Try.ntmps5
  go_wp2_with fail
  refine (quiet_x (ready_is HR.out _ hn hm (HI_0.out _))).mono ?_
  rintro e w' ⟨rfl, y, rfl⟩
  go_wp2_with fail
  refine (quiet_x (isHourR_is HH.out hn _)).mono ?_
  rintro e w' ⟨rfl, y1, rfl⟩
  go_wp2_with fail
  refine (quiet_x (works_ex _)).mono ?_
  rintro e w' ⟨rfl, y2, rfl⟩
  go_wp2
  go_ret
  exact ⟨rfl, HW_0.out y2⟩
set_option maxRecDepth 100000 in
set_option maxHeartbeats 4000000 in
theorem more_o4 (D : Ro) (p q : Option Addr) (c d : Nat) (lp : Option Addr) (lc l : Nat) (f : Nat → Int) (g0 g1 g2 : Int) (g3 g4 : Bool) (w : World) (hn : D.n ≤ maxLen) (hm : D.m ≤ maxLen) (hl : l ≤ 40) (hr : rdy D = true) (hh : isH D g0 = true) (hv : within g1 0 6 = false) (hi : RoIn w w.heap.size D p q) (hf : NumIn w w.heap.size l f lp) :
    Calls Try.prog 5 #[.agg #[.slice p D.n c, .slice q D.m d], .slice lp l lc, .agg #[.int .i64 g0, .int .i64 g1, .int .i64 g2, .bool g3, .bool g4]] w fun e w' => e = .returned (.bool true) ∧ Below w.heap.size w w' := by
  obtain ⟨wa, xa, hw1, hba, hza, A0, A1, _⟩ := box_ro w p q D.n D.m c d
  obtain ⟨w1, x1, hw2, hb2, hz2, M0, M1, M2, M3, M4⟩ := box_more xa.v g0 g1 g2 g3 g4
  have hb1 : Below wa.heap.size wa w1 := bT xa.b hb2
  have F0 : ∀ z : Ext w1, z.v.cell? ⟨w.heap.size, 0, none⟩ = some (.slice p D.n c) := fun z => A0 (z.up hb1)
  have F1 : ∀ z : Ext w1, z.v.cell? ⟨w.heap.size, 1, none⟩ = some (.slice q D.m d) := fun z => A1 (z.up hb1)
  have HW_0 : Hid (∀ z : Ext w1, Below w.heap.size w z.v) := fun z => bT hba (bT hb1 z.b)
  have HI_0 : Hid (∀ z : Ext w1, RoIn z.v z.v.heap.size D p q) := fun z => (hi.bel (bT hba hb1)).bel z.b
  have HL_0 : Hid (∀ z : Ext w1, NumIn z.v z.v.heap.size l f lp) := fun z => (hf.bel (bT hba hb1)).bel z.b
  have HZ : Hid (w.heap.size < w1.heap.size ∧ xa.v.heap.size < w1.heap.size) := by have := hba.size; have := xa.b.size; exact ⟨by omega, by omega⟩
  clear A0 A1 hba hza hb2 hz2 hb1 hi hf
  have HR := Lib.hid hr; clear hr
  have j4 : decide (40 < (l : Int)) = false := by simp; omega
  have h40 : ¬ 40 < l := by omega
  have HH := Lib.hid hh; clear hh
  have HV := Lib.hid hv; clear hv
  go_enter Try.func5, Try.ntmps5
  go_wp2_with fail
  refine (quiet_x (ready_is HR.out _ hn hm (HI_0.out _))).mono ?_
  rintro e w' ⟨rfl, y, rfl⟩
  go_wp2_with fail
  refine (quiet_x (isHourR_is HH.out hn _)).mono ?_
  rintro e w' ⟨rfl, y1, rfl⟩
  go_wp2_with fail
  refine (within1_is HV.out _).mono ?_
  rintro e w' ⟨rfl, rfl⟩
  go_wp2_with fail
  refine (quiet_x (works_ex _)).mono ?_
  rintro e w' ⟨rfl, y2, rfl⟩
  go_wp2
  go_ret
  exact ⟨rfl, HW_0.out y2⟩
theorem st_four {w : World} {b i : Nat} {a0 a1 a2 a3 v0 v1 v2 v3 : Value} (h0 : w.cell? ⟨b, i, none⟩ = some a0) (h1 : w.cell? ⟨b, i + 1, none⟩ = some a1) (h2 : w.cell? ⟨b, i + 2, none⟩ = some a2) (h3 : w.cell? ⟨b, i + 3, none⟩ = some a3) (hf : ∀ i, w.frozen? ⟨b, i, none⟩ = false) :
    ((((w.setCell ⟨b, i, none⟩ v0).setCell ⟨b, i + 1, none⟩ v1).setCell ⟨b, i + 2, none⟩ v2).setCell ⟨b, i + 3, none⟩ v3).cell? ⟨b, i, none⟩ = some v0 ∧
    ((((w.setCell ⟨b, i, none⟩ v0).setCell ⟨b, i + 1, none⟩ v1).setCell ⟨b, i + 2, none⟩ v2).setCell ⟨b, i + 3, none⟩ v3).cell? ⟨b, i + 1, none⟩ = some v1 ∧
    ((((w.setCell ⟨b, i, none⟩ v0).setCell ⟨b, i + 1, none⟩ v1).setCell ⟨b, i + 2, none⟩ v2).setCell ⟨b, i + 3, none⟩ v3).cell? ⟨b, i + 2, none⟩ = some v2 ∧
    ((((w.setCell ⟨b, i, none⟩ v0).setCell ⟨b, i + 1, none⟩ v1).setCell ⟨b, i + 2, none⟩ v2).setCell ⟨b, i + 3, none⟩ v3).cell? ⟨b, i + 3, none⟩ = some v3 ∧
    (∀ j, j < i ∨ i + 3 < j → ((((w.setCell ⟨b, i, none⟩ v0).setCell ⟨b, i + 1, none⟩ v1).setCell ⟨b, i + 2, none⟩ v2).setCell ⟨b, i + 3, none⟩ v3).cell? ⟨b, j, none⟩ = w.cell? ⟨b, j, none⟩) ∧
    (∀ g, g ≠ b → ((((w.setCell ⟨b, i, none⟩ v0).setCell ⟨b, i + 1, none⟩ v1).setCell ⟨b, i + 2, none⟩ v2).setCell ⟨b, i + 3, none⟩ v3).heap[g]? = w.heap[g]?) ∧
    ((((w.setCell ⟨b, i, none⟩ v0).setCell ⟨b, i + 1, none⟩ v1).setCell ⟨b, i + 2, none⟩ v2).setCell ⟨b, i + 3, none⟩ v3).heap.size = w.heap.size := by
  refine ⟨by go_simp, by go_simp, by go_simp, by go_simp, fun j hj => ?_, fun g hg => ?_, by simp⟩
  · rw [World.cell?_setCell_other _ _ _ _ (by simp; try omega), World.cell?_setCell_other _ _ _ _ (by simp; try omega), World.cell?_setCell_other _ _ _ _ (by simp; try omega), World.cell?_setCell_other _ _ _ _ (by simp; try omega)]
  · rw [setCell_block hg, setCell_block hg, setCell_block hg, setCell_block hg]
theorem more_fin {D : Ro} {w1 wo : World} {ob g g2 h k c' d' : Nat} {v a b fr to2 : Int} (HB : Below w1.heap.size w1 wo) (y : Ext wo) (hI : RoIn y.v y.v.heap.size (rmD D h v) (some ⟨g, 0, none⟩) (some ⟨g2, 0, none⟩)) (hn : 0 < D.n) (hk : k < D.m) (hg : g2 ≠ g) (hob : g2 ≠ ob) (hl : w1.heap.size ≤ g2)
    (hfz : ∀ i, y.v.frozen? ⟨g2, i, none⟩ = false) (o0 : y.v.cell? ⟨ob, 0, none⟩ = some (.slice (some ⟨g, 0, none⟩) D.n c')) (o1 : y.v.cell? ⟨ob, 1, none⟩ = some (.slice (some ⟨g2, 0, none⟩) D.m d')) (ho : ob < wo.heap.size)
    (hv : 0 ≤ v) (ha : 0 ≤ a) (hb : 0 ≤ b) (e1 : fr = D.fr k - a) (e2 : to2 = D.to k + b) :
    ∃ E, MoreS D w1 ((((y.v.setCell ⟨g2, k * 4, none⟩ (.int .i64 (D.hs k))).setCell ⟨g2, k * 4 + 1, none⟩ (.int .i64 fr)).setCell ⟨g2, k * 4 + 2, none⟩ (.int .i64 to2)).setCell ⟨g2, k * 4 + 3, none⟩ (.int .i64 (D.co k))) ob (some ⟨g, 0, none⟩) (some ⟨g2, 0, none⟩) c' d' E := by
  have d0 := hI.c0 (k := k) hk; have d1 := hI.c1 (k := k) hk; have d2 := hI.c2 (k := k) hk; have d3 := hI.c3 (k := k) hk
  simp only [Nat.zero_add] at d0 d1 d2 d3
  obtain ⟨q0, q1, q2, q3, qo, qb, qs⟩ := st_four (v0 := .int .i64 (D.hs k)) (v1 := .int .i64 fr) (v2 := .int .i64 to2) (v3 := .int .i64 (D.co k)) d0 d1 d2 d3 hfz
  have HBz : Below w1.heap.size w1 ((((y.v.setCell ⟨g2, k * 4, none⟩ (.int .i64 (D.hs k))).setCell ⟨g2, k * 4 + 1, none⟩ (.int .i64 fr)).setCell ⟨g2, k * 4 + 2, none⟩ (.int .i64 to2)).setCell ⟨g2, k * 4 + 3, none⟩ (.int .i64 (D.co k))) := bS (bS (bS (bS (bT HB y.b) hl _) hl _) hl _) hl _
  obtain ⟨wz, hwz⟩ : ∃ z, ((((y.v.setCell ⟨g2, k * 4, none⟩ (.int .i64 (D.hs k))).setCell ⟨g2, k * 4 + 1, none⟩ (.int .i64 fr)).setCell ⟨g2, k * 4 + 2, none⟩ (.int .i64 to2)).setCell ⟨g2, k * 4 + 3, none⟩ (.int .i64 (D.co k))) = z := ⟨_, rfl⟩
  rw [hwz] at q0 q1 q2 q3 qo qb qs HBz ⊢
  obtain ⟨bg, og, eg, lg, cg⟩ := hI.rm hn
  cases eg
  obtain ⟨bs, os, es, ls, cs⟩ := hI.st (show 0 < (rmD D h v).m from by show 0 < D.m; omega)
  cases es
  refine ⟨wdD (rmD D h v) k a b, Wid.street D hv ha hb, rfl, rfl, HBz, ⟨fun _ => ⟨g, 0, rfl, by rw [qs]; exact lg, fun j hj => (World.cell?_of_block (a := ⟨g, 0 + j, none⟩) (qb g (Ne.symm hg))).trans (cg j hj)⟩, fun _ => ⟨g2, 0, rfl, by rw [qs]; exact ls, ?_, ?_, ?_, ?_⟩⟩, (World.cell?_of_block (a := ⟨ob, 0, none⟩) (qb ob (Ne.symm hob))).trans o0, (World.cell?_of_block (a := ⟨ob, 1, none⟩) (qb ob (Ne.symm hob))).trans o1, by rw [qs]; exact Nat.lt_of_lt_of_le ho y.b.size⟩
  · intro j hj
    rw [Nat.zero_add]
    by_cases e : j = k
    · subst e; exact q0
    · rw [qo _ (by omega)]; have := cs.c0 j hj; rw [Nat.zero_add] at this; exact this
  · intro j hj
    rw [Nat.zero_add]
    show wz.cell? _ = some (.int .i64 (if j = k then D.fr j - a else D.fr j))
    by_cases e : j = k
    · subst e; rw [if_pos rfl, ← e1]; exact q1
    · rw [if_neg e, qo _ (by omega)]; have := cs.c1 j hj; rw [Nat.zero_add] at this; exact this
  · intro j hj
    rw [Nat.zero_add]
    show wz.cell? _ = some (.int .i64 (if j = k then D.to j + b else D.to j))
    by_cases e : j = k
    · subst e; rw [if_pos rfl, ← e2]; exact q2
    · rw [if_neg e, qo _ (by omega)]; have := cs.c2 j hj; rw [Nat.zero_add] at this; exact this
  · intro j hj
    rw [Nat.zero_add]
    by_cases e : j = k
    · subst e; exact q3
    · rw [qo _ (by omega)]; have := cs.c3 j hj; rw [Nat.zero_add] at this; exact this
set_option maxRecDepth 100000 in
set_option maxHeartbeats 16000000 in
theorem more_in (D : Ro) (p q : Option Addr) (c d : Nat) (lp : Option Addr) (lc l : Nat) (f : Nat → Int) (g1 g2 : Int) (g3 g4 : Bool) (w : World) (hr : rdy D = true) (hl : l ≤ 40) (h : Nat) (hh : h < D.n) (hv : 0 ≤ g1 ∧ g1 ≤ 6) (hi : RoIn w w.heap.size D p q) (hf : NumIn w w.heap.size l f lp) :
    Calls Try.prog 5 #[.agg #[.slice p D.n c, .slice q D.m d], .slice lp l lc, .agg #[.int .i64 (h : Int), .int .i64 g1, .int .i64 g2, .bool g3, .bool g4]] w fun e w' => e = .returned (.bool true) ∧ Below w.heap.size w w' := by
  obtain ⟨wa, xa, hw1, hba, hza, A0, A1, _⟩ := box_ro w p q D.n D.m c d
  obtain ⟨w1, x1, hw2, hb2, hz2, M0, M1, M2, M3, M4⟩ := box_more xa.v (h : Int) g1 g2 g3 g4
  have hb1 : Below wa.heap.size wa w1 := bT xa.b hb2
  have F0 : ∀ z : Ext w1, z.v.cell? ⟨w.heap.size, 0, none⟩ = some (.slice p D.n c) := fun z => A0 (z.up hb1)
  have F1 : ∀ z : Ext w1, z.v.cell? ⟨w.heap.size, 1, none⟩ = some (.slice q D.m d) := fun z => A1 (z.up hb1)
  have HW_0 : Hid (∀ z : Ext w1, Below w.heap.size w z.v) := fun z => bT hba (bT hb1 z.b)
  have HI_0 : Hid (∀ z : Ext w1, RoIn z.v z.v.heap.size D p q) := fun z => (hi.bel (bT hba hb1)).bel z.b
  have HL_0 : Hid (∀ z : Ext w1, NumIn z.v z.v.heap.size l f lp) := fun z => (hf.bel (bT hba hb1)).bel z.b
  have HZ : Hid (w.heap.size < w1.heap.size ∧ xa.v.heap.size < w1.heap.size) := by have := hba.size; have := xa.b.size; exact ⟨by omega, by omega⟩
  clear A0 A1 hba hza hb2 hz2 hb1 hi hf
  obtain ⟨hn8, hm6, hD, _⟩ := rdy_parts hr
  have HR := Lib.hid hr; have HD := Lib.hid hD
  have hn : D.n ≤ maxLen := by unfold maxLen; omega
  have hm : D.m ≤ maxLen := by unfold maxLen; omega
  have j4 : decide (40 < (l : Int)) = false := by simp; omega
  have h40 : ¬ 40 < l := by omega
  have HH := Lib.hid (show within (h : Int) 0 ((D.n : Int) - 1) = true from within_tt (by omega) (by omega))
  have HV := Lib.hid (show within g1 0 6 = true from within_tt hv.1 hv.2)
  have HVV := Lib.hid hv
  clear hr hl hv hD
  go_enter Try.func5, Try.ntmps5
  go_wp2_with fail
  refine (quiet_x (ready_is HR.out _ hn hm (HI_0.out _))).mono ?_
  rintro e w' ⟨rfl, y, rfl⟩
  go_wp2_with fail
  refine (quiet_x (isHourR_is HH.out hn _)).mono ?_
  rintro e w' ⟨rfl, y1, rfl⟩
  go_wp2_with fail
  refine (within1_is HV.out _).mono ?_
  rintro e w' ⟨rfl, rfl⟩
  go_wp2_with fail
  refine (roomier2_any D p q c d h g1 _ HD.out hh HVV.out (HI_0.out _)).mono ?_
  rintro e w5 ⟨p', c', q', d', rfl, hmk, g, rfl, hne⟩
  obtain ⟨wo, xo, hwo, hbo, hzo, O0, O1, Of⟩ := box_ro w5 (some ⟨g, 0, none⟩) q' D.n D.m c' d'
  have hb5 : Below w1.heap.size w1 w5 := bT y1.b hmk.below
  have HB5 := Lib.hid (bT hb5 hbo)
  obtain ⟨ob, hob⟩ : ∃ ob, w5.heap.size = ob := ⟨_, rfl⟩
  rw [hob] at O0 O1 Of
  have HOB : Hid (ob < wo.heap.size ∧ w1.heap.size ≤ ob) := ⟨by rw [hzo]; omega, by rw [← hob]; exact hb5.size⟩
  have HIN : Hid (∀ y : Ext wo, RoIn y.v y.v.heap.size (rmD D h g1) (some ⟨g, 0, none⟩) q') := fun y => (hmk.here.bel hbo).bel y.b
  have HST : Hid (0 < D.m → ∃ g2, q' = some ⟨g2, 0, none⟩ ∧ w1.heap.size ≤ g2 ∧ g2 < wo.heap.size ∧ g2 ≠ ob ∧ g2 ≠ g ∧ ∀ (y : Ext wo) i, y.v.frozen? ⟨g2, i, none⟩ = false) := fun h0 => by
    obtain ⟨g2, e2, l1, l2, hf2⟩ := hmk.st h0
    exact ⟨g2, e2, Nat.le_trans y1.b.size l1, Nat.lt_of_lt_of_le l2 hbo.size, by rw [← hob]; omega, fun e => hne g2 0 h0 e2 e.symm, fun y i => ((bT hbo y.b).frozen (p := ⟨g2, i, none⟩) l2).trans (hf2 i)⟩
  have F0o : ∀ y : Ext wo, y.v.cell? ⟨w.heap.size, 0, none⟩ = some (.slice p D.n c) := fun y => F0 (y.up (bT hb5 hbo))
  have F1o : ∀ y : Ext wo, y.v.cell? ⟨w.heap.size, 1, none⟩ = some (.slice q D.m d) := fun y => F1 (y.up (bT hb5 hbo))
  have N2 : ∀ y : Ext wo, y.v.cell? ⟨xa.v.heap.size, 2, none⟩ = some (.int .i64 g2) := fun y => M2 (y.up (bT hb5 hbo))
  have N3 : ∀ y : Ext wo, y.v.cell? ⟨xa.v.heap.size, 3, none⟩ = some (.bool g3) := fun y => M3 (y.up (bT hb5 hbo))
  have N4 : ∀ y : Ext wo, y.v.cell? ⟨xa.v.heap.size, 4, none⟩ = some (.bool g4) := fun y => M4 (y.up (bT hb5 hbo))
  clear hmk hne hbo hzo hb5
  obtain ⟨bs, hbs⟩ : ∃ b, within g2 0 ((D.m : Int) - 1) = b := ⟨_, rfl⟩
  have HS := Lib.hid hbs; clear hbs
  go_upto_if 54 with ((go_at_call 29; refine (quiet_x (isStreetR_is HS.out hm _)).mono ?_; rintro e w' ⟨rfl, y3, rfl⟩))
  go_cut [8] (fun s8 wx => ∃ E, MoreS D w1 wx ob (some ⟨g, 0, none⟩) q' c' d' E)
  case first =>
    cases bs with
    | false =>
      go_wp2_with fail
      go_meet
      case rel =>
        exact ⟨_, Wid.room D HVV.out.1, rfl, rfl, bT HB5.out y3.b, HIN.out y3, O0 y3, O1 y3, Nat.lt_of_lt_of_le HOB.out.1 y3.b.size⟩
    | true =>
      have hk := HS.out
      rw [within_iff] at hk
      obtain ⟨k, rfl⟩ : ∃ k : Nat, g2 = (k : Int) := ⟨g2.toNat, by omega⟩
      have hkm : k < D.m := by omega
      have hki : (k : Int) < (D.m : Int) := by omega
      obtain ⟨g2, e2, a1, a2, a3, a4, a5⟩ := HST.out (by omega)
      subst e2
      have c0 : y3.v.cell? ⟨g2, k * 4, none⟩ = some (.int .i64 (D.hs k)) := by have := (HIN.out y3).c0 (k := k) hkm; rw [Nat.zero_add] at this; exact this
      have c1 : y3.v.cell? ⟨g2, k * 4 + 1, none⟩ = some (.int .i64 (D.fr k)) := by have := (HIN.out y3).c1 (k := k) hkm; rw [Nat.zero_add] at this; exact this
      have c2 : y3.v.cell? ⟨g2, k * 4 + 2, none⟩ = some (.int .i64 (D.to k)) := by have := (HIN.out y3).c2 (k := k) hkm; rw [Nat.zero_add] at this; exact this
      have c3 : y3.v.cell? ⟨g2, k * 4 + 3, none⟩ = some (.int .i64 (D.co k)) := by have := (HIN.out y3).c3 (k := k) hkm; rw [Nat.zero_add] at this; exact this
      have hst := HD.out.st k hkm
      have e1 : IntKind.i64.wrap (D.fr k - 1) = D.fr k - 1 := IntWalk.i64_in _ (by have := hst.fr; omega)
      have e2 : IntKind.i64.wrap (D.to k + 1) = D.to k + 1 := IntWalk.i64_in _ (by have := hst.to; omega)
      obtain ⟨sb, hsb⟩ : ∃ n, y3.v.heap.size = n := ⟨_, rfl⟩
      obtain ⟨y6, hy6, S0, S1, S2, S3, Sf, hs6⟩ : ∃ z : Ext wo, y3.v.alloc (Obj.cells #[.int .i64 (D.hs k), .int .i64 (D.fr k), .int .i64 (D.to k), .int .i64 (D.co k)] 43) = z.v ∧ z.v.cell? ⟨sb, 0, none⟩ = some (.int .i64 (D.hs k)) ∧ z.v.cell? ⟨sb, 1, none⟩ = some (.int .i64 (D.fr k)) ∧ z.v.cell? ⟨sb, 2, none⟩ = some (.int .i64 (D.to k)) ∧ z.v.cell? ⟨sb, 3, none⟩ = some (.int .i64 (D.co k)) ∧ (∀ i, z.v.frozen? ⟨sb, i, none⟩ = false) ∧ sb < z.v.heap.size :=
        ⟨⟨_, bT y3.b (bA (Below.refl _ _) _)⟩, rfl, by rw [← hsb]; clear hsb; go_simp, by rw [← hsb]; clear hsb; go_simp, by rw [← hsb]; clear hsb; go_simp, by rw [← hsb]; clear hsb; go_simp, fun i => by rw [← hsb]; clear hsb; go_simp, by rw [← hsb]; simp⟩
      have hsbo : wo.heap.size ≤ sb := by rw [← hsb]; exact y3.b.size
      have HSB : Hid (wo.heap.size ≤ sb ∧ g2 ≠ sb) := ⟨hsbo, by omega⟩
      clear hk a2 hsbo hst
      go_upto_region 6 with fail
      try rw [hsb]
      clear hy6 hsb c0 c1 c2 c3
      cases g3 with
      | true =>
        cases g4 with
        | true =>
          obtain ⟨y7, hy7, T0, T1, T2, T3, Tf⟩ := st_set1 (v := .int .i64 (D.fr k - 1)) y6 HSB.out.1 S0 S1 S2 S3 Sf
          have n4_y6 := N4 y7
          obtain ⟨y8, hy8, U0, U1, U2, U3, Uf⟩ := st_set2 (v := .int .i64 (D.to k + 1)) y7 HSB.out.1 T0 T1 T2 T3 Tf
          have k1 := O1 y8
          have kf := a5 y8
          have d0 : y8.v.cell? ⟨g2, k * 4, none⟩ = some (.int .i64 (D.hs k)) := by have := (HIN.out y8).c0 (k := k) hkm; rw [Nat.zero_add] at this; exact this
          have d1 : y8.v.cell? ⟨g2, k * 4 + 1, none⟩ = some (.int .i64 (D.fr k)) := by have := (HIN.out y8).c1 (k := k) hkm; rw [Nat.zero_add] at this; exact this
          have d2 : y8.v.cell? ⟨g2, k * 4 + 2, none⟩ = some (.int .i64 (D.to k)) := by have := (HIN.out y8).c2 (k := k) hkm; rw [Nat.zero_add] at this; exact this
          have d3 : y8.v.cell? ⟨g2, k * 4 + 3, none⟩ = some (.int .i64 (D.co k)) := by have := (HIN.out y8).c3 (k := k) hkm; rw [Nat.zero_add] at this; exact this
          go_wp2_with fail
          go_meet
          case rel =>
            exact more_fin HB5.out y8 (HIN.out y8) (by omega) hkm a4 a3 a1 (a5 y8) (O0 y8) (O1 y8) HOB.out.1 HVV.out.1 (a := 1) (b := 1) (by decide) (by decide) (by omega) (by omega)
        | false =>
          obtain ⟨y7, hy7, T0, T1, T2, T3, Tf⟩ := st_set1 (v := .int .i64 (D.fr k - 1)) y6 HSB.out.1 S0 S1 S2 S3 Sf
          have n4_y6 := N4 y7
          have k1 := O1 y7
          have kf := a5 y7
          have d0 : y7.v.cell? ⟨g2, k * 4, none⟩ = some (.int .i64 (D.hs k)) := by have := (HIN.out y7).c0 (k := k) hkm; rw [Nat.zero_add] at this; exact this
          have d1 : y7.v.cell? ⟨g2, k * 4 + 1, none⟩ = some (.int .i64 (D.fr k)) := by have := (HIN.out y7).c1 (k := k) hkm; rw [Nat.zero_add] at this; exact this
          have d2 : y7.v.cell? ⟨g2, k * 4 + 2, none⟩ = some (.int .i64 (D.to k)) := by have := (HIN.out y7).c2 (k := k) hkm; rw [Nat.zero_add] at this; exact this
          have d3 : y7.v.cell? ⟨g2, k * 4 + 3, none⟩ = some (.int .i64 (D.co k)) := by have := (HIN.out y7).c3 (k := k) hkm; rw [Nat.zero_add] at this; exact this
          go_wp2_with fail
          go_meet
          case rel =>
            exact more_fin HB5.out y7 (HIN.out y7) (by omega) hkm a4 a3 a1 (a5 y7) (O0 y7) (O1 y7) HOB.out.1 HVV.out.1 (a := 1) (b := 0) (by decide) (by decide) (by omega) (by omega)
      | false =>
        cases g4 with
        | true =>
          obtain ⟨y8, hy8, U0, U1, U2, U3, Uf⟩ := st_set2 (v := .int .i64 (D.to k + 1)) y6 HSB.out.1 S0 S1 S2 S3 Sf
          have k1 := O1 y8
          have kf := a5 y8
          have d0 : y8.v.cell? ⟨g2, k * 4, none⟩ = some (.int .i64 (D.hs k)) := by have := (HIN.out y8).c0 (k := k) hkm; rw [Nat.zero_add] at this; exact this
          have d1 : y8.v.cell? ⟨g2, k * 4 + 1, none⟩ = some (.int .i64 (D.fr k)) := by have := (HIN.out y8).c1 (k := k) hkm; rw [Nat.zero_add] at this; exact this
          have d2 : y8.v.cell? ⟨g2, k * 4 + 2, none⟩ = some (.int .i64 (D.to k)) := by have := (HIN.out y8).c2 (k := k) hkm; rw [Nat.zero_add] at this; exact this
          have d3 : y8.v.cell? ⟨g2, k * 4 + 3, none⟩ = some (.int .i64 (D.co k)) := by have := (HIN.out y8).c3 (k := k) hkm; rw [Nat.zero_add] at this; exact this
          go_wp2_with fail
          go_meet
          case rel =>
            exact more_fin HB5.out y8 (HIN.out y8) (by omega) hkm a4 a3 a1 (a5 y8) (O0 y8) (O1 y8) HOB.out.1 HVV.out.1 (a := 0) (b := 1) (by decide) (by decide) (by omega) (by omega)
        | false =>
          have k1 := O1 y6
          have kf := a5 y6
          have d0 : y6.v.cell? ⟨g2, k * 4, none⟩ = some (.int .i64 (D.hs k)) := by have := (HIN.out y6).c0 (k := k) hkm; rw [Nat.zero_add] at this; exact this
          have d1 : y6.v.cell? ⟨g2, k * 4 + 1, none⟩ = some (.int .i64 (D.fr k)) := by have := (HIN.out y6).c1 (k := k) hkm; rw [Nat.zero_add] at this; exact this
          have d2 : y6.v.cell? ⟨g2, k * 4 + 2, none⟩ = some (.int .i64 (D.to k)) := by have := (HIN.out y6).c2 (k := k) hkm; rw [Nat.zero_add] at this; exact this
          have d3 : y6.v.cell? ⟨g2, k * 4 + 3, none⟩ = some (.int .i64 (D.co k)) := by have := (HIN.out y6).c3 (k := k) hkm; rw [Nat.zero_add] at this; exact this
          go_wp2_with fail
          go_meet
          case rel =>
            exact more_fin HB5.out y6 (HIN.out y6) (by omega) hkm a4 a3 a1 (a5 y6) (O0 y6) (O1 y6) HOB.out.1 HVV.out.1 (a := 0) (b := 0) (by decide) (by decide) (by omega) (by omega)
  case rest =>
    obtain ⟨E, hms⟩ := hcut
    have hbw := hms.b
    have HIc : Hid (∀ z : Ext wc, RoIn z.v z.v.heap.size D p q) := fun z => HI_0.out (z.up hbw)
    have HLc : Hid (∀ z : Ext wc, NumIn z.v z.v.heap.size l f lp) := fun z => HL_0.out (z.up hbw)
    have HWc : Hid (∀ z : Ext wc, Below w.heap.size w z.v) := fun z => HW_0.out (z.up hbw)
    have HEc : Hid (∀ z : Ext wc, RoIn z.v z.v.heap.size E (some ⟨g, 0, none⟩) q') := fun z => hms.i.bel z.b
    have F0c : ∀ z : Ext wc, z.v.cell? ⟨w.heap.size, 0, none⟩ = some (.slice p D.n c) := fun z => F0 (z.up hbw)
    have F1c : ∀ z : Ext wc, z.v.cell? ⟨w.heap.size, 1, none⟩ = some (.slice q D.m d) := fun z => F1 (z.up hbw)
    have O0c : ∀ z : Ext wc, z.v.cell? ⟨ob, 0, none⟩ = some (.slice (some ⟨g, 0, none⟩) E.n c') := fun z => (z.b.cell (p := ⟨ob, 0, none⟩) hms.l).trans hms.c0
    have O1c : ∀ z : Ext wc, z.v.cell? ⟨ob, 1, none⟩ = some (.slice q' E.m d') := fun z => (z.b.cell (p := ⟨ob, 1, none⟩) hms.l).trans hms.c1
    have hEn := hms.n; have hEm := hms.m
    have hnE : E.n ≤ maxLen := by omega
    have hmE : E.m ≤ maxLen := by omega
    have HWD := Lib.hid hms.w
    clear hms hbw hEn hEm F0o F1o N2 N3 N4 O0 O1 Of M0 M1 M2 M3 M4 F0 F1 HST HIN HI_0 HL_0 HW_0 hw1 hw2 hwo
    obtain ⟨z0, hz0⟩ := rebase wc
    rw [hz0]
    clear hz0
    cases hre : rdy E with
    | false =>
      have HRE := Lib.hid hre; clear hre
      go_wp2_with fail
      refine (quiet_x (ready_is HRE.out _ hnE hmE (HEc.out _))).mono ?_
      rintro e w' ⟨rfl, y4, rfl⟩
      go_wp2_with fail
      refine (quiet_x (works_ex _)).mono ?_
      rintro e w' ⟨rfl, y10, rfl⟩
      go_wp2
      go_ret
      exact ⟨rfl, HWc.out y10⟩
    | true =>
      have HRE := Lib.hid hre
      obtain ⟨hEn8, hEm6, hE, _⟩ := rdy_parts hre
      clear hre
      have HE := Lib.hid hE
      have hwt := fun hx => wid_three HWD.out HD.out hE hx
      have hwn := fun hx => wid_new (l := l) (f := f) HWD.out HD.out hE hx
      have hnx := fun hx => nw_ex (l := l) (f := f) HD.out hx
      have HT1 := Lib.hid (fun (V : World) hV => three_any D p q c d HD.out V hV)
      have HT2 := Lib.hid (fun (V : World) hV => three_any E (some ⟨g, 0, none⟩) q' c' d' hE V hV)
      have HG1 := Lib.hid (fun (V : World) (Y : Option Addr) (Z : Nat) hV hY => goodP_any D p q Y c d l Z f V hn hm hV hY)
      have HG2 := Lib.hid (fun (V : World) (Y : Option Addr) (Z : Nat) hV hY => goodP_any E (some ⟨g, 0, none⟩) q' Y c' d' l Z f V hnE hmE hV hY)
      rw [gd_nw HD.out, Ro.ok_iff.2 HD.out, show chkE true true = 0 from rfl] at HG1
      rw [gd_nw hE, Ro.ok_iff.2 hE, show chkE true true = 0 from rfl] at HG2
      obtain ⟨a1, ea1⟩ : ∃ x, tL D = x := ⟨_, rfl⟩
      obtain ⟨a2, ea2⟩ : ∃ x, tM D = x := ⟨_, rfl⟩
      obtain ⟨a3, ea3⟩ : ∃ x, tN D = x := ⟨_, rfl⟩
      obtain ⟨b1, eb1⟩ : ∃ x, tL E = x := ⟨_, rfl⟩
      obtain ⟨b2, eb2⟩ : ∃ x, tM E = x := ⟨_, rfl⟩
      obtain ⟨b3, eb3⟩ : ∃ x, tN E = x := ⟨_, rfl⟩
      obtain ⟨is, eis⟩ : ∃ x, exB D = x := ⟨_, rfl⟩
      obtain ⟨so, eso⟩ : ∃ x, exB E = x := ⟨_, rfl⟩
      obtain ⟨nw, enw⟩ : ∃ x, isNw D l f = x := ⟨_, rfl⟩
      obtain ⟨st, est⟩ : ∃ x, isNw E l f = x := ⟨_, rfl⟩
      rw [ea1, ea2, ea3, eis] at HT1
      rw [eb1, eb2, eb3, eso] at HT2
      rw [enw] at HG1
      rw [est] at HG2
      rw [ea1, ea2, ea3, eb1, eb2, eb3, eis, eso] at hwt
      rw [enw, est] at hwn
      rw [enw, eis] at hnx
      have HNW := Lib.hid enw
      clear ea1 ea2 ea3 eb1 eb2 eb3 eis eso enw est hE
      have i1 : ((0 : Int) == 0) = true := by decide
      cases is with
      | true =>
        obtain ⟨rfl, t1, t2, t3⟩ := hwt rfl
        have k1 : ¬ a1 < b1 := by omega
        have k2 : ¬ a2 < b2 := by omega
        have k3 : ¬ a3 < b3 := by omega
        have j1 : decide (a1 < b1) = false := by simp; omega
        have j2 : decide (a2 < b2) = false := by simp; omega
        have j3 : decide (a3 < b3) = false := by simp; omega
        clear hwt t1 t2 t3
        cases nw with
        | true =>
          obtain rfl := hwn rfl
          clear hwn hnx
          go_wp2_with fail
          refine (quiet_x (ready_is HRE.out _ hnE hmE (HEc.out _))).mono ?_
          rintro e w' ⟨rfl, y4, rfl⟩
          go_wp2_with fail
          refine (quiet_x (HT1.out _ (HIc.out _))).mono ?_
          rintro e w' ⟨rfl, y5, rfl⟩
          go_wp2_with fail
          refine (quiet_x (HT2.out _ (HEc.out _))).mono ?_
          rintro e w' ⟨rfl, y6, rfl⟩
          go_wp2
          refine wp_region_lastE 8 (by kernel_rfl) rfl (fun s0 => ?_)
          refine wpAnyG_take (i := 0) (v := ?_) (by kernel_rfl) rfl (by kernel_rfl) (by kernel_rfl) (by kernel_rfl) (fun _ _ _ h => h) (Or.inl ⟨by rfl, ?_⟩) ⟨_, rfl⟩ ?_
          rotate_left
          · rintro wS ⟨yS, rfl⟩
            go_simp
            try (with_reducible rfl)
          try simp only [Act.put, List.setIfInBounds_toArray, List.set_cons_zero, List.set_cons_succ]
          refine wpAnyG_take (i := 1) (v := ?_) (by kernel_rfl) rfl (by kernel_rfl) (by kernel_rfl) (by kernel_rfl) (fun _ _ _ h => h) (Or.inl ⟨by rfl, ?_⟩) ⟨_, rfl⟩ ?_
          rotate_left
          · rintro wS ⟨yS, rfl⟩
            go_simp
            try (with_reducible rfl)
          try simp only [Act.put, List.setIfInBounds_toArray, List.set_cons_zero, List.set_cons_succ]
          refine wpAnyG_one (i := 2) (by kernel_rfl) (by decide) (wpOp_plain rfl rfl ?_)
          go_simp
          go_at_call 31
          refine (copied_any l lc f lp _ (by omega) (HLc.out s0)).mono ?_
          rintro e wk ⟨sk, sc, rfl, hnk⟩
          obtain ⟨s1, rfl⟩ : ∃ zz : Ext wc, wk = zz.v := ⟨⟨wk, bT s0.b hnk.below⟩, rfl⟩
          have HNs := Lib.hid hnk.num; clear hnk
          refine ⟨⟨_, rfl⟩, ?_⟩
          try simp only [Act.put, List.setIfInBounds_toArray, List.set_cons_zero, List.set_cons_succ]
          refine wpAnyG_one (i := 3) (by kernel_rfl) (by decide) (wpOp_plain rfl rfl ?_)
          go_simp
          go_at_call 30
          refine (HG1.out _ _ _ (HIc.out s1) HNs.out).mono ?_
          rintro e wg ⟨rfl, hbg⟩
          obtain ⟨s2, rfl⟩ : ∃ zz : Ext wc, wg = zz.v := ⟨⟨wg, bT s1.b hbg⟩, rfl⟩
          clear hbg
          refine ⟨⟨_, rfl⟩, ?_⟩
          try simp only [Act.put, List.setIfInBounds_toArray, List.set_cons_zero, List.set_cons_succ]
          refine wpAnyG_take (i := 4) (v := ?_) (by kernel_rfl) rfl (by kernel_rfl) (by kernel_rfl) (by kernel_rfl) (fun _ _ _ h => h) (Or.inl ⟨by rfl, ?_⟩) ⟨_, rfl⟩ ?_
          rotate_left
          · rintro wS ⟨yS, rfl⟩
            go_simp
            try (with_reducible rfl)
          try simp only [Act.put, List.setIfInBounds_toArray, List.set_cons_zero, List.set_cons_succ]
          refine wpAnyG_take (i := 5) (v := ?_) (by kernel_rfl) rfl (by kernel_rfl) (by kernel_rfl) (by kernel_rfl) (fun _ _ _ h => h) (Or.inl ⟨by rfl, ?_⟩) ⟨_, rfl⟩ ?_
          rotate_left
          · rintro wS ⟨yS, rfl⟩
            go_simp
            try (with_reducible rfl)
          try simp only [Act.put, List.setIfInBounds_toArray, List.set_cons_zero, List.set_cons_succ]
          refine wpAnyG_take (i := 6) (v := ?_) (by kernel_rfl) rfl (by kernel_rfl) (by kernel_rfl) (by kernel_rfl) (fun _ _ _ h => h) (Or.inl ⟨by rfl, ?_⟩) ⟨_, rfl⟩ ?_
          rotate_left
          · rintro wS ⟨yS, rfl⟩
            go_simp
            try (with_reducible rfl)
          try simp only [Act.put, List.setIfInBounds_toArray, List.set_cons_zero, List.set_cons_succ]
          refine wpAnyG_take (i := 7) (v := ?_) (by kernel_rfl) rfl (by kernel_rfl) (by kernel_rfl) (by kernel_rfl) (fun _ _ _ h => h) (Or.inl ⟨by rfl, ?_⟩) ⟨_, rfl⟩ ?_
          rotate_left
          · rintro wS ⟨yS, rfl⟩
            go_simp
            try (with_reducible rfl)
          try simp only [Act.put, List.setIfInBounds_toArray, List.set_cons_zero, List.set_cons_succ]
          refine wpAnyG_done (by kernel_rfl) (by kernel_rfl) (wpOp_plain rfl rfl ?_)
          go_simp
          go_wp2
          refine wp_region_lastE 8 (by kernel_rfl) rfl (fun t0 => ?_)
          refine wpAnyG_take (i := 0) (v := ?_) (by kernel_rfl) rfl (by kernel_rfl) (by kernel_rfl) (by kernel_rfl) (fun _ _ _ h => h) (Or.inl ⟨by rfl, ?_⟩) ⟨_, rfl⟩ ?_
          rotate_left
          · rintro wS ⟨yS, rfl⟩
            go_simp
            try (with_reducible rfl)
          try simp only [Act.put, List.setIfInBounds_toArray, List.set_cons_zero, List.set_cons_succ]
          refine wpAnyG_take (i := 1) (v := ?_) (by kernel_rfl) rfl (by kernel_rfl) (by kernel_rfl) (by kernel_rfl) (fun _ _ _ h => h) (Or.inl ⟨by rfl, ?_⟩) ⟨_, rfl⟩ ?_
          rotate_left
          · rintro wS ⟨yS, rfl⟩
            go_simp
            try (with_reducible rfl)
          try simp only [Act.put, List.setIfInBounds_toArray, List.set_cons_zero, List.set_cons_succ]
          refine wpAnyG_one (i := 2) (by kernel_rfl) (by decide) (wpOp_plain rfl rfl ?_)
          go_simp
          go_at_call 31
          refine (copied_any l lc f lp _ (by omega) (HLc.out t0)).mono ?_
          rintro e wk ⟨tk, tc, rfl, hnk⟩
          obtain ⟨t1, rfl⟩ : ∃ zz : Ext wc, wk = zz.v := ⟨⟨wk, bT t0.b hnk.below⟩, rfl⟩
          have HNt := Lib.hid hnk.num; clear hnk
          refine ⟨⟨_, rfl⟩, ?_⟩
          try simp only [Act.put, List.setIfInBounds_toArray, List.set_cons_zero, List.set_cons_succ]
          refine wpAnyG_one (i := 3) (by kernel_rfl) (by decide) (wpOp_plain rfl rfl ?_)
          go_simp
          go_at_call 30
          refine (HG2.out _ _ _ (HEc.out t1) HNt.out).mono ?_
          rintro e wg ⟨rfl, hbg⟩
          obtain ⟨t2, rfl⟩ : ∃ zz : Ext wc, wg = zz.v := ⟨⟨wg, bT t1.b hbg⟩, rfl⟩
          clear hbg
          refine ⟨⟨_, rfl⟩, ?_⟩
          try simp only [Act.put, List.setIfInBounds_toArray, List.set_cons_zero, List.set_cons_succ]
          refine wpAnyG_take (i := 4) (v := ?_) (by kernel_rfl) rfl (by kernel_rfl) (by kernel_rfl) (by kernel_rfl) (fun _ _ _ h => h) (Or.inl ⟨by rfl, ?_⟩) ⟨_, rfl⟩ ?_
          rotate_left
          · rintro wS ⟨yS, rfl⟩
            go_simp
            try (with_reducible rfl)
          try simp only [Act.put, List.setIfInBounds_toArray, List.set_cons_zero, List.set_cons_succ]
          refine wpAnyG_take (i := 5) (v := ?_) (by kernel_rfl) rfl (by kernel_rfl) (by kernel_rfl) (by kernel_rfl) (fun _ _ _ h => h) (Or.inl ⟨by rfl, ?_⟩) ⟨_, rfl⟩ ?_
          rotate_left
          · rintro wS ⟨yS, rfl⟩
            go_simp
            try (with_reducible rfl)
          try simp only [Act.put, List.setIfInBounds_toArray, List.set_cons_zero, List.set_cons_succ]
          refine wpAnyG_take (i := 6) (v := ?_) (by kernel_rfl) rfl (by kernel_rfl) (by kernel_rfl) (by kernel_rfl) (fun _ _ _ h => h) (Or.inl ⟨by rfl, ?_⟩) ⟨_, rfl⟩ ?_
          rotate_left
          · rintro wS ⟨yS, rfl⟩
            go_simp
            try (with_reducible rfl)
          try simp only [Act.put, List.setIfInBounds_toArray, List.set_cons_zero, List.set_cons_succ]
          refine wpAnyG_take (i := 7) (v := ?_) (by kernel_rfl) rfl (by kernel_rfl) (by kernel_rfl) (by kernel_rfl) (fun _ _ _ h => h) (Or.inl ⟨by rfl, ?_⟩) ⟨_, rfl⟩ ?_
          rotate_left
          · rintro wS ⟨yS, rfl⟩
            go_simp
            try (with_reducible rfl)
          try simp only [Act.put, List.setIfInBounds_toArray, List.set_cons_zero, List.set_cons_succ]
          refine wpAnyG_done (by kernel_rfl) (by kernel_rfl) (wpOp_plain rfl rfl ?_)
          go_simp
          go_wp2_with fail
          refine (quiet_x (isNewR_is HNW.out _ HD.out (HIc.out _) (HLc.out _))).mono ?_
          rintro e w' ⟨rfl, y9, rfl⟩
          go_wp2_with fail
          refine (quiet_x (works_ex _)).mono ?_
          rintro e w' ⟨rfl, y10, rfl⟩
          go_wp2
          go_ret
          exact ⟨rfl, HWc.out y10⟩
        | false =>
          clear hwn hnx
          go_wp2_with fail
          refine (quiet_x (ready_is HRE.out _ hnE hmE (HEc.out _))).mono ?_
          rintro e w' ⟨rfl, y4, rfl⟩
          go_wp2_with fail
          refine (quiet_x (HT1.out _ (HIc.out _))).mono ?_
          rintro e w' ⟨rfl, y5, rfl⟩
          go_wp2_with fail
          refine (quiet_x (HT2.out _ (HEc.out _))).mono ?_
          rintro e w' ⟨rfl, y6, rfl⟩
          go_wp2
          refine wp_region_lastE 8 (by kernel_rfl) rfl (fun s0 => ?_)
          refine wpAnyG_take (i := 0) (v := ?_) (by kernel_rfl) rfl (by kernel_rfl) (by kernel_rfl) (by kernel_rfl) (fun _ _ _ h => h) (Or.inl ⟨by rfl, ?_⟩) ⟨_, rfl⟩ ?_
          rotate_left
          · rintro wS ⟨yS, rfl⟩
            go_simp
            try (with_reducible rfl)
          try simp only [Act.put, List.setIfInBounds_toArray, List.set_cons_zero, List.set_cons_succ]
          refine wpAnyG_take (i := 1) (v := ?_) (by kernel_rfl) rfl (by kernel_rfl) (by kernel_rfl) (by kernel_rfl) (fun _ _ _ h => h) (Or.inl ⟨by rfl, ?_⟩) ⟨_, rfl⟩ ?_
          rotate_left
          · rintro wS ⟨yS, rfl⟩
            go_simp
            try (with_reducible rfl)
          try simp only [Act.put, List.setIfInBounds_toArray, List.set_cons_zero, List.set_cons_succ]
          refine wpAnyG_one (i := 2) (by kernel_rfl) (by decide) (wpOp_plain rfl rfl ?_)
          go_simp
          go_at_call 31
          refine (copied_any l lc f lp _ (by omega) (HLc.out s0)).mono ?_
          rintro e wk ⟨sk, sc, rfl, hnk⟩
          obtain ⟨s1, rfl⟩ : ∃ zz : Ext wc, wk = zz.v := ⟨⟨wk, bT s0.b hnk.below⟩, rfl⟩
          have HNs := Lib.hid hnk.num; clear hnk
          refine ⟨⟨_, rfl⟩, ?_⟩
          try simp only [Act.put, List.setIfInBounds_toArray, List.set_cons_zero, List.set_cons_succ]
          refine wpAnyG_one (i := 3) (by kernel_rfl) (by decide) (wpOp_plain rfl rfl ?_)
          go_simp
          go_at_call 30
          refine (HG1.out _ _ _ (HIc.out s1) HNs.out).mono ?_
          rintro e wg ⟨rfl, hbg⟩
          obtain ⟨s2, rfl⟩ : ∃ zz : Ext wc, wg = zz.v := ⟨⟨wg, bT s1.b hbg⟩, rfl⟩
          clear hbg
          refine ⟨⟨_, rfl⟩, ?_⟩
          try simp only [Act.put, List.setIfInBounds_toArray, List.set_cons_zero, List.set_cons_succ]
          refine wpAnyG_take (i := 4) (v := ?_) (by kernel_rfl) rfl (by kernel_rfl) (by kernel_rfl) (by kernel_rfl) (fun _ _ _ h => h) (Or.inl ⟨by rfl, ?_⟩) ⟨_, rfl⟩ ?_
          rotate_left
          · rintro wS ⟨yS, rfl⟩
            go_simp
            try (with_reducible rfl)
          try simp only [Act.put, List.setIfInBounds_toArray, List.set_cons_zero, List.set_cons_succ]
          refine wpAnyG_take (i := 5) (v := ?_) (by kernel_rfl) rfl (by kernel_rfl) (by kernel_rfl) (by kernel_rfl) (fun _ _ _ h => h) (Or.inl ⟨by rfl, ?_⟩) ⟨_, rfl⟩ ?_
          rotate_left
          · rintro wS ⟨yS, rfl⟩
            go_simp
            try (with_reducible rfl)
          try simp only [Act.put, List.setIfInBounds_toArray, List.set_cons_zero, List.set_cons_succ]
          refine wpAnyG_take (i := 6) (v := ?_) (by kernel_rfl) rfl (by kernel_rfl) (by kernel_rfl) (by kernel_rfl) (fun _ _ _ h => h) (Or.inl ⟨by rfl, ?_⟩) ⟨_, rfl⟩ ?_
          rotate_left
          · rintro wS ⟨yS, rfl⟩
            go_simp
            try (with_reducible rfl)
          try simp only [Act.put, List.setIfInBounds_toArray, List.set_cons_zero, List.set_cons_succ]
          refine wpAnyG_take (i := 7) (v := ?_) (by kernel_rfl) rfl (by kernel_rfl) (by kernel_rfl) (by kernel_rfl) (fun _ _ _ h => h) (Or.inl ⟨by rfl, ?_⟩) ⟨_, rfl⟩ ?_
          rotate_left
          · rintro wS ⟨yS, rfl⟩
            go_simp
            try (with_reducible rfl)
          try simp only [Act.put, List.setIfInBounds_toArray, List.set_cons_zero, List.set_cons_succ]
          refine wpAnyG_done (by kernel_rfl) (by kernel_rfl) (wpOp_plain rfl rfl ?_)
          go_simp
          go_wp2
          refine wp_region_lastE 8 (by kernel_rfl) rfl (fun t0 => ?_)
          refine wpAnyG_take (i := 0) (v := ?_) (by kernel_rfl) rfl (by kernel_rfl) (by kernel_rfl) (by kernel_rfl) (fun _ _ _ h => h) (Or.inl ⟨by rfl, ?_⟩) ⟨_, rfl⟩ ?_
          rotate_left
          · rintro wS ⟨yS, rfl⟩
            go_simp
            try (with_reducible rfl)
          try simp only [Act.put, List.setIfInBounds_toArray, List.set_cons_zero, List.set_cons_succ]
          refine wpAnyG_take (i := 1) (v := ?_) (by kernel_rfl) rfl (by kernel_rfl) (by kernel_rfl) (by kernel_rfl) (fun _ _ _ h => h) (Or.inl ⟨by rfl, ?_⟩) ⟨_, rfl⟩ ?_
          rotate_left
          · rintro wS ⟨yS, rfl⟩
            go_simp
            try (with_reducible rfl)
          try simp only [Act.put, List.setIfInBounds_toArray, List.set_cons_zero, List.set_cons_succ]
          refine wpAnyG_one (i := 2) (by kernel_rfl) (by decide) (wpOp_plain rfl rfl ?_)
          go_simp
          go_at_call 31
          refine (copied_any l lc f lp _ (by omega) (HLc.out t0)).mono ?_
          rintro e wk ⟨tk, tc, rfl, hnk⟩
          obtain ⟨t1, rfl⟩ : ∃ zz : Ext wc, wk = zz.v := ⟨⟨wk, bT t0.b hnk.below⟩, rfl⟩
          have HNt := Lib.hid hnk.num; clear hnk
          refine ⟨⟨_, rfl⟩, ?_⟩
          try simp only [Act.put, List.setIfInBounds_toArray, List.set_cons_zero, List.set_cons_succ]
          refine wpAnyG_one (i := 3) (by kernel_rfl) (by decide) (wpOp_plain rfl rfl ?_)
          go_simp
          go_at_call 30
          refine (HG2.out _ _ _ (HEc.out t1) HNt.out).mono ?_
          rintro e wg ⟨rfl, hbg⟩
          obtain ⟨t2, rfl⟩ : ∃ zz : Ext wc, wg = zz.v := ⟨⟨wg, bT t1.b hbg⟩, rfl⟩
          clear hbg
          refine ⟨⟨_, rfl⟩, ?_⟩
          try simp only [Act.put, List.setIfInBounds_toArray, List.set_cons_zero, List.set_cons_succ]
          refine wpAnyG_take (i := 4) (v := ?_) (by kernel_rfl) rfl (by kernel_rfl) (by kernel_rfl) (by kernel_rfl) (fun _ _ _ h => h) (Or.inl ⟨by rfl, ?_⟩) ⟨_, rfl⟩ ?_
          rotate_left
          · rintro wS ⟨yS, rfl⟩
            go_simp
            try (with_reducible rfl)
          try simp only [Act.put, List.setIfInBounds_toArray, List.set_cons_zero, List.set_cons_succ]
          refine wpAnyG_take (i := 5) (v := ?_) (by kernel_rfl) rfl (by kernel_rfl) (by kernel_rfl) (by kernel_rfl) (fun _ _ _ h => h) (Or.inl ⟨by rfl, ?_⟩) ⟨_, rfl⟩ ?_
          rotate_left
          · rintro wS ⟨yS, rfl⟩
            go_simp
            try (with_reducible rfl)
          try simp only [Act.put, List.setIfInBounds_toArray, List.set_cons_zero, List.set_cons_succ]
          refine wpAnyG_take (i := 6) (v := ?_) (by kernel_rfl) rfl (by kernel_rfl) (by kernel_rfl) (by kernel_rfl) (fun _ _ _ h => h) (Or.inl ⟨by rfl, ?_⟩) ⟨_, rfl⟩ ?_
          rotate_left
          · rintro wS ⟨yS, rfl⟩
            go_simp
            try (with_reducible rfl)
          try simp only [Act.put, List.setIfInBounds_toArray, List.set_cons_zero, List.set_cons_succ]
          refine wpAnyG_take (i := 7) (v := ?_) (by kernel_rfl) rfl (by kernel_rfl) (by kernel_rfl) (by kernel_rfl) (fun _ _ _ h => h) (Or.inl ⟨by rfl, ?_⟩) ⟨_, rfl⟩ ?_
          rotate_left
          · rintro wS ⟨yS, rfl⟩
            go_simp
            try (with_reducible rfl)
          try simp only [Act.put, List.setIfInBounds_toArray, List.set_cons_zero, List.set_cons_succ]
          refine wpAnyG_done (by kernel_rfl) (by kernel_rfl) (wpOp_plain rfl rfl ?_)
          go_simp
          go_wp2_with fail
          refine (quiet_x (isNewR_is HNW.out _ HD.out (HIc.out _) (HLc.out _))).mono ?_
          rintro e w' ⟨rfl, y9, rfl⟩
          go_wp2_with fail
          refine (quiet_x (works_ex _)).mono ?_
          rintro e w' ⟨rfl, y10, rfl⟩
          go_wp2
          go_ret
          exact ⟨rfl, HWc.out y10⟩
      | false =>
        cases nw with
        | true => exact absurd (hnx rfl) (by simp)
        | false =>
          clear hwt hwn hnx
          go_wp2_with fail
          refine (quiet_x (ready_is HRE.out _ hnE hmE (HEc.out _))).mono ?_
          rintro e w' ⟨rfl, y4, rfl⟩
          go_wp2_with fail
          refine (quiet_x (HT1.out _ (HIc.out _))).mono ?_
          rintro e w' ⟨rfl, y5, rfl⟩
          go_wp2_with fail
          refine (quiet_x (HT2.out _ (HEc.out _))).mono ?_
          rintro e w' ⟨rfl, y6, rfl⟩
          go_wp2
          refine wp_region_lastE 8 (by kernel_rfl) rfl (fun s0 => ?_)
          refine wpAnyG_take (i := 0) (v := ?_) (by kernel_rfl) rfl (by kernel_rfl) (by kernel_rfl) (by kernel_rfl) (fun _ _ _ h => h) (Or.inl ⟨by rfl, ?_⟩) ⟨_, rfl⟩ ?_
          rotate_left
          · rintro wS ⟨yS, rfl⟩
            go_simp
            try (with_reducible rfl)
          try simp only [Act.put, List.setIfInBounds_toArray, List.set_cons_zero, List.set_cons_succ]
          refine wpAnyG_take (i := 1) (v := ?_) (by kernel_rfl) rfl (by kernel_rfl) (by kernel_rfl) (by kernel_rfl) (fun _ _ _ h => h) (Or.inl ⟨by rfl, ?_⟩) ⟨_, rfl⟩ ?_
          rotate_left
          · rintro wS ⟨yS, rfl⟩
            go_simp
            try (with_reducible rfl)
          try simp only [Act.put, List.setIfInBounds_toArray, List.set_cons_zero, List.set_cons_succ]
          refine wpAnyG_one (i := 2) (by kernel_rfl) (by decide) (wpOp_plain rfl rfl ?_)
          go_simp
          go_at_call 31
          refine (copied_any l lc f lp _ (by omega) (HLc.out s0)).mono ?_
          rintro e wk ⟨sk, sc, rfl, hnk⟩
          obtain ⟨s1, rfl⟩ : ∃ zz : Ext wc, wk = zz.v := ⟨⟨wk, bT s0.b hnk.below⟩, rfl⟩
          have HNs := Lib.hid hnk.num; clear hnk
          refine ⟨⟨_, rfl⟩, ?_⟩
          try simp only [Act.put, List.setIfInBounds_toArray, List.set_cons_zero, List.set_cons_succ]
          refine wpAnyG_one (i := 3) (by kernel_rfl) (by decide) (wpOp_plain rfl rfl ?_)
          go_simp
          go_at_call 30
          refine (HG1.out _ _ _ (HIc.out s1) HNs.out).mono ?_
          rintro e wg ⟨rfl, hbg⟩
          obtain ⟨s2, rfl⟩ : ∃ zz : Ext wc, wg = zz.v := ⟨⟨wg, bT s1.b hbg⟩, rfl⟩
          clear hbg
          refine ⟨⟨_, rfl⟩, ?_⟩
          try simp only [Act.put, List.setIfInBounds_toArray, List.set_cons_zero, List.set_cons_succ]
          refine wpAnyG_take (i := 4) (v := ?_) (by kernel_rfl) rfl (by kernel_rfl) (by kernel_rfl) (by kernel_rfl) (fun _ _ _ h => h) (Or.inl ⟨by rfl, ?_⟩) ⟨_, rfl⟩ ?_
          rotate_left
          · rintro wS ⟨yS, rfl⟩
            go_simp
            try (with_reducible rfl)
          try simp only [Act.put, List.setIfInBounds_toArray, List.set_cons_zero, List.set_cons_succ]
          refine wpAnyG_take (i := 5) (v := ?_) (by kernel_rfl) rfl (by kernel_rfl) (by kernel_rfl) (by kernel_rfl) (fun _ _ _ h => h) (Or.inl ⟨by rfl, ?_⟩) ⟨_, rfl⟩ ?_
          rotate_left
          · rintro wS ⟨yS, rfl⟩
            go_simp
            try (with_reducible rfl)
          try simp only [Act.put, List.setIfInBounds_toArray, List.set_cons_zero, List.set_cons_succ]
          refine wpAnyG_take (i := 6) (v := ?_) (by kernel_rfl) rfl (by kernel_rfl) (by kernel_rfl) (by kernel_rfl) (fun _ _ _ h => h) (Or.inl ⟨by rfl, ?_⟩) ⟨_, rfl⟩ ?_
          rotate_left
          · rintro wS ⟨yS, rfl⟩
            go_simp
            try (with_reducible rfl)
          try simp only [Act.put, List.setIfInBounds_toArray, List.set_cons_zero, List.set_cons_succ]
          refine wpAnyG_take (i := 7) (v := ?_) (by kernel_rfl) rfl (by kernel_rfl) (by kernel_rfl) (by kernel_rfl) (fun _ _ _ h => h) (Or.inl ⟨by rfl, ?_⟩) ⟨_, rfl⟩ ?_
          rotate_left
          · rintro wS ⟨yS, rfl⟩
            go_simp
            try (with_reducible rfl)
          try simp only [Act.put, List.setIfInBounds_toArray, List.set_cons_zero, List.set_cons_succ]
          refine wpAnyG_done (by kernel_rfl) (by kernel_rfl) (wpOp_plain rfl rfl ?_)
          go_simp
          go_wp2
          refine wp_region_lastE 8 (by kernel_rfl) rfl (fun t0 => ?_)
          refine wpAnyG_take (i := 0) (v := ?_) (by kernel_rfl) rfl (by kernel_rfl) (by kernel_rfl) (by kernel_rfl) (fun _ _ _ h => h) (Or.inl ⟨by rfl, ?_⟩) ⟨_, rfl⟩ ?_
          rotate_left
          · rintro wS ⟨yS, rfl⟩
            go_simp
            try (with_reducible rfl)
          try simp only [Act.put, List.setIfInBounds_toArray, List.set_cons_zero, List.set_cons_succ]
          refine wpAnyG_take (i := 1) (v := ?_) (by kernel_rfl) rfl (by kernel_rfl) (by kernel_rfl) (by kernel_rfl) (fun _ _ _ h => h) (Or.inl ⟨by rfl, ?_⟩) ⟨_, rfl⟩ ?_
          rotate_left
          · rintro wS ⟨yS, rfl⟩
            go_simp
            try (with_reducible rfl)
          try simp only [Act.put, List.setIfInBounds_toArray, List.set_cons_zero, List.set_cons_succ]
          refine wpAnyG_one (i := 2) (by kernel_rfl) (by decide) (wpOp_plain rfl rfl ?_)
          go_simp
          go_at_call 31
          refine (copied_any l lc f lp _ (by omega) (HLc.out t0)).mono ?_
          rintro e wk ⟨tk, tc, rfl, hnk⟩
          obtain ⟨t1, rfl⟩ : ∃ zz : Ext wc, wk = zz.v := ⟨⟨wk, bT t0.b hnk.below⟩, rfl⟩
          have HNt := Lib.hid hnk.num; clear hnk
          refine ⟨⟨_, rfl⟩, ?_⟩
          try simp only [Act.put, List.setIfInBounds_toArray, List.set_cons_zero, List.set_cons_succ]
          refine wpAnyG_one (i := 3) (by kernel_rfl) (by decide) (wpOp_plain rfl rfl ?_)
          go_simp
          go_at_call 30
          refine (HG2.out _ _ _ (HEc.out t1) HNt.out).mono ?_
          rintro e wg ⟨rfl, hbg⟩
          obtain ⟨t2, rfl⟩ : ∃ zz : Ext wc, wg = zz.v := ⟨⟨wg, bT t1.b hbg⟩, rfl⟩
          clear hbg
          refine ⟨⟨_, rfl⟩, ?_⟩
          try simp only [Act.put, List.setIfInBounds_toArray, List.set_cons_zero, List.set_cons_succ]
          refine wpAnyG_take (i := 4) (v := ?_) (by kernel_rfl) rfl (by kernel_rfl) (by kernel_rfl) (by kernel_rfl) (fun _ _ _ h => h) (Or.inl ⟨by rfl, ?_⟩) ⟨_, rfl⟩ ?_
          rotate_left
          · rintro wS ⟨yS, rfl⟩
            go_simp
            try (with_reducible rfl)
          try simp only [Act.put, List.setIfInBounds_toArray, List.set_cons_zero, List.set_cons_succ]
          refine wpAnyG_take (i := 5) (v := ?_) (by kernel_rfl) rfl (by kernel_rfl) (by kernel_rfl) (by kernel_rfl) (fun _ _ _ h => h) (Or.inl ⟨by rfl, ?_⟩) ⟨_, rfl⟩ ?_
          rotate_left
          · rintro wS ⟨yS, rfl⟩
            go_simp
            try (with_reducible rfl)
          try simp only [Act.put, List.setIfInBounds_toArray, List.set_cons_zero, List.set_cons_succ]
          refine wpAnyG_take (i := 6) (v := ?_) (by kernel_rfl) rfl (by kernel_rfl) (by kernel_rfl) (by kernel_rfl) (fun _ _ _ h => h) (Or.inl ⟨by rfl, ?_⟩) ⟨_, rfl⟩ ?_
          rotate_left
          · rintro wS ⟨yS, rfl⟩
            go_simp
            try (with_reducible rfl)
          try simp only [Act.put, List.setIfInBounds_toArray, List.set_cons_zero, List.set_cons_succ]
          refine wpAnyG_take (i := 7) (v := ?_) (by kernel_rfl) rfl (by kernel_rfl) (by kernel_rfl) (by kernel_rfl) (fun _ _ _ h => h) (Or.inl ⟨by rfl, ?_⟩) ⟨_, rfl⟩ ?_
          rotate_left
          · rintro wS ⟨yS, rfl⟩
            go_simp
            try (with_reducible rfl)
          try simp only [Act.put, List.setIfInBounds_toArray, List.set_cons_zero, List.set_cons_succ]
          refine wpAnyG_done (by kernel_rfl) (by kernel_rfl) (wpOp_plain rfl rfl ?_)
          go_simp
          go_wp2_with fail
          refine (quiet_x (isNewR_is HNW.out _ HD.out (HIc.out _) (HLc.out _))).mono ?_
          rintro e w' ⟨rfl, y9, rfl⟩
          go_wp2_with fail
          refine (quiet_x (works_ex _)).mono ?_
          rintro e w' ⟨rfl, y10, rfl⟩
          go_wp2
          go_ret
          exact ⟨rfl, HWc.out y10⟩
theorem more_law (D : Ro) (p q : Option Addr) (c d : Nat) (lp : Option Addr) (lc l : Nat) (f : Nat → Int) (g0 g1 g2 : Int) (g3 g4 : Bool) (w : World) (hn : D.n ≤ maxLen) (hm : D.m ≤ maxLen) (hl : l ≤ maxLen) (hi : RoIn w w.heap.size D p q) (hf : NumIn w w.heap.size l f lp) :
    Calls Try.prog 5 #[.agg #[.slice p D.n c, .slice q D.m d], .slice lp l lc, .agg #[.int .i64 g0, .int .i64 g1, .int .i64 g2, .bool g3, .bool g4]] w fun e w' => e = .returned (.bool true) ∧ Below w.heap.size w w' := by
  cases hr : rdy D with
  | false => exact more_o1 D p q c d lp lc l f g0 g1 g2 g3 g4 w hn hm hl hr hi hf
  | true =>
    by_cases h4 : 40 < l
    · exact more_o2 D p q c d lp lc l f g0 g1 g2 g3 g4 w hn hm hl hr h4 hi hf
    · cases hh : isH D g0 with
      | false => exact more_o3 D p q c d lp lc l f g0 g1 g2 g3 g4 w hn hm (by omega) hr hh hi hf
      | true =>
        cases hv : within g1 0 6 with
        | false => exact more_o4 D p q c d lp lc l f g0 g1 g2 g3 g4 w hn hm (by omega) hr hh hv hi hf
        | true =>
          obtain ⟨h1, h2⟩ := isH_iff.1 hh
          obtain ⟨h, rfl⟩ : ∃ h : Nat, g0 = (h : Int) := ⟨g0.toNat, by omega⟩
          exact more_in D p q c d lp lc l f g1 g2 g3 g4 w hr (by omega) h (by omega) (within_iff.1 hv) hi hf
end Go.Proofs.Ytegkgfiaegpihaa
