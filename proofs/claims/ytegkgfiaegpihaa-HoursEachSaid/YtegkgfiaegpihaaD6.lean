/- HoursEach returns true in every walk. -/
import Derived.Test.YtegkgfiaegpihaaF14

import Derived.Test.YtegkgfiaegpihaaM7

set_option linter.unusedSimpArgs false

set_option linter.unusedVariables false

namespace Go.Proofs.Ytegkgfiaegpihaa

open Go.RowKit

theorem within1_is {n lo hi : Int} {b : Bool} (h : within n lo hi = b) (w : World) : Calls Try.prog 21 #[.int .i64 n, .int .i64 lo, .int .i64 hi] w fun e w' => e = .returned (.bool b) ∧ w = w' := by subst h; exact within1_any n lo hi w
set_option maxRecDepth 100000 in
set_option maxHeartbeats 4000000 in
theorem each_o1 (D : Ro) (p q : Option Addr) (c d : Nat) (lp : Option Addr) (lc l : Nat) (f : Nat → Int) (w : World) (hn : D.n ≤ maxLen) (hm : D.m ≤ maxLen) (hl : l ≤ maxLen) (hr : rdy D = false) (hi : RoIn w w.heap.size D p q) (hf : NumIn w w.heap.size l f lp) :
    Calls Try.prog 3 #[.agg #[.slice p D.n c, .slice q D.m d], .slice lp l lc] w fun e w' => e = .returned (.bool true) ∧ Below w.heap.size w w' := by
  obtain ⟨w1, x1, hw1, hb1, hz1, F0i, F1i, _⟩ := box_ro w p q D.n D.m c d
  have HW_0 : Hid (∀ z : Ext w1, Below w.heap.size w z.v) := fun z => bT hb1 z.b
  have HI_0 : Hid (∀ z : Ext w1, RoIn z.v z.v.heap.size D p q) := fun z => (hi.bel hb1).bel z.b
  have HL_0 : Hid (∀ z : Ext w1, NumIn z.v z.v.heap.size l f lp) := fun z => (hf.bel hb1).bel z.b
  clear hb1 hz1 hi hf
  have F0_0 : ∀ z : Ext w1, z.v.cell? ⟨w.heap.size, 0, none⟩ = some (.slice p D.n c) := fun z => F0i z
  have F1_0 : ∀ z : Ext w1, z.v.cell? ⟨w.heap.size, 1, none⟩ = some (.slice q D.m d) := fun z => F1i z
  have HR := Lib.hid hr; clear hr
  go_enter Try.func3, Try.ntmps3
  go_wp2_with fail
  refine (quiet_x (ready_is HR.out _ hn hm (HI_0.out _))).mono ?_
  rintro e w' ⟨rfl, y, rfl⟩
  go_wp2_with fail
  refine (quiet_x (works_ex _)).mono ?_
  rintro e w' ⟨rfl, y2, rfl⟩
  go_wp2
  go_ret
  exact ⟨rfl, HW_0.out y2⟩
set_option maxRecDepth 100000 in
set_option maxHeartbeats 4000000 in
theorem each_o2 (D : Ro) (p q : Option Addr) (c d : Nat) (lp : Option Addr) (lc l : Nat) (f : Nat → Int) (w : World) (hn : D.n ≤ maxLen) (hm : D.m ≤ maxLen) (hl : l ≤ maxLen) (hr : rdy D = true) (h4 : 40 < l) (hi : RoIn w w.heap.size D p q) (hf : NumIn w w.heap.size l f lp) :
    Calls Try.prog 3 #[.agg #[.slice p D.n c, .slice q D.m d], .slice lp l lc] w fun e w' => e = .returned (.bool true) ∧ Below w.heap.size w w' := by
  obtain ⟨w1, x1, hw1, hb1, hz1, F0i, F1i, _⟩ := box_ro w p q D.n D.m c d
  have HW_0 : Hid (∀ z : Ext w1, Below w.heap.size w z.v) := fun z => bT hb1 z.b
  have HI_0 : Hid (∀ z : Ext w1, RoIn z.v z.v.heap.size D p q) := fun z => (hi.bel hb1).bel z.b
  have HL_0 : Hid (∀ z : Ext w1, NumIn z.v z.v.heap.size l f lp) := fun z => (hf.bel hb1).bel z.b
  clear hb1 hz1 hi hf
  have F0_0 : ∀ z : Ext w1, z.v.cell? ⟨w.heap.size, 0, none⟩ = some (.slice p D.n c) := fun z => F0i z
  have F1_0 : ∀ z : Ext w1, z.v.cell? ⟨w.heap.size, 1, none⟩ = some (.slice q D.m d) := fun z => F1i z
  have HR := Lib.hid hr; clear hr
  have j4 : decide (40 < (l : Int)) = true := by simp; omega
  go_enter Try.func3, Try.ntmps3
  go_wp2_with fail
  refine (quiet_x (ready_is HR.out _ hn hm (HI_0.out _))).mono ?_
  rintro e w' ⟨rfl, y, rfl⟩
  go_wp2_with fail
  refine (quiet_x (works_ex _)).mono ?_
  rintro e w' ⟨rfl, y2, rfl⟩
  go_wp2
  go_ret
  exact ⟨rfl, HW_0.out y2⟩
set_option maxRecDepth 100000 in
set_option maxHeartbeats 16000000 in
theorem each_no (D : Ro) (p q : Option Addr) (c d : Nat) (lp : Option Addr) (lc l : Nat) (f : Nat → Int) (w : World) (hr : rdy D = true) (hl : l ≤ 40) (hcap : D.n ≤ c) (hx : exB D = false) (hi : RoIn w w.heap.size D p q) (hf : NumIn w w.heap.size l f lp) :
    Calls Try.prog 3 #[.agg #[.slice p D.n c, .slice q D.m d], .slice lp l lc] w fun e w' => e = .returned (.bool true) ∧ Below w.heap.size w w' := by
  obtain ⟨w1, x1, hw1, hb1, hz1, F0i, F1i, _⟩ := box_ro w p q D.n D.m c d
  have HW_0 : Hid (∀ z : Ext w1, Below w.heap.size w z.v) := fun z => bT hb1 z.b
  have HI_0 : Hid (∀ z : Ext w1, RoIn z.v z.v.heap.size D p q) := fun z => (hi.bel hb1).bel z.b
  have HL_0 : Hid (∀ z : Ext w1, NumIn z.v z.v.heap.size l f lp) := fun z => (hf.bel hb1).bel z.b
  clear hb1 hz1 hi hf
  have F0_0 : ∀ z : Ext w1, z.v.cell? ⟨w.heap.size, 0, none⟩ = some (.slice p D.n c) := fun z => F0i z
  have F1_0 : ∀ z : Ext w1, z.v.cell? ⟨w.heap.size, 1, none⟩ = some (.slice q D.m d) := fun z => F1i z
  obtain ⟨hn8, hm6, hD, _⟩ := rdy_parts hr
  have HR := Lib.hid hr; have HD := Lib.hid hD; clear hr hD
  have hn : D.n ≤ maxLen := by unfold maxLen; omega
  have hm : D.m ≤ maxLen := by unfold maxLen; omega
  have j4 : decide (40 < (l : Int)) = false := by simp; omega
  have h40 : ¬ 40 < l := by omega
  have HT := Lib.hid (fun (V : World) hV => three_any D p q c d HD.out V hV)
  have HLK := Lib.hid (fun (V : World) hV => lackP_any D p q c d V HD.out hcap hV)
  have i0 : ((0 : Int) == 0) = true := by decide
  have i3 : ((3 : Int) == 0) = false := by decide
  have i33 : ((3 : Int) != 3) = false := by decide
  have i03 : ((0 : Int) != 0) = false := by decide
  have i30 : ((3 : Int) != 0) = true := by decide
  have hnw : isNw D l f = false := by
    cases h : isNw D l f with
    | false => rfl
    | true => rw [nw_ex HD.out h] at hx; cases hx
  have HNW := Lib.hid hnw; clear hnw
  have HRO := Lib.hid (fun (V : World) hV => roster_no D p q c d HD.out V hV hx)
  have HFA := Lib.hid (fun (V : World) hV => fair_no D p q c d HD.out V hV hx)
  have e1 : tL D = 0 := by simp [tL, hx]
  have e2 : tM D = 0 := by simp [tM, hx]
  have e3 : tN D = 0 := by simp [tN, hx]
  rw [e1, e2, e3, hx] at HT
  obtain ⟨lo, hi2, hlk⟩ : ∃ lo hi2, lkT D D.n = some (lo, hi2) := by
    cases h : lkT D D.n with
    | none => rw [(exB_iff HD.out).2 ((ex_iff_lack HD.out).2 h)] at hx; cases hx
    | some x => exact ⟨x.1, x.2, rfl⟩
  obtain ⟨l1, l2, l3⟩ := (lkT_spec (D := D) (k := D.n)).2 _ _ hlk
  have ea : lkA D = (lo : Int) := by unfold lkA; rw [hlk]
  have eb : lkB D = (hi2 : Int) := by unfold lkB; rw [hlk]
  have ee : lkE D = 0 := by unfold lkE; rw [hlk]; rfl
  rw [ea, eb, ee] at HLK
  have HLR := Lib.hid (fun (V : World) hV => lacksR_is (p := p) (q := q) (c := c) (d := d) l3 V HD.out l1 l2 hV)
  obtain ⟨la, hla⟩ : ∃ a : Int, (lo : Int) = a := ⟨_, rfl⟩
  obtain ⟨lb, hlb⟩ : ∃ a : Int, (hi2 : Int) = a := ⟨_, rfl⟩
  rw [hla, hlb] at HLK HLR
  have HWI := Lib.hid (show within la 0 lb = true from within_tt (by omega) (by omega))
  have jl : decide (lb < (D.n : Int)) = true := by simp; omega
  have jl2 : lb < (D.n : Int) := by omega
  clear hx e1 e2 e3 hlk l1 l2 l3 ea eb ee hla hlb
  go_enter Try.func3, Try.ntmps3
  go_wp2_with fail
  refine (quiet_x (ready_is HR.out _ hn hm (HI_0.out _))).mono ?_
  rintro e w' ⟨rfl, y, rfl⟩
  go_wp2_with fail
  refine (quiet_x (HT.out _ (HI_0.out _))).mono ?_
  rintro e w' ⟨rfl, y1, rfl⟩
  go_wp2_with fail
  refine (quiet_x (HRO.out _ (HI_0.out _))).mono ?_
  rintro e w' ⟨rfl, y2, rfl⟩
  go_wp2_with fail
  refine (quiet_x (HFA.out _ (HI_0.out _))).mono ?_
  rintro e w' ⟨rfl, y3, rfl⟩
  go_wp2_with fail
  refine (HLK.out _ (HI_0.out y3)).mono ?_
  rintro e w6 ⟨rfl, hbw6⟩
  obtain ⟨w7, x7, hw7, hb7, hz7, S0, S1, _⟩ := box_span w6 la lb
  have HX7 := Lib.hid (bT (bT y3.b hbw6) hb7)
  clear hbw6 hb7 hz7
  have HI_1 : Hid (∀ z : Ext w7, RoIn z.v z.v.heap.size D p q) := fun z => HI_0.out (z.up HX7.out)
  have HL_1 : Hid (∀ z : Ext w7, NumIn z.v z.v.heap.size l f lp) := fun z => HL_0.out (z.up HX7.out)
  have F0_1 : ∀ z : Ext w7, z.v.cell? ⟨w.heap.size, 0, none⟩ = some (.slice p D.n c) := fun z => F0_0 (z.up HX7.out)
  have F1_1 : ∀ z : Ext w7, z.v.cell? ⟨w.heap.size, 1, none⟩ = some (.slice q D.m d) := fun z => F1_0 (z.up HX7.out)
  have HW_1 : Hid (∀ z : Ext w7, Below w.heap.size w z.v) := fun z => HW_0.out (z.up HX7.out)
  clear HI_0 HL_0 F0_0 F1_0 HW_0
  have S0_1 : ∀ z : Ext w7, z.v.cell? ⟨w6.heap.size, 0, none⟩ = some (.int .i64 la) := fun z => S0 z
  have S1_1 : ∀ z : Ext w7, z.v.cell? ⟨w6.heap.size, 1, none⟩ = some (.int .i64 lb) := fun z => S1 z
  go_wp2_with fail
  refine (within1_is HWI.out _).mono ?_
  rintro e w' ⟨rfl, rfl⟩
  go_wp2_with fail
  refine (quiet_x (HLR.out _ (HI_1.out _))).mono ?_
  rintro e w' ⟨rfl, y5, rfl⟩
  go_wp2_with fail
  refine (quiet_x (isNewR_is HNW.out _ HD.out (HI_1.out _) (HL_1.out _))).mono ?_
  rintro e w' ⟨rfl, y6, rfl⟩
  go_wp2_with fail
  refine (quiet_x (works_ex _)).mono ?_
  rintro e w' ⟨rfl, y7, rfl⟩
  go_wp2
  go_ret
  exact ⟨rfl, HW_1.out y7⟩

set_option maxRecDepth 100000 in
set_option maxHeartbeats 16000000 in
theorem each_ex (D : Ro) (p q : Option Addr) (c d : Nat) (lp : Option Addr) (lc l : Nat) (f : Nat → Int) (w : World) (hr : rdy D = true) (hl : l ≤ 40) (hcap : D.n ≤ c) (hx : exB D = true) (hi : RoIn w w.heap.size D p q) (hf : NumIn w w.heap.size l f lp) :
    Calls Try.prog 3 #[.agg #[.slice p D.n c, .slice q D.m d], .slice lp l lc] w fun e w' => e = .returned (.bool true) ∧ Below w.heap.size w w' := by
  obtain ⟨w1, x1, hw1, hb1, hz1, F0i, F1i, _⟩ := box_ro w p q D.n D.m c d
  have HW_0 : Hid (∀ z : Ext w1, Below w.heap.size w z.v) := fun z => bT hb1 z.b
  have HI_0 : Hid (∀ z : Ext w1, RoIn z.v z.v.heap.size D p q) := fun z => (hi.bel hb1).bel z.b
  have HL_0 : Hid (∀ z : Ext w1, NumIn z.v z.v.heap.size l f lp) := fun z => (hf.bel hb1).bel z.b
  clear hb1 hz1 hi hf
  have F0_0 : ∀ z : Ext w1, z.v.cell? ⟨w.heap.size, 0, none⟩ = some (.slice p D.n c) := fun z => F0i z
  have F1_0 : ∀ z : Ext w1, z.v.cell? ⟨w.heap.size, 1, none⟩ = some (.slice q D.m d) := fun z => F1i z
  obtain ⟨hn8, hm6, hD, _⟩ := rdy_parts hr
  have HR := Lib.hid hr; have HD := Lib.hid hD; clear hr hD
  have hn : D.n ≤ maxLen := by unfold maxLen; omega
  have hm : D.m ≤ maxLen := by unfold maxLen; omega
  have j4 : decide (40 < (l : Int)) = false := by simp; omega
  have h40 : ¬ 40 < l := by omega
  have HT := Lib.hid (fun (V : World) hV => three_any D p q c d HD.out V hV)
  have HLK := Lib.hid (fun (V : World) hV => lackP_any D p q c d V HD.out hcap hV)
  have i0 : ((0 : Int) == 0) = true := by decide
  have i3 : ((3 : Int) == 0) = false := by decide
  have i33 : ((3 : Int) != 3) = false := by decide
  have i03 : ((0 : Int) != 0) = false := by decide
  have i30 : ((3 : Int) != 0) = true := by decide
  obtain ⟨r1, r2⟩ := rs_new HD.out hx
  obtain ⟨a1, a2, a3, _⟩ := fa_new HD.out hx
  have el : tL D = lsC D := by unfold tL; rw [hx]; rfl
  have em : tM D = frC D := by unfold tM; rw [hx]; rfl
  have en : tN D = fwC D := by unfold tN; rw [hx]; rfl
  have HRO := Lib.hid (fun (V : World) hV => roster_ok D p q c d HD.out V hV hx)
  have HFA := Lib.hid (fun (V : World) hV => fair_ok D p q c d HD.out V hV hx)
  have hlk : lkT D D.n = none := (ex_iff_lack HD.out).1 ((exB_iff HD.out).1 hx)
  have ee : lkE D = 3 := by unfold lkE; rw [hlk]; rfl
  obtain ⟨la, hla⟩ : ∃ a, lkA D = a := ⟨_, rfl⟩
  obtain ⟨lb, hlb⟩ : ∃ a, lkB D = a := ⟨_, rfl⟩
  rw [hla, hlb, ee] at HLK
  have HNK := Lib.hid (show isNw D D.m (rsF D) = true from (isNw_iff HD.out).2 ⟨rfl, r1⟩)
  have HNF := Lib.hid (show isNw D D.m (faF D) = true from (isNw_iff HD.out).2 ⟨rfl, a1⟩)
  have HCK := Lib.hid (fun (V : World) (Y : Option Addr) (Z : Nat) hV hY => costR_any D p q Y c d Z (rsF D) V HD.out (r1.inH HD.out) hV hY)
  have HCF := Lib.hid (fun (V : World) (Y : Option Addr) (Z : Nat) hV hY => costR_any D p q Y c d Z (faF D) V HD.out (a1.inH HD.out) hV hY)
  have HFF := Lib.hid (fun (V : World) (Y : Option Addr) (Z : Nat) hV hY => farR_any D p q Y c d Z (faF D) V HD.out (a1.inH HD.out) hV hY)
  rw [r2, ← el] at HCK
  rw [a3] at HFF
  have HALL := Lib.hid (fun (h : isNw D l f = true) => (show l = D.m ∧ NR D f ∧ tL D ≤ costF D f D.m ∧ tM D ≤ farF D f D.m ∧ tN D ≤ ((movedL D f D.m).length : Int) from by
    obtain ⟨g1, g2⟩ := (isNw_iff HD.out).1 h
    refine ⟨g1, g2, ?_, ?_, ?_⟩
    · rw [el]; exact ls_le HD.out g2
    · rw [em]; exact (fr_spec HD.out ((exB_iff HD.out).1 hx)).2.2 f g2
    · rw [en]; exact fw_le HD.out g2))
  rw [hx] at HT
  obtain ⟨tl, htl⟩ : ∃ x, tL D = x := ⟨_, rfl⟩
  obtain ⟨tm, htm⟩ : ∃ x, tM D = x := ⟨_, rfl⟩
  obtain ⟨tn, htn⟩ : ∃ x, tN D = x := ⟨_, rfl⟩
  obtain ⟨cf, hcf⟩ : ∃ x, costF D (faF D) D.m = x := ⟨_, rfl⟩
  obtain ⟨rs, hrs⟩ : ∃ x, rsF D = x := ⟨_, rfl⟩
  obtain ⟨fa, hfa⟩ : ∃ x, faF D = x := ⟨_, rfl⟩
  rw [htl] at HCK a2 HALL
  rw [htm] at HFF HALL
  rw [htn] at HALL
  rw [htl, htm, htn] at HT
  rw [hcf] at HCF a2
  rw [hrs] at HRO HNK HCK
  rw [hfa] at HFA HNF HCF HFF
  have jc : decide (cf < tl) = false := by simp; omega
  have jc2 : ¬ cf < tl := by omega
  have j1 : (tl != tl) = false := by simp
  have j2 : (tm != tm) = false := by simp
  clear hx r1 r2 a1 a2 a3 el em en hlk ee htl htm htn hcf hrs hfa hla hlb
  cases hnw : isNw D l f with
  | false =>
    have HNW := Lib.hid hnw
    clear hnw HALL
    go_enter Try.func3, Try.ntmps3
    go_wp2_with fail
    refine (quiet_x (ready_is HR.out _ hn hm (HI_0.out _))).mono ?_
    rintro e w' ⟨rfl, y, rfl⟩
    go_wp2_with fail
    refine (quiet_x (HT.out _ (HI_0.out _))).mono ?_
    rintro e w' ⟨rfl, y1, rfl⟩
    go_wp2_with fail
    refine (HRO.out _ (HI_0.out _)).mono ?_
    rintro e w3 ⟨yk, ykc, rfl, hbyk, hnyk⟩
    have HXw3 := Lib.hid (bT y1.b hbyk); have HNyk0 := Lib.hid hnyk
    obtain ⟨zw3, hzw3⟩ := rebase w3
    clear hbyk hnyk
    have HI_1 : Hid (∀ z : Ext w3, RoIn z.v z.v.heap.size D p q) := fun z => HI_0.out (z.up HXw3.out)
    have HL_1 : Hid (∀ z : Ext w3, NumIn z.v z.v.heap.size l f lp) := fun z => HL_0.out (z.up HXw3.out)
    have F0_1 : ∀ z : Ext w3, z.v.cell? ⟨w.heap.size, 0, none⟩ = some (.slice p D.n c) := fun z => F0_0 (z.up HXw3.out)
    have F1_1 : ∀ z : Ext w3, z.v.cell? ⟨w.heap.size, 1, none⟩ = some (.slice q D.m d) := fun z => F1_0 (z.up HXw3.out)
    have HW_1 : Hid (∀ z : Ext w3, Below w.heap.size w z.v) := fun z => HW_0.out (z.up HXw3.out)
    clear HI_0 HL_0 F0_0 F1_0 HW_0
    have Nyk_1 : Hid (∀ z : Ext w3, NumIn z.v z.v.heap.size D.m rs yk) := fun z => HNyk0.out.bel z.b
    rw [hzw3]; clear hzw3
    go_wp2_with fail
    refine (HFA.out _ (HI_1.out _)).mono ?_
    rintro e w4 ⟨yf, yfc, rfl, hbyf, hnyf⟩
    have HXw4 := Lib.hid (bT zw3.b hbyf); have HNyf0 := Lib.hid hnyf
    obtain ⟨zw4, hzw4⟩ := rebase w4
    clear hbyf hnyf
    have HI_2 : Hid (∀ z : Ext w4, RoIn z.v z.v.heap.size D p q) := fun z => HI_1.out (z.up HXw4.out)
    have HL_2 : Hid (∀ z : Ext w4, NumIn z.v z.v.heap.size l f lp) := fun z => HL_1.out (z.up HXw4.out)
    have F0_2 : ∀ z : Ext w4, z.v.cell? ⟨w.heap.size, 0, none⟩ = some (.slice p D.n c) := fun z => F0_1 (z.up HXw4.out)
    have F1_2 : ∀ z : Ext w4, z.v.cell? ⟨w.heap.size, 1, none⟩ = some (.slice q D.m d) := fun z => F1_1 (z.up HXw4.out)
    have HW_2 : Hid (∀ z : Ext w4, Below w.heap.size w z.v) := fun z => HW_1.out (z.up HXw4.out)
    have Nyk_2 : Hid (∀ z : Ext w4, NumIn z.v z.v.heap.size D.m rs yk) := fun z => Nyk_1.out (z.up HXw4.out)
    clear HI_1 HL_1 F0_1 F1_1 HW_1 Nyk_1
    have Nyf_2 : Hid (∀ z : Ext w4, NumIn z.v z.v.heap.size D.m fa yf) := fun z => HNyf0.out.bel z.b
    rw [hzw4]; clear hzw4
    go_wp2_with fail
    refine (HLK.out _ (HI_2.out zw4)).mono ?_
    rintro e w6 ⟨rfl, hbw6⟩
    obtain ⟨w7, x7, hw7, hb7, hz7, S0, S1, _⟩ := box_span w6 la lb
    have HX7 := Lib.hid (bT (bT zw4.b hbw6) hb7)
    clear hbw6 hb7 hz7
    have HI_3 : Hid (∀ z : Ext w7, RoIn z.v z.v.heap.size D p q) := fun z => HI_2.out (z.up HX7.out)
    have HL_3 : Hid (∀ z : Ext w7, NumIn z.v z.v.heap.size l f lp) := fun z => HL_2.out (z.up HX7.out)
    have F0_3 : ∀ z : Ext w7, z.v.cell? ⟨w.heap.size, 0, none⟩ = some (.slice p D.n c) := fun z => F0_2 (z.up HX7.out)
    have F1_3 : ∀ z : Ext w7, z.v.cell? ⟨w.heap.size, 1, none⟩ = some (.slice q D.m d) := fun z => F1_2 (z.up HX7.out)
    have HW_3 : Hid (∀ z : Ext w7, Below w.heap.size w z.v) := fun z => HW_2.out (z.up HX7.out)
    have Nyk_3 : Hid (∀ z : Ext w7, NumIn z.v z.v.heap.size D.m rs yk) := fun z => Nyk_2.out (z.up HX7.out)
    have Nyf_3 : Hid (∀ z : Ext w7, NumIn z.v z.v.heap.size D.m fa yf) := fun z => Nyf_2.out (z.up HX7.out)
    clear HI_2 HL_2 F0_2 F1_2 HW_2 Nyk_2 Nyf_2
    have S0_3 : ∀ z : Ext w7, z.v.cell? ⟨w6.heap.size, 0, none⟩ = some (.int .i64 la) := fun z => S0 z
    have S1_3 : ∀ z : Ext w7, z.v.cell? ⟨w6.heap.size, 1, none⟩ = some (.int .i64 lb) := fun z => S1 z
    go_wp2_with fail
    refine (quiet_x (isNewR_is HNK.out _ HD.out (HI_3.out _) (Nyk_3.out _))).mono ?_
    rintro e w' ⟨rfl, u1, rfl⟩
    go_wp2_with fail
    refine (quiet_x (isNewR_is HNF.out _ HD.out (HI_3.out _) (Nyf_3.out _))).mono ?_
    rintro e w' ⟨rfl, u2, rfl⟩
    go_wp2_with fail
    refine (quiet_x (HCK.out _ _ _ (HI_3.out _) (Nyk_3.out _))).mono ?_
    rintro e w' ⟨rfl, u3, rfl⟩
    go_wp2_with fail
    refine (quiet_x (HCF.out _ _ _ (HI_3.out _) (Nyf_3.out _))).mono ?_
    rintro e w' ⟨rfl, u4, rfl⟩
    go_wp2_with fail
    refine (quiet_x (HFF.out _ _ _ (HI_3.out _) (Nyf_3.out _))).mono ?_
    rintro e w' ⟨rfl, u5, rfl⟩
    go_wp2_with fail
    refine (quiet_x (isNewR_is HNW.out _ HD.out (HI_3.out _) (HL_3.out _))).mono ?_
    rintro e w' ⟨rfl, u6, rfl⟩
    go_wp2_with fail
    refine (quiet_x (works_ex _)).mono ?_
    rintro e w' ⟨rfl, u7, rfl⟩
    go_wp2
    go_ret
    exact ⟨rfl, HW_3.out u7⟩
  | true =>
    have HNW := Lib.hid hnw
    obtain ⟨g1, g2, g3, g4, g5⟩ := HALL.out hnw
    clear hnw HALL
    subst g1
    have HIH := Lib.hid (g2.inH HD.out)
    obtain ⟨c3, hc3⟩ : ∃ x, costF D f D.m = x := ⟨_, rfl⟩
    obtain ⟨f3, hf3⟩ : ∃ x, farF D f D.m = x := ⟨_, rfl⟩
    have HC3 := Lib.hid (fun (V : World) hV hY => costR_any D p q lp c d lc f V HD.out HIH.out hV hY)
    have HF3 := Lib.hid (fun (V : World) hV hY => farR_any D p q lp c d lc f V HD.out HIH.out hV hY)
    have HM3 := Lib.hid (fun (V : World) hV hY => movedR_any D p q lp c d lc f V HD.out HIH.out hV hY)
    rw [hc3] at HC3 g3
    rw [hf3] at HF3 g4
    obtain ⟨ml, hml⟩ : ∃ x, (movedL D f D.m).length = x := ⟨_, rfl⟩
    rw [hml] at HM3 g5
    have k3 : decide (tl ≤ c3) = true := by simp; omega
    have k4 : decide (tm ≤ f3) = true := by simp; omega
    have k5 : decide (tn ≤ (ml : Int)) = true := by simp; omega
    clear hc3 hf3 hml g2
    go_enter Try.func3, Try.ntmps3
    go_wp2_with fail
    refine (quiet_x (ready_is HR.out _ hn hm (HI_0.out _))).mono ?_
    rintro e w' ⟨rfl, y, rfl⟩
    go_wp2_with fail
    refine (quiet_x (HT.out _ (HI_0.out _))).mono ?_
    rintro e w' ⟨rfl, y1, rfl⟩
    go_wp2_with fail
    refine (HRO.out _ (HI_0.out _)).mono ?_
    rintro e w3 ⟨yk, ykc, rfl, hbyk, hnyk⟩
    have HXw3 := Lib.hid (bT y1.b hbyk); have HNyk0 := Lib.hid hnyk
    obtain ⟨zw3, hzw3⟩ := rebase w3
    clear hbyk hnyk
    have HI_1 : Hid (∀ z : Ext w3, RoIn z.v z.v.heap.size D p q) := fun z => HI_0.out (z.up HXw3.out)
    have HL_1 : Hid (∀ z : Ext w3, NumIn z.v z.v.heap.size D.m f lp) := fun z => HL_0.out (z.up HXw3.out)
    have F0_1 : ∀ z : Ext w3, z.v.cell? ⟨w.heap.size, 0, none⟩ = some (.slice p D.n c) := fun z => F0_0 (z.up HXw3.out)
    have F1_1 : ∀ z : Ext w3, z.v.cell? ⟨w.heap.size, 1, none⟩ = some (.slice q D.m d) := fun z => F1_0 (z.up HXw3.out)
    have HW_1 : Hid (∀ z : Ext w3, Below w.heap.size w z.v) := fun z => HW_0.out (z.up HXw3.out)
    clear HI_0 HL_0 F0_0 F1_0 HW_0
    have Nyk_1 : Hid (∀ z : Ext w3, NumIn z.v z.v.heap.size D.m rs yk) := fun z => HNyk0.out.bel z.b
    rw [hzw3]; clear hzw3
    go_wp2_with fail
    refine (HFA.out _ (HI_1.out _)).mono ?_
    rintro e w4 ⟨yf, yfc, rfl, hbyf, hnyf⟩
    have HXw4 := Lib.hid (bT zw3.b hbyf); have HNyf0 := Lib.hid hnyf
    obtain ⟨zw4, hzw4⟩ := rebase w4
    clear hbyf hnyf
    have HI_2 : Hid (∀ z : Ext w4, RoIn z.v z.v.heap.size D p q) := fun z => HI_1.out (z.up HXw4.out)
    have HL_2 : Hid (∀ z : Ext w4, NumIn z.v z.v.heap.size D.m f lp) := fun z => HL_1.out (z.up HXw4.out)
    have F0_2 : ∀ z : Ext w4, z.v.cell? ⟨w.heap.size, 0, none⟩ = some (.slice p D.n c) := fun z => F0_1 (z.up HXw4.out)
    have F1_2 : ∀ z : Ext w4, z.v.cell? ⟨w.heap.size, 1, none⟩ = some (.slice q D.m d) := fun z => F1_1 (z.up HXw4.out)
    have HW_2 : Hid (∀ z : Ext w4, Below w.heap.size w z.v) := fun z => HW_1.out (z.up HXw4.out)
    have Nyk_2 : Hid (∀ z : Ext w4, NumIn z.v z.v.heap.size D.m rs yk) := fun z => Nyk_1.out (z.up HXw4.out)
    clear HI_1 HL_1 F0_1 F1_1 HW_1 Nyk_1
    have Nyf_2 : Hid (∀ z : Ext w4, NumIn z.v z.v.heap.size D.m fa yf) := fun z => HNyf0.out.bel z.b
    rw [hzw4]; clear hzw4
    go_wp2_with fail
    refine (HLK.out _ (HI_2.out zw4)).mono ?_
    rintro e w6 ⟨rfl, hbw6⟩
    obtain ⟨w7, x7, hw7, hb7, hz7, S0, S1, _⟩ := box_span w6 la lb
    have HX7 := Lib.hid (bT (bT zw4.b hbw6) hb7)
    clear hbw6 hb7 hz7
    have HI_3 : Hid (∀ z : Ext w7, RoIn z.v z.v.heap.size D p q) := fun z => HI_2.out (z.up HX7.out)
    have HL_3 : Hid (∀ z : Ext w7, NumIn z.v z.v.heap.size D.m f lp) := fun z => HL_2.out (z.up HX7.out)
    have F0_3 : ∀ z : Ext w7, z.v.cell? ⟨w.heap.size, 0, none⟩ = some (.slice p D.n c) := fun z => F0_2 (z.up HX7.out)
    have F1_3 : ∀ z : Ext w7, z.v.cell? ⟨w.heap.size, 1, none⟩ = some (.slice q D.m d) := fun z => F1_2 (z.up HX7.out)
    have HW_3 : Hid (∀ z : Ext w7, Below w.heap.size w z.v) := fun z => HW_2.out (z.up HX7.out)
    have Nyk_3 : Hid (∀ z : Ext w7, NumIn z.v z.v.heap.size D.m rs yk) := fun z => Nyk_2.out (z.up HX7.out)
    have Nyf_3 : Hid (∀ z : Ext w7, NumIn z.v z.v.heap.size D.m fa yf) := fun z => Nyf_2.out (z.up HX7.out)
    clear HI_2 HL_2 F0_2 F1_2 HW_2 Nyk_2 Nyf_2
    have S0_3 : ∀ z : Ext w7, z.v.cell? ⟨w6.heap.size, 0, none⟩ = some (.int .i64 la) := fun z => S0 z
    have S1_3 : ∀ z : Ext w7, z.v.cell? ⟨w6.heap.size, 1, none⟩ = some (.int .i64 lb) := fun z => S1 z
    go_wp2_with fail
    refine (quiet_x (isNewR_is HNK.out _ HD.out (HI_3.out _) (Nyk_3.out _))).mono ?_
    rintro e w' ⟨rfl, u1, rfl⟩
    go_wp2_with fail
    refine (quiet_x (isNewR_is HNF.out _ HD.out (HI_3.out _) (Nyf_3.out _))).mono ?_
    rintro e w' ⟨rfl, u2, rfl⟩
    go_wp2_with fail
    refine (quiet_x (HCK.out _ _ _ (HI_3.out _) (Nyk_3.out _))).mono ?_
    rintro e w' ⟨rfl, u3, rfl⟩
    go_wp2_with fail
    refine (quiet_x (HCF.out _ _ _ (HI_3.out _) (Nyf_3.out _))).mono ?_
    rintro e w' ⟨rfl, u4, rfl⟩
    go_wp2_with fail
    refine (quiet_x (HFF.out _ _ _ (HI_3.out _) (Nyf_3.out _))).mono ?_
    rintro e w' ⟨rfl, u5, rfl⟩
    go_wp2_with fail
    refine (quiet_x (isNewR_is HNW.out _ HD.out (HI_3.out _) (HL_3.out _))).mono ?_
    rintro e w' ⟨rfl, u6, rfl⟩
    go_wp2_with fail
    refine (quiet_x (HC3.out _ (HI_3.out _) (HL_3.out _))).mono ?_
    rintro e w' ⟨rfl, u7, rfl⟩
    go_wp2_with fail
    refine (quiet_x (HF3.out _ (HI_3.out _) (HL_3.out _))).mono ?_
    rintro e w' ⟨rfl, u8, rfl⟩
    go_wp2_with fail
    refine (HM3.out _ (HI_3.out _) (HL_3.out _)).mono ?_
    rintro e w9 ⟨ym, cm, rfl, hb9, _⟩
    obtain ⟨u9, rfl⟩ : ∃ zz : Ext w7, w9 = zz.v := ⟨⟨w9, bT u8.b hb9⟩, rfl⟩
    clear hb9
    go_wp2_with fail
    refine (quiet_x (works_ex _)).mono ?_
    rintro e w' ⟨rfl, u10, rfl⟩
    go_wp2
    go_ret
    exact ⟨rfl, HW_3.out u10⟩

theorem each_law (D : Ro) (p q : Option Addr) (c d : Nat) (lp : Option Addr) (lc l : Nat) (f : Nat → Int) (w : World) (hn : D.n ≤ maxLen) (hm : D.m ≤ maxLen) (hl : l ≤ maxLen) (hcap : D.n ≤ c) (hi : RoIn w w.heap.size D p q) (hf : NumIn w w.heap.size l f lp) :
    Calls Try.prog 3 #[.agg #[.slice p D.n c, .slice q D.m d], .slice lp l lc] w fun e w' => e = .returned (.bool true) ∧ Below w.heap.size w w' := by
  cases hr : rdy D with
  | false => exact each_o1 D p q c d lp lc l f w hn hm hl hr hi hf
  | true =>
    by_cases h4 : 40 < l
    · exact each_o2 D p q c d lp lc l f w hn hm hl hr h4 hi hf
    · cases hx : exB D with
      | false => exact each_no D p q c d lp lc l f w hr (by omega) hcap hx hi hf
      | true => exact each_ex D p q c d lp lc l f w hr (by omega) hcap hx hi hf
end Go.Proofs.Ytegkgfiaegpihaa
