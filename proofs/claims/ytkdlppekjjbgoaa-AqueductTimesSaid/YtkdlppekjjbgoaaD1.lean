/- AqueductEach returns true in every walk: the ways out ahead of the loops. -/
import Derived.Test.YtkdlppekjjbgoaaC1

set_option linter.unusedSimpArgs false

set_option linter.unusedVariables false

namespace Go.Proofs.Ytkdlppekjjbgoaa

open Go.RowKit

theorem DuctIn.lo' {w : World} {K : Nat} {D : Duct} {b o : Nat} {q : Option Addr} {k : Nat} (h : DuctIn w K D (some ⟨b, o, none⟩) q) (hk : k < D.n) : w.cell? ⟨b, o + k * 3, none⟩ = some (.int .i64 (D.lo k)) := by
  obtain ⟨b', o', e, _, h⟩ := h.pt (by omega)
  cases e; exact h.c0 k hk
theorem DuctIn.hi' {w : World} {K : Nat} {D : Duct} {b o : Nat} {q : Option Addr} {k : Nat} (h : DuctIn w K D (some ⟨b, o, none⟩) q) (hk : k < D.n) : w.cell? ⟨b, o + k * 3 + 1, none⟩ = some (.int .i64 (D.hi k)) := by
  obtain ⟨b', o', e, _, h⟩ := h.pt (by omega)
  cases e; exact h.c1 k hk
theorem DuctIn.co' {w : World} {K : Nat} {D : Duct} {b o : Nat} {q : Option Addr} {k : Nat} (h : DuctIn w K D (some ⟨b, o, none⟩) q) (hk : k < D.n) : w.cell? ⟨b, o + k * 3 + 2, none⟩ = some (.int .i64 (D.co k)) := by
  obtain ⟨b', o', e, _, h⟩ := h.pt (by omega)
  cases e; exact h.c2 k hk
set_option maxRecDepth 100000 in
set_option maxHeartbeats 2000000 in
theorem each_out1 (D : Duct) (p q : Option Addr) (c d : Nat) (tl : Nat) (t : Nat → Int) (r : Option Addr) (tc : Nat) (w : World) (hn : D.n ≤ maxLen) (hm : D.m ≤ maxLen) (hi : DuctIn w w.heap.size D p q) (hr : NumIn w w.heap.size tl t r) (hrd : (!(decide (40 < D.n) || decide (40 < D.m)) && D.ok) = false) :
    Calls Try.prog 3 #[.agg #[.slice p D.n c, .slice q D.m d], .slice r tl tc] w fun e w' => e = .returned (.bool true) ∧ Below w.heap.size w w' := by
  have HRD := Lib.hid (show ∀ (V : World), DuctIn V V.heap.size D p q → Calls Try.prog 15 #[.agg #[.slice p D.n c, .slice q D.m d]] V fun e w' => e = .returned (.bool false) ∧ Below V.heap.size V w' from fun V h => by
    have := ready_any D p q c d V hn hm h
    rw [hrd] at this
    exact this)
  clear hrd
  obtain ⟨w1, x, e1, hb1, hl1⟩ := mk_line w p q D.n D.m c d
  have HLb := Lib.hid hl1
  have HI := Lib.hid (hi.bel hb1)
  have HT := Lib.hid (hr.bel hb1)
  have HB := Lib.hid hb1
  clear hb1 hl1 hi hr
  have L0a : ∀ z : Ext w1, z.v.cell? ⟨w.heap.size, 0, none⟩ = some (.slice p D.n c) := fun z => (HLb.out.bel z.b).c0
  have L0b : ∀ z : Ext w1, z.v.cell? ⟨w.heap.size, 1, none⟩ = some (.slice q D.m d) := fun z => (HLb.out.bel z.b).c1
  go_enter Try.func3, Try.ntmps3
  go_wp2_with fail
  refine (quiet_x (HRD.out _ (HI.out.bel (Ext.b _)))).mono ?_
  rintro e w' ⟨rfl, y, rfl⟩
  go_wp2_with fail
  refine (quiet_x (works_ex _)).mono ?_
  rintro e w' ⟨rfl, y2, rfl⟩
  go_wp2_with fail
  go_ret
  exact ⟨rfl, bT HB.out y2.b⟩
set_option maxRecDepth 100000 in
set_option maxHeartbeats 2000000 in
theorem each_out2 (D : Duct) (p q : Option Addr) (c d : Nat) (tl : Nat) (t : Nat → Int) (r : Option Addr) (tc : Nat) (w : World) (hn : D.n ≤ maxLen) (hm : D.m ≤ maxLen) (hi : DuctIn w w.heap.size D p q) (hr : NumIn w w.heap.size tl t r) (hrd : (!(decide (40 < D.n) || decide (40 < D.m)) && D.ok) = true) (htl : 40 < tl) :
    Calls Try.prog 3 #[.agg #[.slice p D.n c, .slice q D.m d], .slice r tl tc] w fun e w' => e = .returned (.bool true) ∧ Below w.heap.size w w' := by
  have d1 : decide (40 < (tl : Int)) = true := by simp; omega
  have HRD := Lib.hid (show ∀ (V : World), DuctIn V V.heap.size D p q → Calls Try.prog 15 #[.agg #[.slice p D.n c, .slice q D.m d]] V fun e w' => e = .returned (.bool true) ∧ Below V.heap.size V w' from fun V h => by
    have := ready_any D p q c d V hn hm h
    rw [hrd] at this
    exact this)
  clear hrd
  obtain ⟨w1, x, e1, hb1, hl1⟩ := mk_line w p q D.n D.m c d
  have HLb := Lib.hid hl1
  have HI := Lib.hid (hi.bel hb1)
  have HT := Lib.hid (hr.bel hb1)
  have HB := Lib.hid hb1
  clear hb1 hl1 hi hr
  have L0a : ∀ z : Ext w1, z.v.cell? ⟨w.heap.size, 0, none⟩ = some (.slice p D.n c) := fun z => (HLb.out.bel z.b).c0
  have L0b : ∀ z : Ext w1, z.v.cell? ⟨w.heap.size, 1, none⟩ = some (.slice q D.m d) := fun z => (HLb.out.bel z.b).c1
  go_enter Try.func3, Try.ntmps3
  go_wp2_with fail
  refine (quiet_x (HRD.out _ (HI.out.bel (Ext.b _)))).mono ?_
  rintro e w' ⟨rfl, y, rfl⟩
  go_wp2_with fail
  refine (quiet_x (works_ex _)).mono ?_
  rintro e w' ⟨rfl, y2, rfl⟩
  go_wp2_with fail
  go_ret
  exact ⟨rfl, bT HB.out y2.b⟩
theorem clash_facts {D : Duct} {a b : Nat} (h : D.clash = some (a, b)) : a < b ∧ b < D.n ∧ D.hi a < D.lo b := clb_some h
set_option maxRecDepth 100000 in
set_option maxHeartbeats 4000000 in
theorem each_clash (D : Duct) (p q : Option Addr) (c d : Nat) (tl : Nat) (t : Nat → Int) (r : Option Addr) (tc : Nat) (a b : Nat) (w : World) (hn4 : D.n ≤ 40) (hm4 : D.m ≤ 40) (htl : tl ≤ 40) (hok : D.ok = true) (hc : D.clash = some (a, b)) (hi : DuctIn w w.heap.size D p q) (hr : NumIn w w.heap.size tl t r) :
    Calls Try.prog 3 #[.agg #[.slice p D.n c, .slice q D.m d], .slice r tl tc] w fun e w' => e = .returned (.bool true) ∧ Below w.heap.size w w' := by
  obtain ⟨hab, hbn, hlt⟩ := clash_facts hc
  obtain ⟨pb, po, rfl, _, _⟩ := hi.pt (by omega)
  have hcs : D.clash.isSome = true := by rw [hc]; rfl
  have hA : clAv D = a := by simp [clAv, clA, hok, hc]
  have hBb : clBv D = b := by simp [clBv, clB, hok, hc]
  have hE : clE D = 0 := by simp [clE, hok, hcs]
  have hL : lrnE D true = 3 := by simp [lrnE, hok, hcs]
  obtain ⟨u0, hW0⟩ : ∃ e, whV0 D = e := ⟨_, rfl⟩
  obtain ⟨u1, hW1⟩ : ∃ e, whV1 D = e := ⟨_, rfl⟩
  have hT : D.truth tl t = false := by
    cases h : D.truth tl t with
    | false => rfl
    | true => have := (clash_one hok).2 (truth_one h); rw [hc] at this; cases this
  have HRD := Lib.hid (show ∀ (V : World), DuctIn V V.heap.size D (some ⟨pb, po, none⟩) q → Calls Try.prog 15 #[.agg #[.slice (some ⟨pb, po, none⟩) D.n c, .slice q D.m d]] V fun e w' => e = .returned (.bool true) ∧ Below V.heap.size V w' from fun V h => by
    have := ready_any D (some ⟨pb, po, none⟩) q c d V (by unfold maxLen; omega) (by unfold maxLen; omega) h
    rw [hok, show (decide (40 < D.n) || decide (40 < D.m)) = false by simp; omega] at this
    exact this)
  have HCL := Lib.hid (show ∀ (V : World), DuctIn V V.heap.size D (some ⟨pb, po, none⟩) q → Calls Try.prog 17 #[.agg #[.slice (some ⟨pb, po, none⟩) D.n c, .slice q D.m d]] V fun e w' => e = .returned (.tuple #[.agg #[.int .i64 (a : Int), .int .i64 (b : Int)], .int .i64 0]) ∧ Below V.heap.size V w' from fun V h => by
    have := clashP_any D (some ⟨pb, po, none⟩) q c d V hn4 hm4 h
    rw [hA, hBb, hE] at this
    exact this)
  have HWH := Lib.hid (show ∀ (V : World), DuctIn V V.heap.size D (some ⟨pb, po, none⟩) q → Calls Try.prog 18 #[.agg #[.slice (some ⟨pb, po, none⟩) D.n c, .slice q D.m d]] V fun e w' => e = .returned (.tuple #[.agg #[.int .i64 u0, .int .i64 u1], .int .i64 3]) ∧ Below V.heap.size V w' from fun V h => by
    have := wholeP_any D (some ⟨pb, po, none⟩) q c d V hn4 hm4 h
    rw [hW0, hW1, hL] at this
    exact this)
  have HIT := Lib.hid (show ∀ (V : World), DuctIn V V.heap.size D (some ⟨pb, po, none⟩) q → NumIn V V.heap.size tl t r → Calls Try.prog 20 #[.agg #[.slice (some ⟨pb, po, none⟩) D.n c, .slice q D.m d], .slice r tl tc] V fun e w' => e = .returned (.bool false) ∧ Below V.heap.size V w' from fun V h h2 => by
    have := isTruth_any D (some ⟨pb, po, none⟩) q c d tl t r tc V hn4 hm4 htl h h2
    rw [hT] at this
    exact this)
  have i1 : isPt D (a : Int) = true := within_tt (by omega) (by omega)
  have i2 : isPt D (b : Int) = true := within_tt (by omega) (by omega)
  have i3 : decide ((a : Int) < (b : Int)) = true := by simp; omega
  have i3n : decide (a < b) = true := by simp; omega
  have i4 : (a : Int) < (D.n : Int) := by omega
  have i5 : (b : Int) < (D.n : Int) := by omega
  have i6 : decide (D.hi a < D.lo b) = true := by simpa using hlt
  have d1 : decide (40 < (tl : Int)) = false := by simp; omega
  clear hcs hA hBb hE hL hW0 hW1 hT hc hok hlt
  obtain ⟨w1, x, e1, hb1, hl1⟩ := mk_line w (some ⟨pb, po, none⟩) q D.n D.m c d
  have HLb := Lib.hid hl1
  have HI := Lib.hid (hi.bel hb1)
  have HT := Lib.hid (hr.bel hb1)
  have HB := Lib.hid hb1
  clear hb1 hl1 hi hr
  have L0a : ∀ z : Ext w1, z.v.cell? ⟨w.heap.size, 0, none⟩ = some (.slice (some ⟨pb, po, none⟩) D.n c) := fun z => (HLb.out.bel z.b).c0
  have L0b : ∀ z : Ext w1, z.v.cell? ⟨w.heap.size, 1, none⟩ = some (.slice q D.m d) := fun z => (HLb.out.bel z.b).c1
  go_enter Try.func3, Try.ntmps3
  go_wp2_with fail
  refine (quiet_x (HRD.out _ (HI.out.bel (Ext.b _)))).mono ?_
  rintro e w' ⟨rfl, y, rfl⟩
  go_wp2_with fail
  refine (quiet_x (HCL.out _ (HI.out.bel (Ext.b _)))).mono ?_
  rintro e w' ⟨rfl, y2, rfl⟩
  obtain ⟨w3, x3, e3, b3, z3, t3⟩ := mk_two y2 29 (a : Int) (b : Int)
  have Ht3 := Lib.hid t3
  have Hz3 := Lib.hid z3
  clear t3 z3
  clear L0a L0b
  have H1_0 := Lib.hid (HLb.out.bel b3)
  have H1_1 := Lib.hid (HI.out.bel b3)
  have H1_2 := Lib.hid (HT.out.bel b3)
  have HB1 := Lib.hid (bT HB.out b3)
  clear b3
  have L0a : ∀ z : Ext w3, z.v.cell? ⟨w.heap.size, 0, none⟩ = some (.slice (some ⟨pb, po, none⟩) D.n c) := fun z => (H1_0.out.bel z.b).c0
  have L0b : ∀ z : Ext w3, z.v.cell? ⟨w.heap.size, 1, none⟩ = some (.slice q D.m d) := fun z => (H1_0.out.bel z.b).c1
  have T3a : ∀ z : Ext w3, z.v.cell? ⟨y2.v.heap.size, 0, none⟩ = some (.int .i64 (a : Int)) := fun z => (Ht3.out.bel z.b).c0
  have T3b : ∀ z : Ext w3, z.v.cell? ⟨y2.v.heap.size, 1, none⟩ = some (.int .i64 (b : Int)) := fun z => (Ht3.out.bel z.b).c1
  have T3f : ∀ z : Ext w3, ∀ i, z.v.frozen? ⟨y2.v.heap.size, i, none⟩ = false := fun z => (Ht3.out.bel z.b).fz
  go_wp2_with fail
  refine (quiet_x (HWH.out _ (H1_1.out.bel (Ext.b _)))).mono ?_
  rintro e w' ⟨rfl, y4, rfl⟩
  obtain ⟨w5, x5, e5, b5, z5, t5⟩ := mk_two y4 34 u0 u1
  have Ht5 := Lib.hid t5
  have Hz5 := Lib.hid z5
  clear t5 z5
  clear L0a L0b T3a T3b T3f
  have H2_0 := Lib.hid (H1_0.out.bel b5)
  have H2_1 := Lib.hid (H1_1.out.bel b5)
  have H2_2 := Lib.hid (H1_2.out.bel b5)
  have H2_3 := Lib.hid (Ht3.out.bel b5)
  have HB2 := Lib.hid (bT HB1.out b5)
  clear b5
  have L0a : ∀ z : Ext w5, z.v.cell? ⟨w.heap.size, 0, none⟩ = some (.slice (some ⟨pb, po, none⟩) D.n c) := fun z => (H2_0.out.bel z.b).c0
  have L0b : ∀ z : Ext w5, z.v.cell? ⟨w.heap.size, 1, none⟩ = some (.slice q D.m d) := fun z => (H2_0.out.bel z.b).c1
  have T3a : ∀ z : Ext w5, z.v.cell? ⟨y2.v.heap.size, 0, none⟩ = some (.int .i64 (a : Int)) := fun z => (H2_3.out.bel z.b).c0
  have T3b : ∀ z : Ext w5, z.v.cell? ⟨y2.v.heap.size, 1, none⟩ = some (.int .i64 (b : Int)) := fun z => (H2_3.out.bel z.b).c1
  have T3f : ∀ z : Ext w5, ∀ i, z.v.frozen? ⟨y2.v.heap.size, i, none⟩ = false := fun z => (H2_3.out.bel z.b).fz
  have T4a : ∀ z : Ext w5, z.v.cell? ⟨y4.v.heap.size, 0, none⟩ = some (.int .i64 u0) := fun z => (Ht5.out.bel z.b).c0
  have T4b : ∀ z : Ext w5, z.v.cell? ⟨y4.v.heap.size, 1, none⟩ = some (.int .i64 u1) := fun z => (Ht5.out.bel z.b).c1
  have T4f : ∀ z : Ext w5, ∀ i, z.v.frozen? ⟨y4.v.heap.size, i, none⟩ = false := fun z => (Ht5.out.bel z.b).fz
  go_wp2_with fail
  have C0 : ∀ z : Ext w5, z.v.cell? ⟨pb, po + a * 3 + 1, none⟩ = some (.int .i64 (D.hi a)) := fun z => (H2_1.out.bel z.b).hi' (by omega)
  have C1 : ∀ z : Ext w5, z.v.cell? ⟨pb, po + b * 3, none⟩ = some (.int .i64 (D.lo b)) := fun z => (H2_1.out.bel z.b).lo' (by omega)
  refine quiet_e (by kernel_rfl) (by kernel_rfl) ?_
  repeat (first | go_big_quiet_step ((first | (go_at_call 19; exact quiet_x (isPointR_any D _ q c d _ _ hn4)) | (go_at_call 20; exact quiet_x (HIT.out _ (H2_1.out.bel (Ext.b _)) (H2_2.out.bel (Ext.b _)))) | (go_at_call 16; exact quiet_x (works_ex _)))) | quiet_step ((first | (go_at_call 19; exact quiet_x (isPointR_any D _ q c d _ _ hn4)) | (go_at_call 20; exact quiet_x (HIT.out _ (H2_1.out.bel (Ext.b _)) (H2_2.out.bel (Ext.b _)))) | (go_at_call 16; exact quiet_x (works_ex _)))))
  refine wpQuiet_nil ?_
  intro w6 hw6
  obtain ⟨y6, rfl⟩ := hw6

  go_wp2_with fail
  go_ret
  exact ⟨rfl, bT HB2.out y6.b⟩
end Go.Proofs.Ytkdlppekjjbgoaa
