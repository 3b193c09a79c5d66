/- HoursGive returns true in every walk. -/
import Derived.Test.YtegkgfiaegpihaaM6

set_option linter.unusedSimpArgs false

set_option linter.unusedVariables false

namespace Go.Proofs.Ytegkgfiaegpihaa

open Go.RowKit

theorem least_isn {D : Ro} {n m : Nat} {p q : Option Addr} {c d : Nat} (hn : D.n = n) (hm : D.m = m) (hD : OkP D) (w : World) (hI : RoIn w w.heap.size D p q) : Calls Try.prog 35 #[.agg #[.slice p n c, .slice q m d]] w fun e w' => e = .returned (.tuple #[.int .i64 (tL D), .int .i64 (exE D)]) ∧ Below w.heap.size w w' := by
  subst hn; subst hm; exact least_is hD w hI
set_option maxRecDepth 100000 in
set_option maxHeartbeats 4000000 in
theorem give_o1 (D : Ro) (p q : Option Addr) (c d : Nat) (lp : Option Addr) (lc l : Nat) (f : Nat → Int) (hr0 : Int) (w : World) (hn : D.n ≤ maxLen) (hm : D.m ≤ maxLen) (hl : l ≤ maxLen) (hr : rdy D = false) (hi : RoIn w w.heap.size D p q) (hf : NumIn w w.heap.size l f lp) :
    Calls Try.prog 10 #[.agg #[.slice p D.n c, .slice q D.m d], .int .i64 hr0, .slice lp l lc] w fun e w' => e = .returned (.bool true) ∧ Below w.heap.size w w' := by
  obtain ⟨w1, x1, hw1, hb1, hz1, F0i, F1i, _⟩ := box_ro w p q D.n D.m c d
  have HW_0 : Hid (∀ z : Ext w1, Below w.heap.size w z.v) := fun z => bT hb1 z.b
  have HI_0 : Hid (∀ z : Ext w1, RoIn z.v z.v.heap.size D p q) := fun z => (hi.bel hb1).bel z.b
  have HL_0 : Hid (∀ z : Ext w1, NumIn z.v z.v.heap.size l f lp) := fun z => (hf.bel hb1).bel z.b
  clear hb1 hz1 hi hf
  have F0_0 : ∀ z : Ext w1, z.v.cell? ⟨w.heap.size, 0, none⟩ = some (.slice p D.n c) := fun z => F0i z
  have F1_0 : ∀ z : Ext w1, z.v.cell? ⟨w.heap.size, 1, none⟩ = some (.slice q D.m d) := fun z => F1i z
  have HR := Lib.hid hr; clear hr
  go_enter Try.func10, Try.ntmps10
  go_wp2_with fail
  refine (quiet_x (ready_is HR.out _ hn hm (HI_0.out _))).mono ?_
  rintro e w' ⟨rfl, y, rfl⟩
  go_wp2_with fail
  refine (quiet_x (works_ex _)).mono ?_
  rintro e w' ⟨rfl, y2, rfl⟩
  go_wp2
  go_ret
  exact ⟨rfl, HW_0.out y2⟩
set_option maxRecDepth 100000 in
set_option maxHeartbeats 4000000 in
theorem give_o2 (D : Ro) (p q : Option Addr) (c d : Nat) (lp : Option Addr) (lc l : Nat) (f : Nat → Int) (hr0 : Int) (w : World) (hn : D.n ≤ maxLen) (hm : D.m ≤ maxLen) (hl : l ≤ maxLen) (hr : rdy D = true) (h4 : 40 < l) (hi : RoIn w w.heap.size D p q) (hf : NumIn w w.heap.size l f lp) :
    Calls Try.prog 10 #[.agg #[.slice p D.n c, .slice q D.m d], .int .i64 hr0, .slice lp l lc] w fun e w' => e = .returned (.bool true) ∧ Below w.heap.size w w' := by
  obtain ⟨w1, x1, hw1, hb1, hz1, F0i, F1i, _⟩ := box_ro w p q D.n D.m c d
  have HW_0 : Hid (∀ z : Ext w1, Below w.heap.size w z.v) := fun z => bT hb1 z.b
  have HI_0 : Hid (∀ z : Ext w1, RoIn z.v z.v.heap.size D p q) := fun z => (hi.bel hb1).bel z.b
  have HL_0 : Hid (∀ z : Ext w1, NumIn z.v z.v.heap.size l f lp) := fun z => (hf.bel hb1).bel z.b
  clear hb1 hz1 hi hf
  have F0_0 : ∀ z : Ext w1, z.v.cell? ⟨w.heap.size, 0, none⟩ = some (.slice p D.n c) := fun z => F0i z
  have F1_0 : ∀ z : Ext w1, z.v.cell? ⟨w.heap.size, 1, none⟩ = some (.slice q D.m d) := fun z => F1i z
  have HR := Lib.hid hr; clear hr
  have j4 : decide (40 < (l : Int)) = true := by simp; omega
  go_enter Try.func10, Try.ntmps10
  go_wp2_with fail
  refine (quiet_x (ready_is HR.out _ hn hm (HI_0.out _))).mono ?_
  rintro e w' ⟨rfl, y, rfl⟩
  go_wp2_with fail
  refine (quiet_x (works_ex _)).mono ?_
  rintro e w' ⟨rfl, y2, rfl⟩
  go_wp2
  go_ret
  exact ⟨rfl, HW_0.out y2⟩
set_option maxRecDepth 100000 in
set_option maxHeartbeats 4000000 in
theorem give_o3 (D : Ro) (p q : Option Addr) (c d : Nat) (lp : Option Addr) (lc l : Nat) (f : Nat → Int) (hr0 : Int) (w : World) (hr : rdy D = true) (hl : l ≤ 40) (hh : isH D hr0 = false) (hi : RoIn w w.heap.size D p q) (hf : NumIn w w.heap.size l f lp) :
    Calls Try.prog 10 #[.agg #[.slice p D.n c, .slice q D.m d], .int .i64 hr0, .slice lp l lc] w fun e w' => e = .returned (.bool true) ∧ Below w.heap.size w w' := by
  obtain ⟨w1, x1, hw1, hb1, hz1, F0i, F1i, _⟩ := box_ro w p q D.n D.m c d
  have HW_0 : Hid (∀ z : Ext w1, Below w.heap.size w z.v) := fun z => bT hb1 z.b
  have HI_0 : Hid (∀ z : Ext w1, RoIn z.v z.v.heap.size D p q) := fun z => (hi.bel hb1).bel z.b
  have HL_0 : Hid (∀ z : Ext w1, NumIn z.v z.v.heap.size l f lp) := fun z => (hf.bel hb1).bel z.b
  clear hb1 hz1 hi hf
  have F0_0 : ∀ z : Ext w1, z.v.cell? ⟨w.heap.size, 0, none⟩ = some (.slice p D.n c) := fun z => F0i z
  have F1_0 : ∀ z : Ext w1, z.v.cell? ⟨w.heap.size, 1, none⟩ = some (.slice q D.m d) := fun z => F1i z
  obtain ⟨hn8, hm6, hD, _⟩ := rdy_parts hr
  have HR := Lib.hid hr; clear hr
  have hn : D.n ≤ maxLen := by unfold maxLen; omega
  have hm : D.m ≤ maxLen := by unfold maxLen; omega
  have j4 : decide (40 < (l : Int)) = false := by simp; omega
  have h40 : ¬ 40 < l := by omega
  have HH := Lib.hid hh; clear hh hD
  go_enter Try.func10, Try.ntmps10
  go_wp2_with fail
  refine (quiet_x (ready_is HR.out _ hn hm (HI_0.out _))).mono ?_
  rintro e w' ⟨rfl, y, rfl⟩
  go_wp2_with fail
  refine (quiet_x (isHourR_is HH.out hn _)).mono ?_
  rintro e w' ⟨rfl, y1, rfl⟩
  go_wp2_with fail
  refine (quiet_x (works_ex _)).mono ?_
  rintro e w' ⟨rfl, y2, rfl⟩
  go_wp2
  go_ret
  exact ⟨rfl, HW_0.out y2⟩
set_option maxRecDepth 100000 in
set_option maxHeartbeats 16000000 in
theorem give_in (D : Ro) (p q : Option Addr) (c d : Nat) (lp : Option Addr) (lc l : Nat) (f : Nat → Int) (w : World) (hr : rdy D = true) (hl : l ≤ 40) (h : Nat) (hh : h < D.n) (hi : RoIn w w.heap.size D p q) (hf : NumIn w w.heap.size l f lp) :
    Calls Try.prog 10 #[.agg #[.slice p D.n c, .slice q D.m d], .int .i64 (h : Int), .slice lp l lc] w fun e w' => e = .returned (.bool true) ∧ Below w.heap.size w w' := by
  obtain ⟨w1, x1, hw1, hb1, hz1, F0i, F1i, _⟩ := box_ro w p q D.n D.m c d
  have HW_0 : Hid (∀ z : Ext w1, Below w.heap.size w z.v) := fun z => bT hb1 z.b
  have HI_0 : Hid (∀ z : Ext w1, RoIn z.v z.v.heap.size D p q) := fun z => (hi.bel hb1).bel z.b
  have HL_0 : Hid (∀ z : Ext w1, NumIn z.v z.v.heap.size l f lp) := fun z => (hf.bel hb1).bel z.b
  clear hb1 hz1 hi hf
  have F0_0 : ∀ z : Ext w1, z.v.cell? ⟨w.heap.size, 0, none⟩ = some (.slice p D.n c) := fun z => F0i z
  have F1_0 : ∀ z : Ext w1, z.v.cell? ⟨w.heap.size, 1, none⟩ = some (.slice q D.m d) := fun z => F1i z
  obtain ⟨hn8, hm6, hD, _⟩ := rdy_parts hr
  have HR := Lib.hid hr; have HD := Lib.hid hD
  have hn : D.n ≤ maxLen := by unfold maxLen; omega
  have hm : D.m ≤ maxLen := by unfold maxLen; omega
  have j4 : decide (40 < (l : Int)) = false := by simp; omega
  have h40 : ¬ 40 < l := by omega
  have HH := Lib.hid (show within (h : Int) 0 ((D.n : Int) - 1) = true from within_tt (by omega) (by omega))
  have hhi : (h : Int) < (D.n : Int) := by omega
  obtain ⟨b, o, rfl, _, _⟩ := (HI_0.out x1).rm (by omega)
  have R0 : ∀ y : Ext w1, y.v.cell? ⟨b, o + h, none⟩ = some (.int .i64 (D.rm h)) := fun y => ((HI_0.out y).rm.cell hh).2
  have HGV := Lib.hid (fun y : Ext w1 => giveP_any D (some ⟨b, o, none⟩) q c d h y.v hD hh (HI_0.out y))
  clear hr hl
  by_cases h6 : D.rm h = 6
  · have e1 : gvR D h = 0 := if_pos h6
    have e2 : gvE D h = 2 := if_pos h6
    rw [e1, e2] at HGV
    rw [h6] at R0
    have i1 : ((2 : Int) == 2) = true := by decide
    have i2 : ((6 : Int) == 6) = true := by decide
    clear e1 e2 h6 hD
    go_enter Try.func10, Try.ntmps10
    go_wp2_with fail
    refine (quiet_x (ready_is HR.out _ hn hm (HI_0.out _))).mono ?_
    rintro e w' ⟨rfl, y, rfl⟩
    go_wp2_with fail
    refine (quiet_x (isHourR_is HH.out hn _)).mono ?_
    rintro e w' ⟨rfl, y1, rfl⟩
    go_wp2_with fail
    refine (quiet_x (HGV.out _)).mono ?_
    rintro e w' ⟨rfl, y3, rfl⟩
    go_wp2_with fail
    refine (quiet_x (works_ex _)).mono ?_
    rintro e w' ⟨rfl, y2, rfl⟩
    go_wp2
    go_ret
    exact ⟨rfl, HW_0.out y2⟩
  have e1 : gvR D h = gvV D h := if_neg h6
  have e2 : gvE D h = exE D := if_neg h6
  rw [e1, e2] at HGV
  have hrb := hD.rm h hh
  have hD2 := rmD_ok hD (h := h) (v := 1) (by omega)
  have HD2 := Lib.hid hD2
  have j6 : (D.rm h == 6) = false := by simpa using h6
  have HLS := Lib.hid (fun y : Ext w1 => least_is (c := c) (d := d) hD y.v (HI_0.out y))
  have HL2 := Lib.hid (fun (V : World) (P Q : Option Addr) (cc dd : Nat) (hV : RoIn V V.heap.size (rmD D h 1) P Q) => least_isn (D := rmD D h 1) (n := D.n) (m := D.m) (c := cc) (d := dd) rfl rfl hD2 V hV)
  clear e1 e2
  cases hx : exB D with
  | false =>
    have hf0 : exE D = 3 := by simp [exE, hx]
    rw [hf0] at HGV HLS
    have g0 : gvV D h = 0 := by simp [gvV, hx]
    rw [g0] at HGV
    have t0 : tL D = 0 := by simp [tL, hx]
    rw [t0] at HLS
    have i0 : ((3 : Int) != 3) = false := by decide
    have i1 : ((3 : Int) != 0) = true := by decide
    have i2 : ((3 : Int) == 0) = false := by decide
    obtain ⟨v2, hv2⟩ : ∃ v, tL (rmD D h 1) = v := ⟨_, rfl⟩
    obtain ⟨e2, he2⟩ : ∃ v, exE (rmD D h 1) = v := ⟨_, rfl⟩
    rw [hv2, he2] at HL2
    clear hx hf0 g0 t0 hv2 he2 hD hD2
    go_enter Try.func10, Try.ntmps10
    go_wp2_with fail
    refine (quiet_x (ready_is HR.out _ hn hm (HI_0.out _))).mono ?_
    rintro e w' ⟨rfl, y, rfl⟩
    go_wp2_with fail
    refine (quiet_x (isHourR_is HH.out hn _)).mono ?_
    rintro e w' ⟨rfl, y1, rfl⟩
    go_wp2_with fail
    refine (quiet_x (HGV.out _)).mono ?_
    rintro e w' ⟨rfl, y3, rfl⟩
    go_wp2_with fail
    refine (quiet_x (HLS.out _)).mono ?_
    rintro e w' ⟨rfl, y4, rfl⟩
    go_wp2_with fail
    refine (roomier_any D (some ⟨b, o, none⟩) q c d h 1 _ HD.out hh (by omega) (HI_0.out _)).mono ?_
    rintro e w5 ⟨p', c', q', d', rfl, hmk⟩
    obtain ⟨y5, rfl⟩ : ∃ zz : Ext w1, w5 = zz.v := ⟨⟨w5, bT y4.b hmk.below⟩, rfl⟩
    have HMK := Lib.hid hmk.here; clear hmk
    go_wp2_with fail
    refine (quiet_x (HL2.out _ _ _ _ _ HMK.out)).mono ?_
    rintro e w' ⟨rfl, y6, rfl⟩
    go_wp2_with fail
    refine (quiet_x (works_ex _)).mono ?_
    rintro e w' ⟨rfl, y9, rfl⟩
    go_wp2
    go_ret
    exact ⟨rfl, HW_0.out y9⟩
  | true =>
    have hex := (exB_iff hD).1 hx
    have hx2 : exB (rmD D h 1) = true := (exB_iff hD2).2 (by obtain ⟨f, hf⟩ := hex; exact ⟨f, hf.more (by omega)⟩)
    have f1 : exE D = 0 := by simp [exE, hx]
    have f2 : exE (rmD D h 1) = 0 := by simp [exE, hx2]
    have f3 : tL D = lsC D := by simp [tL, hx]
    have f4 : tL (rmD D h 1) = lsC (rmD D h 1) := by simp [tL, hx2]
    have f5 : gvV D h = lsC D - lsC (rmD D h 1) := by simp [gvV, hx]
    rw [f1, f5] at HGV
    rw [f1, f3] at HLS
    rw [f2, f4] at HL2
    have hb1 := ls_bd hD; have hb2 := ls_bd hD2
    have hle := ls_more hD (h := h) (v := 1) (by omega) hD2 hex
    have hgf := fun (g : Nat → Int) (h1 : NR D g) (h2 : costF D g D.m = lsC D) (h3 : lsC (rmD D h 1) < lsC D) => give_full hD hh hD2 h1 h2 h3
    obtain ⟨a, ha⟩ : ∃ v, lsC D = v := ⟨_, rfl⟩
    obtain ⟨bb, hbb⟩ : ∃ v, lsC (rmD D h 1) = v := ⟨_, rfl⟩
    rw [ha, hbb] at HGV
    rw [ha] at HLS
    rw [hbb] at HL2
    rw [ha] at hb1; rw [hbb] at hb2; rw [ha, hbb] at hle
    have HGF : Hid (∀ (g : Nat → Int), NR D g → costF D g D.m = a → bb < a → (cnt g h D.m : Int) = D.rm h) := by rw [ha, hbb] at hgf; exact hgf
    clear f1 f2 f3 f4 f5 hx hx2 hex hgf ha hbb
    have i0 : ((0 : Int) != 0) = false := by decide
    have i1 : ((0 : Int) == 0) = true := by decide
    have k1 : ¬ a < 0 := by omega
    have k2 : ¬ 10000 < a := by omega
    have k3 : ¬ bb < 0 := by omega
    have k4 : ¬ a < bb := by omega
    have l1 : decide (a < 0) = false := by simp; omega
    have l2 : decide (10000 < a) = false := by simp; omega
    have l3 : decide (bb < 0) = false := by simp; omega
    have l4 : decide (a < bb) = false := by simp; omega
    have ew : IntKind.i64.wrap (a - bb) = a - bb := IntWalk.i64_in _ (by omega)
    obtain ⟨nn, hnn⟩ : ∃ v, a - bb = v := ⟨_, rfl⟩
    replace ew : IntKind.i64.wrap (a - bb) = nn := ew.trans hnn
    rw [hnn] at HGV
    have l5 : (nn != nn) = false := by simp
    have HNN := Lib.hid hnn
    have hlt : nn ≠ 0 → bb < a := fun h => by omega
    have HLT := Lib.hid hlt
    clear hnn hlt hle hb1 hb2
    by_cases hz : nn = 0
    · have jz : (nn == 0) = true := by simpa using hz
      clear hD hD2
      go_enter Try.func10, Try.ntmps10
      go_wp2_with fail
      refine (quiet_x (ready_is HR.out _ hn hm (HI_0.out _))).mono ?_
      rintro e w' ⟨rfl, y, rfl⟩
      go_wp2_with fail
      refine (quiet_x (isHourR_is HH.out hn _)).mono ?_
      rintro e w' ⟨rfl, y1, rfl⟩
      go_wp2_with fail
      refine (quiet_x (HGV.out _)).mono ?_
      rintro e w' ⟨rfl, y3, rfl⟩
      go_wp2_with fail
      refine (quiet_x (HLS.out _)).mono ?_
      rintro e w' ⟨rfl, y4, rfl⟩
      go_wp2_with fail
      refine (roomier_any D (some ⟨b, o, none⟩) q c d h 1 _ HD.out hh (by omega) (HI_0.out _)).mono ?_
      rintro e w5 ⟨p', c', q', d', rfl, hmk⟩
      obtain ⟨y5, rfl⟩ : ∃ zz : Ext w1, w5 = zz.v := ⟨⟨w5, bT y4.b hmk.below⟩, rfl⟩
      have HMK := Lib.hid hmk.here; clear hmk
      go_wp2_with fail
      refine (quiet_x (HL2.out _ _ _ _ _ HMK.out)).mono ?_
      rintro e w' ⟨rfl, y6, rfl⟩
      go_wp2_with fail
      refine (quiet_x (works_ex _)).mono ?_
      rintro e w' ⟨rfl, y9, rfl⟩
      go_wp2
      go_ret
      exact ⟨rfl, HW_0.out y9⟩
    have jz : (nn == 0) = false := by simpa using hz
    cases hnw : isNw D l f with
    | false =>
      have HNW := Lib.hid hnw
      clear hnw hD hD2
      go_enter Try.func10, Try.ntmps10
      go_wp2_with fail
      refine (quiet_x (ready_is HR.out _ hn hm (HI_0.out _))).mono ?_
      rintro e w' ⟨rfl, y, rfl⟩
      go_wp2_with fail
      refine (quiet_x (isHourR_is HH.out hn _)).mono ?_
      rintro e w' ⟨rfl, y1, rfl⟩
      go_wp2_with fail
      refine (quiet_x (HGV.out _)).mono ?_
      rintro e w' ⟨rfl, y3, rfl⟩
      go_wp2_with fail
      refine (quiet_x (HLS.out _)).mono ?_
      rintro e w' ⟨rfl, y4, rfl⟩
      go_wp2_with fail
      refine (roomier_any D (some ⟨b, o, none⟩) q c d h 1 _ HD.out hh (by omega) (HI_0.out _)).mono ?_
      rintro e w5 ⟨p', c', q', d', rfl, hmk⟩
      obtain ⟨y5, rfl⟩ : ∃ zz : Ext w1, w5 = zz.v := ⟨⟨w5, bT y4.b hmk.below⟩, rfl⟩
      have HMK := Lib.hid hmk.here; clear hmk
      go_wp2_with fail
      refine (quiet_x (HL2.out _ _ _ _ _ HMK.out)).mono ?_
      rintro e w' ⟨rfl, y6, rfl⟩
      go_wp2_with fail
      refine (quiet_x (isNewR_is HNW.out _ HD.out (HI_0.out _) (HL_0.out _))).mono ?_
      rintro e w' ⟨rfl, y7, rfl⟩
      go_wp2_with fail
      refine (quiet_x (works_ex _)).mono ?_
      rintro e w' ⟨rfl, y9, rfl⟩
      go_wp2
      go_ret
      exact ⟨rfl, HW_0.out y9⟩
    | true =>
      have HNW := Lib.hid hnw
      obtain ⟨hlm, hnr⟩ := (isNw_iff hD).1 hnw
      subst hlm
      have HIH := Lib.hid (hnr.inH hD)
      obtain ⟨cst, hcst⟩ : ∃ v, costF D f D.m = v := ⟨_, rfl⟩
      have HCS := Lib.hid (fun y : Ext w1 => costR_any D (some ⟨b, o, none⟩) q lp c d lc f y.v hD (hnr.inH hD) (HI_0.out y) (HL_0.out y))
      rw [hcst] at HCS
      by_cases hca : cst = a
      · have HFL : Hid ((cnt f h D.m : Int) = D.rm h) := HGF.out f hnr (by rw [hcst, hca]) (HLT.out hz)
        subst hca
        have jc : (cst != cst) = false := by simp
        clear hnw hD hD2 hnr hcst HGF
        go_enter Try.func10, Try.ntmps10
        go_wp2_with fail
        refine (quiet_x (ready_is HR.out _ hn hm (HI_0.out _))).mono ?_
        rintro e w' ⟨rfl, y, rfl⟩
        go_wp2_with fail
        refine (quiet_x (isHourR_is HH.out hn _)).mono ?_
        rintro e w' ⟨rfl, y1, rfl⟩
        go_wp2_with fail
        refine (quiet_x (HGV.out _)).mono ?_
        rintro e w' ⟨rfl, y3, rfl⟩
        go_wp2_with fail
        refine (quiet_x (HLS.out _)).mono ?_
        rintro e w' ⟨rfl, y4, rfl⟩
        go_wp2_with fail
        refine (roomier_any D (some ⟨b, o, none⟩) q c d h 1 _ HD.out hh (by omega) (HI_0.out _)).mono ?_
        rintro e w5 ⟨p', c', q', d', rfl, hmk⟩
        obtain ⟨y5, rfl⟩ : ∃ zz : Ext w1, w5 = zz.v := ⟨⟨w5, bT y4.b hmk.below⟩, rfl⟩
        have HMK := Lib.hid hmk.here; clear hmk
        go_wp2_with fail
        refine (quiet_x (HL2.out _ _ _ _ _ HMK.out)).mono ?_
        rintro e w' ⟨rfl, y6, rfl⟩
        go_wp2_with fail
        refine (quiet_x (isNewR_is HNW.out _ HD.out (HI_0.out _) (HL_0.out _))).mono ?_
        rintro e w' ⟨rfl, y7, rfl⟩
        go_wp2_with fail
        refine (quiet_x (HCS.out _)).mono ?_
        rintro e w' ⟨rfl, y8, rfl⟩
        go_wp2
        clear i0
        go_loopw [13, 14] (fun v i wr => ∃ k : Nat, i = .int .i64 (k : Int) ∧ v = .int .i64 ((cnt f h k : Nat) : Int) ∧ k ≤ D.m ∧ ∃ z : Ext w1, wr = z.v) (fun v i _ => D.m - (intOf i).toNat)
        case atStart => exact ⟨0, rfl, rfl, Nat.zero_le _, y8, rfl⟩
        case round =>
          obtain ⟨k, rfl, rfl, hk, z, rfl⟩ := hrel
          have hk6 : k ≤ 6 := by omega
          have hcl := cnt_le f (h : Int) k
          by_cases hlt : k < D.m
          · obtain ⟨b2, o2, rfl, _, _⟩ := (HL_0.out z) (by omega)
            have G0 : z.v.cell? ⟨b2, o2 + k, none⟩ = some (.int .i64 (f k)) := ((HL_0.out z).cell hlt).2
            have j : decide ((k : Int) < (D.m : Int)) = true := by simp; omega
            have hkm : (k : Int) < (D.m : Int) := by omega
            by_cases hfk : f k = (h : Int)
            · have jk : (f k == (h : Int)) = true := by simpa using hfk
              have HN : Hid (((cnt f (h : Int) k : Nat) : Int) + 1 = ((cnt f (h : Int) (k + 1) : Nat) : Int)) := by show _ = _; simp only [cnt]; rw [if_pos hfk]; simp
              rw [hfk] at G0
              clear hfk jk
              go_wp2
              go_roundw
              case rel => exact ⟨k + 1, by go_num, by rw [← HN.out], hlt, z, rfl⟩
              case measure => first | (simp [intOf]; done) | (simp [intOf]; omega)
            · have jk : (f k == (h : Int)) = false := by simpa using hfk
              have HN : Hid (((cnt f (h : Int) k : Nat) : Int) = ((cnt f (h : Int) (k + 1) : Nat) : Int)) := by show _ = _; simp only [cnt]; rw [if_neg hfk]; simp
              go_wp2
              go_roundw
              case rel => exact ⟨k + 1, by go_num, by rw [← HN.out], hlt, z, rfl⟩
              case measure => first | (simp [intOf]; done) | (simp [intOf]; omega)
          · have hke : k = D.m := by omega
            subst hke
            have j : decide ((D.m : Int) < (D.m : Int)) = false := by simp
            have jf := HFL.out
            have jq : (((cnt f (h : Int) D.m : Nat) : Int) == D.rm h) = true := by simpa using jf
            have r0 := R0 z
            rw [← jf] at r0
            clear jf jq
            go_wp2_with fail
            refine (quiet_x (works_ex _)).mono ?_
            rintro e w' ⟨rfl, y9, rfl⟩
            go_wp2
            go_ret
            exact ⟨rfl, HW_0.out y9⟩
      · have jc : (cst != a) = true := by simpa using hca
        clear hnw hD hD2 hnr hcst HGF
        go_enter Try.func10, Try.ntmps10
        go_wp2_with fail
        refine (quiet_x (ready_is HR.out _ hn hm (HI_0.out _))).mono ?_
        rintro e w' ⟨rfl, y, rfl⟩
        go_wp2_with fail
        refine (quiet_x (isHourR_is HH.out hn _)).mono ?_
        rintro e w' ⟨rfl, y1, rfl⟩
        go_wp2_with fail
        refine (quiet_x (HGV.out _)).mono ?_
        rintro e w' ⟨rfl, y3, rfl⟩
        go_wp2_with fail
        refine (quiet_x (HLS.out _)).mono ?_
        rintro e w' ⟨rfl, y4, rfl⟩
        go_wp2_with fail
        refine (roomier_any D (some ⟨b, o, none⟩) q c d h 1 _ HD.out hh (by omega) (HI_0.out _)).mono ?_
        rintro e w5 ⟨p', c', q', d', rfl, hmk⟩
        obtain ⟨y5, rfl⟩ : ∃ zz : Ext w1, w5 = zz.v := ⟨⟨w5, bT y4.b hmk.below⟩, rfl⟩
        have HMK := Lib.hid hmk.here; clear hmk
        go_wp2_with fail
        refine (quiet_x (HL2.out _ _ _ _ _ HMK.out)).mono ?_
        rintro e w' ⟨rfl, y6, rfl⟩
        go_wp2_with fail
        refine (quiet_x (isNewR_is HNW.out _ HD.out (HI_0.out _) (HL_0.out _))).mono ?_
        rintro e w' ⟨rfl, y7, rfl⟩
        go_wp2_with fail
        refine (quiet_x (HCS.out _)).mono ?_
        rintro e w' ⟨rfl, y8, rfl⟩
        go_wp2_with fail
        refine (quiet_x (works_ex _)).mono ?_
        rintro e w' ⟨rfl, y9, rfl⟩
        go_wp2
        go_ret
        exact ⟨rfl, HW_0.out y9⟩
theorem give_law (D : Ro) (p q : Option Addr) (c d : Nat) (lp : Option Addr) (lc l : Nat) (f : Nat → Int) (hr0 : Int) (w : World) (hn : D.n ≤ maxLen) (hm : D.m ≤ maxLen) (hl : l ≤ maxLen) (hi : RoIn w w.heap.size D p q) (hf : NumIn w w.heap.size l f lp) :
    Calls Try.prog 10 #[.agg #[.slice p D.n c, .slice q D.m d], .int .i64 hr0, .slice lp l lc] w fun e w' => e = .returned (.bool true) ∧ Below w.heap.size w w' := by
  cases hr : rdy D with
  | false => exact give_o1 D p q c d lp lc l f hr0 w hn hm hl hr hi hf
  | true =>
    by_cases h4 : 40 < l
    · exact give_o2 D p q c d lp lc l f hr0 w hn hm hl hr h4 hi hf
    · cases hh : isH D hr0 with
      | false => exact give_o3 D p q c d lp lc l f hr0 w hr (by omega) hh hi hf
      | true =>
        obtain ⟨h1, h2⟩ := isH_iff.1 hh
        obtain ⟨h, rfl⟩ : ∃ h : Nat, hr0 = (h : Int) := ⟨hr0.toNat, by omega⟩
        exact give_in D p q c d lp lc l f w hr (by omega) h (by omega) hi hf
end Go.Proofs.Ytegkgfiaegpihaa
