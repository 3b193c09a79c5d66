/- MouthsWorth returns true in every walk. -/
import Derived.Test.YthbicbmlbblflaaD0

import Derived.Test.YthbicbmlbblflaaM2

set_option linter.unusedSimpArgs false

set_option linter.unusedVariables false

namespace Go.Proofs.Ythbicbmlbblflaa

open Go.RowKit

set_option maxRecDepth 100000 in
set_option maxHeartbeats 4000000 in
theorem worth_out1 (D : Bx) (p q : Option Addr) (c d : Nat) (fl a1 a2 a3 a4 : Int) (w : World) (hn : D.n ≤ maxLen) (hm : D.m ≤ maxLen) (hi : BxIn w w.heap.size D p q) (hr : rdy D fl = false) :
    Calls Try.prog 8 #[.agg #[.slice p D.n c, .slice q D.m d], .int .i64 fl, .agg #[.int .i64 a1, .int .i64 a2, .int .i64 a3, .int .i64 a4]] w fun e w' => e = .returned (.bool true) ∧ Below w.heap.size w w' := by
  obtain ⟨w1, x1, w2, x2, hw1, hw2, hb, hz, hB, hA, hI⟩ := start_ba D p q c d a1 a2 a3 a4 w hi
  have HB := Lib.hid hb; have HI := Lib.hid hI; have HR := Lib.hid hr
  have F0 := fun y => (hB y).c0; have F1 := fun y => (hB y).c1
  clear hb hz hB hA hI hi hr
  go_enter Try.func8, Try.ntmps8
  go_wp2_with fail
  refine (quiet_x (ready_is HR.out hn hm (HI.out _))).mono ?_
  rintro e w' ⟨rfl, y, rfl⟩
  go_wp2_with fail
  refine (quiet_x (works_ex _)).mono ?_
  rintro e w' ⟨rfl, y2, rfl⟩
  go_wp2
  go_ret
  exact ⟨rfl, bT HB.out y2.b⟩
set_option maxRecDepth 100000 in
set_option maxHeartbeats 4000000 in
theorem worth_out2 (D : Bx) (p q : Option Addr) (c d : Nat) (fl a1 a2 a3 a4 : Int) (w : World) (hn : D.n ≤ maxLen) (hm : D.m ≤ maxLen) (hi : BxIn w w.heap.size D p q) (hr : rdy D fl = true) (hq : isQ D a1 = false) :
    Calls Try.prog 8 #[.agg #[.slice p D.n c, .slice q D.m d], .int .i64 fl, .agg #[.int .i64 a1, .int .i64 a2, .int .i64 a3, .int .i64 a4]] w fun e w' => e = .returned (.bool true) ∧ Below w.heap.size w w' := by
  obtain ⟨w1, x1, w2, x2, hw1, hw2, hb, hz, hB, hA, hI⟩ := start_ba D p q c d a1 a2 a3 a4 w hi
  obtain ⟨n4, m4, _, _⟩ := rdy_parts hr
  have HB := Lib.hid hb; have HI := Lib.hid hI; have HR := Lib.hid hr; have HQ := Lib.hid hq
  have F0 := fun y => (hB y).c0; have F1 := fun y => (hB y).c1
  have A0 := fun y => (hA y).c0
  clear hb hz hB hA hI hi hr hq
  go_enter Try.func8, Try.ntmps8
  go_wp2_with fail
  refine (quiet_x (ready_is HR.out hn hm (HI.out _))).mono ?_
  rintro e w' ⟨rfl, y, rfl⟩
  go_wp2_with fail
  refine (quiet_x (isQR_is HQ.out n4)).mono ?_
  rintro e w' ⟨rfl, y1, rfl⟩
  go_wp2_with fail
  refine (quiet_x (works_ex _)).mono ?_
  rintro e w' ⟨rfl, y2, rfl⟩
  go_wp2
  go_ret
  exact ⟨rfl, bT HB.out y2.b⟩
set_option maxRecDepth 100000 in
set_option maxHeartbeats 4000000 in
theorem worth_out3 (D : Bx) (p q : Option Addr) (c d : Nat) (fl a1 a2 a3 a4 : Int) (w : World) (hn : D.n ≤ maxLen) (hm : D.m ≤ maxLen) (hi : BxIn w w.heap.size D p q) (hr : rdy D fl = true) (hq : isQ D a1 = true) (hq2 : isQ D a3 = false) :
    Calls Try.prog 8 #[.agg #[.slice p D.n c, .slice q D.m d], .int .i64 fl, .agg #[.int .i64 a1, .int .i64 a2, .int .i64 a3, .int .i64 a4]] w fun e w' => e = .returned (.bool true) ∧ Below w.heap.size w w' := by
  obtain ⟨w1, x1, w2, x2, hw1, hw2, hb, hz, hB, hA, hI⟩ := start_ba D p q c d a1 a2 a3 a4 w hi
  obtain ⟨n4, m4, _, _⟩ := rdy_parts hr
  have HB := Lib.hid hb; have HI := Lib.hid hI; have HR := Lib.hid hr; have HQ := Lib.hid hq; have HQ2 := Lib.hid hq2
  have F0 := fun y => (hB y).c0; have F1 := fun y => (hB y).c1
  have A0 := fun y => (hA y).c0; have A2 := fun y => (hA y).c2
  clear hb hz hB hA hI hi hr hq hq2
  go_enter Try.func8, Try.ntmps8
  go_wp2_with fail
  refine (quiet_x (ready_is HR.out hn hm (HI.out _))).mono ?_
  rintro e w' ⟨rfl, y, rfl⟩
  go_wp2_with fail
  refine (quiet_x (isQR_is HQ.out n4)).mono ?_
  rintro e w' ⟨rfl, y1, rfl⟩
  go_wp2_with fail
  refine (quiet_x (isQR_is HQ2.out n4)).mono ?_
  rintro e w' ⟨rfl, y3, rfl⟩
  go_wp2_with fail
  refine (quiet_x (works_ex _)).mono ?_
  rintro e w' ⟨rfl, y2, rfl⟩
  go_wp2
  go_ret
  exact ⟨rfl, bT HB.out y2.b⟩
set_option maxRecDepth 100000 in
set_option maxHeartbeats 8000000 in
theorem worth_in (D : Bx) (p q : Option Addr) (c d F A B : Nat) (a2 a4 : Int) (w : World) (hi : BxIn w w.heap.size D p q) (hr : rdy D (F : Int) = true) (hq : isQ D (A : Int) = true) (hq2 : isQ D (B : Int) = true) (hok : D.ok = true) (hF : F ≤ 40) (hA : A < D.n) (hBn : B < D.n) :
    Calls Try.prog 8 #[.agg #[.slice p D.n c, .slice q D.m d], .int .i64 (F : Int), .agg #[.int .i64 (A : Int), .int .i64 a2, .int .i64 (B : Int), .int .i64 a4]] w fun e w' => e = .returned (.bool true) ∧ Below w.heap.size w w' := by
  obtain ⟨w1, x1, w2, x2, hw1, hw2, hb, hz, hB, hA', hI⟩ := start_ba D p q c d (A : Int) a2 (B : Int) a4 w hi
  obtain ⟨n4, m4, _, _⟩ := rdy_parts hr
  obtain ⟨o1, o2, o3, o4⟩ := Bx.ok_parts hok
  have hn : D.n ≤ maxLen := by unfold maxLen; omega
  have hm : D.m ≤ maxLen := by unfold maxLen; omega
  have HB := Lib.hid hb; have HI := Lib.hid hI; have HR := Lib.hid hr; have HQ := Lib.hid hq; have HQ2 := Lib.hid hq2; have HOK := Lib.hid hok
  have HBX := Lib.hid hB; have HAX := Lib.hid hA'
  have F0 := fun y => (hB y).c0; have F1 := fun y => (hB y).c1
  have A0 := fun y => (hA' y).c0; have A2 := fun y => (hA' y).c2
  have HW := Lib.hid (gv_worth hok F A B hA hBn)
  have v1 := gv_5 hok F A (by omega); have v2 := gv_5 hok F B (by omega); have v3 := o3 A hA; have v4 := o3 B hBn
  have HV1 := Lib.hid v1; have HV2 := Lib.hid v2; have HV3 := Lib.hid v3; have HV4 := Lib.hid v4
  have HM := Lib.hid o2
  clear hb hz hB hA' hI hi hr hq hq2 hok o2 o3 o4 v1 v2 v3 v4
  go_enter Try.func8, Try.ntmps8
  go_wp2_with fail
  refine (quiet_x (ready_is HR.out hn hm (HI.out _))).mono ?_
  rintro e w' ⟨rfl, y, rfl⟩
  go_wp2_with fail
  refine (quiet_x (isQR_is HQ.out n4)).mono ?_
  rintro e w' ⟨rfl, y1, rfl⟩
  go_wp2_with fail
  refine (quiet_x (isQR_is HQ2.out n4)).mono ?_
  rintro e w' ⟨rfl, y3, rfl⟩
  go_wp2_with fail
  refine (gaugesL_any D p q c d F _ HOK.out hF (HI.out _)).mono ?_
  rintro e w' ⟨gy, gc, rfl, hc⟩
  obtain ⟨g, rfl, _, _, hnum, _⟩ := hc.here (by omega)
  have HX := Lib.hid (bT y3.b hc.below)
  have HNM := Lib.hid hc.num
  obtain ⟨z0, hz0⟩ := rebase w'
  obtain ⟨b1, of1, rfl, _, _⟩ := (HI.out x2).s (by omega)
  obtain ⟨b2, of2, rfl, _, _⟩ := (HI.out x2).o (by have := HM.out; omega)
  have F0' : ∀ z : Ext w', z.v.cell? ⟨w.heap.size, 0, none⟩ = some (.slice (some ⟨b1, of1, none⟩) D.n c) := fun z => (HBX.out (z.up HX.out)).c0
  have F1' : ∀ z : Ext w', z.v.cell? ⟨w.heap.size, 1, none⟩ = some (.slice (some ⟨b2, of2, none⟩) D.m d) := fun z => (HBX.out (z.up HX.out)).c1
  have A0' : ∀ z : Ext w', z.v.cell? ⟨x1.v.heap.size, 0, none⟩ = some (.int .i64 (A : Int)) := fun z => (HAX.out (z.up HX.out)).c0
  have A2' : ∀ z : Ext w', z.v.cell? ⟨x1.v.heap.size, 2, none⟩ = some (.int .i64 (B : Int)) := fun z => (HAX.out (z.up HX.out)).c2
  have S1 : ∀ z : Ext w', z.v.cell? ⟨b1, of1 + A, none⟩ = some (.int .i64 (D.sh A)) := fun z => ((HI.out (z.up HX.out)).s.cell hA).2
  have S2 : ∀ z : Ext w', z.v.cell? ⟨b1, of1 + B, none⟩ = some (.int .i64 (D.sh B)) := fun z => ((HI.out (z.up HX.out)).s.cell hBn).2
  have S3 : ∀ z : Ext w', z.v.cell? ⟨b2, of2 + B, none⟩ = some (.int .i64 (D.mo B)) := fun z => ((HI.out (z.up HX.out)).o.cell (by have := HM.out; omega)).2
  have L1 : ∀ z : Ext w', z.v.cell? ⟨g, A, none⟩ = some (.int .i64 (gv D F A)) := fun z => by have := ((HNM.out.bel z.b).cell hA).2; rwa [Nat.zero_add] at this
  have L2 : ∀ z : Ext w', z.v.cell? ⟨g, B, none⟩ = some (.int .i64 (gv D F B)) := fun z => by have := ((HNM.out.bel z.b).cell hBn).2; rwa [Nat.zero_add] at this
  have hAi : (A : Int) < (D.n : Int) := by omega
  have hBi : (B : Int) < (D.n : Int) := by omega
  have hBm : (B : Int) < (D.m : Int) := by have := HM.out; omega
  have HBW := Lib.hid (bT HB.out HX.out)
  clear F0 F1 A0 A2 hnum hc hw1 hw2
  rw [hz0]; clear hz0
  by_cases hAB : A = B
  · subst hAB
    go_wp2
    refine quiet_e (by kernel_rfl) (by kernel_rfl) ?_
    repeat (first | go_big_quiet_step (fail) | quiet_step (fail))
    refine wpQuiet_nil ?_
    intro w6 hw6
    obtain ⟨yq, rfl⟩ := hw6
    go_wp2_with fail
    refine (quiet_x (works_ex _)).mono ?_
    rintro e w' ⟨rfl, y2, rfl⟩
    go_wp2
    go_ret
    exact ⟨rfl, bT HBW.out y2.b⟩
  have jAB : ((A : Int) == (B : Int)) = false := by simp; omega
  by_cases h1 : gv D F A = 0
  · rw [h1] at L1
    clear h1 hAB
    go_wp2
    refine quiet_e (by kernel_rfl) (by kernel_rfl) ?_
    repeat (first | go_big_quiet_step (fail) | quiet_step (fail))
    refine wpQuiet_nil ?_
    intro w6 hw6
    obtain ⟨yq, rfl⟩ := hw6
    go_wp2_with fail
    refine (quiet_x (works_ex _)).mono ?_
    rintro e w' ⟨rfl, y2, rfl⟩
    go_wp2
    go_ret
    exact ⟨rfl, bT HBW.out y2.b⟩
  have j1 : (gv D F A == 0) = false := by simpa using h1
  by_cases h2 : gv D F B = D.mo B
  · rw [h2] at L2
    clear h1 hAB h2
    go_wp2
    refine quiet_e (by kernel_rfl) (by kernel_rfl) ?_
    repeat (first | go_big_quiet_step (fail) | quiet_step (fail))
    refine wpQuiet_nil ?_
    intro w6 hw6
    obtain ⟨yq, rfl⟩ := hw6
    go_wp2_with fail
    refine (quiet_x (works_ex _)).mono ?_
    rintro e w' ⟨rfl, y2, rfl⟩
    go_wp2
    go_ret
    exact ⟨rfl, bT HBW.out y2.b⟩
  have j2 : (gv D F B == D.mo B) = false := by simpa using h2
  have hwo := HW.out h1 h2
  have e1 : IntKind.i64.wrap (2 * gv D F A) = 2 * gv D F A := IntWalk.i64_in _ (by have := HV1.out; omega)
  have e2 : IntKind.i64.wrap (2 * gv D F B) = 2 * gv D F B := IntWalk.i64_in _ (by have := HV2.out; omega)
  have e3 : IntKind.i64.wrap (2 * gv D F A - 1) = 2 * gv D F A - 1 := IntWalk.i64_in _ (by have := HV1.out; omega)
  have e4 : IntKind.i64.wrap (2 * gv D F B + 1) = 2 * gv D F B + 1 := IntWalk.i64_in _ (by have := HV2.out; omega)
  have HM1 := Lib.hid (mul_bd (a := D.sh A) (b := 2 * gv D F B + 1) (A := 20) (B := 41) HV3.out ⟨by have := HV2.out; omega, by have := HV2.out; omega⟩ (by omega))
  have HM2 := Lib.hid (mul_bd (a := D.sh B) (b := 2 * gv D F A - 1) (A := 20) (B := 41) HV4.out ⟨by have := HV1.out; omega, by have := HV1.out; omega⟩ (by omega))
  have HL := Lib.hid (show ltF (D.sh A) (2 * gv D F A - 1) (D.sh B) (2 * gv D F B + 1) = false by simp [ltF]; omega)
  have HLS := Lib.hid (show ∀ V : World, Calls Try.prog 51 #[.int .i64 (D.sh A), .int .i64 (2 * gv D F A - 1), .int .i64 (D.sh B), .int .i64 (2 * gv D F B + 1)] V fun e w' => e = .returned (.bool false) ∧ V = w' from fun V => by
    have := less_any (D.sh A) (2 * gv D F A - 1) (D.sh B) (2 * gv D F B + 1) V ⟨HM1.out.1, by have := HM1.out.2; omega⟩ ⟨HM2.out.1, by have := HM2.out.2; omega⟩
    rw [HL.out] at this
    exact this)
  clear h1 hAB h2 hwo
  go_wp2
  refine quiet_e (by kernel_rfl) (by kernel_rfl) ?_
  repeat (first | go_big_quiet_step (fail) | quiet_step (fail))
  refine wpQuiet_nil ?_
  intro w6 hw6
  obtain ⟨yq, rfl⟩ := hw6
  go_wp2_with fail
  refine quiet_e (by kernel_rfl) (by kernel_rfl) ?_
  repeat (first | go_big_quiet_step ((first | (go_at_call 51; exact quiet_s (HLS.out _)) | (go_at_call 16; exact quiet_x (works_ex _)))) | quiet_step ((first | (go_at_call 51; exact quiet_s (HLS.out _)) | (go_at_call 16; exact quiet_x (works_ex _)))))
  refine wpQuiet_nil ?_
  intro w6 hw6
  obtain ⟨yr, rfl⟩ := hw6
  go_wp2
  go_ret
  exact ⟨rfl, bT HBW.out yr.b⟩
theorem worth_law (D : Bx) (p q : Option Addr) (c d : Nat) (fl a1 a2 a3 a4 : Int) (w : World) (hn : D.n ≤ maxLen) (hm : D.m ≤ maxLen) (hi : BxIn w w.heap.size D p q) :
    Calls Try.prog 8 #[.agg #[.slice p D.n c, .slice q D.m d], .int .i64 fl, .agg #[.int .i64 a1, .int .i64 a2, .int .i64 a3, .int .i64 a4]] w fun e w' => e = .returned (.bool true) ∧ Below w.heap.size w w' := by
  cases hr : rdy D fl with
  | false => exact worth_out1 D p q c d fl a1 a2 a3 a4 w hn hm hi hr
  | true =>
  cases hq : isQ D a1 with
  | false => exact worth_out2 D p q c d fl a1 a2 a3 a4 w hn hm hi hr hq
  | true =>
  cases hq2 : isQ D a3 with
  | false => exact worth_out3 D p q c d fl a1 a2 a3 a4 w hn hm hi hr hq hq2
  | true =>
  obtain ⟨_, _, hok, F, rfl, hF⟩ := rdy_parts hr
  obtain ⟨A, rfl, hA⟩ := isQ_nat hq
  obtain ⟨B, rfl, hB⟩ := isQ_nat hq2
  exact worth_in D p q c d F A B a2 a4 w hi hr hq hq2 hok hF hA hB
end Go.Proofs.Ythbicbmlbblflaa
