/- HoursCost returns true in every walk. -/
import Derived.Test.YtegkgfiaegpihaaC6

import Derived.Test.YtegkgfiaegpihaaB1

set_option linter.unusedSimpArgs false

set_option linter.unusedVariables false

namespace Go.Proofs.Ytegkgfiaegpihaa

open Go.RowKit

set_option maxRecDepth 100000 in
set_option maxHeartbeats 16000000 in
theorem cost_out (D : Ro) (p q : Option Addr) (c d : Nat) (lp : Option Addr) (lc l : Nat) (f : Nat → Int) (w : World) (hn : D.n ≤ maxLen) (hm : D.m ≤ maxLen) (hl : l ≤ maxLen) (hh : hugeV D l = true) (hi : RoIn w w.heap.size D p q) (hf : NumIn w w.heap.size l f lp) :
    Calls Try.prog 11 #[.agg #[.slice p D.n c, .slice q D.m d], .slice lp l lc] w fun e w' => e = .returned (.bool true) ∧ Below w.heap.size w w' := by
  obtain ⟨w1, x1, hw1, hb1, hz1, F0i, F1i, _⟩ := box_ro w p q D.n D.m c d
  have HW_0 : Hid (∀ z : Ext w1, Below w.heap.size w z.v) := fun z => bT hb1 z.b
  have HI_0 : Hid (∀ z : Ext w1, RoIn z.v z.v.heap.size D p q) := fun z => (hi.bel hb1).bel z.b
  have HL_0 : Hid (∀ z : Ext w1, NumIn z.v z.v.heap.size l f lp) := fun z => (hf.bel hb1).bel z.b
  clear hb1 hz1 hi hf
  have F0_0 : ∀ z : Ext w1, z.v.cell? ⟨w.heap.size, 0, none⟩ = some (.slice p D.n c) := fun z => F0i z
  have F1_0 : ∀ z : Ext w1, z.v.cell? ⟨w.heap.size, 1, none⟩ = some (.slice q D.m d) := fun z => F1i z
  have HH := Lib.hid hh; clear hh
  go_enter Try.func11, Try.ntmps11
  go_wp2_with fail
  refine (quiet_x (huge_is HH.out _ hn hm hl)).mono ?_
  rintro e w' ⟨rfl, y, rfl⟩
  go_wp2_with fail
  refine (quiet_x (works_ex _)).mono ?_
  rintro e w' ⟨rfl, y2, rfl⟩
  go_wp2
  go_ret
  exact ⟨rfl, HW_0.out y2⟩
set_option maxRecDepth 100000 in
set_option maxHeartbeats 16000000 in
theorem cost_in (D : Ro) (p q : Option Addr) (c d : Nat) (lp : Option Addr) (lc l : Nat) (f : Nat → Int) (w : World) (hn : D.n ≤ 40) (hm : D.m ≤ 40) (hl : l ≤ 40) (hh : hugeV D l = false) (hi : RoIn w w.heap.size D p q) (hf : NumIn w w.heap.size l f lp) :
    Calls Try.prog 11 #[.agg #[.slice p D.n c, .slice q D.m d], .slice lp l lc] w fun e w' => e = .returned (.bool true) ∧ Below w.heap.size w w' := by
  obtain ⟨w1, x1, hw1, hb1, hz1, F0i, F1i, _⟩ := box_ro w p q D.n D.m c d
  have HW_0 : Hid (∀ z : Ext w1, Below w.heap.size w z.v) := fun z => bT hb1 z.b
  have HI_0 : Hid (∀ z : Ext w1, RoIn z.v z.v.heap.size D p q) := fun z => (hi.bel hb1).bel z.b
  have HL_0 : Hid (∀ z : Ext w1, NumIn z.v z.v.heap.size l f lp) := fun z => (hf.bel hb1).bel z.b
  clear hb1 hz1 hi hf
  have F0_0 : ∀ z : Ext w1, z.v.cell? ⟨w.heap.size, 0, none⟩ = some (.slice p D.n c) := fun z => F0i z
  have F1_0 : ∀ z : Ext w1, z.v.cell? ⟨w.heap.size, 1, none⟩ = some (.slice q D.m d) := fun z => F1i z
  have HH := Lib.hid hh; clear hh
  have hn' : D.n ≤ maxLen := by unfold maxLen; omega
  have hm' : D.m ≤ maxLen := by unfold maxLen; omega
  have hl' : l ≤ maxLen := by unfold maxLen; omega
  have HN' := Lib.hid hn'; have HM' := Lib.hid hm'; have HL' := Lib.hid hl'
  clear hn' hm' hl'
  obtain ⟨vk, e_vk⟩ : ∃ x, chkE D.ok true = x := ⟨_, rfl⟩
  obtain ⟨vg, e_vg⟩ : ∃ x, gdV D l f = x := ⟨_, rfl⟩
  obtain ⟨vc, e_vc⟩ : ∃ x, csV D l f = x := ⟨_, rfl⟩
  obtain ⟨ve, e_ve⟩ : ∃ x, newE D l f = x := ⟨_, rfl⟩
  obtain ⟨vm, e_vm⟩ : ∃ x, mdL D l f = x := ⟨_, rfl⟩
  have HCP := Lib.hid (show ∀ (V : World) (P Q : Option Addr) (cc dd : Nat), RoIn V V.heap.size D P Q → Calls Try.prog 40 #[.agg #[.slice P D.n cc, .slice Q D.m dd]] V fun e w' => e = .returned (.int .i64 vk) ∧ Below V.heap.size V w' from fun V P Q cc dd h => by
    have := checkP_any D P Q cc dd V HN'.out HM'.out h
    rw [e_vk] at this
    exact this)
  have HCR := Lib.hid (show ∀ (V : World) (P Q : Option Addr) (cc dd : Nat), RoIn V V.heap.size D P Q → Calls Try.prog 41 #[.agg #[.slice P D.n cc, .slice Q D.m dd]] V fun e w' => e = .returned (.int .i64 vk) ∧ Below V.heap.size V w' from fun V P Q cc dd h => by
    have := checkR_any D P Q cc dd V HN'.out HM'.out h
    rw [e_vk] at this
    exact this)
  have HGP := Lib.hid (show ∀ (V : World) (P Q : Option Addr) (cc dd : Nat) (lq : Option Addr) (lc2 : Nat), RoIn V V.heap.size D P Q → NumIn V V.heap.size l f lq → Calls Try.prog 30 #[.agg #[.slice P D.n cc, .slice Q D.m dd], .slice lq l lc2] V fun e w' => e = .returned (.tuple #[.bool vg, .int .i64 vk]) ∧ Below V.heap.size V w' from fun V P Q cc dd lq lc2 h h2 => by
    have := goodP_any D P Q lq cc dd l lc2 f V HN'.out HM'.out h h2
    rw [e_vk, e_vg] at this
    exact this)
  have HGR := Lib.hid (show ∀ (V : World) (P Q : Option Addr) (cc dd : Nat) (lq : Option Addr) (lc2 : Nat), RoIn V V.heap.size D P Q → NumIn V V.heap.size l f lq → Calls Try.prog 42 #[.agg #[.slice P D.n cc, .slice Q D.m dd], .slice lq l lc2] V fun e w' => e = .returned (.tuple #[.bool vg, .int .i64 vk]) ∧ Below V.heap.size V w' from fun V P Q cc dd lq lc2 h h2 => by
    have := goodR_any D P Q lq cc dd l lc2 f V HN'.out HM'.out h h2
    rw [e_vk, e_vg] at this
    exact this)
  have HSP := Lib.hid (show ∀ (V : World) (P Q : Option Addr) (cc dd : Nat) (lq : Option Addr) (lc2 : Nat), RoIn V V.heap.size D P Q → NumIn V V.heap.size l f lq → Calls Try.prog 43 #[.agg #[.slice P D.n cc, .slice Q D.m dd], .slice lq l lc2] V fun e w' => e = .returned (.tuple #[.int .i64 vc, .int .i64 ve]) ∧ Below V.heap.size V w' from fun V P Q cc dd lq lc2 h h2 => by
    have := costPP_any D P Q lq cc dd l lc2 f V HN'.out HM'.out h h2
    rw [e_vc, e_ve] at this
    exact this)
  have HSR := Lib.hid (show ∀ (V : World) (P Q : Option Addr) (cc dd : Nat) (lq : Option Addr) (lc2 : Nat), RoIn V V.heap.size D P Q → NumIn V V.heap.size l f lq → Calls Try.prog 44 #[.agg #[.slice P D.n cc, .slice Q D.m dd], .slice lq l lc2] V fun e w' => e = .returned (.tuple #[.int .i64 vc, .int .i64 ve]) ∧ Below V.heap.size V w' from fun V P Q cc dd lq lc2 h h2 => by
    have := costRR_any D P Q lq cc dd l lc2 f V HN'.out HM'.out h h2
    rw [e_vc, e_ve] at this
    exact this)
  have HMP := Lib.hid (show ∀ (V : World) (P Q : Option Addr) (cc dd : Nat) (lq : Option Addr) (lc2 : Nat), RoIn V V.heap.size D P Q → NumIn V V.heap.size l f lq → Calls Try.prog 45 #[.agg #[.slice P D.n cc, .slice Q D.m dd], .slice lq l lc2] V fun e w' => ∃ y c', e = .returned (.tuple #[.slice y vm c', .int .i64 ve]) ∧ Below V.heap.size V w' ∧ NumIn w' w'.heap.size vm (mvd D f) y from fun V P Q cc dd lq lc2 h h2 => by
    have := movedPP_any D P Q lq cc dd l lc2 f V HN'.out HM'.out h h2
    rw [e_vm, e_ve] at this
    exact this)
  have HMR := Lib.hid (show ∀ (V : World) (P Q : Option Addr) (cc dd : Nat) (lq : Option Addr) (lc2 : Nat), RoIn V V.heap.size D P Q → NumIn V V.heap.size l f lq → Calls Try.prog 46 #[.agg #[.slice P D.n cc, .slice Q D.m dd], .slice lq l lc2] V fun e w' => ∃ y c', e = .returned (.tuple #[.slice y vm c', .int .i64 ve]) ∧ Below V.heap.size V w' ∧ NumIn w' w'.heap.size vm (mvd D f) y from fun V P Q cc dd lq lc2 h h2 => by
    have := movedRR_any D P Q lq cc dd l lc2 f V HN'.out HM'.out h h2
    rw [e_vm, e_ve] at this
    exact this)
  have hvm : vm ≤ 1000 := by rw [← e_vm]; unfold mdL; have := movedL_len D f D.m; split <;> omega
  have HVM := Lib.hid hvm
  clear e_vk e_vg e_vc e_ve e_vm hvm
  have bk : (vk != vk) = false := by simp
  go_enter Try.func11, Try.ntmps11
  go_wp2_with fail
  refine (quiet_x (huge_is HH.out _ HN'.out HM'.out HL'.out)).mono ?_
  rintro e w' ⟨rfl, y, rfl⟩
  go_wp2_with fail
  refine (copy_any D p q c d _ (by omega) (by omega) (HI_0.out y)).mono ?_
  rintro e wc ⟨p', c', q', d', rfl, hcp⟩
  have hin := hcp.here
  have HXc := Lib.hid (bT y.b hcp.below)
  obtain ⟨wl, hwl⟩ : ∃ wl, wc.alloc (Obj.cells #[] 3) = wl := ⟨_, rfl⟩
  have hbl : Below wc.heap.size wc wl := by rw [← hwl]; exact bA (Below.refl _ _) _
  have HBL := Lib.hid hbl; clear hbl
  obtain ⟨i3, hi3, hz3, hz3', hz3''⟩ := info_parts infoI
  have I3 := Lib.hid hi3; have Z3 := Lib.hid hz3; have Z3' := Lib.hid hz3'; have Z3'' := Lib.hid hz3''; clear hi3 hz3 hz3' hz3''
  have S1 := Lib.hid (show l ≤ maxLen by unfold maxLen; omega)
  have HLc := Lib.hid (HL_0.out ⟨wl, bT HXc.out HBL.out⟩)
  have HIN := Lib.hid hin; clear hin hcp
  go_wp2_with (at_builtin; refine wpList_append_copy rfl (.tmp 25) (.tmp 26) 22 rfl 3 i3 _ 1 8 Try.underlying22 I3.out Z3.out Z3'.out Z3''.out rfl (by decide) _ (by simp [Act.eval, Act.put]; rfl) lp l lc (by simp [Act.eval, Act.put]) (srcN HLc.out) S1.out (by omega) ?_)
  intro yk ck wk hck
  have hnew := copied_new HLc.out HBL.out (by simpa using hck)
  have hnk := hnew.num
  obtain ⟨w3, x3, hw3, hb3, hz3, O0i, O1i, _⟩ := box_ro wk p' q' D.n D.m c' d'
  have HX3 := Lib.hid (bT (bT HXc.out hnew.below) hb3)
  have HO_1 : Hid (∀ z : Ext w3, RoIn z.v z.v.heap.size D p' q') := fun z => ((HIN.out.bel hnew.below).bel hb3).bel z.b
  have HK_1 : Hid (∀ z : Ext w3, NumIn z.v z.v.heap.size l f yk) := fun z => (hnk.bel hb3).bel z.b
  clear hb3 hz3 hnew hnk hck hw1 hwl HBL HIN
  have HI_1 : Hid (∀ z : Ext w3, RoIn z.v z.v.heap.size D p q) := fun z => HI_0.out (z.up HX3.out)
  have HL_1 : Hid (∀ z : Ext w3, NumIn z.v z.v.heap.size l f lp) := fun z => HL_0.out (z.up HX3.out)
  have F0_1 : ∀ z : Ext w3, z.v.cell? ⟨w.heap.size, 0, none⟩ = some (.slice p D.n c) := fun z => F0_0 (z.up HX3.out)
  have F1_1 : ∀ z : Ext w3, z.v.cell? ⟨w.heap.size, 1, none⟩ = some (.slice q D.m d) := fun z => F1_0 (z.up HX3.out)
  have HW_1 : Hid (∀ z : Ext w3, Below w.heap.size w z.v) := fun z => HW_0.out (z.up HX3.out)
  clear HI_0 HL_0 F0_0 F1_0 HW_0
  have O0_1 : ∀ z : Ext w3, z.v.cell? ⟨wk.heap.size, 0, none⟩ = some (.slice p' D.n c') := fun z => O0i z
  have O1_1 : ∀ z : Ext w3, z.v.cell? ⟨wk.heap.size, 1, none⟩ = some (.slice q' D.m d') := fun z => O1i z
  go_wp2
  refine quiet_e (by kernel_rfl) (by kernel_rfl) ?_
  repeat (first | go_big_quiet_step ((first | (go_at_call 40; exact quiet_x (HCP.out _ _ _ _ _ (HO_1.out _))) | (go_at_call 41; exact quiet_x (HCR.out _ _ _ _ _ (HI_1.out _))))) | quiet_step ((first | (go_at_call 40; exact quiet_x (HCP.out _ _ _ _ _ (HO_1.out _))) | (go_at_call 41; exact quiet_x (HCR.out _ _ _ _ _ (HI_1.out _))))))
  refine wpQuiet_nil ?_
  intro w6 hw6
  obtain ⟨y4, rfl⟩ := hw6
  go_wp2_with fail
  refine (quiet_x (HGP.out _ _ _ _ _ _ _ (HO_1.out _) (HK_1.out _))).mono ?_
  rintro e w' ⟨rfl, y5, rfl⟩
  go_wp2_with fail
  refine (quiet_x (HGR.out _ _ _ _ _ _ _ (HI_1.out _) (HL_1.out _))).mono ?_
  rintro e w' ⟨rfl, y6, rfl⟩
  go_wp2_with fail
  refine (quiet_x (HSP.out _ _ _ _ _ _ _ (HO_1.out _) (HK_1.out _))).mono ?_
  rintro e w' ⟨rfl, y7, rfl⟩
  go_wp2_with fail
  refine (quiet_x (HSR.out _ _ _ _ _ _ _ (HI_1.out _) (HL_1.out _))).mono ?_
  rintro e w' ⟨rfl, y8, rfl⟩
  go_wp2_with fail
  refine (HMP.out _ _ _ _ _ _ _ (HO_1.out _) (HK_1.out _)).mono ?_
  rintro e wa ⟨m1, m1c, rfl, hbm1, hnm1⟩
  have HXwa := Lib.hid (bT y8.b hbm1); have HNm10 := Lib.hid hnm1
  obtain ⟨zwa, hzwa⟩ := rebase wa
  clear hbm1 hnm1
  have HI_2 : Hid (∀ z : Ext wa, RoIn z.v z.v.heap.size D p q) := fun z => HI_1.out (z.up HXwa.out)
  have HL_2 : Hid (∀ z : Ext wa, NumIn z.v z.v.heap.size l f lp) := fun z => HL_1.out (z.up HXwa.out)
  have F0_2 : ∀ z : Ext wa, z.v.cell? ⟨w.heap.size, 0, none⟩ = some (.slice p D.n c) := fun z => F0_1 (z.up HXwa.out)
  have F1_2 : ∀ z : Ext wa, z.v.cell? ⟨w.heap.size, 1, none⟩ = some (.slice q D.m d) := fun z => F1_1 (z.up HXwa.out)
  have HW_2 : Hid (∀ z : Ext wa, Below w.heap.size w z.v) := fun z => HW_1.out (z.up HXwa.out)
  have HO_2 : Hid (∀ z : Ext wa, RoIn z.v z.v.heap.size D p' q') := fun z => HO_1.out (z.up HXwa.out)
  have HK_2 : Hid (∀ z : Ext wa, NumIn z.v z.v.heap.size l f yk) := fun z => HK_1.out (z.up HXwa.out)
  have O0_2 : ∀ z : Ext wa, z.v.cell? ⟨wk.heap.size, 0, none⟩ = some (.slice p' D.n c') := fun z => O0_1 (z.up HXwa.out)
  have O1_2 : ∀ z : Ext wa, z.v.cell? ⟨wk.heap.size, 1, none⟩ = some (.slice q' D.m d') := fun z => O1_1 (z.up HXwa.out)
  clear HI_1 HL_1 F0_1 F1_1 HW_1 HO_1 HK_1 O0_1 O1_1
  have Nm1_2 : Hid (∀ z : Ext wa, NumIn z.v z.v.heap.size vm (mvd D f) m1) := fun z => HNm10.out.bel z.b
  rw [hzwa]; clear hzwa
  go_wp2_with fail
  refine (HMR.out _ _ _ _ _ _ _ (HI_2.out _) (HL_2.out _)).mono ?_
  rintro e wb ⟨m2, m2c, rfl, hbm2, hnm2⟩
  have HXwb := Lib.hid (bT zwa.b hbm2); have HNm20 := Lib.hid hnm2
  obtain ⟨zwb, hzwb⟩ := rebase wb
  clear hbm2 hnm2
  have HI_3 : Hid (∀ z : Ext wb, RoIn z.v z.v.heap.size D p q) := fun z => HI_2.out (z.up HXwb.out)
  have HL_3 : Hid (∀ z : Ext wb, NumIn z.v z.v.heap.size l f lp) := fun z => HL_2.out (z.up HXwb.out)
  have F0_3 : ∀ z : Ext wb, z.v.cell? ⟨w.heap.size, 0, none⟩ = some (.slice p D.n c) := fun z => F0_2 (z.up HXwb.out)
  have F1_3 : ∀ z : Ext wb, z.v.cell? ⟨w.heap.size, 1, none⟩ = some (.slice q D.m d) := fun z => F1_2 (z.up HXwb.out)
  have HW_3 : Hid (∀ z : Ext wb, Below w.heap.size w z.v) := fun z => HW_2.out (z.up HXwb.out)
  have HO_3 : Hid (∀ z : Ext wb, RoIn z.v z.v.heap.size D p' q') := fun z => HO_2.out (z.up HXwb.out)
  have HK_3 : Hid (∀ z : Ext wb, NumIn z.v z.v.heap.size l f yk) := fun z => HK_2.out (z.up HXwb.out)
  have O0_3 : ∀ z : Ext wb, z.v.cell? ⟨wk.heap.size, 0, none⟩ = some (.slice p' D.n c') := fun z => O0_2 (z.up HXwb.out)
  have O1_3 : ∀ z : Ext wb, z.v.cell? ⟨wk.heap.size, 1, none⟩ = some (.slice q' D.m d') := fun z => O1_2 (z.up HXwb.out)
  have Nm1_3 : Hid (∀ z : Ext wb, NumIn z.v z.v.heap.size vm (mvd D f) m1) := fun z => Nm1_2.out (z.up HXwb.out)
  clear HI_2 HL_2 F0_2 F1_2 HW_2 HO_2 HK_2 O0_2 O1_2 Nm1_2
  have Nm2_3 : Hid (∀ z : Ext wb, NumIn z.v z.v.heap.size vm (mvd D f) m2) := fun z => HNm20.out.bel z.b
  rw [hzwb]; clear hzwb
  go_wp2_with fail
  refine (quiet_x (sameInts_is _ HVM.out (Nm1_3.out _) (Nm2_3.out _))).mono ?_
  rintro e w' ⟨rfl, y9, rfl⟩
  go_wp2_with fail
  refine (quiet_x (same_any D p' q' c' d' p q c d _ (by omega) (by omega) (HO_3.out _) (HI_3.out _))).mono ?_
  rintro e w' ⟨rfl, y10, rfl⟩
  go_wp2_with fail
  refine (quiet_x (sameInts_is _ (by omega) (HK_3.out _) (HL_3.out _))).mono ?_
  rintro e w' ⟨rfl, y11, rfl⟩
  go_wp2_with fail
  refine (quiet_x (works_ex _)).mono ?_
  rintro e w' ⟨rfl, y12, rfl⟩
  go_wp2
  go_ret
  exact ⟨rfl, HW_3.out y12⟩
theorem cost_law (D : Ro) (p q : Option Addr) (c d : Nat) (lp : Option Addr) (lc l : Nat) (f : Nat → Int) (w : World) (hn : D.n ≤ maxLen) (hm : D.m ≤ maxLen) (hl : l ≤ maxLen) (hi : RoIn w w.heap.size D p q) (hf : NumIn w w.heap.size l f lp) :
    Calls Try.prog 11 #[.agg #[.slice p D.n c, .slice q D.m d], .slice lp l lc] w fun e w' => e = .returned (.bool true) ∧ Below w.heap.size w w' := by
  cases hh : hugeV D l with
  | true => exact cost_out D p q c d lp lc l f w hn hm hl hh hi hf
  | false =>
    have h2 := hh
    simp [hugeV] at h2
    exact cost_in D p q c d lp lc l f w (by omega) (by omega) (by omega) hh hi hf
end Go.Proofs.Ytegkgfiaegpihaa
