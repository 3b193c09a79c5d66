/- ShaftsPrice returns true in every walk, whatever the shaft and the foot. -/
import Derived.Test.YtaaocomgmacjnabDoorA9

set_option linter.unusedSimpArgs false

set_option linter.unusedVariables false

namespace Go.Proofs.YtaaocomgmacjnabDoor

open Go.RowKit

set_option maxRecDepth 100000 in
set_option maxHeartbeats 2000000 in
theorem price_big (S : Shaft) (p q : Option Addr) (c d : Nat) (n : Int) (w : World) (hgl : GlobsOk laid w) (hF : S.F.length ≤ maxLen) (hR : S.R.length ≤ maxLen) (hg : hugeS S 0 = true) :
    Calls Tryd.prog 3 #[.agg #[.slice q S.R.length d, .slice p S.F.length c, .int .i64 S.D, .int .i64 S.H, .int .i64 S.T], .int .i64 n] w fun e w' => e = .returned (.bool true) ∧ Below w.heap.size w w' := by
  obtain ⟨w1, hw1, hb1, hz1, k0, k1, k2, k3, k4, k5⟩ := box_shaft w S p q c d
  have hh := huge_any S p q none c d 0 0 w1 hF hR (Nat.zero_le _)
  rw [hg] at hh
  have HB1 := Lib.hid hb1; have HH := Lib.hid hh; have HG1 := Lib.hid (hgl.below hb1)
  clear hb1 hz1 hh hg hF hR hgl
  go_enter Tryd.func3, Tryd.ntmps3
  go_wp2_with (first
    | (go_at_call 6; refine HH.out.mono ?_; rintro e w2 ⟨rfl, hb2⟩; go_must (have HB2 := Lib.hid hb2; have HG2 := Lib.hid (HG1.out.below hb2); clear hb2))
    | (go_at_call 7; refine (works_ex _ HG2.out).mono ?_; rintro e w3 ⟨rfl, hb3⟩; go_must (have HB3 := Lib.hid hb3; clear hb3)))
  go_ret
  exact ⟨rfl, bT HB1.out (bT HB2.out HB3.out)⟩

set_option maxRecDepth 100000 in
set_option maxHeartbeats 4000000 in
theorem price_small (S : Shaft) (p q : Option Addr) (c d : Nat) (n : Int) (w : World) (hgl : GlobsOk laid w) (hF : S.F.length ≤ 40) (hR : S.R.length ≤ 40) (ht : ShaftIn w w.heap.size S p q) :
    Calls Tryd.prog 3 #[.agg #[.slice q S.R.length d, .slice p S.F.length c, .int .i64 S.D, .int .i64 S.H, .int .i64 S.T], .int .i64 n] w fun e w' => e = .returned (.bool true) ∧ Below w.heap.size w w' := by
  obtain ⟨w1, hw1, hb1, hz1, k0, k1, k2, k3, k4, k5⟩ := box_shaft w S p q c d
  have hh := huge_any S p q none c d 0 0 w1 (by unfold maxLen; omega) (by unfold maxLen; omega) (Nat.zero_le _)
  rw [show hugeS S 0 = false from by simp [hugeS]; omega] at hh
  have hC := fun (V : World) (hV : Below w1.heap.size w1 V) => copy_any S p q c d V (by omega) (by omega) ((ht.bel hb1).bel hV)
  obtain ⟨e0, he0⟩ : ∃ e, vErr S.ok = e := ⟨_, rfl⟩
  obtain ⟨r1, hr1⟩ : ∃ e, prV S n = e := ⟨_, rfl⟩
  obtain ⟨r2, hr2⟩ : ∃ e, hrV S n = e := ⟨_, rfl⟩
  obtain ⟨e1, he1⟩ : ∃ e, askErr S.ok (S.isFoot n) = e := ⟨_, rfl⟩
  have hCP := fun (V : World) (p q : Option Addr) (c d : Nat) (ht : ShaftIn V V.heap.size S p q) => check_any S p q c d V (by omega) (by omega) ht
  have hCR := fun (V : World) (p q : Option Addr) (c d : Nat) (ht : ShaftIn V V.heap.size S p q) => checkR_any S p q c d V (by omega) (by omega) ht
  have hHP := fun (V : World) (p q : Option Addr) (c d : Nat) (ht : ShaftIn V V.heap.size S p q) => priceP_any S p q c d n V (by omega) (by omega) ht
  have hHR := fun (V : World) (p q : Option Addr) (c d : Nat) (ht : ShaftIn V V.heap.size S p q) => priceR_any S p q c d n V (by omega) (by omega) ht
  have hSM := fun (V : World) (p q : Option Addr) (c d : Nat) (p' q' : Option Addr) (c' d' : Nat) (ht : ShaftIn V V.heap.size S p q) (ht' : ShaftIn V V.heap.size S p' q') => same_any S p q c d p' q' c' d' V (by omega) (by omega) ht ht'
  rw [he0] at hCP hCR
  rw [hr1, hr2, he1] at hHP hHR
  have HH := Lib.hid hh; have HC := Lib.hid hC; have HCP := Lib.hid hCP; have HCR := Lib.hid hCR; have HHP := Lib.hid hHP; have HHR := Lib.hid hHR; have HSM := Lib.hid hSM
  have HT1 := Lib.hid (ht.bel hb1); have HB1 := Lib.hid hb1; have HG := Lib.hid hgl
  clear hh hC hCP hCR hHP hHR hSM he0 hr1 hr2 he1 ht hb1 hz1 hF hR hgl
  go_enter Tryd.func3, Tryd.ntmps3
  go_wp2_with (first
    | (go_at_call 6; refine HH.out.mono ?_; rintro e w2 ⟨rfl, hb2⟩; go_must (have j0 := (hb2.cell k5).trans k0; have j1 := (hb2.cell k5).trans k1; have j2 := (hb2.cell k5).trans k2; have j3 := (hb2.cell k5).trans k3; have j4 := (hb2.cell k5).trans k4; have HB2 := Lib.hid hb2; clear hb2))
    | (go_at_call 8; refine (HC.out _ HB2.out).mono ?_; rintro e w3 ⟨p', c', q', d', rfl, hb3, ht3⟩; go_must (have HB3 := Lib.hid hb3; have HT3 := Lib.hid ht3; clear hb3 ht3)))
  obtain ⟨w5, hw5, hb5, hz5, m0, m1, m2, m3, m4, m5⟩ := box_shaft w3 S p' q' c' d'
  try rw [hw5]
  have hlong := bT HB2.out (bT HB3.out hb5)
  have h5 : TwoS w.heap.size w3.heap.size S p q p' q' c d c' d' w5 := ⟨(hlong.cell k5).trans k0, (hlong.cell k5).trans k1, (hlong.cell k5).trans k2, (hlong.cell k5).trans k3, (hlong.cell k5).trans k4, m0, m1, m2, m3, m4, Nat.lt_of_lt_of_le k5 hlong.size, m5⟩
  have HT5 := Lib.hid (HT1.out.bel hlong)
  have HU5 := Lib.hid (HT3.out.bel hb5)
  have HB5 := Lib.hid (bT HB1.out hlong)
  have H5 := Lib.hid h5
  clear j0 j1 j2 j3 j4 k0 k1 k2 k3 k4 k5 m0 m1 m2 m3 m4 m5 hlong hb5 h5 hz5
  have F0 : ∀ x : Ext w5, x.v.cell? ⟨w.heap.size, 0, none⟩ = some (.slice q S.R.length d) := fun x => (H5.out.below x.b).t0
  have G0 : ∀ x : Ext w5, x.v.cell? ⟨w3.heap.size, 0, none⟩ = some (.slice q' S.R.length d') := fun x => (H5.out.below x.b).q0
  have F1 : ∀ x : Ext w5, x.v.cell? ⟨w.heap.size, 1, none⟩ = some (.slice p S.F.length c) := fun x => (H5.out.below x.b).t1
  have G1 : ∀ x : Ext w5, x.v.cell? ⟨w3.heap.size, 1, none⟩ = some (.slice p' S.F.length c') := fun x => (H5.out.below x.b).q1
  have F2 : ∀ x : Ext w5, x.v.cell? ⟨w.heap.size, 2, none⟩ = some (.int .i64 S.D) := fun x => (H5.out.below x.b).t2
  have G2 : ∀ x : Ext w5, x.v.cell? ⟨w3.heap.size, 2, none⟩ = some (.int .i64 S.D) := fun x => (H5.out.below x.b).q2
  have F3 : ∀ x : Ext w5, x.v.cell? ⟨w.heap.size, 3, none⟩ = some (.int .i64 S.H) := fun x => (H5.out.below x.b).t3
  have G3 : ∀ x : Ext w5, x.v.cell? ⟨w3.heap.size, 3, none⟩ = some (.int .i64 S.H) := fun x => (H5.out.below x.b).q3
  have F4 : ∀ x : Ext w5, x.v.cell? ⟨w.heap.size, 4, none⟩ = some (.int .i64 S.T) := fun x => (H5.out.below x.b).t4
  have G4 : ∀ x : Ext w5, x.v.cell? ⟨w3.heap.size, 4, none⟩ = some (.int .i64 S.T) := fun x => (H5.out.below x.b).q4
  refine quiet_lit (by kernel_rfl) (by kernel_rfl) ?_
  repeat (first | go_big_quiet_step (first | (go_at_call 9; exact quiet_x (HCP.out _ _ _ _ _ (HU5.out.bel (by rename_i x; exact x.b)))) | (go_at_call 10; exact quiet_x (HCR.out _ _ _ _ _ (HT5.out.bel (by rename_i x; exact x.b))))) | quiet_step (first | (go_at_call 9; exact quiet_x (HCP.out _ _ _ _ _ (HU5.out.bel (by rename_i x; exact x.b)))) | (go_at_call 10; exact quiet_x (HCR.out _ _ _ _ _ (HT5.out.bel (by rename_i x; exact x.b))))))
  refine wpQuiet_nil ?_
  intro w6 hw6
  obtain ⟨⟨w6, hw6⟩, rfl⟩ := hw6
  have h6 := H5.out.below hw6
  have j0 := h6.t0; have j1 := h6.t1; have j2 := h6.t2; have j3 := h6.t3; have j4 := h6.t4; have m0 := h6.q0; have m1 := h6.q1; have m2 := h6.q2; have m3 := h6.q3; have m4 := h6.q4
  have H6 := Lib.hid h6; have HB6 := Lib.hid (bT HB5.out hw6); have HT6 := Lib.hid (HT5.out.bel hw6); have HU6 := Lib.hid (HU5.out.bel hw6)
  clear h6 hw6 F0 F1 F2 F3 F4 G0 G1 G2 G3 G4 HT1 HT3 HT5 HU5 H5 HB5
  have ne : (e0 != e0) = false := by simp
  have q1 : (r1 == r1) = true := by simp
  have q2 : (r2 == r2) = true := by simp
  have q3 : (e1 == e1) = true := by simp
  go_wp2_with (first
    | (go_at_call 11; refine (HHP.out _ _ _ _ _ (HU6.out)).mono ?_; rintro e w7 ⟨rfl, hb7⟩; go_must (have h7 := H6.out.below hb7; clear j0 j1 j2 j3 j4 m0 m1 m2 m3 m4; have j0 := h7.t0; have j1 := h7.t1; have j2 := h7.t2; have j3 := h7.t3; have j4 := h7.t4; have m0 := h7.q0; have m1 := h7.q1; have m2 := h7.q2; have m3 := h7.q3; have m4 := h7.q4; have H7 := Lib.hid h7; have HB7 := Lib.hid (bT HB6.out hb7); have HT7 := Lib.hid (HT6.out.bel hb7); have HU7 := Lib.hid (HU6.out.bel hb7); clear hb7 h7))
    | (go_at_call 12; refine (HHR.out _ _ _ _ _ (HT7.out)).mono ?_; rintro e w8 ⟨rfl, hb8⟩; go_must (have h8 := H7.out.below hb8; clear j0 j1 j2 j3 j4 m0 m1 m2 m3 m4; have j0 := h8.t0; have j1 := h8.t1; have j2 := h8.t2; have j3 := h8.t3; have j4 := h8.t4; have m0 := h8.q0; have m1 := h8.q1; have m2 := h8.q2; have m3 := h8.q3; have m4 := h8.q4; have H8 := Lib.hid h8; have HB8 := Lib.hid (bT HB7.out hb8); have HT8 := Lib.hid (HT7.out.bel hb8); have HU8 := Lib.hid (HU7.out.bel hb8); clear hb8 h8))
    | (go_at_call 13; refine (HSM.out _ _ _ _ _ _ _ _ _ HU8.out HT8.out).mono ?_; rintro e w11 ⟨rfl, hb11⟩; go_must (have HB11 := Lib.hid (bT HB8.out hb11); clear hb11))
    | (go_at_call 7; refine (works_ex _ (HG.out.below HB11.out)).mono ?_; rintro e w12 ⟨rfl, hb12⟩; go_must (have HB12 := Lib.hid (bT HB11.out hb12); clear hb12)))
  go_ret
  exact ⟨rfl, HB12.out⟩

theorem price_law (S : Shaft) (p q : Option Addr) (c d : Nat) (n : Int) (w : World) (hgl : GlobsOk laid w) (hF : S.F.length ≤ maxLen) (hR : S.R.length ≤ maxLen) (ht : ShaftIn w w.heap.size S p q) :
    Calls Tryd.prog 3 #[.agg #[.slice q S.R.length d, .slice p S.F.length c, .int .i64 S.D, .int .i64 S.H, .int .i64 S.T], .int .i64 n] w fun e w' => e = .returned (.bool true) ∧ Below w.heap.size w w' := by
  cases hg : hugeS S 0 with
  | true => exact price_big S p q c d n w hgl hF hR hg
  | false =>
    have h1 : ¬ 40 < S.R.length ∧ ¬ 40 < S.F.length := by simpa [hugeS] using hg
    exact price_small S p q c d n w hgl (by omega) (by omega) ht
end Go.Proofs.YtaaocomgmacjnabDoor
