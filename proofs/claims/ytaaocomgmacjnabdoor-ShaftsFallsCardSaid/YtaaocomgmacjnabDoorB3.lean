/- Shafts: ShaftsFalls returns true in every walk, whatever the shaft and the list . -/
import Derived.Test.YtaaocomgmacjnabDoorC10

import Derived.Test.YtaaocomgmacjnabDoorD1

set_option linter.unusedSimpArgs false

set_option linter.unusedVariables false

namespace Go.Proofs.YtaaocomgmacjnabDoor

open Go.RowKit

set_option maxRecDepth 100000 in
set_option maxHeartbeats 4000000 in
theorem falls_big (S : Shaft) (p q : Option Addr) (c d : Nat) (l : List Int) (pl : Option Addr) (cl : Nat) (w : World) (hgl : GlobsOk laid w) (hF : S.F.length ≤ maxLen) (hR : S.R.length ≤ maxLen) (hl : l.length ≤ maxLen) (hg : hugeS S l.length = true) :
    Calls Tryd.prog 4 #[.agg #[.slice q S.R.length d, .slice p S.F.length c, .int .i64 S.D, .int .i64 S.H, .int .i64 S.T], .slice pl l.length cl] w fun e w' => e = .returned (.bool true) ∧ Below w.heap.size w w' := by
  obtain ⟨w1, hw1, hb1, hz1, k0, k1, k2, k3, k4, k5⟩ := box_shaft w S p q c d
  have hh := huge_any S p q pl c d l.length cl w1 hF hR hl
  rw [hg] at hh
  have HB1 := Lib.hid hb1; have HH := Lib.hid hh; have HG1 := Lib.hid (hgl.below hb1)
  clear hb1 hz1 hh hg hF hR hl hgl
  go_enter Tryd.func4, Tryd.ntmps4
  go_wp2_with (first
    | (go_at_call 6; refine HH.out.mono ?_; rintro e w2 ⟨rfl, hb2⟩; go_must (have HB2 := Lib.hid hb2; have HG2 := Lib.hid (HG1.out.below hb2); clear hb2))
    | (go_at_call 7; refine (works_ex _ HG2.out).mono ?_; rintro e w3 ⟨rfl, hb3⟩; go_must (have HB3 := Lib.hid hb3; clear hb3)))
  go_ret
  exact ⟨rfl, bT HB1.out (bT HB2.out HB3.out)⟩

set_option maxRecDepth 100000 in
set_option maxHeartbeats 4000000 in
theorem falls_small (S : Shaft) (p q : Option Addr) (c d : Nat) (l : List Int) (pl : Option Addr) (cl : Nat) (w : World) (hgl : GlobsOk laid w) (hF : S.F.length ≤ 40) (hR : S.R.length ≤ 40) (hl : l.length ≤ 40) (ht : ShaftIn w w.heap.size S p q) (hil : ListIn w w.heap.size l pl) :
    Calls Tryd.prog 4 #[.agg #[.slice q S.R.length d, .slice p S.F.length c, .int .i64 S.D, .int .i64 S.H, .int .i64 S.T], .slice pl l.length cl] w fun e w' => e = .returned (.bool true) ∧ Below w.heap.size w w' := by
  obtain ⟨w1, hw1, hb1, hz1, k0, k1, k2, k3, k4, k5⟩ := box_shaft w S p q c d
  have hh := huge_any S p q pl c d l.length cl w1 (by unfold maxLen; omega) (by unfold maxLen; omega) (by unfold maxLen; omega)
  rw [show hugeS S l.length = false from by simp [hugeS]; omega] at hh
  have hC := fun (V : World) (hV : Below w1.heap.size w1 V) => copy_any S p q c d V (by omega) (by omega) ((ht.bel hb1).bel hV)
  obtain ⟨a1, ha1⟩ : ∃ e, flV S l = e := ⟨_, rfl⟩
  obtain ⟨a2, ha2⟩ : ∃ e, flE S l = e := ⟨_, rfl⟩
  obtain ⟨b1, hb1'⟩ : ∃ e, gdV S l = e := ⟨_, rfl⟩
  obtain ⟨b2, hb2'⟩ : ∃ e, vErr S.ok = e := ⟨_, rfl⟩
  obtain ⟨r1, hr1⟩ : ∃ e, csP S l = e := ⟨_, rfl⟩
  obtain ⟨r2, hr2⟩ : ∃ e, csH S l = e := ⟨_, rfl⟩
  obtain ⟨r3, hr3⟩ : ∃ e, askErr S.ok (S.plan l) = e := ⟨_, rfl⟩
  have hFP := fun (V : World) (p q pl : Option Addr) (c d cl : Nat) (hc : l.length ≤ cl) (ht : ShaftIn V V.heap.size S p q) (hi : ListIn V V.heap.size l pl) => fallsT_any S p q c d l pl cl V (by omega) (by omega) (by omega) hc ht hi
  have hFR := fun (V : World) (p q pl : Option Addr) (c d cl : Nat) (ht : ShaftIn V V.heap.size S p q) (hi : ListIn V V.heap.size l pl) => fallsU_any S p q c d l pl cl V (by omega) (by omega) (by omega) ht hi
  have hGP := fun (V : World) (p q pl : Option Addr) (c d cl : Nat) (hc : l.length ≤ cl) (ht : ShaftIn V V.heap.size S p q) (hi : ListIn V V.heap.size l pl) => goodT_any S p q c d l pl cl V (by omega) (by omega) (by omega) hc ht hi
  have hGR := fun (V : World) (p q pl : Option Addr) (c d cl : Nat) (ht : ShaftIn V V.heap.size S p q) (hi : ListIn V V.heap.size l pl) => goodU_any S p q c d l pl cl V (by omega) (by omega) (by omega) ht hi
  have hKP := fun (V : World) (p q pl : Option Addr) (c d cl : Nat) (hc : l.length ≤ cl) (ht : ShaftIn V V.heap.size S p q) (hi : ListIn V V.heap.size l pl) => costT_any S p q c d l pl cl V (by omega) (by omega) (by omega) hc ht hi
  have hKR := fun (V : World) (p q pl : Option Addr) (c d cl : Nat) (ht : ShaftIn V V.heap.size S p q) (hi : ListIn V V.heap.size l pl) => costU_any S p q c d l pl cl V (by omega) (by omega) (by omega) ht hi
  have hSM := fun (V : World) (p q : Option Addr) (c d : Nat) (p' q' : Option Addr) (c' d' : Nat) (ht : ShaftIn V V.heap.size S p q) (ht' : ShaftIn V V.heap.size S p' q') => same_any S p q c d p' q' c' d' V (by omega) (by omega) ht ht'
  have hSI : ∀ (V : World) (p q : Option Addr) (c d : Nat), ListIn V V.heap.size l p → ListIn V V.heap.size l q → Calls Tryd.prog 20 #[.slice p l.length c, .slice q l.length d] V fun e w' => e = .returned (.bool true) ∧ Below V.heap.size V w' := fun V p q c d h1 h2 => by
    have h := sameInts_any l l p q c d V (by omega) (by omega) h1 h2
    rw [show decide (l = l) = true from by simp] at h
    exact h.mono fun _ _ ⟨he, n, hn⟩ => ⟨he, hn ▸ bD (Below.refl _ _) n⟩
  rw [ha1, ha2] at hFP hFR
  rw [hb1', hb2'] at hGP hGR
  rw [hr1, hr2, hr3] at hKP hKR
  have HH := Lib.hid hh; have HC := Lib.hid hC; have HFP := Lib.hid hFP; have HFR := Lib.hid hFR; have HGP := Lib.hid hGP; have HGR := Lib.hid hGR; have HKP := Lib.hid hKP; have HKR := Lib.hid hKR; have HSM := Lib.hid hSM; have HSI := Lib.hid hSI
  have HT1 := Lib.hid (ht.bel hb1); have HB1 := Lib.hid hb1; have HG := Lib.hid hgl; have HL1 := Lib.hid (hil.bel hb1)
  clear hh hC hFP hFR hGP hGR hKP hKR hSM hSI ha1 ha2 hb1' hb2' hr1 hr2 hr3 ht hb1 hz1 hF hR hgl hil
  go_enter Tryd.func4, Tryd.ntmps4
  go_wp2_with (first
    | (go_at_call 6; refine HH.out.mono ?_; rintro e w2 ⟨rfl, hb2⟩; go_must (have j0 := (hb2.cell k5).trans k0; have j1 := (hb2.cell k5).trans k1; have j2 := (hb2.cell k5).trans k2; have j3 := (hb2.cell k5).trans k3; have j4 := (hb2.cell k5).trans k4; have HB2 := Lib.hid hb2; clear hb2))
    | (go_at_call 8; refine (HC.out _ HB2.out).mono ?_; rintro e w3 ⟨p', c', q', d', rfl, hb3, ht3⟩; go_must (have HB3 := Lib.hid hb3; have HT3 := Lib.hid ht3; clear hb3 ht3))
    | (at_builtin; refine wpList_append_list w3 rfl _ _ rfl rfl rfl l pl cl rfl (HL1.out.bel (bA (bT HB2.out HB3.out) _)) (by omega) ?_; intro v4 c4 w4 hb4 hc4 hl4; go_must (have HB4 := Lib.hid hb4; have CL := Lib.hid hc4; have HM4 := Lib.hid hl4; clear hb4 hc4 hl4)))
  obtain ⟨w5, hw5, hb5, hz5, m0, m1, m2, m3, m4, m5⟩ := box_shaft w4 S p' q' c' d'
  try rw [hw5]
  have hlong := bT HB2.out (bT HB3.out (bT HB4.out hb5))
  have h5 : TwoS w.heap.size w4.heap.size S p q p' q' c d c' d' w5 := ⟨(hlong.cell k5).trans k0, (hlong.cell k5).trans k1, (hlong.cell k5).trans k2, (hlong.cell k5).trans k3, (hlong.cell k5).trans k4, m0, m1, m2, m3, m4, Nat.lt_of_lt_of_le k5 hlong.size, m5⟩
  have HT5 := Lib.hid (HT1.out.bel hlong)
  have HU5 := Lib.hid ((HT3.out.bel HB4.out).bel hb5)
  have HL5 := Lib.hid (HL1.out.bel hlong)
  have HM5 := Lib.hid (HM4.out.bel hb5)
  have HB5 := Lib.hid (bT HB1.out hlong)
  have H5 := Lib.hid h5
  clear j0 j1 j2 j3 j4 k0 k1 k2 k3 k4 k5 hlong hb5 hz5
  have j0 := h5.t0; have j1 := h5.t1; have j2 := h5.t2; have j3 := h5.t3; have j4 := h5.t4
  clear h5
  have n1 : (a1 != a1) = false := by simp
  have n2 : (a2 != a2) = false := by simp
  have n3 : (b1 != b1) = false := by simp
  have n4 : (b2 != b2) = false := by simp
  have q1 : (r1 == r1) = true := by simp
  have q2 : (r2 == r2) = true := by simp
  have q3 : (r3 == r3) = true := by simp
  go_wp2_with (first
    | (go_at_call 14; refine (HFP.out _ _ _ _ _ _ _ CL.out HU5.out HM5.out).mono ?_; rintro e w6 ⟨rfl, hb6⟩; go_must (have h6 := H5.out.below hb6; clear j0 j1 j2 j3 j4 m0 m1 m2 m3 m4; have j0 := h6.t0; have j1 := h6.t1; have j2 := h6.t2; have j3 := h6.t3; have j4 := h6.t4; have m0 := h6.q0; have m1 := h6.q1; have m2 := h6.q2; have m3 := h6.q3; have m4 := h6.q4; have H6 := Lib.hid h6; have HB6 := Lib.hid (bT HB5.out hb6); have HT6 := Lib.hid (HT5.out.bel hb6); have HU6 := Lib.hid (HU5.out.bel hb6); have HL6 := Lib.hid (HL5.out.bel hb6); have HM6 := Lib.hid (HM5.out.bel hb6); clear hb6 h6))
    | (go_at_call 15; refine (HFR.out _ _ _ _ _ _ _ HT6.out HL6.out).mono ?_; rintro e w7 ⟨rfl, hb7⟩; go_must (have h7 := H6.out.below hb7; clear j0 j1 j2 j3 j4 m0 m1 m2 m3 m4; have j0 := h7.t0; have j1 := h7.t1; have j2 := h7.t2; have j3 := h7.t3; have j4 := h7.t4; have m0 := h7.q0; have m1 := h7.q1; have m2 := h7.q2; have m3 := h7.q3; have m4 := h7.q4; have H7 := Lib.hid h7; have HB7 := Lib.hid (bT HB6.out hb7); have HT7 := Lib.hid (HT6.out.bel hb7); have HU7 := Lib.hid (HU6.out.bel hb7); have HL7 := Lib.hid (HL6.out.bel hb7); have HM7 := Lib.hid (HM6.out.bel hb7); clear hb7 h7))
    | (go_at_call 16; refine (HGP.out _ _ _ _ _ _ _ CL.out HU7.out HM7.out).mono ?_; rintro e w8 ⟨rfl, hb8⟩; go_must (have h8 := H7.out.below hb8; clear j0 j1 j2 j3 j4 m0 m1 m2 m3 m4; have j0 := h8.t0; have j1 := h8.t1; have j2 := h8.t2; have j3 := h8.t3; have j4 := h8.t4; have m0 := h8.q0; have m1 := h8.q1; have m2 := h8.q2; have m3 := h8.q3; have m4 := h8.q4; have H8 := Lib.hid h8; have HB8 := Lib.hid (bT HB7.out hb8); have HT8 := Lib.hid (HT7.out.bel hb8); have HU8 := Lib.hid (HU7.out.bel hb8); have HL8 := Lib.hid (HL7.out.bel hb8); have HM8 := Lib.hid (HM7.out.bel hb8); clear hb8 h8))
    | (go_at_call 17; refine (HGR.out _ _ _ _ _ _ _ HT8.out HL8.out).mono ?_; rintro e w9 ⟨rfl, hb9⟩; go_must (have h9 := H8.out.below hb9; clear j0 j1 j2 j3 j4 m0 m1 m2 m3 m4; have j0 := h9.t0; have j1 := h9.t1; have j2 := h9.t2; have j3 := h9.t3; have j4 := h9.t4; have m0 := h9.q0; have m1 := h9.q1; have m2 := h9.q2; have m3 := h9.q3; have m4 := h9.q4; have H9 := Lib.hid h9; have HB9 := Lib.hid (bT HB8.out hb9); have HT9 := Lib.hid (HT8.out.bel hb9); have HU9 := Lib.hid (HU8.out.bel hb9); have HL9 := Lib.hid (HL8.out.bel hb9); have HM9 := Lib.hid (HM8.out.bel hb9); clear hb9 h9))
    | (go_at_call 18; refine (HKP.out _ _ _ _ _ _ _ CL.out HU9.out HM9.out).mono ?_; rintro e w10 ⟨rfl, hb10⟩; go_must (have h10 := H9.out.below hb10; clear j0 j1 j2 j3 j4 m0 m1 m2 m3 m4; have j0 := h10.t0; have j1 := h10.t1; have j2 := h10.t2; have j3 := h10.t3; have j4 := h10.t4; have m0 := h10.q0; have m1 := h10.q1; have m2 := h10.q2; have m3 := h10.q3; have m4 := h10.q4; have H10 := Lib.hid h10; have HB10 := Lib.hid (bT HB9.out hb10); have HT10 := Lib.hid (HT9.out.bel hb10); have HU10 := Lib.hid (HU9.out.bel hb10); have HL10 := Lib.hid (HL9.out.bel hb10); have HM10 := Lib.hid (HM9.out.bel hb10); clear hb10 h10))
    | (go_at_call 19; refine (HKR.out _ _ _ _ _ _ _ HT10.out HL10.out).mono ?_; rintro e w11 ⟨rfl, hb11⟩; go_must (have h11 := H10.out.below hb11; clear j0 j1 j2 j3 j4 m0 m1 m2 m3 m4; have j0 := h11.t0; have j1 := h11.t1; have j2 := h11.t2; have j3 := h11.t3; have j4 := h11.t4; have m0 := h11.q0; have m1 := h11.q1; have m2 := h11.q2; have m3 := h11.q3; have m4 := h11.q4; have H11 := Lib.hid h11; have HB11 := Lib.hid (bT HB10.out hb11); have HT11 := Lib.hid (HT10.out.bel hb11); have HU11 := Lib.hid (HU10.out.bel hb11); have HL11 := Lib.hid (HL10.out.bel hb11); have HM11 := Lib.hid (HM10.out.bel hb11); clear hb11 h11))
    | (go_at_call 13; refine (HSM.out _ _ _ _ _ _ _ _ _ HU11.out HT11.out).mono ?_; rintro e w12 ⟨rfl, hb12⟩; go_must (have HB12 := Lib.hid (bT HB11.out hb12); have HL12 := Lib.hid (HL11.out.bel hb12); have HM12 := Lib.hid (HM11.out.bel hb12); clear hb12))
    | (go_at_call 20; refine (HSI.out _ _ _ _ _ HM12.out HL12.out).mono ?_; rintro e w13 ⟨rfl, hb13⟩; go_must (have HB13 := Lib.hid (bT HB12.out hb13); clear hb13))
    | (go_at_call 7; refine (works_ex _ (HG.out.below HB13.out)).mono ?_; rintro e w14 ⟨rfl, hb14⟩; go_must (have HB14 := Lib.hid (bT HB13.out hb14); clear hb14)))
  go_ret
  exact ⟨rfl, HB14.out⟩

theorem falls_law (S : Shaft) (p q : Option Addr) (c d : Nat) (l : List Int) (pl : Option Addr) (cl : Nat) (w : World) (hgl : GlobsOk laid w) (hF : S.F.length ≤ maxLen) (hR : S.R.length ≤ maxLen) (hl : l.length ≤ maxLen) (ht : ShaftIn w w.heap.size S p q) (hil : ListIn w w.heap.size l pl) :
    Calls Tryd.prog 4 #[.agg #[.slice q S.R.length d, .slice p S.F.length c, .int .i64 S.D, .int .i64 S.H, .int .i64 S.T], .slice pl l.length cl] w fun e w' => e = .returned (.bool true) ∧ Below w.heap.size w w' := by
  cases hg : hugeS S l.length with
  | true => exact falls_big S p q c d l pl cl w hgl hF hR hl hg
  | false =>
    have h1 : ¬ 40 < S.R.length ∧ ¬ 40 < S.F.length ∧ ¬ 40 < l.length := by simpa [hugeS] using hg
    exact falls_small S p q c d l pl cl w hgl (by omega) (by omega) (by omega) ht hil
end Go.Proofs.YtaaocomgmacjnabDoor
