/- DowsersGuess returns true in every walk, whatever the book and the number. -/
import Derived.Test.YtgpggojpfbhndaaM1
set_option linter.unusedSimpArgs false
set_option linter.unusedVariables false
namespace Go.Proofs.Ytgpggojpfbhndaa
open Go.RowKit

set_option maxRecDepth 100000 in
set_option maxHeartbeats 4000000 in
theorem guess_not (B : Book) (p q : Option Addr) (c d : Nat) (n : Int) (w : World) (hF : B.F.length ≤ maxLen) (hS : B.S.length ≤ maxLen) (ht : BookIn w w.heap.size B p q) (hr : (!hugeB B && B.ok) = false) :
    Calls Try.prog 3 #[.agg #[.int .i64 B.D, .slice p B.F.length c, .int .i64 B.N, .slice q B.S.length d, .int .i64 B.P], .int .i64 n] w fun e w' => e = .returned (.bool true) ∧ Below w.heap.size w w' := by
  obtain ⟨w1, hw1, hb1, hz1, k0, k1, k2, k3, k4, k5⟩ := box_book w B p q c d
  have hh := ready_any B p q c d w1 hF hS (ht.bel hb1)
  rw [hr] at hh
  have HB1 := Lib.hid hb1; have HR := Lib.hid hh
  clear hb1 hz1 hh hr hF hS ht
  go_enter Try.func3, Try.ntmps3
  go_wp2_with (first
    | (go_at_call 15; refine (HR.out).mono ?_; rintro e w2 ⟨rfl, hb2⟩; go_must (have j0 := (hb2.cell k5).trans k0; have j1 := (hb2.cell k5).trans k1; have j2 := (hb2.cell k5).trans k2; have j3 := (hb2.cell k5).trans k3; have j4 := (hb2.cell k5).trans k4; have HB2 := Lib.hid (bT HB1.out hb2); clear hb2))
    | (go_at_call 17; refine (works_ex _).mono ?_; rintro e w9 ⟨rfl, hb9⟩; go_must (have HBW := Lib.hid (bT HB2.out hb9); clear hb9)))
  go_ret
  exact ⟨rfl, HBW.out⟩

set_option maxRecDepth 100000 in
set_option maxHeartbeats 4000000 in
theorem guess_no (B : Book) (p q : Option Addr) (c d : Nat) (n : Int) (w : World) (hF : B.F.length ≤ 40) (hS : B.S.length ≤ 40) (ht : BookIn w w.heap.size B p q) (hr : (!hugeB B && B.ok) = true) (hn : within n 0 ((B.S.length : Int) - 1) = false) :
    Calls Try.prog 3 #[.agg #[.int .i64 B.D, .slice p B.F.length c, .int .i64 B.N, .slice q B.S.length d, .int .i64 B.P], .int .i64 n] w fun e w' => e = .returned (.bool true) ∧ Below w.heap.size w w' := by
  obtain ⟨w1, hw1, hb1, hz1, k0, k1, k2, k3, k4, k5⟩ := box_book w B p q c d
  have hh := ready_any B p q c d w1 (by unfold maxLen; omega) (by unfold maxLen; omega) (ht.bel hb1)
  rw [hr] at hh
  have HB1 := Lib.hid hb1; have HR := Lib.hid hh
  have HS := Lib.hid (show B.S.length ≤ 1000000 by omega)
  clear hb1 hz1 hh hr hF hS ht
  go_enter Try.func3, Try.ntmps3
  go_wp2_with (first
    | (go_at_call 15; refine (HR.out).mono ?_; rintro e w2 ⟨rfl, hb2⟩; go_must (have j0 := (hb2.cell k5).trans k0; have j1 := (hb2.cell k5).trans k1; have j2 := (hb2.cell k5).trans k2; have j3 := (hb2.cell k5).trans k3; have j4 := (hb2.cell k5).trans k4; have J0 := Lib.hid j0; have J1 := Lib.hid j1; have J2 := Lib.hid j2; have J3 := Lib.hid j3; have J4 := Lib.hid j4; have HL2 := Lib.hid hb2.size; have HB2 := Lib.hid (bT HB1.out hb2); clear hb2))
    | (go_at_call 16; refine (isSayingR_any _ _ _ _ _ _ _ _ _ HS.out).mono ?_; rintro e w3 ⟨rfl, hb3⟩; go_must (clear j0 j1 j2 j3 j4; have l2 := Nat.lt_of_lt_of_le k5 HL2.out; have j0 := (hb3.cell l2).trans J0.out; have j1 := (hb3.cell l2).trans J1.out; have j2 := (hb3.cell l2).trans J2.out; have j3 := (hb3.cell l2).trans J3.out; have j4 := (hb3.cell l2).trans J4.out; have HB3 := Lib.hid (bT HB2.out hb3); clear hb3))
    | (go_at_call 17; refine (works_ex _).mono ?_; rintro e w9 ⟨rfl, hb9⟩; go_must (have HBW := Lib.hid (bT HB3.out hb9); clear hb9)))
  go_ret
  exact ⟨rfl, HBW.out⟩

set_option maxRecDepth 100000 in
set_option maxHeartbeats 8000000 in
theorem guess_yes (B : Book) (p q : Option Addr) (c d : Nat) (j : Nat) (w : World) (hF : B.F.length ≤ 40) (hS : B.S.length ≤ 40) (ht : BookIn w w.heap.size B p q) (hr : (!hugeB B && B.ok) = true) (hj : j < B.S.length) :
    Calls Try.prog 3 #[.agg #[.int .i64 B.D, .slice p B.F.length c, .int .i64 B.N, .slice q B.S.length d, .int .i64 B.P], .int .i64 (j : Int)] w fun e w' => e = .returned (.bool true) ∧ Below w.heap.size w w' := by
  obtain ⟨w1, hw1, hb1, hz1, k0, k1, k2, k3, k4, k5⟩ := box_book w B p q c d
  have hok : B.ok = true := by simp only [Bool.and_eq_true] at hr; exact hr.2
  have hn : within (j : Int) 0 ((B.S.length : Int) - 1) = true := within_iff.2 ⟨by omega, by omega⟩
  have hh := ready_any B p q c d w1 (by unfold maxLen; omega) (by unfold maxLen; omega) (ht.bel hb1)
  rw [hr] at hh
  obtain ⟨⟨s0, s1⟩, ⟨s2, s3⟩, ⟨s4, s5⟩, s6, s7⟩ := B.ok_say hok hj
  obtain ⟨⟨t0, t1⟩, _⟩ := B.ok_parts hok
  obtain ⟨x, hx⟩ : ∃ x, B.S[j] = x := ⟨_, rfl⟩
  obtain ⟨k, hk⟩ : ∃ k : Nat, x.p = (k : Int) := ⟨x.p.toNat, by rw [← hx]; omega⟩
  have hkl : k < B.F.length := by rw [hx] at s3; omega
  rw [hx] at s4 s5 s6 s7
  have hwd : 1 ≤ width x ∧ width x ≤ B.D := by unfold width; omega
  have hround : ∀ i : Int, 1 ≤ i → i ≤ B.D → ∃ B', B.dug k i = B' ∧
      (∀ V, Below w.heap.size w V → Calls Try.prog 18 #[.agg #[.int .i64 B.D, .slice p B.F.length c, .int .i64 B.N, .slice q B.S.length d, .int .i64 B.P], .int .i64 k, .int .i64 i] V fun e w' => ∃ p' c' q' d', e = .returned (.agg #[.int .i64 B'.D, .slice p' B'.F.length c', .int .i64 B'.N, .slice q' B'.S.length d', .int .i64 B'.P]) ∧ Below V.heap.size V w' ∧ BookIn w' w'.heap.size B' p' q') ∧
      (∀ V p q c d, BookIn V V.heap.size B' p q → Calls Try.prog 19 #[.agg #[.int .i64 B'.D, .slice p B'.F.length c, .int .i64 B'.N, .slice q B'.S.length d, .int .i64 B'.P], .int .i64 j] V fun e w' => e = .returned (.tuple #[.int .i64 (ptn B x i), .int .i64 0]) ∧ Below V.heap.size V w') ∧
      (∀ V p q c d, BookIn V V.heap.size B' p q → Calls Try.prog 20 #[.agg #[.int .i64 B'.D, .slice p B'.F.length c, .int .i64 B'.N, .slice q B'.S.length d, .int .i64 B'.P], .int .i64 j] V fun e w' => e = .returned (.tuple #[.int .i64 (if within i x.l x.h then 1 else 2), .int .i64 0]) ∧ Below V.heap.size V w') := fun i h1 h2 => by
    obtain ⟨g0, g1, g2, g3⟩ := dug_says (x := i) hok hj (hx ▸ hk) h1 h2
    rw [hx] at g0 g2
    have lF : (B.dug k i).F.length ≤ 1000000 := by simp [Book.dug]; omega
    have lS : (B.dug k i).S.length ≤ 1000000 := by simp [Book.dug]; omega
    refine ⟨_, rfl, fun V hV => dug_any B p q c d k i V (by omega) (by omega) (ht.bel hV) hkl (by omega), fun V p q c d hb => ?_, fun V p q c d hb => ?_⟩
    · have := pointsP_any (B.dug k i) p q c d j V lF lS hb
      rwa [g0, g1] at this
    · have := hitP_any (B.dug k i) p q c d j V lF lS hb
      rwa [g2, g3] at this
  have HRO := Lib.hid hround
  have HB1 := Lib.hid hb1; have HR := Lib.hid hh
  have HS := Lib.hid (show B.S.length ≤ 1000000 by omega)
  obtain ⟨b, o, rfl, hbl, hi⟩ := ht.s (by omega)
  have e0 := hi.c0 j hj
  have e1 := hi.c1 j hj
  have e2 := hi.c2 j hj
  have e3 := hi.c3 j hj
  rw [hx] at e0 e1 e2 e3
  rw [hk] at e1
  have E := Lib.hid (show _ ∧ _ ∧ _ ∧ _ from ⟨e0, e1, e2, e3⟩)
  have HX := Lib.hid hx
  have jb : decide ((j : Int) < (B.S.length : Int)) = true := by simp; omega
  clear hb1 hz1 hh hr hF ht hround hi e0 e1 e2 e3 hok s0 s1 s2 s3 hx
  go_enter Try.func3, Try.ntmps3
  go_wp2_with (first
    | (go_at_call 15; refine (HR.out).mono ?_; rintro e w2 ⟨rfl, hb2⟩; go_must (have j0 := (hb2.cell k5).trans k0; have j1 := (hb2.cell k5).trans k1; have j2 := (hb2.cell k5).trans k2; have j3 := (hb2.cell k5).trans k3; have j4 := (hb2.cell k5).trans k4; have J0 := Lib.hid j0; have J1 := Lib.hid j1; have J2 := Lib.hid j2; have J3 := Lib.hid j3; have J4 := Lib.hid j4; have HL2 := Lib.hid hb2.size; have HB2 := Lib.hid (bT HB1.out hb2); clear hb2))
    | (go_at_call 16; refine (isSayingR_any _ _ _ _ _ _ _ _ _ HS.out).mono ?_; rintro e w3 ⟨rfl, hb3⟩; go_must (clear j0 j1 j2 j3 j4; have l2 := Nat.lt_of_lt_of_le k5 HL2.out; have j0 := (hb3.cell l2).trans J0.out; have j1 := (hb3.cell l2).trans J1.out; have j2 := (hb3.cell l2).trans J2.out; have j3 := (hb3.cell l2).trans J3.out; have j4 := (hb3.cell l2).trans J4.out; have l3 := Nat.lt_of_lt_of_le l2 hb3.size; have HB3 := Lib.hid (bT HB2.out hb3); have e0 := ((bT HB2.out hb3).cell hbl).trans E.out.1; have e1 := ((bT HB2.out hb3).cell hbl).trans E.out.2.1; have e2 := ((bT HB2.out hb3).cell hbl).trans E.out.2.2.1; have e3 := ((bT HB2.out hb3).cell hbl).trans E.out.2.2.2; clear hb3)))
  obtain ⟨w4, hw4, hb4, hz4, g0, g1, g2, g3⟩ := box_say w3 x.d (k : Int) x.l x.h
  try rw [hw4]
  have lg : w3.heap.size < w4.heap.size := by omega
  have lw : w.heap.size < w4.heap.size := by omega
  have n0 := (hb4.cell l3).trans j0
  have n1 := (hb4.cell l3).trans j1
  have n2 := (hb4.cell l3).trans j2
  have n3 := (hb4.cell l3).trans j3
  have n4 := (hb4.cell l3).trans j4
  have HB4 := Lib.hid (bT HB3.out hb4)
  clear j0 j1 j2 j3 j4 e0 e1 e2 e3 k0 k1 k2 k3 k4 hb4 hz4
  try clear hw1
  go_loopw [6, 7, 8] (fun s r i wr => ∃ z : Int, i = .int .i64 z ∧ 1 ≤ z ∧ z ≤ B.D + 1 ∧ s = .int .i64 (sumP B x (z - 1)) ∧ r = .int .i64 (cnt x (z - 1)) ∧ -12 * (z - 1) ≤ sumP B x (z - 1) ∧ sumP B x (z - 1) ≤ 12 * (z - 1) ∧ Below w4.heap.size w4 wr) (fun _ _ i _ => (B.D + 1 - intOf i).toNat)
  case atStart =>
    have z0 := sumP_zero (B := B) s4
    have c0 := cnt_zero s4
    exact ⟨1, rfl, by omega, by omega, by rw [show (1 : Int) - 1 = 0 from rfl, z0], by rw [show (1 : Int) - 1 = 0 from rfl, c0], by rw [show (1 : Int) - 1 = 0 from rfl, z0]; omega, by rw [show (1 : Int) - 1 = 0 from rfl, z0]; omega, Below.refl _ _⟩
  case round =>
    obtain ⟨z, rfl, z1, z2, rfl, rfl, b1, b2, hb⟩ := hrel
    have HBB := Lib.hid hb; clear hb
    have h0 := (HBB.out.cell lw).trans n0
    have h1 := (HBB.out.cell lw).trans n1
    have h2 := (HBB.out.cell lw).trans n2
    have h3 := (HBB.out.cell lw).trans n3
    have h4 := (HBB.out.cell lw).trans n4
    by_cases hlt : z ≤ B.D
    · have hf1 := (HBB.out.cell lg).trans g1
      have jd : decide (z ≤ B.D) = true := by simp; omega
      obtain ⟨B', -, hD, hP, hH⟩ := HRO.out z z1 hlt
      cases hwi : within z x.l x.h with
      | true =>
        have hW1 : IntKind.i64.wrap (-B.D) = -B.D := IntWalk.i64_in _ (by omega)
        obtain ⟨pn, hpn, hp0, hp1, hp2⟩ : ∃ m, ptn B x z = m ∧ -B.D ≤ m ∧ m ≤ B.D ∧ decide (0 ≤ m) = true := ⟨_, rfl, by unfold ptn; rw [hwi]; simp; omega, by unfold ptn; rw [hwi]; simp; omega, by unfold ptn; rw [hwi]; simp; omega⟩
        have hst := sumP_step (B := B) (i := z) s4 s6
        have hct := cnt_step (i := z) s4 s6
        have hcl := cnt_le (k := z - 1) s4 s6 (by omega)
        rw [hwi] at hct hH
        rw [hpn] at hst hP
        simp only [if_true, if_false, Bool.false_eq_true] at hct hH
        have HP := Lib.hid hP; have HH := Lib.hid hH; have HD := Lib.hid hD
        have hS1 : IntKind.i64.wrap (sumP B x (z - 1) + pn) = sumP B x z := by rw [hst]; exact IntWalk.i64_in _ (by omega)
        have hR1 : IntKind.i64.wrap (cnt x (z - 1) + 1) = cnt x z := by rw [hct]; exact IntWalk.i64_in _ (by omega)
        have hz1 : IntKind.i64.wrap (z + 1) = z + 1 := IntWalk.i64_in _ (by omega)
        have jp : decide (pn < -B.D) = false := by simp; omega
        have jq : decide (B.D < pn) = false := by simp; omega
        have ST := Lib.hid hst; have CT := Lib.hid hct; have HPN := Lib.hid (show -12 ≤ pn ∧ pn ≤ 12 by omega)
        clear hP hH hD hst hct
        go_wp2_with (go_at_call 18; refine (HD.out _ (bT HB4.out HBB.out)).mono ?_; rintro e wa ⟨p', c', q', d', rfl, ha, hka⟩; go_must (have HA := Lib.hid ha; have HKA := Lib.hid hka; clear ha hka h0 h1 h2 h3 h4))
        obtain ⟨w5, hw5, hb5, hz5, y0, y1, y2, y3, y4, y5⟩ := box_book wa B' p' q' c' d'
        try rw [hw5]
        have D5 := ((bT HBB.out (bT HA.out hb5)).cell lw).trans n0
        have HK5 := Lib.hid (HKA.out.bel hb5)
        have HB5 := Lib.hid (bT HBB.out (bT HA.out hb5))
        clear hb5 hz5
        go_wp2_with (first
          | (go_at_call 19; refine (HP.out _ _ _ _ _ HK5.out).mono ?_; rintro e wb ⟨rfl, hbb⟩; go_must (have Y0 := (hbb.cell y5).trans y0; have Y1 := (hbb.cell y5).trans y1; have Y2 := (hbb.cell y5).trans y2; have Y3 := (hbb.cell y5).trans y3; have Y4 := (hbb.cell y5).trans y4; have D6 := ((bT HB5.out hbb).cell lw).trans n0; have HK6 := Lib.hid (HK5.out.bel hbb); have HB6 := Lib.hid (bT HB5.out hbb); clear hbb y0 y1 y2 y3 y4 D5))
          | (go_at_call 20; refine (HH.out _ _ _ _ _ HK6.out).mono ?_; rintro e wc ⟨rfl, hbc⟩; go_must (have D7 := ((bT HB6.out hbc).cell lw).trans n0; have HB7 := Lib.hid (bT HB6.out hbc); clear hbc Y0 Y1 Y2 Y3 Y4 D6)))
        go_roundw
        case rel => exact ⟨z + 1, rfl, by omega, by omega, by rw [Int.add_sub_cancel], by rw [Int.add_sub_cancel], by rw [Int.add_sub_cancel, ST.out]; have := HPN.out; omega, by rw [Int.add_sub_cancel, ST.out]; have := HPN.out; omega, HB7.out⟩
        case measure => simp [intOf]; omega
  
      | false =>
        have hW1 : IntKind.i64.wrap (-B.D) = -B.D := IntWalk.i64_in _ (by omega)
        obtain ⟨pn, hpn, hp0, hp1, hp2⟩ : ∃ m, ptn B x z = m ∧ -B.D ≤ m ∧ m ≤ B.D ∧ decide (0 ≤ m) = false := ⟨_, rfl, by unfold ptn; rw [hwi]; simp; omega, by unfold ptn; rw [hwi]; simp; omega, by unfold ptn; rw [hwi]; simp; omega⟩
        have hst := sumP_step (B := B) (i := z) s4 s6
        have hct := cnt_step (i := z) s4 s6
        have hcl := cnt_le (k := z - 1) s4 s6 (by omega)
        rw [hwi] at hct hH
        rw [hpn] at hst hP
        simp only [if_true, if_false, Bool.false_eq_true] at hct hH
        have HP := Lib.hid hP; have HH := Lib.hid hH; have HD := Lib.hid hD
        have hS1 : IntKind.i64.wrap (sumP B x (z - 1) + pn) = sumP B x z := by rw [hst]; exact IntWalk.i64_in _ (by omega)
        have hR1 : cnt x (z - 1) = cnt x z := by rw [hct]; simp
        have hz1 : IntKind.i64.wrap (z + 1) = z + 1 := IntWalk.i64_in _ (by omega)
        have jp : decide (pn < -B.D) = false := by simp; omega
        have jq : decide (B.D < pn) = false := by simp; omega
        have ST := Lib.hid hst; have CT := Lib.hid hct; have HPN := Lib.hid (show -12 ≤ pn ∧ pn ≤ 12 by omega)
        clear hP hH hD hst hct
        go_wp2_with (go_at_call 18; refine (HD.out _ (bT HB4.out HBB.out)).mono ?_; rintro e wa ⟨p', c', q', d', rfl, ha, hka⟩; go_must (have HA := Lib.hid ha; have HKA := Lib.hid hka; clear ha hka h0 h1 h2 h3 h4))
        obtain ⟨w5, hw5, hb5, hz5, y0, y1, y2, y3, y4, y5⟩ := box_book wa B' p' q' c' d'
        try rw [hw5]
        have D5 := ((bT HBB.out (bT HA.out hb5)).cell lw).trans n0
        have HK5 := Lib.hid (HKA.out.bel hb5)
        have HB5 := Lib.hid (bT HBB.out (bT HA.out hb5))
        clear hb5 hz5
        go_wp2_with (first
          | (go_at_call 19; refine (HP.out _ _ _ _ _ HK5.out).mono ?_; rintro e wb ⟨rfl, hbb⟩; go_must (have Y0 := (hbb.cell y5).trans y0; have Y1 := (hbb.cell y5).trans y1; have Y2 := (hbb.cell y5).trans y2; have Y3 := (hbb.cell y5).trans y3; have Y4 := (hbb.cell y5).trans y4; have D6 := ((bT HB5.out hbb).cell lw).trans n0; have HK6 := Lib.hid (HK5.out.bel hbb); have HB6 := Lib.hid (bT HB5.out hbb); clear hbb y0 y1 y2 y3 y4 D5))
          | (go_at_call 20; refine (HH.out _ _ _ _ _ HK6.out).mono ?_; rintro e wc ⟨rfl, hbc⟩; go_must (have D7 := ((bT HB6.out hbc).cell lw).trans n0; have HB7 := Lib.hid (bT HB6.out hbc); clear hbc Y0 Y1 Y2 Y3 Y4 D6)))
        go_roundw
        case rel => exact ⟨z + 1, rfl, by omega, by omega, by rw [Int.add_sub_cancel], by rw [Int.add_sub_cancel]; try exact congrArg _ hR1, by rw [Int.add_sub_cancel, ST.out]; have := HPN.out; omega, by rw [Int.add_sub_cancel, ST.out]; have := HPN.out; omega, HB7.out⟩
        case measure => simp [intOf]; omega
  
    · have jd : decide (z ≤ B.D) = false := by simp; omega
      obtain rfl : z = B.D + 1 := by omega
      have f0 := (HBB.out.cell lg).trans g0
      have f1 := (HBB.out.cell lg).trans g1
      have f2 := (HBB.out.cell lg).trans g2
      have f3 := (HBB.out.cell lg).trans g3
      have hW := fun V => widthR_any x V (by omega) (by omega) (by omega) (by omega)
      rw [Int.add_sub_cancel, sumP_all s4 s6 s7, cnt_all s4 s6 s7]
      rw [hk] at hW
      have HW := Lib.hid hW; clear hW
      go_wp2_with (first
        | (go_at_call 21; refine (HW.out _).mono ?_; rintro e wa ⟨rfl, ha⟩; go_must (have HA := Lib.hid (bT HB4.out (bT HBB.out ha)); clear ha))
        | (go_at_call 17; refine (works_ex _).mono ?_; rintro e w9 ⟨rfl, hb9⟩; go_must (have HBW := Lib.hid (bT HA.out hb9); clear hb9)))
      go_ret
      exact ⟨rfl, HBW.out⟩

theorem guess_law (B : Book) (p q : Option Addr) (c d : Nat) (n : Int) (w : World) (hF : B.F.length ≤ maxLen) (hS : B.S.length ≤ maxLen) (ht : BookIn w w.heap.size B p q) :
    Calls Try.prog 3 #[.agg #[.int .i64 B.D, .slice p B.F.length c, .int .i64 B.N, .slice q B.S.length d, .int .i64 B.P], .int .i64 n] w fun e w' => e = .returned (.bool true) ∧ Below w.heap.size w w' := by
  cases hr : (!hugeB B && B.ok) with
  | false => exact guess_not B p q c d n w hF hS ht hr
  | true =>
    have hg : hugeB B = false := by simp only [Bool.and_eq_true] at hr; simpa using hr.1
    have h1 : ¬ 40 < B.F.length ∧ ¬ 40 < B.S.length := by simpa [hugeB] using hg
    cases hn : within n 0 ((B.S.length : Int) - 1) with
    | false => exact guess_no B p q c d n w (by omega) (by omega) ht hr hn
    | true =>
      obtain ⟨i0, i1⟩ := within_iff.1 hn
      obtain ⟨j, rfl⟩ : ∃ j : Nat, n = (j : Int) := ⟨n.toNat, by omega⟩
      exact guess_yes B p q c d j w (by omega) (by omega) ht hr (by omega)
end Go.Proofs.Ytgpggojpfbhndaa
