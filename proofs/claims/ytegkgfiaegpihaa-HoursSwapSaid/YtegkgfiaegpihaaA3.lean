/- Rosters of hours: Check in the specification's words, and what the statements examine. -/
import Derived.Test.YtegkgfiaegpihaaA2

set_option linter.unusedSimpArgs false

set_option linter.unusedVariables false

namespace Go.Proofs.Ytegkgfiaegpihaa

open Go.RowKit

set_option maxRecDepth 100000 in
set_option maxHeartbeats 8000000 in
theorem checkR_any (D : Ro) (p q : Option Addr) (c d : Nat) (w : World) (hn : D.n ≤ maxLen) (hm : D.m ≤ maxLen) (hi : RoIn w w.heap.size D p q) :
    Calls Try.prog 41 #[.agg #[.slice p D.n c, .slice q D.m d]] w fun e w' => e = .returned (.int .i64 (chkE D.ok true)) ∧ Below w.heap.size w w' := by
  obtain ⟨w1, x, hw1, hb1, hz1, F0, F1, _⟩ := box_ro w p q D.n D.m c d
  have HB := Lib.hid hb1
  have HI : Hid (∀ x : Ext w1, RoIn x.v x.v.heap.size D p q) := fun x => (hi.bel hb1).bel x.b
  clear hb1 hz1 hi
  unfold maxLen at hn hm
  by_cases h8 : 8 < D.n
  · have HR := Lib.hid (show chkE D.ok true = 80 by rw [Ro.ok_n h8]; rfl)
    have j1 : decide (8 < (D.n : Int)) = true := by simp; omega
    go_enter Try.func41, Try.ntmps41
    go_wp2
    go_ret
    exact ⟨ret_i HR.out.symm, bT HB.out x.b⟩
  have j1 : decide (8 < (D.n : Int)) = false := by simp; omega
  by_cases h6 : 6 < D.m
  · have HR := Lib.hid (show chkE D.ok true = 80 by rw [Ro.ok_m h6]; rfl)
    have j2 : decide (6 < (D.m : Int)) = true := by simp; omega
    go_enter Try.func41, Try.ntmps41
    go_wp2
    go_ret
    exact ⟨ret_i HR.out.symm, bT HB.out x.b⟩
  have j2 : decide (6 < (D.m : Int)) = false := by simp; omega
  have H8 := Lib.hid h8; have H6 := Lib.hid h6
  clear hn hm h8 h6
  go_enter Try.func41, Try.ntmps41
  go_wp2
  clear j1 j2
  go_loopw [3] (fun i wr => ∃ k : Nat, i = .int .i64 k ∧ k ≤ D.n ∧ allN (rmOk D) k = true ∧ ∃ x : Ext w1, wr = x.v) (fun i _ => D.n - (intOf i).toNat)
  case atStart => exact ⟨0, rfl, Nat.zero_le _, rfl, x, rfl⟩
  case round =>
    obtain ⟨k, rfl, hk, hp, y, rfl⟩ := hrel
    have HP := Lib.hid hp; clear hp hw1 x
    have hk8 : k ≤ 8 := by have := H8.out; omega
    by_cases hlt : k < D.n
    · obtain ⟨b, o, rfl, hbl, hc⟩ := (HI.out y).rm (by omega)
      have e0 := hc k hlt
      clear hc
      have j : decide ((k : Int) < (D.n : Int)) = true := by simp; omega
      have hkm : (k : Int) < (D.n : Int) := by omega
      cases ho : rmOk D k with
      | true =>
        have HO := Lib.hid ho
        unfold rmOk at ho
        have HO2 := Lib.hid ho; clear ho
        go_wp2_with fail
        refine (within_is HO2.out _).mono ?_
        rintro e w' ⟨rfl, rfl⟩
        go_wp2
        go_roundw
        case rel => exact ⟨k + 1, by go_num, hlt, allN_succ HP.out HO.out, y, rfl⟩
        case measure => first | (simp [intOf]; done) | (simp [intOf]; omega)
      | false =>
        have HR := Lib.hid (show chkE D.ok true = 80 by rw [Ro.ok_rm (allN_bad hlt ho)]; rfl)
        unfold rmOk at ho
        have HO2 := Lib.hid ho; clear ho
        go_wp2_with fail
        refine (within_is HO2.out _).mono ?_
        rintro e w' ⟨rfl, rfl⟩
        go_wp2
        go_ret
        exact ⟨ret_i HR.out.symm, bT HB.out y.b⟩
    · have HA := Lib.hid (show allN (rmOk D) D.n = true by have := HP.out; rwa [show k = D.n by omega] at this)
      have j : decide ((k : Int) < (D.n : Int)) = false := by simp; omega
      clear HP
      go_wp2
      clear j hlt hk hk8
      go_loopw [4] (fun i wr => ∃ k : Nat, i = .int .i64 k ∧ k ≤ D.m ∧ allN (stOk D) k = true ∧ ∃ x : Ext w1, wr = x.v) (fun i _ => D.m - (intOf i).toNat)
      case atStart => exact ⟨0, rfl, Nat.zero_le _, rfl, y, rfl⟩
      case round =>
        obtain ⟨k2, rfl, hk2, hp, y2, rfl⟩ := hrel
        have HP := Lib.hid hp; clear hp
        have hk8 : k2 ≤ 6 := by have := H6.out; omega
        by_cases hlt : k2 < D.m
        · obtain ⟨b, o, rfl, hbl, hc⟩ := (HI.out y2).st (by omega)
          have e0 := hc.c0 k2 hlt
          have e1 := hc.c1 k2 hlt
          have e2 := hc.c2 k2 hlt
          have e3 := hc.c3 k2 hlt
          clear hc
          have j : decide ((k2 : Int) < (D.m : Int)) = true := by simp; omega
          have hkm : (k2 : Int) < (D.m : Int) := by omega
          obtain ⟨w2, z, hw2, hb2, hz2, G0, G1, G2, G3, _⟩ := box_st y2.v (D.hs k2) (D.fr k2) (D.to k2) (D.co k2)
          have HB2 := Lib.hid (bT y2.b hb2)
          have F0' : ∀ y : Ext w2, y.v.cell? ⟨w.heap.size, 0, none⟩ = some (.slice p D.n c) := fun y => F0 (y.up (bT y2.b hb2))
          have F1' : ∀ y : Ext w2, y.v.cell? ⟨w.heap.size, 1, none⟩ = some (.slice (some ⟨b, o, none⟩) D.m d) := fun y => F1 (y.up (bT y2.b hb2))
          clear hb2 hz2
          have key : (D.hs k2 = -1 ∨ (D.hs k2 ≠ -1 ∧ within (D.hs k2) 0 ((D.n : Int) - 1) = true)) ∨ (D.hs k2 ≠ -1 ∧ within (D.hs k2) 0 ((D.n : Int) - 1) = false) := by
            by_cases h1 : D.hs k2 = -1
            · exact .inl (.inl h1)
            · cases e : within (D.hs k2) 0 ((D.n : Int) - 1) with
              | true => exact .inl (.inr ⟨h1, rfl⟩)
              | false => exact .inr ⟨h1, rfl⟩
          rcases key with hh | ⟨h1, h2⟩
          · cases e2 : within (D.fr k2) 0 ((D.n : Int) - 1) with
            | false =>
              have HR := Lib.hid (show chkE D.ok true = 80 by rw [Ro.ok_st (allN_bad hlt (stP_fr e2))]; rfl)
              have E2 := Lib.hid e2; clear e2
              rcases hh with h1 | ⟨h1, h2⟩
              · have j1 : (D.hs k2 != -1) = false := by simp [h1]
                clear h1
                go_wp2_with fail
                refine (quiet_x (isHourR_is E2.out (by unfold maxLen; have := H8.out; omega) _)).mono ?_
                rintro e w' ⟨rfl, y2, rfl⟩
                go_wp2
                go_ret
                exact ⟨ret_i HR.out.symm, bT HB.out (bT HB2.out (Ext.b _))⟩
              · have j1 : (D.hs k2 != -1) = true := by simp; omega
                have E1 := Lib.hid h2; clear h1 h2
                go_wp2_with fail
                refine (quiet_x (isHourR_is E1.out (by unfold maxLen; have := H8.out; omega) _)).mono ?_
                rintro e w' ⟨rfl, y1, rfl⟩
                go_wp2_with fail
                refine (quiet_x (isHourR_is E2.out (by unfold maxLen; have := H8.out; omega) _)).mono ?_
                rintro e w' ⟨rfl, y2, rfl⟩
                go_wp2
                go_ret
                exact ⟨ret_i HR.out.symm, bT HB.out (bT HB2.out (Ext.b _))⟩
            | true =>
            cases e3 : within (D.to k2) 0 ((D.n : Int) - 1) with
            | false =>
              have HR := Lib.hid (show chkE D.ok true = 80 by rw [Ro.ok_st (allN_bad hlt (stP_to e3))]; rfl)
              have E2 := Lib.hid e2; clear e2; have E3 := Lib.hid e3; clear e3
              rcases hh with h1 | ⟨h1, h2⟩
              · have j1 : (D.hs k2 != -1) = false := by simp [h1]
                clear h1
                go_wp2_with fail
                refine (quiet_x (isHourR_is E2.out (by unfold maxLen; have := H8.out; omega) _)).mono ?_
                rintro e w' ⟨rfl, y2, rfl⟩
                go_wp2_with fail
                refine (quiet_x (isHourR_is E3.out (by unfold maxLen; have := H8.out; omega) _)).mono ?_
                rintro e w' ⟨rfl, y3, rfl⟩
                go_wp2
                go_ret
                exact ⟨ret_i HR.out.symm, bT HB.out (bT HB2.out (Ext.b _))⟩
              · have j1 : (D.hs k2 != -1) = true := by simp; omega
                have E1 := Lib.hid h2; clear h1 h2
                go_wp2_with fail
                refine (quiet_x (isHourR_is E1.out (by unfold maxLen; have := H8.out; omega) _)).mono ?_
                rintro e w' ⟨rfl, y1, rfl⟩
                go_wp2_with fail
                refine (quiet_x (isHourR_is E2.out (by unfold maxLen; have := H8.out; omega) _)).mono ?_
                rintro e w' ⟨rfl, y2, rfl⟩
                go_wp2_with fail
                refine (quiet_x (isHourR_is E3.out (by unfold maxLen; have := H8.out; omega) _)).mono ?_
                rintro e w' ⟨rfl, y3, rfl⟩
                go_wp2
                go_ret
                exact ⟨ret_i HR.out.symm, bT HB.out (bT HB2.out (Ext.b _))⟩
            | true =>
            by_cases h4 : D.fr k2 ≤ D.to k2
            · have j2 : decide (D.to k2 < D.fr k2) = false := by simp; omega
              cases e5 : within (D.co k2) 0 9 with
              | false =>
                have HR := Lib.hid (show chkE D.ok true = 80 by rw [Ro.ok_st (allN_bad hlt ((stP_co (hh.imp id And.right) e2 e3 h4).trans e5))]; rfl)
                have E2 := Lib.hid e2; clear e2; have E3 := Lib.hid e3; clear e3; have E5 := Lib.hid e5; clear e5 h4
                rcases hh with h1 | ⟨h1, h2⟩
                · have j1 : (D.hs k2 != -1) = false := by simp [h1]
                  clear h1
                  go_wp2_with fail
                  refine (quiet_x (isHourR_is E2.out (by unfold maxLen; have := H8.out; omega) _)).mono ?_
                  rintro e w' ⟨rfl, y2, rfl⟩
                  go_wp2_with fail
                  refine (quiet_x (isHourR_is E3.out (by unfold maxLen; have := H8.out; omega) _)).mono ?_
                  rintro e w' ⟨rfl, y3, rfl⟩
                  go_wp2_with fail
                  refine (within_is E5.out _).mono ?_
                  rintro e w' ⟨rfl, rfl⟩
                  go_wp2
                  go_ret
                  exact ⟨ret_i HR.out.symm, bT HB.out (bT HB2.out (Ext.b _))⟩
                · have j1 : (D.hs k2 != -1) = true := by simp; omega
                  have E1 := Lib.hid h2; clear h1 h2
                  go_wp2_with fail
                  refine (quiet_x (isHourR_is E1.out (by unfold maxLen; have := H8.out; omega) _)).mono ?_
                  rintro e w' ⟨rfl, y1, rfl⟩
                  go_wp2_with fail
                  refine (quiet_x (isHourR_is E2.out (by unfold maxLen; have := H8.out; omega) _)).mono ?_
                  rintro e w' ⟨rfl, y2, rfl⟩
                  go_wp2_with fail
                  refine (quiet_x (isHourR_is E3.out (by unfold maxLen; have := H8.out; omega) _)).mono ?_
                  rintro e w' ⟨rfl, y3, rfl⟩
                  go_wp2_with fail
                  refine (within_is E5.out _).mono ?_
                  rintro e w' ⟨rfl, rfl⟩
                  go_wp2
                  go_ret
                  exact ⟨ret_i HR.out.symm, bT HB.out (bT HB2.out (Ext.b _))⟩
              | true =>
                have HO := Lib.hid (show stOk D k2 = true from (stP_co (hh.imp id And.right) e2 e3 h4).trans e5)
                have E2 := Lib.hid e2; clear e2; have E3 := Lib.hid e3; clear e3; have E5 := Lib.hid e5; clear e5 h4
                rcases hh with h1 | ⟨h1, h2⟩
                · have j1 : (D.hs k2 != -1) = false := by simp [h1]
                  clear h1
                  go_wp2_with fail
                  refine (quiet_x (isHourR_is E2.out (by unfold maxLen; have := H8.out; omega) _)).mono ?_
                  rintro e w' ⟨rfl, y2, rfl⟩
                  go_wp2_with fail
                  refine (quiet_x (isHourR_is E3.out (by unfold maxLen; have := H8.out; omega) _)).mono ?_
                  rintro e w' ⟨rfl, y3, rfl⟩
                  go_wp2_with fail
                  refine (within_is E5.out _).mono ?_
                  rintro e w' ⟨rfl, rfl⟩
                  go_wp2
                  go_roundw
                  case rel => exact ⟨k2 + 1, by go_num, hlt, allN_succ HP.out HO.out, Ext.up HB2.out (by assumption), rfl⟩
                  case measure => first | (simp [intOf]; done) | (simp [intOf]; omega)
                · have j1 : (D.hs k2 != -1) = true := by simp; omega
                  have E1 := Lib.hid h2; clear h1 h2
                  go_wp2_with fail
                  refine (quiet_x (isHourR_is E1.out (by unfold maxLen; have := H8.out; omega) _)).mono ?_
                  rintro e w' ⟨rfl, y1, rfl⟩
                  go_wp2_with fail
                  refine (quiet_x (isHourR_is E2.out (by unfold maxLen; have := H8.out; omega) _)).mono ?_
                  rintro e w' ⟨rfl, y2, rfl⟩
                  go_wp2_with fail
                  refine (quiet_x (isHourR_is E3.out (by unfold maxLen; have := H8.out; omega) _)).mono ?_
                  rintro e w' ⟨rfl, y3, rfl⟩
                  go_wp2_with fail
                  refine (within_is E5.out _).mono ?_
                  rintro e w' ⟨rfl, rfl⟩
                  go_wp2
                  go_roundw
                  case rel => exact ⟨k2 + 1, by go_num, hlt, allN_succ HP.out HO.out, Ext.up HB2.out (by assumption), rfl⟩
                  case measure => first | (simp [intOf]; done) | (simp [intOf]; omega)
            · have j2 : decide (D.to k2 < D.fr k2) = true := by simp; omega
              have HR := Lib.hid (show chkE D.ok true = 80 by rw [Ro.ok_st (allN_bad hlt (stP_ft (show D.to k2 < D.fr k2 by omega)))]; rfl)
              have E2 := Lib.hid e2; clear e2; have E3 := Lib.hid e3; clear e3; clear h4
              rcases hh with h1 | ⟨h1, h2⟩
              · have j1 : (D.hs k2 != -1) = false := by simp [h1]
                clear h1
                go_wp2_with fail
                refine (quiet_x (isHourR_is E2.out (by unfold maxLen; have := H8.out; omega) _)).mono ?_
                rintro e w' ⟨rfl, y2, rfl⟩
                go_wp2_with fail
                refine (quiet_x (isHourR_is E3.out (by unfold maxLen; have := H8.out; omega) _)).mono ?_
                rintro e w' ⟨rfl, y3, rfl⟩
                go_wp2
                go_ret
                exact ⟨ret_i HR.out.symm, bT HB.out (bT HB2.out (Ext.b _))⟩
              · have j1 : (D.hs k2 != -1) = true := by simp; omega
                have E1 := Lib.hid h2; clear h1 h2
                go_wp2_with fail
                refine (quiet_x (isHourR_is E1.out (by unfold maxLen; have := H8.out; omega) _)).mono ?_
                rintro e w' ⟨rfl, y1, rfl⟩
                go_wp2_with fail
                refine (quiet_x (isHourR_is E2.out (by unfold maxLen; have := H8.out; omega) _)).mono ?_
                rintro e w' ⟨rfl, y2, rfl⟩
                go_wp2_with fail
                refine (quiet_x (isHourR_is E3.out (by unfold maxLen; have := H8.out; omega) _)).mono ?_
                rintro e w' ⟨rfl, y3, rfl⟩
                go_wp2
                go_ret
                exact ⟨ret_i HR.out.symm, bT HB.out (bT HB2.out (Ext.b _))⟩
          · have HR := Lib.hid (show chkE D.ok true = 80 by rw [Ro.ok_st (allN_bad hlt (stP_hs h1 h2))]; rfl)
            have j1 : (D.hs k2 != -1) = true := by simp; omega
            have E1 := Lib.hid h2; clear h1 h2
            go_wp2_with fail
            refine (quiet_x (isHourR_is E1.out (by unfold maxLen; have := H8.out; omega) _)).mono ?_
            rintro e w' ⟨rfl, y1, rfl⟩
            go_wp2
            go_ret
            exact ⟨ret_i HR.out.symm, bT HB.out (bT HB2.out (Ext.b _))⟩
        · have HR := Lib.hid (show chkE D.ok true = 0 by rw [Ro.ok_mk (show D.n ≤ 8 by have := H8.out; omega) (show D.m ≤ 6 by have := H6.out; omega) HA.out (show allN (stOk D) D.m = true by have := HP.out; rwa [show k2 = D.m by omega] at this)]; rfl)
          have j : decide ((k2 : Int) < (D.m : Int)) = false := by simp; omega
          go_wp2
          go_ret
          exact ⟨ret_i HR.out.symm, bT HB.out y2.b⟩
theorem checkR_is {D : Ro} {p q : Option Addr} {c d : Nat} {b : Bool} (h : D.ok = b) (w : World) (hn : D.n ≤ maxLen) (hm : D.m ≤ maxLen) (hi : RoIn w w.heap.size D p q) :
    Calls Try.prog 41 #[.agg #[.slice p D.n c, .slice q D.m d]] w fun e w' => e = .returned (.int .i64 (if b then 0 else 80)) ∧ Below w.heap.size w w' := by
  subst h; exact checkR_any D p q c d w hn hm hi
def hugeV (D : Ro) (l : Nat) : Bool := decide (40 < D.n) || (decide (40 < D.m) || decide (40 < l))
set_option maxRecDepth 100000 in
set_option maxHeartbeats 2000000 in
theorem huge_any (D : Ro) (p q lp : Option Addr) (c d l lc : Nat) (w : World) (hn : D.n ≤ maxLen) (hm : D.m ≤ maxLen) (hl : l ≤ maxLen) :
    Calls Try.prog 39 #[.agg #[.slice p D.n c, .slice q D.m d], .slice lp l lc] w fun e w' => e = .returned (.bool (hugeV D l)) ∧ Below w.heap.size w w' := by
  obtain ⟨w1, x, hw1, hb1, hz1, F0, F1, _⟩ := box_ro w p q D.n D.m c d
  have HB := Lib.hid hb1
  clear hb1 hz1
  by_cases h1 : 40 < D.n
  · have j1 : decide (40 < (D.n : Int)) = true := by simp; omega
    have HR := Lib.hid (show true = hugeV D l by simp [hugeV, h1])
    go_enter Try.func39, Try.ntmps39
    go_wp2
    go_ret
    exact ⟨ret_b HR.out, bT HB.out x.b⟩
  have j1 : decide (40 < (D.n : Int)) = false := by simp; omega
  by_cases h2 : 40 < D.m
  · have j2 : decide (40 < (D.m : Int)) = true := by simp; omega
    have HR := Lib.hid (show true = hugeV D l by simp [hugeV, h2])
    go_enter Try.func39, Try.ntmps39
    go_wp2
    go_ret
    exact ⟨ret_b HR.out, bT HB.out x.b⟩
  have j2 : decide (40 < (D.m : Int)) = false := by simp; omega
  have HR := Lib.hid (show decide (40 < (l : Int)) = hugeV D l by rw [Bool.eq_iff_iff]; simp [hugeV]; omega)
  clear h1 h2
  go_enter Try.func39, Try.ntmps39
  go_wp2
  go_ret
  exact ⟨ret_b HR.out, bT HB.out x.b⟩
theorem huge_is {D : Ro} {p q lp : Option Addr} {c d l lc : Nat} {b : Bool} (h : hugeV D l = b) (w : World) (hn : D.n ≤ maxLen) (hm : D.m ≤ maxLen) (hl : l ≤ maxLen) :
    Calls Try.prog 39 #[.agg #[.slice p D.n c, .slice q D.m d], .slice lp l lc] w fun e w' => e = .returned (.bool b) ∧ Below w.heap.size w w' := by
  subst h; exact huge_any D p q lp c d l lc w hn hm hl
def prodF (D : Ro) : Nat → Int
  | 0 => 1
  | k + 1 => prodF D k * (D.to k - D.fr k + 1)
theorem prod_bd {D : Ro} (hD : OkP D) : ∀ {k : Nat}, k ≤ D.m → 0 ≤ prodF D k ∧ prodF D k ≤ (8 : Int) ^ k
  | 0, _ => by simp [prodF]
  | k + 1, hk => by
    have ih := prod_bd hD (k := k) (by omega)
    have hs := hD.st k (by omega)
    have h1 := hs.fr; have h2 := hs.to; have h3 := hs.ft; have h4 := hD.n
    have := mul_bd (b := D.to k - D.fr k + 1) (B := 8) ih ⟨by omega, by omega⟩
    simp only [prodF]; rw [Int.pow_succ]; exact this
theorem pow8 {k : Nat} (hk : k ≤ 6) : (8 : Int) ^ k ≤ 262144 := by
  have : k = 0 ∨ k = 1 ∨ k = 2 ∨ k = 3 ∨ k = 4 ∨ k = 5 ∨ k = 6 := by omega
  rcases this with rfl | rfl | rfl | rfl | rfl | rfl | rfl <;> decide
def farV (D : Ro) : Bool := hugeV D 0 || (D.ok && decide (500 < prodF D D.m))
set_option maxRecDepth 100000 in
set_option maxHeartbeats 4000000 in
theorem far_any (D : Ro) (p q : Option Addr) (c d : Nat) (w : World) (hn : D.n ≤ maxLen) (hm : D.m ≤ maxLen) (hi : RoIn w w.heap.size D p q) :
    Calls Try.prog 49 #[.agg #[.slice p D.n c, .slice q D.m d]] w fun e w' => e = .returned (.bool (farV D)) ∧ Below w.heap.size w w' := by
  obtain ⟨w1, x, hw1, hb1, hz1, F0, F1, _⟩ := box_ro w p q D.n D.m c d
  have HB := Lib.hid hb1
  have HI : Hid (∀ x : Ext w1, RoIn x.v x.v.heap.size D p q) := fun x => (hi.bel hb1).bel x.b
  clear hb1 hz1 hi
  cases hg : hugeV D 0 with
  | true =>
    have HG := Lib.hid hg
    have HR := Lib.hid (show true = farV D by simp [farV, hg])
    clear hg
    go_enter Try.func49, Try.ntmps49
    go_wp2_with fail
    refine (quiet_x (huge_is HG.out _ hn hm (by unfold maxLen; omega))).mono ?_
    rintro e w' ⟨rfl, y, rfl⟩
    go_wp2
    go_ret
    exact ⟨ret_b HR.out, bT HB.out y.b⟩
  | false =>
  have HG := Lib.hid hg
  cases ho : D.ok with
  | false =>
    have HO := Lib.hid ho
    have HR := Lib.hid (show false = farV D by simp [farV, hg, ho])
    clear hg ho
    have j80 : ((80 : Int) != 0) = true := by decide
    go_enter Try.func49, Try.ntmps49
    go_wp2_with fail
    refine (quiet_x (huge_is HG.out _ hn hm (by unfold maxLen; omega))).mono ?_
    rintro e w' ⟨rfl, y, rfl⟩
    go_wp2_with fail
    refine (quiet_x (checkR_is HO.out _ hn hm (HI.out _))).mono ?_
    rintro e w' ⟨rfl, y2, rfl⟩
    go_wp2
    go_ret
    exact ⟨ret_b HR.out, bT HB.out y2.b⟩
  | true =>
  have HO := Lib.hid ho
  have HR := Lib.hid (show decide (500 < prodF D D.m) = farV D by simp [farV, hg, ho])
  have HOK := Lib.hid (Ro.ok_iff.1 ho)
  clear hg ho
  have j0 : ((0 : Int) != 0) = false := by decide
  have hm6 : D.m ≤ 6 := HOK.out.m
  go_enter Try.func49, Try.ntmps49
  go_wp2_with fail
  refine (quiet_x (huge_is HG.out _ hn hm (by unfold maxLen; omega))).mono ?_
  rintro e w' ⟨rfl, y, rfl⟩
  go_wp2_with fail
  refine (quiet_x (checkR_is HO.out _ hn hm (HI.out _))).mono ?_
  rintro e w' ⟨rfl, y2, rfl⟩
  go_wp2
  clear hw1
  go_loopw [3, 4] (fun v i wr => ∃ k : Nat, i = .int .i64 k ∧ v = .int .i64 (prodF D k) ∧ k ≤ D.m ∧ ∃ x : Ext w1, wr = x.v) (fun v i _ => D.m - (intOf i).toNat)
  case atStart => exact ⟨0, rfl, rfl, Nat.zero_le _, y2, rfl⟩
  case round =>
    obtain ⟨k, rfl, rfl, hk, z, rfl⟩ := hrel
    by_cases hlt : k < D.m
    · obtain ⟨b, o, rfl, _, _⟩ := (HI.out z).st (by omega)
      have C1 : ∀ z : Ext w1, z.v.cell? ⟨b, o + k * 4 + 1, none⟩ = some (.int .i64 (D.fr k)) := fun z => (HI.out z).c1 hlt
      have C2 : ∀ z : Ext w1, z.v.cell? ⟨b, o + k * 4 + 2, none⟩ = some (.int .i64 (D.to k)) := fun z => (HI.out z).c2 hlt
      have j : decide ((k : Int) < (D.m : Int)) = true := by simp; omega
      have hkm : (k : Int) < (D.m : Int) := by omega
      have hst := HOK.out.st k hlt
      have h1 := hst.fr; have h2 := hst.to; have h3 := hst.ft; have h4 := HOK.out.n
      have hp := prod_bd HOK.out (show k + 1 ≤ D.m by omega)
      have hp2 := pow8 (show k + 1 ≤ 6 by omega)
      have e1 : IntKind.i64.wrap (D.to k - D.fr k) = D.to k - D.fr k := IntWalk.i64_in _ (by omega)
      have e2 : IntKind.i64.wrap (D.to k - D.fr k + 1) = D.to k - D.fr k + 1 := IntWalk.i64_in _ (by omega)
      have e3 : IntKind.i64.wrap (prodF D k * (D.to k - D.fr k + 1)) = prodF D (k + 1) := IntWalk.i64_in _ (by unfold prodF at hp; omega)
      clear hst h1 h2 h3 h4 hp hp2
      go_wp2
      refine quiet_e (by kernel_rfl) (by kernel_rfl) ?_
      repeat (first | go_big_quiet_step (fail) | quiet_step (fail))
      refine wpQuiet_nil ?_
      intro w6 hw6
      obtain ⟨y3, rfl⟩ := hw6
      go_wp2
      go_roundw
      case rel => exact ⟨k + 1, by go_num, rfl, hlt, y3, rfl⟩
      case measure => first | (simp [intOf]; done) | (simp [intOf]; omega)
    · have HK := Lib.hid (show k = D.m by omega)
      have j : decide ((k : Int) < (D.m : Int)) = false := by simp; omega
      clear hk
      go_wp2

      go_ret
      exact ⟨ret_b (by rw [← HR.out, HK.out]), bT HB.out z.b⟩
theorem far_is {D : Ro} {p q : Option Addr} {c d : Nat} {b : Bool} (h : farV D = b) (w : World) (hn : D.n ≤ maxLen) (hm : D.m ≤ maxLen) (hi : RoIn w w.heap.size D p q) :
    Calls Try.prog 49 #[.agg #[.slice p D.n c, .slice q D.m d]] w fun e w' => e = .returned (.bool b) ∧ Below w.heap.size w w' := by
  subst h; exact far_any D p q c d w hn hm hi
def rdy (D : Ro) : Bool := !farV D && D.ok
theorem rdy_parts {D : Ro} (h : rdy D = true) : D.n ≤ 8 ∧ D.m ≤ 6 ∧ OkP D ∧ prodF D D.m ≤ 500 := by
  simp only [rdy, Bool.and_eq_true, Bool.not_eq_true'] at h
  have hk := Ro.ok_iff.1 h.2
  refine ⟨hk.n, hk.m, hk, ?_⟩
  have h1 := h.1
  simp only [farV, h.2, Bool.true_and, Bool.or_eq_false_iff, decide_eq_false_iff_not] at h1
  omega
set_option maxRecDepth 100000 in
set_option maxHeartbeats 2000000 in
theorem ready_any (D : Ro) (p q : Option Addr) (c d : Nat) (w : World) (hn : D.n ≤ maxLen) (hm : D.m ≤ maxLen) (hi : RoIn w w.heap.size D p q) :
    Calls Try.prog 15 #[.agg #[.slice p D.n c, .slice q D.m d]] w fun e w' => e = .returned (.bool (rdy D)) ∧ Below w.heap.size w w' := by
  obtain ⟨w1, x, hw1, hb1, hz1, F0, F1, _⟩ := box_ro w p q D.n D.m c d
  have HB := Lib.hid hb1
  have HI : Hid (∀ x : Ext w1, RoIn x.v x.v.heap.size D p q) := fun x => (hi.bel hb1).bel x.b
  clear hb1 hz1 hi
  cases hf : farV D with
  | true =>
    have HF := Lib.hid hf
    have HR := Lib.hid (show false = rdy D by simp [rdy, hf])
    clear hf
    go_enter Try.func15, Try.ntmps15
    go_wp2_with fail
    refine (quiet_x (far_is HF.out _ hn hm (HI.out _))).mono ?_
    rintro e w' ⟨rfl, y, rfl⟩
    go_wp2
    go_ret
    exact ⟨ret_b HR.out, bT HB.out y.b⟩
  | false =>
    have HF := Lib.hid hf
    cases ho : D.ok with
    | true =>
      have HO := Lib.hid ho
      have HR := Lib.hid (show true = rdy D by simp [rdy, hf, ho])
      clear hf ho
      have j0 : ((0 : Int) == 0) = true := by decide
      go_enter Try.func15, Try.ntmps15
      go_wp2_with fail
      refine (quiet_x (far_is HF.out _ hn hm (HI.out _))).mono ?_
      rintro e w' ⟨rfl, y, rfl⟩
      go_wp2_with fail
      refine (quiet_x (checkR_is HO.out _ hn hm (HI.out _))).mono ?_
      rintro e w' ⟨rfl, y2, rfl⟩
      go_wp2
      go_ret
      exact ⟨ret_b HR.out, bT HB.out y2.b⟩
    | false =>
      have HO := Lib.hid ho
      have HR := Lib.hid (show false = rdy D by simp [rdy, hf, ho])
      clear hf ho
      have j0 : ((80 : Int) == 0) = false := by decide
      go_enter Try.func15, Try.ntmps15
      go_wp2_with fail
      refine (quiet_x (far_is HF.out _ hn hm (HI.out _))).mono ?_
      rintro e w' ⟨rfl, y, rfl⟩
      go_wp2_with fail
      refine (quiet_x (checkR_is HO.out _ hn hm (HI.out _))).mono ?_
      rintro e w' ⟨rfl, y2, rfl⟩
      go_wp2
      go_ret
      exact ⟨ret_b HR.out, bT HB.out y2.b⟩
theorem ready_is {D : Ro} {p q : Option Addr} {c d : Nat} {b : Bool} (h : rdy D = b) (w : World) (hn : D.n ≤ maxLen) (hm : D.m ≤ maxLen) (hi : RoIn w w.heap.size D p q) :
    Calls Try.prog 15 #[.agg #[.slice p D.n c, .slice q D.m d]] w fun e w' => e = .returned (.bool b) ∧ Below w.heap.size w w' := by
  subst h; exact ready_any D p q c d w hn hm hi
end Go.Proofs.Ytegkgfiaegpihaa
