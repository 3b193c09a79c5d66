/- Lines of an aqueduct: what is valid, and what a truth is, in the specification's words. -/
import Derived.Test.YtkdlppekjjbgoaaA4

import Derived.Test.YtkdlppekjjbgoaaA5

set_option linter.unusedSimpArgs false

set_option linter.unusedVariables false

namespace Go.Proofs.Ytkdlppekjjbgoaa

open Go.RowKit

theorem NumIn.cell {w : World} {K l b o : Nat} {f : Nat → Int} (h : NumIn w K l f (some ⟨b, o, none⟩)) {k : Nat} (hk : k < l) : b < K ∧ w.cell? ⟨b, o + k, none⟩ = some (.int .i64 (f k)) := by
  obtain ⟨b', o', e, hl, hc⟩ := h (by omega)
  cases e
  exact ⟨hl, hc k hk⟩
theorem odR_iff {D : Duct} {k : Nat} : odOk D k = within (D.od k) 1 9 := rfl
theorem ptR {D : Duct} {k : Nat} : ptOk D k = (within (D.lo k) 0 99 && (within (D.hi k) (D.lo k) 99 && within (D.co k) 0 20)) := by
  rw [Bool.eq_iff_iff]
  simp only [ptOk, Bool.and_eq_true, within_iff, decide_eq_true_eq]
  omega
set_option maxRecDepth 100000 in
set_option maxHeartbeats 2000000 in
theorem checkR_any (D : Duct) (p q : Option Addr) (c d : Nat) (w : World) (hn : D.n ≤ 40) (hm : D.m ≤ 40) (hi : DuctIn w w.heap.size D p q) :
    Calls Try.prog 42 #[.agg #[.slice p D.n c, .slice q D.m d]] w fun e w' => e = .returned (.int .i64 (chkE D.ok true)) ∧ Below w.heap.size w w' := by
  obtain ⟨w1, x, hw1, hb1, hz1, F0, F1⟩ := box_line w p q D.n D.m c d
  have HB := Lib.hid hb1
  have HI : Hid (∀ x : Ext w1, DuctIn x.v x.v.heap.size D p q) := fun x => (hi.bel hb1).bel x.b
  clear hb1 hz1 hi
  by_cases h7 : 7 < D.m
  · have HR := Lib.hid (show chkE D.ok true = 60 by rw [Duct.ok_m h7]; rfl)
    have j1 : decide (7 < (D.m : Int)) = true := by simp; omega
    go_enter Try.func42, Try.ntmps42
    go_wp2
    go_ret
    exact ⟨ret_i HR.out.symm, bT HB.out x.b⟩
  have j1 : decide (7 < (D.m : Int)) = false := by simp; omega
  by_cases h8 : D.n = D.m + 1
  case neg =>
    have HR := Lib.hid (show chkE D.ok true = 60 by rw [Duct.ok_n h8]; rfl)
    have j2 : ((D.n : Int) != (D.m : Int) + 1) = true := by simp; omega
    go_enter Try.func42, Try.ntmps42
    go_wp2
    go_ret
    exact ⟨ret_i HR.out.symm, bT HB.out x.b⟩
  have j2 : ((D.n : Int) != (D.m : Int) + 1) = false := by simp; omega
  have H8 := Lib.hid h8
  clear h8
  go_enter Try.func42, Try.ntmps42
  go_wp2
  clear j1 j2
  go_loopw [3] (fun i wr => ∃ k : Nat, i = .int .i64 k ∧ k ≤ D.m ∧ allN (odOk D) k = true ∧ ∃ x : Ext w1, wr = x.v) (fun i _ => D.m - (intOf i).toNat)
  case atStart => exact ⟨0, rfl, Nat.zero_le _, rfl, x, rfl⟩
  case round =>
    obtain ⟨k, rfl, hk, hp, y, rfl⟩ := hrel
    have HP := Lib.hid hp; clear hp hw1 x
    by_cases hlt : k < D.m
    · obtain ⟨b, o, rfl, hbl, hc⟩ := (HI.out y).od (by omega)
      have e0 := hc k hlt
      clear hc
      have j : decide ((k : Int) < (D.m : Int)) = true := by simp; omega
      have hkm : (k : Int) < (D.m : Int) := by omega
      cases ho : odOk D k with
      | true =>
        have HO := Lib.hid ho
        rw [odR_iff] at ho
        go_wp2_with (go_at_call 61; refine (within_any _ _ _ _).mono ?_; rintro e w' ⟨rfl, rfl⟩)
        go_roundw
        case rel => exact ⟨k + 1, by go_num, hlt, allN_succ HP.out HO.out, y, rfl⟩
        case measure => first | (simp [intOf]; done) | (simp [intOf]; omega)
      | false =>
        have HR := Lib.hid (show chkE D.ok true = 60 by rw [Duct.ok_od (allN_bad hlt ho)]; rfl)
        rw [odR_iff] at ho
        go_wp2_with (go_at_call 61; refine (within_any _ _ _ _).mono ?_; rintro e w' ⟨rfl, rfl⟩)
        go_ret
        exact ⟨ret_i HR.out.symm, bT HB.out y.b⟩
    · have HA := Lib.hid (show allN (odOk D) D.m = true by have := HP.out; rwa [show k = D.m by omega] at this)
      have j : decide ((k : Int) < (D.m : Int)) = false := by simp; omega
      clear HP
      go_wp2
      clear j hlt hk
      go_loopw [4] (fun i wr => ∃ k : Nat, i = .int .i64 k ∧ k ≤ D.n ∧ allN (ptOk D) k = true ∧ ∃ x : Ext w1, wr = x.v) (fun i _ => D.n - (intOf i).toNat)
      case atStart => exact ⟨0, rfl, Nat.zero_le _, rfl, y, rfl⟩
      case round =>
        obtain ⟨k2, rfl, hk2, hp, y2, rfl⟩ := hrel
        have HP := Lib.hid hp; clear hp
        by_cases hlt : k2 < D.n
        · obtain ⟨b, o, rfl, hbl, hc⟩ := (HI.out y2).pt (by omega)
          have e0 := hc.c0 k2 hlt
          have e1 := hc.c1 k2 hlt
          have e2 := hc.c2 k2 hlt
          clear hc
          have j : decide ((k2 : Int) < (D.n : Int)) = true := by simp; omega
          have hkm : (k2 : Int) < (D.n : Int) := by omega
          obtain ⟨w2, z, hw2, hb2, hz2, G0, G1, G2⟩ := box_point y2.v (D.lo k2) (D.hi k2) (D.co k2)
          have HB2 := Lib.hid (bT y2.b hb2)
          have F0' : ∀ y : Ext w2, y.v.cell? ⟨w.heap.size, 0, none⟩ = some (.slice (some ⟨b, o, none⟩) D.n c) := fun y => F0 (y.up (bT y2.b hb2))
          clear hb2 hz2
          cases ho : ptOk D k2 with
          | true =>
            have HO := Lib.hid ho
            rw [ptR, Bool.and_eq_true, Bool.and_eq_true] at ho
            obtain ⟨p1, p2, p3⟩ := ho
            go_wp2_with (go_at_call 61; refine (within_any _ _ _ _).mono ?_; rintro e w' ⟨rfl, rfl⟩)
            go_roundw
            case rel => exact ⟨k2 + 1, by go_num, hlt, allN_succ HP.out HO.out, z.up HB2.out, rfl⟩
            case measure => first | (simp [intOf]; done) | (simp [intOf]; omega)
          | false =>
            have HR := Lib.hid (show chkE D.ok true = 60 by rw [Duct.ok_pt (allN_bad hlt ho)]; rfl)
            rw [ptR] at ho
            cases p1 : within (D.lo k2) 0 99 with
            | false =>
              clear ho
              go_wp2_with (go_at_call 61; refine (within_any _ _ _ _).mono ?_; rintro e w' ⟨rfl, rfl⟩)
              go_ret
              exact ⟨ret_i HR.out.symm, bT HB.out (bT HB2.out z.b)⟩
            | true =>
            cases p2 : within (D.hi k2) (D.lo k2) 99 with
            | false =>
              clear ho
              go_wp2_with (go_at_call 61; refine (within_any _ _ _ _).mono ?_; rintro e w' ⟨rfl, rfl⟩)
              go_ret
              exact ⟨ret_i HR.out.symm, bT HB.out (bT HB2.out z.b)⟩
            | true =>
            cases p3 : within (D.co k2) 0 20 with
            | false =>
              clear ho
              go_wp2_with (go_at_call 61; refine (within_any _ _ _ _).mono ?_; rintro e w' ⟨rfl, rfl⟩)
              go_ret
              exact ⟨ret_i HR.out.symm, bT HB.out (bT HB2.out z.b)⟩
            | true => rw [p1, p2, p3] at ho; cases ho
        · have HR := Lib.hid (show chkE D.ok true = 0 by rw [Duct.ok_mk (by omega) H8.out HA.out (show allN (ptOk D) D.n = true by have := HP.out; rwa [show k2 = D.n by omega] at this)]; rfl)
          have j : decide ((k2 : Int) < (D.n : Int)) = false := by simp; omega
          go_wp2
          go_ret
          exact ⟨ret_i HR.out.symm, bT HB.out y2.b⟩
set_option maxRecDepth 100000 in
set_option maxHeartbeats 2000000 in
theorem ready_any (D : Duct) (p q : Option Addr) (c d : Nat) (w : World) (hn : D.n ≤ maxLen) (hm : D.m ≤ maxLen) (hi : DuctIn w w.heap.size D p q) :
    Calls Try.prog 15 #[.agg #[.slice p D.n c, .slice q D.m d]] w fun e w' => e = .returned (.bool (!(decide (40 < D.n) || decide (40 < D.m)) && D.ok)) ∧ Below w.heap.size w w' := by
  obtain ⟨w1, x, hw1, hb1, hz1, F0, F1⟩ := box_line w p q D.n D.m c d
  have HB := Lib.hid hb1
  have HI : Hid (∀ x : Ext w1, DuctIn x.v x.v.heap.size D p q) := fun x => (hi.bel hb1).bel x.b
  clear hb1 hz1 hi
  cases hf : (decide (40 < D.n) || decide (40 < D.m)) with
  | true =>
    go_enter Try.func15, Try.ntmps15
    go_wp2_with (go_at_call 40; refine (quiet_x (far_any D p q c d _ hn hm)).mono ?_; rintro e w' ⟨rfl, y, rfl⟩)
    go_ret
    exact ⟨rfl, bT HB.out y.b⟩
  | false =>
    have hn4 : D.n ≤ 40 := by simp at hf; omega
    have hm4 : D.m ≤ 40 := by simp at hf; omega
    cases ho : D.ok with
    | true =>
      have hc : chkE true true = 0 := rfl
      go_enter Try.func15, Try.ntmps15
      go_wp2_with (first | (go_at_call 40; refine (quiet_x (far_any D p q c d _ hn hm)).mono ?_; rintro e w' ⟨rfl, y, rfl⟩) | (go_at_call 42; refine (quiet_x (checkR_any D p q c d _ hn4 hm4 (HI.out _))).mono ?_; rintro e w' ⟨rfl, y, rfl⟩))
      go_ret
      exact ⟨rfl, bT HB.out y.b⟩
    | false =>
      have hc : chkE false true = 60 := rfl
      go_enter Try.func15, Try.ntmps15
      go_wp2_with (first | (go_at_call 40; refine (quiet_x (far_any D p q c d _ hn hm)).mono ?_; rintro e w' ⟨rfl, y, rfl⟩) | (go_at_call 42; refine (quiet_x (checkR_any D p q c d _ hn4 hm4 (HI.out _))).mono ?_; rintro e w' ⟨rfl, y, rfl⟩))
      go_ret
      exact ⟨rfl, bT HB.out y.b⟩
theorem inside_any (a b u v : Int) (w : World) :
    Calls Try.prog 22 #[.agg #[.int .i64 a, .int .i64 b], .agg #[.int .i64 u, .int .i64 v]] w fun e w' => e = .returned (.bool (decide (u ≤ a ∧ a ≤ b ∧ b ≤ v))) ∧ Below w.heap.size w w' := by
  obtain ⟨w1, x, hw1, hb1, _, F0, F1, _⟩ := box_two w 34 a b
  obtain ⟨w2, x2, hw2, hb2, hup, G0, G1, _⟩ := box_twoE x 34 u v
  have F0' : ∀ y : Ext w2, y.v.cell? ⟨w.heap.size, 0, none⟩ = some (.int .i64 a) := fun y => by obtain ⟨z, hz⟩ := hup y; rw [hz]; exact F0 z
  have F1' : ∀ y : Ext w2, y.v.cell? ⟨w.heap.size, 1, none⟩ = some (.int .i64 b) := fun y => by obtain ⟨z, hz⟩ := hup y; rw [hz]; exact F1 z
  have HB := Lib.hid (bT (bT (bT hb1 x.b) hb2) x2.b)
  clear hb1 hb2 hup
  by_cases h1 : u ≤ a
  · by_cases h2 : a ≤ b
    · have hr : decide (b ≤ v) = decide (u ≤ a ∧ a ≤ b ∧ b ≤ v) := by simp [h1, h2]
      have HR := Lib.hid hr; clear hr
      go_enter Try.func22, Try.ntmps22
      go_wp2
      go_ret
      exact ⟨ret_b HR.out, HB.out⟩
    · have hr : false = decide (u ≤ a ∧ a ≤ b ∧ b ≤ v) := by simp [h2]
      have h2' : decide (a ≤ b) = false := by simpa using h2
      have HR := Lib.hid hr; clear hr h2
      go_enter Try.func22, Try.ntmps22
      go_wp2
      go_ret
      exact ⟨ret_b HR.out, HB.out⟩
  · have hr : false = decide (u ≤ a ∧ a ≤ b ∧ b ≤ v) := by simp [h1]
    have h1' : decide (u ≤ a) = false := by simpa using h1
    have HR := Lib.hid hr; clear hr h1
    go_enter Try.func22, Try.ntmps22
    go_wp2
    go_ret
    exact ⟨ret_b HR.out, HB.out⟩
end Go.Proofs.Ytkdlppekjjbgoaa
