/- Lines of an aqueduct: valid, Check, and what is asked for: both sides. -/
import Derived.Test.YtkdlppekjjbgoaaA1

set_option linter.unusedSimpArgs false

set_option linter.unusedVariables false

namespace Go.Proofs.Ytkdlppekjjbgoaa

open Go.RowKit

theorem far_any (D : Duct) (p q : Option Addr) (c d : Nat) (w : World) (hn : D.n ≤ maxLen) (hm : D.m ≤ maxLen) :
    Calls Try.prog 40 #[.agg #[.slice p D.n c, .slice q D.m d]] w fun e w' => e = .returned (.bool (decide (40 < D.n) || decide (40 < D.m))) ∧ Below w.heap.size w w' := by
  obtain ⟨w1, x, hw1, hb1, hz1, F0, F1⟩ := box_line w p q D.n D.m c d
  have HB := Lib.hid hb1
  clear hb1 hz1
  by_cases h1 : 40 < D.n
  · have j1 : decide (40 < (D.n : Int)) = true := by simp; omega
    have HR := Lib.hid (show true = (decide (40 < D.n) || decide (40 < D.m)) by simp [h1])
    go_enter Try.func40, Try.ntmps40
    go_wp2
    go_ret
    exact ⟨ret_b HR.out, bT HB.out x.b⟩
  · have j1 : decide (40 < (D.n : Int)) = false := by simp; omega
    have HR := Lib.hid (show decide (40 < (D.m : Int)) = (decide (40 < D.n) || decide (40 < D.m)) by simp [h1]; omega)
    go_enter Try.func40, Try.ntmps40
    go_wp2
    go_ret
    exact ⟨ret_b HR.out, bT HB.out x.b⟩
theorem valid_any (D : Duct) (p q : Option Addr) (c d : Nat) (w : World) (hn : D.n ≤ 40) (hm : D.m ≤ 40) (hi : DuctIn w w.heap.size D p q) :
    Calls Try.prog 82 #[.agg #[.slice p D.n c, .slice q D.m d]] w fun e w' => e = .returned (.bool D.ok) ∧ Below w.heap.size w w' := by
  obtain ⟨w1, x, hw1, hb1, hz1, F0, F1⟩ := box_line w p q D.n D.m c d
  have HB := Lib.hid hb1
  have HI : Hid (∀ x : Ext w1, DuctIn x.v x.v.heap.size D p q) := fun x => (hi.bel hb1).bel x.b
  clear hb1 hz1 hi
  by_cases h7 : 7 < D.m
  · have HR := Lib.hid (Duct.ok_m h7)
    have j1 : decide (7 < (D.m : Int)) = true := by simp; omega
    go_enter Try.func82, Try.ntmps82
    go_wp2
    go_ret
    exact ⟨ret_b HR.out.symm, bT HB.out x.b⟩
  have j1 : decide (7 < (D.m : Int)) = false := by simp; omega
  by_cases h8 : D.n = D.m + 1
  case neg =>
    have HR := Lib.hid (Duct.ok_n h8)
    have j2 : ((D.n : Int) != (D.m : Int) + 1) = true := by simp; omega
    go_enter Try.func82, Try.ntmps82
    go_wp2
    go_ret
    exact ⟨ret_b HR.out.symm, bT HB.out x.b⟩
  have j2 : ((D.n : Int) != (D.m : Int) + 1) = false := by simp; omega
  have H8 := Lib.hid h8
  clear h8
  go_enter Try.func82, Try.ntmps82
  go_wp2
  clear j1 j2
  go_loopw [24] (fun i wr => ∃ k : Nat, i = .int .i64 k ∧ k ≤ D.m ∧ allN (odOk D) k = true ∧ ∃ x : Ext w1, wr = x.v) (fun i _ => D.m - (intOf i).toNat)
  case atStart => exact ⟨0, rfl, Nat.zero_le _, rfl, x, rfl⟩
  case round =>
    obtain ⟨k, rfl, hk, hp, y, rfl⟩ := hrel
    have HP := Lib.hid hp; clear hp hw1 x
    by_cases hlt : k < D.m
    · obtain ⟨b, o, rfl, hbl, hc⟩ := (HI.out y).od (by omega)
      have e0 := hc k hlt
      clear hc
      have j : decide ((k : Int) < (D.m : Int)) = true := by simp; omega
      cases ho : odOk D k with
      | true =>
        have HO := Lib.hid ho
        unfold odOk at ho
        go_wp2_with (go_at_call 89; refine (isFrom_any _ _ _ _).mono ?_; rintro e w' ⟨rfl, rfl⟩)
        go_roundw
        case rel => exact ⟨k + 1, by go_num, hlt, allN_succ HP.out HO.out, y, rfl⟩
        case measure => simp [intOf]; omega
      | false =>
        have HR := Lib.hid (Duct.ok_od (allN_bad hlt ho))
        unfold odOk at ho
        go_wp2_with (go_at_call 89; refine (isFrom_any _ _ _ _).mono ?_; rintro e w' ⟨rfl, rfl⟩)
        go_ret
        exact ⟨ret_b HR.out.symm, bT HB.out y.b⟩
    · have HA := Lib.hid (show allN (odOk D) D.m = true by have := HP.out; rwa [show k = D.m by omega] at this)
      have j : decide ((k : Int) < (D.m : Int)) = false := by simp; omega
      clear HP
      go_wp2
      clear j hlt hk
      go_loopw [35] (fun i wr => ∃ k : Nat, i = .int .i64 k ∧ k ≤ D.n ∧ allN (ptOk D) k = true ∧ ∃ x : Ext w1, wr = x.v) (fun i _ => D.n - (intOf i).toNat)
      case atStart => exact ⟨0, rfl, Nat.zero_le _, rfl, y, rfl⟩
      case round =>
        obtain ⟨k2, rfl, hk2, hp, y2, rfl⟩ := hrel
        have HP := Lib.hid hp; clear hp
        by_cases hlt : k2 < D.n
        · obtain ⟨b, o, rfl, hbl, hc⟩ := (HI.out y2).pt (by omega)
          have e0 := hc.c0 k2 hlt
          have e1 := hc.c1 k2 hlt
          have e2 := hc.c2 k2 hlt
          clear hc
          have j : decide ((k2 : Int) < (D.n : Int)) = true := by simp; omega
          obtain ⟨w2, z, hw2, hb2, hz2, G0, G1, G2⟩ := box_point y2.v (D.lo k2) (D.hi k2) (D.co k2)
          have HB2 := Lib.hid (bT y2.b hb2); clear hb2 hz2
          cases ho : ptOk D k2 with
          | true =>
            have HO := Lib.hid ho
            go_wp2_with (go_at_call 90; refine (quiet_x (isPossible_any _ _ _)).mono ?_; rintro e w' ⟨rfl, u, rfl⟩)
            go_roundw
            case rel => exact ⟨k2 + 1, by go_num, hlt, allN_succ HP.out HO.out, u.up HB2.out, rfl⟩
            case measure => simp [intOf]; omega
          | false =>
            have HR := Lib.hid (Duct.ok_pt (allN_bad hlt ho))
            go_wp2_with (go_at_call 90; refine (quiet_x (isPossible_any _ _ _)).mono ?_; rintro e w' ⟨rfl, u, rfl⟩)
            go_ret
            exact ⟨ret_b HR.out.symm, bT HB.out (bT HB2.out u.b)⟩
        · have HR := Lib.hid (Duct.ok_mk (by omega) H8.out HA.out (show allN (ptOk D) D.n = true by have := HP.out; rwa [show k2 = D.n by omega] at this))
          have j : decide ((k2 : Int) < (D.n : Int)) = false := by simp; omega
          go_wp2
          go_ret
          exact ⟨ret_b HR.out.symm, bT HB.out y2.b⟩
def chkE (ok is : Bool) : Int := if ok then (if is then 0 else 1) else 60
theorem check_any (D : Duct) (p q : Option Addr) (c d : Nat) (is : Bool) (w : World) (hn : D.n ≤ 40) (hm : D.m ≤ 40) (hi : DuctIn w w.heap.size D p q) :
    Calls Try.prog 57 #[.agg #[.slice p D.n c, .slice q D.m d], .bool is] w fun e w' => e = .returned (.int .i64 (chkE D.ok is)) ∧ Below w.heap.size w w' := by
  obtain ⟨w1, x, hw1, hb1, hz1, F0, F1⟩ := box_line w p q D.n D.m c d
  have HB := Lib.hid hb1
  have HI : Hid (∀ x : Ext w1, DuctIn x.v x.v.heap.size D p q) := fun x => (hi.bel hb1).bel x.b
  clear hb1 hz1 hi
  cases ho : D.ok <;> cases is
  all_goals
    go_enter Try.func57, Try.ntmps57
    go_wp2_with (go_at_call 82; go_loud (refine (quiet_x (valid_any D p q c d _ hn hm (HI.out _))).mono ?_); rintro e w' ⟨rfl, y, rfl⟩)
    go_ret
    exact ⟨rfl, bT HB.out (Ext.b _)⟩
theorem checkP_any (D : Duct) (p q : Option Addr) (c d : Nat) (w : World) (hn : D.n ≤ 40) (hm : D.m ≤ 40) (hi : DuctIn w w.heap.size D p q) :
    Calls Try.prog 41 #[.agg #[.slice p D.n c, .slice q D.m d]] w fun e w' => e = .returned (.int .i64 (chkE D.ok true)) ∧ Below w.heap.size w w' := by
  obtain ⟨w1, x, hw1, hb1, hz1, F0, F1⟩ := box_line w p q D.n D.m c d
  have HB := Lib.hid hb1
  have HI : Hid (∀ x : Ext w1, DuctIn x.v x.v.heap.size D p q) := fun x => (hi.bel hb1).bel x.b
  clear hb1 hz1 hi
  go_enter Try.func41, Try.ntmps41
  go_wp2_with (go_at_call 57; refine (quiet_x (check_any D p q c d true _ hn hm (HI.out _))).mono ?_; rintro e w' ⟨rfl, y, rfl⟩)
  go_ret
  exact ⟨rfl, bT HB.out y.b⟩
def isPt (D : Duct) (k : Int) : Bool := within k 0 ((D.n : Int) - 1)
def isSt (D : Duct) (k : Int) : Bool := within k 0 ((D.m : Int) - 1)
theorem isPoint_any (D : Duct) (p q : Option Addr) (c d : Nat) (k : Int) (w : World) :
    Calls Try.prog 62 #[.agg #[.slice p D.n c, .slice q D.m d], .int .i64 k] w fun e w' => e = .returned (.bool (isPt D k)) ∧ Below w.heap.size w w' := by
  obtain ⟨w1, x, hw1, hb1, hz1, F0, F1⟩ := box_line w p q D.n D.m c d
  have HB := Lib.hid hb1
  clear hb1 hz1
  go_enter Try.func62, Try.ntmps62
  go_wp2
  all_goals
    go_ret
    refine ⟨ret_b ?_, bT HB.out x.b⟩
    clear HB F0 F1 hw1; go_light; rw [Bool.eq_iff_iff]; simp only [isPt, within_iff, decide_eq_true_eq]; (first | omega | (simp; omega))
theorem isStretch_any (D : Duct) (p q : Option Addr) (c d : Nat) (k : Int) (w : World) :
    Calls Try.prog 63 #[.agg #[.slice p D.n c, .slice q D.m d], .int .i64 k] w fun e w' => e = .returned (.bool (isSt D k)) ∧ Below w.heap.size w w' := by
  obtain ⟨w1, x, hw1, hb1, hz1, F0, F1⟩ := box_line w p q D.n D.m c d
  have HB := Lib.hid hb1
  clear hb1 hz1
  go_enter Try.func63, Try.ntmps63
  go_wp2
  all_goals
    go_ret
    refine ⟨ret_b ?_, bT HB.out x.b⟩
    clear HB F0 F1 hw1; go_light; rw [Bool.eq_iff_iff]; simp only [isSt, within_iff, decide_eq_true_eq]; (first | omega | (simp; omega))
theorem isPointR_any (D : Duct) (p q : Option Addr) (c d : Nat) (k : Int) (w : World) (hn : D.n ≤ 40) :
    Calls Try.prog 19 #[.agg #[.slice p D.n c, .slice q D.m d], .int .i64 k] w fun e w' => e = .returned (.bool (isPt D k)) ∧ Below w.heap.size w w' := by
  obtain ⟨w1, x, hw1, hb1, hz1, F0, F1⟩ := box_line w p q D.n D.m c d
  have HB := Lib.hid hb1
  clear hb1 hz1
  go_enter Try.func19, Try.ntmps19
  go_wp2_with (go_at_call 61; refine (within_any _ _ _ _).mono ?_; rintro e w' ⟨rfl, rfl⟩)
  go_ret
  exact ⟨rfl, bT HB.out x.b⟩
theorem isStretchR_any (D : Duct) (p q : Option Addr) (c d : Nat) (k : Int) (w : World) (hm : D.m ≤ 40) :
    Calls Try.prog 27 #[.agg #[.slice p D.n c, .slice q D.m d], .int .i64 k] w fun e w' => e = .returned (.bool (isSt D k)) ∧ Below w.heap.size w w' := by
  obtain ⟨w1, x, hw1, hb1, hz1, F0, F1⟩ := box_line w p q D.n D.m c d
  have HB := Lib.hid hb1
  clear hb1 hz1
  go_enter Try.func27, Try.ntmps27
  go_wp2_with (go_at_call 61; refine (within_any _ _ _ _).mono ?_; rintro e w' ⟨rfl, rfl⟩)
  go_ret
  exact ⟨rfl, bT HB.out x.b⟩
end Go.Proofs.Ytkdlppekjjbgoaa
