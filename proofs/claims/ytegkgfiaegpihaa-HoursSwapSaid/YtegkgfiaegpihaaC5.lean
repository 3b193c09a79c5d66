/- Rosters of hours: Good, Cost, Moved, of both. -/
import Derived.Test.YtegkgfiaegpihaaC4

set_option linter.unusedSimpArgs false

set_option linter.unusedVariables false

namespace Go.Proofs.Ytegkgfiaegpihaa

open Go.RowKit

theorem isNewP_is {D : Ro} {p q lp : Option Addr} {c d l lc : Nat} {f : Nat → Int} {b : Bool} (h : isNw D l f = b) (w : World) (hD : OkP D) (hi : RoIn w w.heap.size D p q) (hf : NumIn w w.heap.size l f lp) :
    Calls Try.prog 71 #[.agg #[.slice p D.n c, .slice q D.m d], .slice lp l lc] w fun e w' => e = .returned (.bool b) ∧ Below w.heap.size w w' := by subst h; exact isNewP_any D p q lp c d l lc f w hD hi hf
theorem isNewR_is {D : Ro} {p q lp : Option Addr} {c d l lc : Nat} {f : Nat → Int} {b : Bool} (h : isNw D l f = b) (w : World) (hD : OkP D) (hi : RoIn w w.heap.size D p q) (hf : NumIn w w.heap.size l f lp) :
    Calls Try.prog 23 #[.agg #[.slice p D.n c, .slice q D.m d], .slice lp l lc] w fun e w' => e = .returned (.bool b) ∧ Below w.heap.size w w' := by subst h; exact isNewR_any D p q lp c d l lc f w hD hi hf
theorem check_is {D : Ro} {p q : Option Addr} {c d : Nat} {is : Bool} {v : Int} (h : chkE D.ok is = v) (w : World) (hn : D.n ≤ maxLen) (hm : D.m ≤ maxLen) (hi : RoIn w w.heap.size D p q) :
    Calls Try.prog 77 #[.agg #[.slice p D.n c, .slice q D.m d], .bool is] w fun e w' => e = .returned (.int .i64 v) ∧ Below w.heap.size w w' := by subst h; exact check_any D p q c d is w hn hm hi
theorem checkP_is {D : Ro} {p q : Option Addr} {c d : Nat} {v : Int} (h : chkE D.ok true = v) (w : World) (hn : D.n ≤ maxLen) (hm : D.m ≤ maxLen) (hi : RoIn w w.heap.size D p q) :
    Calls Try.prog 40 #[.agg #[.slice p D.n c, .slice q D.m d]] w fun e w' => e = .returned (.int .i64 v) ∧ Below w.heap.size w w' := by subst h; exact checkP_any D p q c d w hn hm hi
theorem checkR_iv {D : Ro} {p q : Option Addr} {c d : Nat} {v : Int} (h : chkE D.ok true = v) (w : World) (hn : D.n ≤ maxLen) (hm : D.m ≤ maxLen) (hi : RoIn w w.heap.size D p q) :
    Calls Try.prog 41 #[.agg #[.slice p D.n c, .slice q D.m d]] w fun e w' => e = .returned (.int .i64 v) ∧ Below w.heap.size w w' := by subst h; exact checkR_any D p q c d w hn hm hi
def newE (D : Ro) (l : Nat) (f : Nat → Int) : Int := if D.ok then (if isNw D l f then 0 else 1) else 80
theorem newE_no {D : Ro} {l : Nat} {f : Nat → Int} (h : D.ok = false) : newE D l f = 80 := by simp [newE, h]
theorem newE_ok {D : Ro} {l : Nat} {f : Nat → Int} (h : D.ok = true) (h2 : isNw D l f = true) : newE D l f = 0 := by simp [newE, h, h2]
theorem newE_arg {D : Ro} {l : Nat} {f : Nat → Int} (h : D.ok = true) (h2 : isNw D l f = false) : newE D l f = 1 := by simp [newE, h, h2]
theorem newE_zero {D : Ro} {l : Nat} {f : Nat → Int} (h : newE D l f = 0) : OkP D ∧ l = D.m ∧ NR D f := by
  cases ho : D.ok with
  | false => rw [newE_no ho] at h; cases h
  | true =>
    cases hn : isNw D l f with
    | false => rw [newE_arg ho hn] at h; cases h
    | true => exact ⟨Ro.ok_iff.1 ho, (isNw_iff (Ro.ok_iff.1 ho)).1 hn⟩
theorem chk_no {D : Ro} (h : D.ok = false) {b : Bool} : chkE D.ok b = 80 := by simp [chkE, h]
theorem chk_ok {D : Ro} (h : D.ok = true) : chkE D.ok true = 0 := by simp [chkE, h]
theorem chk_arg {D : Ro} (h : D.ok = true) : chkE D.ok false = 1 := by simp [chkE, h]
set_option maxRecDepth 100000 in
set_option maxHeartbeats 2000000 in
theorem checkNew_any (D : Ro) (p q lp : Option Addr) (c d l lc : Nat) (f : Nat → Int) (w : World) (hn : D.n ≤ maxLen) (hm : D.m ≤ maxLen) (hi : RoIn w w.heap.size D p q) (hf : NumIn w w.heap.size l f lp) :
    Calls Try.prog 72 #[.agg #[.slice p D.n c, .slice q D.m d], .slice lp l lc] w fun e w' => e = .returned (.int .i64 (newE D l f)) ∧ Below w.heap.size w w' := by
  obtain ⟨w1, x1, hw1, hb1, hz1, F0, F1, _⟩ := box_ro w p q D.n D.m c d
  have HB := Lib.hid hb1
  have HI : Hid (∀ x : Ext w1, RoIn x.v x.v.heap.size D p q) := fun x => (hi.bel hb1).bel x.b
  have HF : Hid (∀ x : Ext w1, NumIn x.v x.v.heap.size l f lp) := fun x => (hf.bel hb1).bel x.b
  clear hb1 hz1 hi hf
  cases ho : D.ok with
  | false =>
    have HO := Lib.hid ho
    have j80 : ((80 : Int) != 0) = true := by decide
    clear ho
    rw [newE_no HO.out]
    go_enter Try.func72, Try.ntmps72
    go_wp2_with fail
    refine (quiet_x (checkP_is (chk_no HO.out) _ hn hm (HI.out _))).mono ?_
    rintro e w' ⟨rfl, y, rfl⟩
    go_wp2
    go_ret
    exact ⟨rfl, bT HB.out y.b⟩
  | true =>
  have HO := Lib.hid ho
  have HK := Lib.hid (Ro.ok_iff.1 ho)
  have j0 : ((0 : Int) != 0) = false := by decide
  have j1 : ((1 : Int) != 0) = true := by decide
  clear ho
  cases hnw : isNw D l f with
  | false =>
    have HN := Lib.hid hnw
    clear hnw
    rw [newE_arg HO.out HN.out]
    go_enter Try.func72, Try.ntmps72
    go_wp2_with fail
    refine (quiet_x (checkP_is (chk_ok HO.out) _ hn hm (HI.out _))).mono ?_
    rintro e w' ⟨rfl, y, rfl⟩
    go_wp2
    refine quiet_e (by kernel_rfl) (by kernel_rfl) ?_
    repeat (first | go_big_quiet_step ((first | (go_at_call 71; exact quiet_x (isNewP_is HN.out _ HK.out (HI.out _) (HF.out _))) | (go_at_call 77; exact quiet_x (check_is (chk_arg HO.out) _ hn hm (HI.out _))))) | quiet_step ((first | (go_at_call 71; exact quiet_x (isNewP_is HN.out _ HK.out (HI.out _) (HF.out _))) | (go_at_call 77; exact quiet_x (check_is (chk_arg HO.out) _ hn hm (HI.out _))))))
    refine wpQuiet_nil ?_
    intro w6 hw6
    obtain ⟨y2, rfl⟩ := hw6
    go_wp2
    go_ret
    exact ⟨rfl, bT HB.out y2.b⟩
  | true =>
    have HN := Lib.hid hnw
    clear hnw
    rw [newE_ok HO.out HN.out]
    go_enter Try.func72, Try.ntmps72
    go_wp2_with fail
    refine (quiet_x (checkP_is (chk_ok HO.out) _ hn hm (HI.out _))).mono ?_
    rintro e w' ⟨rfl, y, rfl⟩
    go_wp2
    refine quiet_e (by kernel_rfl) (by kernel_rfl) ?_
    repeat (first | go_big_quiet_step ((first | (go_at_call 71; exact quiet_x (isNewP_is HN.out _ HK.out (HI.out _) (HF.out _))) | (go_at_call 77; exact quiet_x (check_is (chk_ok HO.out) _ hn hm (HI.out _))))) | quiet_step ((first | (go_at_call 71; exact quiet_x (isNewP_is HN.out _ HK.out (HI.out _) (HF.out _))) | (go_at_call 77; exact quiet_x (check_is (chk_ok HO.out) _ hn hm (HI.out _))))))
    refine wpQuiet_nil ?_
    intro w6 hw6
    obtain ⟨y2, rfl⟩ := hw6
    go_wp2
    go_ret
    exact ⟨rfl, bT HB.out y2.b⟩
set_option maxRecDepth 100000 in
set_option maxHeartbeats 2000000 in
theorem given_any (D : Ro) (p q lp : Option Addr) (c d l lc : Nat) (f : Nat → Int) (w : World) (hn : D.n ≤ maxLen) (hm : D.m ≤ maxLen) (hi : RoIn w w.heap.size D p q) (hf : NumIn w w.heap.size l f lp) :
    Calls Try.prog 83 #[.agg #[.slice p D.n c, .slice q D.m d], .slice lp l lc] w fun e w' => e = .returned (.int .i64 (newE D l f)) ∧ Below w.heap.size w w' := by
  obtain ⟨w1, x1, hw1, hb1, hz1, F0, F1, _⟩ := box_ro w p q D.n D.m c d
  have HB := Lib.hid hb1
  have HI : Hid (∀ x : Ext w1, RoIn x.v x.v.heap.size D p q) := fun x => (hi.bel hb1).bel x.b
  have HF : Hid (∀ x : Ext w1, NumIn x.v x.v.heap.size l f lp) := fun x => (hf.bel hb1).bel x.b
  clear hb1 hz1 hi hf
  cases ho : D.ok with
  | false =>
    have HO := Lib.hid ho
    have j80 : ((80 : Int) != 0) = true := by decide
    clear ho
    rw [newE_no HO.out]
    go_enter Try.func83, Try.ntmps83
    go_wp2_with fail
    refine (quiet_x (checkR_iv (chk_no HO.out) _ hn hm (HI.out _))).mono ?_
    rintro e w' ⟨rfl, y, rfl⟩
    go_wp2
    go_ret
    exact ⟨rfl, bT HB.out y.b⟩
  | true =>
  have HO := Lib.hid ho
  have HK := Lib.hid (Ro.ok_iff.1 ho)
  have j0 : ((0 : Int) != 0) = false := by decide
  have j1 : ((1 : Int) != 0) = true := by decide
  clear ho
  cases hnw : isNw D l f with
  | false =>
    have HN := Lib.hid hnw
    clear hnw
    rw [newE_arg HO.out HN.out]
    go_enter Try.func83, Try.ntmps83
    go_wp2_with fail
    refine (quiet_x (checkR_iv (chk_ok HO.out) _ hn hm (HI.out _))).mono ?_
    rintro e w' ⟨rfl, y, rfl⟩
    go_wp2_with fail
    refine (quiet_x (isNewR_is HN.out _ HK.out (HI.out _) (HF.out _))).mono ?_
    rintro e w' ⟨rfl, y2, rfl⟩
    go_wp2
    go_ret
    exact ⟨rfl, bT HB.out y2.b⟩
  | true =>
    have HN := Lib.hid hnw
    clear hnw
    rw [newE_ok HO.out HN.out]
    go_enter Try.func83, Try.ntmps83
    go_wp2_with fail
    refine (quiet_x (checkR_iv (chk_ok HO.out) _ hn hm (HI.out _))).mono ?_
    rintro e w' ⟨rfl, y, rfl⟩
    go_wp2_with fail
    refine (quiet_x (isNewR_is HN.out _ HK.out (HI.out _) (HF.out _))).mono ?_
    rintro e w' ⟨rfl, y2, rfl⟩
    go_wp2
    go_ret
    exact ⟨rfl, bT HB.out y2.b⟩
def gdV (D : Ro) (l : Nat) (f : Nat → Int) : Bool := D.ok && isNw D l f
set_option maxRecDepth 100000 in
set_option maxHeartbeats 2000000 in
theorem goodP_any (D : Ro) (p q lp : Option Addr) (c d l lc : Nat) (f : Nat → Int) (w : World) (hn : D.n ≤ maxLen) (hm : D.m ≤ maxLen) (hi : RoIn w w.heap.size D p q) (hf : NumIn w w.heap.size l f lp) :
    Calls Try.prog 30 #[.agg #[.slice p D.n c, .slice q D.m d], .slice lp l lc] w fun e w' => e = .returned (.tuple #[.bool (gdV D l f), .int .i64 (chkE D.ok true)]) ∧ Below w.heap.size w w' := by
  obtain ⟨w1, x1, hw1, hb1, hz1, F0, F1, _⟩ := box_ro w p q D.n D.m c d
  have HB := Lib.hid hb1
  have HI : Hid (∀ x : Ext w1, RoIn x.v x.v.heap.size D p q) := fun x => (hi.bel hb1).bel x.b
  have HF : Hid (∀ x : Ext w1, NumIn x.v x.v.heap.size l f lp) := fun x => (hf.bel hb1).bel x.b
  clear hb1 hz1 hi hf
  cases ho : D.ok with
  | false =>
    have HO := Lib.hid ho
    have j80 : ((80 : Int) != 0) = true := by decide
    clear ho
    rw [show gdV D l f = false by simp [gdV, HO.out], show chkE false true = 80 from rfl]
    go_enter Try.func30, Try.ntmps30
    go_wp2_with fail
    refine (quiet_x (checkP_is (chk_no HO.out) _ hn hm (HI.out _))).mono ?_
    rintro e w' ⟨rfl, y, rfl⟩
    go_wp2
    go_ret2
    exact ⟨rfl, bT HB.out y.b⟩
  | true =>
  have HO := Lib.hid ho
  have HK := Lib.hid (Ro.ok_iff.1 ho)
  have j0 : ((0 : Int) != 0) = false := by decide
  have j1 : ((1 : Int) != 0) = true := by decide
  clear ho
  cases hnw : isNw D l f with
  | false =>
    have HN := Lib.hid hnw
    clear hnw
    rw [show gdV D l f = false by simp [gdV, HO.out, HN.out], show chkE true true = 0 from rfl]
    go_enter Try.func30, Try.ntmps30
    go_wp2_with fail
    refine (quiet_x (checkP_is (chk_ok HO.out) _ hn hm (HI.out _))).mono ?_
    rintro e w' ⟨rfl, y, rfl⟩
    go_wp2_with fail
    refine (quiet_x (isNewP_is HN.out _ HK.out (HI.out _) (HF.out _))).mono ?_
    rintro e w' ⟨rfl, y2, rfl⟩
    go_wp2
    go_ret2
    exact ⟨rfl, bT HB.out y2.b⟩
  | true =>
    have HN := Lib.hid hnw
    clear hnw
    rw [show gdV D l f = true by simp [gdV, HO.out, HN.out], show chkE true true = 0 from rfl]
    go_enter Try.func30, Try.ntmps30
    go_wp2_with fail
    refine (quiet_x (checkP_is (chk_ok HO.out) _ hn hm (HI.out _))).mono ?_
    rintro e w' ⟨rfl, y, rfl⟩
    go_wp2_with fail
    refine (quiet_x (isNewP_is HN.out _ HK.out (HI.out _) (HF.out _))).mono ?_
    rintro e w' ⟨rfl, y2, rfl⟩
    go_wp2
    go_ret2
    exact ⟨rfl, bT HB.out y2.b⟩
set_option maxRecDepth 100000 in
set_option maxHeartbeats 2000000 in
theorem goodR_any (D : Ro) (p q lp : Option Addr) (c d l lc : Nat) (f : Nat → Int) (w : World) (hn : D.n ≤ maxLen) (hm : D.m ≤ maxLen) (hi : RoIn w w.heap.size D p q) (hf : NumIn w w.heap.size l f lp) :
    Calls Try.prog 42 #[.agg #[.slice p D.n c, .slice q D.m d], .slice lp l lc] w fun e w' => e = .returned (.tuple #[.bool (gdV D l f), .int .i64 (chkE D.ok true)]) ∧ Below w.heap.size w w' := by
  obtain ⟨w1, x1, hw1, hb1, hz1, F0, F1, _⟩ := box_ro w p q D.n D.m c d
  have HB := Lib.hid hb1
  have HI : Hid (∀ x : Ext w1, RoIn x.v x.v.heap.size D p q) := fun x => (hi.bel hb1).bel x.b
  have HF : Hid (∀ x : Ext w1, NumIn x.v x.v.heap.size l f lp) := fun x => (hf.bel hb1).bel x.b
  clear hb1 hz1 hi hf
  cases ho : D.ok with
  | false =>
    have HO := Lib.hid ho
    have j80 : ((80 : Int) != 0) = true := by decide
    clear ho
    rw [show gdV D l f = false by simp [gdV, HO.out], show chkE false true = 80 from rfl]
    go_enter Try.func42, Try.ntmps42
    go_wp2_with fail
    refine (quiet_x (checkR_iv (chk_no HO.out) _ hn hm (HI.out _))).mono ?_
    rintro e w' ⟨rfl, y, rfl⟩
    go_wp2
    go_ret2
    exact ⟨rfl, bT HB.out y.b⟩
  | true =>
  have HO := Lib.hid ho
  have HK := Lib.hid (Ro.ok_iff.1 ho)
  have j0 : ((0 : Int) != 0) = false := by decide
  have j1 : ((1 : Int) != 0) = true := by decide
  clear ho
  cases hnw : isNw D l f with
  | false =>
    have HN := Lib.hid hnw
    clear hnw
    rw [show gdV D l f = false by simp [gdV, HO.out, HN.out], show chkE true true = 0 from rfl]
    go_enter Try.func42, Try.ntmps42
    go_wp2_with fail
    refine (quiet_x (checkR_iv (chk_ok HO.out) _ hn hm (HI.out _))).mono ?_
    rintro e w' ⟨rfl, y, rfl⟩
    go_wp2_with fail
    refine (quiet_x (isNewR_is HN.out _ HK.out (HI.out _) (HF.out _))).mono ?_
    rintro e w' ⟨rfl, y2, rfl⟩
    go_wp2
    go_ret2
    exact ⟨rfl, bT HB.out y2.b⟩
  | true =>
    have HN := Lib.hid hnw
    clear hnw
    rw [show gdV D l f = true by simp [gdV, HO.out, HN.out], show chkE true true = 0 from rfl]
    go_enter Try.func42, Try.ntmps42
    go_wp2_with fail
    refine (quiet_x (checkR_iv (chk_ok HO.out) _ hn hm (HI.out _))).mono ?_
    rintro e w' ⟨rfl, y, rfl⟩
    go_wp2_with fail
    refine (quiet_x (isNewR_is HN.out _ HK.out (HI.out _) (HF.out _))).mono ?_
    rintro e w' ⟨rfl, y2, rfl⟩
    go_wp2
    go_ret2
    exact ⟨rfl, bT HB.out y2.b⟩
theorem checkNew_is {D : Ro} {p q lp : Option Addr} {c d l lc : Nat} {f : Nat → Int} {v : Int} (h : newE D l f = v) (w : World) (hn : D.n ≤ maxLen) (hm : D.m ≤ maxLen) (hi : RoIn w w.heap.size D p q) (hf : NumIn w w.heap.size l f lp) :
    Calls Try.prog 72 #[.agg #[.slice p D.n c, .slice q D.m d], .slice lp l lc] w fun e w' => e = .returned (.int .i64 v) ∧ Below w.heap.size w w' := by subst h; exact checkNew_any D p q lp c d l lc f w hn hm hi hf
theorem given_is {D : Ro} {p q lp : Option Addr} {c d l lc : Nat} {f : Nat → Int} {v : Int} (h : newE D l f = v) (w : World) (hn : D.n ≤ maxLen) (hm : D.m ≤ maxLen) (hi : RoIn w w.heap.size D p q) (hf : NumIn w w.heap.size l f lp) :
    Calls Try.prog 83 #[.agg #[.slice p D.n c, .slice q D.m d], .slice lp l lc] w fun e w' => e = .returned (.int .i64 v) ∧ Below w.heap.size w w' := by subst h; exact given_any D p q lp c d l lc f w hn hm hi hf
def csV (D : Ro) (l : Nat) (f : Nat → Int) : Int := if newE D l f = 0 then costF D f D.m else 0
set_option maxRecDepth 100000 in
set_option maxHeartbeats 2000000 in
theorem costPP_any (D : Ro) (p q lp : Option Addr) (c d l lc : Nat) (f : Nat → Int) (w : World) (hn : D.n ≤ maxLen) (hm : D.m ≤ maxLen) (hi : RoIn w w.heap.size D p q) (hf : NumIn w w.heap.size l f lp) :
    Calls Try.prog 43 #[.agg #[.slice p D.n c, .slice q D.m d], .slice lp l lc] w fun e w' => e = .returned (.tuple #[.int .i64 (csV D l f), .int .i64 (newE D l f)]) ∧ Below w.heap.size w w' := by
  obtain ⟨w1, x1, hw1, hb1, hz1, F0, F1, _⟩ := box_ro w p q D.n D.m c d
  have HB := Lib.hid hb1
  have HI : Hid (∀ x : Ext w1, RoIn x.v x.v.heap.size D p q) := fun x => (hi.bel hb1).bel x.b
  have HF : Hid (∀ x : Ext w1, NumIn x.v x.v.heap.size l f lp) := fun x => (hf.bel hb1).bel x.b
  clear hb1 hz1 hi hf
  by_cases he : newE D l f = 0
  · obtain ⟨hD, hl, hnr⟩ := newE_zero he
    subst hl
    rw [show csV D D.m f = costF D f D.m from if_pos he, he]
    have HE := Lib.hid he; have HD := Lib.hid hD; have HH := Lib.hid (hnr.inH hD)
    have j0 : ((0 : Int) != 0) = false := by decide
    clear he hD hnr
    go_enter Try.func43, Try.ntmps43
    go_wp2_with fail
    refine (quiet_x (checkNew_is HE.out _ hn hm (HI.out _) (HF.out _))).mono ?_
    rintro e w' ⟨rfl, y, rfl⟩
    go_wp2_with fail
    refine (quiet_x (costP_any D p q lp c d lc f _ HD.out HH.out (HI.out _) (HF.out _))).mono ?_
    rintro e w' ⟨rfl, y2, rfl⟩
    go_wp2
    go_ret2
    exact ⟨rfl, bT HB.out y2.b⟩
  · obtain ⟨v, hv⟩ : ∃ v, newE D l f = v := ⟨_, rfl⟩
    rw [show csV D l f = 0 from if_neg he, hv]
    have HE := Lib.hid hv
    have j1 : (v != 0) = true := by rw [hv] at he; simpa using he
    clear he hv
    go_enter Try.func43, Try.ntmps43
    go_wp2_with fail
    refine (quiet_x (checkNew_is HE.out _ hn hm (HI.out _) (HF.out _))).mono ?_
    rintro e w' ⟨rfl, y, rfl⟩
    go_wp2
    go_ret2
    exact ⟨rfl, bT HB.out y.b⟩
set_option maxRecDepth 100000 in
set_option maxHeartbeats 2000000 in
theorem costRR_any (D : Ro) (p q lp : Option Addr) (c d l lc : Nat) (f : Nat → Int) (w : World) (hn : D.n ≤ maxLen) (hm : D.m ≤ maxLen) (hi : RoIn w w.heap.size D p q) (hf : NumIn w w.heap.size l f lp) :
    Calls Try.prog 44 #[.agg #[.slice p D.n c, .slice q D.m d], .slice lp l lc] w fun e w' => e = .returned (.tuple #[.int .i64 (csV D l f), .int .i64 (newE D l f)]) ∧ Below w.heap.size w w' := by
  obtain ⟨w1, x1, hw1, hb1, hz1, F0, F1, _⟩ := box_ro w p q D.n D.m c d
  have HB := Lib.hid hb1
  have HI : Hid (∀ x : Ext w1, RoIn x.v x.v.heap.size D p q) := fun x => (hi.bel hb1).bel x.b
  have HF : Hid (∀ x : Ext w1, NumIn x.v x.v.heap.size l f lp) := fun x => (hf.bel hb1).bel x.b
  clear hb1 hz1 hi hf
  by_cases he : newE D l f = 0
  · obtain ⟨hD, hl, hnr⟩ := newE_zero he
    subst hl
    rw [show csV D D.m f = costF D f D.m from if_pos he, he]
    have HE := Lib.hid he; have HD := Lib.hid hD; have HH := Lib.hid (hnr.inH hD)
    have j0 : ((0 : Int) != 0) = false := by decide
    clear he hD hnr
    go_enter Try.func44, Try.ntmps44
    go_wp2_with fail
    refine (quiet_x (given_is HE.out _ hn hm (HI.out _) (HF.out _))).mono ?_
    rintro e w' ⟨rfl, y, rfl⟩
    go_wp2_with fail
    refine (quiet_x (costR_any D p q lp c d lc f _ HD.out HH.out (HI.out _) (HF.out _))).mono ?_
    rintro e w' ⟨rfl, y2, rfl⟩
    go_wp2
    go_ret2
    exact ⟨rfl, bT HB.out y2.b⟩
  · obtain ⟨v, hv⟩ : ∃ v, newE D l f = v := ⟨_, rfl⟩
    rw [show csV D l f = 0 from if_neg he, hv]
    have HE := Lib.hid hv
    have j1 : (v != 0) = true := by rw [hv] at he; simpa using he
    clear he hv
    go_enter Try.func44, Try.ntmps44
    go_wp2_with fail
    refine (quiet_x (given_is HE.out _ hn hm (HI.out _) (HF.out _))).mono ?_
    rintro e w' ⟨rfl, y, rfl⟩
    go_wp2
    go_ret2
    exact ⟨rfl, bT HB.out y.b⟩
end Go.Proofs.Ytegkgfiaegpihaa
