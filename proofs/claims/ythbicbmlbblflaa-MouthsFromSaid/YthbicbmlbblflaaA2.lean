/- Boxes of mouths: valid, Check, ready; both sides. -/
import Derived.Test.YthbicbmlbblflaaA1

set_option linter.unusedSimpArgs false

set_option linter.unusedVariables false

namespace Go.Proofs.Ythbicbmlbblflaa

open Go.RowKit

theorem one_num {w w' : World} {n : Int} {t : TypeId} (h : w.alloc (Obj.cells #[.int .i64 n] t) = w') : NumIn w' w'.heap.size 1 (fun _ => n) (some ⟨w.heap.size, 0, none⟩) := by
  subst h
  refine fun _ => ⟨_, _, rfl, by simp, fun k hk => ?_⟩
  obtain rfl : k = 0 := by omega
  go_simp
theorem allW_one (n lo hi : Int) : allW (fun _ => n) lo hi 1 = within n lo hi := by simp [allW, allN]
theorem areFlows_any (l c : Nat) (f : Nat → Int) (q : Option Addr) (w : World) (hl : l ≤ 1000) (hi : NumIn w w.heap.size l f q) :
    Calls Try.prog 62 #[.slice q l c] w fun e w' => e = .returned (.bool (allW f 0 40 l)) ∧ w = w' := by
  go_enter Try.func62, Try.ntmps62
  go_wp2_with (go_at_call 83; refine (areFrom_any _ _ _ _ _ _ _ hl hi).mono ?_; rintro e w' ⟨rfl, rfl⟩)
  go_ret
  exact ⟨rfl, rfl⟩
theorem isMany_any (n : Int) (w : World) :
    Calls Try.prog 74 #[.int .i64 n] w fun e w' => e = .returned (.bool (within n 1 20)) ∧ Below w.heap.size w w' := by
  obtain ⟨w1, hw1⟩ : ∃ w1, w.alloc (Obj.cells #[.int .i64 n] 3) = w1 := ⟨_, rfl⟩
  have hb1 : Below w.heap.size w w1 := by rw [← hw1]; exact bA (Below.refl _ _) _
  have HN := Lib.hid (one_num hw1)
  have HB := Lib.hid hb1; clear hb1
  have HV := Lib.hid (allW_one n 1 20)
  go_enter Try.func74, Try.ntmps74
  go_wp2_with (go_at_call 83; refine (areFrom_any _ _ 1 1 (fun _ => n) _ _ (by omega) HN.out).mono ?_; rintro e w' ⟨rfl, rfl⟩)
  go_ret
  exact ⟨ret_b HV.out, HB.out⟩
theorem isGauge_any (n : Int) (w : World) :
    Calls Try.prog 68 #[.int .i64 n] w fun e w' => e = .returned (.bool (within n 0 39)) ∧ Below w.heap.size w w' := by
  obtain ⟨w1, hw1⟩ : ∃ w1, w.alloc (Obj.cells #[.int .i64 n] 3) = w1 := ⟨_, rfl⟩
  have hb1 : Below w.heap.size w w1 := by rw [← hw1]; exact bA (Below.refl _ _) _
  have HN := Lib.hid (one_num hw1)
  have HB := Lib.hid hb1; clear hb1
  have HV := Lib.hid (allW_one n 0 39)
  go_enter Try.func68, Try.ntmps68
  go_wp2_with (go_at_call 83; refine (areFrom_any _ _ 1 1 (fun _ => n) _ _ (by omega) HN.out).mono ?_; rintro e w' ⟨rfl, rfl⟩)
  go_ret
  exact ⟨ret_b HV.out, HB.out⟩
set_option maxRecDepth 100000 in
set_option maxHeartbeats 2000000 in
theorem valid_any (D : Bx) (p q : Option Addr) (c d : Nat) (w : World) (hn : D.n ≤ 40) (hm : D.m ≤ 40) (hi : BxIn w w.heap.size D p q) :
    Calls Try.prog 82 #[.agg #[.slice p D.n c, .slice q D.m d]] w fun e w' => e = .returned (.bool D.ok) ∧ Below w.heap.size w w' := by
  obtain ⟨w1, x, hw1, hb1, hz1, F0, F1⟩ := box_bx w p q D.n D.m c d
  have HB := Lib.hid hb1
  have HI : Hid (∀ x : Ext w1, BxIn x.v x.v.heap.size D p q) := fun x => (hi.bel hb1).bel x.b
  clear hb1 hz1 hi
  by_cases h5 : 5 < D.n
  · have HR := Lib.hid (Bx.ok_n h5)
    have j1 : decide (5 < (D.n : Int)) = true := by simp; omega
    go_enter Try.func82, Try.ntmps82
    go_wp2
    go_ret
    exact ⟨ret_b HR.out.symm, bT HB.out x.b⟩
  have j1 : decide (5 < (D.n : Int)) = false := by simp; omega
  by_cases h6 : D.m = D.n
  case neg =>
    have HR := Lib.hid (Bx.ok_m h6)
    have j2 : ((D.n : Int) != (D.m : Int)) = true := by simp; omega
    go_enter Try.func82, Try.ntmps82
    go_wp2
    go_ret
    exact ⟨ret_b HR.out.symm, bT HB.out x.b⟩
  have j2 : ((D.n : Int) != (D.m : Int)) = false := by simp; omega
  have HE := Lib.hid (Bx.ok_eq (by omega) h6)
  clear h6
  cases h1 : allW D.sh 0 20 D.n with
  | false =>
    have HR := Lib.hid (show D.ok = false by rw [HE.out, h1]; rfl)
    go_enter Try.func82, Try.ntmps82
    go_wp2_with (go_at_call 83; refine (areFrom_any _ _ _ _ _ _ _ (by omega) (by first | exact (HI.out _).s | exact (HI.out _).o)).mono ?_; rintro e w' ⟨rfl, rfl⟩)
    go_ret
    exact ⟨ret_b HR.out.symm, bT HB.out x.b⟩
  | true =>
    have HR := Lib.hid (show D.ok = allW D.mo 0 20 D.m by rw [HE.out, h1]; rfl)
    go_enter Try.func82, Try.ntmps82
    go_wp2_with (go_at_call 83; refine (areFrom_any _ _ _ _ _ _ _ (by omega) (by first | exact (HI.out _).s | exact (HI.out _).o)).mono ?_; rintro e w' ⟨rfl, rfl⟩)
    go_ret
    exact ⟨ret_b HR.out.symm, bT HB.out x.b⟩
def chkE (ok is : Bool) : Int := if ok then (if is then 0 else 1) else 70
theorem check_any (D : Bx) (p q : Option Addr) (c d : Nat) (is : Bool) (w : World) (hn : D.n ≤ 40) (hm : D.m ≤ 40) (hi : BxIn w w.heap.size D p q) :
    Calls Try.prog 60 #[.agg #[.slice p D.n c, .slice q D.m d], .bool is] w fun e w' => e = .returned (.int .i64 (chkE D.ok is)) ∧ Below w.heap.size w w' := by
  obtain ⟨w1, x, hw1, hb1, hz1, F0, F1⟩ := box_bx w p q D.n D.m c d
  have HB := Lib.hid hb1
  have HI : Hid (∀ x : Ext w1, BxIn x.v x.v.heap.size D p q) := fun x => (hi.bel hb1).bel x.b
  clear hb1 hz1 hi
  cases ho : D.ok <;> cases is
  all_goals
    go_enter Try.func60, Try.ntmps60
    go_wp2_with (go_at_call 82; refine (quiet_x (valid_any D p q c d _ hn hm (HI.out _))).mono ?_; rintro e w' ⟨rfl, y, rfl⟩)
    go_ret
    exact ⟨rfl, bT HB.out (Ext.b _)⟩
theorem checkP_any (D : Bx) (p q : Option Addr) (c d : Nat) (w : World) (hn : D.n ≤ 40) (hm : D.m ≤ 40) (hi : BxIn w w.heap.size D p q) :
    Calls Try.prog 18 #[.agg #[.slice p D.n c, .slice q D.m d]] w fun e w' => e = .returned (.int .i64 (chkE D.ok true)) ∧ Below w.heap.size w w' := by
  obtain ⟨w1, x, hw1, hb1, hz1, F0, F1⟩ := box_bx w p q D.n D.m c d
  have HB := Lib.hid hb1
  have HI : Hid (∀ x : Ext w1, BxIn x.v x.v.heap.size D p q) := fun x => (hi.bel hb1).bel x.b
  clear hb1 hz1 hi
  go_enter Try.func18, Try.ntmps18
  go_wp2_with (go_at_call 60; refine (quiet_x (check_any D p q c d true _ hn hm (HI.out _))).mono ?_; rintro e w' ⟨rfl, y, rfl⟩)
  go_ret
  exact ⟨rfl, bT HB.out y.b⟩
def bothB (D : Bx) (k : Nat) : Bool := within (D.sh k) 0 20 && within (D.mo k) 0 20
theorem ok_both {D : Bx} (h : D.n ≤ 5) (h2 : D.m = D.n) : D.ok = allN (bothB D) D.n := by
  rw [Bx.ok_eq h h2, Bool.eq_iff_iff, Bool.and_eq_true, allW_iff, allW_iff, allN_iff, h2]
  simp only [bothB, Bool.and_eq_true, within_iff]
  exact ⟨fun h i hi => ⟨h.1 i hi, h.2 i hi⟩, fun h => ⟨fun i hi => (h i hi).1, fun i hi => (h i hi).2⟩⟩
set_option maxRecDepth 100000 in
set_option maxHeartbeats 2000000 in
theorem checkR_any (D : Bx) (p q : Option Addr) (c d : Nat) (w : World) (hn : D.n ≤ 40) (hm : D.m ≤ 40) (hi : BxIn w w.heap.size D p q) :
    Calls Try.prog 19 #[.agg #[.slice p D.n c, .slice q D.m d]] w fun e w' => e = .returned (.int .i64 (chkE D.ok true)) ∧ Below w.heap.size w w' := by
  obtain ⟨w1, x, hw1, hb1, hz1, F0, F1⟩ := box_bx w p q D.n D.m c d
  have HB := Lib.hid hb1
  have HI : Hid (∀ x : Ext w1, BxIn x.v x.v.heap.size D p q) := fun x => (hi.bel hb1).bel x.b
  clear hb1 hz1 hi
  by_cases h5 : 5 < D.n
  · have HR := Lib.hid (show chkE D.ok true = 70 by rw [Bx.ok_n h5]; rfl)
    have j1 : decide (5 < (D.n : Int)) = true := by simp; omega
    go_enter Try.func19, Try.ntmps19
    go_wp2
    go_ret
    exact ⟨ret_i HR.out.symm, bT HB.out x.b⟩
  have j1 : decide (5 < (D.n : Int)) = false := by simp; omega
  by_cases h6 : D.m = D.n
  case neg =>
    have HR := Lib.hid (show chkE D.ok true = 70 by rw [Bx.ok_m h6]; rfl)
    have j2 : ((D.m : Int) != (D.n : Int)) = true := by simp; omega
    go_enter Try.func19, Try.ntmps19
    go_wp2
    go_ret
    exact ⟨ret_i HR.out.symm, bT HB.out x.b⟩
  have j2 : ((D.m : Int) != (D.n : Int)) = false := by simp; omega
  have HE := Lib.hid (ok_both (by omega) h6)
  have H6 := Lib.hid h6
  clear h6
  go_enter Try.func19, Try.ntmps19
  go_wp2
  clear j1 j2
  go_loopw [3] (fun i wr => ∃ k : Nat, i = .int .i64 k ∧ k ≤ D.n ∧ allN (bothB D) k = true ∧ ∃ x : Ext w1, wr = x.v) (fun i _ => D.n - (intOf i).toNat)
  case atStart => exact ⟨0, rfl, Nat.zero_le _, rfl, x, rfl⟩
  case round =>
    obtain ⟨k, rfl, hk, hp, y, rfl⟩ := hrel
    have HP := Lib.hid hp; clear hp hw1 x
    by_cases hlt : k < D.n
    · obtain ⟨b, o, rfl, hbl, hc⟩ := (HI.out y).s (by omega)
      obtain ⟨b2, o2, rfl, hbl2, hc2⟩ := (HI.out y).o (by have := H6.out; omega)
      have e0 := hc k hlt
      have e1 := hc2 k (by have := H6.out; omega)
      clear hc hc2
      have j : decide ((k : Int) < (D.n : Int)) = true := by simp; omega
      have hkm : (k : Int) < (D.n : Int) := by omega
      have hkm2 : (k : Int) < (D.m : Int) := by have := H6.out; omega
      cases p1 : within (D.sh k) 0 20 with
      | false =>
        have HR := Lib.hid (show chkE D.ok true = 70 by rw [HE.out, allN_bad hlt (show bothB D k = false by simp [bothB, p1])]; rfl)
        go_wp2_with (go_at_call 61; refine (within_any _ _ _ _).mono ?_; rintro e w' ⟨rfl, rfl⟩)
        go_ret
        exact ⟨ret_i HR.out.symm, bT HB.out y.b⟩
      | true =>
      cases p2 : within (D.mo k) 0 20 with
      | false =>
        have HR := Lib.hid (show chkE D.ok true = 70 by rw [HE.out, allN_bad hlt (show bothB D k = false by simp [bothB, p2])]; rfl)
        go_wp2_with (go_at_call 61; refine (within_any _ _ _ _).mono ?_; rintro e w' ⟨rfl, rfl⟩)
        go_ret
        exact ⟨ret_i HR.out.symm, bT HB.out y.b⟩
      | true =>
        have HO := Lib.hid (show bothB D k = true by simp [bothB, p1, p2])
        go_wp2_with (go_at_call 61; refine (within_any _ _ _ _).mono ?_; rintro e w' ⟨rfl, rfl⟩)
        go_roundw
        case rel => exact ⟨k + 1, by go_num, hlt, allN_succ HP.out HO.out, y, rfl⟩
        case measure => first | (simp [intOf]; done) | (simp [intOf]; omega)
    · have HR := Lib.hid (show chkE D.ok true = 0 by rw [HE.out, show allN (bothB D) D.n = true by have := HP.out; rwa [show k = D.n by omega] at this]; rfl)
      have j : decide ((k : Int) < (D.n : Int)) = false := by simp; omega
      clear HP
      go_wp2
      go_ret
      exact ⟨ret_i HR.out.symm, bT HB.out y.b⟩
theorem far_any (D : Bx) (p q : Option Addr) (c d : Nat) (w : World) (hn : D.n ≤ maxLen) (hm : D.m ≤ maxLen) :
    Calls Try.prog 15 #[.agg #[.slice p D.n c, .slice q D.m d]] w fun e w' => e = .returned (.bool (decide (40 < D.n) || decide (40 < D.m))) ∧ Below w.heap.size w w' := by
  obtain ⟨w1, x, hw1, hb1, hz1, F0, F1⟩ := box_bx w p q D.n D.m c d
  have HB := Lib.hid hb1
  clear hb1 hz1
  by_cases h1 : 40 < D.n
  · have j1 : decide (40 < (D.n : Int)) = true := by simp; omega
    have HR := Lib.hid (show true = (decide (40 < D.n) || decide (40 < D.m)) by simp [h1])
    go_enter Try.func15, Try.ntmps15
    go_wp2
    go_ret
    exact ⟨ret_b HR.out, bT HB.out x.b⟩
  · have j1 : decide (40 < (D.n : Int)) = false := by simp; omega
    have HR := Lib.hid (show decide (40 < (D.m : Int)) = (decide (40 < D.n) || decide (40 < D.m)) by simp [h1]; omega)
    go_enter Try.func15, Try.ntmps15
    go_wp2
    go_ret
    exact ⟨ret_b HR.out, bT HB.out x.b⟩
def rdy (D : Bx) (fl : Int) : Bool := !(decide (40 < D.n) || decide (40 < D.m)) && (D.ok && within fl 0 40)
set_option maxRecDepth 100000 in
set_option maxHeartbeats 2000000 in
theorem ready_any (D : Bx) (p q : Option Addr) (c d : Nat) (fl : Int) (w : World) (hn : D.n ≤ maxLen) (hm : D.m ≤ maxLen) (hi : BxIn w w.heap.size D p q) :
    Calls Try.prog 46 #[.agg #[.slice p D.n c, .slice q D.m d], .int .i64 fl] w fun e w' => e = .returned (.bool (rdy D fl)) ∧ Below w.heap.size w w' := by
  obtain ⟨w1, x, hw1, hb1, hz1, F0, F1⟩ := box_bx w p q D.n D.m c d
  have HB := Lib.hid hb1
  have HI : Hid (∀ x : Ext w1, BxIn x.v x.v.heap.size D p q) := fun x => (hi.bel hb1).bel x.b
  clear hb1 hz1 hi
  cases hf : (decide (40 < D.n) || decide (40 < D.m)) with
  | true =>
    have HR := Lib.hid (show rdy D fl = false by simp only [rdy, hf]; rfl)
    go_enter Try.func46, Try.ntmps46
    go_wp2_with (first | (go_at_call 15; refine (quiet_x (far_any D p q c d _ hn hm)).mono ?_; rintro e w' ⟨rfl, y, rfl⟩) | (go_at_call 58; refine (isFlowR_any _ _).mono ?_; rintro e w' ⟨rfl, rfl⟩))
    go_ret
    exact ⟨ret_b HR.out.symm, bT HB.out (Ext.b _)⟩
  | false =>
    have hn4 : D.n ≤ 40 := by simp at hf; omega
    have hm4 : D.m ≤ 40 := by simp at hf; omega
    cases ho : D.ok with
    | true =>
      have HR := Lib.hid (show rdy D fl = within fl 0 40 by simp only [rdy, hf, ho]; rfl)
      have hc : chkE true true = 0 := rfl
      go_enter Try.func46, Try.ntmps46
      go_wp2_with (first | (go_at_call 15; refine (quiet_x (far_any D p q c d _ hn hm)).mono ?_; rintro e w' ⟨rfl, y, rfl⟩) | (go_at_call 19; refine (quiet_x (checkR_any D p q c d _ hn4 hm4 (HI.out _))).mono ?_; rintro e w' ⟨rfl, y, rfl⟩) | (go_at_call 58; refine (isFlowR_any _ _).mono ?_; rintro e w' ⟨rfl, rfl⟩))
      go_ret
      exact ⟨ret_b HR.out.symm, bT HB.out (Ext.b _)⟩
    | false =>
      have HR := Lib.hid (show rdy D fl = false by simp only [rdy, hf, ho]; rfl)
      have hc : chkE false true = 70 := rfl
      go_enter Try.func46, Try.ntmps46
      go_wp2_with (first | (go_at_call 15; refine (quiet_x (far_any D p q c d _ hn hm)).mono ?_; rintro e w' ⟨rfl, y, rfl⟩) | (go_at_call 19; refine (quiet_x (checkR_any D p q c d _ hn4 hm4 (HI.out _))).mono ?_; rintro e w' ⟨rfl, y, rfl⟩) | (go_at_call 58; refine (isFlowR_any _ _).mono ?_; rintro e w' ⟨rfl, rfl⟩))
      go_ret
      exact ⟨ret_b HR.out.symm, bT HB.out (Ext.b _)⟩
def ltF (a b c d : Int) : Bool := decide (a * d < c * b)
theorem less_any (a b c d : Int) (w : World) (h1 : 0 ≤ a * d ∧ a * d ≤ 100000) (h2 : 0 ≤ c * b ∧ c * b ≤ 100000) :
    Calls Try.prog 51 #[.int .i64 a, .int .i64 b, .int .i64 c, .int .i64 d] w fun e w' => e = .returned (.bool (ltF a b c d)) ∧ w = w' := by
  obtain ⟨h1, h1'⟩ := h1
  obtain ⟨h2, h2'⟩ := h2
  have e1 : IntKind.i64.wrap (a * d) = a * d := IntWalk.i64_in _ (by omega)
  have e2 : IntKind.i64.wrap (c * b) = c * b := IntWalk.i64_in _ (by omega)
  go_enter Try.func51, Try.ntmps51
  go_wp2
  go_ret
  exact ⟨rfl, rfl⟩
def knownE (e : Int) : Bool := decide (e = 0) || decide (e = 3)
theorem isKnown_any (u : Int) (w : World) :
    Calls Try.prog 48 #[.int .i64 u] w fun e w' => e = .returned (.bool (knownE u)) ∧ w = w' := by
  by_cases h : u = 0
  · subst h
    go_enter Try.func48, Try.ntmps48
    go_wp2
    go_ret
    exact ⟨rfl, rfl⟩
  · have j : (u == 0) = false := by simpa using h
    have HR := Lib.hid (show (u == 3) = knownE u by rw [Bool.eq_iff_iff]; simp [knownE, h])
    go_enter Try.func48, Try.ntmps48
    go_wp2
    go_ret
    exact ⟨ret_b HR.out, rfl⟩
end Go.Proofs.Ythbicbmlbblflaa
