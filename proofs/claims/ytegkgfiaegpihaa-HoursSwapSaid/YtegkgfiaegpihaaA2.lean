/- Rosters of hours: valid, Check, and what is asked for: both sides. -/
import Derived.Test.YtegkgfiaegpihaaA1

set_option linter.unusedSimpArgs false

set_option linter.unusedVariables false

namespace Go.Proofs.Ytegkgfiaegpihaa

open Go.RowKit

theorem quiet_e {P : Program} {id : Nat} {Q : Exit → Act → World → Prop} {a : Act} {w : World} {x : Ext w} {l : List Oper} (hm : P.follows .mixedOrders = true) (hB : Region.lexB .any l.toArray = true)
    (h : wpQuiet P l.toArray (fun w' => ∃ y : Ext w, w' = y.v) (fun a' => ∀ w', (∃ y : Ext w, w' = y.v) → Q .normal a' w') l a) : (Code.region id l.toArray true).wp P Q a x.v :=
  wp_region_quiet (C := fun w' => ∃ y : Ext w, w' = y.v) hm hB ⟨⟨x.v.drew, bd x.b⟩, rfl⟩ (by simpa using h)
theorem stP_hs {n : Nat} {h f t c : Int} (h1 : h ≠ -1) (h2 : within h 0 ((n : Int) - 1) = false) : stP n h f t c = false := by simp [stP, h1, h2]
theorem stP_fr {n : Nat} {h f t c : Int} (h2 : within f 0 ((n : Int) - 1) = false) : stP n h f t c = false := by simp [stP, h2]
theorem stP_to {n : Nat} {h f t c : Int} (h2 : within t 0 ((n : Int) - 1) = false) : stP n h f t c = false := by simp [stP, h2]
theorem stP_ft {n : Nat} {h f t c : Int} (h2 : t < f) : stP n h f t c = false := by simp [stP]; intros; omega
theorem stP_co {n : Nat} {h f t c : Int} (h1 : h = -1 ∨ within h 0 ((n : Int) - 1) = true) (h2 : within f 0 ((n : Int) - 1) = true) (h3 : within t 0 ((n : Int) - 1) = true) (h4 : f ≤ t) : stP n h f t c = within c 0 9 := by
  rcases h1 with h1 | h1 <;> simp [stP, h1, h2, h3, h4]
theorem isHour_is {D : Ro} {p q : Option Addr} {c d : Nat} {k : Int} {b : Bool} (h : within k 0 ((D.n : Int) - 1) = b) (w : World) :
    Calls Try.prog 80 #[.agg #[.slice p D.n c, .slice q D.m d], .int .i64 k] w fun e w' => e = .returned (.bool b) ∧ Below w.heap.size w w' := by
  subst h; exact isHour_any D p q c d k w
theorem isHourR_is {D : Ro} {p q : Option Addr} {c d : Nat} {k : Int} {b : Bool} (h : within k 0 ((D.n : Int) - 1) = b) (hn : D.n ≤ maxLen) (w : World) :
    Calls Try.prog 27 #[.agg #[.slice p D.n c, .slice q D.m d], .int .i64 k] w fun e w' => e = .returned (.bool b) ∧ Below w.heap.size w w' := by
  subst h; exact isHourR_any D p q c d k w hn
theorem isFrom_is {n lo hi : Int} {b : Bool} (h : within n lo hi = b) (w : World) : Calls Try.prog 100 #[.int .i64 n, .int .i64 lo, .int .i64 hi] w fun e w' => e = .returned (.bool b) ∧ w = w' := by subst h; exact isFrom_any n lo hi w
theorem within_is {n lo hi : Int} {b : Bool} (h : within n lo hi = b) (w : World) : Calls Try.prog 70 #[.int .i64 n, .int .i64 lo, .int .i64 hi] w fun e w' => e = .returned (.bool b) ∧ w = w' := by subst h; exact within_any n lo hi w
set_option maxRecDepth 100000 in
set_option maxHeartbeats 2000000 in
theorem isPossible_any (D : Ro) (p q : Option Addr) (c d : Nat) (h f t co : Int) (w : World) :
    Calls Try.prog 109 #[.agg #[.slice p D.n c, .slice q D.m d], .agg #[.int .i64 h, .int .i64 f, .int .i64 t, .int .i64 co]] w fun e w' => e = .returned (.bool (stP D.n h f t co)) ∧ Below w.heap.size w w' := by
  obtain ⟨w1, x1, hw1, hb1, hz1, F0, F1, _⟩ := box_ro w p q D.n D.m c d
  obtain ⟨w2, x2, hw2, hb2, hz2, G0, G1, G2, G3, _⟩ := box_st x1.v h f t co
  have HB := Lib.hid (bT hb1 (bT x1.b hb2))
  replace F0 : ∀ y : Ext w2, y.v.cell? ⟨w.heap.size, 0, none⟩ = some (.slice p D.n c) := fun y => F0 (y.up (bT x1.b hb2))
  replace F1 : ∀ y : Ext w2, y.v.cell? ⟨w.heap.size, 1, none⟩ = some (.slice q D.m d) := fun y => F1 (y.up (bT x1.b hb2))
  clear hb1 hz1 hb2 hz2
  have key : (h = -1 ∨ (h ≠ -1 ∧ within h 0 ((D.n : Int) - 1) = true)) ∨ (h ≠ -1 ∧ within h 0 ((D.n : Int) - 1) = false) := by
    by_cases h1 : h = -1
    · exact .inl (.inl h1)
    · cases e : within h 0 ((D.n : Int) - 1) with
      | true => exact .inl (.inr ⟨h1, rfl⟩)
      | false => exact .inr ⟨h1, rfl⟩
  rcases key with hh | ⟨h1, h2⟩
  · cases e2 : within f 0 ((D.n : Int) - 1) with
    | false =>
      have HR := Lib.hid (stP_fr (h := h) (t := t) (c := co) e2).symm; have E2 := Lib.hid e2; clear e2
      rcases hh with rfl | ⟨h1, h2⟩
      · have j1 : ((-1 : Int) != -1) = false := by decide
        go_enter Try.func109, Try.ntmps109
        go_wp2_with fail
        refine (quiet_x (isHour_is E2.out _)).mono ?_
        rintro e w' ⟨rfl, y, rfl⟩
        go_wp2
        go_ret
        exact ⟨ret_b HR.out, bT HB.out (Ext.b _)⟩
      · have j1 : (h != -1) = true := by simp; omega
        have E1 := Lib.hid h2; clear h1 h2
        go_enter Try.func109, Try.ntmps109
        go_wp2_with fail
        refine (quiet_x (isHour_is E1.out _)).mono ?_
        rintro e w' ⟨rfl, y1, rfl⟩
        go_wp2_with fail
        refine (quiet_x (isHour_is E2.out _)).mono ?_
        rintro e w' ⟨rfl, y2, rfl⟩
        go_wp2
        go_ret
        exact ⟨ret_b HR.out, bT HB.out (Ext.b _)⟩
    | true =>
    cases e3 : within t 0 ((D.n : Int) - 1) with
    | false =>
      have HR := Lib.hid (stP_to (h := h) (f := f) (c := co) e3).symm; have E2 := Lib.hid e2; clear e2; have E3 := Lib.hid e3; clear e3
      rcases hh with rfl | ⟨h1, h2⟩
      · have j1 : ((-1 : Int) != -1) = false := by decide
        go_enter Try.func109, Try.ntmps109
        go_wp2_with fail
        refine (quiet_x (isHour_is E2.out _)).mono ?_
        rintro e w' ⟨rfl, y, rfl⟩
        go_wp2_with fail
        refine (quiet_x (isHour_is E3.out _)).mono ?_
        rintro e w' ⟨rfl, y3, rfl⟩
        go_wp2
        go_ret
        exact ⟨ret_b HR.out, bT HB.out (Ext.b _)⟩
      · have j1 : (h != -1) = true := by simp; omega
        have E1 := Lib.hid h2; clear h1 h2
        go_enter Try.func109, Try.ntmps109
        go_wp2_with fail
        refine (quiet_x (isHour_is E1.out _)).mono ?_
        rintro e w' ⟨rfl, y1, rfl⟩
        go_wp2_with fail
        refine (quiet_x (isHour_is E2.out _)).mono ?_
        rintro e w' ⟨rfl, y2, rfl⟩
        go_wp2_with fail
        refine (quiet_x (isHour_is E3.out _)).mono ?_
        rintro e w' ⟨rfl, y3, rfl⟩
        go_wp2
        go_ret
        exact ⟨ret_b HR.out, bT HB.out (Ext.b _)⟩
    | true =>
    by_cases h4 : f ≤ t
    · have HR := Lib.hid (stP_co (c := co) (hh.imp id And.right) e2 e3 h4).symm; have E2 := Lib.hid e2; clear e2; have E3 := Lib.hid e3; clear e3
      have j2 : decide (t < f) = false := by simp; omega
      clear h4
      rcases hh with rfl | ⟨h1, h2⟩
      · have j1 : ((-1 : Int) != -1) = false := by decide
        go_enter Try.func109, Try.ntmps109
        go_wp2_with fail
        refine (quiet_x (isHour_is E2.out _)).mono ?_
        rintro e w' ⟨rfl, y, rfl⟩
        go_wp2_with fail
        refine (quiet_x (isHour_is E3.out _)).mono ?_
        rintro e w' ⟨rfl, y3, rfl⟩
        go_wp2_with fail
        refine (isFrom_any _ _ _ _).mono ?_
        rintro e w' ⟨rfl, rfl⟩
        go_wp2
        go_ret
        exact ⟨ret_b HR.out, bT HB.out (Ext.b _)⟩
      · have j1 : (h != -1) = true := by simp; omega
        have E1 := Lib.hid h2; clear h1 h2
        go_enter Try.func109, Try.ntmps109
        go_wp2_with fail
        refine (quiet_x (isHour_is E1.out _)).mono ?_
        rintro e w' ⟨rfl, y1, rfl⟩
        go_wp2_with fail
        refine (quiet_x (isHour_is E2.out _)).mono ?_
        rintro e w' ⟨rfl, y2, rfl⟩
        go_wp2_with fail
        refine (quiet_x (isHour_is E3.out _)).mono ?_
        rintro e w' ⟨rfl, y3, rfl⟩
        go_wp2_with fail
        refine (isFrom_any _ _ _ _).mono ?_
        rintro e w' ⟨rfl, rfl⟩
        go_wp2
        go_ret
        exact ⟨ret_b HR.out, bT HB.out (Ext.b _)⟩
    · have HR := Lib.hid (stP_ft (n := D.n) (h := h) (c := co) (show t < f by omega)).symm; have E2 := Lib.hid e2; clear e2; have E3 := Lib.hid e3; clear e3
      have j2 : decide (t < f) = true := by simp; omega
      clear h4
      rcases hh with rfl | ⟨h1, h2⟩
      · have j1 : ((-1 : Int) != -1) = false := by decide
        go_enter Try.func109, Try.ntmps109
        go_wp2_with fail
        refine (quiet_x (isHour_is E2.out _)).mono ?_
        rintro e w' ⟨rfl, y, rfl⟩
        go_wp2_with fail
        refine (quiet_x (isHour_is E3.out _)).mono ?_
        rintro e w' ⟨rfl, y3, rfl⟩
        go_wp2
        go_ret
        exact ⟨ret_b HR.out, bT HB.out (Ext.b _)⟩
      · have j1 : (h != -1) = true := by simp; omega
        have E1 := Lib.hid h2; clear h1 h2
        go_enter Try.func109, Try.ntmps109
        go_wp2_with fail
        refine (quiet_x (isHour_is E1.out _)).mono ?_
        rintro e w' ⟨rfl, y1, rfl⟩
        go_wp2_with fail
        refine (quiet_x (isHour_is E2.out _)).mono ?_
        rintro e w' ⟨rfl, y2, rfl⟩
        go_wp2_with fail
        refine (quiet_x (isHour_is E3.out _)).mono ?_
        rintro e w' ⟨rfl, y3, rfl⟩
        go_wp2
        go_ret
        exact ⟨ret_b HR.out, bT HB.out (Ext.b _)⟩
  · have HR := Lib.hid (stP_hs (f := f) (t := t) (c := co) h1 h2).symm
    have j1 : (h != -1) = true := by simp; omega
    have E1 := Lib.hid h2; clear h1 h2
    go_enter Try.func109, Try.ntmps109
    go_wp2_with fail
    refine (quiet_x (isHour_is E1.out _)).mono ?_
    rintro e w' ⟨rfl, y1, rfl⟩
    go_wp2
    go_ret
    exact ⟨ret_b HR.out, bT HB.out (Ext.b _)⟩
theorem isPossible_is {D : Ro} {p q : Option Addr} {c d : Nat} {k : Nat} {b : Bool} (hb : stOk D k = b) (w : World) :
    Calls Try.prog 109 #[.agg #[.slice p D.n c, .slice q D.m d], .agg #[.int .i64 (D.hs k), .int .i64 (D.fr k), .int .i64 (D.to k), .int .i64 (D.co k)]] w fun e w' => e = .returned (.bool b) ∧ Below w.heap.size w w' := by
  subst hb; exact isPossible_any D p q c d _ _ _ _ w
set_option maxRecDepth 100000 in
set_option maxHeartbeats 2000000 in
theorem valid_any (D : Ro) (p q : Option Addr) (c d : Nat) (w : World) (hn : D.n ≤ maxLen) (hm : D.m ≤ maxLen) (hi : RoIn w w.heap.size D p q) :
    Calls Try.prog 101 #[.agg #[.slice p D.n c, .slice q D.m d]] w fun e w' => e = .returned (.bool D.ok) ∧ Below w.heap.size w w' := by
  obtain ⟨w1, x, hw1, hb1, hz1, F0, F1, _⟩ := box_ro w p q D.n D.m c d
  have HB := Lib.hid hb1
  have HI : Hid (∀ x : Ext w1, RoIn x.v x.v.heap.size D p q) := fun x => (hi.bel hb1).bel x.b
  clear hb1 hz1 hi
  unfold maxLen at hn hm
  by_cases h8 : 8 < D.n
  · have HR := Lib.hid (Ro.ok_n h8)
    have j1 : decide (8 < (D.n : Int)) = true := by simp; omega
    go_enter Try.func101, Try.ntmps101
    go_wp2
    go_ret
    exact ⟨ret_b HR.out.symm, bT HB.out x.b⟩
  have j1 : decide (8 < (D.n : Int)) = false := by simp; omega
  by_cases h6 : 6 < D.m
  · have HR := Lib.hid (Ro.ok_m h6)
    have j2 : decide (6 < (D.m : Int)) = true := by simp; omega
    go_enter Try.func101, Try.ntmps101
    go_wp2
    go_ret
    exact ⟨ret_b HR.out.symm, bT HB.out x.b⟩
  have j2 : decide (6 < (D.m : Int)) = false := by simp; omega
  have H8 := Lib.hid h8; have H6 := Lib.hid h6
  go_enter Try.func101, Try.ntmps101
  go_wp2
  clear j1 j2
  go_loopw [20] (fun i wr => ∃ k : Nat, i = .int .i64 k ∧ k ≤ D.n ∧ allN (rmOk D) k = true ∧ ∃ x : Ext w1, wr = x.v) (fun i _ => D.n - (intOf i).toNat)
  case atStart => exact ⟨0, rfl, Nat.zero_le _, rfl, x, rfl⟩
  case round =>
    obtain ⟨k, rfl, hk, hp, y, rfl⟩ := hrel
    have HP := Lib.hid hp; clear hp hw1 x
    by_cases hlt : k < D.n
    · obtain ⟨b, o, rfl, hbl, hc⟩ := (HI.out y).rm (by omega)
      have e0 := hc k hlt
      clear hc
      have j : decide ((k : Int) < (D.n : Int)) = true := by simp; omega
      cases ho : rmOk D k with
      | true =>
        have HO := Lib.hid ho
        unfold rmOk at ho
        go_wp2_with (go_at_call 100; refine (isFrom_any _ _ _ _).mono ?_; rintro e w' ⟨rfl, rfl⟩)
        go_roundw
        case rel => exact ⟨k + 1, by go_num, hlt, allN_succ HP.out HO.out, y, rfl⟩
        case measure => first | (simp [intOf]; done) | (simp [intOf]; omega)
      | false =>
        have HR := Lib.hid (Ro.ok_rm (allN_bad hlt ho))
        unfold rmOk at ho
        go_wp2_with (go_at_call 100; refine (isFrom_any _ _ _ _).mono ?_; rintro e w' ⟨rfl, rfl⟩)
        go_ret
        exact ⟨ret_b HR.out.symm, bT HB.out y.b⟩
    · have HA := Lib.hid (show allN (rmOk D) D.n = true by have := HP.out; rwa [show k = D.n by omega] at this)
      have j : decide ((k : Int) < (D.n : Int)) = false := by simp; omega
      clear HP
      go_wp2
      clear j hlt hk
      go_loopw [31] (fun i wr => ∃ k : Nat, i = .int .i64 k ∧ k ≤ D.m ∧ allN (stOk D) k = true ∧ ∃ x : Ext w1, wr = x.v) (fun i _ => D.m - (intOf i).toNat)
      case atStart => exact ⟨0, rfl, Nat.zero_le _, rfl, y, rfl⟩
      case round =>
        obtain ⟨k2, rfl, hk2, hp, y2, rfl⟩ := hrel
        have HP := Lib.hid hp; clear hp
        by_cases hlt : k2 < D.m
        · obtain ⟨b, o, rfl, hbl, hc⟩ := (HI.out y2).st (by omega)
          have e0 := hc.c0 k2 hlt
          have e1 := hc.c1 k2 hlt
          have e2 := hc.c2 k2 hlt
          have e3 := hc.c3 k2 hlt
          clear hc
          have j : decide ((k2 : Int) < (D.m : Int)) = true := by simp; omega
          obtain ⟨w2, z, hw2, hb2, hz2, G0, G1, G2, G3, _⟩ := box_st y2.v (D.hs k2) (D.fr k2) (D.to k2) (D.co k2)
          have HB2 := Lib.hid (bT y2.b hb2)
          have F0' : ∀ y : Ext w2, y.v.cell? ⟨w.heap.size, 0, none⟩ = some (.slice p D.n c) := fun y => F0 (y.up (bT y2.b hb2))
          have F1' : ∀ y : Ext w2, y.v.cell? ⟨w.heap.size, 1, none⟩ = some (.slice (some ⟨b, o, none⟩) D.m d) := fun y => F1 (y.up (bT y2.b hb2))
          clear hb2 hz2
          cases ho : stOk D k2 with
          | true =>
            have HO := Lib.hid ho
            go_wp2_with fail
            refine (quiet_x (isPossible_is HO.out _)).mono ?_
            rintro e w' ⟨rfl, u, rfl⟩
            go_wp2
            go_roundw
            case rel => exact ⟨k2 + 1, by go_num, hlt, allN_succ HP.out HO.out, u.up HB2.out, rfl⟩
            case measure => first | (simp [intOf]; done) | (simp [intOf]; omega)
          | false =>
            have HR := Lib.hid (Ro.ok_st (allN_bad hlt ho))
            have HO := Lib.hid ho
            go_wp2_with fail
            refine (quiet_x (isPossible_is HO.out _)).mono ?_
            rintro e w' ⟨rfl, u, rfl⟩
            go_wp2
            go_ret
            exact ⟨ret_b HR.out.symm, bT HB.out (bT HB2.out u.b)⟩
        · have HR := Lib.hid (Ro.ok_mk (show D.n ≤ 8 by have := H8.out; omega) (show D.m ≤ 6 by have := H6.out; omega) HA.out (show allN (stOk D) D.m = true by have := HP.out; rwa [show k2 = D.m by omega] at this))
          have j : decide ((k2 : Int) < (D.m : Int)) = false := by simp; omega
          go_wp2
          go_ret
          exact ⟨ret_b HR.out.symm, bT HB.out y2.b⟩
def chkE (ok is : Bool) : Int := if ok then (if is then 0 else 1) else 80
theorem check_any (D : Ro) (p q : Option Addr) (c d : Nat) (is : Bool) (w : World) (hn : D.n ≤ maxLen) (hm : D.m ≤ maxLen) (hi : RoIn w w.heap.size D p q) :
    Calls Try.prog 77 #[.agg #[.slice p D.n c, .slice q D.m d], .bool is] w fun e w' => e = .returned (.int .i64 (chkE D.ok is)) ∧ Below w.heap.size w w' := by
  obtain ⟨w1, x, hw1, hb1, hz1, F0, F1, _⟩ := box_ro w p q D.n D.m c d
  have HB := Lib.hid hb1
  have HI : Hid (∀ x : Ext w1, RoIn x.v x.v.heap.size D p q) := fun x => (hi.bel hb1).bel x.b
  clear hb1 hz1 hi
  cases ho : D.ok <;> cases is
  all_goals
    go_enter Try.func77, Try.ntmps77
    go_wp2_with (go_at_call 101; go_loud (refine (quiet_x (valid_any D p q c d _ hn hm (HI.out _))).mono ?_); rintro e w' ⟨rfl, y, rfl⟩)
    go_ret
    exact ⟨rfl, bT HB.out (Ext.b _)⟩
theorem checkP_any (D : Ro) (p q : Option Addr) (c d : Nat) (w : World) (hn : D.n ≤ maxLen) (hm : D.m ≤ maxLen) (hi : RoIn w w.heap.size D p q) :
    Calls Try.prog 40 #[.agg #[.slice p D.n c, .slice q D.m d]] w fun e w' => e = .returned (.int .i64 (chkE D.ok true)) ∧ Below w.heap.size w w' := by
  obtain ⟨w1, x, hw1, hb1, hz1, F0, F1, _⟩ := box_ro w p q D.n D.m c d
  have HB := Lib.hid hb1
  have HI : Hid (∀ x : Ext w1, RoIn x.v x.v.heap.size D p q) := fun x => (hi.bel hb1).bel x.b
  clear hb1 hz1 hi
  go_enter Try.func40, Try.ntmps40
  go_wp2_with fail
  refine (quiet_x (check_any D p q c d true _ hn hm (HI.out _))).mono ?_
  rintro e w' ⟨rfl, y, rfl⟩
  go_wp2
  go_ret
  exact ⟨rfl, bT HB.out y.b⟩
theorem mvP_w {hs h : Int} (h1 : -100 ≤ hs ∧ hs ≤ 100) (h2 : -100 ≤ h ∧ h ≤ 100) (h3 : hs ≠ -1) : mvP hs h = max (hs - h) (h - hs) := by simp [mvP, h3]
theorem if_max (a b : Int) : (if a < b then b else a) = max a b := by rw [Int.max_def]; split <;> split <;> omega
theorem if_max' (a b : Int) : (if b < a then a else b) = max a b := by rw [Int.max_def]; split <;> split <;> omega
set_option maxRecDepth 100000 in
set_option maxHeartbeats 2000000 in
theorem moveOf_any (hs f t co h : Int) (w : World) (h1 : -100 ≤ hs ∧ hs ≤ 100) (h2 : -100 ≤ h ∧ h ≤ 100) :
    Calls Try.prog 84 #[.agg #[.int .i64 hs, .int .i64 f, .int .i64 t, .int .i64 co], .int .i64 h] w fun e w' => e = .returned (.int .i64 (mvP hs h)) ∧ Below w.heap.size w w' := by
  obtain ⟨w1, x, hw1, hb1, hz1, F0, F1, F2, F3, _⟩ := box_st w hs f t co
  have HB := Lib.hid hb1
  clear hb1 hz1
  by_cases h3 : hs = -1
  · have HR := Lib.hid (show (0 : Int) = mvP hs h by simp [mvP, h3])
    have j : (hs == -1) = true := by simp [h3]
    clear h3
    go_enter Try.func84, Try.ntmps84
    go_wp2
    go_ret
    exact ⟨ret_i HR.out, bT HB.out x.b⟩
  · have j : (hs == -1) = false := by simp; omega
    have e1 : IntKind.i64.wrap (h - hs) = h - hs := IntWalk.i64_in _ (by omega)
    have e2 : IntKind.i64.wrap (hs - h) = hs - h := IntWalk.i64_in _ (by omega)
    have e3 : (if hs - h < h - hs then h - hs else hs - h) = mvP hs h := by rw [mvP_w h1 h2 h3, if_max]
    have e4 : (if h - hs < hs - h then hs - h else h - hs) = mvP hs h := by rw [mvP_w h1 h2 h3, if_max']
    clear h3
    go_enter Try.func84, Try.ntmps84
    go_wp2
    go_ret
    exact ⟨rfl, bT HB.out x.b⟩
set_option maxRecDepth 100000 in
set_option maxHeartbeats 2000000 in
theorem moveOfR_any (hs f t co h : Int) (w : World) (h1 : -100 ≤ hs ∧ hs ≤ 100) (h2 : -100 ≤ h ∧ h ≤ 100) :
    Calls Try.prog 33 #[.agg #[.int .i64 hs, .int .i64 f, .int .i64 t, .int .i64 co], .int .i64 h] w fun e w' => e = .returned (.int .i64 (mvP hs h)) ∧ Below w.heap.size w w' := by
  obtain ⟨w1, x, hw1, hb1, hz1, F0, F1, F2, F3, _⟩ := box_st w hs f t co
  have HB := Lib.hid hb1
  clear hb1 hz1
  by_cases h3 : hs = -1
  · have HR := Lib.hid (show (0 : Int) = mvP hs h by simp [mvP, h3])
    have j : (hs == -1) = true := by simp [h3]
    clear h3
    go_enter Try.func33, Try.ntmps33
    go_wp2
    go_ret
    exact ⟨ret_i HR.out, bT HB.out x.b⟩
  · have j : (hs == -1) = false := by simp; omega
    have e1 : IntKind.i64.wrap (h - hs) = h - hs := IntWalk.i64_in _ (by omega)
    have e2 : IntKind.i64.wrap (hs - h) = hs - h := IntWalk.i64_in _ (by omega)
    have e3 : (if hs - h < h - hs then h - hs else hs - h) = mvP hs h := by rw [mvP_w h1 h2 h3, if_max]
    have e4 : (if h - hs < hs - h then hs - h else h - hs) = mvP hs h := by rw [mvP_w h1 h2 h3, if_max']
    clear h3
    go_enter Try.func33, Try.ntmps33
    go_wp2
    go_ret
    exact ⟨rfl, bT HB.out x.b⟩
end Go.Proofs.Ytegkgfiaegpihaa
