/- Books of dowsers: whether a saying can be, what is known of it, its points: both sides. -/
import Derived.Test.YtaaocomgmacjnaaA2

import Derived.Deep.RegionHeld3

import Derived.IntWalk

set_option linter.unusedSimpArgs false

set_option linter.unusedVariables false

namespace Go.Proofs.Ytaaocomgmacjnaa

open Go.RowKit

theorem bdL {w w' : World} (h : Below w.drew.heap.size w.drew w') : Below w.heap.size w w' := ⟨h.os, h.tape, h.output, h.size, h.block⟩
theorem isDowser_ex (D N P n : Int) (f s : Value) (w : World) (h0 : -100 ≤ N) (h1 : N ≤ 100) :
    Calls Try.prog 49 #[.agg #[.int .i64 D, f, .int .i64 N, s, .int .i64 P], .int .i64 n] w fun e w' => e = .returned (.bool (within n 0 (N - 1))) ∧ w.alloc (.cells #[.int .i64 D, f, .int .i64 N, s, .int .i64 P] 25) = w' := by
  go_enter Try.func49, Try.ntmps49
  go_wp2_with (go_at_call 68; refine (isFrom_any _ _ _ _).mono ?_; rintro e w' ⟨rfl, rfl⟩)
  go_ret
  exact ⟨rfl, rfl⟩
theorem sayOk_f1 {D N : Int} {n : Nat} {x : Say} (h : within x.d 0 (N - 1) = false) : sayOk D N n x = false := by simp [sayOk, h]
theorem canBeSaid_any (B : Book) (p q : Option Addr) (c d : Nat) (x : Say) (w : World) (hf : B.F.length ≤ 1000000) (h0 : -100 ≤ B.N) (h1 : B.N ≤ 100) :
    Calls Try.prog 69 #[.agg #[.int .i64 B.D, .slice p B.F.length c, .int .i64 B.N, .slice q B.S.length d, .int .i64 B.P], .agg #[.int .i64 x.d, .int .i64 x.p, .int .i64 x.l, .int .i64 x.h]] w fun e w' => e = .returned (.bool (sayOk B.D B.N B.F.length x)) ∧ Below w.heap.size w w' := by
  go_enter Try.func69, Try.ntmps69
  go_wp2_with (first | (go_at_call 68; refine (isFrom_any _ _ _ _).mono ?_; rintro e w' ⟨rfl, rfl⟩) | (go_at_call 49; refine (isDowser_ex _ _ _ _ _ _ _ (by omega) (by omega)).mono ?_; rintro e w' ⟨rfl, rfl⟩))
  all_goals
    go_ret
    exact ⟨ret_b (by simp_all [sayOk]), by repeat (first | exact Below.refl _ _ | refine bA ?_ _)⟩

def hit (B : Book) (x : Say) : Int := if B.at x.p = 0 then 3 else if within (B.at x.p) x.l x.h then 1 else 2
theorem isAsSaid_ex (x : Say) (n : Int) (w : World) :
    Calls Try.prog 71 #[.agg #[.int .i64 x.d, .int .i64 x.p, .int .i64 x.l, .int .i64 x.h], .int .i64 n] w fun e w' => e = .returned (.bool (within n x.l x.h)) ∧ w.alloc (.cells #[.int .i64 x.d, .int .i64 x.p, .int .i64 x.l, .int .i64 x.h] 33) = w' := by
  go_enter Try.func71, Try.ntmps71
  go_wp2_with (go_at_call 68; refine (isFrom_any _ _ _ _).mono ?_; rintro e w' ⟨rfl, rfl⟩)
  go_ret
  exact ⟨rfl, rfl⟩
set_option maxHeartbeats 1000000 in
theorem hitOf_any (B : Book) (p q : Option Addr) (c d : Nat) (x : Say) (w : World) (hb : BookIn w w.heap.size B p q) (hf : B.F.length ≤ 1000000) (h0 : 0 ≤ x.p) (h1 : x.p < B.F.length) :
    Calls Try.prog 46 #[.agg #[.int .i64 B.D, .slice p B.F.length c, .int .i64 B.N, .slice q B.S.length d, .int .i64 B.P], .agg #[.int .i64 x.d, .int .i64 x.p, .int .i64 x.l, .int .i64 x.h]] w fun e w' => e = .returned (.int .i64 (hit B x)) ∧ Below w.heap.size w w' := by
  obtain ⟨w1, hw1, hb1, hz1, x1⟩ := box_book w B p q c d
  obtain ⟨w2, hw2, hb2, hz2, e0, e1, e2, e3⟩ := box_say w1 x.d x.p x.l x.h
  have hB2 := bT hb1 hb2
  have hbk := hb.bel hB2
  obtain ⟨k0, k1, k2, k3, k4, k5⟩ := x1.below hb2
  have l1 : w1.heap.size < w2.heap.size := by omega
  have HO : Hid (Calls Try.prog 47 #[.agg #[.int .i64 B.D, .slice p B.F.length c, .int .i64 B.N, .slice q B.S.length d, .int .i64 B.P], .agg #[.int .i64 x.d, .int .i64 x.p, .int .i64 x.l, .int .i64 x.h]] w2 fun e w' => e = .returned (.bool (B.at x.p == 0)) ∧ Below w2.heap.size w2 w') := isOpen_any B p q c d x w2 hbk hf h0 h1
  obtain ⟨b, o, rfl, hi⟩ := hbk.f (by omega)
  have hc := at_cell hi h0 h1
  have hlt := hi.lt
  have HB := Lib.hid hB2
  clear hi hb hbk x1 hb1 hb2 hB2 hz1 hz2
  by_cases ho : B.at x.p = 0
  · have d1 : (B.at x.p == 0) = true := by simp [ho]
    have hr : (3 : Int) = hit B x := by unfold hit; rw [if_pos ho]
    have HR := Lib.hid hr
    clear hr ho
    go_enter Try.func46, Try.ntmps46
    go_wp2_with (go_at_call 47; refine HO.out.mono ?_; rintro e w3 ⟨rfl, hb3⟩)
    go_ret
    exact ⟨ret_i HR.out, bT HB.out hb3⟩
  · have d1 : (B.at x.p == 0) = false := by simp [ho]
    have HO2 := Lib.hid ho; clear ho
    go_enter Try.func46, Try.ntmps46
    go_wp2_with (go_at_call 47; refine HO.out.mono ?_; rintro e w3 ⟨rfl, hb3⟩
                 have c1 := (hb3.cell (p := ⟨w.heap.size, 1, none⟩) k5).trans k1
                 have f0 := (hb3.cell (p := ⟨w1.heap.size, 0, none⟩) l1).trans e0
                 have f1 := (hb3.cell (p := ⟨w1.heap.size, 1, none⟩) l1).trans e1
                 have f2 := (hb3.cell (p := ⟨w1.heap.size, 2, none⟩) l1).trans e2
                 have f3 := (hb3.cell (p := ⟨w1.heap.size, 3, none⟩) l1).trans e3
                 have g := (hb3.cell (p := ⟨b, o + x.p.toNat, none⟩) hlt).trans hc
                 have z1 : w.heap.size < w3.heap.size := Nat.lt_of_lt_of_le k5 hb3.size
                 have z2 : w1.heap.size < w3.heap.size := Nat.lt_of_lt_of_le l1 hb3.size
                 have z3 : b < w3.heap.size := Nat.lt_of_lt_of_le hlt hb3.size)
    have HB3 := Lib.hid (bT HB.out hb3); clear hb3 HO
    cases hin : within (B.at x.p) x.l x.h with
    | true =>
      have hr : (1 : Int) = hit B x := by unfold hit; rw [if_neg HO2.out, hin]; rfl
      have HR := Lib.hid hr; clear hr
      go_region_held3 (fun w' => w'.cell? ⟨w.heap.size, 1, none⟩ = some (.slice (some ⟨b, o, none⟩) B.F.length c) ∧ w'.cell? ⟨w1.heap.size, 0, none⟩ = some (.int .i64 x.d) ∧ w'.cell? ⟨w1.heap.size, 1, none⟩ = some (.int .i64 x.p) ∧ w'.cell? ⟨w1.heap.size, 2, none⟩ = some (.int .i64 x.l) ∧ w'.cell? ⟨w1.heap.size, 3, none⟩ = some (.int .i64 x.h) ∧ w'.cell? ⟨b, o + x.p.toNat, none⟩ = some (.int .i64 (B.at x.p)))
        (first | go_keep | exact ⟨d0, d1, d2, d3, d4, d5⟩)
        (first | (go_at_call 71; refine (isAsSaid_any x _ _).mono ?_; rintro e w4 ⟨rfl, hb4⟩
                  go_must (have d0 := (hb4.cell (p := ⟨w.heap.size, 1, none⟩) z1).trans c1
                           have d1 := (hb4.cell (p := ⟨w1.heap.size, 0, none⟩) z2).trans f0
                           have d2 := (hb4.cell (p := ⟨w1.heap.size, 1, none⟩) z2).trans f1
                           have d3 := (hb4.cell (p := ⟨w1.heap.size, 2, none⟩) z2).trans f2
                           have d4 := (hb4.cell (p := ⟨w1.heap.size, 3, none⟩) z2).trans f3
                           have d5 := (hb4.cell (p := ⟨b, o + x.p.toNat, none⟩) z3).trans g
                           have HB4 := Lib.hid hb4; clear hb4)))
      all_goals
        go_wp2
        go_ret
        exact ⟨ret_i HR.out, bT HB3.out (bdL HB4.out)⟩
    | false =>
      have hr : (2 : Int) = hit B x := by unfold hit; rw [if_neg HO2.out, hin]; rfl
      have HR := Lib.hid hr; clear hr
      go_region_held3 (fun w' => w'.cell? ⟨w.heap.size, 1, none⟩ = some (.slice (some ⟨b, o, none⟩) B.F.length c) ∧ w'.cell? ⟨w1.heap.size, 0, none⟩ = some (.int .i64 x.d) ∧ w'.cell? ⟨w1.heap.size, 1, none⟩ = some (.int .i64 x.p) ∧ w'.cell? ⟨w1.heap.size, 2, none⟩ = some (.int .i64 x.l) ∧ w'.cell? ⟨w1.heap.size, 3, none⟩ = some (.int .i64 x.h) ∧ w'.cell? ⟨b, o + x.p.toNat, none⟩ = some (.int .i64 (B.at x.p)))
        (first | go_keep | exact ⟨d0, d1, d2, d3, d4, d5⟩)
        (first | (go_at_call 71; refine (isAsSaid_any x _ _).mono ?_; rintro e w4 ⟨rfl, hb4⟩
                  go_must (have d0 := (hb4.cell (p := ⟨w.heap.size, 1, none⟩) z1).trans c1
                           have d1 := (hb4.cell (p := ⟨w1.heap.size, 0, none⟩) z2).trans f0
                           have d2 := (hb4.cell (p := ⟨w1.heap.size, 1, none⟩) z2).trans f1
                           have d3 := (hb4.cell (p := ⟨w1.heap.size, 2, none⟩) z2).trans f2
                           have d4 := (hb4.cell (p := ⟨w1.heap.size, 3, none⟩) z2).trans f3
                           have d5 := (hb4.cell (p := ⟨b, o + x.p.toNat, none⟩) z3).trans g
                           have HB4 := Lib.hid hb4; clear hb4)))
      all_goals
        go_wp2
        go_ret
        exact ⟨ret_i HR.out, bT HB3.out (bdL HB4.out)⟩

set_option maxHeartbeats 1000000 in
/-- HitOf of the specification -/
theorem hitR_any (B : Book) (p : Option Addr) (c : Nat) (x : Say) (w : World) (hb : ∃ b o, p = some ⟨b, o, none⟩ ∧ IntsAt w w.heap.size b o B.F) (hf : B.F.length ≤ 1000000) (h0 : 0 ≤ x.p) (h1 : x.p < B.F.length) :
    Calls Try.prog 62 #[.agg #[.int .i64 x.d, .int .i64 x.p, .int .i64 x.l, .int .i64 x.h], .slice p B.F.length c] w fun e w' => e = .returned (.int .i64 (hit B x)) ∧ Below w.heap.size w w' := by
  obtain ⟨b, o, rfl, hi⟩ := hb
  have hc := at_cell hi h0 h1
  have hlt := hi.lt
  clear hi
  by_cases ho : B.at x.p = 0
  · have d1 : (B.at x.p == 0) = true := by simp [ho]
    have hr : (3 : Int) = hit B x := by unfold hit; rw [if_pos ho]
    have HR := Lib.hid hr
    clear hr ho
    go_enter Try.func62, Try.ntmps62
    go_wp2
    go_ret
    exact ⟨ret_i HR.out, bA (Below.refl _ _) _⟩
  · have d1 : (B.at x.p == 0) = false := by simp [ho]
    have HO2 := Lib.hid ho; clear ho
    cases hin : within (B.at x.p) x.l x.h with
    | true =>
      have hr : (1 : Int) = hit B x := by unfold hit; rw [if_neg HO2.out, hin]; rfl
      have HR := Lib.hid hr; clear hr
      go_enter Try.func62, Try.ntmps62
      go_wp2
      go_quiet ((go_at_call 40; exact quiet_l (within_any _ _ _ _)))
      go_wp2
      all_goals first
        | (go_ret; exact ⟨ret_i HR.out, by repeat (first | exact Below.refl _ _ | refine bA ?_ _ | refine bD ?_ _)⟩)
        | (exfalso; rename_i hx; rw [hin] at hx; cases hx)
    | false =>
      have hr : (2 : Int) = hit B x := by unfold hit; rw [if_neg HO2.out, hin]; rfl
      have HR := Lib.hid hr; clear hr
      go_enter Try.func62, Try.ntmps62
      go_wp2
      go_quiet ((go_at_call 40; exact quiet_l (within_any _ _ _ _)))
      go_wp2
      all_goals first
        | (go_ret; exact ⟨ret_i HR.out, by repeat (first | exact Below.refl _ _ | refine bA ?_ _ | refine bD ?_ _)⟩)
        | (exfalso; rename_i hx; rw [hin] at hx; cases hx)

def pts (B : Book) (x : Say) (n : Int) : Int := if within n x.l x.h then B.D - width x else -width x
theorem width_ex (x : Say) (w : World) (h0 : -100 ≤ x.l) (h1 : x.l ≤ 100) (h2 : -100 ≤ x.h) (h3 : x.h ≤ 100) :
    Calls Try.prog 72 #[.agg #[.int .i64 x.d, .int .i64 x.p, .int .i64 x.l, .int .i64 x.h]] w fun e w' => e = .returned (.int .i64 (width x)) ∧ w.alloc (.cells #[.int .i64 x.d, .int .i64 x.p, .int .i64 x.l, .int .i64 x.h] 33) = w' := by
  go_enter Try.func72, Try.ntmps72
  go_wp2
  go_ret
  exact ⟨rfl, rfl⟩
theorem widthR_ex (x : Say) (w : World) (h0 : -100 ≤ x.l) (h1 : x.l ≤ 100) (h2 : -100 ≤ x.h) (h3 : x.h ≤ 100) :
    Calls Try.prog 63 #[.agg #[.int .i64 x.d, .int .i64 x.p, .int .i64 x.l, .int .i64 x.h]] w fun e w' => e = .returned (.int .i64 (width x)) ∧ w.alloc (.cells #[.int .i64 x.d, .int .i64 x.p, .int .i64 x.l, .int .i64 x.h] 33) = w' := by
  go_enter Try.func63, Try.ntmps63
  go_wp2
  go_ret
  exact ⟨rfl, rfl⟩
theorem width_bd {x : Say} (h0 : -100 ≤ x.l) (h1 : x.l ≤ 100) (h2 : -100 ≤ x.h) (h3 : x.h ≤ 100) : -300 ≤ width x ∧ width x ≤ 300 := by unfold width; omega
set_option maxHeartbeats 1000000 in
theorem pointsOf_any (B : Book) (p q : Option Addr) (c d : Nat) (x : Say) (n : Int) (w : World) (g0 : -100 ≤ B.D) (g1 : B.D ≤ 100) (h0 : -100 ≤ x.l) (h1 : x.l ≤ 100) (h2 : -100 ≤ x.h) (h3 : x.h ≤ 100) :
    Calls Try.prog 48 #[.agg #[.int .i64 B.D, .slice p B.F.length c, .int .i64 B.N, .slice q B.S.length d, .int .i64 B.P], .agg #[.int .i64 x.d, .int .i64 x.p, .int .i64 x.l, .int .i64 x.h], .int .i64 n] w fun e w' => e = .returned (.int .i64 (pts B x n)) ∧ Below w.heap.size w w' := by
  obtain ⟨wb1, wb2⟩ := width_bd h0 h1 h2 h3
  cases hin : within n x.l x.h with
  | true =>
    have hr : B.D - width x = pts B x n := by unfold pts; rw [hin]; rfl
    have HR := Lib.hid hr; clear hr
    obtain ⟨w1, hw1, hb1, hz1, x1⟩ := box_book w B p q c d
    obtain ⟨w2, hw2, hb2, hz2, e0, e1, e2, e3⟩ := box_say w1 x.d x.p x.l x.h
    obtain ⟨k0, _, _, _, _, k5⟩ := x1.below hb2
    have l1 : w1.heap.size < w2.heap.size := by omega
    have HB := Lib.hid (bT hb1 hb2)
    clear x1 hb1 hb2 hz1 hz2
    go_enter Try.func48, Try.ntmps48
    go_wp2_with (go_at_call 71; refine (isAsSaid_any x _ _).mono ?_; rintro e w3 ⟨rfl, hb3⟩
                 have c0 := (hb3.cell (p := ⟨w.heap.size, 0, none⟩) k5).trans k0
                 have f0 := (hb3.cell (p := ⟨w1.heap.size, 0, none⟩) l1).trans e0
                 have f1 := (hb3.cell (p := ⟨w1.heap.size, 1, none⟩) l1).trans e1
                 have f2 := (hb3.cell (p := ⟨w1.heap.size, 2, none⟩) l1).trans e2
                 have f3 := (hb3.cell (p := ⟨w1.heap.size, 3, none⟩) l1).trans e3
                 have z1 : w.heap.size < w3.heap.size := Nat.lt_of_lt_of_le k5 hb3.size
                 have z2 : w1.heap.size < w3.heap.size := Nat.lt_of_lt_of_le l1 hb3.size)
    have HB3 := Lib.hid (bT HB.out hb3); clear hb3
    go_region_held3 (fun w' => w'.cell? ⟨w.heap.size, 0, none⟩ = some (.int .i64 B.D) ∧ w'.cell? ⟨w1.heap.size, 0, none⟩ = some (.int .i64 x.d) ∧ w'.cell? ⟨w1.heap.size, 1, none⟩ = some (.int .i64 x.p) ∧ w'.cell? ⟨w1.heap.size, 2, none⟩ = some (.int .i64 x.l) ∧ w'.cell? ⟨w1.heap.size, 3, none⟩ = some (.int .i64 x.h))
      (first | go_keep | exact ⟨d0, d1, d2, d3, d4⟩)
      (first | (go_at_call 72; refine (width_any x _ h0 h1 h2 h3).mono ?_; rintro e w4 ⟨rfl, hb4⟩
                go_must (have d0 := (hb4.cell (p := ⟨w.heap.size, 0, none⟩) z1).trans c0
                         have d1 := (hb4.cell (p := ⟨w1.heap.size, 0, none⟩) z2).trans f0
                         have d2 := (hb4.cell (p := ⟨w1.heap.size, 1, none⟩) z2).trans f1
                         have d3 := (hb4.cell (p := ⟨w1.heap.size, 2, none⟩) z2).trans f2
                         have d4 := (hb4.cell (p := ⟨w1.heap.size, 3, none⟩) z2).trans f3
                         have HB4 := Lib.hid hb4; clear hb4)))
    all_goals
      go_wp2
      go_ret
      exact ⟨ret_i (by rw [← HR.out]; try (rw [IntWalk.i64_in _ (by omega)])), bT HB3.out (bdL HB4.out)⟩
  | false =>
    have hr : -width x = pts B x n := by unfold pts; rw [hin]; rfl
    have HR := Lib.hid hr; clear hr
    go_enter Try.func48, Try.ntmps48
    go_wp2_with (first | (go_at_call 71; refine (isAsSaid_ex _ _ _).mono ?_; rintro e w' ⟨rfl, rfl⟩) | (go_at_call 72; refine (width_ex x _ h0 h1 h2 h3).mono ?_; rintro e w' ⟨rfl, rfl⟩))
    go_ret
    exact ⟨ret_i HR.out, by repeat (first | exact Below.refl _ _ | refine bA ?_ _)⟩

set_option maxHeartbeats 1000000 in
/-- PointsOf of the specification, of a saying that is not open -/
theorem pointsR_any (B : Book) (p q : Option Addr) (c d : Nat) (x : Say) (w : World) (hb : ∃ b o, p = some ⟨b, o, none⟩ ∧ IntsAt w w.heap.size b o B.F) (hf : B.F.length ≤ 1000000) (h0' : 0 ≤ x.p) (h1' : x.p < B.F.length) (ho : B.at x.p ≠ 0)
    (g0 : -100 ≤ B.D) (g1 : B.D ≤ 100) (h0 : -100 ≤ x.l) (h1 : x.l ≤ 100) (h2 : -100 ≤ x.h) (h3 : x.h ≤ 100) :
    Calls Try.prog 55 #[.agg #[.int .i64 B.D, .slice p B.F.length c, .int .i64 B.N, .slice q B.S.length d, .int .i64 B.P], .agg #[.int .i64 x.d, .int .i64 x.p, .int .i64 x.l, .int .i64 x.h], .slice p B.F.length c] w fun e w' => e = .returned (.int .i64 (pts B x (B.at x.p))) ∧ Below w.heap.size w w' := by
  obtain ⟨wb1, wb2⟩ := width_bd h0 h1 h2 h3
  obtain ⟨w1, hw1, hb1, hz1, x1⟩ := box_book w B p q c d
  obtain ⟨w2, hw2, hb2, hz2, e0, e1, e2, e3⟩ := box_say w1 x.d x.p x.l x.h
  obtain ⟨k0, _, _, _, _, k5⟩ := x1.below hb2
  have l1 : w1.heap.size < w2.heap.size := by omega
  have hB := bT hb1 hb2
  obtain ⟨b, o, rfl, hi⟩ := hb
  have HH : Hid (Calls Try.prog 62 #[.agg #[.int .i64 x.d, .int .i64 x.p, .int .i64 x.l, .int .i64 x.h], .slice (some ⟨b, o, none⟩) B.F.length c] w2 fun e w' => e = .returned (.int .i64 (hit B x)) ∧ Below w2.heap.size w2 w') :=
    hitR_any B _ c x w2 ⟨b, o, rfl, (hi.below hB).mono hB.size⟩ hf h0' h1'
  have HB := Lib.hid hB
  clear x1 hb1 hb2 hz1 hz2 hi hB
  have HO := Lib.hid ho; clear ho
  cases hin : within (B.at x.p) x.l x.h with
  | true =>
    have hr : B.D - width x = pts B x (B.at x.p) := by unfold pts; rw [hin]; rfl
    have HR := Lib.hid hr; clear hr
    have hh : hit B x = 1 := by unfold hit; rw [if_neg HO.out, hin]; rfl
    rw [hh] at HH
    go_enter Try.func55, Try.ntmps55
    go_wp2_with (go_at_call 62; refine HH.out.mono ?_; rintro e w3 ⟨rfl, hb3⟩
                 have c0 := (hb3.cell (p := ⟨w.heap.size, 0, none⟩) k5).trans k0
                 have f0 := (hb3.cell (p := ⟨w1.heap.size, 0, none⟩) l1).trans e0
                 have f1 := (hb3.cell (p := ⟨w1.heap.size, 1, none⟩) l1).trans e1
                 have f2 := (hb3.cell (p := ⟨w1.heap.size, 2, none⟩) l1).trans e2
                 have f3 := (hb3.cell (p := ⟨w1.heap.size, 3, none⟩) l1).trans e3
                 have z1 : w.heap.size < w3.heap.size := Nat.lt_of_lt_of_le k5 hb3.size
                 have z2 : w1.heap.size < w3.heap.size := Nat.lt_of_lt_of_le l1 hb3.size)
    have HB3 := Lib.hid (bT HB.out hb3); clear hb3 HH
    go_region_held3 (fun w' => w'.cell? ⟨w.heap.size, 0, none⟩ = some (.int .i64 B.D) ∧ w'.cell? ⟨w1.heap.size, 0, none⟩ = some (.int .i64 x.d) ∧ w'.cell? ⟨w1.heap.size, 1, none⟩ = some (.int .i64 x.p) ∧ w'.cell? ⟨w1.heap.size, 2, none⟩ = some (.int .i64 x.l) ∧ w'.cell? ⟨w1.heap.size, 3, none⟩ = some (.int .i64 x.h))
      (first | go_keep | exact ⟨d0, d1, d2, d3, d4⟩)
      (first | (go_at_call 63; refine (widthR_any x _ h0 h1 h2 h3).mono ?_; rintro e w4 ⟨rfl, hb4⟩
                go_must (have d0 := (hb4.cell (p := ⟨w.heap.size, 0, none⟩) z1).trans c0
                         have d1 := (hb4.cell (p := ⟨w1.heap.size, 0, none⟩) z2).trans f0
                         have d2 := (hb4.cell (p := ⟨w1.heap.size, 1, none⟩) z2).trans f1
                         have d3 := (hb4.cell (p := ⟨w1.heap.size, 2, none⟩) z2).trans f2
                         have d4 := (hb4.cell (p := ⟨w1.heap.size, 3, none⟩) z2).trans f3
                         have HB4 := Lib.hid hb4; clear hb4)))
    all_goals
      go_wp2
      go_ret
      exact ⟨ret_i (by rw [← HR.out]; try (rw [IntWalk.i64_in _ (by omega)])), bT HB3.out (bdL HB4.out)⟩
  | false =>
    have hr : -width x = pts B x (B.at x.p) := by unfold pts; rw [hin]; rfl
    have HR := Lib.hid hr; clear hr
    have hh : hit B x = 2 := by unfold hit; rw [if_neg HO.out, hin]; rfl
    rw [hh] at HH
    go_enter Try.func55, Try.ntmps55
    go_wp2_with (go_at_call 62; refine HH.out.mono ?_; rintro e w3 ⟨rfl, hb3⟩
                 have f0 := (hb3.cell (p := ⟨w1.heap.size, 0, none⟩) l1).trans e0
                 have f1 := (hb3.cell (p := ⟨w1.heap.size, 1, none⟩) l1).trans e1
                 have f2 := (hb3.cell (p := ⟨w1.heap.size, 2, none⟩) l1).trans e2
                 have f3 := (hb3.cell (p := ⟨w1.heap.size, 3, none⟩) l1).trans e3
                 have z1 : w.heap.size < w3.heap.size := Nat.lt_of_lt_of_le k5 hb3.size
                 have z2 : w1.heap.size < w3.heap.size := Nat.lt_of_lt_of_le l1 hb3.size)
    have HB3 := Lib.hid (bT HB.out hb3); clear hb3 HH
    go_wp2_with (go_at_call 63; refine (widthR_any x _ h0 h1 h2 h3).mono ?_; rintro e w4 ⟨rfl, hb4⟩)
    go_ret
    exact ⟨ret_i HR.out, bT HB3.out hb4⟩
end Go.Proofs.Ytaaocomgmacjnaa
