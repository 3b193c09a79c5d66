/- HoursSwap returns true in every walk: Give, Lack and Swap of the specification, the errors of both, the law. -/
import Derived.Test.YtegkgfiaegpihaaF19

import Derived.Test.YtegkgfiaegpihaaF6

import Derived.Test.YtegkgfiaegpihaaF12

import Derived.Test.YtegkgfiaegpihaaF14

import Derived.Test.YtegkgfiaegpihaaF9

import Derived.Test.YtegkgfiaegpihaaF10

import Derived.Test.YtegkgfiaegpihaaC7

import Derived.Test.YtegkgfiaegpihaaB1

set_option linter.unusedSimpArgs false

set_option linter.unusedVariables false

namespace Go.Proofs.Ytegkgfiaegpihaa

open Go.RowKit

theorem leastRR_is {D : Ro} {n : Nat} {p q : Option Addr} {c d : Nat} (hn : D.n = n) (hD : OkP D) (hx : exB D = true) (w : World) (hi : RoIn w w.heap.size D p q) :
    Calls Try.prog 50 #[.agg #[.slice p n c, .slice q D.m d]] w fun e w' => e = .returned (.tuple #[.int .i64 (tL D), .int .i64 0]) ∧ Below w.heap.size w w' := by
  subst hn; exact leastRR_ok D p q c d w hD hx hi
set_option maxRecDepth 100000 in
set_option maxHeartbeats 4000000 in
theorem giveR_er (D : Ro) (p q : Option Addr) (c d : Nat) (h er : Int) (w : World) (hn : D.n ≤ maxLen) (hm : D.m ≤ maxLen) (hi : RoIn w w.heap.size D p q) (he : chkE D.ok (within h 0 ((D.n : Int) - 1)) = er) (h0 : er ≠ 0) :
    Calls Try.prog 60 #[.agg #[.slice p D.n c, .slice q D.m d], .int .i64 h] w fun e w' => e = .returned (.tuple #[.int .i64 0, .int .i64 er]) ∧ Below w.heap.size w w' := by
  obtain ⟨w1, x1, hw1, hb1, hz1, F0, F1, _⟩ := box_ro w p q D.n D.m c d
  have HB := Lib.hid hb1
  have HI : Hid (∀ x : Ext w1, RoIn x.v x.v.heap.size D p q) := fun x => (hi.bel hb1).bel x.b
  obtain ⟨b, hb⟩ : ∃ b, within h 0 ((D.n : Int) - 1) = b := ⟨_, rfl⟩
  rw [hb] at he
  have HH := Lib.hid hb; have HE := Lib.hid he
  have j0 : (er != 0) = true := by simp [h0]
  clear hb1 hz1 hi hb he h0
  go_enter Try.func60, Try.ntmps60
  go_wp2
  refine quiet_e (by kernel_rfl) (by kernel_rfl) ?_
  repeat (first | go_big_quiet_step ((first | (go_at_call 27; exact quiet_x (isHourR_is HH.out hn _)) | (go_at_call 91; exact quiet_x (askR_is HE.out _ hn hm (HI.out _))))) | quiet_step ((first | (go_at_call 27; exact quiet_x (isHourR_is HH.out hn _)) | (go_at_call 91; exact quiet_x (askR_is HE.out _ hn hm (HI.out _))))))
  refine wpQuiet_nil ?_
  intro w6 hw6
  obtain ⟨y, rfl⟩ := hw6
  go_wp2
  go_ret2
  exact ⟨rfl, bT HB.out y.b⟩
set_option maxRecDepth 100000 in
set_option maxHeartbeats 4000000 in
theorem giveP_er (D : Ro) (p q : Option Addr) (c d : Nat) (h er : Int) (w : World) (hn : D.n ≤ maxLen) (hm : D.m ≤ maxLen) (hi : RoIn w w.heap.size D p q) (he : chkE D.ok (within h 0 ((D.n : Int) - 1)) = er) (h0 : er ≠ 0) :
    Calls Try.prog 38 #[.agg #[.slice p D.n c, .slice q D.m d], .int .i64 h] w fun e w' => e = .returned (.tuple #[.int .i64 0, .int .i64 er]) ∧ Below w.heap.size w w' := by
  obtain ⟨w1, x1, hw1, hb1, hz1, F0, F1, _⟩ := box_ro w p q D.n D.m c d
  have HB := Lib.hid hb1
  have HI : Hid (∀ x : Ext w1, RoIn x.v x.v.heap.size D p q) := fun x => (hi.bel hb1).bel x.b
  obtain ⟨b, hb⟩ : ∃ b, within h 0 ((D.n : Int) - 1) = b := ⟨_, rfl⟩
  rw [hb] at he
  have HH := Lib.hid hb; have HE := Lib.hid he
  have j0 : (er != 0) = true := by simp [h0]
  clear hb1 hz1 hi hb he h0
  go_enter Try.func38, Try.ntmps38
  go_wp2
  refine quiet_e (by kernel_rfl) (by kernel_rfl) ?_
  repeat (first | go_big_quiet_step ((first | (go_at_call 80; exact quiet_x (isHour_is HH.out _)) | (go_at_call 77; exact quiet_x (check_is HE.out _ hn hm (HI.out _))))) | quiet_step ((first | (go_at_call 80; exact quiet_x (isHour_is HH.out _)) | (go_at_call 77; exact quiet_x (check_is HE.out _ hn hm (HI.out _))))))
  refine wpQuiet_nil ?_
  intro w6 hw6
  obtain ⟨y, rfl⟩ := hw6
  go_wp2
  go_ret2
  exact ⟨rfl, bT HB.out y.b⟩
set_option maxRecDepth 100000 in
set_option maxHeartbeats 8000000 in
theorem giveR_any (D : Ro) (p q : Option Addr) (c d h : Nat) (w : World) (hD : OkP D) (hh : h < D.n) (hi : RoIn w w.heap.size D p q) :
    Calls Try.prog 60 #[.agg #[.slice p D.n c, .slice q D.m d], .int .i64 (h : Int)] w fun e w' => e = .returned (.tuple #[.int .i64 (gvR D h), .int .i64 (gvE D h)]) ∧ Below w.heap.size w w' := by
  obtain ⟨w1, x1, hw1, hb1, hz1, F0, F1, _⟩ := box_ro w p q D.n D.m c d
  have HB := Lib.hid hb1
  have HI : Hid (∀ x : Ext w1, RoIn x.v x.v.heap.size D p q) := fun x => (hi.bel hb1).bel x.b
  have HO := Lib.hid (Ro.ok_iff.2 hD)
  have HD := Lib.hid hD
  have hn8 := hD.n; have hm6 := hD.m
  have hn : D.n ≤ maxLen := by unfold maxLen; omega
  have hm : D.m ≤ maxLen := by unfold maxLen; omega
  have HH := Lib.hid (show within (h : Int) 0 ((D.n : Int) - 1) = true from within_tt (by omega) (by omega))
  have HE := Lib.hid (chk_ok HO.out)
  have hhi : (h : Int) < (D.n : Int) := by omega
  have j0 : ((0 : Int) != 0) = false := by decide
  obtain ⟨b, o, rfl, _, _⟩ := (HI.out x1).rm (by omega)
  have R0 : ∀ y : Ext w1, y.v.cell? ⟨b, o + h, none⟩ = some (.int .i64 (D.rm h)) := fun y => ((HI.out y).rm.cell hh).2
  by_cases h6 : D.rm h = 6
  · have e1 : gvR D h = 0 := if_pos h6
    have e2 : gvE D h = 2 := if_pos h6
    rw [e1, e2]
    rw [h6] at R0
    clear hb1 hz1 hi hD h6 e1 e2
    go_enter Try.func60, Try.ntmps60
    go_wp2
    refine quiet_e (by kernel_rfl) (by kernel_rfl) ?_
    repeat (first | go_big_quiet_step ((first | (go_at_call 27; exact quiet_x (isHourR_is HH.out hn _)) | (go_at_call 91; exact quiet_x (askR_is HE.out _ hn hm (HI.out _))))) | quiet_step ((first | (go_at_call 27; exact quiet_x (isHourR_is HH.out hn _)) | (go_at_call 91; exact quiet_x (askR_is HE.out _ hn hm (HI.out _))))))
    refine wpQuiet_nil ?_
    intro w6 hw6
    obtain ⟨y, rfl⟩ := hw6
    go_wp2
    go_ret2
    exact ⟨rfl, bT HB.out y.b⟩
  · have HR1 : Hid (gvR D h = gvV D h) := if_neg h6
    have HR2 : Hid (gvE D h = exE D) := if_neg h6
    have hrb := hD.rm h hh
    have HD2 := Lib.hid (rmD_ok hD (h := h) (v := 1) (by omega))
    have HL2 := Lib.hid (show (rmD D h 1).n = D.n from rfl)
    have hl1 := ls_bd hD; have hl2 := ls_bd HD2.out
    have ew : IntKind.i64.wrap (lsC D - lsC (rmD D h 1)) = lsC D - lsC (rmD D h 1) := IntWalk.i64_in _ (by omega)
    rw [HR1.out, HR2.out]
    have j6 : (D.rm h == 6) = false := by simpa using h6
    have j3 : ((3 : Int) != 0) = true := by decide
    cases hx : exB D with
    | false =>
      have e1 : gvV D h = 0 := by simp [gvV, hx]
      have e2 : exE D = 3 := by simp [exE, hx]
      have HN := Lib.hid (fun (V : World) hV => leastRR_er D (some ⟨b, o, none⟩) q c d 3 V hV (news_none D (some ⟨b, o, none⟩) q c d hD hx))
      rw [e1, e2]
      clear hb1 hz1 hi hD h6 e1 e2 hx hrb hl1 hl2 ew HR1 HR2
      go_enter Try.func60, Try.ntmps60
      go_wp2
      refine quiet_e (by kernel_rfl) (by kernel_rfl) ?_
      repeat (first | go_big_quiet_step ((first | (go_at_call 27; exact quiet_x (isHourR_is HH.out hn _)) | (go_at_call 91; exact quiet_x (askR_is HE.out _ hn hm (HI.out _))))) | quiet_step ((first | (go_at_call 27; exact quiet_x (isHourR_is HH.out hn _)) | (go_at_call 91; exact quiet_x (askR_is HE.out _ hn hm (HI.out _))))))
      refine wpQuiet_nil ?_
      intro w6 hw6
      obtain ⟨y, rfl⟩ := hw6
      go_wp2_with fail
      refine (quiet_x (HN.out _ (HI.out _))).mono ?_
      rintro e w' ⟨rfl, y2, rfl⟩
      go_wp2
      go_ret2
      exact ⟨rfl, bT HB.out y2.b⟩
    | true =>
      have e1 : gvV D h = lsC D - lsC (rmD D h 1) := by simp [gvV, hx]
      have e2 : exE D = 0 := by simp [exE, hx]
      have hex : exB (rmD D h 1) = true := by
        obtain ⟨f, hf, _⟩ := ls_ex hD ((exB_iff hD).1 hx)
        exact (exB_iff HD2.out).2 ⟨f, hf.more (by decide)⟩
      have HN := Lib.hid (fun (V : World) hV => leastRR_ok D (some ⟨b, o, none⟩) q c d V hD hx hV)
      have HX2 := Lib.hid hex
      have t1 : tL D = lsC D := by simp [tL, hx]
      have t2 : tL (rmD D h 1) = lsC (rmD D h 1) := by simp [tL, hex]
      obtain ⟨ls, hls⟩ : ∃ v, lsC D = v := ⟨_, rfl⟩
      obtain ⟨ls2, hls2⟩ : ∃ v, lsC (rmD D h 1) = v := ⟨_, rfl⟩
      rw [e1, e2]
      rw [t1, hls] at HN
      rw [hls2] at t2
      rw [hls, hls2] at ew ⊢
      have HT2 := Lib.hid t2
      clear hb1 hz1 hi hD h6 e1 e2 hx hrb hl1 hl2 HR1 HR2 hex t1 t2 hls hls2
      go_enter Try.func60, Try.ntmps60
      go_wp2
      refine quiet_e (by kernel_rfl) (by kernel_rfl) ?_
      repeat (first | go_big_quiet_step ((first | (go_at_call 27; exact quiet_x (isHourR_is HH.out hn _)) | (go_at_call 91; exact quiet_x (askR_is HE.out _ hn hm (HI.out _))))) | quiet_step ((first | (go_at_call 27; exact quiet_x (isHourR_is HH.out hn _)) | (go_at_call 91; exact quiet_x (askR_is HE.out _ hn hm (HI.out _))))))
      refine wpQuiet_nil ?_
      intro w6 hw6
      obtain ⟨y, rfl⟩ := hw6
      go_wp2_with fail
      refine (quiet_x (HN.out _ (HI.out _))).mono ?_
      rintro e w' ⟨rfl, y2, rfl⟩
      go_wp2_with fail
      refine (roomier_any D (some ⟨b, o, none⟩) q c d h 1 _ HD.out hh ⟨by decide, by decide⟩ (HI.out _)).mono ?_
      rintro e w2 ⟨p', c', q', d', rfl, hmade⟩
      have HB2 := Lib.hid (bT y2.b hmade.below); have HIM := Lib.hid hmade.here
      clear hmade
      go_wp2_with fail
      refine (leastRR_is (D := rmD D h 1) (n := D.n) rfl HD2.out HX2.out _ HIM.out).mono ?_
      rintro e w3 ⟨rfl, hb3⟩
      rw [HT2.out]
      have HB3 := Lib.hid (bT HB2.out hb3)
      clear hb3
      go_wp2
      go_ret2
      exact ⟨rfl, bT HB.out HB3.out⟩

set_option maxRecDepth 100000 in
set_option maxHeartbeats 4000000 in
theorem lackP_er (D : Ro) (p q : Option Addr) (c d : Nat) (er : Int) (w : World) (hn : D.n ≤ maxLen) (hm : D.m ≤ maxLen) (hi : RoIn w w.heap.size D p q) (he : chkE D.ok true = er) (h0 : er ≠ 0) :
    Calls Try.prog 20 #[.agg #[.slice p D.n c, .slice q D.m d]] w fun e w' => e = .returned (.tuple #[.agg #[.int .i64 0, .int .i64 0], .int .i64 er]) ∧ Below w.heap.size w w' := by
  obtain ⟨wa, xa, hw1, hba, hza, A0, A1, _⟩ := box_ro w p q D.n D.m c d
  obtain ⟨w1, x1, hw2, hb2, hz2, P0, P1, Pf⟩ := box_span xa.v 0 0
  have hb1 : Below wa.heap.size wa w1 := bT xa.b hb2
  have F0 : ∀ z : Ext w1, z.v.cell? ⟨w.heap.size, 0, none⟩ = some (.slice p D.n c) := fun z => A0 (z.up hb1)
  have F1 : ∀ z : Ext w1, z.v.cell? ⟨w.heap.size, 1, none⟩ = some (.slice q D.m d) := fun z => A1 (z.up hb1)
  have HW : Hid (∀ z : Ext w1, Below w.heap.size w z.v) := fun z => bT hba (bT hb1 z.b)
  have HI : Hid (∀ z : Ext w1, RoIn z.v z.v.heap.size D p q) := fun z => (hi.bel (bT hba hb1)).bel z.b
  have HZ : Hid (w.heap.size ≤ xa.v.heap.size ∧ xa.v.heap.size < w1.heap.size) := by have := hba.size; have := xa.b.size; exact ⟨by omega, by omega⟩
  clear A0 A1 hba hza hb2 hz2 hb1 hi
  have HE := Lib.hid he
  have j0 : (er != 0) = true := by simp [h0]
  clear he h0
  go_enter Try.func20, Try.ntmps20
  go_wp2_with fail
  refine (quiet_x (checkP_is HE.out _ hn hm (HI.out _))).mono ?_
  rintro e w' ⟨rfl, y, rfl⟩
  obtain ⟨q0, q1⟩ := set_pair (w := y.v) (u := .int .i64 0) (v := .int .i64 0) (P0 y) (P1 y) (Pf y)
  have HQ : Hid (Below w.heap.size w ((y.v.setCell ⟨xa.v.heap.size, 0, none⟩ (.int .i64 0)).setCell ⟨xa.v.heap.size, 1, none⟩ (.int .i64 0))) := bS (bS (HW.out y) HZ.out.1 _) HZ.out.1 _
  have p0 : y.v.cell? ⟨xa.v.heap.size, 0, none⟩ = some (.int .i64 0) := P0 y
  have p1 : y.v.cell? ⟨xa.v.heap.size, 1, none⟩ = some (.int .i64 0) := P1 y
  have pf : ∀ i, y.v.frozen? ⟨xa.v.heap.size, i, none⟩ = false := Pf y
  go_wp2
  exact bodyPost_ret (v := .tuple #[.agg #[.int .i64 0, .int .i64 0], .int .i64 er]) (by simp [results, Try.f20, go_sem, q0, q1]) rfl ⟨rfl, HQ.out⟩
set_option maxRecDepth 100000 in
set_option maxHeartbeats 4000000 in
theorem lackR_er (D : Ro) (p q : Option Addr) (c d : Nat) (er : Int) (w : World) (hn : D.n ≤ maxLen) (hm : D.m ≤ maxLen) (hi : RoIn w w.heap.size D p q) (he : chkE D.ok true = er) (h0 : er ≠ 0) :
    Calls Try.prog 58 #[.agg #[.slice p D.n c, .slice q D.m d]] w fun e w' => e = .returned (.tuple #[.agg #[.int .i64 0, .int .i64 0], .int .i64 er]) ∧ Below w.heap.size w w' := by
  obtain ⟨wa, xa, hw1, hba, hza, A0, A1, _⟩ := box_ro w p q D.n D.m c d
  obtain ⟨w1, x1, hw2, hb2, hz2, P0, P1, Pf⟩ := box_span xa.v 0 0
  have hb1 : Below wa.heap.size wa w1 := bT xa.b hb2
  have F0 : ∀ z : Ext w1, z.v.cell? ⟨w.heap.size, 0, none⟩ = some (.slice p D.n c) := fun z => A0 (z.up hb1)
  have F1 : ∀ z : Ext w1, z.v.cell? ⟨w.heap.size, 1, none⟩ = some (.slice q D.m d) := fun z => A1 (z.up hb1)
  have HW : Hid (∀ z : Ext w1, Below w.heap.size w z.v) := fun z => bT hba (bT hb1 z.b)
  have HI : Hid (∀ z : Ext w1, RoIn z.v z.v.heap.size D p q) := fun z => (hi.bel (bT hba hb1)).bel z.b
  have HZ : Hid (w.heap.size ≤ xa.v.heap.size ∧ xa.v.heap.size < w1.heap.size) := by have := hba.size; have := xa.b.size; exact ⟨by omega, by omega⟩
  clear A0 A1 hba hza hb2 hz2 hb1 hi
  have HE := Lib.hid he
  have j0 : (er != 0) = true := by simp [h0]
  clear he h0
  go_enter Try.func58, Try.ntmps58
  go_wp2_with fail
  refine (quiet_x (checkR_iv HE.out _ hn hm (HI.out _))).mono ?_
  rintro e w' ⟨rfl, y, rfl⟩
  obtain ⟨q0, q1⟩ := set_pair (w := y.v) (u := .int .i64 0) (v := .int .i64 0) (P0 y) (P1 y) (Pf y)
  have HQ : Hid (Below w.heap.size w ((y.v.setCell ⟨xa.v.heap.size, 0, none⟩ (.int .i64 0)).setCell ⟨xa.v.heap.size, 1, none⟩ (.int .i64 0))) := bS (bS (HW.out y) HZ.out.1 _) HZ.out.1 _
  have p0 : y.v.cell? ⟨xa.v.heap.size, 0, none⟩ = some (.int .i64 0) := P0 y
  have p1 : y.v.cell? ⟨xa.v.heap.size, 1, none⟩ = some (.int .i64 0) := P1 y
  have pf : ∀ i, y.v.frozen? ⟨xa.v.heap.size, i, none⟩ = false := Pf y
  go_wp2
  exact bodyPost_ret (v := .tuple #[.agg #[.int .i64 0, .int .i64 0], .int .i64 er]) (by simp [results, Try.f58, go_sem, q0, q1]) rfl ⟨rfl, HQ.out⟩
set_option maxRecDepth 100000 in
set_option maxHeartbeats 4000000 in
theorem swapP_er (D : Ro) (p q lp : Option Addr) (c d l lc : Nat) (f : Nat → Int) (er : Int) (w : World) (hn : D.n ≤ maxLen) (hm : D.m ≤ maxLen) (hi : RoIn w w.heap.size D p q) (hf : NumIn w w.heap.size l f lp) (he : newE D l f = er) (h0 : er ≠ 0) :
    Calls Try.prog 34 #[.agg #[.slice p D.n c, .slice q D.m d], .slice lp l lc] w fun e w' => e = .returned (.tuple #[.agg #[.int .i64 0, .int .i64 0], .int .i64 er]) ∧ Below w.heap.size w w' := by
  obtain ⟨wa, xa, hw1, hba, hza, A0, A1, _⟩ := box_ro w p q D.n D.m c d
  obtain ⟨w1, x1, hw2, hb2, hz2, P0, P1, Pf⟩ := box_pair xa.v 0 0
  have hb1 : Below wa.heap.size wa w1 := bT xa.b hb2
  have F0 : ∀ z : Ext w1, z.v.cell? ⟨w.heap.size, 0, none⟩ = some (.slice p D.n c) := fun z => A0 (z.up hb1)
  have F1 : ∀ z : Ext w1, z.v.cell? ⟨w.heap.size, 1, none⟩ = some (.slice q D.m d) := fun z => A1 (z.up hb1)
  have HW : Hid (∀ z : Ext w1, Below w.heap.size w z.v) := fun z => bT hba (bT hb1 z.b)
  have HI : Hid (∀ z : Ext w1, RoIn z.v z.v.heap.size D p q) := fun z => (hi.bel (bT hba hb1)).bel z.b
  have HL : Hid (∀ z : Ext w1, NumIn z.v z.v.heap.size l f lp) := fun z => (hf.bel (bT hba hb1)).bel z.b
  have HZ : Hid (w.heap.size ≤ xa.v.heap.size ∧ xa.v.heap.size < w1.heap.size) := by have := hba.size; have := xa.b.size; exact ⟨by omega, by omega⟩
  clear A0 A1 hba hza hb2 hz2 hb1 hi hf
  have HE := Lib.hid he
  have j0 : (er != 0) = true := by simp [h0]
  clear he h0
  go_enter Try.func34, Try.ntmps34
  go_wp2_with fail
  refine (quiet_x (checkNew_is HE.out _ hn hm (HI.out _) (HL.out _))).mono ?_
  rintro e w' ⟨rfl, y, rfl⟩
  obtain ⟨q0, q1⟩ := set_pair (w := y.v) (u := .int .i64 0) (v := .int .i64 0) (P0 y) (P1 y) (Pf y)
  have HQ : Hid (Below w.heap.size w ((y.v.setCell ⟨xa.v.heap.size, 0, none⟩ (.int .i64 0)).setCell ⟨xa.v.heap.size, 1, none⟩ (.int .i64 0))) := bS (bS (HW.out y) HZ.out.1 _) HZ.out.1 _
  have p0 : y.v.cell? ⟨xa.v.heap.size, 0, none⟩ = some (.int .i64 0) := P0 y
  have p1 : y.v.cell? ⟨xa.v.heap.size, 1, none⟩ = some (.int .i64 0) := P1 y
  have pf : ∀ i, y.v.frozen? ⟨xa.v.heap.size, i, none⟩ = false := Pf y
  go_wp2
  exact bodyPost_ret (v := .tuple #[.agg #[.int .i64 0, .int .i64 0], .int .i64 er]) (by simp [results, Try.f34, go_sem, q0, q1]) rfl ⟨rfl, HQ.out⟩
set_option maxRecDepth 100000 in
set_option maxHeartbeats 4000000 in
theorem swapR_er (D : Ro) (p q lp : Option Addr) (c d l lc : Nat) (f : Nat → Int) (er : Int) (w : World) (hn : D.n ≤ maxLen) (hm : D.m ≤ maxLen) (hi : RoIn w w.heap.size D p q) (hf : NumIn w w.heap.size l f lp) (he : newE D l f = er) (h0 : er ≠ 0) :
    Calls Try.prog 59 #[.agg #[.slice p D.n c, .slice q D.m d], .slice lp l lc] w fun e w' => e = .returned (.tuple #[.agg #[.int .i64 0, .int .i64 0], .int .i64 er]) ∧ Below w.heap.size w w' := by
  obtain ⟨wa, xa, hw1, hba, hza, A0, A1, _⟩ := box_ro w p q D.n D.m c d
  obtain ⟨w1, x1, hw2, hb2, hz2, P0, P1, Pf⟩ := box_pair xa.v 0 0
  have hb1 : Below wa.heap.size wa w1 := bT xa.b hb2
  have F0 : ∀ z : Ext w1, z.v.cell? ⟨w.heap.size, 0, none⟩ = some (.slice p D.n c) := fun z => A0 (z.up hb1)
  have F1 : ∀ z : Ext w1, z.v.cell? ⟨w.heap.size, 1, none⟩ = some (.slice q D.m d) := fun z => A1 (z.up hb1)
  have HW : Hid (∀ z : Ext w1, Below w.heap.size w z.v) := fun z => bT hba (bT hb1 z.b)
  have HI : Hid (∀ z : Ext w1, RoIn z.v z.v.heap.size D p q) := fun z => (hi.bel (bT hba hb1)).bel z.b
  have HL : Hid (∀ z : Ext w1, NumIn z.v z.v.heap.size l f lp) := fun z => (hf.bel (bT hba hb1)).bel z.b
  have HZ : Hid (w.heap.size ≤ xa.v.heap.size ∧ xa.v.heap.size < w1.heap.size) := by have := hba.size; have := xa.b.size; exact ⟨by omega, by omega⟩
  clear A0 A1 hba hza hb2 hz2 hb1 hi hf
  have HE := Lib.hid he
  have j0 : (er != 0) = true := by simp [h0]
  clear he h0
  go_enter Try.func59, Try.ntmps59
  go_wp2_with fail
  refine (quiet_x (given_is HE.out _ hn hm (HI.out _) (HL.out _))).mono ?_
  rintro e w' ⟨rfl, y, rfl⟩
  obtain ⟨q0, q1⟩ := set_pair (w := y.v) (u := .int .i64 0) (v := .int .i64 0) (P0 y) (P1 y) (Pf y)
  have HQ : Hid (Below w.heap.size w ((y.v.setCell ⟨xa.v.heap.size, 0, none⟩ (.int .i64 0)).setCell ⟨xa.v.heap.size, 1, none⟩ (.int .i64 0))) := bS (bS (HW.out y) HZ.out.1 _) HZ.out.1 _
  have p0 : y.v.cell? ⟨xa.v.heap.size, 0, none⟩ = some (.int .i64 0) := P0 y
  have p1 : y.v.cell? ⟨xa.v.heap.size, 1, none⟩ = some (.int .i64 0) := P1 y
  have pf : ∀ i, y.v.frozen? ⟨xa.v.heap.size, i, none⟩ = false := Pf y
  go_wp2
  exact bodyPost_ret (v := .tuple #[.agg #[.int .i64 0, .int .i64 0], .int .i64 er]) (by simp [results, Try.f59, go_sem, q0, q1]) rfl ⟨rfl, HQ.out⟩
set_option maxRecDepth 100000 in
set_option maxHeartbeats 8000000 in
theorem lackR_any (D : Ro) (p q : Option Addr) (c d : Nat) (w : World) (hD : OkP D) (hi : RoIn w w.heap.size D p q) :
    Calls Try.prog 58 #[.agg #[.slice p D.n c, .slice q D.m d]] w fun e w' => e = .returned (.tuple #[.agg #[.int .i64 (lkA D), .int .i64 (lkB D)], .int .i64 (lkE D)]) ∧ Below w.heap.size w w' := by
  obtain ⟨wa, xa, hw1, hba, hza, A0, A1, _⟩ := box_ro w p q D.n D.m c d
  obtain ⟨w1, x1, hw2, hb2, hz2, P0, P1, Pf⟩ := box_span xa.v 0 0
  have hb1 : Below wa.heap.size wa w1 := bT xa.b hb2
  have F0 : ∀ z : Ext w1, z.v.cell? ⟨w.heap.size, 0, none⟩ = some (.slice p D.n c) := fun z => A0 (z.up hb1)
  have F1 : ∀ z : Ext w1, z.v.cell? ⟨w.heap.size, 1, none⟩ = some (.slice q D.m d) := fun z => A1 (z.up hb1)
  have HW : Hid (∀ z : Ext w1, Below w.heap.size w z.v) := fun z => bT hba (bT hb1 z.b)
  have HI : Hid (∀ z : Ext w1, RoIn z.v z.v.heap.size D p q) := fun z => (hi.bel (bT hba hb1)).bel z.b
  have HZ : Hid (w.heap.size ≤ xa.v.heap.size ∧ xa.v.heap.size < w1.heap.size) := by have := hba.size; have := xa.b.size; exact ⟨by omega, by omega⟩
  clear A0 A1 hba hza hb2 hz2 hb1 hi
  have HO := Lib.hid (Ro.ok_iff.2 hD)
  have HD := Lib.hid hD
  have hn8 := hD.n; have hm6 := hD.m
  have hn : D.n ≤ maxLen := by unfold maxLen; omega
  have hm : D.m ≤ maxLen := by unfold maxLen; omega
  have j0 : ((0 : Int) != 0) = false := by decide
  clear hD
  go_enter Try.func58, Try.ntmps58
  go_wp2_with fail
  refine (quiet_x (checkR_iv (chk_ok HO.out) _ hn hm (HI.out _))).mono ?_
  rintro e w' ⟨rfl, y, rfl⟩
  go_wp2
  clear hw1 hw2
  go_loopw [5] (fun v wr => ∃ k : Nat, v = .int .i64 (k : Int) ∧ k ≤ D.n ∧ lkT D k = none ∧ ∃ z : Ext w1, wr = z.v) (fun v _ => D.n - (intOf v).toNat)
  case atStart => exact ⟨0, rfl, Nat.zero_le _, rfl, y, rfl⟩
  case round =>
    obtain ⟨k, rfl, hk, hno, z, rfl⟩ := hrel
    have HNO := Lib.hid hno; clear hno
    by_cases hlt : k < D.n
    · have jk : decide ((k : Int) < (D.n : Int)) = true := by simp; omega
      have hkn : (k : Int) < (D.n : Int) := by omega
      go_wp2
      go_loopw [6] (fun v wr => ∃ j : Nat, v = .int .i64 ((j : Int) - 1) ∧ j ≤ k + 1 ∧ lkL D k (k + 1) = lkL D k j ∧ ∃ z : Ext w1, wr = z.v) (fun v _ => ((intOf v) + 1).toNat)
      case atStart => exact ⟨k + 1, by congr 1; omega, Nat.le_refl _, rfl, z, rfl⟩
      case round =>
        obtain ⟨j, rfl, hj, hl, z2, rfl⟩ := hrel
        have HL := Lib.hid hl; clear hl
        cases j with
        | zero =>
          have HV := Lib.hid (show lkT D (k + 1) = none by rw [lkT_step HNO.out, HL.out]; rfl)
          have e0 : (((0 : Nat) : Int) - 1) = -1 := by omega
          rw [e0]
          have j0 : decide ((0 : Int) ≤ -1) = false := by decide
          go_wp2
          go_roundw
          case rel => exact ⟨k + 1, by go_num, hlt, HV.out, z2, rfl⟩
          case measure => first | (simp [intOf]; done) | (simp [intOf]; omega)
        | succ j =>
          have e0 : (((j + 1 : Nat) : Int) - 1) = (j : Int) := by omega
          rw [e0]
          clear e0
          have j0 : decide ((0 : Int) ≤ (j : Int)) = true := by simp
          have n0 : (0 : Int) ≤ (j : Int) := by omega
          obtain ⟨w3, x3, hw3, hb3, hz3, G0, G1, _⟩ := box_span z2.v (j : Int) (k : Int)
          have H13 := Lib.hid (bT z2.b hb3)
          have HI3 : Hid (∀ z : Ext w3, RoIn z.v z.v.heap.size D p q) := fun z => HI.out (z.up H13.out)
          have F03 : ∀ z : Ext w3, z.v.cell? ⟨w.heap.size, 0, none⟩ = some (.slice p D.n c) := fun z => F0 (z.up H13.out)
          have F13 : ∀ z : Ext w3, z.v.cell? ⟨w.heap.size, 1, none⟩ = some (.slice q D.m d) := fun z => F1 (z.up H13.out)
          clear hb3 hz3
          cases hb : lacksB D j k with
          | true =>
            have HLK := Lib.hid (show lkT D D.n = some (j, k) by
              have e1 : lkL D k (j + 1) = some j := by unfold lkL; rw [hb]; rfl
              have e2 : lkT D (k + 1) = some (j, k) := by rw [lkT_step HNO.out, HL.out, e1]; rfl
              have := lkT_keep e2 (D.n - (k + 1))
              rw [show k + 1 + (D.n - (k + 1)) = D.n by omega] at this
              exact this)
            have HBB := Lib.hid hb; clear hb
            have ea : lkA D = (j : Int) := by unfold lkA; rw [HLK.out]
            have eb : lkB D = (k : Int) := by unfold lkB; rw [HLK.out]
            have es : lkE D = 0 := by unfold lkE; rw [HLK.out]; rfl
            have HEQ := Lib.hid (And.intro ea (And.intro eb es))
            clear ea eb es
            go_wp2_with fail
            refine (quiet_x (lacksR_is HBB.out _ HD.out (by omega) hlt (HI3.out _))).mono ?_
            rintro e w' ⟨rfl, y4, rfl⟩
            obtain ⟨q0, q1⟩ := set_pair (w := y4.v) (u := .int .i64 (j : Int)) (v := .int .i64 (k : Int)) (P0 (y4.up H13.out)) (P1 (y4.up H13.out)) (Pf (y4.up H13.out))
            have HQ : Hid (Below w.heap.size w ((y4.v.setCell ⟨xa.v.heap.size, 0, none⟩ (.int .i64 (j : Int))).setCell ⟨xa.v.heap.size, 1, none⟩ (.int .i64 (k : Int)))) := bS (bS (HW.out (y4.up H13.out)) HZ.out.1 _) HZ.out.1 _
            have p0 : y4.v.cell? ⟨xa.v.heap.size, 0, none⟩ = some (.int .i64 0) := P0 (y4.up H13.out)
            have p1 : y4.v.cell? ⟨xa.v.heap.size, 1, none⟩ = some (.int .i64 0) := P1 (y4.up H13.out)
            have pf : ∀ i, y4.v.frozen? ⟨xa.v.heap.size, i, none⟩ = false := Pf (y4.up H13.out)
            go_wp2
            exact bodyPost_ret (v := .tuple #[.agg #[.int .i64 (j : Int), .int .i64 (k : Int)], .int .i64 0]) (by simp [results, Try.f58, go_sem, q0, q1]) rfl ⟨by rw [HEQ.out.1, HEQ.out.2.1, HEQ.out.2.2], HQ.out⟩
          | false =>
            have HLN := Lib.hid (show lkL D k (k + 1) = lkL D k j by rw [HL.out]; show (if lacksB D j k then some j else lkL D k j) = _; rw [hb]; rfl)
            have HBB := Lib.hid hb; clear hb
            go_wp2_with fail
            refine (quiet_x (lacksR_is HBB.out _ HD.out (by omega) hlt (HI3.out _))).mono ?_
            rintro e w' ⟨rfl, y4, rfl⟩
            go_wp2
            go_roundw
            case rel => exact ⟨j, by go_num, by omega, HLN.out, y4.up H13.out, rfl⟩
            case measure => first | (simp [intOf]; done) | (simp [intOf]; omega)
    · have hke : k = D.n := by omega
      subst hke
      have jk : decide ((D.n : Int) < (D.n : Int)) = false := by simp
      have HEQ : Hid (lkA D = 0 ∧ lkB D = 0 ∧ lkE D = 3) := ⟨by unfold lkA; rw [HNO.out], by unfold lkB; rw [HNO.out], by unfold lkE; rw [HNO.out]; rfl⟩
      obtain ⟨q0, q1⟩ := set_pair (w := z.v) (u := .int .i64 0) (v := .int .i64 0) (P0 z) (P1 z) (Pf z)
      have HQ : Hid (Below w.heap.size w ((z.v.setCell ⟨xa.v.heap.size, 0, none⟩ (.int .i64 0)).setCell ⟨xa.v.heap.size, 1, none⟩ (.int .i64 0))) := bS (bS (HW.out z) HZ.out.1 _) HZ.out.1 _
      have p0 : z.v.cell? ⟨xa.v.heap.size, 0, none⟩ = some (.int .i64 0) := P0 z
      have p1 : z.v.cell? ⟨xa.v.heap.size, 1, none⟩ = some (.int .i64 0) := P1 z
      have pf : ∀ i, z.v.frozen? ⟨xa.v.heap.size, i, none⟩ = false := Pf z
      go_wp2
      exact bodyPost_ret (v := .tuple #[.agg #[.int .i64 0, .int .i64 0], .int .i64 3]) (by simp [results, Try.f58, go_sem, q0, q1]) rfl ⟨by rw [HEQ.out.1, HEQ.out.2.1, HEQ.out.2.2], HQ.out⟩

set_option maxRecDepth 100000 in
set_option maxHeartbeats 16000000 in
theorem swapR_any (D : Ro) (p q lp : Option Addr) (c d lc : Nat) (f : Nat → Int) (w : World) (hD : OkP D) (hN : NR D f) (hi : RoIn w w.heap.size D p q) (hf : NumIn w w.heap.size D.m f lp) :
    Calls Try.prog 59 #[.agg #[.slice p D.n c, .slice q D.m d], .slice lp D.m lc] w fun e w' => ((∃ a b : Nat, FstSw D f a b ∧ e = .returned (.tuple #[.agg #[.int .i64 (a : Int), .int .i64 (b : Int)], .int .i64 0])) ∨ (NoSw D f ∧ e = .returned (.tuple #[.agg #[.int .i64 0, .int .i64 0], .int .i64 3]))) ∧ Below w.heap.size w w' := by
  obtain ⟨wa, xa, hw1, hba, hza, A0, A1, _⟩ := box_ro w p q D.n D.m c d
  obtain ⟨w1, x1, hw2, hb2, hz2, P0, P1, Pf⟩ := box_pair xa.v 0 0
  have hb1 : Below wa.heap.size wa w1 := bT xa.b hb2
  have F0 : ∀ z : Ext w1, z.v.cell? ⟨w.heap.size, 0, none⟩ = some (.slice p D.n c) := fun z => A0 (z.up hb1)
  have F1 : ∀ z : Ext w1, z.v.cell? ⟨w.heap.size, 1, none⟩ = some (.slice q D.m d) := fun z => A1 (z.up hb1)
  have HW : Hid (∀ z : Ext w1, Below w.heap.size w z.v) := fun z => bT hba (bT hb1 z.b)
  have HI : Hid (∀ z : Ext w1, RoIn z.v z.v.heap.size D p q) := fun z => (hi.bel (bT hba hb1)).bel z.b
  have HL : Hid (∀ z : Ext w1, NumIn z.v z.v.heap.size D.m f lp) := fun z => (hf.bel (bT hba hb1)).bel z.b
  have HZ : Hid (w.heap.size ≤ xa.v.heap.size ∧ xa.v.heap.size < w1.heap.size) := by have := hba.size; have := xa.b.size; exact ⟨by omega, by omega⟩
  clear A0 A1 hba hza hb2 hz2 hb1 hi hf
  have HD := Lib.hid hD
  have hm6 := hD.m; have hn8 := hD.n
  have HE := Lib.hid (newE_ok (Ro.ok_iff.2 hD) ((isNw_iff hD).2 ⟨rfl, hN⟩))
  have hn : D.n ≤ maxLen := by unfold maxLen; omega
  have hm : D.m ≤ maxLen := by unfold maxLen; omega
  have i0 : ((0 : Int) != 0) = false := by decide
  obtain ⟨cs, hcs⟩ : ∃ x, costF D f D.m = x := ⟨_, rfl⟩
  have HC := Lib.hid (fun (V : World) hV hY => costR_any D p q lp c d lc f V hD (hN.inH hD) hV hY)
  rw [hcs] at HC
  have HCS := Lib.hid hcs
  clear hcs hN hD
  go_enter Try.func59, Try.ntmps59
  go_wp2_with fail
  refine (quiet_x (given_is HE.out _ hn hm (HI.out _) (HL.out _))).mono ?_
  rintro e w' ⟨rfl, y, rfl⟩
  go_wp2
  clear hw1 hw2
  go_loopw [7] (fun v wr => ∃ a : Nat, v = .int .i64 (a : Int) ∧ a ≤ D.m ∧ (∀ a' b', a' < b' → b' < D.m → a' < a → swB D f a' b' = false) ∧ ∃ z : Ext w1, wr = z.v) (fun v _ => D.m - (intOf v).toNat)
  case atStart => exact ⟨0, rfl, Nat.zero_le _, fun _ _ _ _ h => absurd h (Nat.not_lt_zero _), y, rfl⟩
  case round =>
    obtain ⟨a, rfl, ha, hbef, z, rfl⟩ := hrel
    have HBEF := Lib.hid hbef; clear hbef
    by_cases hlt : a < D.m
    · have j : decide ((a : Int) < (D.m : Int)) = true := by simp; omega
      have ham : (a : Int) < (D.m : Int) := by omega
      have ew : IntKind.i64.wrap ((a : Int) + 1) = ((a + 1 : Nat) : Int) := by rw [IntWalk.i64_in _ (by omega)]; omega
      go_wp2
      go_loopw [8] (fun v wr => ∃ b : Nat, v = .int .i64 (b : Int) ∧ a < b ∧ b ≤ D.m ∧ (∀ b', a < b' → b' < b → swB D f a b' = false) ∧ ∃ z : Ext w1, wr = z.v) (fun v _ => D.m - (intOf v).toNat)
      case atStart => exact ⟨a + 1, by first | rfl | go_num, Nat.lt_succ_self _, hlt, fun _ h1 h2 => by omega, z, rfl⟩
      case round =>
        clear ew j
        obtain ⟨b, rfl, hab, hb, hbef2, z2, rfl⟩ := hrel
        have HB2 := Lib.hid hbef2; clear hbef2
        by_cases hlb : b < D.m
        · have jb : decide ((b : Int) < (D.m : Int)) = true := by simp; omega
          have hbm : (b : Int) < (D.m : Int) := by omega
          obtain ⟨w3, x3, hw3, hb3, hz3, G0, G1, _⟩ := box_pair z2.v (a : Int) (b : Int)
          have H13 := Lib.hid (bT z2.b hb3)
          have HL3 : Hid (∀ z : Ext w3, NumIn z.v z.v.heap.size D.m f lp) := fun z => HL.out (z.up H13.out)
          have F03 : ∀ z : Ext w3, z.v.cell? ⟨w.heap.size, 0, none⟩ = some (.slice p D.n c) := fun z => F0 (z.up H13.out)
          have F13 : ∀ z : Ext w3, z.v.cell? ⟨w.heap.size, 1, none⟩ = some (.slice q D.m d) := fun z => F1 (z.up H13.out)
          clear hb3 hz3
          go_wp2_with fail
          refine (exchR_any D.m lp lc a b f _ (by omega) hlt hlb hab (HL3.out _)).mono ?_
          rintro e wx ⟨yx, cx, rfl, hbx, hnx⟩
          have hbx2 : Below w3.heap.size w3 wx := bT x3.b hbx
          have H1X := Lib.hid (bT H13.out hbx2)
          have HNX : Hid (∀ y : Ext wx, NumIn y.v y.v.heap.size D.m (exch f a b) yx) := fun y => hnx.bel y.b
          have HI9 : Hid (∀ y : Ext wx, RoIn y.v y.v.heap.size D p q) := fun y => HI.out (y.up H1X.out)
          have HN9 : Hid (∀ y : Ext wx, NumIn y.v y.v.heap.size D.m f lp) := fun y => HL.out (y.up H1X.out)
          have F09 : ∀ y : Ext wx, y.v.cell? ⟨w.heap.size, 0, none⟩ = some (.slice p D.n c) := fun y => F0 (y.up H1X.out)
          have F19 : ∀ y : Ext wx, y.v.cell? ⟨w.heap.size, 1, none⟩ = some (.slice q D.m d) := fun y => F1 (y.up H1X.out)
          have G09 : ∀ y : Ext wx, y.v.cell? ⟨z2.v.heap.size, 0, none⟩ = some (.int .i64 (a : Int)) := fun y => G0 (y.up hbx2)
          have G19 : ∀ y : Ext wx, y.v.cell? ⟨z2.v.heap.size, 1, none⟩ = some (.int .i64 (b : Int)) := fun y => G1 (y.up hbx2)
          clear hbx hbx2 hnx hw3 F03 F13 G0 G1
          obtain ⟨z9, hz9⟩ := rebase wx
          rw [hz9]
          clear hz9
          obtain ⟨ne, hne⟩ : ∃ x, isNw D D.m (exch f a b) = x := ⟨_, rfl⟩
          have HNE := Lib.hid hne
          cases ne with
          | false =>
            have HV := Lib.hid (show swB D f a b = false from by simp [swB, hne])
            clear hne
            go_wp2
            refine quiet_e (by kernel_rfl) (by kernel_rfl) ?_
            repeat (first | go_big_quiet_step ((first | (go_at_call 23; exact quiet_x (isNewR_is HNE.out _ HD.out (HI9.out _) (HNX.out _))))) | quiet_step ((first | (go_at_call 23; exact quiet_x (isNewR_is HNE.out _ HD.out (HI9.out _) (HNX.out _))))))
            refine wpQuiet_nil ?_
            intro w6 hw6
            obtain ⟨s3, rfl⟩ := hw6
            go_wp2
            go_roundw
            case rel => exact ⟨b + 1, by go_num, by omega, hlb, fun b' h1 h2 => (by rcases Nat.lt_succ_iff_lt_or_eq.1 h2 with h3 | rfl; (exact HB2.out b' h1 h3); (exact HV.out)), s3.up H1X.out, rfl⟩
            case measure => first | (simp [intOf]; done) | (simp [intOf]; omega)
          | true =>
            have hnr := ((isNw_iff HD.out).1 hne).2
            obtain ⟨ce, hce⟩ : ∃ x, costF D (exch f a b) D.m = x := ⟨_, rfl⟩
            have HCE := Lib.hid (fun (V : World) (Y : Option Addr) (Z : Nat) hV hY => costR_any D p q Y c d Z (exch f a b) V HD.out (hnr.inH HD.out) hV hY)
            rw [hce] at HCE
            by_cases hlc : ce < cs
            · have jc : decide (ce < cs) = true := by simpa using hlc
              have HV := Lib.hid (show swB D f a b = true from by simp [swB, hne, hce, HCS.out]; exact hlc)
              clear hne hce hnr
              go_wp2
              refine quiet_e (by kernel_rfl) (by kernel_rfl) ?_
              repeat (first | go_big_quiet_step ((first | (go_at_call 23; exact quiet_x (isNewR_is HNE.out _ HD.out (HI9.out _) (HNX.out _))) | (go_at_call 24; exact quiet_x (HCE.out _ _ _ (HI9.out _) (HNX.out _))) | (go_at_call 24; exact quiet_x (HC.out _ (HI9.out _) (HN9.out _))))) | quiet_step ((first | (go_at_call 23; exact quiet_x (isNewR_is HNE.out _ HD.out (HI9.out _) (HNX.out _))) | (go_at_call 24; exact quiet_x (HCE.out _ _ _ (HI9.out _) (HNX.out _))) | (go_at_call 24; exact quiet_x (HC.out _ (HI9.out _) (HN9.out _))))))
              refine wpQuiet_nil ?_
              intro w6 hw6
              obtain ⟨s3, rfl⟩ := hw6
              obtain ⟨q0, q1⟩ := set_pair (w := s3.v) (u := .int .i64 (a : Int)) (v := .int .i64 (b : Int)) (P0 (s3.up H1X.out)) (P1 (s3.up H1X.out)) (Pf (s3.up H1X.out))
              have HQ : Hid (Below w.heap.size w ((s3.v.setCell ⟨xa.v.heap.size, 0, none⟩ (.int .i64 (a : Int))).setCell ⟨xa.v.heap.size, 1, none⟩ (.int .i64 (b : Int)))) := bS (bS (HW.out (s3.up H1X.out)) HZ.out.1 _) HZ.out.1 _
              have p0 : s3.v.cell? ⟨xa.v.heap.size, 0, none⟩ = some (.int .i64 0) := P0 (s3.up H1X.out)
              have p1 : s3.v.cell? ⟨xa.v.heap.size, 1, none⟩ = some (.int .i64 0) := P1 (s3.up H1X.out)
              have pf : ∀ i, s3.v.frozen? ⟨xa.v.heap.size, i, none⟩ = false := Pf (s3.up H1X.out)
              go_wp2
              exact bodyPost_ret (v := .tuple #[.agg #[.int .i64 (a : Int), .int .i64 (b : Int)], .int .i64 0]) (by simp [results, Try.f59, go_sem, q0, q1]) rfl ⟨.inl ⟨a, b, ⟨by omega, hlb, HV.out, fun a2 b2 h1 h2 h3 => (by rcases h3 with h3 | ⟨rfl, h3⟩; (exact HBEF.out a2 b2 h1 h2 h3); (exact HB2.out b2 h1 h3))⟩, rfl⟩, HQ.out⟩
            · have jc : decide (ce < cs) = false := by simpa using hlc
              have HV := Lib.hid (show swB D f a b = false from by simp [swB, hne, hce, HCS.out]; omega)
              clear hne hce hnr
              go_wp2
              refine quiet_e (by kernel_rfl) (by kernel_rfl) ?_
              repeat (first | go_big_quiet_step ((first | (go_at_call 23; exact quiet_x (isNewR_is HNE.out _ HD.out (HI9.out _) (HNX.out _))) | (go_at_call 24; exact quiet_x (HCE.out _ _ _ (HI9.out _) (HNX.out _))) | (go_at_call 24; exact quiet_x (HC.out _ (HI9.out _) (HN9.out _))))) | quiet_step ((first | (go_at_call 23; exact quiet_x (isNewR_is HNE.out _ HD.out (HI9.out _) (HNX.out _))) | (go_at_call 24; exact quiet_x (HCE.out _ _ _ (HI9.out _) (HNX.out _))) | (go_at_call 24; exact quiet_x (HC.out _ (HI9.out _) (HN9.out _))))))
              refine wpQuiet_nil ?_
              intro w6 hw6
              obtain ⟨s3, rfl⟩ := hw6
              go_wp2
              go_roundw
              case rel => exact ⟨b + 1, by go_num, by omega, hlb, fun b' h1 h2 => (by rcases Nat.lt_succ_iff_lt_or_eq.1 h2 with h3 | rfl; (exact HB2.out b' h1 h3); (exact HV.out)), s3.up H1X.out, rfl⟩
              case measure => first | (simp [intOf]; done) | (simp [intOf]; omega)
        · have hbe : b = D.m := by omega
          subst hbe
          have jb : decide ((D.m : Int) < (D.m : Int)) = false := by simp
          go_wp2
          go_roundw
          case rel => exact ⟨a + 1, by go_num, hlt, fun a' b' h1 h2 h3 => (by rcases Nat.lt_succ_iff_lt_or_eq.1 h3 with h4 | rfl; (exact HBEF.out a' b' h1 h2 h4); (exact HB2.out b' h1 h2)), z2, rfl⟩
          case measure => first | (simp [intOf]; done) | (simp [intOf]; omega)
    · have hae : a = D.m := by omega
      subst hae
      have j : decide ((D.m : Int) < (D.m : Int)) = false := by simp
      obtain ⟨q0, q1⟩ := set_pair (w := z.v) (u := .int .i64 0) (v := .int .i64 0) (P0 z) (P1 z) (Pf z)
      have HQ : Hid (Below w.heap.size w ((z.v.setCell ⟨xa.v.heap.size, 0, none⟩ (.int .i64 0)).setCell ⟨xa.v.heap.size, 1, none⟩ (.int .i64 0))) := bS (bS (HW.out z) HZ.out.1 _) HZ.out.1 _
      have p0 : z.v.cell? ⟨xa.v.heap.size, 0, none⟩ = some (.int .i64 0) := P0 z
      have p1 : z.v.cell? ⟨xa.v.heap.size, 1, none⟩ = some (.int .i64 0) := P1 z
      have pf : ∀ i, z.v.frozen? ⟨xa.v.heap.size, i, none⟩ = false := Pf z
      go_wp2
      exact bodyPost_ret (v := .tuple #[.agg #[.int .i64 0, .int .i64 0], .int .i64 3]) (by simp [results, Try.f59, go_sem, q0, q1]) rfl ⟨.inr ⟨fun a2 b2 h1 h2 => HBEF.out a2 b2 h1 h2 (by omega), rfl⟩, HQ.out⟩

theorem far_parts2 {D : Ro} (h : farV D = false) : D.n ≤ 40 ∧ D.m ≤ 40 := by
  simp only [farV, hugeV, Bool.or_eq_false_iff, decide_eq_false_iff_not] at h
  omega
theorem FstSw.one {D : Ro} {f : Nat → Int} {a b a' b' : Nat} (h : FstSw D f a b) (h' : FstSw D f a' b') : a = a' ∧ b = b' := by
  have n1 : ¬ (a' < a ∨ (a' = a ∧ b' < b)) := fun hc => by have := h.fst a' b' h'.ab h'.bm hc; rw [h'.good] at this; cases this
  have n2 : ¬ (a < a' ∨ (a = a' ∧ b < b')) := fun hc => by have := h'.fst a b h.ab h.bm hc; rw [h.good] at this; cases this
  omega
theorem FstSw.some {D : Ro} {f : Nat → Int} {a b : Nat} (h : FstSw D f a b) (h' : NoSw D f) : False := by
  have := h' a b h.ab h.bm; rw [h.good] at this; cases this
set_option maxRecDepth 100000 in
set_option maxHeartbeats 4000000 in
theorem swap_o1 (D : Ro) (p q : Option Addr) (c d : Nat) (lp : Option Addr) (lc l : Nat) (f : Nat → Int) (h : Int) (w : World) (hn : D.n ≤ maxLen) (hm : D.m ≤ maxLen) (hl : l ≤ maxLen) (hr : farV D = true) (hi : RoIn w w.heap.size D p q) (hf : NumIn w w.heap.size l f lp) :
    Calls Try.prog 14 #[.agg #[.slice p D.n c, .slice q D.m d], .slice lp l lc, .int .i64 h] w fun e w' => e = .returned (.bool true) ∧ Below w.heap.size w w' := by
  obtain ⟨w1, x1, hw1, hb1, hz1, F0i, F1i, _⟩ := box_ro w p q D.n D.m c d
  have HW_0 : Hid (∀ z : Ext w1, Below w.heap.size w z.v) := fun z => bT hb1 z.b
  have HI_0 : Hid (∀ z : Ext w1, RoIn z.v z.v.heap.size D p q) := fun z => (hi.bel hb1).bel z.b
  have HL_0 : Hid (∀ z : Ext w1, NumIn z.v z.v.heap.size l f lp) := fun z => (hf.bel hb1).bel z.b
  clear hb1 hz1 hi hf
  have F0_0 : ∀ z : Ext w1, z.v.cell? ⟨w.heap.size, 0, none⟩ = some (.slice p D.n c) := fun z => F0i z
  have F1_0 : ∀ z : Ext w1, z.v.cell? ⟨w.heap.size, 1, none⟩ = some (.slice q D.m d) := fun z => F1i z
  have HR := Lib.hid hr; clear hr
  go_enter Try.func14, Try.ntmps14
  go_wp2_with fail
  refine (quiet_x (far_is HR.out _ hn hm (HI_0.out _))).mono ?_
  rintro e w' ⟨rfl, y, rfl⟩
  go_wp2_with fail
  refine (quiet_x (works_ex _)).mono ?_
  rintro e w' ⟨rfl, y2, rfl⟩
  go_wp2
  go_ret
  exact ⟨rfl, HW_0.out y2⟩
set_option maxRecDepth 100000 in
set_option maxHeartbeats 4000000 in
theorem swap_o2 (D : Ro) (p q : Option Addr) (c d : Nat) (lp : Option Addr) (lc l : Nat) (f : Nat → Int) (h : Int) (w : World) (hn : D.n ≤ maxLen) (hm : D.m ≤ maxLen) (hl : l ≤ maxLen) (hr : farV D = false) (h4 : 40 < l) (hi : RoIn w w.heap.size D p q) (hf : NumIn w w.heap.size l f lp) :
    Calls Try.prog 14 #[.agg #[.slice p D.n c, .slice q D.m d], .slice lp l lc, .int .i64 h] w fun e w' => e = .returned (.bool true) ∧ Below w.heap.size w w' := by
  obtain ⟨w1, x1, hw1, hb1, hz1, F0i, F1i, _⟩ := box_ro w p q D.n D.m c d
  have HW_0 : Hid (∀ z : Ext w1, Below w.heap.size w z.v) := fun z => bT hb1 z.b
  have HI_0 : Hid (∀ z : Ext w1, RoIn z.v z.v.heap.size D p q) := fun z => (hi.bel hb1).bel z.b
  have HL_0 : Hid (∀ z : Ext w1, NumIn z.v z.v.heap.size l f lp) := fun z => (hf.bel hb1).bel z.b
  clear hb1 hz1 hi hf
  have F0_0 : ∀ z : Ext w1, z.v.cell? ⟨w.heap.size, 0, none⟩ = some (.slice p D.n c) := fun z => F0i z
  have F1_0 : ∀ z : Ext w1, z.v.cell? ⟨w.heap.size, 1, none⟩ = some (.slice q D.m d) := fun z => F1i z
  have HR := Lib.hid hr; clear hr
  have j4 : decide (40 < (l : Int)) = true := by simp; omega
  go_enter Try.func14, Try.ntmps14
  go_wp2_with fail
  refine (quiet_x (far_is HR.out _ hn hm (HI_0.out _))).mono ?_
  rintro e w' ⟨rfl, y, rfl⟩
  go_wp2_with fail
  refine (quiet_x (works_ex _)).mono ?_
  rintro e w' ⟨rfl, y2, rfl⟩
  go_wp2
  go_ret
  exact ⟨rfl, HW_0.out y2⟩
set_option maxRecDepth 100000 in
set_option maxHeartbeats 16000000 in
theorem swap_in (D : Ro) (p q : Option Addr) (c d : Nat) (lp : Option Addr) (lc l : Nat) (f : Nat → Int) (h : Int) (w : World) (la lb le sa sb se gv ge : Int) (hr : farV D = false) (hl : l ≤ 40)
    (HLP : ∀ (p q : Option Addr) (c d : Nat) (V : World), D.n ≤ c → RoIn V V.heap.size D p q → Calls Try.prog 20 #[.agg #[.slice p D.n c, .slice q D.m d]] V fun e w' => e = .returned (.tuple #[.agg #[.int .i64 la, .int .i64 lb], .int .i64 le]) ∧ Below V.heap.size V w')
    (HLR : ∀ (p q : Option Addr) (c d : Nat) (V : World), RoIn V V.heap.size D p q → Calls Try.prog 58 #[.agg #[.slice p D.n c, .slice q D.m d]] V fun e w' => e = .returned (.tuple #[.agg #[.int .i64 la, .int .i64 lb], .int .i64 le]) ∧ Below V.heap.size V w')
    (HSP : ∀ (p q : Option Addr) (c d : Nat) (lp : Option Addr) (lc : Nat) (V : World), RoIn V V.heap.size D p q → NumIn V V.heap.size l f lp → Calls Try.prog 34 #[.agg #[.slice p D.n c, .slice q D.m d], .slice lp l lc] V fun e w' => e = .returned (.tuple #[.agg #[.int .i64 sa, .int .i64 sb], .int .i64 se]) ∧ Below V.heap.size V w')
    (HSR : ∀ (p q : Option Addr) (c d : Nat) (lp : Option Addr) (lc : Nat) (V : World), RoIn V V.heap.size D p q → NumIn V V.heap.size l f lp → Calls Try.prog 59 #[.agg #[.slice p D.n c, .slice q D.m d], .slice lp l lc] V fun e w' => e = .returned (.tuple #[.agg #[.int .i64 sa, .int .i64 sb], .int .i64 se]) ∧ Below V.heap.size V w')
    (HGP : ∀ (p q : Option Addr) (c d : Nat) (V : World), RoIn V V.heap.size D p q → Calls Try.prog 38 #[.agg #[.slice p D.n c, .slice q D.m d], .int .i64 h] V fun e w' => e = .returned (.tuple #[.int .i64 gv, .int .i64 ge]) ∧ Below V.heap.size V w')
    (HGR : ∀ (p q : Option Addr) (c d : Nat) (V : World), RoIn V V.heap.size D p q → Calls Try.prog 60 #[.agg #[.slice p D.n c, .slice q D.m d], .int .i64 h] V fun e w' => e = .returned (.tuple #[.int .i64 gv, .int .i64 ge]) ∧ Below V.heap.size V w') (hi : RoIn w w.heap.size D p q) (hf : NumIn w w.heap.size l f lp) :
    Calls Try.prog 14 #[.agg #[.slice p D.n c, .slice q D.m d], .slice lp l lc, .int .i64 h] w fun e w' => e = .returned (.bool true) ∧ Below w.heap.size w w' := by
  obtain ⟨w1, x1, hw1, hb1, hz1, F0i, F1i, _⟩ := box_ro w p q D.n D.m c d
  have HW_0 : Hid (∀ z : Ext w1, Below w.heap.size w z.v) := fun z => bT hb1 z.b
  have HI_0 : Hid (∀ z : Ext w1, RoIn z.v z.v.heap.size D p q) := fun z => (hi.bel hb1).bel z.b
  have HL_0 : Hid (∀ z : Ext w1, NumIn z.v z.v.heap.size l f lp) := fun z => (hf.bel hb1).bel z.b
  clear hb1 hz1 hi hf
  have F0_0 : ∀ z : Ext w1, z.v.cell? ⟨w.heap.size, 0, none⟩ = some (.slice p D.n c) := fun z => F0i z
  have F1_0 : ∀ z : Ext w1, z.v.cell? ⟨w.heap.size, 1, none⟩ = some (.slice q D.m d) := fun z => F1i z
  obtain ⟨hn40, hm40⟩ := far_parts2 hr
  have HR := Lib.hid hr; clear hr
  have hn : D.n ≤ maxLen := by unfold maxLen; omega
  have hm : D.m ≤ maxLen := by unfold maxLen; omega
  have j4 : decide (40 < (l : Int)) = false := by simp; omega
  have H1 := Lib.hid HLP; have H2 := Lib.hid HLR; have H3 := Lib.hid HSP; have H4 := Lib.hid HSR; have H5 := Lib.hid HGP; have H6 := Lib.hid HGR
  clear HLP HLR HSP HSR HGP HGR
  have i1 : (la == la) = true := by simp
  have i2 : (lb == lb) = true := by simp
  have i3 : (le == le) = true := by simp
  have i4 : (sa == sa) = true := by simp
  have i5 : (sb == sb) = true := by simp
  have i6 : (se == se) = true := by simp
  have i7 : (gv == gv) = true := by simp
  have i8 : (ge == ge) = true := by simp
  go_enter Try.func14, Try.ntmps14
  go_wp2_with fail
  refine (quiet_x (far_is HR.out _ hn hm (HI_0.out _))).mono ?_
  rintro e w' ⟨rfl, y, rfl⟩
  go_wp2_with fail
  refine (copyC_any D p q c d _ (by omega) (by omega) (HI_0.out y)).mono ?_
  rintro e wc ⟨p', c', q', d', rfl, hcp, hcc⟩
  have HCC := Lib.hid hcc; clear hcc
  have hin := hcp.here
  have HXc := Lib.hid (bT y.b hcp.below)
  obtain ⟨wl, hwl⟩ : ∃ wl, wc.alloc (Obj.cells #[] 3) = wl := ⟨_, rfl⟩
  have hbl : Below wc.heap.size wc wl := by rw [← hwl]; exact bA (Below.refl _ _) _
  have HBL := Lib.hid hbl; clear hbl
  obtain ⟨i3, hi3, hz3, hz3', hz3''⟩ := info_parts infoI
  have I3 := Lib.hid hi3; have Z3 := Lib.hid hz3; have Z3' := Lib.hid hz3'; have Z3'' := Lib.hid hz3''; clear hi3 hz3 hz3' hz3''
  have S1 := Lib.hid (show l ≤ maxLen by unfold maxLen; omega)
  have HLc := Lib.hid (HL_0.out ⟨wl, bT HXc.out HBL.out⟩)
  have HIN := Lib.hid hin; clear hin hcp
  go_wp2_with (at_builtin; refine wpList_append_copy rfl (.tmp 31) (.tmp 32) 22 rfl 3 i3 _ 1 8 Try.underlying22 I3.out Z3.out Z3'.out Z3''.out rfl (by decide) _ (by simp [Act.eval, Act.put]; rfl) lp l lc (by simp [Act.eval, Act.put]) (srcN HLc.out) S1.out (by omega) ?_)
  intro yk ck wk hck
  have hnew := copied_new HLc.out HBL.out (by simpa using hck)
  have hnk := hnew.num
  obtain ⟨w3, x3, hw3, hb3, hz3, O0i, O1i, _⟩ := box_ro wk p' q' D.n D.m c' d'
  have HX3 := Lib.hid (bT (bT HXc.out hnew.below) hb3)
  have HO_1 : Hid (∀ z : Ext w3, RoIn z.v z.v.heap.size D p' q') := fun z => ((HIN.out.bel hnew.below).bel hb3).bel z.b
  have HK_1 : Hid (∀ z : Ext w3, NumIn z.v z.v.heap.size l f yk) := fun z => (hnk.bel hb3).bel z.b
  clear hb3 hz3 hnew hnk hck hw1 hwl HBL HIN
  have HI_1 : Hid (∀ z : Ext w3, RoIn z.v z.v.heap.size D p q) := fun z => HI_0.out (z.up HX3.out)
  have HL_1 : Hid (∀ z : Ext w3, NumIn z.v z.v.heap.size l f lp) := fun z => HL_0.out (z.up HX3.out)
  have F0_1 : ∀ z : Ext w3, z.v.cell? ⟨w.heap.size, 0, none⟩ = some (.slice p D.n c) := fun z => F0_0 (z.up HX3.out)
  have F1_1 : ∀ z : Ext w3, z.v.cell? ⟨w.heap.size, 1, none⟩ = some (.slice q D.m d) := fun z => F1_0 (z.up HX3.out)
  have HW_1 : Hid (∀ z : Ext w3, Below w.heap.size w z.v) := fun z => HW_0.out (z.up HX3.out)
  clear HI_0 HL_0 F0_0 F1_0 HW_0
  have O0_1 : ∀ z : Ext w3, z.v.cell? ⟨wk.heap.size, 0, none⟩ = some (.slice p' D.n c') := fun z => O0i z
  have O1_1 : ∀ z : Ext w3, z.v.cell? ⟨wk.heap.size, 1, none⟩ = some (.slice q' D.m d') := fun z => O1i z
  go_wp2_with fail
  refine (quiet_x (H1.out _ _ _ _ _ HCC.out (HO_1.out _))).mono ?_
  rintro e w' ⟨rfl, y1, rfl⟩
  obtain ⟨v10, x10, hw10, hb10, hz10, S0i10, S1i10, _⟩ := box_span y1.v la lb
  have HX10 := Lib.hid (bT y1.b hb10)
  clear hb10 hz10
  have HI_2 : Hid (∀ z : Ext v10, RoIn z.v z.v.heap.size D p q) := fun z => HI_1.out (z.up HX10.out)
  have HL_2 : Hid (∀ z : Ext v10, NumIn z.v z.v.heap.size l f lp) := fun z => HL_1.out (z.up HX10.out)
  have F0_2 : ∀ z : Ext v10, z.v.cell? ⟨w.heap.size, 0, none⟩ = some (.slice p D.n c) := fun z => F0_1 (z.up HX10.out)
  have F1_2 : ∀ z : Ext v10, z.v.cell? ⟨w.heap.size, 1, none⟩ = some (.slice q D.m d) := fun z => F1_1 (z.up HX10.out)
  have HW_2 : Hid (∀ z : Ext v10, Below w.heap.size w z.v) := fun z => HW_1.out (z.up HX10.out)
  have HO_2 : Hid (∀ z : Ext v10, RoIn z.v z.v.heap.size D p' q') := fun z => HO_1.out (z.up HX10.out)
  have HK_2 : Hid (∀ z : Ext v10, NumIn z.v z.v.heap.size l f yk) := fun z => HK_1.out (z.up HX10.out)
  have O0_2 : ∀ z : Ext v10, z.v.cell? ⟨wk.heap.size, 0, none⟩ = some (.slice p' D.n c') := fun z => O0_1 (z.up HX10.out)
  have O1_2 : ∀ z : Ext v10, z.v.cell? ⟨wk.heap.size, 1, none⟩ = some (.slice q' D.m d') := fun z => O1_1 (z.up HX10.out)
  clear HI_1 HL_1 F0_1 F1_1 HW_1 HO_1 HK_1 O0_1 O1_1
  have S010_2 : ∀ z : Ext v10, z.v.cell? ⟨y1.v.heap.size, 0, none⟩ = some (.int .i64 la) := fun z => S0i10 z
  have S110_2 : ∀ z : Ext v10, z.v.cell? ⟨y1.v.heap.size, 1, none⟩ = some (.int .i64 lb) := fun z => S1i10 z
  go_wp2_with fail
  refine (quiet_x (H2.out _ _ _ _ _ (HI_2.out _))).mono ?_
  rintro e w' ⟨rfl, y2, rfl⟩
  obtain ⟨v11, x11, hw11, hb11, hz11, S0i11, S1i11, _⟩ := box_span y2.v la lb
  have HX11 := Lib.hid (bT y2.b hb11)
  clear hb11 hz11
  have HI_3 : Hid (∀ z : Ext v11, RoIn z.v z.v.heap.size D p q) := fun z => HI_2.out (z.up HX11.out)
  have HL_3 : Hid (∀ z : Ext v11, NumIn z.v z.v.heap.size l f lp) := fun z => HL_2.out (z.up HX11.out)
  have F0_3 : ∀ z : Ext v11, z.v.cell? ⟨w.heap.size, 0, none⟩ = some (.slice p D.n c) := fun z => F0_2 (z.up HX11.out)
  have F1_3 : ∀ z : Ext v11, z.v.cell? ⟨w.heap.size, 1, none⟩ = some (.slice q D.m d) := fun z => F1_2 (z.up HX11.out)
  have HW_3 : Hid (∀ z : Ext v11, Below w.heap.size w z.v) := fun z => HW_2.out (z.up HX11.out)
  have HO_3 : Hid (∀ z : Ext v11, RoIn z.v z.v.heap.size D p' q') := fun z => HO_2.out (z.up HX11.out)
  have HK_3 : Hid (∀ z : Ext v11, NumIn z.v z.v.heap.size l f yk) := fun z => HK_2.out (z.up HX11.out)
  have O0_3 : ∀ z : Ext v11, z.v.cell? ⟨wk.heap.size, 0, none⟩ = some (.slice p' D.n c') := fun z => O0_2 (z.up HX11.out)
  have O1_3 : ∀ z : Ext v11, z.v.cell? ⟨wk.heap.size, 1, none⟩ = some (.slice q' D.m d') := fun z => O1_2 (z.up HX11.out)
  have S010_3 : ∀ z : Ext v11, z.v.cell? ⟨y1.v.heap.size, 0, none⟩ = some (.int .i64 la) := fun z => S010_2 (z.up HX11.out)
  have S110_3 : ∀ z : Ext v11, z.v.cell? ⟨y1.v.heap.size, 1, none⟩ = some (.int .i64 lb) := fun z => S110_2 (z.up HX11.out)
  clear HI_2 HL_2 F0_2 F1_2 HW_2 HO_2 HK_2 O0_2 O1_2 S010_2 S110_2
  have S011_3 : ∀ z : Ext v11, z.v.cell? ⟨y2.v.heap.size, 0, none⟩ = some (.int .i64 la) := fun z => S0i11 z
  have S111_3 : ∀ z : Ext v11, z.v.cell? ⟨y2.v.heap.size, 1, none⟩ = some (.int .i64 lb) := fun z => S1i11 z
  go_wp2_with fail
  refine (quiet_x (H3.out _ _ _ _ _ _ _ (HO_3.out _) (HK_3.out _))).mono ?_
  rintro e w' ⟨rfl, y3, rfl⟩
  obtain ⟨v12, x12, hw12, hb12, hz12, S0i12, S1i12, _⟩ := box_pair y3.v sa sb
  have HX12 := Lib.hid (bT y3.b hb12)
  clear hb12 hz12
  have HI_4 : Hid (∀ z : Ext v12, RoIn z.v z.v.heap.size D p q) := fun z => HI_3.out (z.up HX12.out)
  have HL_4 : Hid (∀ z : Ext v12, NumIn z.v z.v.heap.size l f lp) := fun z => HL_3.out (z.up HX12.out)
  have F0_4 : ∀ z : Ext v12, z.v.cell? ⟨w.heap.size, 0, none⟩ = some (.slice p D.n c) := fun z => F0_3 (z.up HX12.out)
  have F1_4 : ∀ z : Ext v12, z.v.cell? ⟨w.heap.size, 1, none⟩ = some (.slice q D.m d) := fun z => F1_3 (z.up HX12.out)
  have HW_4 : Hid (∀ z : Ext v12, Below w.heap.size w z.v) := fun z => HW_3.out (z.up HX12.out)
  have HO_4 : Hid (∀ z : Ext v12, RoIn z.v z.v.heap.size D p' q') := fun z => HO_3.out (z.up HX12.out)
  have HK_4 : Hid (∀ z : Ext v12, NumIn z.v z.v.heap.size l f yk) := fun z => HK_3.out (z.up HX12.out)
  have O0_4 : ∀ z : Ext v12, z.v.cell? ⟨wk.heap.size, 0, none⟩ = some (.slice p' D.n c') := fun z => O0_3 (z.up HX12.out)
  have O1_4 : ∀ z : Ext v12, z.v.cell? ⟨wk.heap.size, 1, none⟩ = some (.slice q' D.m d') := fun z => O1_3 (z.up HX12.out)
  have S010_4 : ∀ z : Ext v12, z.v.cell? ⟨y1.v.heap.size, 0, none⟩ = some (.int .i64 la) := fun z => S010_3 (z.up HX12.out)
  have S110_4 : ∀ z : Ext v12, z.v.cell? ⟨y1.v.heap.size, 1, none⟩ = some (.int .i64 lb) := fun z => S110_3 (z.up HX12.out)
  have S011_4 : ∀ z : Ext v12, z.v.cell? ⟨y2.v.heap.size, 0, none⟩ = some (.int .i64 la) := fun z => S011_3 (z.up HX12.out)
  have S111_4 : ∀ z : Ext v12, z.v.cell? ⟨y2.v.heap.size, 1, none⟩ = some (.int .i64 lb) := fun z => S111_3 (z.up HX12.out)
  clear HI_3 HL_3 F0_3 F1_3 HW_3 HO_3 HK_3 O0_3 O1_3 S010_3 S110_3 S011_3 S111_3
  have S012_4 : ∀ z : Ext v12, z.v.cell? ⟨y3.v.heap.size, 0, none⟩ = some (.int .i64 sa) := fun z => S0i12 z
  have S112_4 : ∀ z : Ext v12, z.v.cell? ⟨y3.v.heap.size, 1, none⟩ = some (.int .i64 sb) := fun z => S1i12 z
  go_wp2_with fail
  refine (quiet_x (H4.out _ _ _ _ _ _ _ (HI_4.out _) (HL_4.out _))).mono ?_
  rintro e w' ⟨rfl, y4, rfl⟩
  obtain ⟨v13, x13, hw13, hb13, hz13, S0i13, S1i13, _⟩ := box_pair y4.v sa sb
  have HX13 := Lib.hid (bT y4.b hb13)
  clear hb13 hz13
  have HI_5 : Hid (∀ z : Ext v13, RoIn z.v z.v.heap.size D p q) := fun z => HI_4.out (z.up HX13.out)
  have HL_5 : Hid (∀ z : Ext v13, NumIn z.v z.v.heap.size l f lp) := fun z => HL_4.out (z.up HX13.out)
  have F0_5 : ∀ z : Ext v13, z.v.cell? ⟨w.heap.size, 0, none⟩ = some (.slice p D.n c) := fun z => F0_4 (z.up HX13.out)
  have F1_5 : ∀ z : Ext v13, z.v.cell? ⟨w.heap.size, 1, none⟩ = some (.slice q D.m d) := fun z => F1_4 (z.up HX13.out)
  have HW_5 : Hid (∀ z : Ext v13, Below w.heap.size w z.v) := fun z => HW_4.out (z.up HX13.out)
  have HO_5 : Hid (∀ z : Ext v13, RoIn z.v z.v.heap.size D p' q') := fun z => HO_4.out (z.up HX13.out)
  have HK_5 : Hid (∀ z : Ext v13, NumIn z.v z.v.heap.size l f yk) := fun z => HK_4.out (z.up HX13.out)
  have O0_5 : ∀ z : Ext v13, z.v.cell? ⟨wk.heap.size, 0, none⟩ = some (.slice p' D.n c') := fun z => O0_4 (z.up HX13.out)
  have O1_5 : ∀ z : Ext v13, z.v.cell? ⟨wk.heap.size, 1, none⟩ = some (.slice q' D.m d') := fun z => O1_4 (z.up HX13.out)
  have S010_5 : ∀ z : Ext v13, z.v.cell? ⟨y1.v.heap.size, 0, none⟩ = some (.int .i64 la) := fun z => S010_4 (z.up HX13.out)
  have S110_5 : ∀ z : Ext v13, z.v.cell? ⟨y1.v.heap.size, 1, none⟩ = some (.int .i64 lb) := fun z => S110_4 (z.up HX13.out)
  have S011_5 : ∀ z : Ext v13, z.v.cell? ⟨y2.v.heap.size, 0, none⟩ = some (.int .i64 la) := fun z => S011_4 (z.up HX13.out)
  have S111_5 : ∀ z : Ext v13, z.v.cell? ⟨y2.v.heap.size, 1, none⟩ = some (.int .i64 lb) := fun z => S111_4 (z.up HX13.out)
  have S012_5 : ∀ z : Ext v13, z.v.cell? ⟨y3.v.heap.size, 0, none⟩ = some (.int .i64 sa) := fun z => S012_4 (z.up HX13.out)
  have S112_5 : ∀ z : Ext v13, z.v.cell? ⟨y3.v.heap.size, 1, none⟩ = some (.int .i64 sb) := fun z => S112_4 (z.up HX13.out)
  clear HI_4 HL_4 F0_4 F1_4 HW_4 HO_4 HK_4 O0_4 O1_4 S010_4 S110_4 S011_4 S111_4 S012_4 S112_4
  have S013_5 : ∀ z : Ext v13, z.v.cell? ⟨y4.v.heap.size, 0, none⟩ = some (.int .i64 sa) := fun z => S0i13 z
  have S113_5 : ∀ z : Ext v13, z.v.cell? ⟨y4.v.heap.size, 1, none⟩ = some (.int .i64 sb) := fun z => S1i13 z
  go_wp2_with fail
  refine (quiet_x (H5.out _ _ _ _ _ (HO_5.out _))).mono ?_
  rintro e w' ⟨rfl, y5, rfl⟩
  go_wp2_with fail
  refine (quiet_x (H6.out _ _ _ _ _ (HI_5.out _))).mono ?_
  rintro e w' ⟨rfl, y6, rfl⟩
  go_wp2_with fail
  refine (quiet_x (same_any D _ _ _ _ _ _ _ _ _ hn40 hm40 (HO_5.out _) (HI_5.out _))).mono ?_
  rintro e w' ⟨rfl, y7, rfl⟩
  go_wp2_with fail
  refine (quiet_x (sameInts_is _ (by omega) (HK_5.out _) (HL_5.out _))).mono ?_
  rintro e w' ⟨rfl, y8, rfl⟩
  go_wp2_with fail
  refine (quiet_x (works_ex _)).mono ?_
  rintro e w' ⟨rfl, y9, rfl⟩
  go_wp2
  go_ret
  exact ⟨rfl, HW_5.out y9⟩

theorem swap_law (D : Ro) (p q : Option Addr) (c d : Nat) (lp : Option Addr) (lc l : Nat) (f : Nat → Int) (h : Int) (w : World) (hn : D.n ≤ maxLen) (hm : D.m ≤ maxLen) (hl : l ≤ maxLen) (hi : RoIn w w.heap.size D p q) (hf : NumIn w w.heap.size l f lp) :
    Calls Try.prog 14 #[.agg #[.slice p D.n c, .slice q D.m d], .slice lp l lc, .int .i64 h] w fun e w' => e = .returned (.bool true) ∧ Below w.heap.size w w' := by
  cases hr : farV D with
  | true => exact swap_o1 D p q c d lp lc l f h w hn hm hl hr hi hf
  | false =>
    by_cases h4 : 40 < l
    · exact swap_o2 D p q c d lp lc l f h w hn hm hl hr h4 hi hf
    · have k1 : ∃ la lb le : Int, (∀ (p q : Option Addr) (c d : Nat) (V : World), D.n ≤ c → RoIn V V.heap.size D p q → Calls Try.prog 20 #[.agg #[.slice p D.n c, .slice q D.m d]] V fun e w' => e = .returned (.tuple #[.agg #[.int .i64 la, .int .i64 lb], .int .i64 le]) ∧ Below V.heap.size V w') ∧
          (∀ (p q : Option Addr) (c d : Nat) (V : World), RoIn V V.heap.size D p q → Calls Try.prog 58 #[.agg #[.slice p D.n c, .slice q D.m d]] V fun e w' => e = .returned (.tuple #[.agg #[.int .i64 la, .int .i64 lb], .int .i64 le]) ∧ Below V.heap.size V w') := by
        cases ho : D.ok with
        | false => exact ⟨0, 0, 80, fun p q c d V _ hV => lackP_er D p q c d 80 V hn hm hV (chk_no ho) (by decide), fun p q c d V hV => lackR_er D p q c d 80 V hn hm hV (chk_no ho) (by decide)⟩
        | true =>
          have hD := Ro.ok_iff.1 ho
          exact ⟨lkA D, lkB D, lkE D, fun p q c d V hc hV => lackP_any D p q c d V hD hc hV, fun p q c d V hV => lackR_any D p q c d V hD hV⟩
      have k2 : ∃ sa sb se : Int, (∀ (p q : Option Addr) (c d : Nat) (lp : Option Addr) (lc : Nat) (V : World), RoIn V V.heap.size D p q → NumIn V V.heap.size l f lp → Calls Try.prog 34 #[.agg #[.slice p D.n c, .slice q D.m d], .slice lp l lc] V fun e w' => e = .returned (.tuple #[.agg #[.int .i64 sa, .int .i64 sb], .int .i64 se]) ∧ Below V.heap.size V w') ∧
          (∀ (p q : Option Addr) (c d : Nat) (lp : Option Addr) (lc : Nat) (V : World), RoIn V V.heap.size D p q → NumIn V V.heap.size l f lp → Calls Try.prog 59 #[.agg #[.slice p D.n c, .slice q D.m d], .slice lp l lc] V fun e w' => e = .returned (.tuple #[.agg #[.int .i64 sa, .int .i64 sb], .int .i64 se]) ∧ Below V.heap.size V w') := by
        by_cases he : newE D l f = 0
        · obtain ⟨hD, rfl, hN⟩ := newE_zero he
          by_cases hx : ∃ a b, FstSw D f a b
          · obtain ⟨a, b, hab⟩ := hx
            refine ⟨a, b, 0, fun p q c d lp lc V hV hY => (swapP_any D p q lp c d lc f V hD hN hV hY).mono fun e w' ⟨hh, hb⟩ => ⟨?_, hb⟩, fun p q c d lp lc V hV hY => (swapR_any D p q lp c d lc f V hD hN hV hY).mono fun e w' ⟨hh, hb⟩ => ⟨?_, hb⟩⟩ <;>
            · rcases hh with ⟨a', b', h', rfl⟩ | ⟨h', _⟩
              · obtain ⟨rfl, rfl⟩ := hab.one h'; rfl
              · exact (hab.some h').elim
          · refine ⟨0, 0, 3, fun p q c d lp lc V hV hY => (swapP_any D p q lp c d lc f V hD hN hV hY).mono fun e w' ⟨hh, hb⟩ => ⟨?_, hb⟩, fun p q c d lp lc V hV hY => (swapR_any D p q lp c d lc f V hD hN hV hY).mono fun e w' ⟨hh, hb⟩ => ⟨?_, hb⟩⟩ <;>
            · rcases hh with ⟨a', b', h', _⟩ | ⟨_, rfl⟩
              · exact (hx ⟨a', b', h'⟩).elim
              · rfl
        · exact ⟨0, 0, newE D l f, fun p q c d lp lc V hV hY => swapP_er D p q lp c d l lc f _ V hn hm hV hY rfl he, fun p q c d lp lc V hV hY => swapR_er D p q lp c d l lc f _ V hn hm hV hY rfl he⟩
      have k3 : ∃ gv ge : Int, (∀ (p q : Option Addr) (c d : Nat) (V : World), RoIn V V.heap.size D p q → Calls Try.prog 38 #[.agg #[.slice p D.n c, .slice q D.m d], .int .i64 h] V fun e w' => e = .returned (.tuple #[.int .i64 gv, .int .i64 ge]) ∧ Below V.heap.size V w') ∧
          (∀ (p q : Option Addr) (c d : Nat) (V : World), RoIn V V.heap.size D p q → Calls Try.prog 60 #[.agg #[.slice p D.n c, .slice q D.m d], .int .i64 h] V fun e w' => e = .returned (.tuple #[.int .i64 gv, .int .i64 ge]) ∧ Below V.heap.size V w') := by
        cases ho : D.ok with
        | false => exact ⟨0, 80, fun p q c d V hV => giveP_er D p q c d h 80 V hn hm hV (chk_no ho) (by decide), fun p q c d V hV => giveR_er D p q c d h 80 V hn hm hV (chk_no ho) (by decide)⟩
        | true =>
          have hD := Ro.ok_iff.1 ho
          cases hw : within h 0 ((D.n : Int) - 1) with
          | false =>
            have e1 : chkE D.ok (within h 0 ((D.n : Int) - 1)) = 1 := by rw [hw]; exact chk_arg ho
            exact ⟨0, 1, fun p q c d V hV => giveP_er D p q c d h 1 V hn hm hV e1 (by decide), fun p q c d V hV => giveR_er D p q c d h 1 V hn hm hV e1 (by decide)⟩
          | true =>
            have hw2 := within_iff.1 hw
            obtain ⟨k, rfl⟩ : ∃ k : Nat, h = (k : Int) := ⟨h.toNat, by omega⟩
            exact ⟨gvR D k, gvE D k, fun p q c d V hV => giveP_any D p q c d k V hD (by omega) hV, fun p q c d V hV => giveR_any D p q c d k V hD (by omega) hV⟩
      obtain ⟨la, lb, le, a1, a2⟩ := k1
      obtain ⟨sa, sb, se, b1, b2⟩ := k2
      obtain ⟨gv, ge, c1, c2⟩ := k3
      exact swap_in D p q c d lp lc l f h w la lb le sa sb se gv ge hr (by omega) a1 a2 b1 b2 c1 c2 hi hf
end Go.Proofs.Ytegkgfiaegpihaa
