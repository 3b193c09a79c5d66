/- HoursOrder returns true in every walk. -/
import Derived.Test.YtegkgfiaegpihaaF13

import Derived.Test.YtegkgfiaegpihaaC8

set_option linter.unusedSimpArgs false

set_option linter.unusedVariables false

namespace Go.Proofs.Ytegkgfiaegpihaa

open Go.RowKit

theorem isStr2_is {D : Ro} {p q : Option Addr} {c d : Nat} {k : Int} {b : Bool} (h : within k 0 ((D.m : Int) - 1) = b) (hn : D.m ≤ maxLen) (w : World) :
    Calls Try.prog 29 #[.agg #[.slice p D.n c, .slice q D.m d], .int .i64 k] w fun e w' => e = .returned (.bool b) ∧ Below w.heap.size w w' := by
  subst h; exact isStreetR_any D p q c d k w hn
set_option maxRecDepth 100000 in
set_option maxHeartbeats 4000000 in
theorem order_o1 (D : Ro) (p q : Option Addr) (c d : Nat) (by_ st : Int) (w : World) (hn : D.n ≤ maxLen) (hm : D.m ≤ maxLen) (hr : rdy D = false) (hi : RoIn w w.heap.size D p q) :
    Calls Try.prog 9 #[.agg #[.slice p D.n c, .slice q D.m d], .int .i64 by_, .int .i64 st] w fun e w' => e = .returned (.bool true) ∧ Below w.heap.size w w' := by
  obtain ⟨w1, x1, hw1, hb1, hz1, F0i, F1i, _⟩ := box_ro w p q D.n D.m c d
  have HW_0 : Hid (∀ z : Ext w1, Below w.heap.size w z.v) := fun z => bT hb1 z.b
  have HI_0 : Hid (∀ z : Ext w1, RoIn z.v z.v.heap.size D p q) := fun z => (hi.bel hb1).bel z.b
  have HZ : Hid (w.heap.size < w1.heap.size) := by rw [hz1]; exact Nat.lt_succ_self _
  clear hb1 hz1 hi
  have F0_0 : ∀ z : Ext w1, z.v.cell? ⟨w.heap.size, 0, none⟩ = some (.slice p D.n c) := fun z => F0i z
  have F1_0 : ∀ z : Ext w1, z.v.cell? ⟨w.heap.size, 1, none⟩ = some (.slice q D.m d) := fun z => F1i z
  have HR := Lib.hid hr; clear hr
  go_enter Try.func9, Try.ntmps9
  go_wp2_with fail
  refine (quiet_x (ready_is HR.out _ hn hm (HI_0.out _))).mono ?_
  rintro e w' ⟨rfl, y, rfl⟩
  go_wp2_with fail
  refine (quiet_x (works_ex _)).mono ?_
  rintro e w' ⟨rfl, y2, rfl⟩
  go_wp2
  go_ret
  exact ⟨rfl, HW_0.out y2⟩
set_option maxRecDepth 100000 in
set_option maxHeartbeats 4000000 in
theorem order_o2 (D : Ro) (p q : Option Addr) (c d : Nat) (by_ st : Int) (w : World) (hn : D.n ≤ maxLen) (hm : D.m ≤ maxLen) (hr : rdy D = true) (h4 : by_ < 0) (hi : RoIn w w.heap.size D p q) :
    Calls Try.prog 9 #[.agg #[.slice p D.n c, .slice q D.m d], .int .i64 by_, .int .i64 st] w fun e w' => e = .returned (.bool true) ∧ Below w.heap.size w w' := by
  obtain ⟨w1, x1, hw1, hb1, hz1, F0i, F1i, _⟩ := box_ro w p q D.n D.m c d
  have HW_0 : Hid (∀ z : Ext w1, Below w.heap.size w z.v) := fun z => bT hb1 z.b
  have HI_0 : Hid (∀ z : Ext w1, RoIn z.v z.v.heap.size D p q) := fun z => (hi.bel hb1).bel z.b
  have HZ : Hid (w.heap.size < w1.heap.size) := by rw [hz1]; exact Nat.lt_succ_self _
  clear hb1 hz1 hi
  have F0_0 : ∀ z : Ext w1, z.v.cell? ⟨w.heap.size, 0, none⟩ = some (.slice p D.n c) := fun z => F0i z
  have F1_0 : ∀ z : Ext w1, z.v.cell? ⟨w.heap.size, 1, none⟩ = some (.slice q D.m d) := fun z => F1i z
  have HR := Lib.hid hr; clear hr
  have j4 : decide (by_ < 0) = true := by simp; omega
  go_enter Try.func9, Try.ntmps9
  go_wp2_with fail
  refine (quiet_x (ready_is HR.out _ hn hm (HI_0.out _))).mono ?_
  rintro e w' ⟨rfl, y, rfl⟩
  go_wp2_with fail
  refine (quiet_x (works_ex _)).mono ?_
  rintro e w' ⟨rfl, y2, rfl⟩
  go_wp2
  go_ret
  exact ⟨rfl, HW_0.out y2⟩
set_option maxRecDepth 100000 in
set_option maxHeartbeats 4000000 in
theorem order_o3 (D : Ro) (p q : Option Addr) (c d : Nat) (by_ st : Int) (w : World) (hn : D.n ≤ maxLen) (hm : D.m ≤ maxLen) (hr : rdy D = true) (h4 : ¬ by_ < 0) (h5 : 100 < by_) (hi : RoIn w w.heap.size D p q) :
    Calls Try.prog 9 #[.agg #[.slice p D.n c, .slice q D.m d], .int .i64 by_, .int .i64 st] w fun e w' => e = .returned (.bool true) ∧ Below w.heap.size w w' := by
  obtain ⟨w1, x1, hw1, hb1, hz1, F0i, F1i, _⟩ := box_ro w p q D.n D.m c d
  have HW_0 : Hid (∀ z : Ext w1, Below w.heap.size w z.v) := fun z => bT hb1 z.b
  have HI_0 : Hid (∀ z : Ext w1, RoIn z.v z.v.heap.size D p q) := fun z => (hi.bel hb1).bel z.b
  have HZ : Hid (w.heap.size < w1.heap.size) := by rw [hz1]; exact Nat.lt_succ_self _
  clear hb1 hz1 hi
  have F0_0 : ∀ z : Ext w1, z.v.cell? ⟨w.heap.size, 0, none⟩ = some (.slice p D.n c) := fun z => F0i z
  have F1_0 : ∀ z : Ext w1, z.v.cell? ⟨w.heap.size, 1, none⟩ = some (.slice q D.m d) := fun z => F1i z
  have HR := Lib.hid hr; clear hr
  have j4 : decide (by_ < 0) = false := by simp; omega
  have j5 : decide (100 < by_) = true := by simp; omega
  go_enter Try.func9, Try.ntmps9
  go_wp2_with fail
  refine (quiet_x (ready_is HR.out _ hn hm (HI_0.out _))).mono ?_
  rintro e w' ⟨rfl, y, rfl⟩
  go_wp2_with fail
  refine (quiet_x (works_ex _)).mono ?_
  rintro e w' ⟨rfl, y2, rfl⟩
  go_wp2
  go_ret
  exact ⟨rfl, HW_0.out y2⟩
set_option maxRecDepth 100000 in
set_option maxHeartbeats 4000000 in
theorem order_o4 (D : Ro) (p q : Option Addr) (c d : Nat) (by_ st : Int) (w : World) (hn : D.n ≤ maxLen) (hm : D.m ≤ maxLen) (hr : rdy D = true) (h4 : ¬ by_ < 0) (h5 : ¬ 100 < by_) (hs : within st 0 ((D.m : Int) - 1) = false) (hi : RoIn w w.heap.size D p q) :
    Calls Try.prog 9 #[.agg #[.slice p D.n c, .slice q D.m d], .int .i64 by_, .int .i64 st] w fun e w' => e = .returned (.bool true) ∧ Below w.heap.size w w' := by
  obtain ⟨w1, x1, hw1, hb1, hz1, F0i, F1i, _⟩ := box_ro w p q D.n D.m c d
  have HW_0 : Hid (∀ z : Ext w1, Below w.heap.size w z.v) := fun z => bT hb1 z.b
  have HI_0 : Hid (∀ z : Ext w1, RoIn z.v z.v.heap.size D p q) := fun z => (hi.bel hb1).bel z.b
  have HZ : Hid (w.heap.size < w1.heap.size) := by rw [hz1]; exact Nat.lt_succ_self _
  clear hb1 hz1 hi
  have F0_0 : ∀ z : Ext w1, z.v.cell? ⟨w.heap.size, 0, none⟩ = some (.slice p D.n c) := fun z => F0i z
  have F1_0 : ∀ z : Ext w1, z.v.cell? ⟨w.heap.size, 1, none⟩ = some (.slice q D.m d) := fun z => F1i z
  have HR := Lib.hid hr; clear hr
  have HS := Lib.hid hs; clear hs
  have j4 : decide (by_ < 0) = false := by simp; omega
  have j5 : decide (100 < by_) = false := by simp; omega
  go_enter Try.func9, Try.ntmps9
  go_wp2_with fail
  refine (quiet_x (ready_is HR.out _ hn hm (HI_0.out _))).mono ?_
  rintro e w' ⟨rfl, y, rfl⟩
  go_wp2_with fail
  refine (quiet_x (isStr2_is HS.out hm _)).mono ?_
  rintro e w' ⟨rfl, y1, rfl⟩
  go_wp2_with fail
  refine (quiet_x (works_ex _)).mono ?_
  rintro e w' ⟨rfl, y2, rfl⟩
  go_wp2
  go_ret
  exact ⟨rfl, HW_0.out y2⟩
set_option maxRecDepth 100000 in
set_option maxHeartbeats 16000000 in
theorem order_in (D : Ro) (p q : Option Addr) (c d : Nat) (b st : Nat) (w : World) (hr : rdy D = true) (hb : b ≤ 100) (hs : st < D.m) (hcap : D.n ≤ c) (hi : RoIn w w.heap.size D p q) :
    Calls Try.prog 9 #[.agg #[.slice p D.n c, .slice q D.m d], .int .i64 (b : Int), .int .i64 (st : Int)] w fun e w' => e = .returned (.bool true) ∧ Below w.heap.size w w' := by
  obtain ⟨w1, x1, hw1, hb1, hz1, F0i, F1i, _⟩ := box_ro w p q D.n D.m c d
  have HW_0 : Hid (∀ z : Ext w1, Below w.heap.size w z.v) := fun z => bT hb1 z.b
  have HI_0 : Hid (∀ z : Ext w1, RoIn z.v z.v.heap.size D p q) := fun z => (hi.bel hb1).bel z.b
  have HZ : Hid (w.heap.size < w1.heap.size) := by rw [hz1]; exact Nat.lt_succ_self _
  clear hb1 hz1 hi
  have F0_0 : ∀ z : Ext w1, z.v.cell? ⟨w.heap.size, 0, none⟩ = some (.slice p D.n c) := fun z => F0i z
  have F1_0 : ∀ z : Ext w1, z.v.cell? ⟨w.heap.size, 1, none⟩ = some (.slice q D.m d) := fun z => F1i z
  obtain ⟨hn8, hm6, hD, _⟩ := rdy_parts hr
  have HR := Lib.hid hr; have HD := Lib.hid hD
  have hn : D.n ≤ maxLen := by unfold maxLen; omega
  have hm : D.m ≤ maxLen := by unfold maxLen; omega
  have j4 : decide ((b : Int) < 0) = false := by simp
  have j5 : decide (100 < (b : Int)) = false := by simp; omega
  have n4 : ¬ (b : Int) < 0 := by omega
  have n5 : ¬ 100 < (b : Int) := by omega
  have HS := Lib.hid (show within (st : Int) 0 ((D.m : Int) - 1) = true from within_tt (by omega) (by omega))
  have HCP := Lib.hid (fun V hV => copyC_any D p q c d V (by omega) (by omega) hV)
  have hm0 : ¬ (D.m : Int) = 0 := by omega
  clear hr hD
  go_enter Try.func9, Try.ntmps9
  go_wp2_with fail
  refine (quiet_x (ready_is HR.out _ hn hm (HI_0.out _))).mono ?_
  rintro e w' ⟨rfl, y, rfl⟩
  go_wp2_with fail
  refine (quiet_x (isStr2_is HS.out hm _)).mono ?_
  rintro e w' ⟨rfl, y1, rfl⟩
  go_wp2_with fail
  refine (HCP.out _ (HI_0.out _)).mono ?_
  rintro e w5 ⟨p', c', q', d', rfl, hcp, hcc⟩
  obtain ⟨g2, eg2, gl1, gl2, gf⟩ := hcp.st (by omega)
  subst eg2
  obtain ⟨wo, xo, hwo, hbo, hzo, O0, O1, Of⟩ := box_ro w5 p' (some ⟨g2, 0, none⟩) D.n D.m c' d'
  obtain ⟨ob, hob⟩ : ∃ ob, w5.heap.size = ob := ⟨_, rfl⟩
  rw [hob] at O0 O1 Of
  have hb5 : Below w1.heap.size w1 w5 := bT y1.b hcp.below
  have HS0 : Hid (RotS D (rotD D b) D.rm w1 ob g2 p' c' d' 0 xo.v) := by
    have hin := (hcp.here.bel hbo).bel xo.b
    refine ⟨bT (bT hb5 hbo) xo.b, O0 xo, O1 xo, hin.rm, ?_, fun i => ((bT hbo xo.b).frozen (p := ⟨g2, i, none⟩) gl2).trans (gf i), ?_⟩
    · obtain ⟨b0, o0, e0, l0, c0⟩ := hin.st (by omega)
      cases e0
      exact ⟨fun k hk => (c0.c0 k hk).trans (by simp [mixD]), fun k hk => (c0.c1 k hk).trans (by simp [mixD]), fun k hk => (c0.c2 k hk).trans (by simp [mixD]), fun k hk => (c0.c3 k hk).trans (by simp [mixD])⟩
    · have z1 := hb5.size; have z2 := (bT hbo xo.b).size; have z3 := y1.b.size; have z4 := xo.b.size
      exact ⟨by omega, by omega, by omega, by omega, fun g o h0 e => hcp.ne h0 (by omega) g g2 o 0 e rfl⟩
  have HCC := Lib.hid hcc
  have F0x : xo.v.cell? ⟨w.heap.size, 0, none⟩ = some (.slice p D.n c) := F0_0 ⟨xo.v, bT (bT hb5 hbo) xo.b⟩
  have F1x : xo.v.cell? ⟨w.heap.size, 1, none⟩ = some (.slice q D.m d) := F1_0 ⟨xo.v, bT (bT hb5 hbo) xo.b⟩
  clear hcp hcc gl1 gl2 gf hbo hb5 O0 O1 Of
  go_wp2
  try rw [hob]
  clear hwo hw1 hob hzo
  go_loopw [9] (fun v wr => ∃ k : Nat, v = .int .i64 (k : Int) ∧ k ≤ D.m ∧ RotS D (rotD D b) D.rm w1 ob g2 p' c' d' k wr) (fun v _ => D.m - (intOf v).toNat)
  case atStart => exact ⟨0, rfl, Nat.zero_le _, HS0.out⟩
  case round =>
    clear HS0
    obtain ⟨k, rfl, hk, hrs⟩ := hrel
    have HRS := Lib.hid hrs; clear hrs
    have FR0 : ∀ y : Ext wr, y.v.cell? ⟨w.heap.size, 0, none⟩ = some (.slice p D.n c) := fun y => F0_0 (y.up HRS.out.b)
    have FR1 : ∀ y : Ext wr, y.v.cell? ⟨w.heap.size, 1, none⟩ = some (.slice q D.m d) := fun y => F1_0 (y.up HRS.out.b)
    have G0 : ∀ y : Ext wr, y.v.cell? ⟨ob, 0, none⟩ = some (.slice p' D.n c') := fun y => (y.b.cell (p := ⟨ob, 0, none⟩) HRS.out.l.2.2.1).trans HRS.out.c0
    have G1 : ∀ y : Ext wr, y.v.cell? ⟨ob, 1, none⟩ = some (.slice (some ⟨g2, 0, none⟩) D.m d') := fun y => (y.b.cell (p := ⟨ob, 1, none⟩) HRS.out.l.2.2.1).trans HRS.out.c1
    by_cases hlt : k < D.m
    · have hrt := rot_lt (m := D.m) (b := b) hlt
      obtain ⟨x, hx⟩ : ∃ x, rot D.m b k = x := ⟨_, rfl⟩
      rw [hx] at hrt
      obtain ⟨b2, o2, rfl, _, _⟩ := (HI_0.out ⟨wr, HRS.out.b⟩).st (by omega)
      have C0 : ∀ y : Ext wr, y.v.cell? ⟨b2, o2 + x * 4, none⟩ = some (.int .i64 (D.hs x)) := fun y => (HI_0.out (y.up HRS.out.b)).c0 hrt
      have C1 : ∀ y : Ext wr, y.v.cell? ⟨b2, o2 + x * 4 + 1, none⟩ = some (.int .i64 (D.fr x)) := fun y => (HI_0.out (y.up HRS.out.b)).c1 hrt
      have C2 : ∀ y : Ext wr, y.v.cell? ⟨b2, o2 + x * 4 + 2, none⟩ = some (.int .i64 (D.to x)) := fun y => (HI_0.out (y.up HRS.out.b)).c2 hrt
      have C3 : ∀ y : Ext wr, y.v.cell? ⟨b2, o2 + x * 4 + 3, none⟩ = some (.int .i64 (D.co x)) := fun y => (HI_0.out (y.up HRS.out.b)).c3 hrt
      have jk : decide ((k : Int) < (D.m : Int)) = true := by simp; omega
      have hkm : (k : Int) < (D.m : Int) := by omega
      have hxm : (x : Int) < (D.m : Int) := by omega
      have ew : IntKind.i64.wrap ((k : Int) + (b : Int)) = ((k + b : Nat) : Int) := by rw [IntWalk.i64_in _ (by omega)]; omega
      have em : Int.tmod ((k + b : Nat) : Int) (D.m : Int) = (x : Int) := by rw [← hx]; unfold rot; rw [Int.tmod_eq_emod_of_nonneg (by omega)]; omega
      have em2 : Int.tmod ((k : Int) + (b : Int)) (D.m : Int) = (x : Int) := by rw [← em]; rfl
      have hm1 : ¬ D.m = 0 := by omega
      have ex : IntKind.i64.wrap (x : Int) = (x : Int) := IntWalk.i64_in _ (by omega)
      have HXX := Lib.hid hx
      clear hx
      obtain ⟨z0, hz0⟩ := rebase wr
      rw [hz0]
      go_wp2
      refine wp_region_lastE 13 (by kernel_rfl) rfl (fun y0 => ?_)
      have R0 : ∀ y : Ext wr, y.v.cell? ⟨g2, k * 4, none⟩ = some (.int .i64 ((mixD D (rotD D b) k).hs k)) := fun y => by have := (HRS.out.bel y.b).st.c0 k hlt; rw [Nat.zero_add] at this; exact this
      have R1 : ∀ y : Ext wr, y.v.cell? ⟨g2, k * 4 + 1, none⟩ = some (.int .i64 ((mixD D (rotD D b) k).fr k)) := fun y => by have := (HRS.out.bel y.b).st.c1 k hlt; rw [Nat.zero_add] at this; exact this
      have R2 : ∀ y : Ext wr, y.v.cell? ⟨g2, k * 4 + 2, none⟩ = some (.int .i64 ((mixD D (rotD D b) k).to k)) := fun y => by have := (HRS.out.bel y.b).st.c2 k hlt; rw [Nat.zero_add] at this; exact this
      have R3 : ∀ y : Ext wr, y.v.cell? ⟨g2, k * 4 + 3, none⟩ = some (.int .i64 ((mixD D (rotD D b) k).co k)) := fun y => by have := (HRS.out.bel y.b).st.c3 k hlt; rw [Nat.zero_add] at this; exact this
      have Rf : ∀ (y : Ext wr) (i : Nat), y.v.frozen? ⟨g2, i, none⟩ = false := fun y => (HRS.out.bel y.b).fz
      refine wpAnyG_take (i := 0) (v := ?_) (by kernel_rfl) rfl (by kernel_rfl) (by kernel_rfl) (by kernel_rfl) (fun _ _ _ h => h) (Or.inl ⟨by rfl, ?_⟩) ⟨_, rfl⟩ ?_
      rotate_left
      · rintro wS ⟨yS, rfl⟩
        go_simp
        try (with_reducible rfl)
      try simp only [Act.put, List.setIfInBounds_toArray, List.set_cons_zero, List.set_cons_succ]
      refine wpAnyG_take (i := 1) (v := ?_) (by kernel_rfl) rfl (by kernel_rfl) (by kernel_rfl) (by kernel_rfl) (fun _ _ _ h => h) (Or.inl ⟨by rfl, ?_⟩) ⟨_, rfl⟩ ?_
      rotate_left
      · rintro wS ⟨yS, rfl⟩
        go_simp
        try (with_reducible rfl)
      try simp only [Act.put, List.setIfInBounds_toArray, List.set_cons_zero, List.set_cons_succ]
      refine wpAnyG_take (i := 2) (v := ?_) (by kernel_rfl) rfl (by kernel_rfl) (by kernel_rfl) (by kernel_rfl) (fun _ _ _ h => h) (Or.inl ⟨by rfl, ?_⟩) ⟨_, rfl⟩ ?_
      rotate_left
      · rintro wS ⟨yS, rfl⟩
        go_simp
        try (with_reducible rfl)
      try simp only [Act.put, List.setIfInBounds_toArray, List.set_cons_zero, List.set_cons_succ]
      refine wpAnyG_take (i := 3) (v := ?_) (by kernel_rfl) rfl (by kernel_rfl) (by kernel_rfl) (by kernel_rfl) (fun _ _ _ h => h) (Or.inl ⟨by rfl, ?_⟩) ⟨_, rfl⟩ ?_
      rotate_left
      · rintro wS ⟨yS, rfl⟩
        go_simp
        try (with_reducible rfl)
      try simp only [Act.put, List.setIfInBounds_toArray, List.set_cons_zero, List.set_cons_succ]
      refine wpAnyG_take (i := 4) (v := ?_) (by kernel_rfl) rfl (by kernel_rfl) (by kernel_rfl) (by kernel_rfl) (fun _ _ _ h => h) (Or.inl ⟨by rfl, ?_⟩) ⟨_, rfl⟩ ?_
      rotate_left
      · rintro wS ⟨yS, rfl⟩
        go_simp
        try (with_reducible rfl)
      try simp only [Act.put, List.setIfInBounds_toArray, List.set_cons_zero, List.set_cons_succ]
      refine wpAnyG_take (i := 5) (v := ?_) (by kernel_rfl) rfl (by kernel_rfl) (by kernel_rfl) (by kernel_rfl) (fun _ _ _ h => h) (Or.inl ⟨by rfl, ?_⟩) ⟨_, rfl⟩ ?_
      rotate_left
      · rintro wS ⟨yS, rfl⟩
        go_simp
        try (with_reducible rfl)
      try simp only [Act.put, List.setIfInBounds_toArray, List.set_cons_zero, List.set_cons_succ]
      refine wpAnyG_take (i := 6) (v := ?_) (by kernel_rfl) rfl (by kernel_rfl) (by kernel_rfl) (by kernel_rfl) (fun _ _ _ h => h) (Or.inl ⟨by rfl, ?_⟩) ⟨_, rfl⟩ ?_
      rotate_left
      · rintro wS ⟨yS, rfl⟩
        go_simp
        try (with_reducible rfl)
      try simp only [Act.put, List.setIfInBounds_toArray, List.set_cons_zero, List.set_cons_succ]
      refine wpAnyG_take (i := 7) (v := ?_) (by kernel_rfl) rfl (by kernel_rfl) (by kernel_rfl) (by kernel_rfl) (fun _ _ _ h => h) (Or.inl ⟨by rfl, ?_⟩) ⟨_, rfl⟩ ?_
      rotate_left
      · rintro wS ⟨yS, rfl⟩
        go_simp
        try (with_reducible rfl)
      try simp only [Act.put, List.setIfInBounds_toArray, List.set_cons_zero, List.set_cons_succ]
      refine wpAnyG_take (i := 8) (v := ?_) (by kernel_rfl) rfl (by kernel_rfl) (by kernel_rfl) (by kernel_rfl) (fun _ _ _ h => h) (Or.inl ⟨by rfl, ?_⟩) ⟨_, rfl⟩ ?_
      rotate_left
      · rintro wS ⟨yS, rfl⟩
        go_simp
        try (with_reducible rfl)
      try simp only [Act.put, List.setIfInBounds_toArray, List.set_cons_zero, List.set_cons_succ]
      refine wpAnyG_take (i := 9) (v := ?_) (by kernel_rfl) rfl (by kernel_rfl) (by kernel_rfl) (by kernel_rfl) (fun _ _ _ h => h) (Or.inl ⟨by rfl, ?_⟩) ⟨_, rfl⟩ ?_
      rotate_left
      · rintro wS ⟨yS, rfl⟩
        go_simp
        try (with_reducible rfl)
      try simp only [Act.put, List.setIfInBounds_toArray, List.set_cons_zero, List.set_cons_succ]
      refine wpAnyG_take (i := 10) (v := ?_) (by kernel_rfl) rfl (by kernel_rfl) (by kernel_rfl) (by kernel_rfl) (fun _ _ _ h => h) (Or.inl ⟨by rfl, ?_⟩) ⟨_, rfl⟩ ?_
      rotate_left
      · rintro wS ⟨yS, rfl⟩
        go_simp
        try (with_reducible rfl)
      try simp only [Act.put, List.setIfInBounds_toArray, List.set_cons_zero, List.set_cons_succ]
      refine wpAnyG_take (i := 11) (v := ?_) (by kernel_rfl) rfl (by kernel_rfl) (by kernel_rfl) (by kernel_rfl) (fun _ _ _ h => h) (Or.inl ⟨by rfl, ?_⟩) ⟨_, rfl⟩ ?_
      rotate_left
      · rintro wS ⟨yS, rfl⟩
        go_simp
        try (with_reducible rfl)
      try simp only [Act.put, List.setIfInBounds_toArray, List.set_cons_zero, List.set_cons_succ]
      refine wpAnyG_take (i := 12) (v := ?_) (by kernel_rfl) rfl (by kernel_rfl) (by kernel_rfl) (by kernel_rfl) (fun _ _ _ h => h) (Or.inl ⟨by rfl, ?_⟩) ⟨_, rfl⟩ ?_
      rotate_left
      · rintro wS ⟨yS, rfl⟩
        go_simp
        try (with_reducible rfl)
      try simp only [Act.put, List.setIfInBounds_toArray, List.set_cons_zero, List.set_cons_succ]
      refine wpAnyG_done (by kernel_rfl) (by kernel_rfl) (wpOp_plain rfl rfl ?_)
      go_simp
      go_wp2
      go_roundw
      case rel =>
        obtain ⟨w', e, h⟩ := (HRS.out.bel y0.b).step hlt
        rw [show (rotD D b).hs k = D.hs x from congrArg D.hs HXX.out, show (rotD D b).fr k = D.fr x from congrArg D.fr HXX.out, show (rotD D b).to k = D.to x from congrArg D.to HXX.out, show (rotD D b).co k = D.co x from congrArg D.co HXX.out] at e
        exact ⟨k + 1, by go_num, hlt, by rw [e]; exact h⟩
      case measure => first | (simp [intOf]; done) | (simp [intOf]; omega)
    · have hke : k = D.m := by omega
      subst hke
      have jk : decide ((D.m : Int) < (D.m : Int)) = false := by simp
      obtain ⟨wc, hwc⟩ : ∃ wc, wr = wc := ⟨_, rfl⟩
      have hin := HRS.out.fin
      have hbw := HRS.out.b
      obtain ⟨k0, k1, k2⟩ := And.intro HRS.out.c0 (And.intro HRS.out.c1 HRS.out.l.2.2.1)
      have HIc : Hid (∀ z : Ext wr, RoIn z.v z.v.heap.size D p q) := fun z => HI_0.out (z.up hbw)
      have HWc : Hid (∀ z : Ext wr, Below w.heap.size w z.v) := fun z => HW_0.out (z.up hbw)
      have HEc : Hid (∀ z : Ext wr, RoIn z.v z.v.heap.size (rotD D b) p' (some ⟨g2, 0, none⟩)) := fun z => hin.bel z.b
      clear hk hlt FR0 FR1 G0 G1 HRS hin
      have F0c : ∀ z : Ext wr, z.v.cell? ⟨w.heap.size, 0, none⟩ = some (.slice p D.n c) := fun z => F0_0 (z.up hbw)
      have F1c : ∀ z : Ext wr, z.v.cell? ⟨w.heap.size, 1, none⟩ = some (.slice q D.m d) := fun z => F1_0 (z.up hbw)
      have O0c : ∀ z : Ext wr, z.v.cell? ⟨ob, 0, none⟩ = some (.slice p' D.n c') := fun z => (z.b.cell (p := ⟨ob, 0, none⟩) k2).trans k0
      have O1c : ∀ z : Ext wr, z.v.cell? ⟨ob, 1, none⟩ = some (.slice (some ⟨g2, 0, none⟩) D.m d') := fun z => (z.b.cell (p := ⟨ob, 1, none⟩) k2).trans k1
      clear hbw k0 k1 k2 hwc F0_0 F1_0 HI_0 HW_0
      have hE := rot_ok HD.out b
      obtain ⟨a1, a2, a3, a4, a5, a6⟩ := order_all HD.out b st hs
      obtain ⟨x, hx⟩ : ∃ x, rot D.m b st = x := ⟨_, rfl⟩
      have hxm : x < D.m := by rw [← hx]; exact rot_lt hs
      have hbn : bnV (rotD D b) st = bnV D x := by
        unfold bnV
        rw [← a1]
        cases hxx : exB D with
        | false => rfl
        | true => simp only [if_true]; rw [a6 hxx, hx]
      have hlA : lkA (rotD D b) = lkA D := by unfold lkA; rw [show (rotD D b).n = D.n from rfl, a5]
      have hlB : lkB (rotD D b) = lkB D := by unfold lkB; rw [show (rotD D b).n = D.n from rfl, a5]
      have hlE : lkE (rotD D b) = lkE D := by unfold lkE; rw [show (rotD D b).n = D.n from rfl, a5]
      have hee : exE (rotD D b) = exE D := by unfold exE; rw [a1]
      have HT1 := Lib.hid (fun (V : World) hV => three_any D p q c d HD.out V hV)
      have HT2 := Lib.hid (show ∀ V, RoIn V V.heap.size (rotD D b) p' (some ⟨g2, 0, none⟩) → Calls Try.prog 17 #[.agg #[.slice p' D.n c', .slice (some ⟨g2, 0, none⟩) D.m d']] V fun e w' => e = .returned (.tuple #[.int .i64 (tL (rotD D b)), .int .i64 (tM (rotD D b)), .int .i64 (tN (rotD D b)), .bool (exB (rotD D b)), .bool false]) ∧ Below V.heap.size V w' from fun V hV => three_any (rotD D b) p' _ c' d' hE V hV)
      have HL1 := Lib.hid (fun (V : World) hV => lackP_any D p q c d V HD.out hcap hV)
      have HL2 := Lib.hid (show ∀ V, RoIn V V.heap.size (rotD D b) p' (some ⟨g2, 0, none⟩) → Calls Try.prog 20 #[.agg #[.slice p' D.n c', .slice (some ⟨g2, 0, none⟩) D.m d']] V fun e w' => e = .returned (.tuple #[.agg #[.int .i64 (lkA (rotD D b)), .int .i64 (lkB (rotD D b))], .int .i64 (lkE (rotD D b))]) ∧ Below V.heap.size V w' from fun V hV => lackP_any (rotD D b) p' _ c' d' V hE HCC.out hV)
      have HB1 := Lib.hid (fun (V : World) hV => boundP_any D p q c d x HD.out hxm V hV)
      have HB2 := Lib.hid (show ∀ V, RoIn V V.heap.size (rotD D b) p' (some ⟨g2, 0, none⟩) → Calls Try.prog 37 #[.agg #[.slice p' D.n c', .slice (some ⟨g2, 0, none⟩) D.m d'], .int .i64 (st : Int)] V fun e w' => e = .returned (.tuple #[.int .i64 (bnV (rotD D b) st), .int .i64 (exE (rotD D b))]) ∧ Below V.heap.size V w' from fun V hV => boundP_any (rotD D b) p' _ c' d' st hE hs V hV)
      rw [← a1, ← a2, ← a3, ← a4] at HT2
      rw [hlA, hlB, hlE] at HL2
      rw [hbn, hee] at HB2
      clear a1 a2 a3 a4 a5 a6 hbn hlA hlB hlE hee hE
      obtain ⟨tl, h1⟩ : ∃ x, tL D = x := ⟨_, rfl⟩
      obtain ⟨tm, h2⟩ : ∃ x, tM D = x := ⟨_, rfl⟩
      obtain ⟨tn, h3⟩ : ∃ x, tN D = x := ⟨_, rfl⟩
      obtain ⟨ex, h4⟩ : ∃ x, exB D = x := ⟨_, rfl⟩
      obtain ⟨ee, h5⟩ : ∃ x, exE D = x := ⟨_, rfl⟩
      obtain ⟨bn, h6⟩ : ∃ y, bnV D x = y := ⟨_, rfl⟩
      obtain ⟨la, h7⟩ : ∃ x, lkA D = x := ⟨_, rfl⟩
      obtain ⟨lb, h8⟩ : ∃ x, lkB D = x := ⟨_, rfl⟩
      obtain ⟨le, h9⟩ : ∃ x, lkE D = x := ⟨_, rfl⟩
      rw [h1, h2, h3, h4] at HT1 HT2
      rw [h7, h8, h9] at HL1 HL2
      rw [h6, h5] at HB1 HB2
      have HXX := Lib.hid hx
      clear h1 h2 h3 h4 h5 h6 h7 h8 h9 hx
      have i1 : (tl == tl) = true := by simp
      have i2 : (tm == tm) = true := by simp
      have i3 : (tn == tn) = true := by simp
      have i4 : (ex == ex) = true := by simp
      have i5 : (ee == ee) = true := by simp
      have i6 : (bn == bn) = true := by simp
      have i7 : (la == la) = true := by simp
      have i8 : (lb == lb) = true := by simp
      have i9 : (le == le) = true := by simp
      obtain ⟨z0, hz0⟩ := rebase wr
      rw [hz0]
      clear hz0
      go_wp2_with fail
      refine (quiet_x (HT1.out _ (HIc.out _))).mono ?_
      rintro e w' ⟨rfl, u1, rfl⟩
      go_wp2_with fail
      refine (quiet_x (HT2.out _ (HEc.out _))).mono ?_
      rintro e w' ⟨rfl, u2, rfl⟩
      go_wp2_with fail
      refine (HL1.out _ (HIc.out _)).mono ?_
      rintro e w6 ⟨rfl, hbw6⟩
      obtain ⟨w7, x7, hw7, hb7, hz7, S0, S1, _⟩ := box_span w6 la lb
      have HX7 := Lib.hid (bT (bT u2.b hbw6) hb7)
      clear hbw6 hb7 hz7
      have HId : Hid (∀ z : Ext w7, RoIn z.v z.v.heap.size D p q) := fun z => HIc.out (z.up HX7.out)
      have HEd : Hid (∀ z : Ext w7, RoIn z.v z.v.heap.size (rotD D b) p' (some ⟨g2, 0, none⟩)) := fun z => HEc.out (z.up HX7.out)
      have HWd : Hid (∀ z : Ext w7, Below w.heap.size w z.v) := fun z => HWc.out (z.up HX7.out)
      have F0d : ∀ z : Ext w7, z.v.cell? ⟨w.heap.size, 0, none⟩ = some (.slice p D.n c) := fun z => F0c (z.up HX7.out)
      have F1d : ∀ z : Ext w7, z.v.cell? ⟨w.heap.size, 1, none⟩ = some (.slice q D.m d) := fun z => F1c (z.up HX7.out)
      have O0d : ∀ z : Ext w7, z.v.cell? ⟨ob, 0, none⟩ = some (.slice p' D.n c') := fun z => O0c (z.up HX7.out)
      have O1d : ∀ z : Ext w7, z.v.cell? ⟨ob, 1, none⟩ = some (.slice (some ⟨g2, 0, none⟩) D.m d') := fun z => O1c (z.up HX7.out)
      clear HIc HEc HWc F0c F1c O0c O1c
      go_wp2_with fail
      refine (HL2.out _ (HEd.out _)).mono ?_
      rintro e w8 ⟨rfl, hbw8⟩
      obtain ⟨w9, x9, hw9, hb9, hz9, T0, T1, _⟩ := box_span w8 la lb
      have HX9 := Lib.hid (bT (bT x7.b hbw8) hb9)
      have S0e : ∀ z : Ext w9, z.v.cell? ⟨w6.heap.size, 0, none⟩ = some (.int .i64 la) := fun z => S0 (z.up HX9.out)
      have S1e : ∀ z : Ext w9, z.v.cell? ⟨w6.heap.size, 1, none⟩ = some (.int .i64 lb) := fun z => S1 (z.up HX9.out)
      clear hbw8 hb9 hz9 S0 S1
      have HIe : Hid (∀ z : Ext w9, RoIn z.v z.v.heap.size D p q) := fun z => HId.out (z.up HX9.out)
      have HEe : Hid (∀ z : Ext w9, RoIn z.v z.v.heap.size (rotD D b) p' (some ⟨g2, 0, none⟩)) := fun z => HEd.out (z.up HX9.out)
      have HWe : Hid (∀ z : Ext w9, Below w.heap.size w z.v) := fun z => HWd.out (z.up HX9.out)
      have F0e : ∀ z : Ext w9, z.v.cell? ⟨w.heap.size, 0, none⟩ = some (.slice p D.n c) := fun z => F0d (z.up HX9.out)
      have F1e : ∀ z : Ext w9, z.v.cell? ⟨w.heap.size, 1, none⟩ = some (.slice q D.m d) := fun z => F1d (z.up HX9.out)
      have O0e : ∀ z : Ext w9, z.v.cell? ⟨ob, 0, none⟩ = some (.slice p' D.n c') := fun z => O0d (z.up HX9.out)
      have O1e : ∀ z : Ext w9, z.v.cell? ⟨ob, 1, none⟩ = some (.slice (some ⟨g2, 0, none⟩) D.m d') := fun z => O1d (z.up HX9.out)
      clear HId HEd HWd F0d F1d O0d O1d
      go_wp2_with fail
      refine (quiet_x (HB2.out _ (HEe.out _))).mono ?_
      rintro e w' ⟨rfl, u3, rfl⟩
      have ew : IntKind.i64.wrap ((st : Int) + (b : Int)) = ((st + b : Nat) : Int) := by rw [IntWalk.i64_in _ (by omega)]; omega
      have em : Int.tmod ((st + b : Nat) : Int) (D.m : Int) = (x : Int) := by rw [← HXX.out]; unfold rot; rw [Int.tmod_eq_emod_of_nonneg (by omega)]; rfl
      have em2 : Int.tmod ((st : Int) + (b : Int)) (D.m : Int) = (x : Int) := by rw [← em]; rfl
      have hm1 : ¬ D.m = 0 := by omega
      go_wp2_with fail
      refine quiet_e (by kernel_rfl) (by kernel_rfl) ?_
      repeat (first | go_big_quiet_step ((first | (go_at_call 37; exact quiet_x (HB1.out _ (HIe.out _))))) | quiet_step ((first | (go_at_call 37; exact quiet_x (HB1.out _ (HIe.out _))))))
      refine wpQuiet_nil ?_
      intro w6 hw6
      obtain ⟨y8, rfl⟩ := hw6
      go_wp2_with fail
      refine (quiet_x (works_ex _)).mono ?_
      rintro e w' ⟨rfl, y9, rfl⟩
      go_wp2
      go_ret
      exact ⟨rfl, HWe.out y9⟩

theorem order_law (D : Ro) (p q : Option Addr) (c d : Nat) (by_ st : Int) (w : World) (hn : D.n ≤ maxLen) (hm : D.m ≤ maxLen) (hcap : D.n ≤ c) (hi : RoIn w w.heap.size D p q) :
    Calls Try.prog 9 #[.agg #[.slice p D.n c, .slice q D.m d], .int .i64 by_, .int .i64 st] w fun e w' => e = .returned (.bool true) ∧ Below w.heap.size w w' := by
  cases hr : rdy D with
  | false => exact order_o1 D p q c d by_ st w hn hm hr hi
  | true =>
    by_cases h4 : by_ < 0
    · exact order_o2 D p q c d by_ st w hn hm hr h4 hi
    · by_cases h5 : 100 < by_
      · exact order_o3 D p q c d by_ st w hn hm hr h4 h5 hi
      · cases hs : within st 0 ((D.m : Int) - 1) with
        | false => exact order_o4 D p q c d by_ st w hn hm hr h4 h5 hs hi
        | true =>
          have h6 := within_iff.1 hs
          obtain ⟨b, rfl⟩ : ∃ b : Nat, by_ = (b : Int) := ⟨by_.toNat, by omega⟩
          obtain ⟨s, rfl⟩ : ∃ s : Nat, st = (s : Int) := ⟨st.toNat, by omega⟩
          exact order_in D p q c d b s w hr (by omega) (by omega) hcap hi
end Go.Proofs.Ytegkgfiaegpihaa
