/- Rosters of hours: what a new roster costs, by how much it moves, and the same rosters. -/
import Derived.Test.YtegkgfiaegpihaaK2

import Derived.Test.YtegkgfiaegpihaaA3

import Derived.Test.YtegkgfiaegpihaaM2

set_option linter.unusedSimpArgs false

set_option linter.unusedVariables false

namespace Go.Proofs.Ytegkgfiaegpihaa

open Go.RowKit

/-- hours of the roster -/
def InH (D : Ro) (f : Nat → Int) : Prop := ∀ k, k < D.m → 0 ≤ f k ∧ f k < D.n
theorem NR.inH {D : Ro} (hD : OkP D) {f : Nat → Int} (h : NR D f) : InH D f := fun k hk => h.hr hD hk
theorem cost_bd2 {D : Ro} (hD : OkP D) {f : Nat → Int} (h : InH D f) {k : Nat} (hk : k ≤ D.m) : 0 ≤ costF D f k ∧ costF D f k ≤ 378 := by
  have h1 := sumN_bd (g := fun i => mv D i (f i) * D.co i) (A := 63) (k := k) (fun i hi => cost1_bd hD (by omega) (h i (by omega)))
  have := hD.m
  unfold costF; omega
theorem far_bd {D : Ro} (hD : OkP D) {f : Nat → Int} (h : InH D f) : ∀ {k : Nat}, k ≤ D.m → 0 ≤ farF D f k ∧ farF D f k ≤ 7
  | 0, _ => by simp [farF]
  | k + 1, hk => by
    have ih := far_bd hD h (k := k) (by omega)
    have := mvP_bd (hD.st k (by omega)).hs (h k (by omega))
    have := hD.n
    simp only [farF, mv]; omega
theorem costF_succ {D : Ro} {f : Nat → Int} {k : Nat} : costF D f (k + 1) = costF D f k + mvP (D.hs k) (f k) * D.co k := rfl
theorem hs_bd {D : Ro} (hD : OkP D) {k : Nat} (hk : k < D.m) : -100 ≤ D.hs k ∧ D.hs k ≤ 100 := by have := (hD.st k hk).hs; have := hD.n; omega
set_option maxRecDepth 100000 in
set_option maxHeartbeats 4000000 in
theorem costP_any (D : Ro) (p q lp : Option Addr) (c d lc : Nat) (f : Nat → Int) (w : World) (hD : OkP D) (hr : InH D f) (hi : RoIn w w.heap.size D p q) (hf : NumIn w w.heap.size D.m f lp) :
    Calls Try.prog 82 #[.agg #[.slice p D.n c, .slice q D.m d], .slice lp D.m lc] w fun e w' => e = .returned (.int .i64 (costF D f D.m)) ∧ Below w.heap.size w w' := by
  obtain ⟨w1, x, hw1, hb1, hz1, F0, F1, _⟩ := box_ro w p q D.n D.m c d
  have HB := Lib.hid hb1
  have HI : Hid (∀ x : Ext w1, RoIn x.v x.v.heap.size D p q) := fun x => (hi.bel hb1).bel x.b
  have HF : Hid (∀ x : Ext w1, NumIn x.v x.v.heap.size D.m f lp) := fun x => (hf.bel hb1).bel x.b
  have HR := Lib.hid hr; have HD := Lib.hid hD
  clear hb1 hz1 hi hf hr hD
  go_enter Try.func82, Try.ntmps82
  go_wp2
  clear hw1 F0 F1
  go_loopw [5, 11] (fun v i wr => ∃ k : Nat, i = .int .i64 k ∧ v = .int .i64 (costF D f k) ∧ k ≤ D.m ∧ ∃ x : Ext w1, wr = x.v) (fun v i _ => D.m - (intOf i).toNat)
  case atStart => exact ⟨0, rfl, rfl, Nat.zero_le _, x, rfl⟩
  case round =>
    obtain ⟨k, rfl, rfl, hk, z, rfl⟩ := hrel
    have hk6 : k ≤ 6 := by have := HD.out.m; omega
    by_cases hlt : k < D.m
    · obtain ⟨b, o, rfl, hbl, hc⟩ := (HI.out z).st (by omega)
      obtain ⟨b2, o2, rfl, _, _⟩ := (HF.out z) (by omega)
      have e0 := hc.c0 k hlt; have e1 := hc.c1 k hlt; have e2 := hc.c2 k hlt; have e3 := hc.c3 k hlt
      clear hc
      obtain ⟨w2, u, hw2, hb2, hz2, G0, G1, G2, G3, _⟩ := box_st z.v (D.hs k) (D.fr k) (D.to k) (D.co k)
      have HB2 := Lib.hid (bT z.b hb2)
      have E0 : ∀ y : Ext w2, y.v.cell? ⟨b2, o2 + k, none⟩ = some (.int .i64 (f k)) := fun y => ((HF.out (y.up (bT z.b hb2))).cell hlt).2
      have j : decide ((k : Int) < (D.m : Int)) = true := by simp; omega
      have hkm : (k : Int) < (D.m : Int) := by omega
      have q1 := hs_bd HD.out hlt; have q2 := HR.out k hlt; have q3 := HD.out.n
      have q4 : -100 ≤ f k ∧ f k ≤ 100 := by omega
      have q5 := cost1_bd HD.out hlt q2
      have q6 := cost_bd2 HD.out HR.out (show k + 1 ≤ D.m by omega)
      have t1 : IntKind.i64.wrap (mvP (D.hs k) (f k) * D.co k) = mvP (D.hs k) (f k) * D.co k := IntWalk.i64_in _ (by unfold mv at q5; omega)
      have t2 : IntKind.i64.wrap (costF D f k + mvP (D.hs k) (f k) * D.co k) = costF D f (k + 1) := IntWalk.i64_in _ (by rw [costF_succ] at q6; omega)
      have HQ1 := Lib.hid q1; have HQ4 := Lib.hid q4
      clear hb2 hz2 q1 q2 q3 q4 q5 q6
      go_wp2
      refine quiet_e (by kernel_rfl) (by kernel_rfl) ?_
      repeat (first | go_big_quiet_step ((first | (go_at_call 84; exact quiet_x (moveOf_any _ _ _ _ _ _ HQ1.out HQ4.out)))) | quiet_step ((first | (go_at_call 84; exact quiet_x (moveOf_any _ _ _ _ _ _ HQ1.out HQ4.out)))))
      refine wpQuiet_nil ?_
      intro w6 hw6
      obtain ⟨y3, rfl⟩ := hw6
      go_wp2
      go_roundw
      case rel => exact ⟨k + 1, by go_num, rfl, hlt, y3.up HB2.out, rfl⟩
      case measure => first | (simp [intOf]; done) | (simp [intOf]; omega)
    · have HK := Lib.hid (show k = D.m by omega)
      have j : decide ((k : Int) < (D.m : Int)) = false := by simp; omega
      clear hk
      go_wp2
      go_ret
      exact ⟨ret_i (by rw [HK.out]), bT HB.out z.b⟩
set_option maxRecDepth 100000 in
set_option maxHeartbeats 4000000 in
theorem costR_any (D : Ro) (p q lp : Option Addr) (c d lc : Nat) (f : Nat → Int) (w : World) (hD : OkP D) (hr : InH D f) (hi : RoIn w w.heap.size D p q) (hf : NumIn w w.heap.size D.m f lp) :
    Calls Try.prog 24 #[.agg #[.slice p D.n c, .slice q D.m d], .slice lp D.m lc] w fun e w' => e = .returned (.int .i64 (costF D f D.m)) ∧ Below w.heap.size w w' := by
  obtain ⟨w1, x, hw1, hb1, hz1, F0, F1, _⟩ := box_ro w p q D.n D.m c d
  have HB := Lib.hid hb1
  have HI : Hid (∀ x : Ext w1, RoIn x.v x.v.heap.size D p q) := fun x => (hi.bel hb1).bel x.b
  have HF : Hid (∀ x : Ext w1, NumIn x.v x.v.heap.size D.m f lp) := fun x => (hf.bel hb1).bel x.b
  have HR := Lib.hid hr; have HD := Lib.hid hD
  clear hb1 hz1 hi hf hr hD
  go_enter Try.func24, Try.ntmps24
  go_wp2
  clear hw1
  go_loopw [5, 6] (fun v i wr => ∃ k : Nat, i = .int .i64 k ∧ v = .int .i64 (costF D f k) ∧ k ≤ D.m ∧ ∃ x : Ext w1, wr = x.v) (fun v i _ => D.m - (intOf i).toNat)
  case atStart => exact ⟨0, rfl, rfl, Nat.zero_le _, x, rfl⟩
  case round =>
    obtain ⟨k, rfl, rfl, hk, z, rfl⟩ := hrel
    have hk6 : k ≤ 6 := by have := HD.out.m; omega
    by_cases hlt : k < D.m
    · obtain ⟨b, o, rfl, _, _⟩ := (HI.out z).st (by omega)
      obtain ⟨b2, o2, rfl, _, _⟩ := (HF.out z) (by omega)
      have G0 : ∀ y : Ext w1, y.v.cell? ⟨b, o + k * 4, none⟩ = some (.int .i64 (D.hs k)) := fun y => (HI.out y).c0 hlt
      have G1 : ∀ y : Ext w1, y.v.cell? ⟨b, o + k * 4 + 1, none⟩ = some (.int .i64 (D.fr k)) := fun y => (HI.out y).c1 hlt
      have G2 : ∀ y : Ext w1, y.v.cell? ⟨b, o + k * 4 + 2, none⟩ = some (.int .i64 (D.to k)) := fun y => (HI.out y).c2 hlt
      have G3 : ∀ y : Ext w1, y.v.cell? ⟨b, o + k * 4 + 3, none⟩ = some (.int .i64 (D.co k)) := fun y => (HI.out y).c3 hlt
      have E0 : ∀ y : Ext w1, y.v.cell? ⟨b2, o2 + k, none⟩ = some (.int .i64 (f k)) := fun y => ((HF.out y).cell hlt).2
      have j : decide ((k : Int) < (D.m : Int)) = true := by simp; omega
      have hkm : (k : Int) < (D.m : Int) := by omega
      have q1 := hs_bd HD.out hlt; have q2 := HR.out k hlt; have q3 := HD.out.n
      have q4 : -100 ≤ f k ∧ f k ≤ 100 := by omega
      have q5 := cost1_bd HD.out hlt q2
      have q6 := cost_bd2 HD.out HR.out (show k + 1 ≤ D.m by omega)
      have t1 : IntKind.i64.wrap (mvP (D.hs k) (f k) * D.co k) = mvP (D.hs k) (f k) * D.co k := IntWalk.i64_in _ (by unfold mv at q5; omega)
      have t2 : IntKind.i64.wrap (costF D f k + mvP (D.hs k) (f k) * D.co k) = costF D f (k + 1) := IntWalk.i64_in _ (by rw [costF_succ] at q6; omega)
      have HQ1 := Lib.hid q1; have HQ4 := Lib.hid q4
      clear q1 q2 q3 q4 q5 q6
      go_wp2
      refine quiet_e (by kernel_rfl) (by kernel_rfl) ?_
      repeat (first | go_big_quiet_step ((first | (go_at_call 33; exact quiet_x (moveOfR_any _ _ _ _ _ _ HQ1.out HQ4.out)))) | quiet_step ((first | (go_at_call 33; exact quiet_x (moveOfR_any _ _ _ _ _ _ HQ1.out HQ4.out)))))
      refine wpQuiet_nil ?_
      intro w6 hw6
      obtain ⟨y3, rfl⟩ := hw6
      go_wp2
      go_roundw
      case rel => exact ⟨k + 1, by go_num, rfl, hlt, y3, rfl⟩
      case measure => first | (simp [intOf]; done) | (simp [intOf]; omega)
    · have HK := Lib.hid (show k = D.m by omega)
      have j : decide ((k : Int) < (D.m : Int)) = false := by simp; omega
      clear hk
      go_wp2
      go_ret
      exact ⟨ret_i (by rw [HK.out]), bT HB.out z.b⟩
set_option maxRecDepth 100000 in
set_option maxHeartbeats 4000000 in
theorem farR_any (D : Ro) (p q lp : Option Addr) (c d lc : Nat) (f : Nat → Int) (w : World) (hD : OkP D) (hr : InH D f) (hi : RoIn w w.heap.size D p q) (hf : NumIn w w.heap.size D.m f lp) :
    Calls Try.prog 25 #[.agg #[.slice p D.n c, .slice q D.m d], .slice lp D.m lc] w fun e w' => e = .returned (.int .i64 (farF D f D.m)) ∧ Below w.heap.size w w' := by
  obtain ⟨w1, x, hw1, hb1, hz1, F0, F1, _⟩ := box_ro w p q D.n D.m c d
  have HB := Lib.hid hb1
  have HI : Hid (∀ x : Ext w1, RoIn x.v x.v.heap.size D p q) := fun x => (hi.bel hb1).bel x.b
  have HF : Hid (∀ x : Ext w1, NumIn x.v x.v.heap.size D.m f lp) := fun x => (hf.bel hb1).bel x.b
  have HR := Lib.hid hr; have HD := Lib.hid hD
  clear hb1 hz1 hi hf hr hD
  go_enter Try.func25, Try.ntmps25
  go_wp2
  clear hw1
  go_loopw [5, 6] (fun v i wr => ∃ k : Nat, i = .int .i64 k ∧ v = .int .i64 (farF D f k) ∧ k ≤ D.m ∧ ∃ x : Ext w1, wr = x.v) (fun v i _ => D.m - (intOf i).toNat)
  case atStart => exact ⟨0, rfl, rfl, Nat.zero_le _, x, rfl⟩
  case round =>
    obtain ⟨k, rfl, rfl, hk, z, rfl⟩ := hrel
    have hk6 : k ≤ 6 := by have := HD.out.m; omega
    by_cases hlt : k < D.m
    · obtain ⟨b, o, rfl, _, _⟩ := (HI.out z).st (by omega)
      obtain ⟨b2, o2, rfl, _, _⟩ := (HF.out z) (by omega)
      have G0 : ∀ y : Ext w1, y.v.cell? ⟨b, o + k * 4, none⟩ = some (.int .i64 (D.hs k)) := fun y => (HI.out y).c0 hlt
      have G1 : ∀ y : Ext w1, y.v.cell? ⟨b, o + k * 4 + 1, none⟩ = some (.int .i64 (D.fr k)) := fun y => (HI.out y).c1 hlt
      have G2 : ∀ y : Ext w1, y.v.cell? ⟨b, o + k * 4 + 2, none⟩ = some (.int .i64 (D.to k)) := fun y => (HI.out y).c2 hlt
      have G3 : ∀ y : Ext w1, y.v.cell? ⟨b, o + k * 4 + 3, none⟩ = some (.int .i64 (D.co k)) := fun y => (HI.out y).c3 hlt
      have E0 : ∀ y : Ext w1, y.v.cell? ⟨b2, o2 + k, none⟩ = some (.int .i64 (f k)) := fun y => ((HF.out y).cell hlt).2
      have j : decide ((k : Int) < (D.m : Int)) = true := by simp; omega
      have hkm : (k : Int) < (D.m : Int) := by omega
      have q1 := hs_bd HD.out hlt; have q2 := HR.out k hlt; have q3 := HD.out.n
      have q4 : -100 ≤ f k ∧ f k ≤ 100 := by omega
      have q5 := cost1_bd HD.out hlt q2
      have q6 : True := trivial
      have t1 : (if farF D f k < mvP (D.hs k) (f k) then mvP (D.hs k) (f k) else farF D f k) = farF D f (k + 1) := if_max _ _
      have t2 : (if mvP (D.hs k) (f k) < farF D f k then farF D f k else mvP (D.hs k) (f k)) = farF D f (k + 1) := if_max' _ _
      have HQ1 := Lib.hid q1; have HQ4 := Lib.hid q4
      clear q1 q2 q3 q4 q5 q6
      go_wp2
      refine quiet_e (by kernel_rfl) (by kernel_rfl) ?_
      repeat (first | go_big_quiet_step ((first | (go_at_call 33; exact quiet_x (moveOfR_any _ _ _ _ _ _ HQ1.out HQ4.out)))) | quiet_step ((first | (go_at_call 33; exact quiet_x (moveOfR_any _ _ _ _ _ _ HQ1.out HQ4.out)))))
      refine wpQuiet_nil ?_
      intro w6 hw6
      obtain ⟨y3, rfl⟩ := hw6
      go_wp2
      go_roundw
      case rel => exact ⟨k + 1, by go_num, rfl, hlt, y3, rfl⟩
      case measure => first | (simp [intOf]; done) | (simp [intOf]; omega)
    · have HK := Lib.hid (show k = D.m by omega)
      have j : decide ((k : Int) < (D.m : Int)) = false := by simp; omega
      clear hk
      go_wp2
      go_ret
      exact ⟨ret_i (by rw [HK.out]), bT HB.out z.b⟩
set_option maxRecDepth 100000 in
set_option maxHeartbeats 4000000 in
/-- the same rosters are the same -/
theorem same_any (D : Ro) (p q : Option Addr) (c d : Nat) (p' q' : Option Addr) (c' d' : Nat) (w : World) (hn : D.n ≤ 40) (hm : D.m ≤ 40) (hi : RoIn w w.heap.size D p q) (hi' : RoIn w w.heap.size D p' q') :
    Calls Try.prog 48 #[.agg #[.slice p D.n c, .slice q D.m d], .agg #[.slice p' D.n c', .slice q' D.m d']] w fun e w' => e = .returned (.bool true) ∧ Below w.heap.size w w' := by
  obtain ⟨w1, x1, e1, hb1, hz1, A0, A1, _⟩ := box_ro w p q D.n D.m c d
  obtain ⟨w2, x2, e2, b2, hz2, B0, B1, _⟩ := box_ro x1.v p' q' D.n D.m c' d'
  have hb := bT x1.b b2
  have HB := Lib.hid (bT hb1 hb)
  have HI : Hid (∀ x : Ext w2, RoIn x.v x.v.heap.size D p q) := fun x => ((hi.bel hb1).bel hb).bel x.b
  have HI' : Hid (∀ x : Ext w2, RoIn x.v x.v.heap.size D p' q') := fun x => ((hi'.bel hb1).bel hb).bel x.b
  replace A0 : ∀ y : Ext w2, y.v.cell? ⟨w.heap.size, 0, none⟩ = some (.slice p D.n c) := fun y => A0 (y.up hb)
  replace A1 : ∀ y : Ext w2, y.v.cell? ⟨w.heap.size, 1, none⟩ = some (.slice q D.m d) := fun y => A1 (y.up hb)
  clear hb1 hz1 b2 hz2 hb hi hi'
  have d1 : ((D.m : Int) != (D.m : Int)) = false := by simp
  go_enter Try.func48, Try.ntmps48
  go_wp2_with fail
  refine (quiet_x (sameInts_is _ (by omega) (HI.out _).rm (HI'.out _).rm)).mono ?_
  rintro e w' ⟨rfl, y, rfl⟩
  go_wp2
  clear e1 e2
  go_loopw [5] (fun i wr => ∃ k : Nat, i = .int .i64 k ∧ k ≤ D.m ∧ ∃ x : Ext w2, wr = x.v) (fun i _ => D.m - (intOf i).toNat)
  case atStart => exact ⟨0, rfl, Nat.zero_le _, y, rfl⟩
  case round =>
    obtain ⟨k, rfl, hk, u, rfl⟩ := hrel
    by_cases hlt : k < D.m
    · obtain ⟨b1, o1, rfl, _, _⟩ := (HI.out u).st (by omega)
      obtain ⟨b2, o2, rfl, _, _⟩ := (HI'.out u).st (by omega)
      have C0 : ∀ z : Ext w2, z.v.cell? ⟨b1, o1 + k * 4, none⟩ = some (.int .i64 (D.hs k)) := fun z => (HI.out z).c0 hlt
      have C1 : ∀ z : Ext w2, z.v.cell? ⟨b1, o1 + k * 4 + 1, none⟩ = some (.int .i64 (D.fr k)) := fun z => (HI.out z).c1 hlt
      have C2 : ∀ z : Ext w2, z.v.cell? ⟨b1, o1 + k * 4 + 2, none⟩ = some (.int .i64 (D.to k)) := fun z => (HI.out z).c2 hlt
      have C3 : ∀ z : Ext w2, z.v.cell? ⟨b1, o1 + k * 4 + 3, none⟩ = some (.int .i64 (D.co k)) := fun z => (HI.out z).c3 hlt
      have E0 : ∀ z : Ext w2, z.v.cell? ⟨b2, o2 + k * 4, none⟩ = some (.int .i64 (D.hs k)) := fun z => (HI'.out z).c0 hlt
      have E1 : ∀ z : Ext w2, z.v.cell? ⟨b2, o2 + k * 4 + 1, none⟩ = some (.int .i64 (D.fr k)) := fun z => (HI'.out z).c1 hlt
      have E2 : ∀ z : Ext w2, z.v.cell? ⟨b2, o2 + k * 4 + 2, none⟩ = some (.int .i64 (D.to k)) := fun z => (HI'.out z).c2 hlt
      have E3 : ∀ z : Ext w2, z.v.cell? ⟨b2, o2 + k * 4 + 3, none⟩ = some (.int .i64 (D.co k)) := fun z => (HI'.out z).c3 hlt
      have j : decide ((k : Int) < (D.m : Int)) = true := by simp; omega
      have j2 : (k : Int) < (D.m : Int) := by omega
      go_wp2
      refine quiet_e (by kernel_rfl) (by kernel_rfl) ?_
      repeat (first | go_big_quiet_step (fail) | quiet_step (fail))
      refine wpQuiet_nil ?_
      intro w6 hw6
      obtain ⟨u2, rfl⟩ := hw6
      go_wp2
      go_roundw
      case rel => exact ⟨k + 1, by go_num, hlt, u2, rfl⟩
      case measure => first | (simp [intOf]; done) | (simp [intOf]; omega)
    · have j : decide ((k : Int) < (D.m : Int)) = false := by simp; omega
      go_wp2
      go_ret
      exact ⟨rfl, bT HB.out u.b⟩
end Go.Proofs.Ytegkgfiaegpihaa
