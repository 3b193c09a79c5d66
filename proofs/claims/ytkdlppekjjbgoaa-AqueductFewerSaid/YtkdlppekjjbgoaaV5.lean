/- AqueductFewer returns true in every walk: several stretches. -/
import Derived.Test.YtkdlppekjjbgoaaA8

import Derived.Test.YtkdlppekjjbgoaaB1

import Derived.Test.YtkdlppekjjbgoaaC1

import Derived.Test.YtkdlppekjjbgoaaW4

import Derived.Test.YtkdlppekjjbgoaaV1

set_option linter.unusedSimpArgs false

set_option linter.unusedVariables false

namespace Go.Proofs.Ytkdlppekjjbgoaa

open Go.RowKit

set_option maxRecDepth 100000 in
set_option maxHeartbeats 8000000 in
theorem fewer_many (D : Duct) (p q : Option Addr) (c d : Nat) (g0 g1 g2 g3 : Int) (w : World) (hn4 : D.n ≤ 40) (hm4 : D.m ≤ 40) (hi : DuctIn w w.heap.size D p q) (hrd : (!(decide (40 < D.n) || decide (40 < D.m)) && D.ok) = true) (hok : D.ok = true) (a b e f : Nat) (ea : g0 = (a : Int)) (eb : g1 = (b : Int)) (ee : g2 = (e : Int)) (ef : g3 = (f : Int)) (hab : a < b) (hbm : b ≤ D.m) (hef : e < f) (hfm : f ≤ D.m) (hae : a ≤ e) (hfb : f ≤ b) (h2 : a + 1 < b) :
    Calls Try.prog 6 #[.agg #[.slice p D.n c, .slice q D.m d], .agg #[.int .i64 g0, .int .i64 g1, .int .i64 g2, .int .i64 g3]] w fun e w' => e = .returned (.bool true) ∧ Below w.heap.size w w' := by
  have hn : D.n ≤ maxLen := by unfold maxLen; omega
  have hm : D.m ≤ maxLen := by unfold maxLen; omega
  have hnm := (D.ok_parts hok).2.1
  have hm7 := (D.ok_parts hok).1
  have hco := co_bd hok
  have s0 : areS D g0 g1 = true := by rw [ea, eb]; exact areS_tt hab hbm
  have s1 : areS D g2 g3 = true := by rw [ee, ef]; exact areS_tt hef hfm
  have d1 : decide (g2 < g0) = false := by simp; omega
  have d2 : decide (g1 < g3) = false := by simp; omega
  obtain ⟨pb, po, rfl, _, _⟩ := hi.pt (by omega)
  obtain ⟨al, hal⟩ : ∃ z, WW D a b = z := ⟨_, rfl⟩
  obtain ⟨so, hso⟩ : ∃ z, WW D e f = z := ⟨_, rfl⟩
  have hmo := W_mono hco (n := b - a) (a := a) (b := b) (c := e) (e := f) (Nat.le_refl _) (by omega) hae hfb
  have hson := W_nn hco (f := e) (t := f) (by omega)
  have hab7 := (W_bd hco (n := 7) (f := a) (t := b) (by omega) (by omega)).2
  have hsum := W_sum hco (n := b - a) (f := a) (t := b) (Nat.le_refl _) hab (by omega)
  have hlea := W_least hco (f := a) (t := b) h2 (by omega)
  obtain ⟨nx, n1, n2, n3, n4, _, _⟩ := W_spec (D := D) (f := a) (t := b) h2
  unfold vW at n4
  have hbfn := W_nn hco (f := a) (t := nx) (by omega)
  have hbhn := W_nn hco (f := nx) (t := b) (by omega)
  have hcn := hco nx (by omega)
  obtain ⟨bf, hbf⟩ : ∃ z, WW D a nx = z := ⟨_, rfl⟩
  obtain ⟨bh, hbh⟩ : ∃ z, WW D nx b = z := ⟨_, rfl⟩
  rw [hal, hbf, hbh] at n4
  rw [hbf] at hbfn; rw [hbh] at hbhn
  rw [hal] at hlea
  rw [hal] at hmo hab7 hsum
  rw [hso] at hmo hson
  have d3 : decide (so < 0) = false := by simp; omega
  have d4 : decide (al < so) = false := by simp; omega
  have d5 : decide (140 < al) = false := by simp; omega
  have HW1 := Lib.hid (show ∀ V : World, DuctIn V V.heap.size D (some ⟨pb, po, none⟩) q → Calls Try.prog 28 #[.agg #[.slice (some ⟨pb, po, none⟩) D.n c, .slice q D.m d], .int .i64 g0, .int .i64 g1] V fun e w' => e = .returned (.tuple #[.int .i64 al, .int .i64 0]) ∧ Below V.heap.size V w' from fun V h => by
    have := worstP_ok D (some ⟨pb, po, none⟩) q c d a b V hab hbm hn4 hok h
    rw [hal, ← ea, ← eb] at this
    exact this)
  have HW2 := Lib.hid (show ∀ V : World, DuctIn V V.heap.size D (some ⟨pb, po, none⟩) q → Calls Try.prog 28 #[.agg #[.slice (some ⟨pb, po, none⟩) D.n c, .slice q D.m d], .int .i64 g2, .int .i64 g3] V fun e w' => e = .returned (.tuple #[.int .i64 so, .int .i64 0]) ∧ Below V.heap.size V w' from fun V h => by
    have := worstP_ok D (some ⟨pb, po, none⟩) q c d e f V hef hfm hn4 hok h
    rw [hso, ← ee, ← ef] at this
    exact this)
  have HNX := Lib.hid (show ∀ V : World, DuctIn V V.heap.size D (some ⟨pb, po, none⟩) q → Calls Try.prog 31 #[.agg #[.slice (some ⟨pb, po, none⟩) D.n c, .slice q D.m d], .int .i64 g0, .int .i64 g1] V fun e w' => e = .returned (.tuple #[.int .i64 (nx : Int), .int .i64 0]) ∧ Below V.heap.size V w' from fun V h => by
    have := nextP_ok D (some ⟨pb, po, none⟩) q c d a b V h2 hbm hn4 hok h
    rw [n3, ← ea, ← eb] at this
    exact this)
  have HW3 := Lib.hid (show ∀ V : World, DuctIn V V.heap.size D (some ⟨pb, po, none⟩) q → Calls Try.prog 28 #[.agg #[.slice (some ⟨pb, po, none⟩) D.n c, .slice q D.m d], .int .i64 g0, .int .i64 (nx : Int)] V fun e w' => e = .returned (.tuple #[.int .i64 bf, .int .i64 0]) ∧ Below V.heap.size V w' from fun V h => by
    have := worstP_ok D (some ⟨pb, po, none⟩) q c d a nx V n1 (by omega) hn4 hok h
    rw [hbf, ← ea] at this
    exact this)
  have HW4 := Lib.hid (show ∀ V : World, DuctIn V V.heap.size D (some ⟨pb, po, none⟩) q → Calls Try.prog 28 #[.agg #[.slice (some ⟨pb, po, none⟩) D.n c, .slice q D.m d], .int .i64 (nx : Int), .int .i64 g1] V fun e w' => e = .returned (.tuple #[.int .i64 bh, .int .i64 0]) ∧ Below V.heap.size V w' from fun V h => by
    have := worstP_ok D (some ⟨pb, po, none⟩) q c d nx b V n2 hbm hn4 hok h
    rw [hbh, ← eb] at this
    exact this)
  have HRD := Lib.hid (show ∀ V : World, DuctIn V V.heap.size D (some ⟨pb, po, none⟩) q → Calls Try.prog 15 #[.agg #[.slice (some ⟨pb, po, none⟩) D.n c, .slice q D.m d]] V fun e w' => e = .returned (.bool true) ∧ Below V.heap.size V w' from fun V h => by
    have := ready_any D (some ⟨pb, po, none⟩) q c d V hn hm h
    rw [hrd] at this
    exact this)
  have HS0 := Lib.hid (show ∀ V : World, Calls Try.prog 35 #[.agg #[.slice (some ⟨pb, po, none⟩) D.n c, .slice q D.m d], .int .i64 g0, .int .i64 g1] V fun e w' => e = .returned (.bool true) ∧ Below V.heap.size V w' from fun V => by
    have := areSomeR_any D (some ⟨pb, po, none⟩) q c d g0 g1 V hm4
    rw [s0] at this
    exact this)
  have HS1 := Lib.hid (show ∀ V : World, Calls Try.prog 35 #[.agg #[.slice (some ⟨pb, po, none⟩) D.n c, .slice q D.m d], .int .i64 g2, .int .i64 g3] V fun e w' => e = .returned (.bool true) ∧ Below V.heap.size V w' from fun V => by
    have := areSomeR_any D (some ⟨pb, po, none⟩) q c d g2 g3 V hm4
    rw [s1] at this
    exact this)
  have dE : (g1 == g0 + 1) = false := by simp; omega
  have d6 : decide ((nx : Int) ≤ g0) = false := by simp; omega
  have d7 : decide (g1 ≤ (nx : Int)) = false := by simp; omega
  have hw2 : IntKind.i64.wrap (g0 + 2) = g0 + 2 := IntWalk.i64_in _ (by omega)
  obtain ⟨mx, hmx⟩ : ∃ z, max bf bh = z := ⟨_, rfl⟩
  have hmi : (if bf < bh then bh else bf) = mx := by rw [← hmx, Int.max_def]; split <;> split <;> omega
  rw [hmx] at n4
  have hmxn : 0 ≤ mx := by omega
  have d8 : decide (0 ≤ mx) = true := by simpa using hmxn
  have d9 : decide (mx ≤ al) = true := by simp; omega
  have hw3 : IntKind.i64.wrap (D.co nx + mx) = al := by rw [← n4]; exact IntWalk.i64_in _ (by omega)
  have jn : (nx : Int) < (D.n : Int) := by omega
  have hw1 : IntKind.i64.wrap (g0 + 1) = g0 + 1 := IntWalk.i64_in _ (by omega)
  have HCO := Lib.hid hco
  have HEB := Lib.hid eb; have HEA := Lib.hid ea
  have HBM := Lib.hid (show a < b ∧ b ≤ D.m ∧ D.n = D.m + 1 ∧ D.m ≤ 7 from ⟨hab, hbm, hnm, hm7⟩)
  have HH2 := Lib.hid h2
  have HSM := Lib.hid hsum; have HLE := Lib.hid hlea
  have HTW : Hid (g1 = g0 + 2 → al = sC D b - sC D (a + 1)) := fun h => by
    obtain rfl : b = a + 2 := by omega
    rw [← hal]; exact W_two
  clear hlea n3 n4 hcn hbfn hbhn hbf hbh hmx hmxn n1 n2 h2
  clear hco ea eb ee ef hab hbm hef hfm hae hfb hnm hm7 hmo hson hab7 hsum hal hso s0 s1 hrd
  obtain ⟨w1, x, e1, hb1, hl1⟩ := mk_line w (some ⟨pb, po, none⟩) q D.n D.m c d
  obtain ⟨w2, x2, e2, b2, f2⟩ := mk_four x 56 g0 g1 g2 g3
  have HB := Lib.hid (bT hb1 b2)
  have HI := Lib.hid ((hi.bel hb1).bel b2)
  have HLb := Lib.hid (hl1.bel b2)
  have HF := Lib.hid f2
  clear hb1 hl1 hi b2 f2
  have L0 : ∀ z : Ext w2, z.v.cell? ⟨w.heap.size, 0, none⟩ = some (.slice (some ⟨pb, po, none⟩) D.n c) := fun z => (HLb.out.bel z.b).c0
  have L1 : ∀ z : Ext w2, z.v.cell? ⟨w.heap.size, 1, none⟩ = some (.slice q D.m d) := fun z => (HLb.out.bel z.b).c1
  have V0 : ∀ z : Ext w2, z.v.cell? ⟨x.v.heap.size, 0, none⟩ = some (.int .i64 g0) := fun z => (HF.out.bel z.b).c0
  have V1 : ∀ z : Ext w2, z.v.cell? ⟨x.v.heap.size, 1, none⟩ = some (.int .i64 g1) := fun z => (HF.out.bel z.b).c1
  have V2 : ∀ z : Ext w2, z.v.cell? ⟨x.v.heap.size, 2, none⟩ = some (.int .i64 g2) := fun z => (HF.out.bel z.b).c2
  have V3 : ∀ z : Ext w2, z.v.cell? ⟨x.v.heap.size, 3, none⟩ = some (.int .i64 g3) := fun z => (HF.out.bel z.b).c3
  have C0 : ∀ z : Ext w2, z.v.cell? ⟨pb, po + nx * 3 + 1 + 1, none⟩ = some (.int .i64 (D.co nx)) := fun z => (HI.out.bel z.b).co' (by have := HBM.out; have := jn; omega)
  have C1 : ∀ z : Ext w2, z.v.cell? ⟨pb, po + nx * 3 + 2, none⟩ = some (.int .i64 (D.co nx)) := fun z => (HI.out.bel z.b).co' (by have := HBM.out; have := jn; omega)
  go_enter Try.func6, Try.ntmps6
  go_wp2_with fail
  refine (quiet_x (HRD.out _ (HI.out.bel (Ext.b _)))).mono ?_
  rintro e w' ⟨rfl, y, rfl⟩
  go_wp2_with fail
  refine (quiet_x (HS0.out _)).mono ?_
  rintro e w' ⟨rfl, y, rfl⟩
  go_wp2_with fail
  refine (quiet_x (HS1.out _)).mono ?_
  rintro e w' ⟨rfl, y, rfl⟩
  go_wp2_with fail
  refine (quiet_x (HW1.out _ (HI.out.bel (Ext.b _)))).mono ?_
  rintro e w' ⟨rfl, y, rfl⟩
  go_wp2_with fail
  refine (quiet_x (HW2.out _ (HI.out.bel (Ext.b _)))).mono ?_
  rintro e w' ⟨rfl, y, rfl⟩
  go_wp2_with fail
  go_loopw [9, 10, 11] (fun s l i wr => ∃ pt : Nat, i = .int .i64 (pt : Int) ∧ s = .int .i64 (sC D pt - sC D (a + 1)) ∧ l = .int .i64 (mC D a (pt - a - 1)) ∧ a + 1 ≤ pt ∧ pt ≤ b ∧ ∃ z : Ext w2, wr = z.v) (fun _ _ i _ => b - (intOf i).toNat)
  case atStart =>
    have hb := HBM.out
    exact ⟨a + 1, by rw [HEA.out]; go_num, by rw [Int.sub_self], by rw [show a + 1 - a - 1 = 0 by omega]; rfl, by omega, by omega, y, rfl⟩
  case round =>
      obtain ⟨pt, rfl, rfl, rfl, hp1, hp2, z, rfl⟩ := hrel
      have hbm := HBM.out
      have hg1 := HEB.out
      by_cases hlt : pt < b
      · have d10 : decide ((pt : Int) < g1) = true := by simp; omega
        have jp : (pt : Int) < (D.n : Int) := by omega
        have P0 : ∀ z : Ext w2, z.v.cell? ⟨pb, po + pt * 3 + 2, none⟩ = some (.int .i64 (D.co pt)) := fun z => (HI.out.bel z.b).co' (by omega)
        have P1 : ∀ z : Ext w2, z.v.cell? ⟨pb, po + pt * 3 + 1 + 1, none⟩ = some (.int .i64 (D.co pt)) := P0
        have hs : IntKind.i64.wrap (sC D pt - sC D (a + 1) + D.co pt) = sC D (pt + 1) - sC D (a + 1) := by
          have h1 := sC_bd HCO.out (k := a + 1) (i := pt - (a + 1)) (by omega)
          rw [show a + 1 + (pt - (a + 1)) = pt by omega] at h1
          have h2 := HCO.out pt (by omega)
          have h3 : sC D (pt + 1) = sC D pt + D.co pt := rfl
          rw [IntWalk.i64_in _ (by omega)]; omega
        have hmn : (if D.co pt < mC D a (pt - a - 1) then D.co pt else mC D a (pt - a - 1)) = mC D a (pt + 1 - a - 1) := by
          rw [show pt + 1 - a - 1 = (pt - a - 1) + 1 by omega]
          show _ = min _ (D.co (a + 1 + (pt - a - 1)))
          rw [show a + 1 + (pt - a - 1) = pt by omega, Int.min_def]; split <;> split <;> omega
        obtain ⟨S, hS⟩ : ∃ z, sC D pt - sC D (a + 1) = z := ⟨_, rfl⟩
        obtain ⟨L, hL⟩ : ∃ z, mC D a (pt - a - 1) = z := ⟨_, rfl⟩
        obtain ⟨S2, hS2⟩ : ∃ z, sC D (pt + 1) - sC D (a + 1) = z := ⟨_, rfl⟩
        obtain ⟨L2, hL2⟩ : ∃ z, mC D a (pt + 1 - a - 1) = z := ⟨_, rfl⟩
        rw [hS, hS2] at hs
        rw [hL, hL2] at hmn
        rw [hS, hL]
        have HS2 := Lib.hid hS2; have HL2 := Lib.hid hL2; have HP := Lib.hid (And.intro hp1 hlt)
        clear hS2 hL2 hS hL hp1 hp2 hlt hbm hg1
        go_wp2_with fail
        go_roundw
        case rel =>
          have hp := HP.out
          exact ⟨pt + 1, by go_num, by rw [HS2.out], by rw [HL2.out], by omega, by omega, z, rfl⟩
        case measure => have := HP.out; first | (simp [intOf]; done) | (simp [intOf]; omega)
      · have hpb : pt = b := by omega
        subst hpb
        have d10 : decide ((pt : Int) < g1) = false := by simp; omega
        obtain ⟨S, hS⟩ : ∃ z, sC D pt - sC D (a + 1) = z := ⟨_, rfl⟩
        obtain ⟨L, hL⟩ : ∃ z, mC D a (pt - a - 1) = z := ⟨_, rfl⟩
        have d11 : decide (S < al) = false := by have := HSM.out; rw [hS] at this; simp; omega
        have d12 : decide (al < L) = false := by have := HLE.out; rw [hL] at this; simp; omega
        have htw := HTW.out
        rw [hS] at htw
        rw [hS, hL]
        clear hp1 hp2 hlt hS hL HSM HLE HTW hbm hg1
        by_cases hE2 : g1 = g0 + 2
        · obtain rfl := htw hE2
          have HE12 := Lib.hid hE2
          clear htw hE2
          go_wp2_with fail
          refine (quiet_x (HNX.out _ (HI.out.bel (Ext.b _)))).mono ?_
          rintro e w' ⟨rfl, y, rfl⟩
          rw [HE12.out] at V1 HW4 d7
          clear d10 dE
          go_wp2_with fail
          refine (quiet_x (HW3.out _ (HI.out.bel (Ext.b _)))).mono ?_
          rintro e w' ⟨rfl, y, rfl⟩
          go_wp2_with fail
          refine (quiet_x (HW4.out _ (HI.out.bel (Ext.b _)))).mono ?_
          rintro e w' ⟨rfl, y, rfl⟩
          go_wp2_with fail
          refine (quiet_x (works_ex _)).mono ?_
          rintro e w' ⟨rfl, y, rfl⟩
          go_wp2_with fail
          go_ret
          exact ⟨rfl, bT HB.out (Ext.b _)⟩
        · have d13 : (g1 == g0 + 2) = false := by simpa using hE2
          clear htw hE2
          go_wp2_with fail
          refine (quiet_x (HNX.out _ (HI.out.bel (Ext.b _)))).mono ?_
          rintro e w' ⟨rfl, y, rfl⟩
          go_wp2_with fail
          refine (quiet_x (HW3.out _ (HI.out.bel (Ext.b _)))).mono ?_
          rintro e w' ⟨rfl, y, rfl⟩
          go_wp2_with fail
          refine (quiet_x (HW4.out _ (HI.out.bel (Ext.b _)))).mono ?_
          rintro e w' ⟨rfl, y, rfl⟩
          go_wp2_with fail
          refine (quiet_x (works_ex _)).mono ?_
          rintro e w' ⟨rfl, y, rfl⟩
          go_wp2_with fail
          go_ret
          exact ⟨rfl, bT HB.out (Ext.b _)⟩
end Go.Proofs.Ytkdlppekjjbgoaa
