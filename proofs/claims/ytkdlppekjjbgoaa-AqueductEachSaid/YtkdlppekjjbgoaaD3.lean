/- AqueductEach: no clash, flows that are a truth. -/
import Derived.Test.YtkdlppekjjbgoaaD1

set_option linter.unusedSimpArgs false

set_option linter.unusedVariables false

namespace Go.Proofs.Ytkdlppekjjbgoaa

open Go.RowKit

set_option maxRecDepth 100000 in
set_option maxHeartbeats 8000000 in
theorem each_true (D : Duct) (p q : Option Addr) (c d : Nat) (tl : Nat) (t : Nat → Int) (r : Option Addr) (tc : Nat) (w : World) (hn4 : D.n ≤ 40) (hm4 : D.m ≤ 40) (htl : tl ≤ 40) (hok : D.ok = true) (hc : D.clash = none) (hT : D.truth tl t = true) (hi : DuctIn w w.heap.size D p q) (hr : NumIn w w.heap.size tl t r) :
    Calls Try.prog 3 #[.agg #[.slice p D.n c, .slice q D.m d], .slice r tl tc] w fun e w' => e = .returned (.bool true) ∧ Below w.heap.size w w' := by
  have HNM : Hid (D.n = D.m + 1) := (D.ok_parts hok).2.1
  obtain ⟨pb, po, rfl, _, _⟩ := hi.pt (by have := HNM.out; omega)
  have hcs : D.clash.isSome = false := by rw [hc]; rfl
  have HON := Lib.hid ((clash_one hok).1 hc)
  obtain ⟨v0, hA⟩ : ∃ e, clAv D = e := ⟨_, rfl⟩
  obtain ⟨v1, hBb⟩ : ∃ e, clBv D = e := ⟨_, rfl⟩
  have hE : clE D = 3 := by simp [clE, hok, hcs]
  have hL : lrnE D true = 0 := by simp [lrnE, hok, hcs]
  have HL0 := Lib.hid hL
  obtain ⟨a0, hW0⟩ : ∃ e, whV0 D = e := ⟨_, rfl⟩
  obtain ⟨a1, hW1⟩ : ∃ e, whV1 D = e := ⟨_, rfl⟩
  have HTT := Lib.hid hT
  have HTL : Hid (tl = D.n) := (truth_iff.1 hT).1
  have HTB2 : Hid (∀ k, k < D.n → 0 ≤ t k ∧ t k ≤ 99) := fun k hk => by
    have h1 := ((truth_iff.1 hT).2 k hk).1
    have h2 := (D.ok_parts hok).2.2.2 k hk
    omega
  have HA0 : Hid (lsL D 0 D.m = a0) := by have := hW0; unfold whV0 at this; rwa [if_pos hL] at this
  have HA1 : Hid (lsH D 0 D.m = a1) := by have := hW1; unfold whV1 at this; rwa [if_pos hL] at this
  obtain ⟨tb, to, rfl, _, _⟩ := hr (by have := HTL.out; have := HNM.out; omega)
  have HRD := Lib.hid (show ∀ (V : World), DuctIn V V.heap.size D (some ⟨pb, po, none⟩) q → Calls Try.prog 15 #[.agg #[.slice (some ⟨pb, po, none⟩) D.n c, .slice q D.m d]] V fun e w' => e = .returned (.bool true) ∧ Below V.heap.size V w' from fun V h => by
    have := ready_any D (some ⟨pb, po, none⟩) q c d V (by unfold maxLen; omega) (by unfold maxLen; omega) h
    rw [hok, show (decide (40 < D.n) || decide (40 < D.m)) = false by simp; omega] at this
    exact this)
  have HCL := Lib.hid (show ∀ (V : World), DuctIn V V.heap.size D (some ⟨pb, po, none⟩) q → Calls Try.prog 17 #[.agg #[.slice (some ⟨pb, po, none⟩) D.n c, .slice q D.m d]] V fun e w' => e = .returned (.tuple #[.agg #[.int .i64 v0, .int .i64 v1], .int .i64 3]) ∧ Below V.heap.size V w' from fun V h => by
    have := clashP_any D (some ⟨pb, po, none⟩) q c d V hn4 hm4 h
    rw [hA, hBb, hE] at this
    exact this)
  have HWH := Lib.hid (show ∀ (V : World), DuctIn V V.heap.size D (some ⟨pb, po, none⟩) q → Calls Try.prog 18 #[.agg #[.slice (some ⟨pb, po, none⟩) D.n c, .slice q D.m d]] V fun e w' => e = .returned (.tuple #[.agg #[.int .i64 a0, .int .i64 a1], .int .i64 0]) ∧ Below V.heap.size V w' from fun V h => by
    have := wholeP_any D (some ⟨pb, po, none⟩) q c d V hn4 hm4 h
    rw [hW0, hW1, hL] at this
    exact this)
  have HIT := Lib.hid (show ∀ (V : World), DuctIn V V.heap.size D (some ⟨pb, po, none⟩) q → NumIn V V.heap.size tl t (some ⟨tb, to, none⟩) → Calls Try.prog 20 #[.agg #[.slice (some ⟨pb, po, none⟩) D.n c, .slice q D.m d], .slice (some ⟨tb, to, none⟩) tl tc] V fun e w' => e = .returned (.bool true) ∧ Below V.heap.size V w' from fun V h h2 => by
    have := isTruth_any D (some ⟨pb, po, none⟩) q c d tl t (some ⟨tb, to, none⟩) tc V hn4 hm4 htl h h2
    rw [hT] at this
    exact this)
  have d1 : decide (40 < (tl : Int)) = false := by simp; omega
  clear hcs hA hBb hE hL hW0 hW1 hT hc hok
  obtain ⟨w1, x, e1, hb1, hl1⟩ := mk_line w (some ⟨pb, po, none⟩) q D.n D.m c d
  have HLb := Lib.hid hl1
  have HI := Lib.hid (hi.bel hb1)
  have HT := Lib.hid (hr.bel hb1)
  have HB := Lib.hid hb1
  clear hb1 hl1 hi hr
  have L0a : ∀ z : Ext w1, z.v.cell? ⟨w.heap.size, 0, none⟩ = some (.slice (some ⟨pb, po, none⟩) D.n c) := fun z => (HLb.out.bel z.b).c0
  have L0b : ∀ z : Ext w1, z.v.cell? ⟨w.heap.size, 1, none⟩ = some (.slice q D.m d) := fun z => (HLb.out.bel z.b).c1
  go_enter Try.func3, Try.ntmps3
  go_wp2_with fail
  refine (quiet_x (HRD.out _ (HI.out.bel (Ext.b _)))).mono ?_
  rintro e w' ⟨rfl, y, rfl⟩
  go_wp2_with fail
  refine (quiet_x (HCL.out _ (HI.out.bel (Ext.b _)))).mono ?_
  rintro e w' ⟨rfl, y2, rfl⟩
  obtain ⟨w3, x3, e3, b3, z3, t3⟩ := mk_two y2 29 v0 v1
  have Ht3 := Lib.hid t3
  have Hz3 := Lib.hid z3
  clear t3 z3
  clear L0a L0b
  have H7_0 := Lib.hid (HLb.out.bel b3)
  have H7_1 := Lib.hid (HI.out.bel b3)
  have H7_2 := Lib.hid (HT.out.bel b3)
  have HB7 := Lib.hid (bT HB.out b3)
  clear b3
  have L0a : ∀ z : Ext w3, z.v.cell? ⟨w.heap.size, 0, none⟩ = some (.slice (some ⟨pb, po, none⟩) D.n c) := fun z => (H7_0.out.bel z.b).c0
  have L0b : ∀ z : Ext w3, z.v.cell? ⟨w.heap.size, 1, none⟩ = some (.slice q D.m d) := fun z => (H7_0.out.bel z.b).c1
  have T3a : ∀ z : Ext w3, z.v.cell? ⟨y2.v.heap.size, 0, none⟩ = some (.int .i64 v0) := fun z => (Ht3.out.bel z.b).c0
  have T3b : ∀ z : Ext w3, z.v.cell? ⟨y2.v.heap.size, 1, none⟩ = some (.int .i64 v1) := fun z => (Ht3.out.bel z.b).c1
  have T3f : ∀ z : Ext w3, ∀ i, z.v.frozen? ⟨y2.v.heap.size, i, none⟩ = false := fun z => (Ht3.out.bel z.b).fz
  go_wp2_with fail
  refine (quiet_x (HWH.out _ (H7_1.out.bel (Ext.b _)))).mono ?_
  rintro e w' ⟨rfl, y4, rfl⟩
  obtain ⟨w5, x5, e5, b5, z5, t5⟩ := mk_two y4 34 a0 a1
  have Ht5 := Lib.hid t5
  have Hz5 := Lib.hid z5
  clear t5 z5
  clear L0a L0b T3a T3b T3f
  have H8_0 := Lib.hid (H7_0.out.bel b5)
  have H8_1 := Lib.hid (H7_1.out.bel b5)
  have H8_2 := Lib.hid (H7_2.out.bel b5)
  have H8_3 := Lib.hid (Ht3.out.bel b5)
  have HB8 := Lib.hid (bT HB7.out b5)
  clear b5
  have L0a : ∀ z : Ext w5, z.v.cell? ⟨w.heap.size, 0, none⟩ = some (.slice (some ⟨pb, po, none⟩) D.n c) := fun z => (H8_0.out.bel z.b).c0
  have L0b : ∀ z : Ext w5, z.v.cell? ⟨w.heap.size, 1, none⟩ = some (.slice q D.m d) := fun z => (H8_0.out.bel z.b).c1
  have T3a : ∀ z : Ext w5, z.v.cell? ⟨y2.v.heap.size, 0, none⟩ = some (.int .i64 v0) := fun z => (H8_3.out.bel z.b).c0
  have T3b : ∀ z : Ext w5, z.v.cell? ⟨y2.v.heap.size, 1, none⟩ = some (.int .i64 v1) := fun z => (H8_3.out.bel z.b).c1
  have T3f : ∀ z : Ext w5, ∀ i, z.v.frozen? ⟨y2.v.heap.size, i, none⟩ = false := fun z => (H8_3.out.bel z.b).fz
  have T4a : ∀ z : Ext w5, z.v.cell? ⟨y4.v.heap.size, 0, none⟩ = some (.int .i64 a0) := fun z => (Ht5.out.bel z.b).c0
  have T4b : ∀ z : Ext w5, z.v.cell? ⟨y4.v.heap.size, 1, none⟩ = some (.int .i64 a1) := fun z => (Ht5.out.bel z.b).c1
  have T4f : ∀ z : Ext w5, ∀ i, z.v.frozen? ⟨y4.v.heap.size, i, none⟩ = false := fun z => (Ht5.out.bel z.b).fz
  go_wp2_with fail
  refine (quiet_x (HIT.out _ (H8_1.out.bel (Ext.b _)) (H8_2.out.bel (Ext.b _)))).mono ?_
  rintro e w' ⟨rfl, y7, rfl⟩
  obtain ⟨w8, x8, e8, b8, z8, t8⟩ := mk_two y7 34 0 0
  have Ht8 := Lib.hid t8; have Hz8 := Lib.hid z8; have Hb8 := Lib.hid b8
  clear t8 z8 b8
  go_wp2_with fail
  go_loopw [11] (fun i wr => ∃ k : Nat, i = .int .i64 k ∧ k ≤ D.n ∧ (∃ bl bh, TwoBox wr y7.v.heap.size bl bh ∧ ∀ j, k = j + 1 → bl = fl D j ∧ bh = fh D j) ∧ Below w5.heap.size w5 wr) (fun i _ => D.n - (intOf i).toNat)
  case atStart => exact ⟨0, rfl, Nat.zero_le _, ⟨0, 0, Ht8.out.bel x8.b, fun j h => by omega⟩, bT Hb8.out x8.b⟩
  case round =>
    clear L0a L0b T3a T3b T3f T4a T4b T4f e3 e5 e8 e1
    obtain ⟨k, rfl, hk, ⟨bl, bh, htb, hbe⟩, hbb⟩ := hrel
    have HTB := Lib.hid htb; have HBE := Lib.hid hbe; have HBB := Lib.hid hbb
    clear htb hbe hbb
    have H9_0 := Lib.hid (H8_0.out.bel HBB.out)
    have H9_1 := Lib.hid (H8_1.out.bel HBB.out)
    have H9_2 := Lib.hid (H8_2.out.bel HBB.out)
    have H9_3 := Lib.hid (H8_3.out.bel HBB.out)
    have H9_4 := Lib.hid (Ht5.out.bel HBB.out)
    have HB9 := Lib.hid (bT HB8.out HBB.out)
    have L0a : ∀ z : Ext wr, z.v.cell? ⟨w.heap.size, 0, none⟩ = some (.slice (some ⟨pb, po, none⟩) D.n c) := fun z => (H9_0.out.bel z.b).c0
    have L0b : ∀ z : Ext wr, z.v.cell? ⟨w.heap.size, 1, none⟩ = some (.slice q D.m d) := fun z => (H9_0.out.bel z.b).c1
    have T3a : ∀ z : Ext wr, z.v.cell? ⟨y2.v.heap.size, 0, none⟩ = some (.int .i64 v0) := fun z => (H9_3.out.bel z.b).c0
    have T3b : ∀ z : Ext wr, z.v.cell? ⟨y2.v.heap.size, 1, none⟩ = some (.int .i64 v1) := fun z => (H9_3.out.bel z.b).c1
    have T3f : ∀ z : Ext wr, ∀ i, z.v.frozen? ⟨y2.v.heap.size, i, none⟩ = false := fun z => (H9_3.out.bel z.b).fz
    have T4a : ∀ z : Ext wr, z.v.cell? ⟨y4.v.heap.size, 0, none⟩ = some (.int .i64 a0) := fun z => (H9_4.out.bel z.b).c0
    have T4b : ∀ z : Ext wr, z.v.cell? ⟨y4.v.heap.size, 1, none⟩ = some (.int .i64 a1) := fun z => (H9_4.out.bel z.b).c1
    have T4f : ∀ z : Ext wr, ∀ i, z.v.frozen? ⟨y4.v.heap.size, i, none⟩ = false := fun z => (H9_4.out.bel z.b).fz
    have T5a : ∀ z : Ext wr, z.v.cell? ⟨y7.v.heap.size, 0, none⟩ = some (.int .i64 bl) := fun z => (HTB.out.bel z.b).c0
    have T5b : ∀ z : Ext wr, z.v.cell? ⟨y7.v.heap.size, 1, none⟩ = some (.int .i64 bh) := fun z => (HTB.out.bel z.b).c1
    have T5f : ∀ z : Ext wr, ∀ i, z.v.frozen? ⟨y7.v.heap.size, i, none⟩ = false := fun z => (HTB.out.bel z.b).fz
    obtain ⟨z0, hz0⟩ := rebase wr
    rw [hz0]
    clear hz0
    by_cases hlt : k < D.n
    · have hLr : lrnE D (isPt D (k : Int)) = 0 := by rw [show isPt D (k : Int) = true from within_tt (by omega) (by omega)]; exact HL0.out
      have HFL := Lib.hid (show ∀ (V : World), DuctIn V V.heap.size D (some ⟨pb, po, none⟩) q → Calls Try.prog 21 #[.agg #[.slice (some ⟨pb, po, none⟩) D.n c, .slice q D.m d], .int .i64 (k : Int)] V fun e w' => e = .returned (.tuple #[.agg #[.int .i64 (fl D k), .int .i64 (fh D k)], .int .i64 0]) ∧ Below V.heap.size V w' from fun V h => by
        have := flowP_any D (some ⟨pb, po, none⟩) q c d (k : Int) V hn4 hm4 h
        rw [show flV0 D (k : Int) = fl D k from by unfold flV0; rw [if_pos hLr]; rfl, show flV1 D (k : Int) = fh D k from by unfold flV1; rw [if_pos hLr]; rfl, hLr] at this
        exact this)
      clear hLr
      have j1 : decide ((k : Int) < (D.n : Int)) = true := by simp; omega
      have j2 : (k : Int) < (D.n : Int) := by omega
      have hin : decide (D.lo k ≤ fl D k ∧ fl D k ≤ fh D k ∧ fh D k ≤ D.hi k) = true := by simp; exact ⟨fl_ge (Nat.le_refl _) hlt, fl_fh HON.out hlt, fh_le⟩
      have j3 : (k : Int) < (tl : Int) := by have := HTL.out; omega
      have q1 : decide (t k < fl D k) = false := by have := (truth_fl HTT.out hlt).1; simp; omega
      have q2 : decide (fh D k < t k) = false := by have := (truth_fl HTT.out hlt).2; simp; omega
      go_wp2_with fail
      refine (quiet_x (HFL.out _ (H9_1.out.bel (Ext.b _)))).mono ?_
      rintro e w' ⟨rfl, u1, rfl⟩
      obtain ⟨w9, x9, e9, b9, z9, t9⟩ := mk_two u1 34 (fl D k) (fh D k)
      have Ht9 := Lib.hid t9
      have Hz9 := Lib.hid z9
      clear t9 z9
      clear L0a L0b T3a T3b T3f T4a T4b T4f T5a T5b T5f
      have H10_0 := Lib.hid (H9_0.out.bel b9)
      have H10_1 := Lib.hid (H9_1.out.bel b9)
      have H10_2 := Lib.hid (H9_2.out.bel b9)
      have H10_3 := Lib.hid (H9_3.out.bel b9)
      have H10_4 := Lib.hid (H9_4.out.bel b9)
      have H10_5 := Lib.hid (HTB.out.bel b9)
      have HB10 := Lib.hid (bT HB9.out b9)
      have B9H := Lib.hid b9
      clear b9
      have L0a : ∀ z : Ext w9, z.v.cell? ⟨w.heap.size, 0, none⟩ = some (.slice (some ⟨pb, po, none⟩) D.n c) := fun z => (H10_0.out.bel z.b).c0
      have L0b : ∀ z : Ext w9, z.v.cell? ⟨w.heap.size, 1, none⟩ = some (.slice q D.m d) := fun z => (H10_0.out.bel z.b).c1
      have T3a : ∀ z : Ext w9, z.v.cell? ⟨y2.v.heap.size, 0, none⟩ = some (.int .i64 v0) := fun z => (H10_3.out.bel z.b).c0
      have T3b : ∀ z : Ext w9, z.v.cell? ⟨y2.v.heap.size, 1, none⟩ = some (.int .i64 v1) := fun z => (H10_3.out.bel z.b).c1
      have T3f : ∀ z : Ext w9, ∀ i, z.v.frozen? ⟨y2.v.heap.size, i, none⟩ = false := fun z => (H10_3.out.bel z.b).fz
      have T4a : ∀ z : Ext w9, z.v.cell? ⟨y4.v.heap.size, 0, none⟩ = some (.int .i64 a0) := fun z => (H10_4.out.bel z.b).c0
      have T4b : ∀ z : Ext w9, z.v.cell? ⟨y4.v.heap.size, 1, none⟩ = some (.int .i64 a1) := fun z => (H10_4.out.bel z.b).c1
      have T4f : ∀ z : Ext w9, ∀ i, z.v.frozen? ⟨y4.v.heap.size, i, none⟩ = false := fun z => (H10_4.out.bel z.b).fz
      have T5a : ∀ z : Ext w9, z.v.cell? ⟨y7.v.heap.size, 0, none⟩ = some (.int .i64 bl) := fun z => (H10_5.out.bel z.b).c0
      have T5b : ∀ z : Ext w9, z.v.cell? ⟨y7.v.heap.size, 1, none⟩ = some (.int .i64 bh) := fun z => (H10_5.out.bel z.b).c1
      have T5f : ∀ z : Ext w9, ∀ i, z.v.frozen? ⟨y7.v.heap.size, i, none⟩ = false := fun z => (H10_5.out.bel z.b).fz
      have T6a : ∀ z : Ext w9, z.v.cell? ⟨u1.v.heap.size, 0, none⟩ = some (.int .i64 (fl D k)) := fun z => (Ht9.out.bel z.b).c0
      have T6b : ∀ z : Ext w9, z.v.cell? ⟨u1.v.heap.size, 1, none⟩ = some (.int .i64 (fh D k)) := fun z => (Ht9.out.bel z.b).c1
      have T6f : ∀ z : Ext w9, ∀ i, z.v.frozen? ⟨u1.v.heap.size, i, none⟩ = false := fun z => (Ht9.out.bel z.b).fz
      have C0 : ∀ z : Ext w9, z.v.cell? ⟨pb, po + k * 3, none⟩ = some (.int .i64 (D.lo k)) := fun z => (H10_1.out.bel z.b).lo' hlt
      have C1 : ∀ z : Ext w9, z.v.cell? ⟨pb, po + k * 3 + 1, none⟩ = some (.int .i64 (D.hi k)) := fun z => (H10_1.out.bel z.b).hi' hlt
      have C2 : ∀ z : Ext w9, z.v.cell? ⟨tb, to + k, none⟩ = some (.int .i64 (t k)) := fun z => ((H10_2.out.bel z.b).cell (by have := HTL.out; omega)).2
      rcases Nat.eq_zero_or_pos k with hk0 | hk0
      · have d0 : decide (0 < (k : Int)) = false := by simp; omega
        have d0n : decide (0 < k) = false := by simp; omega
        clear hk0
        go_wp2
        refine quiet_e (by kernel_rfl) (by kernel_rfl) ?_
        repeat (first | go_big_quiet_step ((go_at_call 22; exact quiet_x (inside_any _ _ _ _ _))) | quiet_step ((go_at_call 22; exact quiet_x (inside_any _ _ _ _ _))))
        refine wpQuiet_nil ?_
        intro w6 hw6
        obtain ⟨u3, rfl⟩ := hw6
        go_wp2
        go_roundw
        case rel =>
          refine ⟨k + 1, by go_num, hlt, ⟨fl D k, fh D k, (H10_5.out.bel u3.b).set _ _, fun j hj => by obtain rfl : k = j := (by omega); exact ⟨rfl, rfl⟩⟩, bS (bS (bT (bT HBB.out B9H.out) u3.b) Hz8.out _) Hz8.out _⟩
        case measure => first | (simp [intOf]; done) | (simp [intOf]; omega)
      · have d0 : decide (0 < (k : Int)) = true := by simp; omega
        have d0n : decide (0 < k) = true := by simp; omega
        obtain ⟨j', hkj⟩ : ∃ j, k = j + 1 := ⟨k - 1, by omega⟩
        obtain ⟨g1, g2⟩ := HBE.out j' hkj
        have q3 : decide (bl < fl D k) = false := by have := fl_mono (D := D) (i := j') (k := k) (by omega) hlt; simp; omega
        have q4 : decide (bh < fh D k) = false := by have := fh_anti (D := D) j'; subst hkj; simp; omega
        clear hkj g1 g2
        go_wp2
        refine quiet_e (by kernel_rfl) (by kernel_rfl) ?_
        repeat (first | go_big_quiet_step ((go_at_call 22; exact quiet_x (inside_any _ _ _ _ _))) | quiet_step ((go_at_call 22; exact quiet_x (inside_any _ _ _ _ _))))
        refine wpQuiet_nil ?_
        intro w6 hw6
        obtain ⟨u3, rfl⟩ := hw6
        go_wp2
        go_roundw
        case rel =>
          refine ⟨k + 1, by go_num, hlt, ⟨fl D k, fh D k, (H10_5.out.bel u3.b).set _ _, fun j hj => by obtain rfl : k = j := (by omega); exact ⟨rfl, rfl⟩⟩, bS (bS (bT (bT HBB.out B9H.out) u3.b) Hz8.out _) Hz8.out _⟩
        case measure => first | (simp [intOf]; done) | (simp [intOf]; omega)
    · have j1 : decide ((k : Int) < (D.n : Int)) = false := by simp; omega
      go_wp2
      clear j1 hlt hk HBE
      go_loopw [14] (fun i wr => ∃ k : Nat, i = .int .i64 k ∧ k ≤ D.m ∧ Below w5.heap.size w5 wr) (fun i _ => D.m - (intOf i).toNat)
      case atStart => exact ⟨0, rfl, Nat.zero_le _, bT HBB.out z0.b⟩
      case round =>
        clear L0a L0b T3a T3b T3f T4a T4b T4f T5a T5b T5f
        obtain ⟨k2, rfl, hk2, hbb2⟩ := hrel
        have HBC := Lib.hid hbb2
        obtain ⟨wq, hwq⟩ : ∃ x, x = wr := ⟨_, rfl⟩
        clear hbb2
        have H11_0 := Lib.hid (H8_0.out.bel HBC.out)
        have H11_1 := Lib.hid (H8_1.out.bel HBC.out)
        have H11_2 := Lib.hid (H8_2.out.bel HBC.out)
        have H11_3 := Lib.hid (H8_3.out.bel HBC.out)
        have H11_4 := Lib.hid (Ht5.out.bel HBC.out)
        have HB11 := Lib.hid (bT HB8.out HBC.out)
        have L0a : ∀ z : Ext wr, z.v.cell? ⟨w.heap.size, 0, none⟩ = some (.slice (some ⟨pb, po, none⟩) D.n c) := fun z => (H11_0.out.bel z.b).c0
        have L0b : ∀ z : Ext wr, z.v.cell? ⟨w.heap.size, 1, none⟩ = some (.slice q D.m d) := fun z => (H11_0.out.bel z.b).c1
        have T3a : ∀ z : Ext wr, z.v.cell? ⟨y2.v.heap.size, 0, none⟩ = some (.int .i64 v0) := fun z => (H11_3.out.bel z.b).c0
        have T3b : ∀ z : Ext wr, z.v.cell? ⟨y2.v.heap.size, 1, none⟩ = some (.int .i64 v1) := fun z => (H11_3.out.bel z.b).c1
        have T3f : ∀ z : Ext wr, ∀ i, z.v.frozen? ⟨y2.v.heap.size, i, none⟩ = false := fun z => (H11_3.out.bel z.b).fz
        have T4a : ∀ z : Ext wr, z.v.cell? ⟨y4.v.heap.size, 0, none⟩ = some (.int .i64 a0) := fun z => (H11_4.out.bel z.b).c0
        have T4b : ∀ z : Ext wr, z.v.cell? ⟨y4.v.heap.size, 1, none⟩ = some (.int .i64 a1) := fun z => (H11_4.out.bel z.b).c1
        have T4f : ∀ z : Ext wr, ∀ i, z.v.frozen? ⟨y4.v.heap.size, i, none⟩ = false := fun z => (H11_4.out.bel z.b).fz
        obtain ⟨z1, hz1⟩ := rebase wr
        rw [hz1]
        clear hz1 hwq
        by_cases hlt2 : k2 < D.m
        · obtain ⟨a, ha⟩ : ∃ a, lsL D k2 (k2 + 1) = a := ⟨_, rfl⟩
          obtain ⟨b, hb⟩ : ∃ b, lsH D k2 (k2 + 1) = b := ⟨_, rfl⟩
          have hLs : lrnE D (isSt D (k2 : Int)) = 0 := by rw [show isSt D (k2 : Int) = true from within_tt (by omega) (by omega)]; exact HL0.out
          have HLO := Lib.hid (show ∀ (V : World), DuctIn V V.heap.size D (some ⟨pb, po, none⟩) q → Calls Try.prog 23 #[.agg #[.slice (some ⟨pb, po, none⟩) D.n c, .slice q D.m d], .int .i64 (k2 : Int)] V fun e w' => e = .returned (.tuple #[.agg #[.int .i64 a, .int .i64 b], .int .i64 0]) ∧ Below V.heap.size V w' from fun V h => by
            have := lossP_any D (some ⟨pb, po, none⟩) q c d (k2 : Int) V hn4 hm4 h
            rw [show lsV0 D (k2 : Int) = a from by unfold lsV0; rw [if_pos hLs]; exact ha, show lsV1 D (k2 : Int) = b from by unfold lsV1; rw [if_pos hLs]; exact hb, hLs] at this
            exact this)
          have hly : lyV D (k2 : Int) = (if 0 < a then 1 else if b = 0 then 2 else 3) := by rw [← ha, ← hb]; unfold lyV; rw [if_pos hLs]; rfl
          obtain ⟨g1, g2⟩ := loss_le HON.out (i := k2) (j := k2 + 1) (by omega) (by have := HNM.out; omega)
          rw [ha] at g1 g2; rw [hb] at g2
          have j1 : decide ((k2 : Int) < (D.m : Int)) = true := by simp; omega
          have q1 : decide (a < 0) = false := by simp; omega
          have q2 : decide (b < a) = false := by simp; omega
          obtain ⟨g3, g4⟩ := truth_loss HTT.out (i := k2) (j := k2 + 1) (by omega) (by have := HNM.out; omega)
          rw [ha] at g3; rw [hb] at g4
          have g5 := HTB2.out k2 (by have := HNM.out; omega)
          have g6 := HTB2.out (k2 + 1) (by have := HNM.out; omega)
          obtain ⟨t0, ht0⟩ : ∃ x, t k2 = x := ⟨_, rfl⟩
          obtain ⟨t1, ht1⟩ : ∃ x, t (k2 + 1) = x := ⟨_, rfl⟩
          rw [ht0] at g3 g4 g5; rw [ht1] at g3 g4 g6
          have j3 : (k2 : Int) < (tl : Int) := by have := HTL.out; have := HNM.out; omega
          have j4 : (k2 : Int) + 1 < (tl : Int) := by have := HTL.out; have := HNM.out; omega
          have j5 : IntKind.i64.wrap ((k2 : Int) + 1) = (k2 : Int) + 1 := IntWalk.i64_in _ (by omega)
          have j6 : 0 ≤ (k2 : Int) + 1 := by omega
          have j7 : ((k2 : Int) + 1).toNat = k2 + 1 := by omega
          have q3 : IntKind.i64.wrap (t0 - t1) = t0 - t1 := IntWalk.i64_in _ (by omega)
          have q4 : decide (t0 - t1 < a) = false := by simp; omega
          have q5 : decide (b < t0 - t1) = false := by simp; omega
          have C2 : ∀ z : Ext wr, z.v.cell? ⟨tb, to + k2, none⟩ = some (.int .i64 t0) := fun z => ((H11_2.out.bel z.b).cell (by have := HTL.out; have := HNM.out; omega)).2.trans (by rw [ht0])
          have C3 : ∀ z : Ext wr, z.v.cell? ⟨tb, to + (k2 + 1), none⟩ = some (.int .i64 t1) := fun z => ((H11_2.out.bel z.b).cell (k := k2 + 1) (by have := HTL.out; have := HNM.out; omega)).2.trans (by rw [ht1])
          clear g3 g4 g5 g6 ht0 ht1
          obtain ⟨yv, hyv⟩ : ∃ e, lyV D (k2 : Int) = e := ⟨_, rfl⟩
          obtain ⟨s1, hs1⟩ : ∃ s, decide (0 < a) = s := ⟨_, rfl⟩
          obtain ⟨s2, hs2⟩ : ∃ s, (b == 0) = s := ⟨_, rfl⟩
          have hyy : (yv == 1) = s1 ∧ (yv == 2) = s2 := by
            rw [← hs1, ← hs2, ← hyv, hly]
            by_cases c1 : 0 < a
            · rw [if_pos c1]; simp [c1]; omega
            · rw [if_neg c1]
              by_cases c2 : b = 0
              · rw [if_pos c2]; simp [c1, c2]
              · rw [if_neg c2]; simp [c1, c2]
          obtain ⟨hy1, hy2⟩ := hyy
          have HLY := Lib.hid (show ∀ (V : World), DuctIn V V.heap.size D (some ⟨pb, po, none⟩) q → Calls Try.prog 24 #[.agg #[.slice (some ⟨pb, po, none⟩) D.n c, .slice q D.m d], .int .i64 (k2 : Int)] V fun e w' => e = .returned (.tuple #[.int .i64 yv, .int .i64 0]) ∧ Below V.heap.size V w' from fun V h => by
            have := lossyP_any D (some ⟨pb, po, none⟩) q c d (k2 : Int) V hn4 hm4 h
            rw [hyv, hLs] at this
            exact this)
          clear ha hb hLs hly hyv g1 g2
          go_wp2_with fail
          refine (quiet_x (HLO.out _ (H11_1.out.bel (Ext.b _)))).mono ?_
          rintro e w' ⟨rfl, u1, rfl⟩
          obtain ⟨w10, x10, e10, b10, z10, t10⟩ := mk_two u1 34 a b
          have Ht10 := Lib.hid t10
          have Hz10 := Lib.hid z10
          clear t10 z10
          clear L0a L0b T3a T3b T3f T4a T4b T4f
          have H12_0 := Lib.hid (H11_0.out.bel b10)
          have H12_1 := Lib.hid (H11_1.out.bel b10)
          have H12_2 := Lib.hid (H11_2.out.bel b10)
          have H12_3 := Lib.hid (H11_3.out.bel b10)
          have H12_4 := Lib.hid (H11_4.out.bel b10)
          have HB12 := Lib.hid (bT HB11.out b10)
          have B10H := Lib.hid b10
          clear b10
          have L0a : ∀ z : Ext w10, z.v.cell? ⟨w.heap.size, 0, none⟩ = some (.slice (some ⟨pb, po, none⟩) D.n c) := fun z => (H12_0.out.bel z.b).c0
          have L0b : ∀ z : Ext w10, z.v.cell? ⟨w.heap.size, 1, none⟩ = some (.slice q D.m d) := fun z => (H12_0.out.bel z.b).c1
          have T3a : ∀ z : Ext w10, z.v.cell? ⟨y2.v.heap.size, 0, none⟩ = some (.int .i64 v0) := fun z => (H12_3.out.bel z.b).c0
          have T3b : ∀ z : Ext w10, z.v.cell? ⟨y2.v.heap.size, 1, none⟩ = some (.int .i64 v1) := fun z => (H12_3.out.bel z.b).c1
          have T3f : ∀ z : Ext w10, ∀ i, z.v.frozen? ⟨y2.v.heap.size, i, none⟩ = false := fun z => (H12_3.out.bel z.b).fz
          have T4a : ∀ z : Ext w10, z.v.cell? ⟨y4.v.heap.size, 0, none⟩ = some (.int .i64 a0) := fun z => (H12_4.out.bel z.b).c0
          have T4b : ∀ z : Ext w10, z.v.cell? ⟨y4.v.heap.size, 1, none⟩ = some (.int .i64 a1) := fun z => (H12_4.out.bel z.b).c1
          have T4f : ∀ z : Ext w10, ∀ i, z.v.frozen? ⟨y4.v.heap.size, i, none⟩ = false := fun z => (H12_4.out.bel z.b).fz
          have T5a : ∀ z : Ext w10, z.v.cell? ⟨u1.v.heap.size, 0, none⟩ = some (.int .i64 a) := fun z => (Ht10.out.bel z.b).c0
          have T5b : ∀ z : Ext w10, z.v.cell? ⟨u1.v.heap.size, 1, none⟩ = some (.int .i64 b) := fun z => (Ht10.out.bel z.b).c1
          have T5f : ∀ z : Ext w10, ∀ i, z.v.frozen? ⟨u1.v.heap.size, i, none⟩ = false := fun z => (Ht10.out.bel z.b).fz
          have C2' : ∀ z : Ext w10, z.v.cell? ⟨tb, to + k2, none⟩ = some (.int .i64 t0) := fun z => C2 (z.up B10H.out)
          have C3' : ∀ z : Ext w10, z.v.cell? ⟨tb, to + (k2 + 1), none⟩ = some (.int .i64 t1) := fun z => C3 (z.up B10H.out)
          go_wp2_with fail
          refine (quiet_x (HLY.out _ (H12_1.out.bel (Ext.b _)))).mono ?_
          rintro e w' ⟨rfl, u2, rfl⟩
          go_wp2_with fail
          dsimp only [List.append]
          refine quiet_e (by kernel_rfl) (by kernel_rfl) ?_
          repeat (first | go_big_quiet_step (fail) | quiet_step (fail))
          refine wpQuiet_nil ?_
          intro w6 hw6
          obtain ⟨u3, rfl⟩ := hw6
          clear j5 j6 j7 q3
          go_wp2_with fail
          go_roundw
          case rel => exact ⟨k2 + 1, by go_num, hlt2, bT (bT HBC.out B10H.out) u3.b⟩
          case measure => first | (simp [intOf]; done) | (simp [intOf]; omega)
        · have j1 : decide ((k2 : Int) < (D.m : Int)) = false := by simp; omega
          obtain ⟨g3, g4⟩ := truth_loss HTT.out (i := 0) (j := D.m) (by omega) (by have := HNM.out; omega)
          have g5 := HTB2.out 0 (by have := HNM.out; omega)
          have g6 := HTB2.out D.m (by have := HNM.out; omega)
          rw [HA0.out] at g3; rw [HA1.out] at g4
          obtain ⟨t0, ht0⟩ : ∃ x, t 0 = x := ⟨_, rfl⟩
          obtain ⟨t1, ht1⟩ : ∃ x, t D.m = x := ⟨_, rfl⟩
          rw [ht0] at g3 g4 g5; rw [ht1] at g3 g4 g6
          have j3 : (0 : Int) < (tl : Int) := by have := HTL.out; have := HNM.out; omega
          have j4 : (D.m : Int) < (tl : Int) := by have := HTL.out; have := HNM.out; omega
          have j5 : (tl : Int) - 1 = (D.m : Int) := by have := HTL.out; have := HNM.out; omega
          have j6 : IntKind.i64.wrap (D.m : Int) = (D.m : Int) := IntWalk.i64_in _ (by omega)
          have q3 : IntKind.i64.wrap (t0 - t1) = t0 - t1 := IntWalk.i64_in _ (by omega)
          have q4 : decide (t0 - t1 < a0) = false := by simp; omega
          have q5 : decide (a1 < t0 - t1) = false := by simp; omega
          have C2 : ∀ z : Ext wr, z.v.cell? ⟨tb, to, none⟩ = some (.int .i64 t0) := fun z => ((H11_2.out.bel z.b).cell (k := 0) (by have := HTL.out; have := HNM.out; omega)).2.trans (by rw [ht0])
          have C3 : ∀ z : Ext wr, z.v.cell? ⟨tb, to + D.m, none⟩ = some (.int .i64 t1) := fun z => ((H11_2.out.bel z.b).cell (k := D.m) (by have := HTL.out; have := HNM.out; omega)).2.trans (by rw [ht1])
          clear g3 g4 g5 g6 ht0 ht1
          go_wp2
          refine quiet_e (by kernel_rfl) (by kernel_rfl) ?_
          repeat (first | go_big_quiet_step (fail) | quiet_step (fail))
          refine wpQuiet_nil ?_
          intro w6 hw6
          obtain ⟨u4, rfl⟩ := hw6
          clear j5 j6 q3
          go_wp2_with (go_at_call 16; refine (quiet_x (works_ex _)).mono ?_; rintro e w' ⟨rfl, u5, rfl⟩)
          go_ret
          exact ⟨rfl, bT HB11.out u5.b⟩
end Go.Proofs.Ytkdlppekjjbgoaa
