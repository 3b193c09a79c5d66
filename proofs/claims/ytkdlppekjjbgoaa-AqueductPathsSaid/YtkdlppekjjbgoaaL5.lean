/- AqueductPaths returns true in every walk. -/
import Derived.Test.YtkdlppekjjbgoaaG17

import Derived.Test.YtkdlppekjjbgoaaA8

import Derived.Test.YtkdlppekjjbgoaaB1

set_option linter.unusedSimpArgs false

set_option linter.unusedVariables false

namespace Go.Proofs.Ytkdlppekjjbgoaa

open Go.RowKit

/-- whether a number is among the first ones -/
def inN (f : Nat → Int) (x : Int) : Nat → Bool
  | 0 => false
  | k + 1 => inN f x k || decide (f k = x)
theorem inN_true {f : Nat → Int} {x : Int} : ∀ {N i : Nat}, i < N → f i = x → inN f x N = true
  | 0, i, h, _ => absurd h (Nat.not_lt_zero _)
  | N + 1, i, h, e => by
    unfold inN
    rcases Nat.lt_succ_iff_lt_or_eq.1 h with h1 | rfl
    · rw [inN_true h1 e]; rfl
    · simp [e]
theorem inN_false {f : Nat → Int} {x : Int} : ∀ {N : Nat}, (∀ i, i < N → f i ≠ x) → inN f x N = false
  | 0, _ => rfl
  | N + 1, h => by
    unfold inN
    rw [inN_false fun i hi => h i (by omega)]
    simp [h N (by omega)]
set_option maxRecDepth 100000 in
set_option maxHeartbeats 2000000 in
theorem in_any (f : Nat → Int) (x : Int) (N c : Nat) (p : Option Addr) (w : World) (hN : N ≤ 40) (hi : NumIn w w.heap.size N f p) :
    Calls Try.prog 33 #[.slice p N c, .int .i64 x] w fun e w' => e = .returned (.bool (inN f x N)) ∧ w = w' := by
  have HI := Lib.hid hi; clear hi
  go_enter Try.func33, Try.ntmps33
  go_wp2
  go_loopw [5] (fun i wr => ∃ k : Nat, i = .int .i64 (k : Int) ∧ k ≤ N ∧ inN f x k = false ∧ wr = w) (fun i _ => N - (intOf i).toNat)
  case atStart => exact ⟨0, rfl, Nat.zero_le _, rfl, rfl⟩
  case round =>
    obtain ⟨k, rfl, hk, hin, rfl⟩ := hrel
    by_cases hlt : k < N
    · have d1 : decide ((k : Int) < (N : Int)) = true := by simp; omega
      have jk : (k : Int) < (N : Int) := by omega
      obtain ⟨b, o, rfl, _, hc⟩ := HI.out (by omega)
      have e0 := hc k hlt
      have HIN := Lib.hid hin
      clear hc hin
      by_cases e : f k = x
      · have d2 : (f k == x) = true := by simp [e]
        have HR := Lib.hid (show true = inN f x N from (inN_true hlt e).symm)
        clear e
        go_wp2
        go_ret
        exact ⟨ret_b HR.out, rfl⟩
      · have d2 : (f k == x) = false := by simp [e]
        have HR := Lib.hid (show inN f x (k + 1) = false by unfold inN; rw [HIN.out]; simp [e])
        clear e
        go_wp2
        go_roundw
        case rel => exact ⟨k + 1, by go_num, hlt, HR.out, by first | rfl | trivial⟩
        case measure => first | (simp [intOf]; done) | (simp [intOf]; omega)
    · obtain rfl : k = N := by omega
      have d1 : decide ((k : Int) < (k : Int)) = false := by simp
      have HR := Lib.hid (show false = inN f x k from hin.symm)
      clear hlt hk hin
      go_wp2
      go_ret
      exact ⟨ret_b HR.out, rfl⟩
theorem in_is {f : Nat → Int} {x : Int} {N c : Nat} {p : Option Addr} {b : Bool} (h : inN f x N = b) (w : World) (hN : N ≤ 40) (hi : NumIn w w.heap.size N f p) :
    Calls Try.prog 33 #[.slice p N c, .int .i64 x] w fun e w' => e = .returned (.bool b) ∧ Below w.heap.size w w' := by subst h; exact (in_any f x N c p w hN hi).mono fun e w' ⟨he, hb⟩ => ⟨he, by rw [hb]; exact Below.refl _ _⟩
set_option maxRecDepth 100000 in
set_option maxHeartbeats 4000000 in
theorem paths_o1 (D : Duct) (p q : Option Addr) (c d : Nat) (k : Int) (w : World) (hn : D.n ≤ maxLen) (hm : D.m ≤ maxLen) (hrd : (!(decide (40 < D.n) || decide (40 < D.m)) && D.ok) = false) (hi : DuctIn w w.heap.size D p q) :
    Calls Try.prog 5 #[.agg #[.slice p D.n c, .slice q D.m d], .int .i64 k] w fun e w' => e = .returned (.bool true) ∧ Below w.heap.size w w' := by
  have HRD := Lib.hid (show ∀ V : World, DuctIn V V.heap.size D p q → Calls Try.prog 15 #[.agg #[.slice p D.n c, .slice q D.m d]] V fun e w' => e = .returned (.bool false) ∧ Below V.heap.size V w' from fun V h => by
    have := ready_any D p q c d V hn hm h
    rw [hrd] at this
    exact this)
  clear hrd
  obtain ⟨w1, x1, ew1, hb1, hl1⟩ := mk_line w p q D.n D.m c d
  have HL1 := Lib.hid hl1; have HI1 := Lib.hid (hi.bel hb1); have HB1 := Lib.hid hb1
  clear hb1 hl1 hi
  have HW_0 : Hid (∀ z : Ext w1, Below w.heap.size w z.v) := fun z => bT HB1.out z.b
  have HI_0 : Hid (∀ z : Ext w1, DuctIn z.v z.v.heap.size D p q) := fun z => HI1.out.bel z.b
  have L0_0 : ∀ z : Ext w1, z.v.cell? ⟨w.heap.size, 0, none⟩ = some (.slice p D.n c) := fun z => (HL1.out.bel z.b).c0
  have L1_0 : ∀ z : Ext w1, z.v.cell? ⟨w.heap.size, 1, none⟩ = some (.slice q D.m d) := fun z => (HL1.out.bel z.b).c1
  go_enter Try.func5, Try.ntmps5
  go_wp2_with fail
  refine (quiet_x (HRD.out _ (HI_0.out _))).mono ?_
  rintro e w' ⟨rfl, y1, rfl⟩
  go_wp2_with fail
  refine (quiet_x (works_ex _)).mono ?_
  rintro e w' ⟨rfl, y2, rfl⟩
  go_wp2_with fail
  go_ret
  exact ⟨rfl, HW_0.out y2⟩

set_option maxRecDepth 100000 in
set_option maxHeartbeats 4000000 in
theorem paths_o2 (D : Duct) (p q : Option Addr) (c d : Nat) (k : Int) (w : World) (hn : D.n ≤ maxLen) (hm : D.m ≤ maxLen) (hm4 : D.m ≤ 40) (hrd : (!(decide (40 < D.n) || decide (40 < D.m)) && D.ok) = true) (his : isSt D k = false) (hi : DuctIn w w.heap.size D p q) :
    Calls Try.prog 5 #[.agg #[.slice p D.n c, .slice q D.m d], .int .i64 k] w fun e w' => e = .returned (.bool true) ∧ Below w.heap.size w w' := by
  have HRD := Lib.hid (show ∀ V : World, DuctIn V V.heap.size D p q → Calls Try.prog 15 #[.agg #[.slice p D.n c, .slice q D.m d]] V fun e w' => e = .returned (.bool true) ∧ Below V.heap.size V w' from fun V h => by
    have := ready_any D p q c d V hn hm h
    rw [hrd] at this
    exact this)
  have HIS := Lib.hid (show ∀ V : World, Calls Try.prog 27 #[.agg #[.slice p D.n c, .slice q D.m d], .int .i64 k] V fun e w' => e = .returned (.bool false) ∧ Below V.heap.size V w' from fun V => by
    have := isStretchR_any D p q c d k V hm4
    rw [his] at this
    exact this)
  clear hrd his
  obtain ⟨w1, x1, ew1, hb1, hl1⟩ := mk_line w p q D.n D.m c d
  have HL1 := Lib.hid hl1; have HI1 := Lib.hid (hi.bel hb1); have HB1 := Lib.hid hb1
  clear hb1 hl1 hi
  have HW_0 : Hid (∀ z : Ext w1, Below w.heap.size w z.v) := fun z => bT HB1.out z.b
  have HI_0 : Hid (∀ z : Ext w1, DuctIn z.v z.v.heap.size D p q) := fun z => HI1.out.bel z.b
  have L0_0 : ∀ z : Ext w1, z.v.cell? ⟨w.heap.size, 0, none⟩ = some (.slice p D.n c) := fun z => (HL1.out.bel z.b).c0
  have L1_0 : ∀ z : Ext w1, z.v.cell? ⟨w.heap.size, 1, none⟩ = some (.slice q D.m d) := fun z => (HL1.out.bel z.b).c1
  go_enter Try.func5, Try.ntmps5
  go_wp2_with fail
  refine (quiet_x (HRD.out _ (HI_0.out _))).mono ?_
  rintro e w' ⟨rfl, y1, rfl⟩
  go_wp2_with fail
  refine (quiet_x (HIS.out _)).mono ?_
  rintro e w' ⟨rfl, y2, rfl⟩
  go_wp2_with fail
  refine (quiet_x (works_ex _)).mono ?_
  rintro e w' ⟨rfl, y3, rfl⟩
  go_wp2_with fail
  go_ret
  exact ⟨rfl, HW_0.out y3⟩

set_option maxRecDepth 100000 in
set_option maxHeartbeats 16000000 in
theorem paths_walk (D : Duct) (p q : Option Addr) (c d : Nat) (s L : Nat) (g : Nat → Int) (pd : Nat → Int) (most nx h : Int) (w : World) (hn4 : D.n ≤ 40) (hm7 : D.m ≤ 7) (hrd : (!(decide (40 < D.n) || decide (40 < D.m)) && D.ok) = true) (hs : s < D.m) (hL : L ≤ 6) (hLm : L ≤ D.m)
    (hpd : ∀ i, i < D.m → 0 ≤ pd i ∧ pd i ≤ most) (hfound : inN pd most D.m = true)
    (hB : (L = 0 ∧ D.m = 1 ∧ h = 3) ∨ (0 < L ∧ 1 < D.m ∧ h = 0 ∧ g 0 = nx))
    (hin : ∀ i, i < L → (1 ≤ g i ∧ g i ≤ (D.m : Int) - 1) ∧ inN g (g i) i = false)
    (hs0 : s = 0 ∨ inN g (s : Int) L = true) (hs1 : s + 1 = D.m ∨ inN g ((s : Int) + 1) L = true)
    (hW : ∀ V : World, DuctIn V V.heap.size D p q → Calls Try.prog 28 #[.agg #[.slice p D.n c, .slice q D.m d], .int .i64 0, .int .i64 D.m] V fun e w' => e = .returned (.tuple #[.int .i64 most, .int .i64 0]) ∧ Below V.heap.size V w')
    (hP : ∀ (i : Nat) (V : World), i < D.m → DuctIn V V.heap.size D p q → Calls Try.prog 29 #[.agg #[.slice p D.n c, .slice q D.m d], .int .i64 (i : Int)] V fun e w' => e = .returned (.tuple #[.int .i64 (pd i), .int .i64 0]) ∧ Below V.heap.size V w')
    (hL1 : ∀ V : World, DuctIn V V.heap.size D p q → Calls Try.prog 30 #[.agg #[.slice p D.n c, .slice q D.m d], .int .i64 (s : Int)] V fun e w' => ∃ y c', e = .returned (.tuple #[.slice y L c', .int .i64 0]) ∧ Below V.heap.size V w' ∧ NumIn w' w'.heap.size L g y ∧ L ≤ c')
    (hN : ∀ V : World, DuctIn V V.heap.size D p q → Calls Try.prog 31 #[.agg #[.slice p D.n c, .slice q D.m d], .int .i64 0, .int .i64 D.m] V fun e w' => e = .returned (.tuple #[.int .i64 nx, .int .i64 h]) ∧ Below V.heap.size V w')
    (hC : ∀ (V : World) y c', DuctIn V V.heap.size D p q → NumIn V V.heap.size L g y → Calls Try.prog 34 #[.agg #[.slice p D.n c, .slice q D.m d], .slice y L c'] V fun e w' => e = .returned (.int .i64 (pd s)) ∧ Below V.heap.size V w') (hi : DuctIn w w.heap.size D p q) :
    Calls Try.prog 5 #[.agg #[.slice p D.n c, .slice q D.m d], .int .i64 (s : Int)] w fun e w' => e = .returned (.bool true) ∧ Below w.heap.size w w' := by
  have hm4 : D.m ≤ 40 := by omega
  have hn : D.n ≤ maxLen := by unfold maxLen; omega
  have hm : D.m ≤ maxLen := by unfold maxLen; omega
  have his : isSt D (s : Int) = true := within_tt (by omega) (by omega)
  have HRD := Lib.hid (show ∀ V : World, DuctIn V V.heap.size D p q → Calls Try.prog 15 #[.agg #[.slice p D.n c, .slice q D.m d]] V fun e w' => e = .returned (.bool true) ∧ Below V.heap.size V w' from fun V h => by
    have := ready_any D p q c d V hn hm h
    rw [hrd] at this
    exact this)
  have HIS := Lib.hid (show ∀ V : World, Calls Try.prog 27 #[.agg #[.slice p D.n c, .slice q D.m d], .int .i64 (s : Int)] V fun e w' => e = .returned (.bool true) ∧ Below V.heap.size V w' from fun V => by
    have := isStretchR_any D p q c d (s : Int) V hm4
    rw [his] at this
    exact this)
  have HW := Lib.hid hW; have HP := Lib.hid hP; have HLP := Lib.hid hL1; have HN := Lib.hid hN; have HC := Lib.hid hC
  have HPD := Lib.hid hpd; have HFO := Lib.hid hfound; have HB := Lib.hid hB; have HIN := Lib.hid hin; have HS0 := Lib.hid hs0; have HS1 := Lib.hid hs1; have HS := Lib.hid hs; have HLM := Lib.hid hLm
  clear hW hP hL1 hN hC hpd hfound hB hin hs0 hs1 hrd his hs hLm
  obtain ⟨w1, x1, ew1, hb1, hl1⟩ := mk_line w p q D.n D.m c d
  have HL1 := Lib.hid hl1; have HI1 := Lib.hid (hi.bel hb1); have HB1 := Lib.hid hb1
  clear hb1 hl1 hi
  have HW_0 : Hid (∀ z : Ext w1, Below w.heap.size w z.v) := fun z => bT HB1.out z.b
  have HI_0 : Hid (∀ z : Ext w1, DuctIn z.v z.v.heap.size D p q) := fun z => HI1.out.bel z.b
  have L0_0 : ∀ z : Ext w1, z.v.cell? ⟨w.heap.size, 0, none⟩ = some (.slice p D.n c) := fun z => (HL1.out.bel z.b).c0
  have L1_0 : ∀ z : Ext w1, z.v.cell? ⟨w.heap.size, 1, none⟩ = some (.slice q D.m d) := fun z => (HL1.out.bel z.b).c1
  go_enter Try.func5, Try.ntmps5
  go_wp2_with fail
  refine (quiet_x (HRD.out _ (HI_0.out _))).mono ?_
  rintro e w' ⟨rfl, y1, rfl⟩
  go_wp2_with fail
  refine (quiet_x (HIS.out _)).mono ?_
  rintro e w' ⟨rfl, y2, rfl⟩
  go_wp2_with fail
  refine (quiet_x (HW.out _ (HI_0.out _))).mono ?_
  rintro e w' ⟨rfl, y3, rfl⟩
  go_wp2_with fail
  go_loopw [7, 8] (fun b i wr => ∃ k : Nat, i = .int .i64 (k : Int) ∧ b = .bool (inN pd most k) ∧ k ≤ D.m ∧ ∃ z : Ext w1, wr = z.v) (fun _ i _ => D.m - (intOf i).toNat)
  case atStart => exact ⟨0, rfl, rfl, Nat.zero_le _, y3, rfl⟩
  case round =>
    obtain ⟨k, rfl, rfl, hk, z, rfl⟩ := hrel
    by_cases hlt : k < D.m
    · have d1 : decide ((k : Int) < (D.m : Int)) = true := by simp; omega
      obtain ⟨n, hn'⟩ : ∃ e, pd k = e := ⟨_, rfl⟩
      have hb := HPD.out k hlt
      rw [hn'] at hb
      have d2 : decide (n < 0) = false := by simp; omega
      have d3 : decide (most < n) = false := by simp; omega
      have HPK := Lib.hid (show ∀ V : World, DuctIn V V.heap.size D p q → Calls Try.prog 29 #[.agg #[.slice p D.n c, .slice q D.m d], .int .i64 (k : Int)] V fun e w' => e = .returned (.tuple #[.int .i64 n, .int .i64 0]) ∧ Below V.heap.size V w' from fun V h => by
        have := HP.out k V hlt h
        rw [hn'] at this; exact this)
      have hst : inN pd most (k + 1) = (inN pd most k || decide (n = most)) := by rw [← hn']; rfl
      obtain ⟨b, hb0⟩ : ∃ e, inN pd most k = e := ⟨_, rfl⟩
      rw [hb0] at hst ⊢
      have HST := Lib.hid hst
      have k7 : k ≤ 7 := by omega
      clear hst hb0 hb hn'
      go_wp2_with fail
      refine (quiet_x (HPK.out _ (HI_0.out _))).mono ?_
      rintro e w' ⟨rfl, y10, rfl⟩
      by_cases e : n = most
      · have d4 : (n == most) = true := by simp [e]
        have HR := Lib.hid (show inN pd most (k + 1) = true by rw [HST.out]; simp [e])
        clear e
        cases b with
        | true =>
          go_wp2
          go_roundw
          case rel => exact ⟨k + 1, by go_num, by rw [HR.out], hlt, y10, rfl⟩
          case measure => first | (simp [intOf]; done) | (simp [intOf]; omega)
        | false =>
          go_wp2
          go_roundw
          case rel => exact ⟨k + 1, by go_num, by rw [HR.out], hlt, y10, rfl⟩
          case measure => first | (simp [intOf]; done) | (simp [intOf]; omega)
      · have d4 : (n == most) = false := by simp [e]
        have HR := Lib.hid (show inN pd most (k + 1) = b by rw [HST.out]; simp [e])
        clear e
        cases b with
        | true =>
          go_wp2
          go_roundw
          case rel => exact ⟨k + 1, by go_num, by rw [HR.out], hlt, y10, rfl⟩
          case measure => first | (simp [intOf]; done) | (simp [intOf]; omega)
        | false =>
          go_wp2
          go_roundw
          case rel => exact ⟨k + 1, by go_num, by rw [HR.out], hlt, y10, rfl⟩
          case measure => first | (simp [intOf]; done) | (simp [intOf]; omega)
    · obtain rfl : k = D.m := by omega
      have d1 : decide ((D.m : Int) < (D.m : Int)) = false := by simp
      rw [HFO.out]
      have HNL := hlt
      clear hk
      go_wp2_with fail
      refine (HLP.out _ (HI_0.out _)).mono ?_
      rintro e w' ⟨yl, cl, rfl, hb, hnum, hcap⟩
      have HNU := Lib.hid hnum; have HCA := Lib.hid hcap
      obtain ⟨y11, rfl⟩ : ∃ z : Ext w1, w' = z.v := ⟨⟨w', bT (Ext.b _) hb⟩, rfl⟩
      clear hb hnum hcap
      have HPS := Lib.hid (HP.out s)
      go_wp2_with fail
      refine (HPS.out _ HS.out (HI_0.out _)).mono ?_
      rintro e w' ⟨rfl, hb⟩
      have HNU2 := Lib.hid (HNU.out.bel hb)
      obtain ⟨y12, rfl⟩ : ∃ z : Ext w1, w' = z.v := ⟨⟨w', bT (Ext.b _) hb⟩, rfl⟩
      clear hb
      go_wp2_with fail
      refine (HN.out _ (HI_0.out _)).mono ?_
      rintro e w' ⟨rfl, hb⟩
      have HNU3 := Lib.hid (HNU2.out.bel hb)
      obtain ⟨y13, rfl⟩ : ∃ z : Ext w1, w' = z.v := ⟨⟨w', bT (Ext.b _) hb⟩, rfl⟩
      clear hb HNL
      have dl : decide ((D.m : Int) < (L : Int)) = false := by have := HLM.out; simp; omega
      have dl2 : ¬ D.m < L := by have := HLM.out; omega
      have m7 : D.m ≤ 7 := hm7
      have hwm : IntKind.i64.wrap ((D.m : Int) - 1) = (D.m : Int) - 1 := IntWalk.i64_in _ (by omega)
      have hws : IntKind.i64.wrap ((s : Int) + 1) = (s : Int) + 1 := IntWalk.i64_in _ (by have := HS.out; omega)
      have HY : Hid (∀ z : Ext y13.v, NumIn z.v z.v.heap.size L g yl) := fun z => HNU3.out.bel z.b
      have HD : Hid (∀ z : Ext y13.v, DuctIn z.v z.v.heap.size D p q) := fun z => HI_0.out (z.up y13.b)
      have M0 : ∀ z : Ext y13.v, z.v.cell? ⟨w.heap.size, 0, none⟩ = some (.slice p D.n c) := fun z => L0_0 (z.up y13.b)
      have M1 : ∀ z : Ext y13.v, z.v.cell? ⟨w.heap.size, 1, none⟩ = some (.slice q D.m d) := fun z => L1_0 (z.up y13.b)
      have HBW : Hid (∀ z : Ext y13.v, Below w.heap.size w z.v) := fun z => HW_0.out (z.up y13.b)
      obtain ⟨z13, hz13⟩ : ∃ z : Ext y13.v, y13.v = z.v := ⟨⟨y13.v, Below.refl _ _⟩, rfl⟩
      have HCU := Lib.hid (show L ≤ cl from HCA.out)
      clear HNU HNU2 HPS HPD HW HP HLP HN
      clear L0_0 L1_0
      have HPP : (pd s == pd s) = true := by simp
      rcases HB.out with ⟨hl0, hm1, rfl⟩ | ⟨hl0, hm1, rfl, hg0⟩
      · have e1 : decide (1 < (D.m : Int)) = false := by simp; omega
        have e2 : ¬ 1 < D.m := by omega
        have e3 : decide (0 < (L : Int)) = false := by simp; omega
        have e4 : ¬ 0 < L := by omega
        have HL0 := Lib.hid hl0; have HM1 := Lib.hid hm1
        clear hl0 hm1 HNU3
        rw [hz13]; clear hz13
        go_wp2_with fail
        go_loopw [17] (fun i wr => ∃ k : Nat, i = .int .i64 (k : Int) ∧ k ≤ L ∧ ∃ z : Ext y13.v, wr = z.v) (fun i _ => L - (intOf i).toNat)
        case atStart => exact ⟨0, rfl, Nat.zero_le _, z13, rfl⟩
        case round =>
          obtain ⟨k, rfl, hk, z, rfl⟩ := hrel
          clear z13
          by_cases hk2 : k < L
          · exact absurd hk2 (by have := HL0.out; omega)
          · obtain rfl : k = L := by omega
            have f1 : decide ((k : Int) < (k : Int)) = false := by simp
            clear hk
            go_wp2_with fail
            refine (quiet_x (HC.out _ yl cl (HD.out _) (HY.out _))).mono ?_
            rintro e w' ⟨rfl, y20, rfl⟩
            rcases Nat.eq_zero_or_pos s with hs0 | hs0
            · subst hs0
              rcases Nat.lt_or_ge (0 + 1) D.m with hs1 | hs1
              · have f3 : ((0 : Int) == (D.m : Int) - 1) = false := by simp; omega
                have f3n : ¬ ((0 : Int) = (D.m : Int) - 1) := by omega
                have f3m : ¬ ((D.m : Int) - 1 = (0 : Int)) := by omega
                have HI1 := Lib.hid (show ∀ V : World, NumIn V V.heap.size k g yl → Calls Try.prog 33 #[.slice yl k cl, .int .i64 1] V fun e w' => e = .returned (.bool true) ∧ Below V.heap.size V w' from fun V h => in_is (by have := HS1.out.resolve_left (by omega); simpa using this) V (by omega) h)
                clear hs1
                go_wp2_with fail
                refine (quiet_x (HI1.out _ (HY.out _))).mono ?_
                rintro e w' ⟨rfl, y22, rfl⟩
                go_wp2_with fail
                refine (quiet_x (works_ex _)).mono ?_
                rintro e w' ⟨rfl, y23, rfl⟩
                go_wp2_with fail
                go_ret
                exact ⟨rfl, HBW.out y23⟩
              · have f3m : (D.m : Int) - 1 = (0 : Int) := by have := HS.out; omega
                clear hs1
                go_wp2_with fail
                refine (quiet_x (works_ex _)).mono ?_
                rintro e w' ⟨rfl, y23, rfl⟩
                go_wp2_with fail
                go_ret
                exact ⟨rfl, HBW.out y23⟩
            · exact absurd HS.out (by have := HM1.out; omega)
      · have e1 : decide (1 < (D.m : Int)) = true := by simp; omega
        have e2 : 1 < D.m := hm1
        have e3 : decide (0 < (L : Int)) = true := by simp; omega
        have e4 : 0 < L := hl0
        obtain ⟨lb, lo, rfl, hlb1, hlb2⟩ := HNU3.out hl0
        clear hlb1 hlb2 HNU3
        have G0 : ∀ z : Ext y13.v, z.v.cell? ⟨lb, lo, none⟩ = some (.int .i64 nx) := fun z => by
          have := ((HY.out z).cell hl0).2
          rw [hg0] at this; simpa using this
        have dnx : (nx != nx) = false := by simp
        have HL0 := Lib.hid hl0; have HM1 := Lib.hid hm1
        clear hl0 hm1 hg0
        rw [hz13]; clear hz13
        go_wp2_with fail
        go_loopw [17] (fun i wr => ∃ k : Nat, i = .int .i64 (k : Int) ∧ k ≤ L ∧ ∃ z : Ext y13.v, wr = z.v) (fun i _ => L - (intOf i).toNat)
        case atStart => exact ⟨0, rfl, Nat.zero_le _, z13, rfl⟩
        case round =>
          obtain ⟨k, rfl, hk, z, rfl⟩ := hrel
          clear z13
          by_cases hk2 : k < L
          · have f1 : decide ((k : Int) < (L : Int)) = true := by simp; omega
            have jk : (k : Int) < (L : Int) := by omega
            obtain ⟨⟨a1, a2⟩, a3⟩ := HIN.out k hk2
            obtain ⟨u, hu⟩ : ∃ e, g k = e := ⟨_, rfl⟩
            rw [hu] at a1 a2 a3
            have CL : ∀ z : Ext y13.v, z.v.cell? ⟨lb, lo + k, none⟩ = some (.int .i64 u) := fun z => by
              have := ((HY.out z).cell hk2).2
              rw [hu] at this; exact this
            have HWI := Lib.hid (show ∀ V : World, Calls Try.prog 32 #[.int .i64 u, .int .i64 1, .int .i64 ((D.m : Int) - 1)] V fun e w' => e = .returned (.bool true) ∧ Below V.heap.size V w' from fun V => by
              have := within1_any u 1 ((D.m : Int) - 1) V
              rw [within_tt a1 a2] at this
              exact this.mono fun e w' ⟨he, hb⟩ => ⟨he, by rw [hb]; exact Below.refl _ _⟩)
            have HNI := Lib.hid (show ∀ V : World, NumIn V V.heap.size L g (some ⟨lb, lo, none⟩) → Calls Try.prog 33 #[.slice (some ⟨lb, lo, none⟩) k cl, .int .i64 u] V fun e w' => e = .returned (.bool false) ∧ Below V.heap.size V w' from fun V h => in_is a3 V (by omega) (fun _ => by obtain ⟨b, o, e, l, hc⟩ := h (by omega); exact ⟨b, o, e, l, fun i hi => hc i (by omega)⟩))
            have jc : (k : Int) ≤ (cl : Int) := by have := HCU.out; omega
            have jcn : k ≤ cl := by have := HCU.out; omega
            have jc0 : ¬ cl = 0 := by have := HCU.out; omega
            have k7 : k ≤ 6 := by omega
            clear a1 a2 a3 hu
            go_wp2_with fail
            refine quiet_e (by kernel_rfl) (by kernel_rfl) ?_
            repeat (first | go_big_quiet_step ((first | (go_at_call 32; exact quiet_x (HWI.out _)) | (go_at_call 33; exact quiet_x (HNI.out _ (HY.out _))))) | quiet_step ((first | (go_at_call 32; exact quiet_x (HWI.out _)) | (go_at_call 33; exact quiet_x (HNI.out _ (HY.out _))))))
            refine wpQuiet_nil ?_
            intro w6 hw6
            obtain ⟨y15, rfl⟩ := hw6
            go_wp2
            go_roundw
            case rel => exact ⟨k + 1, by go_num, by omega, y15, rfl⟩
            case measure => first | (simp [intOf]; done) | (simp [intOf]; omega)
          · obtain rfl : k = L := by omega
            have f1 : decide ((k : Int) < (k : Int)) = false := by simp
            clear hk
            go_wp2_with fail
            refine (quiet_x (HC.out _ (some ⟨lb, lo, none⟩) cl (HD.out _) (HY.out _))).mono ?_
            rintro e w' ⟨rfl, y20, rfl⟩
            rcases Nat.eq_zero_or_pos s with hs0 | hs0
            · subst hs0
              rcases Nat.lt_or_ge (0 + 1) D.m with hs1 | hs1
              · have f3 : ((0 : Int) == (D.m : Int) - 1) = false := by simp; omega
                have f3n : ¬ ((0 : Int) = (D.m : Int) - 1) := by omega
                have f3m : ¬ ((D.m : Int) - 1 = (0 : Int)) := by omega
                have HI1 := Lib.hid (show ∀ V : World, NumIn V V.heap.size k g (some ⟨lb, lo, none⟩) → Calls Try.prog 33 #[.slice (some ⟨lb, lo, none⟩) k cl, .int .i64 1] V fun e w' => e = .returned (.bool true) ∧ Below V.heap.size V w' from fun V h => in_is (by have := HS1.out.resolve_left (by omega); simpa using this) V (by omega) h)
                clear hs1
                go_wp2_with fail
                refine (quiet_x (HI1.out _ (HY.out _))).mono ?_
                rintro e w' ⟨rfl, y22, rfl⟩
                go_wp2_with fail
                refine (quiet_x (works_ex _)).mono ?_
                rintro e w' ⟨rfl, y23, rfl⟩
                go_wp2_with fail
                go_ret
                exact ⟨rfl, HBW.out y23⟩
              · exact absurd HM1.out (by omega)
            · have f2 : ((s : Int) == 0) = false := by simp; omega
              have f2n : ¬ s = 0 := by omega
              have HI0 := Lib.hid (show ∀ V : World, NumIn V V.heap.size k g (some ⟨lb, lo, none⟩) → Calls Try.prog 33 #[.slice (some ⟨lb, lo, none⟩) k cl, .int .i64 (s : Int)] V fun e w' => e = .returned (.bool true) ∧ Below V.heap.size V w' from fun V h => in_is (HS0.out.resolve_left (by omega)) V (by omega) h)
              go_wp2_with fail
              refine (quiet_x (HI0.out _ (HY.out _))).mono ?_
              rintro e w' ⟨rfl, y21, rfl⟩
              rcases Nat.lt_or_ge (s + 1) D.m with hs1 | hs1
              · have f3 : ((s : Int) == (D.m : Int) - 1) = false := by simp; omega
                have f3n : ¬ ((s : Int) = (D.m : Int) - 1) := by omega
                have f3m : ¬ ((D.m : Int) - 1 = (s : Int)) := by omega
                have HI1 := Lib.hid (show ∀ V : World, NumIn V V.heap.size k g (some ⟨lb, lo, none⟩) → Calls Try.prog 33 #[.slice (some ⟨lb, lo, none⟩) k cl, .int .i64 ((s : Int) + 1)] V fun e w' => e = .returned (.bool true) ∧ Below V.heap.size V w' from fun V h => in_is (HS1.out.resolve_left (by omega)) V (by omega) h)
                clear hs1
                go_wp2_with fail
                refine (quiet_x (HI1.out _ (HY.out _))).mono ?_
                rintro e w' ⟨rfl, y22, rfl⟩
                go_wp2_with fail
                refine (quiet_x (works_ex _)).mono ?_
                rintro e w' ⟨rfl, y23, rfl⟩
                go_wp2_with fail
                go_ret
                exact ⟨rfl, HBW.out y23⟩
              · have f3m : (D.m : Int) - 1 = (s : Int) := by have := HS.out; omega
                have hwm2 : IntKind.i64.wrap (s : Int) = (s : Int) := IntWalk.i64_in _ (by have := HS.out; omega)
                clear hs1
                go_wp2_with fail
                refine (quiet_x (works_ex _)).mono ?_
                rintro e w' ⟨rfl, y23, rfl⟩
                go_wp2_with fail
                go_ret
                exact ⟨rfl, HBW.out y23⟩
theorem atL_ne {l : List Nat} (hn : l.Nodup) {i j : Nat} (hi : i < l.length) (hj : j < i) : atL l j ≠ atL l i := fun h => by
  unfold atL at h
  have h' : l.getD j 0 = l.getD i 0 := by omega
  rw [List.getD_eq_getElem?_getD, List.getD_eq_getElem?_getD, List.getElem?_eq_getElem hi, List.getElem?_eq_getElem (show j < l.length by omega)] at h'
  have := (List.getElem_inj hn).1 (show l[j] = l[i] from h')
  omega
theorem mem_inN {l : List Nat} {x : Nat} (h : x ∈ l) : inN (atL l) (x : Int) l.length = true := by
  obtain ⟨i, hi, e⟩ := List.getElem_of_mem h
  refine inN_true hi ?_
  unfold atL
  rw [List.getD_eq_getElem?_getD, List.getElem?_eq_getElem hi]
  show ((l[i] : Nat) : Int) = _
  rw [e]
theorem paths_law (D : Duct) (p q : Option Addr) (c d : Nat) (k : Int) (w : World) (hn : D.n ≤ maxLen) (hm : D.m ≤ maxLen) (hi : DuctIn w w.heap.size D p q) :
    Calls Try.prog 5 #[.agg #[.slice p D.n c, .slice q D.m d], .int .i64 k] w fun e w' => e = .returned (.bool true) ∧ Below w.heap.size w w' := by
  cases hrd : (!(decide (40 < D.n) || decide (40 < D.m)) && D.ok) with
  | false => exact paths_o1 D p q c d k w hn hm hrd hi
  | true =>
    have h : (D.n ≤ 40 ∧ D.m ≤ 40) ∧ D.ok = true := by simpa using hrd
    obtain ⟨⟨hn4, hm4⟩, hok⟩ := h
    cases his : isSt D k with
    | false => exact paths_o2 D p q c d k w hn hm hm4 hrd his hi
    | true =>
      obtain ⟨s, rfl, hs⟩ := isSt_nat his
      obtain ⟨hm7, hnm, _, _⟩ := D.ok_parts hok
      have hco := co_bd hok
      have hlen := pL_len (D := D) (s := s) (n := D.m) (f := 0) (t := D.m)
      have hmem : ∀ x, x ∈ path D s → 0 < x ∧ x < D.m := fun x hx => pL_in hx
      have hnd : (path D s).Nodup := pL_nodup
      have hhas := pL_has (D := D) (s := s) (n := D.m) (f := 0) (t := D.m) (by omega) (Nat.zero_le _) hs
      have hpaid : ∀ i, i < D.m → 0 ≤ paid D i ∧ paid D i ≤ WW D 0 D.m := fun i hi => pL_cost hco (n := D.m) (f := 0) (t := D.m) (by omega) (by omega)
      obtain ⟨sw, _, hsw, hswe⟩ := pL_worst (D := D) (n := D.m) (f := 0) (t := D.m) (by omega) (by omega)
      have hfound : inN (paid D) (WW D 0 D.m) D.m = true := inN_true hsw hswe
      have hin : ∀ i, i < (path D s).length → (1 ≤ atL (path D s) i ∧ atL (path D s) i ≤ (D.m : Int) - 1) ∧ inN (atL (path D s)) (atL (path D s) i) i = false := fun i hi => by
        have := hmem _ (atL_mem hi)
        refine ⟨?_, inN_false fun j hj => atL_ne hnd hi hj⟩
        unfold atL; omega
      have hs0 : s = 0 ∨ inN (atL (path D s)) (s : Int) (path D s).length = true := hhas.1.imp id mem_inN
      have hs1 : s + 1 = D.m ∨ inN (atL (path D s)) ((s : Int) + 1) (path D s).length = true := hhas.2.imp id fun h => by
        have := mem_inN (l := path D s) h; simpa using this
      have hle : (path D s).length ≤ D.m := by unfold path; omega
      have hW := fun (V : World) (h : DuctIn V V.heap.size D p q) => worstP_ok D p q c d 0 D.m V (by omega) (Nat.le_refl _) hn4 hok h
      have hC : ∀ (V : World) y c', DuctIn V V.heap.size D p q → NumIn V V.heap.size (path D s).length (atL (path D s)) y → Calls Try.prog 34 #[.agg #[.slice p D.n c, .slice q D.m d], .slice y (path D s).length c'] V fun e w' => e = .returned (.int .i64 (paid D s)) ∧ Below V.heap.size V w' :=
        fun V y c' h1 h2 => costOf_any D p q c d _ c' (path D s) y V rfl (by omega) (fun x hx => by have := hmem x hx; omega) hco h2 h1
      by_cases h1 : 1 < D.m
      · obtain ⟨nx, hnx, p1, p2⟩ := NX_in (D := D) (f := 0) (t := D.m) (by omega)
        obtain ⟨n, hn'⟩ : ∃ n, D.m = n + 1 := ⟨D.m - 1, by omega⟩
        have e := pL_step (D := D) (s := s) (n := n) (f := 0) (t := D.m) (by omega) hnx
        rw [← hn'] at e
        obtain ⟨r, hst⟩ : ∃ r, path D s = nx :: r := ⟨_, e⟩
        have hL0 : 0 < (path D s).length := by rw [hst]; simp
        have hg0 : atL (path D s) 0 = NX D 0 D.m := by rw [hst, hnx]; rfl
        exact paths_walk D p q c d s (path D s).length (atL (path D s)) (paid D) (WW D 0 D.m) (NX D 0 D.m) 0 w hn4 hm7 hrd hs (path_len hm7) hle hpaid hfound (Or.inr ⟨hL0, h1, rfl, hg0⟩) hin hs0 hs1 hW
          (fun i V hi h => paidP_ok D p q c d i V hi hok h) (fun V h => pathP_ok D p q c d s V hs hok h) (fun V h => nextP_ok D p q c d 0 D.m V (by omega) (Nat.le_refl _) hn4 hok h) hC hi
      · have hm1 : D.m = 1 := by omega
        have hL0 : (path D s).length = 0 := by unfold path; rw [pL_one (by omega)]; rfl
        exact paths_walk D p q c d s (path D s).length (atL (path D s)) (paid D) (WW D 0 D.m) 0 3 w hn4 hm7 hrd hs (path_len hm7) hle hpaid hfound (Or.inl ⟨hL0, hm1, rfl⟩) hin hs0 hs1 hW
          (fun i V hi h => paidP_ok D p q c d i V hi hok h) (fun V h => pathP_ok D p q c d s V hs hok h) (fun V h => nextP_one D p q c d 0 D.m V (by omega) (Nat.le_refl _) hn4 hok h) hC hi
end Go.Proofs.Ytkdlppekjjbgoaa
