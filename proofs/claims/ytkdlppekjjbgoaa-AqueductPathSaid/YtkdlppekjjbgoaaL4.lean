/- AqueductPath returns true in every walk. -/
import Derived.Test.YtkdlppekjjbgoaaG13

import Derived.Test.YtkdlppekjjbgoaaG17

import Derived.Test.YtkdlppekjjbgoaaS6

import Derived.Test.YtkdlppekjjbgoaaB1

set_option linter.unusedSimpArgs false

set_option linter.unusedVariables false

namespace Go.Proofs.Ytkdlppekjjbgoaa

open Go.RowKit

set_option maxRecDepth 100000 in
set_option maxHeartbeats 4000000 in
theorem path_big (D : Duct) (p q : Option Addr) (c d : Nat) (s k : Int) (w : World) (hn : D.n ≤ maxLen) (hm : D.m ≤ maxLen) (hf : (decide (40 < D.n) || decide (40 < D.m)) = true) (hi : DuctIn w w.heap.size D p q) :
    Calls Try.prog 14 #[.agg #[.slice p D.n c, .slice q D.m d], .int .i64 s, .int .i64 k] w fun e w' => e = .returned (.bool true) ∧ Below w.heap.size w w' := by
  have HFAR := Lib.hid (show ∀ (V : World), Calls Try.prog 40 #[.agg #[.slice p D.n c, .slice q D.m d]] V fun e w' => e = .returned (.bool true) ∧ Below V.heap.size V w' from fun V => by
    have := far_any D p q c d V hn hm
    rw [hf] at this
    exact this)
  clear hf
  obtain ⟨w1, x1, ew1, hb1, hl1⟩ := mk_line w p q D.n D.m c d
  have HL1 := Lib.hid hl1; have HI1 := Lib.hid (hi.bel hb1); have HB1 := Lib.hid hb1
  clear hb1 hl1 hi
  have HW_0 : Hid (∀ z : Ext w1, Below w.heap.size w z.v) := fun z => bT HB1.out z.b
  have HI_0 : Hid (∀ z : Ext w1, DuctIn z.v z.v.heap.size D p q) := fun z => HI1.out.bel z.b
  have L0_0 : ∀ z : Ext w1, z.v.cell? ⟨w.heap.size, 0, none⟩ = some (.slice p D.n c) := fun z => (HL1.out.bel z.b).c0
  have L1_0 : ∀ z : Ext w1, z.v.cell? ⟨w.heap.size, 1, none⟩ = some (.slice q D.m d) := fun z => (HL1.out.bel z.b).c1
  go_enter Try.func14, Try.ntmps14
  go_wp2_with fail
  refine (quiet_x (HFAR.out _)).mono ?_
  rintro e w' ⟨rfl, y1, rfl⟩
  go_wp2_with fail
  refine (quiet_x (works_ex _)).mono ?_
  rintro e w' ⟨rfl, y2, rfl⟩
  go_wp2_with fail
  go_ret
  exact ⟨rfl, HW_0.out y2⟩

set_option maxRecDepth 100000 in
set_option maxHeartbeats 8000000 in
theorem path_walk (D : Duct) (p q : Option Addr) (c d : Nat) (s k : Int) (L : Nat) (g : Nat → Int) (e1 m e2 n e3 : Int) (w : World) (hn4 : D.n ≤ 40) (hm4 : D.m ≤ 40) (hL : L ≤ 40) (hP1 : ∀ (V : World) (P Q : Option Addr) (cc dd : Nat), DuctIn V V.heap.size D P Q → Calls Try.prog 30 #[.agg #[.slice P D.n cc, .slice Q D.m dd], .int .i64 s] V fun e w' => ∃ y c', e = .returned (.tuple #[.slice y L c', .int .i64 e1]) ∧ Below V.heap.size V w' ∧ NumIn w' w'.heap.size L g y) (hP2 : ∀ (V : World) (P Q : Option Addr) (cc dd : Nat), DuctIn V V.heap.size D P Q → Calls Try.prog 52 #[.agg #[.slice P D.n cc, .slice Q D.m dd], .int .i64 s] V fun e w' => ∃ y c', e = .returned (.tuple #[.slice y L c', .int .i64 e1]) ∧ Below V.heap.size V w' ∧ NumIn w' w'.heap.size L g y) (hD1 : ∀ (V : World) (P Q : Option Addr) (cc dd : Nat), DuctIn V V.heap.size D P Q → Calls Try.prog 29 #[.agg #[.slice P D.n cc, .slice Q D.m dd], .int .i64 s] V fun e w' => e = .returned (.tuple #[.int .i64 m, .int .i64 e2]) ∧ Below V.heap.size V w') (hD2 : ∀ (V : World) (P Q : Option Addr) (cc dd : Nat), DuctIn V V.heap.size D P Q → Calls Try.prog 53 #[.agg #[.slice P D.n cc, .slice Q D.m dd], .int .i64 s] V fun e w' => e = .returned (.tuple #[.int .i64 m, .int .i64 e2]) ∧ Below V.heap.size V w') (hF1 : ∀ (V : World) (P Q : Option Addr) (cc dd : Nat), DuctIn V V.heap.size D P Q → Calls Try.prog 37 #[.agg #[.slice P D.n cc, .slice Q D.m dd], .int .i64 k] V fun e w' => e = .returned (.tuple #[.int .i64 n, .int .i64 e3]) ∧ Below V.heap.size V w') (hF2 : ∀ (V : World) (P Q : Option Addr) (cc dd : Nat), DuctIn V V.heap.size D P Q → Calls Try.prog 54 #[.agg #[.slice P D.n cc, .slice Q D.m dd], .int .i64 k] V fun e w' => e = .returned (.tuple #[.int .i64 n, .int .i64 e3]) ∧ Below V.heap.size V w') (hi : DuctIn w w.heap.size D p q) :
    Calls Try.prog 14 #[.agg #[.slice p D.n c, .slice q D.m d], .int .i64 s, .int .i64 k] w fun e w' => e = .returned (.bool true) ∧ Below w.heap.size w w' := by
  have hn : D.n ≤ maxLen := by unfold maxLen; omega
  have hm : D.m ≤ maxLen := by unfold maxLen; omega
  have hf : (decide (40 < D.n) || decide (40 < D.m)) = false := by simp; omega
  have HFAR := Lib.hid (show ∀ (V : World), Calls Try.prog 40 #[.agg #[.slice p D.n c, .slice q D.m d]] V fun e w' => e = .returned (.bool false) ∧ Below V.heap.size V w' from fun V => by
    have := far_any D p q c d V hn hm
    rw [hf] at this
    exact this)
  clear hf
  have HP1 := Lib.hid hP1
  have HP2 := Lib.hid hP2
  have HD1 := Lib.hid hD1
  have HD2 := Lib.hid hD2
  have HF1 := Lib.hid hF1
  have HF2 := Lib.hid hF2
  clear hP1 hP2 hD1 hD2 hF1 hF2
  have b_e1 : (e1 == e1) = true := by simp
  have b_m : (m == m) = true := by simp
  have b_e2 : (e2 == e2) = true := by simp
  have b_n : (n == n) = true := by simp
  have b_e3 : (e3 == e3) = true := by simp
  obtain ⟨w1, x1, ew1, hb1, hl1⟩ := mk_line w p q D.n D.m c d
  have HL1 := Lib.hid hl1; have HI1 := Lib.hid (hi.bel hb1); have HB1 := Lib.hid hb1
  clear hb1 hl1 hi
  have HW_0 : Hid (∀ z : Ext w1, Below w.heap.size w z.v) := fun z => bT HB1.out z.b
  have HI_0 : Hid (∀ z : Ext w1, DuctIn z.v z.v.heap.size D p q) := fun z => HI1.out.bel z.b
  have L0_0 : ∀ z : Ext w1, z.v.cell? ⟨w.heap.size, 0, none⟩ = some (.slice p D.n c) := fun z => (HL1.out.bel z.b).c0
  have L1_0 : ∀ z : Ext w1, z.v.cell? ⟨w.heap.size, 1, none⟩ = some (.slice q D.m d) := fun z => (HL1.out.bel z.b).c1
  go_enter Try.func14, Try.ntmps14
  go_wp2_with fail
  refine (quiet_x (HFAR.out _)).mono ?_
  rintro e w' ⟨rfl, y1, rfl⟩
  go_wp2_with fail
  refine (copyC_any D p q c d _ hn4 hm4 (HI_0.out _)).mono ?_
  rintro e w' ⟨p', c', q', d', rfl, hcp, hoq, hcc, hdd⟩
  have hcb := hcp.below; have hch := hcp.here
  have HDD := Lib.hid hdd; have HOWN := Lib.hid hcp.own; have HOQ := Lib.hid hoq
  clear hcp hoq hcc hdd
  obtain ⟨yc2, rfl⟩ : ∃ z : Ext w1, w' = z.v := ⟨⟨w', bT y1.b hcb⟩, rfl⟩
  obtain ⟨wo, xo, ewo, bwo, lwo⟩ := mk_line yc2.v p' q' D.n D.m c' d'
  have HBO := Lib.hid (bT yc2.b bwo); have HLO := Lib.hid lwo; have HDO := Lib.hid (hch.bel bwo)
  clear bwo lwo hcb hch
  have HW_1 : Hid (∀ z : Ext wo, Below w.heap.size w z.v) := fun z => HW_0.out (z.up HBO.out)
  have HI_1 : Hid (∀ z : Ext wo, DuctIn z.v z.v.heap.size D p q) := fun z => HI_0.out (z.up HBO.out)
  have L0_1 : ∀ z : Ext wo, z.v.cell? ⟨w.heap.size, 0, none⟩ = some (.slice p D.n c) := fun z => L0_0 (z.up HBO.out)
  have L1_1 : ∀ z : Ext wo, z.v.cell? ⟨w.heap.size, 1, none⟩ = some (.slice q D.m d) := fun z => L1_0 (z.up HBO.out)
  clear HW_0 HI_0 L0_0 L1_0
  have HO_1 : Hid (∀ z : Ext wo, DuctIn z.v z.v.heap.size D p' q') := fun z => HDO.out.bel z.b
  have O0_1 : ∀ z : Ext wo, z.v.cell? ⟨yc2.v.heap.size, 0, none⟩ = some (.slice p' D.n c') := fun z => (HLO.out.bel z.b).c0
  have O1_1 : ∀ z : Ext wo, z.v.cell? ⟨yc2.v.heap.size, 1, none⟩ = some (.slice q' D.m d') := fun z => (HLO.out.bel z.b).c1
  go_wp2_with fail
  refine (HP1.out _ p' q' c' d' (HO_1.out _)).mono ?_
  rintro e wl3 ⟨l3, lc3, rfl, hb3, hn3⟩
  have HXL3 := Lib.hid (bT xo.b hb3); have HNL3 := Lib.hid hn3
  clear hb3 hn3
  obtain ⟨zl3, hzl3⟩ := rebase wl3
  have HW_2 : Hid (∀ z : Ext wl3, Below w.heap.size w z.v) := fun z => HW_1.out (z.up HXL3.out)
  have HI_2 : Hid (∀ z : Ext wl3, DuctIn z.v z.v.heap.size D p q) := fun z => HI_1.out (z.up HXL3.out)
  have L0_2 : ∀ z : Ext wl3, z.v.cell? ⟨w.heap.size, 0, none⟩ = some (.slice p D.n c) := fun z => L0_1 (z.up HXL3.out)
  have L1_2 : ∀ z : Ext wl3, z.v.cell? ⟨w.heap.size, 1, none⟩ = some (.slice q D.m d) := fun z => L1_1 (z.up HXL3.out)
  have HO_2 : Hid (∀ z : Ext wl3, DuctIn z.v z.v.heap.size D p' q') := fun z => HO_1.out (z.up HXL3.out)
  have O0_2 : ∀ z : Ext wl3, z.v.cell? ⟨yc2.v.heap.size, 0, none⟩ = some (.slice p' D.n c') := fun z => O0_1 (z.up HXL3.out)
  have O1_2 : ∀ z : Ext wl3, z.v.cell? ⟨yc2.v.heap.size, 1, none⟩ = some (.slice q' D.m d') := fun z => O1_1 (z.up HXL3.out)
  clear HW_1 HI_1 L0_1 L1_1 HO_1 O0_1 O1_1
  have N1_2 : Hid (∀ z : Ext wl3, NumIn z.v z.v.heap.size L g l3) := fun z => HNL3.out.bel z.b
  rw [hzl3]; clear hzl3
  go_wp2_with fail
  refine (HP2.out _ p q c d (HI_2.out _)).mono ?_
  rintro e wl4 ⟨l4, lc4, rfl, hb4, hn4⟩
  have HXL4 := Lib.hid (bT zl3.b hb4); have HNL4 := Lib.hid hn4
  clear hb4 hn4
  obtain ⟨zl4, hzl4⟩ := rebase wl4
  have HW_3 : Hid (∀ z : Ext wl4, Below w.heap.size w z.v) := fun z => HW_2.out (z.up HXL4.out)
  have HI_3 : Hid (∀ z : Ext wl4, DuctIn z.v z.v.heap.size D p q) := fun z => HI_2.out (z.up HXL4.out)
  have L0_3 : ∀ z : Ext wl4, z.v.cell? ⟨w.heap.size, 0, none⟩ = some (.slice p D.n c) := fun z => L0_2 (z.up HXL4.out)
  have L1_3 : ∀ z : Ext wl4, z.v.cell? ⟨w.heap.size, 1, none⟩ = some (.slice q D.m d) := fun z => L1_2 (z.up HXL4.out)
  have HO_3 : Hid (∀ z : Ext wl4, DuctIn z.v z.v.heap.size D p' q') := fun z => HO_2.out (z.up HXL4.out)
  have O0_3 : ∀ z : Ext wl4, z.v.cell? ⟨yc2.v.heap.size, 0, none⟩ = some (.slice p' D.n c') := fun z => O0_2 (z.up HXL4.out)
  have O1_3 : ∀ z : Ext wl4, z.v.cell? ⟨yc2.v.heap.size, 1, none⟩ = some (.slice q' D.m d') := fun z => O1_2 (z.up HXL4.out)
  have N1_3 : Hid (∀ z : Ext wl4, NumIn z.v z.v.heap.size L g l3) := fun z => N1_2.out (z.up HXL4.out)
  clear HW_2 HI_2 L0_2 L1_2 HO_2 O0_2 O1_2 N1_2
  have N2_3 : Hid (∀ z : Ext wl4, NumIn z.v z.v.heap.size L g l4) := fun z => HNL4.out.bel z.b
  rw [hzl4]; clear hzl4
  go_wp2_with fail
  refine (quiet_x (HD1.out _ p' q' c' d' (HO_3.out _))).mono ?_
  rintro e w' ⟨rfl, y5, rfl⟩
  go_wp2_with fail
  refine (quiet_x (HD2.out _ p q c d (HI_3.out _))).mono ?_
  rintro e w' ⟨rfl, y6, rfl⟩
  go_wp2_with fail
  refine (quiet_x (HF1.out _ p' q' c' d' (HO_3.out _))).mono ?_
  rintro e w' ⟨rfl, y7, rfl⟩
  go_wp2_with fail
  refine (quiet_x (HF2.out _ p q c d (HI_3.out _))).mono ?_
  rintro e w' ⟨rfl, y8, rfl⟩
  go_wp2_with fail
  refine (quiet_x (sameInts_any L g l3 l4 lc3 lc4 _ hL (N1_3.out _) (N2_3.out _))).mono ?_
  rintro e w' ⟨rfl, y9, rfl⟩
  go_wp2_with fail
  refine (quiet_x (same_any D p' q' c' d' p q c d _ hn4 hm4 (HO_3.out _) (HI_3.out _))).mono ?_
  rintro e w' ⟨rfl, y10, rfl⟩
  go_wp2_with fail
  refine (quiet_x (works_ex _)).mono ?_
  rintro e w' ⟨rfl, y11, rfl⟩
  go_wp2_with fail
  go_ret
  exact ⟨rfl, HW_3.out y11⟩

theorem path_none (L : Nat) (g : Nat → Int) (h : L = 0) (w : World) : NumIn w w.heap.size L g none := fun h0 => by omega
theorem path_law (D : Duct) (p q : Option Addr) (c d : Nat) (s k : Int) (w : World) (hn : D.n ≤ maxLen) (hm : D.m ≤ maxLen) (hi : DuctIn w w.heap.size D p q) :
    Calls Try.prog 14 #[.agg #[.slice p D.n c, .slice q D.m d], .int .i64 s, .int .i64 k] w fun e w' => e = .returned (.bool true) ∧ Below w.heap.size w w' := by
  cases hf : (decide (40 < D.n) || decide (40 < D.m)) with
  | true => exact path_big D p q c d s k w hn hm hf hi
  | false =>
    have h : D.n ≤ 40 ∧ D.m ≤ 40 := by simpa using hf
    obtain ⟨h1, h2⟩ := h
    have hok_of : ∀ {b : Bool}, chkE D.ok b = 0 → D.ok = true ∧ b = true := fun {b} he => by
      cases ho : D.ok with
      | false => rw [ho] at he; exact absurd (show (60 : Int) = 0 from he) (by decide)
      | true =>
        cases b with
        | true => exact ⟨rfl, rfl⟩
        | false => rw [ho] at he; exact absurd (show (1 : Int) = 0 from he) (by decide)
    -- what Free comes to
    have hfree : ∃ n e3 : Int, (∀ (V : World) (P Q : Option Addr) (cc dd : Nat), DuctIn V V.heap.size D P Q → Calls Try.prog 37 #[.agg #[.slice P D.n cc, .slice Q D.m dd], .int .i64 k] V fun e w' => e = .returned (.tuple #[.int .i64 n, .int .i64 e3]) ∧ Below V.heap.size V w') ∧ (∀ (V : World) (P Q : Option Addr) (cc dd : Nat), DuctIn V V.heap.size D P Q → Calls Try.prog 54 #[.agg #[.slice P D.n cc, .slice Q D.m dd], .int .i64 k] V fun e w' => e = .returned (.tuple #[.int .i64 n, .int .i64 e3]) ∧ Below V.heap.size V w') := by
      by_cases he : chkE D.ok (isPt D k) = 0
      case neg => exact ⟨0, _, fun V P Q cc dd h => freeP_er D P Q cc dd k _ V h1 h2 rfl he h, fun V P Q cc dd h => freeR_er D P Q cc dd k _ V h1 h2 rfl he h⟩
      obtain ⟨hok, hip⟩ := hok_of he
      by_cases hm0 : D.m = 0
      · exact ⟨0, 3, fun V P Q cc dd h => freeP_none D P Q cc dd k V hip hm0 hok h, fun V P Q cc dd h => freeR_none D P Q cc dd k V hip hm0 hok h⟩
      obtain ⟨j, rfl, hj⟩ := isPt_nat hip
      exact ⟨FR D j, 0, fun V P Q cc dd h => freeP_ok D P Q cc dd j V hj (by omega) hok h, fun V P Q cc dd h => freeR_ok D P Q cc dd j V hj (by omega) hok h⟩
    obtain ⟨n, e3, f1, f2⟩ := hfree
    by_cases he : chkE D.ok (isSt D s) = 0
    case neg =>
      exact path_walk D p q c d s k 0 (fun _ => 0) _ 0 _ n e3 w h1 h2 (by omega)
        (fun V P Q cc dd h => (pathP_er D P Q cc dd s _ V h1 h2 rfl he h).mono fun e w' ⟨he, hb⟩ => ⟨none, 0, he, hb, path_none _ _ rfl _⟩)
        (fun V P Q cc dd h => (pathR_er D P Q cc dd s _ V h1 h2 rfl he h).mono fun e w' ⟨he, hb⟩ => ⟨none, 0, he, hb, path_none _ _ rfl _⟩)
        (fun V P Q cc dd h => paidP_er D P Q cc dd s _ V h1 h2 rfl he h) (fun V P Q cc dd h => paidR_er D P Q cc dd s _ V h1 h2 rfl he h) f1 f2 hi
    obtain ⟨hok, his⟩ := hok_of he
    obtain ⟨j, rfl, hj⟩ := isSt_nat his
    have hlen := path_len (D := D) (s := j) (D.ok_parts hok).1
    exact path_walk D p q c d (j : Int) k (path D j).length (atL (path D j)) 0 (paid D j) 0 n e3 w h1 h2 (by omega)
      (fun V P Q cc dd h => (pathP_ok D P Q cc dd j V hj hok h).mono fun e w' ⟨y, c', h1, h2, h3, _⟩ => ⟨y, c', h1, h2, h3⟩) (fun V P Q cc dd h => pathR_ok D P Q cc dd j V hj hok h)
      (fun V P Q cc dd h => paidP_ok D P Q cc dd j V hj hok h) (fun V P Q cc dd h => paidR_ok D P Q cc dd j V hj hok h) f1 f2 hi
end Go.Proofs.Ytkdlppekjjbgoaa
