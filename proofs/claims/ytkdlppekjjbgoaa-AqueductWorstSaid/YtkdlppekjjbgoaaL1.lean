/- AqueductWorst returns true in every walk. -/
import Derived.Test.YtkdlppekjjbgoaaG12

import Derived.Test.YtkdlppekjjbgoaaG14

import Derived.Test.YtkdlppekjjbgoaaS6

import Derived.Test.YtkdlppekjjbgoaaB1

set_option linter.unusedSimpArgs false

set_option linter.unusedVariables false

namespace Go.Proofs.Ytkdlppekjjbgoaa

open Go.RowKit

set_option maxRecDepth 100000 in
set_option maxHeartbeats 4000000 in
theorem worst_big (D : Duct) (p q : Option Addr) (c d : Nat) (f t : Int) (w : World) (hn : D.n ≤ maxLen) (hm : D.m ≤ maxLen) (hf : (decide (40 < D.n) || decide (40 < D.m)) = true) (hi : DuctIn w w.heap.size D p q) :
    Calls Try.prog 13 #[.agg #[.slice p D.n c, .slice q D.m d], .int .i64 f, .int .i64 t] w fun e w' => e = .returned (.bool true) ∧ Below w.heap.size w w' := by
  have HFAR := Lib.hid (show ∀ (V : World), Calls Try.prog 40 #[.agg #[.slice p D.n c, .slice q D.m d]] V fun e w' => e = .returned (.bool true) ∧ Below V.heap.size V w' from fun V => by
    have := far_any D p q c d V hn hm
    rw [hf] at this
    exact this)
  clear hf
  obtain ⟨w1, x1, ew1, hb1, hl1⟩ := mk_line w p q D.n D.m c d
  have HL1 := Lib.hid hl1; have HI1 := Lib.hid (hi.bel hb1); have HB1 := Lib.hid hb1
  clear hb1 hl1 hi
  have HW_0 : Hid (∀ z : Ext w1, Below w.heap.size w z.v) := fun z => bT HB1.out z.b
  have HI_0 : Hid (∀ z : Ext w1, DuctIn z.v z.v.heap.size D p q) := fun z => HI1.out.bel z.b
  have L0_0 : ∀ z : Ext w1, z.v.cell? ⟨w.heap.size, 0, none⟩ = some (.slice p D.n c) := fun z => (HL1.out.bel z.b).c0
  have L1_0 : ∀ z : Ext w1, z.v.cell? ⟨w.heap.size, 1, none⟩ = some (.slice q D.m d) := fun z => (HL1.out.bel z.b).c1
  go_enter Try.func13, Try.ntmps13
  go_wp2_with fail
  refine (quiet_x (HFAR.out _)).mono ?_
  rintro e w' ⟨rfl, y1, rfl⟩
  go_wp2_with fail
  refine (quiet_x (works_ex _)).mono ?_
  rintro e w' ⟨rfl, y2, rfl⟩
  go_wp2_with fail
  go_ret
  exact ⟨rfl, HW_0.out y2⟩

set_option maxRecDepth 100000 in
set_option maxHeartbeats 8000000 in
theorem worst_walk (D : Duct) (p q : Option Addr) (c d : Nat) (f t m e1 n e2 u v e3 : Int) (w : World) (hn4 : D.n ≤ 40) (hm4 : D.m ≤ 40) (hW1 : ∀ (V : World) (P Q : Option Addr) (cc dd : Nat), DuctIn V V.heap.size D P Q → Calls Try.prog 28 #[.agg #[.slice P D.n cc, .slice Q D.m dd], .int .i64 f, .int .i64 t] V fun e w' => e = .returned (.tuple #[.int .i64 m, .int .i64 e1]) ∧ Below V.heap.size V w') (hW2 : ∀ (V : World) (P Q : Option Addr) (cc dd : Nat), DuctIn V V.heap.size D P Q → Calls Try.prog 49 #[.agg #[.slice P D.n cc, .slice Q D.m dd], .int .i64 f, .int .i64 t] V fun e w' => e = .returned (.tuple #[.int .i64 m, .int .i64 e1]) ∧ Below V.heap.size V w') (hN1 : ∀ (V : World) (P Q : Option Addr) (cc dd : Nat), DuctIn V V.heap.size D P Q → Calls Try.prog 31 #[.agg #[.slice P D.n cc, .slice Q D.m dd], .int .i64 f, .int .i64 t] V fun e w' => e = .returned (.tuple #[.int .i64 n, .int .i64 e2]) ∧ Below V.heap.size V w') (hN2 : ∀ (V : World) (P Q : Option Addr) (cc dd : Nat), DuctIn V V.heap.size D P Q → Calls Try.prog 50 #[.agg #[.slice P D.n cc, .slice Q D.m dd], .int .i64 f, .int .i64 t] V fun e w' => e = .returned (.tuple #[.int .i64 n, .int .i64 e2]) ∧ Below V.heap.size V w') (hA1 : ∀ (V : World) (P Q : Option Addr) (cc dd : Nat), D.m ≤ dd → DuctIn V V.heap.size D P Q → Calls Try.prog 36 #[.agg #[.slice P D.n cc, .slice Q D.m dd], .int .i64 f, .int .i64 t] V fun e w' => e = .returned (.tuple #[.agg #[.int .i64 u, .int .i64 v], .int .i64 e3]) ∧ Below V.heap.size V w') (hA2 : ∀ (V : World) (P Q : Option Addr) (cc dd : Nat), DuctIn V V.heap.size D P Q → Calls Try.prog 51 #[.agg #[.slice P D.n cc, .slice Q D.m dd], .int .i64 f, .int .i64 t] V fun e w' => e = .returned (.tuple #[.agg #[.int .i64 u, .int .i64 v], .int .i64 e3]) ∧ Below V.heap.size V w') (hi : DuctIn w w.heap.size D p q) :
    Calls Try.prog 13 #[.agg #[.slice p D.n c, .slice q D.m d], .int .i64 f, .int .i64 t] w fun e w' => e = .returned (.bool true) ∧ Below w.heap.size w w' := by
  have hn : D.n ≤ maxLen := by unfold maxLen; omega
  have hm : D.m ≤ maxLen := by unfold maxLen; omega
  have hf : (decide (40 < D.n) || decide (40 < D.m)) = false := by simp; omega
  have HFAR := Lib.hid (show ∀ (V : World), Calls Try.prog 40 #[.agg #[.slice p D.n c, .slice q D.m d]] V fun e w' => e = .returned (.bool false) ∧ Below V.heap.size V w' from fun V => by
    have := far_any D p q c d V hn hm
    rw [hf] at this
    exact this)
  clear hf
  have HW1 := Lib.hid hW1
  have HW2 := Lib.hid hW2
  have HN1 := Lib.hid hN1
  have HN2 := Lib.hid hN2
  have HA1 := Lib.hid hA1
  have HA2 := Lib.hid hA2
  clear hW1 hW2 hN1 hN2 hA1 hA2
  have b_m : (m == m) = true := by simp
  have b_e1 : (e1 == e1) = true := by simp
  have b_n : (n == n) = true := by simp
  have b_e2 : (e2 == e2) = true := by simp
  have b_u : (u == u) = true := by simp
  have b_v : (v == v) = true := by simp
  have b_e3 : (e3 == e3) = true := by simp
  obtain ⟨w1, x1, ew1, hb1, hl1⟩ := mk_line w p q D.n D.m c d
  have HL1 := Lib.hid hl1; have HI1 := Lib.hid (hi.bel hb1); have HB1 := Lib.hid hb1
  clear hb1 hl1 hi
  have HW_0 : Hid (∀ z : Ext w1, Below w.heap.size w z.v) := fun z => bT HB1.out z.b
  have HI_0 : Hid (∀ z : Ext w1, DuctIn z.v z.v.heap.size D p q) := fun z => HI1.out.bel z.b
  have L0_0 : ∀ z : Ext w1, z.v.cell? ⟨w.heap.size, 0, none⟩ = some (.slice p D.n c) := fun z => (HL1.out.bel z.b).c0
  have L1_0 : ∀ z : Ext w1, z.v.cell? ⟨w.heap.size, 1, none⟩ = some (.slice q D.m d) := fun z => (HL1.out.bel z.b).c1
  go_enter Try.func13, Try.ntmps13
  go_wp2_with fail
  refine (quiet_x (HFAR.out _)).mono ?_
  rintro e w' ⟨rfl, y1, rfl⟩
  go_wp2_with fail
  refine (copyC_any D p q c d _ hn4 hm4 (HI_0.out _)).mono ?_
  rintro e w' ⟨p', c', q', d', rfl, hcp, hoq, hcc, hdd⟩
  have hcb := hcp.below; have hch := hcp.here
  have HDD := Lib.hid hdd; have HOWN := Lib.hid hcp.own; have HOQ := Lib.hid hoq
  clear hcp hoq hcc hdd
  obtain ⟨yc2, rfl⟩ : ∃ z : Ext w1, w' = z.v := ⟨⟨w', bT y1.b hcb⟩, rfl⟩
  obtain ⟨wo, xo, ewo, bwo, lwo⟩ := mk_line yc2.v p' q' D.n D.m c' d'
  have HBO := Lib.hid (bT yc2.b bwo); have HLO := Lib.hid lwo; have HDO := Lib.hid (hch.bel bwo)
  clear bwo lwo hcb hch
  have HW_1 : Hid (∀ z : Ext wo, Below w.heap.size w z.v) := fun z => HW_0.out (z.up HBO.out)
  have HI_1 : Hid (∀ z : Ext wo, DuctIn z.v z.v.heap.size D p q) := fun z => HI_0.out (z.up HBO.out)
  have L0_1 : ∀ z : Ext wo, z.v.cell? ⟨w.heap.size, 0, none⟩ = some (.slice p D.n c) := fun z => L0_0 (z.up HBO.out)
  have L1_1 : ∀ z : Ext wo, z.v.cell? ⟨w.heap.size, 1, none⟩ = some (.slice q D.m d) := fun z => L1_0 (z.up HBO.out)
  clear HW_0 HI_0 L0_0 L1_0
  have HO_1 : Hid (∀ z : Ext wo, DuctIn z.v z.v.heap.size D p' q') := fun z => HDO.out.bel z.b
  have O0_1 : ∀ z : Ext wo, z.v.cell? ⟨yc2.v.heap.size, 0, none⟩ = some (.slice p' D.n c') := fun z => (HLO.out.bel z.b).c0
  have O1_1 : ∀ z : Ext wo, z.v.cell? ⟨yc2.v.heap.size, 1, none⟩ = some (.slice q' D.m d') := fun z => (HLO.out.bel z.b).c1
  go_wp2_with fail
  refine (quiet_x (HW1.out _ p' q' c' d' (HO_1.out _))).mono ?_
  rintro e w' ⟨rfl, y3, rfl⟩
  go_wp2_with fail
  refine (quiet_x (HW2.out _ p q c d (HI_1.out _))).mono ?_
  rintro e w' ⟨rfl, y4, rfl⟩
  go_wp2_with fail
  refine (quiet_x (HN1.out _ p' q' c' d' (HO_1.out _))).mono ?_
  rintro e w' ⟨rfl, y5, rfl⟩
  go_wp2_with fail
  refine (quiet_x (HN2.out _ p q c d (HI_1.out _))).mono ?_
  rintro e w' ⟨rfl, y6, rfl⟩
  go_wp2_with fail
  refine (quiet_x (HA1.out _ p' q' c' d' HDD.out (HO_1.out _))).mono ?_
  rintro e w' ⟨rfl, y7, rfl⟩
  obtain ⟨wt7, xt7, et7, bt7, zt7, tt7⟩ := mk_two y7 60 u v
  have HBT7 := Lib.hid bt7; have HTT7 := Lib.hid tt7
  clear bt7 tt7 zt7
  have HW_2 : Hid (∀ z : Ext wt7, Below w.heap.size w z.v) := fun z => HW_1.out (z.up HBT7.out)
  have HI_2 : Hid (∀ z : Ext wt7, DuctIn z.v z.v.heap.size D p q) := fun z => HI_1.out (z.up HBT7.out)
  have L0_2 : ∀ z : Ext wt7, z.v.cell? ⟨w.heap.size, 0, none⟩ = some (.slice p D.n c) := fun z => L0_1 (z.up HBT7.out)
  have L1_2 : ∀ z : Ext wt7, z.v.cell? ⟨w.heap.size, 1, none⟩ = some (.slice q D.m d) := fun z => L1_1 (z.up HBT7.out)
  have HO_2 : Hid (∀ z : Ext wt7, DuctIn z.v z.v.heap.size D p' q') := fun z => HO_1.out (z.up HBT7.out)
  have O0_2 : ∀ z : Ext wt7, z.v.cell? ⟨yc2.v.heap.size, 0, none⟩ = some (.slice p' D.n c') := fun z => O0_1 (z.up HBT7.out)
  have O1_2 : ∀ z : Ext wt7, z.v.cell? ⟨yc2.v.heap.size, 1, none⟩ = some (.slice q' D.m d') := fun z => O1_1 (z.up HBT7.out)
  clear HW_1 HI_1 L0_1 L1_1 HO_1 O0_1 O1_1
  have A0_2 : ∀ z : Ext wt7, z.v.cell? ⟨y7.v.heap.size, 0, none⟩ = some (.int .i64 u) := fun z => (HTT7.out.bel z.b).c0
  have A1_2 : ∀ z : Ext wt7, z.v.cell? ⟨y7.v.heap.size, 1, none⟩ = some (.int .i64 v) := fun z => (HTT7.out.bel z.b).c1
  have Af_2 : ∀ z : Ext wt7, ∀ i, z.v.frozen? ⟨y7.v.heap.size, i, none⟩ = false := fun z => (HTT7.out.bel z.b).fz
  go_wp2_with fail
  refine (quiet_x (HA2.out _ p q c d (HI_2.out _))).mono ?_
  rintro e w' ⟨rfl, y8, rfl⟩
  obtain ⟨wt8, xt8, et8, bt8, zt8, tt8⟩ := mk_two y8 60 u v
  have HBT8 := Lib.hid bt8; have HTT8 := Lib.hid tt8
  clear bt8 tt8 zt8
  have HW_3 : Hid (∀ z : Ext wt8, Below w.heap.size w z.v) := fun z => HW_2.out (z.up HBT8.out)
  have HI_3 : Hid (∀ z : Ext wt8, DuctIn z.v z.v.heap.size D p q) := fun z => HI_2.out (z.up HBT8.out)
  have L0_3 : ∀ z : Ext wt8, z.v.cell? ⟨w.heap.size, 0, none⟩ = some (.slice p D.n c) := fun z => L0_2 (z.up HBT8.out)
  have L1_3 : ∀ z : Ext wt8, z.v.cell? ⟨w.heap.size, 1, none⟩ = some (.slice q D.m d) := fun z => L1_2 (z.up HBT8.out)
  have HO_3 : Hid (∀ z : Ext wt8, DuctIn z.v z.v.heap.size D p' q') := fun z => HO_2.out (z.up HBT8.out)
  have O0_3 : ∀ z : Ext wt8, z.v.cell? ⟨yc2.v.heap.size, 0, none⟩ = some (.slice p' D.n c') := fun z => O0_2 (z.up HBT8.out)
  have O1_3 : ∀ z : Ext wt8, z.v.cell? ⟨yc2.v.heap.size, 1, none⟩ = some (.slice q' D.m d') := fun z => O1_2 (z.up HBT8.out)
  have A0_3 : ∀ z : Ext wt8, z.v.cell? ⟨y7.v.heap.size, 0, none⟩ = some (.int .i64 u) := fun z => A0_2 (z.up HBT8.out)
  have A1_3 : ∀ z : Ext wt8, z.v.cell? ⟨y7.v.heap.size, 1, none⟩ = some (.int .i64 v) := fun z => A1_2 (z.up HBT8.out)
  have Af_3 : ∀ z : Ext wt8, ∀ i, z.v.frozen? ⟨y7.v.heap.size, i, none⟩ = false := fun z => Af_2 (z.up HBT8.out)
  clear HW_2 HI_2 L0_2 L1_2 HO_2 O0_2 O1_2 A0_2 A1_2 Af_2
  have B0_3 : ∀ z : Ext wt8, z.v.cell? ⟨y8.v.heap.size, 0, none⟩ = some (.int .i64 u) := fun z => (HTT8.out.bel z.b).c0
  have B1_3 : ∀ z : Ext wt8, z.v.cell? ⟨y8.v.heap.size, 1, none⟩ = some (.int .i64 v) := fun z => (HTT8.out.bel z.b).c1
  have Bf_3 : ∀ z : Ext wt8, ∀ i, z.v.frozen? ⟨y8.v.heap.size, i, none⟩ = false := fun z => (HTT8.out.bel z.b).fz
  go_wp2_with fail
  refine (quiet_x (same_any D p' q' c' d' p q c d _ hn4 hm4 (HO_3.out _) (HI_3.out _))).mono ?_
  rintro e w' ⟨rfl, y9, rfl⟩
  go_wp2_with fail
  refine (quiet_x (works_ex _)).mono ?_
  rintro e w' ⟨rfl, y10, rfl⟩
  go_wp2_with fail
  go_ret
  exact ⟨rfl, HW_3.out y10⟩

theorem worst_law (D : Duct) (p q : Option Addr) (c d : Nat) (f t : Int) (w : World) (hn : D.n ≤ maxLen) (hm : D.m ≤ maxLen) (hi : DuctIn w w.heap.size D p q) :
    Calls Try.prog 13 #[.agg #[.slice p D.n c, .slice q D.m d], .int .i64 f, .int .i64 t] w fun e w' => e = .returned (.bool true) ∧ Below w.heap.size w w' := by
  cases hf : (decide (40 < D.n) || decide (40 < D.m)) with
  | true => exact worst_big D p q c d f t w hn hm hf hi
  | false =>
    have h : D.n ≤ 40 ∧ D.m ≤ 40 := by simpa using hf
    obtain ⟨h1, h2⟩ := h
    by_cases he : chkE D.ok (areS D f t) = 0
    case neg =>
      obtain ⟨er, hE⟩ : ∃ e, chkE D.ok (areS D f t) = e := ⟨_, rfl⟩
      have h0 : er ≠ 0 := by rw [← hE]; exact he
      exact worst_walk D p q c d f t 0 er 0 er 0 0 er w h1 h2 (fun V P Q cc dd h => worstP_er D P Q cc dd f t er V h1 h2 h hE h0) (fun V P Q cc dd h => worstR_er D P Q cc dd f t er V h1 h2 hE h0 h)
        (fun V P Q cc dd h => nextP_er D P Q cc dd f t er V h1 h2 h hE h0) (fun V P Q cc dd h => nextR_er D P Q cc dd f t er V h1 h2 hE h0 h)
        (fun V P Q cc dd _ h => averageP_er D P Q cc dd f t er V h1 h2 hE h0 h) (fun V P Q cc dd h => averageR_er D P Q cc dd f t er V h1 h2 hE h0 h) hi
    have hok : D.ok = true := by
      cases ho : D.ok with
      | true => rfl
      | false => rw [ho] at he; exact absurd (show (60 : Int) = 0 from he) (by decide)
    have hs : areS D f t = true := by
      cases ho : areS D f t with
      | true => rfl
      | false => rw [hok, ho] at he; exact absurd he (by decide)
    obtain ⟨a, b, rfl, rfl, hab, hbm⟩ := areS_nat hs
    by_cases h3 : b = a + 1
    · exact worst_walk D p q c d (a : Int) (b : Int) (WW D a b) 0 0 3 (avN D a b) (avD D a b) 0 w h1 h2 (fun V P Q cc dd h => worstP_ok D P Q cc dd a b V hab hbm h1 hok h) (fun V P Q cc dd h => worstR_ok D P Q cc dd a b V hab hbm hok h)
        (fun V P Q cc dd h => nextP_one D P Q cc dd a b V h3 hbm h1 hok h) (fun V P Q cc dd h => nextR_one D P Q cc dd a b V h3 hbm hok h)
        (fun V P Q cc dd hd h => averageP_ok D P Q cc dd a b V hab hbm h1 hok hd h) (fun V P Q cc dd h => averageR_ok D P Q cc dd a b V hab hbm h1 hok h) hi
    · exact worst_walk D p q c d (a : Int) (b : Int) (WW D a b) 0 (NX D a b) 0 (avN D a b) (avD D a b) 0 w h1 h2 (fun V P Q cc dd h => worstP_ok D P Q cc dd a b V hab hbm h1 hok h) (fun V P Q cc dd h => worstR_ok D P Q cc dd a b V hab hbm hok h)
        (fun V P Q cc dd h => nextP_ok D P Q cc dd a b V (by omega) hbm h1 hok h) (fun V P Q cc dd h => nextR_ok D P Q cc dd a b V (by omega) hbm hok h)
        (fun V P Q cc dd hd h => averageP_ok D P Q cc dd a b V hab hbm h1 hok hd h) (fun V P Q cc dd h => averageR_ok D P Q cc dd a b V hab hbm h1 hok h) hi
end Go.Proofs.Ytkdlppekjjbgoaa
