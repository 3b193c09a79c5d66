/- MouthsBack returns true in every walk. -/
import Derived.Test.YthbicbmlbblflaaC22

import Derived.Test.YthbicbmlbblflaaD2

set_option linter.unusedSimpArgs false

set_option linter.unusedVariables false

namespace Go.Proofs.Ythbicbmlbblflaa

open Go.RowKit

set_option maxRecDepth 100000 in
set_option maxHeartbeats 8000000 in
theorem back_out1 (D : Bx) (p q : Option Addr) (c d : Nat) (a1 a2 a3 a4 : Int) (w : World) (hn : D.n ≤ maxLen) (hm : D.m ≤ maxLen) (hi : BxIn w w.heap.size D p q) (hr : rdy D a2 = false) :
    Calls Try.prog 14 #[.agg #[.slice p D.n c, .slice q D.m d], .agg #[.int .i64 a1, .int .i64 a2, .int .i64 a3, .int .i64 a4]] w fun e w' => e = .returned (.bool true) ∧ Below w.heap.size w w' := by
  obtain ⟨w1, x1, w2, x2, hw1, hw2, hb, hz, hB, hA, hI⟩ := start_ba D p q c d a1 a2 a3 a4 w hi
  have HB := Lib.hid hb; have HI := Lib.hid hI
  have F0 := fun y => (hB y).c0; have F1 := fun y => (hB y).c1
  have A0 := fun y => (hA y).c0
  have A1 := fun y => (hA y).c1
  have A2 := fun y => (hA y).c2
  have A3 := fun y => (hA y).c3
  have HR := Lib.hid hr; clear hr
  clear hb hz hB hA hI hi
  go_enter Try.func14, Try.ntmps14
  go_wp2_with fail
  refine (quiet_x (ready_is HR.out hn hm (HI.out _))).mono ?_
  rintro e w' ⟨rfl, y, rfl⟩
  go_wp2_with fail
  refine (quiet_x (works_ex _)).mono ?_
  rintro e w' ⟨rfl, y2, rfl⟩
  go_wp2
  go_ret
  exact ⟨rfl, bT HB.out y2.b⟩
set_option maxRecDepth 100000 in
set_option maxHeartbeats 8000000 in
theorem back_out2 (D : Bx) (p q : Option Addr) (c d : Nat) (a1 a2 a3 a4 : Int) (w : World) (hn : D.n ≤ maxLen) (hm : D.m ≤ maxLen) (hi : BxIn w w.heap.size D p q) (hr : rdy D a2 = true) (hq : isQ D a1 = false) :
    Calls Try.prog 14 #[.agg #[.slice p D.n c, .slice q D.m d], .agg #[.int .i64 a1, .int .i64 a2, .int .i64 a3, .int .i64 a4]] w fun e w' => e = .returned (.bool true) ∧ Below w.heap.size w w' := by
  obtain ⟨w1, x1, w2, x2, hw1, hw2, hb, hz, hB, hA, hI⟩ := start_ba D p q c d a1 a2 a3 a4 w hi
  have HB := Lib.hid hb; have HI := Lib.hid hI
  have F0 := fun y => (hB y).c0; have F1 := fun y => (hB y).c1
  have A0 := fun y => (hA y).c0
  have A1 := fun y => (hA y).c1
  have A2 := fun y => (hA y).c2
  have A3 := fun y => (hA y).c3
  have HR := Lib.hid hr; clear hr
  obtain ⟨n4, m4, _, _⟩ := rdy_parts HR.out
  have HQ := Lib.hid hq; clear hq
  clear hb hz hB hA hI hi
  go_enter Try.func14, Try.ntmps14
  go_wp2_with fail
  refine (quiet_x (ready_is HR.out hn hm (HI.out _))).mono ?_
  rintro e w' ⟨rfl, y, rfl⟩
  go_wp2_with fail
  refine (quiet_x (isQR_is HQ.out n4)).mono ?_
  rintro e w' ⟨rfl, y1, rfl⟩
  go_wp2_with fail
  refine (quiet_x (works_ex _)).mono ?_
  rintro e w' ⟨rfl, y2, rfl⟩
  go_wp2
  go_ret
  exact ⟨rfl, bT HB.out y2.b⟩
set_option maxRecDepth 100000 in
set_option maxHeartbeats 8000000 in
theorem back_out3 (D : Bx) (p q : Option Addr) (c d : Nat) (a1 a2 a3 a4 : Int) (w : World) (hn : D.n ≤ maxLen) (hm : D.m ≤ maxLen) (hi : BxIn w w.heap.size D p q) (hr : rdy D a2 = true) (hq : isQ D a1 = true) (hg : within a4 1 20 = false) :
    Calls Try.prog 14 #[.agg #[.slice p D.n c, .slice q D.m d], .agg #[.int .i64 a1, .int .i64 a2, .int .i64 a3, .int .i64 a4]] w fun e w' => e = .returned (.bool true) ∧ Below w.heap.size w w' := by
  obtain ⟨w1, x1, w2, x2, hw1, hw2, hb, hz, hB, hA, hI⟩ := start_ba D p q c d a1 a2 a3 a4 w hi
  have HB := Lib.hid hb; have HI := Lib.hid hI
  have F0 := fun y => (hB y).c0; have F1 := fun y => (hB y).c1
  have A0 := fun y => (hA y).c0
  have A1 := fun y => (hA y).c1
  have A2 := fun y => (hA y).c2
  have A3 := fun y => (hA y).c3
  have HR := Lib.hid hr; clear hr
  obtain ⟨n4, m4, _, _⟩ := rdy_parts HR.out
  have HQ := Lib.hid hq; clear hq
  have HGG := Lib.hid (show ∀ V : World, Calls Try.prog 57 #[.int .i64 a4] V fun e w' => e = .returned (.bool false) ∧ V = w' from fun V => by
    have := isGaugesR_any a4 V
    rw [hg] at this
    exact this)
  clear hg
  clear hb hz hB hA hI hi
  go_enter Try.func14, Try.ntmps14
  go_wp2_with fail
  refine (quiet_x (ready_is HR.out hn hm (HI.out _))).mono ?_
  rintro e w' ⟨rfl, y, rfl⟩
  go_wp2_with fail
  refine (quiet_x (isQR_is HQ.out n4)).mono ?_
  rintro e w' ⟨rfl, y1, rfl⟩
  go_wp2_with fail
  refine (HGG.out _).mono ?_
  rintro e w' ⟨rfl, rfl⟩
  go_wp2_with fail
  refine (quiet_x (works_ex _)).mono ?_
  rintro e w' ⟨rfl, y2, rfl⟩
  go_wp2
  go_ret
  exact ⟨rfl, bT HB.out y2.b⟩
set_option maxRecDepth 100000 in
set_option maxHeartbeats 30000000 in
theorem back_none_none (D : Bx) (p q : Option Addr) (c d A F G S : Nat) (a3 : Int) (w : World) (hi : BxIn w w.heap.size D p q) (hr : rdy D (F : Int) = true) (hok : D.ok = true) (hF : F ≤ 40) (hA : A < D.n) (hG : 0 < G ∧ G ≤ 20) (hf : fsN (hasB D A G) 41 = none) (hS : fsN (needB D A F G) 21 = none) (hS21 : S = 21) (hS1 : 1 ≤ S ∧ S ≤ 21) (hSn : ∀ u, u + 1 = S → needB D A F G u = false) (hSy : S ≤ 20 → needB D A F G S = true) :
    Calls Try.prog 14 #[.agg #[.slice p D.n c, .slice q D.m d], .agg #[.int .i64 (A : Int), .int .i64 (F : Int), .int .i64 a3, .int .i64 (G : Int)]] w fun e w' => e = .returned (.bool true) ∧ Below w.heap.size w w' := by
  obtain ⟨w1, x1, w2, x2, hw1, hw2, hb, hz, hB, hA', hI⟩ := start_ba D p q c d (A : Int) (F : Int) a3 (G : Int) w hi
  obtain ⟨n4, m4, _, _⟩ := rdy_parts hr
  obtain ⟨o1, o2, o3, o4⟩ := Bx.ok_parts hok
  have hn : D.n ≤ maxLen := by unfold maxLen; omega
  have hm : D.m ≤ maxLen := by unfold maxLen; omega
  have HB := Lib.hid hb; have HI_0 := Lib.hid hI; have HR := Lib.hid hr; have HOK := Lib.hid hok
  have HBX_0 := Lib.hid hB; have HAX_0 := Lib.hid hA'
  have HMN := Lib.hid o2
  have HQ := Lib.hid (show isQ D (A : Int) = true from isQ_iff.2 ⟨by omega, by omega⟩)
  have HSN := Lib.hid hSn; have HSY := Lib.hid hSy
  have HGG := Lib.hid (show ∀ V : World, Calls Try.prog 57 #[.int .i64 (G : Int)] V fun e w' => e = .returned (.bool true) ∧ V = w' from fun V => by
    have := isGaugesR_any (G : Int) V
    rw [within_tt (by omega) (by omega)] at this
    exact this)
  have HFR := Lib.hid (show ∀ (V : World) (p' q' : Option Addr) (c' d' : Nat), BxIn V V.heap.size D p' q' → Calls Try.prog 28 #[.agg #[.slice p' D.n c', .slice q' D.m d'], .int .i64 (A : Int), .int .i64 (G : Int)] V fun e w' => e = .returned (.tuple #[.int .i64 0, .int .i64 3]) ∧ Below V.heap.size V w' from fun V p' q' c' d' h => by
    have := fromP_ok D p' q' c' d' A G V hok hA hG h
    rw [hf] at this
    exact this)
  have jl : decide ((G : Int) ≤ gv D 40 A) = false := from_none hf
  clear hf
  have HND := Lib.hid (show ∀ (V : World) (p' q' : Option Addr) (c' d' : Nat), BxIn V V.heap.size D p' q' → Calls Try.prog 33 #[.agg #[.slice p' D.n c', .slice q' D.m d'], .int .i64 (A : Int), .int .i64 (F : Int), .int .i64 (G : Int)] V fun e w' => e = .returned (.tuple #[.int .i64 0, .int .i64 3]) ∧ Below V.heap.size V w' from fun V p' q' c' d' h => by
    have := needP_ok D p' q' c' d' A F G V hok hA hF hG h
    rw [hS] at this
    exact this)
  have HK1 := Lib.hid (show ∀ V : World, Calls Try.prog 48 #[.int .i64 3] V fun e w' => e = .returned (.bool true) ∧ V = w' from fun V => isKnown_any 3 V)
  have HK2 := Lib.hid (show ∀ V : World, Calls Try.prog 48 #[.int .i64 3] V fun e w' => e = .returned (.bool true) ∧ V = w' from fun V => isKnown_any 3 V)
  clear hS hSn hSy hI hB hA' hb hz hi hr hok o2 o3 o4
  obtain ⟨b1, of1, rfl, _, _⟩ := (HI_0.out x2).s (by omega)
  obtain ⟨b2, of2, rfl, _, _⟩ := (HI_0.out x2).o (by have := HMN.out; omega)
  have F0_0 : ∀ z : Ext w2, z.v.cell? ⟨w.heap.size, 0, none⟩ = some (.slice (some ⟨b1, of1, none⟩) D.n c) := fun z => (HBX_0.out z).c0
  have F1_0 : ∀ z : Ext w2, z.v.cell? ⟨w.heap.size, 1, none⟩ = some (.slice (some ⟨b2, of2, none⟩) D.m d) := fun z => (HBX_0.out z).c1
  have A0_0 : ∀ z : Ext w2, z.v.cell? ⟨x1.v.heap.size, 0, none⟩ = some (.int .i64 (A : Int)) := fun z => (HAX_0.out z).c0
  have A1_0 : ∀ z : Ext w2, z.v.cell? ⟨x1.v.heap.size, 1, none⟩ = some (.int .i64 (F : Int)) := fun z => (HAX_0.out z).c1
  have A2_0 : ∀ z : Ext w2, z.v.cell? ⟨x1.v.heap.size, 2, none⟩ = some (.int .i64 a3) := fun z => (HAX_0.out z).c2
  have A3_0 : ∀ z : Ext w2, z.v.cell? ⟨x1.v.heap.size, 3, none⟩ = some (.int .i64 (G : Int)) := fun z => (HAX_0.out z).c3
  have HW_0 : Hid (∀ z : Ext w2, Below w.heap.size w z.v) := fun z => bT HB.out z.b
  have hAn : (A : Int) < (D.n : Int) := by omega
  go_enter Try.func14, Try.ntmps14
  go_wp2_with fail
  refine (quiet_x (ready_is HR.out hn hm (HI_0.out _))).mono ?_
  rintro e w' ⟨rfl, y, rfl⟩
  go_wp2_with fail
  refine (quiet_x (isQR_is HQ.out n4)).mono ?_
  rintro e w' ⟨rfl, y1, rfl⟩
  go_wp2_with fail
  refine (HGG.out _).mono ?_
  rintro e w' ⟨rfl, rfl⟩
  go_wp2_with fail
  refine (quiet_x (HFR.out _ _ _ _ _ (HI_0.out _))).mono ?_
  rintro e w' ⟨rfl, y2, rfl⟩
  go_wp2_with fail
  refine (gaugesL_any D (some ⟨b1, of1, none⟩) (some ⟨b2, of2, none⟩) c d 40 _ HOK.out (by omega) (HI_0.out _)).mono ?_
  rintro e wl ⟨gl, glc, rfl, hcgl⟩
  have HXwl := Lib.hid (bT y2.b hcgl.below); have HNgl0 := Lib.hid hcgl.num
  obtain ⟨zwl, hzwl⟩ := rebase wl
  clear hcgl
  have HI_1 : Hid (∀ z : Ext wl, BxIn z.v z.v.heap.size D (some ⟨b1, of1, none⟩) (some ⟨b2, of2, none⟩)) := fun z => HI_0.out (z.up HXwl.out)
  have HBX_1 : Hid (∀ z : Ext wl, BoxAt z.v w.heap.size D (some ⟨b1, of1, none⟩) (some ⟨b2, of2, none⟩) c d) := fun z => HBX_0.out (z.up HXwl.out)
  have HAX_1 : Hid (∀ z : Ext wl, AskAt z.v x1.v.heap.size (A : Int) (F : Int) a3 (G : Int)) := fun z => HAX_0.out (z.up HXwl.out)
  have F0_1 : ∀ z : Ext wl, z.v.cell? ⟨w.heap.size, 0, none⟩ = some (.slice (some ⟨b1, of1, none⟩) D.n c) := fun z => F0_0 (z.up HXwl.out)
  have F1_1 : ∀ z : Ext wl, z.v.cell? ⟨w.heap.size, 1, none⟩ = some (.slice (some ⟨b2, of2, none⟩) D.m d) := fun z => F1_0 (z.up HXwl.out)
  have A0_1 : ∀ z : Ext wl, z.v.cell? ⟨x1.v.heap.size, 0, none⟩ = some (.int .i64 (A : Int)) := fun z => A0_0 (z.up HXwl.out)
  have A1_1 : ∀ z : Ext wl, z.v.cell? ⟨x1.v.heap.size, 1, none⟩ = some (.int .i64 (F : Int)) := fun z => A1_0 (z.up HXwl.out)
  have A2_1 : ∀ z : Ext wl, z.v.cell? ⟨x1.v.heap.size, 2, none⟩ = some (.int .i64 a3) := fun z => A2_0 (z.up HXwl.out)
  have A3_1 : ∀ z : Ext wl, z.v.cell? ⟨x1.v.heap.size, 3, none⟩ = some (.int .i64 (G : Int)) := fun z => A3_0 (z.up HXwl.out)
  have HW_1 : Hid (∀ z : Ext wl, Below w.heap.size w z.v) := fun z => HW_0.out (z.up HXwl.out)
  clear HI_0 HBX_0 HAX_0 F0_0 F1_0 A0_0 A1_0 A2_0 A3_0 HW_0
  have Ngl_1 : Hid (∀ z : Ext wl, NumIn z.v z.v.heap.size D.n (gv D 40) gl) := fun z => HNgl0.out.bel z.b
  rw [hzwl]; clear hzwl
  clear hw1 hw2
  obtain ⟨gl0, glo, rfl, _, _⟩ := Ngl_1.out zwl (by omega)
  have L1 : ∀ z : Ext wl, z.v.cell? ⟨gl0, glo + A, none⟩ = some (.int .i64 (gv D 40 A)) := fun z => ((Ngl_1.out z).cell hA).2
  go_wp2
  refine quiet_e (by kernel_rfl) (by kernel_rfl) ?_
  repeat (first | go_big_quiet_step ((first | (go_at_call 48; exact quiet_s (HK1.out _)))) | quiet_step ((first | (go_at_call 48; exact quiet_s (HK1.out _)))))
  refine wpQuiet_nil ?_
  intro w6 hw6
  obtain ⟨y3, rfl⟩ := hw6
  clear L1 jl
  go_wp2_with fail
  refine (quiet_x (HND.out _ _ _ _ _ (HI_1.out _))).mono ?_
  rintro e w' ⟨rfl, y6, rfl⟩
  go_wp2_with fail
  refine (HK2.out _).mono ?_
  rintro e w' ⟨rfl, rfl⟩
  subst hS21
  have js1 : IntKind.i64.wrap (21 - 1) = 20 := by decide
  go_wp2
  go_loopw [15] (fun i wr => ∃ u : Nat, i = .int .i64 (u : Int) ∧ 21 - 1 ≤ u ∧ u ≤ 20 + 1 ∧ ∃ z : Ext wl, wr = z.v) (fun i _ => 20 + 1 - (intOf i).toNat)
  case atStart => exact ⟨21 - 1, by first | rfl | (simp; done), Nat.le_refl _, by omega, y6, rfl⟩
  case round =>
    obtain ⟨u, rfl, hu1, hu2, z, rfl⟩ := hrel
    by_cases hlt : u ≤ 20
    · have hum : (u : Int) ≤ 20 := by omega
      have hoks := Bx.setSh_ok HOK.out A (v := (u : Int)) ⟨by omega, by omega⟩
      have HGL := Lib.hid (show ∀ (V : World) (p' q' : Option Addr) (c' d' : Nat), BxIn V V.heap.size (D.setSh A (u : Int)) p' q' → Calls Try.prog 47 #[.agg #[.slice p' D.n c', .slice q' D.m d'], .int .i64 (F : Int)] V fun e w' => ∃ y c', e = .returned (.tuple #[.slice y D.n c', .bool true]) ∧ New V w' D.n (gv (D.setSh A (u : Int)) F) y from
        fun V p' q' c' d' h => gaugesL_any (D.setSh A (u : Int)) p' q' c' d' F V hoks hF h)
      obtain ⟨gg, hgg⟩ : ∃ gg, gv (D.setSh A (u : Int)) F = gg := ⟨_, rfl⟩
      have hnb : needB D A F G u = decide ((G : Int) ≤ gg A) := by unfold needB; rw [hgg]
      rw [hgg] at HGL
      have HNB := Lib.hid hnb
      clear hoks hgg hnb
      go_wp2
      refine wp_region_lastE 12 (by kernel_rfl) rfl (fun ys => ?_)
      refine wpAnyG_take (i := 0) (v := ?_) (by kernel_rfl) rfl (by kernel_rfl) (by kernel_rfl) (by kernel_rfl) (fun _ _ _ h => h) (Or.inl ⟨by rfl, ?_⟩) ⟨_, rfl⟩ ?_
      rotate_left
      · rintro wS ⟨yS, rfl⟩
        go_simp
        try (with_reducible rfl)
      try simp only [Act.put, List.setIfInBounds_toArray, List.set_cons_zero, List.set_cons_succ]
      refine wpAnyG_take (i := 1) (v := ?_) (by kernel_rfl) rfl (by kernel_rfl) (by kernel_rfl) (by kernel_rfl) (fun _ _ _ h => h) (Or.inl ⟨by rfl, ?_⟩) ⟨_, rfl⟩ ?_
      rotate_left
      · rintro wS ⟨yS, rfl⟩
        go_simp
        try (with_reducible rfl)
      try simp only [Act.put, List.setIfInBounds_toArray, List.set_cons_zero, List.set_cons_succ]
      refine wpAnyG_take (i := 2) (v := ?_) (by kernel_rfl) rfl (by kernel_rfl) (by kernel_rfl) (by kernel_rfl) (fun _ _ _ h => h) (Or.inl ⟨by rfl, ?_⟩) ⟨_, rfl⟩ ?_
      rotate_left
      · rintro wS ⟨yS, rfl⟩
        go_simp
        try (with_reducible rfl)
      try simp only [Act.put, List.setIfInBounds_toArray, List.set_cons_zero, List.set_cons_succ]
      refine wpAnyG_take (i := 3) (v := ?_) (by kernel_rfl) rfl (by kernel_rfl) (by kernel_rfl) (by kernel_rfl) (fun _ _ _ h => h) (Or.inl ⟨by rfl, ?_⟩) ⟨_, rfl⟩ ?_
      rotate_left
      · rintro wS ⟨yS, rfl⟩
        go_simp
        try (with_reducible rfl)
      try simp only [Act.put, List.setIfInBounds_toArray, List.set_cons_zero, List.set_cons_succ]
      refine wpAnyG_take (i := 5) (v := ?_) (by kernel_rfl) rfl (by kernel_rfl) (by kernel_rfl) (by kernel_rfl) (fun _ _ _ h => h) (Or.inl ⟨by rfl, ?_⟩) ⟨_, rfl⟩ ?_
      rotate_left
      · rintro wS ⟨yS, rfl⟩
        go_simp
        try (with_reducible rfl)
      try simp only [Act.put, List.setIfInBounds_toArray, List.set_cons_zero, List.set_cons_succ]
      refine wpAnyG_take (i := 6) (v := ?_) (by kernel_rfl) rfl (by kernel_rfl) (by kernel_rfl) (by kernel_rfl) (fun _ _ _ h => h) (Or.inl ⟨by rfl, ?_⟩) ⟨_, rfl⟩ ?_
      rotate_left
      · rintro wS ⟨yS, rfl⟩
        go_simp
        try (with_reducible rfl)
      try simp only [Act.put, List.setIfInBounds_toArray, List.set_cons_zero, List.set_cons_succ]
      refine wpAnyG_one (i := 4) (by kernel_rfl) (by decide) (wpOp_plain rfl rfl ?_)
      go_simp
      go_at_call 53
      refine (shared_any D (some ⟨b1, of1, none⟩) (some ⟨b2, of2, none⟩) c d A (u : Int) _ n4 HMN.out hA (HI_1.out _)).mono ?_
      rintro e w' ⟨p', c', q', d', rfl, hbs, hin⟩
      obtain ⟨yt, rfl⟩ : ∃ zz : Ext wl, w' = zz.v := ⟨⟨_, bT (Ext.b _) hbs⟩, rfl⟩
      have HIN := Lib.hid hin
      clear hbs hin
      refine ⟨⟨_, rfl⟩, ?_⟩
      try simp only [Act.put, List.setIfInBounds_toArray, List.set_cons_zero, List.set_cons_succ]
      refine wpAnyG_one (i := 7) (by kernel_rfl) (by decide) (wpOp_plain rfl rfl ?_)
      go_simp
      go_at_call 47
      refine (HGL.out _ p' q' c' d' HIN.out).mono ?_
      rintro e w' ⟨yg, yc, rfl, hcg⟩
      obtain ⟨yu, hyu⟩ : ∃ zz : Ext wl, w' = zz.v := ⟨⟨_, bT yt.b hcg.below⟩, rfl⟩
      have hng := hcg.num
      rw [hyu] at hng ⊢
      have HNG : Hid (∀ z : Ext yu.v, NumIn z.v z.v.heap.size D.n gg yg) := fun z => hng.bel z.b
      clear hcg hng hyu
      refine ⟨⟨_, rfl⟩, ?_⟩
      try simp only [Act.put, List.setIfInBounds_toArray, List.set_cons_zero, List.set_cons_succ]
      refine wpAnyG_take (i := 8) (v := ?_) (by kernel_rfl) rfl (by kernel_rfl) (by kernel_rfl) (by kernel_rfl) (fun _ _ _ h => h) (Or.inl ⟨by rfl, ?_⟩) ⟨_, rfl⟩ ?_
      rotate_left
      · rintro wS ⟨yS, rfl⟩
        go_simp
        try (with_reducible rfl)
      try simp only [Act.put, List.setIfInBounds_toArray, List.set_cons_zero, List.set_cons_succ]
      refine wpAnyG_take (i := 9) (v := ?_) (by kernel_rfl) rfl (by kernel_rfl) (by kernel_rfl) (by kernel_rfl) (fun _ _ _ h => h) (Or.inl ⟨by rfl, ?_⟩) ⟨_, rfl⟩ ?_
      rotate_left
      · rintro wS ⟨yS, rfl⟩
        go_simp
        try (with_reducible rfl)
      try simp only [Act.put, List.setIfInBounds_toArray, List.set_cons_zero, List.set_cons_succ]
      refine wpAnyG_take (i := 10) (v := ?_) (by kernel_rfl) rfl (by kernel_rfl) (by kernel_rfl) (by kernel_rfl) (fun _ _ _ h => h) (Or.inl ⟨by rfl, ?_⟩) ⟨_, rfl⟩ ?_
      rotate_left
      · rintro wS ⟨yS, rfl⟩
        go_simp
        try (with_reducible rfl)
      try simp only [Act.put, List.setIfInBounds_toArray, List.set_cons_zero, List.set_cons_succ]
      refine wpAnyG_take (i := 11) (v := ?_) (by kernel_rfl) rfl (by kernel_rfl) (by kernel_rfl) (by kernel_rfl) (fun _ _ _ h => h) (Or.inl ⟨by rfl, ?_⟩) ⟨_, rfl⟩ ?_
      rotate_left
      · rintro wS ⟨yS, rfl⟩
        go_simp
        try (with_reducible rfl)
      try simp only [Act.put, List.setIfInBounds_toArray, List.set_cons_zero, List.set_cons_succ]
      refine wpAnyG_done (by kernel_rfl) (by kernel_rfl) (wpOp_plain rfl rfl ?_)
      go_simp
      obtain ⟨g0, go, rfl, _, _⟩ := HNG.out ⟨yu.v, Below.refl _ _⟩ (by omega)
      have K0 : ∀ z : Ext yu.v, z.v.cell? ⟨g0, go + A, none⟩ = some (.int .i64 (gg A)) := fun z => ((HNG.out z).cell hA).2
      have KA0 : ∀ z : Ext yu.v, z.v.cell? ⟨x1.v.heap.size, 0, none⟩ = some (.int .i64 (A : Int)) := fun z => A0_1 (z.up yu.b)
      have KA3 : ∀ z : Ext yu.v, z.v.cell? ⟨x1.v.heap.size, 3, none⟩ = some (.int .i64 (G : Int)) := fun z => A3_1 (z.up yu.b)
      obtain ⟨zu, hzu⟩ := rebase yu.v
      rw [hzu]
      clear hzu
      by_cases hus : u = 21
      · have jge : decide ((G : Int) ≤ gg A) = true := by rw [← HNB.out, hus]; exact HSY.out (by omega)
        have jeq : ((u : Int) == 21) = true := by simp; omega
        clear hus
        go_wp2
        refine quiet_e (by kernel_rfl) (by kernel_rfl) ?_
        repeat (first | go_big_quiet_step (fail) | quiet_step (fail))
        refine wpQuiet_nil ?_
        intro w6 hw6
        obtain ⟨y8, rfl⟩ := hw6
        go_wp2
        go_roundw
        case rel => exact ⟨u + 1, by go_num, by omega, by omega, ⟨y8.v, bT yu.b y8.b⟩, rfl⟩
        case measure => first | (simp [intOf]; done) | (simp [intOf]; omega)
      · have jge : decide ((G : Int) ≤ gg A) = false := by rw [← HNB.out]; exact HSN.out u (by omega)
        have jeq : ((u : Int) == 21) = false := by simp; omega
        clear hus
        go_wp2
        refine quiet_e (by kernel_rfl) (by kernel_rfl) ?_
        repeat (first | go_big_quiet_step (fail) | quiet_step (fail))
        refine wpQuiet_nil ?_
        intro w6 hw6
        obtain ⟨y8, rfl⟩ := hw6
        go_wp2
        go_roundw
        case rel => exact ⟨u + 1, by go_num, by omega, by omega, ⟨y8.v, bT yu.b y8.b⟩, rfl⟩
        case measure => first | (simp [intOf]; done) | (simp [intOf]; omega)
    · have jle : decide ((u : Int) ≤ 20) = false := by simp; omega
      have jle2 : ¬ (u : Int) ≤ 20 := by omega
      cases hwi : within a3 0 40 with
      | false =>
        have HWI := Lib.hid (show ∀ V' : World, Calls Try.prog 58 #[.int .i64 a3] V' fun e w' => e = .returned (.bool false) ∧ V' = w' from fun V' => by
          have := isFlowR_any a3 V'
          rw [hwi] at this
          exact this)
        clear hwi
        go_wp2_with fail
        refine (HWI.out _).mono ?_
        rintro e w' ⟨rfl, rfl⟩
        go_wp2_with fail
        refine (quiet_x (works_ex _)).mono ?_
        rintro e w' ⟨rfl, y9, rfl⟩
        go_wp2
        go_ret
        exact ⟨rfl, HW_1.out y9⟩
      | true =>
        have HWI := Lib.hid (show ∀ V' : World, Calls Try.prog 58 #[.int .i64 a3] V' fun e w' => e = .returned (.bool true) ∧ V' = w' from fun V' => by
          have := isFlowR_any a3 V'
          rw [hwi] at this
          exact this)
        have hHb := within_iff.1 hwi
        obtain ⟨H, rfl⟩ : ∃ H : Nat, a3 = (H : Int) := ⟨a3.toNat, by omega⟩
        have hH40 : H ≤ 40 := by omega
        clear hwi hHb
        by_cases hfh : F ≤ H
        · have jfh : decide ((H : Int) < (F : Int)) = false := by simp; omega
          have jfh2 : ¬ H < F := by omega
          go_wp2_with fail
          refine (HWI.out _).mono ?_
          rintro e w' ⟨rfl, rfl⟩
          clear A0_1
          clear A3_1
          go_wp2_with fail
          refine (betweenP_ok D (some ⟨b1, of1, none⟩) (some ⟨b2, of2, none⟩) c d F H _ HOK.out hfh hH40 (HI_1.out _)).mono ?_
          rintro e ws ⟨gs, gsc, rfl, hbs, hps⟩
          have HXws := Lib.hid (bT z.b hbs); have HPS0 := Lib.hid hps
          obtain ⟨zws, hzws⟩ := rebase ws
          clear hbs hps
          have HI_2 : Hid (∀ z : Ext ws, BxIn z.v z.v.heap.size D (some ⟨b1, of1, none⟩) (some ⟨b2, of2, none⟩)) := fun z => HI_1.out (z.up HXws.out)
          have HBX_2 : Hid (∀ z : Ext ws, BoxAt z.v w.heap.size D (some ⟨b1, of1, none⟩) (some ⟨b2, of2, none⟩) c d) := fun z => HBX_1.out (z.up HXws.out)
          have HAX_2 : Hid (∀ z : Ext ws, AskAt z.v x1.v.heap.size (A : Int) (F : Int) (H : Int) (G : Int)) := fun z => HAX_1.out (z.up HXws.out)
          have F0_2 : ∀ z : Ext ws, z.v.cell? ⟨w.heap.size, 0, none⟩ = some (.slice (some ⟨b1, of1, none⟩) D.n c) := fun z => F0_1 (z.up HXws.out)
          have F1_2 : ∀ z : Ext ws, z.v.cell? ⟨w.heap.size, 1, none⟩ = some (.slice (some ⟨b2, of2, none⟩) D.m d) := fun z => F1_1 (z.up HXws.out)
          have A1_2 : ∀ z : Ext ws, z.v.cell? ⟨x1.v.heap.size, 1, none⟩ = some (.int .i64 (F : Int)) := fun z => A1_1 (z.up HXws.out)
          have A2_2 : ∀ z : Ext ws, z.v.cell? ⟨x1.v.heap.size, 2, none⟩ = some (.int .i64 (H : Int)) := fun z => A2_1 (z.up HXws.out)
          have HW_2 : Hid (∀ z : Ext ws, Below w.heap.size w z.v) := fun z => HW_1.out (z.up HXws.out)
          have Ngl_2 : Hid (∀ z : Ext ws, NumIn z.v z.v.heap.size D.n (gv D 40) (some ⟨gl0, glo, none⟩)) := fun z => Ngl_1.out (z.up HXws.out)
          clear HI_1 HBX_1 HAX_1 F0_1 F1_1 A1_1 A2_1 HW_1 Ngl_1
          have Pgs_2 : Hid (∀ z : Ext ws, PairIn z.v z.v.heap.size D.n (gv D F) (gv D H) gs) := fun z => HPS0.out.bel z.b
          rw [hzws]; clear hzws
          go_wp2_with fail
          refine (gaugesL_any D (some ⟨b1, of1, none⟩) (some ⟨b2, of2, none⟩) c d F _ HOK.out hF (HI_2.out _)).mono ?_
          rintro e wp ⟨gp, gpc, rfl, hcgp⟩
          have HXwp := Lib.hid (bT zws.b hcgp.below); have HNgp0 := Lib.hid hcgp.num
          obtain ⟨zwp, hzwp⟩ := rebase wp
          clear hcgp
          have HI_3 : Hid (∀ z : Ext wp, BxIn z.v z.v.heap.size D (some ⟨b1, of1, none⟩) (some ⟨b2, of2, none⟩)) := fun z => HI_2.out (z.up HXwp.out)
          have HBX_3 : Hid (∀ z : Ext wp, BoxAt z.v w.heap.size D (some ⟨b1, of1, none⟩) (some ⟨b2, of2, none⟩) c d) := fun z => HBX_2.out (z.up HXwp.out)
          have HAX_3 : Hid (∀ z : Ext wp, AskAt z.v x1.v.heap.size (A : Int) (F : Int) (H : Int) (G : Int)) := fun z => HAX_2.out (z.up HXwp.out)
          have F0_3 : ∀ z : Ext wp, z.v.cell? ⟨w.heap.size, 0, none⟩ = some (.slice (some ⟨b1, of1, none⟩) D.n c) := fun z => F0_2 (z.up HXwp.out)
          have F1_3 : ∀ z : Ext wp, z.v.cell? ⟨w.heap.size, 1, none⟩ = some (.slice (some ⟨b2, of2, none⟩) D.m d) := fun z => F1_2 (z.up HXwp.out)
          have A1_3 : ∀ z : Ext wp, z.v.cell? ⟨x1.v.heap.size, 1, none⟩ = some (.int .i64 (F : Int)) := fun z => A1_2 (z.up HXwp.out)
          have A2_3 : ∀ z : Ext wp, z.v.cell? ⟨x1.v.heap.size, 2, none⟩ = some (.int .i64 (H : Int)) := fun z => A2_2 (z.up HXwp.out)
          have HW_3 : Hid (∀ z : Ext wp, Below w.heap.size w z.v) := fun z => HW_2.out (z.up HXwp.out)
          have Ngl_3 : Hid (∀ z : Ext wp, NumIn z.v z.v.heap.size D.n (gv D 40) (some ⟨gl0, glo, none⟩)) := fun z => Ngl_2.out (z.up HXwp.out)
          have Pgs_3 : Hid (∀ z : Ext wp, PairIn z.v z.v.heap.size D.n (gv D F) (gv D H) gs) := fun z => Pgs_2.out (z.up HXwp.out)
          clear HI_2 HBX_2 HAX_2 F0_2 F1_2 A1_2 A2_2 HW_2 Ngl_2 Pgs_2
          have Ngp_3 : Hid (∀ z : Ext wp, NumIn z.v z.v.heap.size D.n (gv D F) gp) := fun z => HNgp0.out.bel z.b
          rw [hzwp]; clear hzwp
          go_wp2_with fail
          refine (gaugesL_any D (some ⟨b1, of1, none⟩) (some ⟨b2, of2, none⟩) c d H _ HOK.out hH40 (HI_3.out _)).mono ?_
          rintro e wq ⟨gq, gqc, rfl, hcgq⟩
          have HXwq := Lib.hid (bT zwp.b hcgq.below); have HNgq0 := Lib.hid hcgq.num
          obtain ⟨zwq, hzwq⟩ := rebase wq
          clear hcgq
          have HI_4 : Hid (∀ z : Ext wq, BxIn z.v z.v.heap.size D (some ⟨b1, of1, none⟩) (some ⟨b2, of2, none⟩)) := fun z => HI_3.out (z.up HXwq.out)
          have HBX_4 : Hid (∀ z : Ext wq, BoxAt z.v w.heap.size D (some ⟨b1, of1, none⟩) (some ⟨b2, of2, none⟩) c d) := fun z => HBX_3.out (z.up HXwq.out)
          have HAX_4 : Hid (∀ z : Ext wq, AskAt z.v x1.v.heap.size (A : Int) (F : Int) (H : Int) (G : Int)) := fun z => HAX_3.out (z.up HXwq.out)
          have F0_4 : ∀ z : Ext wq, z.v.cell? ⟨w.heap.size, 0, none⟩ = some (.slice (some ⟨b1, of1, none⟩) D.n c) := fun z => F0_3 (z.up HXwq.out)
          have F1_4 : ∀ z : Ext wq, z.v.cell? ⟨w.heap.size, 1, none⟩ = some (.slice (some ⟨b2, of2, none⟩) D.m d) := fun z => F1_3 (z.up HXwq.out)
          have A1_4 : ∀ z : Ext wq, z.v.cell? ⟨x1.v.heap.size, 1, none⟩ = some (.int .i64 (F : Int)) := fun z => A1_3 (z.up HXwq.out)
          have A2_4 : ∀ z : Ext wq, z.v.cell? ⟨x1.v.heap.size, 2, none⟩ = some (.int .i64 (H : Int)) := fun z => A2_3 (z.up HXwq.out)
          have HW_4 : Hid (∀ z : Ext wq, Below w.heap.size w z.v) := fun z => HW_3.out (z.up HXwq.out)
          have Ngl_4 : Hid (∀ z : Ext wq, NumIn z.v z.v.heap.size D.n (gv D 40) (some ⟨gl0, glo, none⟩)) := fun z => Ngl_3.out (z.up HXwq.out)
          have Pgs_4 : Hid (∀ z : Ext wq, PairIn z.v z.v.heap.size D.n (gv D F) (gv D H) gs) := fun z => Pgs_3.out (z.up HXwq.out)
          have Ngp_4 : Hid (∀ z : Ext wq, NumIn z.v z.v.heap.size D.n (gv D F) gp) := fun z => Ngp_3.out (z.up HXwq.out)
          clear HI_3 HBX_3 HAX_3 F0_3 F1_3 A1_3 A2_3 HW_3 Ngl_3 Pgs_3 Ngp_3
          have Ngq_4 : Hid (∀ z : Ext wq, NumIn z.v z.v.heap.size D.n (gv D H) gq) := fun z => HNgq0.out.bel z.b
          rw [hzwq]; clear hzwq
          go_wp2
          go_loopw [24] (fun i wr => ∃ k : Nat, i = .int .i64 k ∧ k ≤ D.n ∧ ∃ z : Ext wq, wr = z.v) (fun i _ => D.n - (intOf i).toNat)
          case atStart => exact ⟨0, rfl, Nat.zero_le _, zwq, rfl⟩
          case round =>
            obtain ⟨k3, rfl, hk3, z3, rfl⟩ := hrel
            by_cases hlt3 : k3 < D.n
            · obtain ⟨gs0, rfl, _, _⟩ := (Pgs_4.out z3) (by omega)
              obtain ⟨gp0, gpo, rfl, _, _⟩ := (Ngp_4.out z3) (by omega)
              obtain ⟨gq0, gqo, rfl, _, _⟩ := (Ngq_4.out z3) (by omega)
              have EP : ∀ z : Ext wq, z.v.cell? ⟨gs0, k3 * 2, none⟩ = some (.int .i64 (gv D F k3)) ∧ z.v.cell? ⟨gs0, k3 * 2 + 1, none⟩ = some (.int .i64 (gv D H k3)) := fun z => by
                obtain ⟨g', e, _, hc⟩ := (Pgs_4.out z) (by omega)
                have e2 : gs0 = g' := by simpa using e
                subst e2
                exact hc k3 hlt3
              have E0 : ∀ z : Ext wq, z.v.cell? ⟨gs0, k3 * 2, none⟩ = some (.int .i64 (gv D F k3)) := fun z => (EP z).1
              have E1 : ∀ z : Ext wq, z.v.cell? ⟨gs0, k3 * 2 + 1, none⟩ = some (.int .i64 (gv D H k3)) := fun z => (EP z).2
              have E2 : ∀ z : Ext wq, z.v.cell? ⟨gp0, gpo + k3, none⟩ = some (.int .i64 (gv D F k3)) := fun z => ((Ngp_4.out z).cell hlt3).2
              have E3 : ∀ z : Ext wq, z.v.cell? ⟨gq0, gqo + k3, none⟩ = some (.int .i64 (gv D H k3)) := fun z => ((Ngq_4.out z).cell hlt3).2
              have hkm : (k3 : Int) < (D.n : Int) := by omega
              have hnp := fun w => neq_span (gv D F k3) (gv D H k3) w
              clear EP
              go_wp2
              refine quiet_e (by kernel_rfl) (by kernel_rfl) ?_
              repeat (first | go_big_quiet_step (fail) | quiet_step (fail))
              refine wpQuiet_nil ?_
              intro w6 hw6
              obtain ⟨y8, rfl⟩ := hw6
              go_wp2
              go_roundw
              case rel => exact ⟨k3 + 1, by go_num, hlt3, y8, rfl⟩
              case measure => first | (simp [intOf]; done) | (simp [intOf]; omega)
            · have j3 : decide ((k3 : Int) < (D.n : Int)) = false := by simp; omega
              go_wp2_with fail
              refine (quiet_x (works_ex _)).mono ?_
              rintro e w' ⟨rfl, y9, rfl⟩
              go_wp2
              go_ret
              exact ⟨rfl, HW_4.out y9⟩
        · have jfh : decide ((H : Int) < (F : Int)) = true := by simp; omega
          have jfh2 : H < F := by omega
          go_wp2_with fail
          refine (HWI.out _).mono ?_
          rintro e w' ⟨rfl, rfl⟩
          go_wp2_with fail
          refine (quiet_x (works_ex _)).mono ?_
          rintro e w' ⟨rfl, y9, rfl⟩
          go_wp2
          go_ret
          exact ⟨rfl, HW_1.out y9⟩
set_option maxRecDepth 100000 in
set_option maxHeartbeats 30000000 in
theorem back_none_some (D : Bx) (p q : Option Addr) (c d A F G S : Nat) (a3 : Int) (w : World) (hi : BxIn w w.heap.size D p q) (hr : rdy D (F : Int) = true) (hok : D.ok = true) (hF : F ≤ 40) (hA : A < D.n) (hG : 0 < G ∧ G ≤ 20) (hf : fsN (hasB D A G) 41 = none) (hS : fsN (needB D A F G) 21 = some S) (hS1 : 1 ≤ S ∧ S ≤ 21) (hSn : ∀ u, u + 1 = S → needB D A F G u = false) (hSy : S ≤ 20 → needB D A F G S = true) :
    Calls Try.prog 14 #[.agg #[.slice p D.n c, .slice q D.m d], .agg #[.int .i64 (A : Int), .int .i64 (F : Int), .int .i64 a3, .int .i64 (G : Int)]] w fun e w' => e = .returned (.bool true) ∧ Below w.heap.size w w' := by
  obtain ⟨w1, x1, w2, x2, hw1, hw2, hb, hz, hB, hA', hI⟩ := start_ba D p q c d (A : Int) (F : Int) a3 (G : Int) w hi
  obtain ⟨n4, m4, _, _⟩ := rdy_parts hr
  obtain ⟨o1, o2, o3, o4⟩ := Bx.ok_parts hok
  have hn : D.n ≤ maxLen := by unfold maxLen; omega
  have hm : D.m ≤ maxLen := by unfold maxLen; omega
  have HB := Lib.hid hb; have HI_0 := Lib.hid hI; have HR := Lib.hid hr; have HOK := Lib.hid hok
  have HBX_0 := Lib.hid hB; have HAX_0 := Lib.hid hA'
  have HMN := Lib.hid o2
  have HQ := Lib.hid (show isQ D (A : Int) = true from isQ_iff.2 ⟨by omega, by omega⟩)
  have HSN := Lib.hid hSn; have HSY := Lib.hid hSy
  have HGG := Lib.hid (show ∀ V : World, Calls Try.prog 57 #[.int .i64 (G : Int)] V fun e w' => e = .returned (.bool true) ∧ V = w' from fun V => by
    have := isGaugesR_any (G : Int) V
    rw [within_tt (by omega) (by omega)] at this
    exact this)
  have HFR := Lib.hid (show ∀ (V : World) (p' q' : Option Addr) (c' d' : Nat), BxIn V V.heap.size D p' q' → Calls Try.prog 28 #[.agg #[.slice p' D.n c', .slice q' D.m d'], .int .i64 (A : Int), .int .i64 (G : Int)] V fun e w' => e = .returned (.tuple #[.int .i64 0, .int .i64 3]) ∧ Below V.heap.size V w' from fun V p' q' c' d' h => by
    have := fromP_ok D p' q' c' d' A G V hok hA hG h
    rw [hf] at this
    exact this)
  have jl : decide ((G : Int) ≤ gv D 40 A) = false := from_none hf
  clear hf
  have HND := Lib.hid (show ∀ (V : World) (p' q' : Option Addr) (c' d' : Nat), BxIn V V.heap.size D p' q' → Calls Try.prog 33 #[.agg #[.slice p' D.n c', .slice q' D.m d'], .int .i64 (A : Int), .int .i64 (F : Int), .int .i64 (G : Int)] V fun e w' => e = .returned (.tuple #[.int .i64 (S : Int), .int .i64 0]) ∧ Below V.heap.size V w' from fun V p' q' c' d' h => by
    have := needP_ok D p' q' c' d' A F G V hok hA hF hG h
    rw [hS] at this
    exact this)
  have HK1 := Lib.hid (show ∀ V : World, Calls Try.prog 48 #[.int .i64 3] V fun e w' => e = .returned (.bool true) ∧ V = w' from fun V => isKnown_any 3 V)
  have HK2 := Lib.hid (show ∀ V : World, Calls Try.prog 48 #[.int .i64 0] V fun e w' => e = .returned (.bool true) ∧ V = w' from fun V => isKnown_any 0 V)
  clear hS hSn hSy hI hB hA' hb hz hi hr hok o2 o3 o4
  obtain ⟨b1, of1, rfl, _, _⟩ := (HI_0.out x2).s (by omega)
  obtain ⟨b2, of2, rfl, _, _⟩ := (HI_0.out x2).o (by have := HMN.out; omega)
  have F0_0 : ∀ z : Ext w2, z.v.cell? ⟨w.heap.size, 0, none⟩ = some (.slice (some ⟨b1, of1, none⟩) D.n c) := fun z => (HBX_0.out z).c0
  have F1_0 : ∀ z : Ext w2, z.v.cell? ⟨w.heap.size, 1, none⟩ = some (.slice (some ⟨b2, of2, none⟩) D.m d) := fun z => (HBX_0.out z).c1
  have A0_0 : ∀ z : Ext w2, z.v.cell? ⟨x1.v.heap.size, 0, none⟩ = some (.int .i64 (A : Int)) := fun z => (HAX_0.out z).c0
  have A1_0 : ∀ z : Ext w2, z.v.cell? ⟨x1.v.heap.size, 1, none⟩ = some (.int .i64 (F : Int)) := fun z => (HAX_0.out z).c1
  have A2_0 : ∀ z : Ext w2, z.v.cell? ⟨x1.v.heap.size, 2, none⟩ = some (.int .i64 a3) := fun z => (HAX_0.out z).c2
  have A3_0 : ∀ z : Ext w2, z.v.cell? ⟨x1.v.heap.size, 3, none⟩ = some (.int .i64 (G : Int)) := fun z => (HAX_0.out z).c3
  have HW_0 : Hid (∀ z : Ext w2, Below w.heap.size w z.v) := fun z => bT HB.out z.b
  have hAn : (A : Int) < (D.n : Int) := by omega
  go_enter Try.func14, Try.ntmps14
  go_wp2_with fail
  refine (quiet_x (ready_is HR.out hn hm (HI_0.out _))).mono ?_
  rintro e w' ⟨rfl, y, rfl⟩
  go_wp2_with fail
  refine (quiet_x (isQR_is HQ.out n4)).mono ?_
  rintro e w' ⟨rfl, y1, rfl⟩
  go_wp2_with fail
  refine (HGG.out _).mono ?_
  rintro e w' ⟨rfl, rfl⟩
  go_wp2_with fail
  refine (quiet_x (HFR.out _ _ _ _ _ (HI_0.out _))).mono ?_
  rintro e w' ⟨rfl, y2, rfl⟩
  go_wp2_with fail
  refine (gaugesL_any D (some ⟨b1, of1, none⟩) (some ⟨b2, of2, none⟩) c d 40 _ HOK.out (by omega) (HI_0.out _)).mono ?_
  rintro e wl ⟨gl, glc, rfl, hcgl⟩
  have HXwl := Lib.hid (bT y2.b hcgl.below); have HNgl0 := Lib.hid hcgl.num
  obtain ⟨zwl, hzwl⟩ := rebase wl
  clear hcgl
  have HI_1 : Hid (∀ z : Ext wl, BxIn z.v z.v.heap.size D (some ⟨b1, of1, none⟩) (some ⟨b2, of2, none⟩)) := fun z => HI_0.out (z.up HXwl.out)
  have HBX_1 : Hid (∀ z : Ext wl, BoxAt z.v w.heap.size D (some ⟨b1, of1, none⟩) (some ⟨b2, of2, none⟩) c d) := fun z => HBX_0.out (z.up HXwl.out)
  have HAX_1 : Hid (∀ z : Ext wl, AskAt z.v x1.v.heap.size (A : Int) (F : Int) a3 (G : Int)) := fun z => HAX_0.out (z.up HXwl.out)
  have F0_1 : ∀ z : Ext wl, z.v.cell? ⟨w.heap.size, 0, none⟩ = some (.slice (some ⟨b1, of1, none⟩) D.n c) := fun z => F0_0 (z.up HXwl.out)
  have F1_1 : ∀ z : Ext wl, z.v.cell? ⟨w.heap.size, 1, none⟩ = some (.slice (some ⟨b2, of2, none⟩) D.m d) := fun z => F1_0 (z.up HXwl.out)
  have A0_1 : ∀ z : Ext wl, z.v.cell? ⟨x1.v.heap.size, 0, none⟩ = some (.int .i64 (A : Int)) := fun z => A0_0 (z.up HXwl.out)
  have A1_1 : ∀ z : Ext wl, z.v.cell? ⟨x1.v.heap.size, 1, none⟩ = some (.int .i64 (F : Int)) := fun z => A1_0 (z.up HXwl.out)
  have A2_1 : ∀ z : Ext wl, z.v.cell? ⟨x1.v.heap.size, 2, none⟩ = some (.int .i64 a3) := fun z => A2_0 (z.up HXwl.out)
  have A3_1 : ∀ z : Ext wl, z.v.cell? ⟨x1.v.heap.size, 3, none⟩ = some (.int .i64 (G : Int)) := fun z => A3_0 (z.up HXwl.out)
  have HW_1 : Hid (∀ z : Ext wl, Below w.heap.size w z.v) := fun z => HW_0.out (z.up HXwl.out)
  clear HI_0 HBX_0 HAX_0 F0_0 F1_0 A0_0 A1_0 A2_0 A3_0 HW_0
  have Ngl_1 : Hid (∀ z : Ext wl, NumIn z.v z.v.heap.size D.n (gv D 40) gl) := fun z => HNgl0.out.bel z.b
  rw [hzwl]; clear hzwl
  clear hw1 hw2
  obtain ⟨gl0, glo, rfl, _, _⟩ := Ngl_1.out zwl (by omega)
  have L1 : ∀ z : Ext wl, z.v.cell? ⟨gl0, glo + A, none⟩ = some (.int .i64 (gv D 40 A)) := fun z => ((Ngl_1.out z).cell hA).2
  go_wp2
  refine quiet_e (by kernel_rfl) (by kernel_rfl) ?_
  repeat (first | go_big_quiet_step ((first | (go_at_call 48; exact quiet_s (HK1.out _)))) | quiet_step ((first | (go_at_call 48; exact quiet_s (HK1.out _)))))
  refine wpQuiet_nil ?_
  intro w6 hw6
  obtain ⟨y3, rfl⟩ := hw6
  clear L1 jl
  go_wp2_with fail
  refine (quiet_x (HND.out _ _ _ _ _ (HI_1.out _))).mono ?_
  rintro e w' ⟨rfl, y6, rfl⟩
  go_wp2_with fail
  refine (HK2.out _).mono ?_
  rintro e w' ⟨rfl, rfl⟩
  have js1 : IntKind.i64.wrap ((S : Int) - 1) = ((S - 1 : Nat) : Int) := by rw [IntWalk.i64_in _ (by omega)]; omega
  have js2 : decide ((S : Int) < 1) = false := by simp; omega
  have js3 : decide (21 < (S : Int)) = false := by simp; omega
  obtain ⟨mn, hmn⟩ : ∃ mn : Nat, min S 20 = mn := ⟨_, rfl⟩
  have hmnb : S - 1 ≤ mn ∧ mn ≤ 20 ∧ mn ≤ S ∧ mn + 1 ≤ S + 1 := by omega
  have hm1 : (if (S : Int) < 20 then (S : Int) else 20) = (mn : Int) := by split <;> omega
  have hm2 : (if 20 < (S : Int) then 20 else (S : Int)) = (mn : Int) := by split <;> omega
  go_wp2
  clear js1 js2 js3
  go_loopw [15] (fun i wr => ∃ u : Nat, i = .int .i64 (u : Int) ∧ S - 1 ≤ u ∧ u ≤ mn + 1 ∧ ∃ z : Ext wl, wr = z.v) (fun i _ => mn + 1 - (intOf i).toNat)
  case atStart => exact ⟨S - 1, by first | rfl | (simp; done), Nat.le_refl _, by omega, y6, rfl⟩
  case round =>
    obtain ⟨u, rfl, hu1, hu2, z, rfl⟩ := hrel
    by_cases hlt : u ≤ mn
    · have hum : (u : Int) ≤ (mn : Int) := by omega
      have hoks := Bx.setSh_ok HOK.out A (v := (u : Int)) ⟨by omega, by omega⟩
      have HGL := Lib.hid (show ∀ (V : World) (p' q' : Option Addr) (c' d' : Nat), BxIn V V.heap.size (D.setSh A (u : Int)) p' q' → Calls Try.prog 47 #[.agg #[.slice p' D.n c', .slice q' D.m d'], .int .i64 (F : Int)] V fun e w' => ∃ y c', e = .returned (.tuple #[.slice y D.n c', .bool true]) ∧ New V w' D.n (gv (D.setSh A (u : Int)) F) y from
        fun V p' q' c' d' h => gaugesL_any (D.setSh A (u : Int)) p' q' c' d' F V hoks hF h)
      obtain ⟨gg, hgg⟩ : ∃ gg, gv (D.setSh A (u : Int)) F = gg := ⟨_, rfl⟩
      have hnb : needB D A F G u = decide ((G : Int) ≤ gg A) := by unfold needB; rw [hgg]
      rw [hgg] at HGL
      have HNB := Lib.hid hnb
      clear hoks hgg hnb
      go_wp2
      refine wp_region_lastE 12 (by kernel_rfl) rfl (fun ys => ?_)
      refine wpAnyG_take (i := 0) (v := ?_) (by kernel_rfl) rfl (by kernel_rfl) (by kernel_rfl) (by kernel_rfl) (fun _ _ _ h => h) (Or.inl ⟨by rfl, ?_⟩) ⟨_, rfl⟩ ?_
      rotate_left
      · rintro wS ⟨yS, rfl⟩
        go_simp
        try (with_reducible rfl)
      try simp only [Act.put, List.setIfInBounds_toArray, List.set_cons_zero, List.set_cons_succ]
      refine wpAnyG_take (i := 1) (v := ?_) (by kernel_rfl) rfl (by kernel_rfl) (by kernel_rfl) (by kernel_rfl) (fun _ _ _ h => h) (Or.inl ⟨by rfl, ?_⟩) ⟨_, rfl⟩ ?_
      rotate_left
      · rintro wS ⟨yS, rfl⟩
        go_simp
        try (with_reducible rfl)
      try simp only [Act.put, List.setIfInBounds_toArray, List.set_cons_zero, List.set_cons_succ]
      refine wpAnyG_take (i := 2) (v := ?_) (by kernel_rfl) rfl (by kernel_rfl) (by kernel_rfl) (by kernel_rfl) (fun _ _ _ h => h) (Or.inl ⟨by rfl, ?_⟩) ⟨_, rfl⟩ ?_
      rotate_left
      · rintro wS ⟨yS, rfl⟩
        go_simp
        try (with_reducible rfl)
      try simp only [Act.put, List.setIfInBounds_toArray, List.set_cons_zero, List.set_cons_succ]
      refine wpAnyG_take (i := 3) (v := ?_) (by kernel_rfl) rfl (by kernel_rfl) (by kernel_rfl) (by kernel_rfl) (fun _ _ _ h => h) (Or.inl ⟨by rfl, ?_⟩) ⟨_, rfl⟩ ?_
      rotate_left
      · rintro wS ⟨yS, rfl⟩
        go_simp
        try (with_reducible rfl)
      try simp only [Act.put, List.setIfInBounds_toArray, List.set_cons_zero, List.set_cons_succ]
      refine wpAnyG_take (i := 5) (v := ?_) (by kernel_rfl) rfl (by kernel_rfl) (by kernel_rfl) (by kernel_rfl) (fun _ _ _ h => h) (Or.inl ⟨by rfl, ?_⟩) ⟨_, rfl⟩ ?_
      rotate_left
      · rintro wS ⟨yS, rfl⟩
        go_simp
        try (with_reducible rfl)
      try simp only [Act.put, List.setIfInBounds_toArray, List.set_cons_zero, List.set_cons_succ]
      refine wpAnyG_take (i := 6) (v := ?_) (by kernel_rfl) rfl (by kernel_rfl) (by kernel_rfl) (by kernel_rfl) (fun _ _ _ h => h) (Or.inl ⟨by rfl, ?_⟩) ⟨_, rfl⟩ ?_
      rotate_left
      · rintro wS ⟨yS, rfl⟩
        go_simp
        try (with_reducible rfl)
      try simp only [Act.put, List.setIfInBounds_toArray, List.set_cons_zero, List.set_cons_succ]
      refine wpAnyG_one (i := 4) (by kernel_rfl) (by decide) (wpOp_plain rfl rfl ?_)
      go_simp
      go_at_call 53
      refine (shared_any D (some ⟨b1, of1, none⟩) (some ⟨b2, of2, none⟩) c d A (u : Int) _ n4 HMN.out hA (HI_1.out _)).mono ?_
      rintro e w' ⟨p', c', q', d', rfl, hbs, hin⟩
      obtain ⟨yt, rfl⟩ : ∃ zz : Ext wl, w' = zz.v := ⟨⟨_, bT (Ext.b _) hbs⟩, rfl⟩
      have HIN := Lib.hid hin
      clear hbs hin
      refine ⟨⟨_, rfl⟩, ?_⟩
      try simp only [Act.put, List.setIfInBounds_toArray, List.set_cons_zero, List.set_cons_succ]
      refine wpAnyG_one (i := 7) (by kernel_rfl) (by decide) (wpOp_plain rfl rfl ?_)
      go_simp
      go_at_call 47
      refine (HGL.out _ p' q' c' d' HIN.out).mono ?_
      rintro e w' ⟨yg, yc, rfl, hcg⟩
      obtain ⟨yu, hyu⟩ : ∃ zz : Ext wl, w' = zz.v := ⟨⟨_, bT yt.b hcg.below⟩, rfl⟩
      have hng := hcg.num
      rw [hyu] at hng ⊢
      have HNG : Hid (∀ z : Ext yu.v, NumIn z.v z.v.heap.size D.n gg yg) := fun z => hng.bel z.b
      clear hcg hng hyu
      refine ⟨⟨_, rfl⟩, ?_⟩
      try simp only [Act.put, List.setIfInBounds_toArray, List.set_cons_zero, List.set_cons_succ]
      refine wpAnyG_take (i := 8) (v := ?_) (by kernel_rfl) rfl (by kernel_rfl) (by kernel_rfl) (by kernel_rfl) (fun _ _ _ h => h) (Or.inl ⟨by rfl, ?_⟩) ⟨_, rfl⟩ ?_
      rotate_left
      · rintro wS ⟨yS, rfl⟩
        go_simp
        try (with_reducible rfl)
      try simp only [Act.put, List.setIfInBounds_toArray, List.set_cons_zero, List.set_cons_succ]
      refine wpAnyG_take (i := 9) (v := ?_) (by kernel_rfl) rfl (by kernel_rfl) (by kernel_rfl) (by kernel_rfl) (fun _ _ _ h => h) (Or.inl ⟨by rfl, ?_⟩) ⟨_, rfl⟩ ?_
      rotate_left
      · rintro wS ⟨yS, rfl⟩
        go_simp
        try (with_reducible rfl)
      try simp only [Act.put, List.setIfInBounds_toArray, List.set_cons_zero, List.set_cons_succ]
      refine wpAnyG_take (i := 10) (v := ?_) (by kernel_rfl) rfl (by kernel_rfl) (by kernel_rfl) (by kernel_rfl) (fun _ _ _ h => h) (Or.inl ⟨by rfl, ?_⟩) ⟨_, rfl⟩ ?_
      rotate_left
      · rintro wS ⟨yS, rfl⟩
        go_simp
        try (with_reducible rfl)
      try simp only [Act.put, List.setIfInBounds_toArray, List.set_cons_zero, List.set_cons_succ]
      refine wpAnyG_take (i := 11) (v := ?_) (by kernel_rfl) rfl (by kernel_rfl) (by kernel_rfl) (by kernel_rfl) (fun _ _ _ h => h) (Or.inl ⟨by rfl, ?_⟩) ⟨_, rfl⟩ ?_
      rotate_left
      · rintro wS ⟨yS, rfl⟩
        go_simp
        try (with_reducible rfl)
      try simp only [Act.put, List.setIfInBounds_toArray, List.set_cons_zero, List.set_cons_succ]
      refine wpAnyG_done (by kernel_rfl) (by kernel_rfl) (wpOp_plain rfl rfl ?_)
      go_simp
      obtain ⟨g0, go, rfl, _, _⟩ := HNG.out ⟨yu.v, Below.refl _ _⟩ (by omega)
      have K0 : ∀ z : Ext yu.v, z.v.cell? ⟨g0, go + A, none⟩ = some (.int .i64 (gg A)) := fun z => ((HNG.out z).cell hA).2
      have KA0 : ∀ z : Ext yu.v, z.v.cell? ⟨x1.v.heap.size, 0, none⟩ = some (.int .i64 (A : Int)) := fun z => A0_1 (z.up yu.b)
      have KA3 : ∀ z : Ext yu.v, z.v.cell? ⟨x1.v.heap.size, 3, none⟩ = some (.int .i64 (G : Int)) := fun z => A3_1 (z.up yu.b)
      obtain ⟨zu, hzu⟩ := rebase yu.v
      rw [hzu]
      clear hzu
      by_cases hus : u = S
      · have jge : decide ((G : Int) ≤ gg A) = true := by rw [← HNB.out, hus]; exact HSY.out (by omega)
        have jeq : ((u : Int) == (S : Int)) = true := by simp; omega
        clear hus
        go_wp2
        refine quiet_e (by kernel_rfl) (by kernel_rfl) ?_
        repeat (first | go_big_quiet_step (fail) | quiet_step (fail))
        refine wpQuiet_nil ?_
        intro w6 hw6
        obtain ⟨y8, rfl⟩ := hw6
        go_wp2
        go_roundw
        case rel => exact ⟨u + 1, by go_num, by omega, by omega, ⟨y8.v, bT yu.b y8.b⟩, rfl⟩
        case measure => first | (simp [intOf]; done) | (simp [intOf]; omega)
      · have jge : decide ((G : Int) ≤ gg A) = false := by rw [← HNB.out]; exact HSN.out u (by omega)
        have jeq : ((u : Int) == (S : Int)) = false := by simp; omega
        clear hus
        go_wp2
        refine quiet_e (by kernel_rfl) (by kernel_rfl) ?_
        repeat (first | go_big_quiet_step (fail) | quiet_step (fail))
        refine wpQuiet_nil ?_
        intro w6 hw6
        obtain ⟨y8, rfl⟩ := hw6
        go_wp2
        go_roundw
        case rel => exact ⟨u + 1, by go_num, by omega, by omega, ⟨y8.v, bT yu.b y8.b⟩, rfl⟩
        case measure => first | (simp [intOf]; done) | (simp [intOf]; omega)
    · have jle : decide ((u : Int) ≤ (mn : Int)) = false := by simp; omega
      have jle2 : ¬ (u : Int) ≤ (mn : Int) := by omega
      cases hwi : within a3 0 40 with
      | false =>
        have HWI := Lib.hid (show ∀ V' : World, Calls Try.prog 58 #[.int .i64 a3] V' fun e w' => e = .returned (.bool false) ∧ V' = w' from fun V' => by
          have := isFlowR_any a3 V'
          rw [hwi] at this
          exact this)
        clear hwi
        go_wp2_with fail
        refine (HWI.out _).mono ?_
        rintro e w' ⟨rfl, rfl⟩
        go_wp2_with fail
        refine (quiet_x (works_ex _)).mono ?_
        rintro e w' ⟨rfl, y9, rfl⟩
        go_wp2
        go_ret
        exact ⟨rfl, HW_1.out y9⟩
      | true =>
        have HWI := Lib.hid (show ∀ V' : World, Calls Try.prog 58 #[.int .i64 a3] V' fun e w' => e = .returned (.bool true) ∧ V' = w' from fun V' => by
          have := isFlowR_any a3 V'
          rw [hwi] at this
          exact this)
        have hHb := within_iff.1 hwi
        obtain ⟨H, rfl⟩ : ∃ H : Nat, a3 = (H : Int) := ⟨a3.toNat, by omega⟩
        have hH40 : H ≤ 40 := by omega
        clear hwi hHb
        by_cases hfh : F ≤ H
        · have jfh : decide ((H : Int) < (F : Int)) = false := by simp; omega
          have jfh2 : ¬ H < F := by omega
          go_wp2_with fail
          refine (HWI.out _).mono ?_
          rintro e w' ⟨rfl, rfl⟩
          clear A0_1
          clear A3_1
          go_wp2_with fail
          refine (betweenP_ok D (some ⟨b1, of1, none⟩) (some ⟨b2, of2, none⟩) c d F H _ HOK.out hfh hH40 (HI_1.out _)).mono ?_
          rintro e ws ⟨gs, gsc, rfl, hbs, hps⟩
          have HXws := Lib.hid (bT z.b hbs); have HPS0 := Lib.hid hps
          obtain ⟨zws, hzws⟩ := rebase ws
          clear hbs hps
          have HI_2 : Hid (∀ z : Ext ws, BxIn z.v z.v.heap.size D (some ⟨b1, of1, none⟩) (some ⟨b2, of2, none⟩)) := fun z => HI_1.out (z.up HXws.out)
          have HBX_2 : Hid (∀ z : Ext ws, BoxAt z.v w.heap.size D (some ⟨b1, of1, none⟩) (some ⟨b2, of2, none⟩) c d) := fun z => HBX_1.out (z.up HXws.out)
          have HAX_2 : Hid (∀ z : Ext ws, AskAt z.v x1.v.heap.size (A : Int) (F : Int) (H : Int) (G : Int)) := fun z => HAX_1.out (z.up HXws.out)
          have F0_2 : ∀ z : Ext ws, z.v.cell? ⟨w.heap.size, 0, none⟩ = some (.slice (some ⟨b1, of1, none⟩) D.n c) := fun z => F0_1 (z.up HXws.out)
          have F1_2 : ∀ z : Ext ws, z.v.cell? ⟨w.heap.size, 1, none⟩ = some (.slice (some ⟨b2, of2, none⟩) D.m d) := fun z => F1_1 (z.up HXws.out)
          have A1_2 : ∀ z : Ext ws, z.v.cell? ⟨x1.v.heap.size, 1, none⟩ = some (.int .i64 (F : Int)) := fun z => A1_1 (z.up HXws.out)
          have A2_2 : ∀ z : Ext ws, z.v.cell? ⟨x1.v.heap.size, 2, none⟩ = some (.int .i64 (H : Int)) := fun z => A2_1 (z.up HXws.out)
          have HW_2 : Hid (∀ z : Ext ws, Below w.heap.size w z.v) := fun z => HW_1.out (z.up HXws.out)
          have Ngl_2 : Hid (∀ z : Ext ws, NumIn z.v z.v.heap.size D.n (gv D 40) (some ⟨gl0, glo, none⟩)) := fun z => Ngl_1.out (z.up HXws.out)
          clear HI_1 HBX_1 HAX_1 F0_1 F1_1 A1_1 A2_1 HW_1 Ngl_1
          have Pgs_2 : Hid (∀ z : Ext ws, PairIn z.v z.v.heap.size D.n (gv D F) (gv D H) gs) := fun z => HPS0.out.bel z.b
          rw [hzws]; clear hzws
          go_wp2_with fail
          refine (gaugesL_any D (some ⟨b1, of1, none⟩) (some ⟨b2, of2, none⟩) c d F _ HOK.out hF (HI_2.out _)).mono ?_
          rintro e wp ⟨gp, gpc, rfl, hcgp⟩
          have HXwp := Lib.hid (bT zws.b hcgp.below); have HNgp0 := Lib.hid hcgp.num
          obtain ⟨zwp, hzwp⟩ := rebase wp
          clear hcgp
          have HI_3 : Hid (∀ z : Ext wp, BxIn z.v z.v.heap.size D (some ⟨b1, of1, none⟩) (some ⟨b2, of2, none⟩)) := fun z => HI_2.out (z.up HXwp.out)
          have HBX_3 : Hid (∀ z : Ext wp, BoxAt z.v w.heap.size D (some ⟨b1, of1, none⟩) (some ⟨b2, of2, none⟩) c d) := fun z => HBX_2.out (z.up HXwp.out)
          have HAX_3 : Hid (∀ z : Ext wp, AskAt z.v x1.v.heap.size (A : Int) (F : Int) (H : Int) (G : Int)) := fun z => HAX_2.out (z.up HXwp.out)
          have F0_3 : ∀ z : Ext wp, z.v.cell? ⟨w.heap.size, 0, none⟩ = some (.slice (some ⟨b1, of1, none⟩) D.n c) := fun z => F0_2 (z.up HXwp.out)
          have F1_3 : ∀ z : Ext wp, z.v.cell? ⟨w.heap.size, 1, none⟩ = some (.slice (some ⟨b2, of2, none⟩) D.m d) := fun z => F1_2 (z.up HXwp.out)
          have A1_3 : ∀ z : Ext wp, z.v.cell? ⟨x1.v.heap.size, 1, none⟩ = some (.int .i64 (F : Int)) := fun z => A1_2 (z.up HXwp.out)
          have A2_3 : ∀ z : Ext wp, z.v.cell? ⟨x1.v.heap.size, 2, none⟩ = some (.int .i64 (H : Int)) := fun z => A2_2 (z.up HXwp.out)
          have HW_3 : Hid (∀ z : Ext wp, Below w.heap.size w z.v) := fun z => HW_2.out (z.up HXwp.out)
          have Ngl_3 : Hid (∀ z : Ext wp, NumIn z.v z.v.heap.size D.n (gv D 40) (some ⟨gl0, glo, none⟩)) := fun z => Ngl_2.out (z.up HXwp.out)
          have Pgs_3 : Hid (∀ z : Ext wp, PairIn z.v z.v.heap.size D.n (gv D F) (gv D H) gs) := fun z => Pgs_2.out (z.up HXwp.out)
          clear HI_2 HBX_2 HAX_2 F0_2 F1_2 A1_2 A2_2 HW_2 Ngl_2 Pgs_2
          have Ngp_3 : Hid (∀ z : Ext wp, NumIn z.v z.v.heap.size D.n (gv D F) gp) := fun z => HNgp0.out.bel z.b
          rw [hzwp]; clear hzwp
          go_wp2_with fail
          refine (gaugesL_any D (some ⟨b1, of1, none⟩) (some ⟨b2, of2, none⟩) c d H _ HOK.out hH40 (HI_3.out _)).mono ?_
          rintro e wq ⟨gq, gqc, rfl, hcgq⟩
          have HXwq := Lib.hid (bT zwp.b hcgq.below); have HNgq0 := Lib.hid hcgq.num
          obtain ⟨zwq, hzwq⟩ := rebase wq
          clear hcgq
          have HI_4 : Hid (∀ z : Ext wq, BxIn z.v z.v.heap.size D (some ⟨b1, of1, none⟩) (some ⟨b2, of2, none⟩)) := fun z => HI_3.out (z.up HXwq.out)
          have HBX_4 : Hid (∀ z : Ext wq, BoxAt z.v w.heap.size D (some ⟨b1, of1, none⟩) (some ⟨b2, of2, none⟩) c d) := fun z => HBX_3.out (z.up HXwq.out)
          have HAX_4 : Hid (∀ z : Ext wq, AskAt z.v x1.v.heap.size (A : Int) (F : Int) (H : Int) (G : Int)) := fun z => HAX_3.out (z.up HXwq.out)
          have F0_4 : ∀ z : Ext wq, z.v.cell? ⟨w.heap.size, 0, none⟩ = some (.slice (some ⟨b1, of1, none⟩) D.n c) := fun z => F0_3 (z.up HXwq.out)
          have F1_4 : ∀ z : Ext wq, z.v.cell? ⟨w.heap.size, 1, none⟩ = some (.slice (some ⟨b2, of2, none⟩) D.m d) := fun z => F1_3 (z.up HXwq.out)
          have A1_4 : ∀ z : Ext wq, z.v.cell? ⟨x1.v.heap.size, 1, none⟩ = some (.int .i64 (F : Int)) := fun z => A1_3 (z.up HXwq.out)
          have A2_4 : ∀ z : Ext wq, z.v.cell? ⟨x1.v.heap.size, 2, none⟩ = some (.int .i64 (H : Int)) := fun z => A2_3 (z.up HXwq.out)
          have HW_4 : Hid (∀ z : Ext wq, Below w.heap.size w z.v) := fun z => HW_3.out (z.up HXwq.out)
          have Ngl_4 : Hid (∀ z : Ext wq, NumIn z.v z.v.heap.size D.n (gv D 40) (some ⟨gl0, glo, none⟩)) := fun z => Ngl_3.out (z.up HXwq.out)
          have Pgs_4 : Hid (∀ z : Ext wq, PairIn z.v z.v.heap.size D.n (gv D F) (gv D H) gs) := fun z => Pgs_3.out (z.up HXwq.out)
          have Ngp_4 : Hid (∀ z : Ext wq, NumIn z.v z.v.heap.size D.n (gv D F) gp) := fun z => Ngp_3.out (z.up HXwq.out)
          clear HI_3 HBX_3 HAX_3 F0_3 F1_3 A1_3 A2_3 HW_3 Ngl_3 Pgs_3 Ngp_3
          have Ngq_4 : Hid (∀ z : Ext wq, NumIn z.v z.v.heap.size D.n (gv D H) gq) := fun z => HNgq0.out.bel z.b
          rw [hzwq]; clear hzwq
          go_wp2
          go_loopw [24] (fun i wr => ∃ k : Nat, i = .int .i64 k ∧ k ≤ D.n ∧ ∃ z : Ext wq, wr = z.v) (fun i _ => D.n - (intOf i).toNat)
          case atStart => exact ⟨0, rfl, Nat.zero_le _, zwq, rfl⟩
          case round =>
            obtain ⟨k3, rfl, hk3, z3, rfl⟩ := hrel
            by_cases hlt3 : k3 < D.n
            · obtain ⟨gs0, rfl, _, _⟩ := (Pgs_4.out z3) (by omega)
              obtain ⟨gp0, gpo, rfl, _, _⟩ := (Ngp_4.out z3) (by omega)
              obtain ⟨gq0, gqo, rfl, _, _⟩ := (Ngq_4.out z3) (by omega)
              have EP : ∀ z : Ext wq, z.v.cell? ⟨gs0, k3 * 2, none⟩ = some (.int .i64 (gv D F k3)) ∧ z.v.cell? ⟨gs0, k3 * 2 + 1, none⟩ = some (.int .i64 (gv D H k3)) := fun z => by
                obtain ⟨g', e, _, hc⟩ := (Pgs_4.out z) (by omega)
                have e2 : gs0 = g' := by simpa using e
                subst e2
                exact hc k3 hlt3
              have E0 : ∀ z : Ext wq, z.v.cell? ⟨gs0, k3 * 2, none⟩ = some (.int .i64 (gv D F k3)) := fun z => (EP z).1
              have E1 : ∀ z : Ext wq, z.v.cell? ⟨gs0, k3 * 2 + 1, none⟩ = some (.int .i64 (gv D H k3)) := fun z => (EP z).2
              have E2 : ∀ z : Ext wq, z.v.cell? ⟨gp0, gpo + k3, none⟩ = some (.int .i64 (gv D F k3)) := fun z => ((Ngp_4.out z).cell hlt3).2
              have E3 : ∀ z : Ext wq, z.v.cell? ⟨gq0, gqo + k3, none⟩ = some (.int .i64 (gv D H k3)) := fun z => ((Ngq_4.out z).cell hlt3).2
              have hkm : (k3 : Int) < (D.n : Int) := by omega
              have hnp := fun w => neq_span (gv D F k3) (gv D H k3) w
              clear EP
              go_wp2
              refine quiet_e (by kernel_rfl) (by kernel_rfl) ?_
              repeat (first | go_big_quiet_step (fail) | quiet_step (fail))
              refine wpQuiet_nil ?_
              intro w6 hw6
              obtain ⟨y8, rfl⟩ := hw6
              go_wp2
              go_roundw
              case rel => exact ⟨k3 + 1, by go_num, hlt3, y8, rfl⟩
              case measure => first | (simp [intOf]; done) | (simp [intOf]; omega)
            · have j3 : decide ((k3 : Int) < (D.n : Int)) = false := by simp; omega
              go_wp2_with fail
              refine (quiet_x (works_ex _)).mono ?_
              rintro e w' ⟨rfl, y9, rfl⟩
              go_wp2
              go_ret
              exact ⟨rfl, HW_4.out y9⟩
        · have jfh : decide ((H : Int) < (F : Int)) = true := by simp; omega
          have jfh2 : H < F := by omega
          go_wp2_with fail
          refine (HWI.out _).mono ?_
          rintro e w' ⟨rfl, rfl⟩
          go_wp2_with fail
          refine (quiet_x (works_ex _)).mono ?_
          rintro e w' ⟨rfl, y9, rfl⟩
          go_wp2
          go_ret
          exact ⟨rfl, HW_1.out y9⟩
set_option maxRecDepth 100000 in
set_option maxHeartbeats 30000000 in
theorem back_some_none (D : Bx) (p q : Option Addr) (c d A F G S n : Nat) (a3 : Int) (w : World) (hi : BxIn w w.heap.size D p q) (hr : rdy D (F : Int) = true) (hok : D.ok = true) (hF : F ≤ 40) (hA : A < D.n) (hG : 0 < G ∧ G ≤ 20) (hf : fsN (hasB D A G) 41 = some n) (hS : fsN (needB D A F G) 21 = none) (hS21 : S = 21) (hS1 : 1 ≤ S ∧ S ≤ 21) (hSn : ∀ u, u + 1 = S → needB D A F G u = false) (hSy : S ≤ 20 → needB D A F G S = true) :
    Calls Try.prog 14 #[.agg #[.slice p D.n c, .slice q D.m d], .agg #[.int .i64 (A : Int), .int .i64 (F : Int), .int .i64 a3, .int .i64 (G : Int)]] w fun e w' => e = .returned (.bool true) ∧ Below w.heap.size w w' := by
  obtain ⟨w1, x1, w2, x2, hw1, hw2, hb, hz, hB, hA', hI⟩ := start_ba D p q c d (A : Int) (F : Int) a3 (G : Int) w hi
  obtain ⟨n4, m4, _, _⟩ := rdy_parts hr
  obtain ⟨o1, o2, o3, o4⟩ := Bx.ok_parts hok
  have hn : D.n ≤ maxLen := by unfold maxLen; omega
  have hm : D.m ≤ maxLen := by unfold maxLen; omega
  have HB := Lib.hid hb; have HI_0 := Lib.hid hI; have HR := Lib.hid hr; have HOK := Lib.hid hok
  have HBX_0 := Lib.hid hB; have HAX_0 := Lib.hid hA'
  have HMN := Lib.hid o2
  have HQ := Lib.hid (show isQ D (A : Int) = true from isQ_iff.2 ⟨by omega, by omega⟩)
  have HSN := Lib.hid hSn; have HSY := Lib.hid hSy
  have HGG := Lib.hid (show ∀ V : World, Calls Try.prog 57 #[.int .i64 (G : Int)] V fun e w' => e = .returned (.bool true) ∧ V = w' from fun V => by
    have := isGaugesR_any (G : Int) V
    rw [within_tt (by omega) (by omega)] at this
    exact this)
  have HFR := Lib.hid (show ∀ (V : World) (p' q' : Option Addr) (c' d' : Nat), BxIn V V.heap.size D p' q' → Calls Try.prog 28 #[.agg #[.slice p' D.n c', .slice q' D.m d'], .int .i64 (A : Int), .int .i64 (G : Int)] V fun e w' => e = .returned (.tuple #[.int .i64 (n : Int), .int .i64 0]) ∧ Below V.heap.size V w' from fun V p' q' c' d' h => by
    have := fromP_ok D p' q' c' d' A G V hok hA hG h
    rw [hf] at this
    exact this)
  obtain ⟨mm, hn1, hm40, hnx, hgn, jl⟩ := from_spec hok hG.1 hf
  have HNX := Lib.hid hnx; have HGN := Lib.hid hgn
  have jn1 : decide ((n : Int) < 1) = false := by simp; omega
  have jn2 : decide (40 < (n : Int)) = false := by simp; omega
  have hn40 : n ≤ 40 := by omega
  have ewm : IntKind.i64.wrap ((n : Int) - 1) = (mm : Int) := by rw [IntWalk.i64_in _ (by omega)]; omega
  clear hf hnx hgn hn1
  have HND := Lib.hid (show ∀ (V : World) (p' q' : Option Addr) (c' d' : Nat), BxIn V V.heap.size D p' q' → Calls Try.prog 33 #[.agg #[.slice p' D.n c', .slice q' D.m d'], .int .i64 (A : Int), .int .i64 (F : Int), .int .i64 (G : Int)] V fun e w' => e = .returned (.tuple #[.int .i64 0, .int .i64 3]) ∧ Below V.heap.size V w' from fun V p' q' c' d' h => by
    have := needP_ok D p' q' c' d' A F G V hok hA hF hG h
    rw [hS] at this
    exact this)
  have HK1 := Lib.hid (show ∀ V : World, Calls Try.prog 48 #[.int .i64 0] V fun e w' => e = .returned (.bool true) ∧ V = w' from fun V => isKnown_any 0 V)
  have HK2 := Lib.hid (show ∀ V : World, Calls Try.prog 48 #[.int .i64 3] V fun e w' => e = .returned (.bool true) ∧ V = w' from fun V => isKnown_any 3 V)
  clear hS hSn hSy hI hB hA' hb hz hi hr hok o2 o3 o4
  obtain ⟨b1, of1, rfl, _, _⟩ := (HI_0.out x2).s (by omega)
  obtain ⟨b2, of2, rfl, _, _⟩ := (HI_0.out x2).o (by have := HMN.out; omega)
  have F0_0 : ∀ z : Ext w2, z.v.cell? ⟨w.heap.size, 0, none⟩ = some (.slice (some ⟨b1, of1, none⟩) D.n c) := fun z => (HBX_0.out z).c0
  have F1_0 : ∀ z : Ext w2, z.v.cell? ⟨w.heap.size, 1, none⟩ = some (.slice (some ⟨b2, of2, none⟩) D.m d) := fun z => (HBX_0.out z).c1
  have A0_0 : ∀ z : Ext w2, z.v.cell? ⟨x1.v.heap.size, 0, none⟩ = some (.int .i64 (A : Int)) := fun z => (HAX_0.out z).c0
  have A1_0 : ∀ z : Ext w2, z.v.cell? ⟨x1.v.heap.size, 1, none⟩ = some (.int .i64 (F : Int)) := fun z => (HAX_0.out z).c1
  have A2_0 : ∀ z : Ext w2, z.v.cell? ⟨x1.v.heap.size, 2, none⟩ = some (.int .i64 a3) := fun z => (HAX_0.out z).c2
  have A3_0 : ∀ z : Ext w2, z.v.cell? ⟨x1.v.heap.size, 3, none⟩ = some (.int .i64 (G : Int)) := fun z => (HAX_0.out z).c3
  have HW_0 : Hid (∀ z : Ext w2, Below w.heap.size w z.v) := fun z => bT HB.out z.b
  have hAn : (A : Int) < (D.n : Int) := by omega
  go_enter Try.func14, Try.ntmps14
  go_wp2_with fail
  refine (quiet_x (ready_is HR.out hn hm (HI_0.out _))).mono ?_
  rintro e w' ⟨rfl, y, rfl⟩
  go_wp2_with fail
  refine (quiet_x (isQR_is HQ.out n4)).mono ?_
  rintro e w' ⟨rfl, y1, rfl⟩
  go_wp2_with fail
  refine (HGG.out _).mono ?_
  rintro e w' ⟨rfl, rfl⟩
  go_wp2_with fail
  refine (quiet_x (HFR.out _ _ _ _ _ (HI_0.out _))).mono ?_
  rintro e w' ⟨rfl, y2, rfl⟩
  go_wp2_with fail
  refine (gaugesL_any D (some ⟨b1, of1, none⟩) (some ⟨b2, of2, none⟩) c d 40 _ HOK.out (by omega) (HI_0.out _)).mono ?_
  rintro e wl ⟨gl, glc, rfl, hcgl⟩
  have HXwl := Lib.hid (bT y2.b hcgl.below); have HNgl0 := Lib.hid hcgl.num
  obtain ⟨zwl, hzwl⟩ := rebase wl
  clear hcgl
  have HI_1 : Hid (∀ z : Ext wl, BxIn z.v z.v.heap.size D (some ⟨b1, of1, none⟩) (some ⟨b2, of2, none⟩)) := fun z => HI_0.out (z.up HXwl.out)
  have HBX_1 : Hid (∀ z : Ext wl, BoxAt z.v w.heap.size D (some ⟨b1, of1, none⟩) (some ⟨b2, of2, none⟩) c d) := fun z => HBX_0.out (z.up HXwl.out)
  have HAX_1 : Hid (∀ z : Ext wl, AskAt z.v x1.v.heap.size (A : Int) (F : Int) a3 (G : Int)) := fun z => HAX_0.out (z.up HXwl.out)
  have F0_1 : ∀ z : Ext wl, z.v.cell? ⟨w.heap.size, 0, none⟩ = some (.slice (some ⟨b1, of1, none⟩) D.n c) := fun z => F0_0 (z.up HXwl.out)
  have F1_1 : ∀ z : Ext wl, z.v.cell? ⟨w.heap.size, 1, none⟩ = some (.slice (some ⟨b2, of2, none⟩) D.m d) := fun z => F1_0 (z.up HXwl.out)
  have A0_1 : ∀ z : Ext wl, z.v.cell? ⟨x1.v.heap.size, 0, none⟩ = some (.int .i64 (A : Int)) := fun z => A0_0 (z.up HXwl.out)
  have A1_1 : ∀ z : Ext wl, z.v.cell? ⟨x1.v.heap.size, 1, none⟩ = some (.int .i64 (F : Int)) := fun z => A1_0 (z.up HXwl.out)
  have A2_1 : ∀ z : Ext wl, z.v.cell? ⟨x1.v.heap.size, 2, none⟩ = some (.int .i64 a3) := fun z => A2_0 (z.up HXwl.out)
  have A3_1 : ∀ z : Ext wl, z.v.cell? ⟨x1.v.heap.size, 3, none⟩ = some (.int .i64 (G : Int)) := fun z => A3_0 (z.up HXwl.out)
  have HW_1 : Hid (∀ z : Ext wl, Below w.heap.size w z.v) := fun z => HW_0.out (z.up HXwl.out)
  clear HI_0 HBX_0 HAX_0 F0_0 F1_0 A0_0 A1_0 A2_0 A3_0 HW_0
  have Ngl_1 : Hid (∀ z : Ext wl, NumIn z.v z.v.heap.size D.n (gv D 40) gl) := fun z => HNgl0.out.bel z.b
  rw [hzwl]; clear hzwl
  clear hw1 hw2
  obtain ⟨gl0, glo, rfl, _, _⟩ := Ngl_1.out zwl (by omega)
  have L1 : ∀ z : Ext wl, z.v.cell? ⟨gl0, glo + A, none⟩ = some (.int .i64 (gv D 40 A)) := fun z => ((Ngl_1.out z).cell hA).2
  go_wp2
  refine quiet_e (by kernel_rfl) (by kernel_rfl) ?_
  repeat (first | go_big_quiet_step ((first | (go_at_call 48; exact quiet_s (HK1.out _)))) | quiet_step ((first | (go_at_call 48; exact quiet_s (HK1.out _)))))
  refine wpQuiet_nil ?_
  intro w6 hw6
  obtain ⟨y3, rfl⟩ := hw6
  clear L1 jl
  go_wp2_with fail
  refine (gaugesL_any D (some ⟨b1, of1, none⟩) (some ⟨b2, of2, none⟩) c d n _ HOK.out hn40 (HI_1.out _)).mono ?_
  rintro e wm ⟨gm, gmc, rfl, hcgm⟩
  have HXwm := Lib.hid (bT y3.b hcgm.below); have HNgm0 := Lib.hid hcgm.num
  obtain ⟨zwm, hzwm⟩ := rebase wm
  clear hcgm
  have HI_2 : Hid (∀ z : Ext wm, BxIn z.v z.v.heap.size D (some ⟨b1, of1, none⟩) (some ⟨b2, of2, none⟩)) := fun z => HI_1.out (z.up HXwm.out)
  have HBX_2 : Hid (∀ z : Ext wm, BoxAt z.v w.heap.size D (some ⟨b1, of1, none⟩) (some ⟨b2, of2, none⟩) c d) := fun z => HBX_1.out (z.up HXwm.out)
  have HAX_2 : Hid (∀ z : Ext wm, AskAt z.v x1.v.heap.size (A : Int) (F : Int) a3 (G : Int)) := fun z => HAX_1.out (z.up HXwm.out)
  have F0_2 : ∀ z : Ext wm, z.v.cell? ⟨w.heap.size, 0, none⟩ = some (.slice (some ⟨b1, of1, none⟩) D.n c) := fun z => F0_1 (z.up HXwm.out)
  have F1_2 : ∀ z : Ext wm, z.v.cell? ⟨w.heap.size, 1, none⟩ = some (.slice (some ⟨b2, of2, none⟩) D.m d) := fun z => F1_1 (z.up HXwm.out)
  have A0_2 : ∀ z : Ext wm, z.v.cell? ⟨x1.v.heap.size, 0, none⟩ = some (.int .i64 (A : Int)) := fun z => A0_1 (z.up HXwm.out)
  have A1_2 : ∀ z : Ext wm, z.v.cell? ⟨x1.v.heap.size, 1, none⟩ = some (.int .i64 (F : Int)) := fun z => A1_1 (z.up HXwm.out)
  have A2_2 : ∀ z : Ext wm, z.v.cell? ⟨x1.v.heap.size, 2, none⟩ = some (.int .i64 a3) := fun z => A2_1 (z.up HXwm.out)
  have A3_2 : ∀ z : Ext wm, z.v.cell? ⟨x1.v.heap.size, 3, none⟩ = some (.int .i64 (G : Int)) := fun z => A3_1 (z.up HXwm.out)
  have HW_2 : Hid (∀ z : Ext wm, Below w.heap.size w z.v) := fun z => HW_1.out (z.up HXwm.out)
  have Ngl_2 : Hid (∀ z : Ext wm, NumIn z.v z.v.heap.size D.n (gv D 40) (some ⟨gl0, glo, none⟩)) := fun z => Ngl_1.out (z.up HXwm.out)
  clear HI_1 HBX_1 HAX_1 F0_1 F1_1 A0_1 A1_1 A2_1 A3_1 HW_1 Ngl_1
  have Ngm_2 : Hid (∀ z : Ext wm, NumIn z.v z.v.heap.size D.n (gv D n) gm) := fun z => HNgm0.out.bel z.b
  rw [hzwm]; clear hzwm
  obtain ⟨gm0, gmo, rfl, _, _⟩ := Ngm_2.out zwm (by omega)
  have L2 : ∀ z : Ext wm, z.v.cell? ⟨gm0, gmo + A, none⟩ = some (.int .i64 (G : Int)) := fun z => by rw [← HGN.out]; exact ((Ngm_2.out z).cell hA).2
  go_wp2_with fail
  refine (quiet_x (turn_some HNX.out HOK.out hm40 (HI_2.out _))).mono ?_
  rintro e w' ⟨rfl, y4, rfl⟩
  go_wp2
  refine quiet_e (by kernel_rfl) (by kernel_rfl) ?_
  repeat (first | go_big_quiet_step (fail) | quiet_step (fail))
  refine wpQuiet_nil ?_
  intro w6 hw6
  obtain ⟨y5, rfl⟩ := hw6
  clear L2 jn1 jn2 ewm
  go_wp2_with fail
  refine (quiet_x (HND.out _ _ _ _ _ (HI_2.out _))).mono ?_
  rintro e w' ⟨rfl, y6, rfl⟩
  go_wp2_with fail
  refine (HK2.out _).mono ?_
  rintro e w' ⟨rfl, rfl⟩
  subst hS21
  have js1 : IntKind.i64.wrap (21 - 1) = 20 := by decide
  go_wp2
  go_loopw [15] (fun i wr => ∃ u : Nat, i = .int .i64 (u : Int) ∧ 21 - 1 ≤ u ∧ u ≤ 20 + 1 ∧ ∃ z : Ext wm, wr = z.v) (fun i _ => 20 + 1 - (intOf i).toNat)
  case atStart => exact ⟨21 - 1, by first | rfl | (simp; done), Nat.le_refl _, by omega, y6, rfl⟩
  case round =>
    obtain ⟨u, rfl, hu1, hu2, z, rfl⟩ := hrel
    by_cases hlt : u ≤ 20
    · have hum : (u : Int) ≤ 20 := by omega
      have hoks := Bx.setSh_ok HOK.out A (v := (u : Int)) ⟨by omega, by omega⟩
      have HGL := Lib.hid (show ∀ (V : World) (p' q' : Option Addr) (c' d' : Nat), BxIn V V.heap.size (D.setSh A (u : Int)) p' q' → Calls Try.prog 47 #[.agg #[.slice p' D.n c', .slice q' D.m d'], .int .i64 (F : Int)] V fun e w' => ∃ y c', e = .returned (.tuple #[.slice y D.n c', .bool true]) ∧ New V w' D.n (gv (D.setSh A (u : Int)) F) y from
        fun V p' q' c' d' h => gaugesL_any (D.setSh A (u : Int)) p' q' c' d' F V hoks hF h)
      obtain ⟨gg, hgg⟩ : ∃ gg, gv (D.setSh A (u : Int)) F = gg := ⟨_, rfl⟩
      have hnb : needB D A F G u = decide ((G : Int) ≤ gg A) := by unfold needB; rw [hgg]
      rw [hgg] at HGL
      have HNB := Lib.hid hnb
      clear hoks hgg hnb
      go_wp2
      refine wp_region_lastE 12 (by kernel_rfl) rfl (fun ys => ?_)
      refine wpAnyG_take (i := 0) (v := ?_) (by kernel_rfl) rfl (by kernel_rfl) (by kernel_rfl) (by kernel_rfl) (fun _ _ _ h => h) (Or.inl ⟨by rfl, ?_⟩) ⟨_, rfl⟩ ?_
      rotate_left
      · rintro wS ⟨yS, rfl⟩
        go_simp
        try (with_reducible rfl)
      try simp only [Act.put, List.setIfInBounds_toArray, List.set_cons_zero, List.set_cons_succ]
      refine wpAnyG_take (i := 1) (v := ?_) (by kernel_rfl) rfl (by kernel_rfl) (by kernel_rfl) (by kernel_rfl) (fun _ _ _ h => h) (Or.inl ⟨by rfl, ?_⟩) ⟨_, rfl⟩ ?_
      rotate_left
      · rintro wS ⟨yS, rfl⟩
        go_simp
        try (with_reducible rfl)
      try simp only [Act.put, List.setIfInBounds_toArray, List.set_cons_zero, List.set_cons_succ]
      refine wpAnyG_take (i := 2) (v := ?_) (by kernel_rfl) rfl (by kernel_rfl) (by kernel_rfl) (by kernel_rfl) (fun _ _ _ h => h) (Or.inl ⟨by rfl, ?_⟩) ⟨_, rfl⟩ ?_
      rotate_left
      · rintro wS ⟨yS, rfl⟩
        go_simp
        try (with_reducible rfl)
      try simp only [Act.put, List.setIfInBounds_toArray, List.set_cons_zero, List.set_cons_succ]
      refine wpAnyG_take (i := 3) (v := ?_) (by kernel_rfl) rfl (by kernel_rfl) (by kernel_rfl) (by kernel_rfl) (fun _ _ _ h => h) (Or.inl ⟨by rfl, ?_⟩) ⟨_, rfl⟩ ?_
      rotate_left
      · rintro wS ⟨yS, rfl⟩
        go_simp
        try (with_reducible rfl)
      try simp only [Act.put, List.setIfInBounds_toArray, List.set_cons_zero, List.set_cons_succ]
      refine wpAnyG_take (i := 5) (v := ?_) (by kernel_rfl) rfl (by kernel_rfl) (by kernel_rfl) (by kernel_rfl) (fun _ _ _ h => h) (Or.inl ⟨by rfl, ?_⟩) ⟨_, rfl⟩ ?_
      rotate_left
      · rintro wS ⟨yS, rfl⟩
        go_simp
        try (with_reducible rfl)
      try simp only [Act.put, List.setIfInBounds_toArray, List.set_cons_zero, List.set_cons_succ]
      refine wpAnyG_take (i := 6) (v := ?_) (by kernel_rfl) rfl (by kernel_rfl) (by kernel_rfl) (by kernel_rfl) (fun _ _ _ h => h) (Or.inl ⟨by rfl, ?_⟩) ⟨_, rfl⟩ ?_
      rotate_left
      · rintro wS ⟨yS, rfl⟩
        go_simp
        try (with_reducible rfl)
      try simp only [Act.put, List.setIfInBounds_toArray, List.set_cons_zero, List.set_cons_succ]
      refine wpAnyG_one (i := 4) (by kernel_rfl) (by decide) (wpOp_plain rfl rfl ?_)
      go_simp
      go_at_call 53
      refine (shared_any D (some ⟨b1, of1, none⟩) (some ⟨b2, of2, none⟩) c d A (u : Int) _ n4 HMN.out hA (HI_2.out _)).mono ?_
      rintro e w' ⟨p', c', q', d', rfl, hbs, hin⟩
      obtain ⟨yt, rfl⟩ : ∃ zz : Ext wm, w' = zz.v := ⟨⟨_, bT (Ext.b _) hbs⟩, rfl⟩
      have HIN := Lib.hid hin
      clear hbs hin
      refine ⟨⟨_, rfl⟩, ?_⟩
      try simp only [Act.put, List.setIfInBounds_toArray, List.set_cons_zero, List.set_cons_succ]
      refine wpAnyG_one (i := 7) (by kernel_rfl) (by decide) (wpOp_plain rfl rfl ?_)
      go_simp
      go_at_call 47
      refine (HGL.out _ p' q' c' d' HIN.out).mono ?_
      rintro e w' ⟨yg, yc, rfl, hcg⟩
      obtain ⟨yu, hyu⟩ : ∃ zz : Ext wm, w' = zz.v := ⟨⟨_, bT yt.b hcg.below⟩, rfl⟩
      have hng := hcg.num
      rw [hyu] at hng ⊢
      have HNG : Hid (∀ z : Ext yu.v, NumIn z.v z.v.heap.size D.n gg yg) := fun z => hng.bel z.b
      clear hcg hng hyu
      refine ⟨⟨_, rfl⟩, ?_⟩
      try simp only [Act.put, List.setIfInBounds_toArray, List.set_cons_zero, List.set_cons_succ]
      refine wpAnyG_take (i := 8) (v := ?_) (by kernel_rfl) rfl (by kernel_rfl) (by kernel_rfl) (by kernel_rfl) (fun _ _ _ h => h) (Or.inl ⟨by rfl, ?_⟩) ⟨_, rfl⟩ ?_
      rotate_left
      · rintro wS ⟨yS, rfl⟩
        go_simp
        try (with_reducible rfl)
      try simp only [Act.put, List.setIfInBounds_toArray, List.set_cons_zero, List.set_cons_succ]
      refine wpAnyG_take (i := 9) (v := ?_) (by kernel_rfl) rfl (by kernel_rfl) (by kernel_rfl) (by kernel_rfl) (fun _ _ _ h => h) (Or.inl ⟨by rfl, ?_⟩) ⟨_, rfl⟩ ?_
      rotate_left
      · rintro wS ⟨yS, rfl⟩
        go_simp
        try (with_reducible rfl)
      try simp only [Act.put, List.setIfInBounds_toArray, List.set_cons_zero, List.set_cons_succ]
      refine wpAnyG_take (i := 10) (v := ?_) (by kernel_rfl) rfl (by kernel_rfl) (by kernel_rfl) (by kernel_rfl) (fun _ _ _ h => h) (Or.inl ⟨by rfl, ?_⟩) ⟨_, rfl⟩ ?_
      rotate_left
      · rintro wS ⟨yS, rfl⟩
        go_simp
        try (with_reducible rfl)
      try simp only [Act.put, List.setIfInBounds_toArray, List.set_cons_zero, List.set_cons_succ]
      refine wpAnyG_take (i := 11) (v := ?_) (by kernel_rfl) rfl (by kernel_rfl) (by kernel_rfl) (by kernel_rfl) (fun _ _ _ h => h) (Or.inl ⟨by rfl, ?_⟩) ⟨_, rfl⟩ ?_
      rotate_left
      · rintro wS ⟨yS, rfl⟩
        go_simp
        try (with_reducible rfl)
      try simp only [Act.put, List.setIfInBounds_toArray, List.set_cons_zero, List.set_cons_succ]
      refine wpAnyG_done (by kernel_rfl) (by kernel_rfl) (wpOp_plain rfl rfl ?_)
      go_simp
      obtain ⟨g0, go, rfl, _, _⟩ := HNG.out ⟨yu.v, Below.refl _ _⟩ (by omega)
      have K0 : ∀ z : Ext yu.v, z.v.cell? ⟨g0, go + A, none⟩ = some (.int .i64 (gg A)) := fun z => ((HNG.out z).cell hA).2
      have KA0 : ∀ z : Ext yu.v, z.v.cell? ⟨x1.v.heap.size, 0, none⟩ = some (.int .i64 (A : Int)) := fun z => A0_2 (z.up yu.b)
      have KA3 : ∀ z : Ext yu.v, z.v.cell? ⟨x1.v.heap.size, 3, none⟩ = some (.int .i64 (G : Int)) := fun z => A3_2 (z.up yu.b)
      obtain ⟨zu, hzu⟩ := rebase yu.v
      rw [hzu]
      clear hzu
      by_cases hus : u = 21
      · have jge : decide ((G : Int) ≤ gg A) = true := by rw [← HNB.out, hus]; exact HSY.out (by omega)
        have jeq : ((u : Int) == 21) = true := by simp; omega
        clear hus
        go_wp2
        refine quiet_e (by kernel_rfl) (by kernel_rfl) ?_
        repeat (first | go_big_quiet_step (fail) | quiet_step (fail))
        refine wpQuiet_nil ?_
        intro w6 hw6
        obtain ⟨y8, rfl⟩ := hw6
        go_wp2
        go_roundw
        case rel => exact ⟨u + 1, by go_num, by omega, by omega, ⟨y8.v, bT yu.b y8.b⟩, rfl⟩
        case measure => first | (simp [intOf]; done) | (simp [intOf]; omega)
      · have jge : decide ((G : Int) ≤ gg A) = false := by rw [← HNB.out]; exact HSN.out u (by omega)
        have jeq : ((u : Int) == 21) = false := by simp; omega
        clear hus
        go_wp2
        refine quiet_e (by kernel_rfl) (by kernel_rfl) ?_
        repeat (first | go_big_quiet_step (fail) | quiet_step (fail))
        refine wpQuiet_nil ?_
        intro w6 hw6
        obtain ⟨y8, rfl⟩ := hw6
        go_wp2
        go_roundw
        case rel => exact ⟨u + 1, by go_num, by omega, by omega, ⟨y8.v, bT yu.b y8.b⟩, rfl⟩
        case measure => first | (simp [intOf]; done) | (simp [intOf]; omega)
    · have jle : decide ((u : Int) ≤ 20) = false := by simp; omega
      have jle2 : ¬ (u : Int) ≤ 20 := by omega
      cases hwi : within a3 0 40 with
      | false =>
        have HWI := Lib.hid (show ∀ V' : World, Calls Try.prog 58 #[.int .i64 a3] V' fun e w' => e = .returned (.bool false) ∧ V' = w' from fun V' => by
          have := isFlowR_any a3 V'
          rw [hwi] at this
          exact this)
        clear hwi
        go_wp2_with fail
        refine (HWI.out _).mono ?_
        rintro e w' ⟨rfl, rfl⟩
        go_wp2_with fail
        refine (quiet_x (works_ex _)).mono ?_
        rintro e w' ⟨rfl, y9, rfl⟩
        go_wp2
        go_ret
        exact ⟨rfl, HW_2.out y9⟩
      | true =>
        have HWI := Lib.hid (show ∀ V' : World, Calls Try.prog 58 #[.int .i64 a3] V' fun e w' => e = .returned (.bool true) ∧ V' = w' from fun V' => by
          have := isFlowR_any a3 V'
          rw [hwi] at this
          exact this)
        have hHb := within_iff.1 hwi
        obtain ⟨H, rfl⟩ : ∃ H : Nat, a3 = (H : Int) := ⟨a3.toNat, by omega⟩
        have hH40 : H ≤ 40 := by omega
        clear hwi hHb
        by_cases hfh : F ≤ H
        · have jfh : decide ((H : Int) < (F : Int)) = false := by simp; omega
          have jfh2 : ¬ H < F := by omega
          go_wp2_with fail
          refine (HWI.out _).mono ?_
          rintro e w' ⟨rfl, rfl⟩
          clear A0_2
          clear A3_2
          go_wp2_with fail
          refine (betweenP_ok D (some ⟨b1, of1, none⟩) (some ⟨b2, of2, none⟩) c d F H _ HOK.out hfh hH40 (HI_2.out _)).mono ?_
          rintro e ws ⟨gs, gsc, rfl, hbs, hps⟩
          have HXws := Lib.hid (bT z.b hbs); have HPS0 := Lib.hid hps
          obtain ⟨zws, hzws⟩ := rebase ws
          clear hbs hps
          have HI_3 : Hid (∀ z : Ext ws, BxIn z.v z.v.heap.size D (some ⟨b1, of1, none⟩) (some ⟨b2, of2, none⟩)) := fun z => HI_2.out (z.up HXws.out)
          have HBX_3 : Hid (∀ z : Ext ws, BoxAt z.v w.heap.size D (some ⟨b1, of1, none⟩) (some ⟨b2, of2, none⟩) c d) := fun z => HBX_2.out (z.up HXws.out)
          have HAX_3 : Hid (∀ z : Ext ws, AskAt z.v x1.v.heap.size (A : Int) (F : Int) (H : Int) (G : Int)) := fun z => HAX_2.out (z.up HXws.out)
          have F0_3 : ∀ z : Ext ws, z.v.cell? ⟨w.heap.size, 0, none⟩ = some (.slice (some ⟨b1, of1, none⟩) D.n c) := fun z => F0_2 (z.up HXws.out)
          have F1_3 : ∀ z : Ext ws, z.v.cell? ⟨w.heap.size, 1, none⟩ = some (.slice (some ⟨b2, of2, none⟩) D.m d) := fun z => F1_2 (z.up HXws.out)
          have A1_3 : ∀ z : Ext ws, z.v.cell? ⟨x1.v.heap.size, 1, none⟩ = some (.int .i64 (F : Int)) := fun z => A1_2 (z.up HXws.out)
          have A2_3 : ∀ z : Ext ws, z.v.cell? ⟨x1.v.heap.size, 2, none⟩ = some (.int .i64 (H : Int)) := fun z => A2_2 (z.up HXws.out)
          have HW_3 : Hid (∀ z : Ext ws, Below w.heap.size w z.v) := fun z => HW_2.out (z.up HXws.out)
          have Ngl_3 : Hid (∀ z : Ext ws, NumIn z.v z.v.heap.size D.n (gv D 40) (some ⟨gl0, glo, none⟩)) := fun z => Ngl_2.out (z.up HXws.out)
          have Ngm_3 : Hid (∀ z : Ext ws, NumIn z.v z.v.heap.size D.n (gv D n) (some ⟨gm0, gmo, none⟩)) := fun z => Ngm_2.out (z.up HXws.out)
          clear HI_2 HBX_2 HAX_2 F0_2 F1_2 A1_2 A2_2 HW_2 Ngl_2 Ngm_2
          have Pgs_3 : Hid (∀ z : Ext ws, PairIn z.v z.v.heap.size D.n (gv D F) (gv D H) gs) := fun z => HPS0.out.bel z.b
          rw [hzws]; clear hzws
          go_wp2_with fail
          refine (gaugesL_any D (some ⟨b1, of1, none⟩) (some ⟨b2, of2, none⟩) c d F _ HOK.out hF (HI_3.out _)).mono ?_
          rintro e wp ⟨gp, gpc, rfl, hcgp⟩
          have HXwp := Lib.hid (bT zws.b hcgp.below); have HNgp0 := Lib.hid hcgp.num
          obtain ⟨zwp, hzwp⟩ := rebase wp
          clear hcgp
          have HI_4 : Hid (∀ z : Ext wp, BxIn z.v z.v.heap.size D (some ⟨b1, of1, none⟩) (some ⟨b2, of2, none⟩)) := fun z => HI_3.out (z.up HXwp.out)
          have HBX_4 : Hid (∀ z : Ext wp, BoxAt z.v w.heap.size D (some ⟨b1, of1, none⟩) (some ⟨b2, of2, none⟩) c d) := fun z => HBX_3.out (z.up HXwp.out)
          have HAX_4 : Hid (∀ z : Ext wp, AskAt z.v x1.v.heap.size (A : Int) (F : Int) (H : Int) (G : Int)) := fun z => HAX_3.out (z.up HXwp.out)
          have F0_4 : ∀ z : Ext wp, z.v.cell? ⟨w.heap.size, 0, none⟩ = some (.slice (some ⟨b1, of1, none⟩) D.n c) := fun z => F0_3 (z.up HXwp.out)
          have F1_4 : ∀ z : Ext wp, z.v.cell? ⟨w.heap.size, 1, none⟩ = some (.slice (some ⟨b2, of2, none⟩) D.m d) := fun z => F1_3 (z.up HXwp.out)
          have A1_4 : ∀ z : Ext wp, z.v.cell? ⟨x1.v.heap.size, 1, none⟩ = some (.int .i64 (F : Int)) := fun z => A1_3 (z.up HXwp.out)
          have A2_4 : ∀ z : Ext wp, z.v.cell? ⟨x1.v.heap.size, 2, none⟩ = some (.int .i64 (H : Int)) := fun z => A2_3 (z.up HXwp.out)
          have HW_4 : Hid (∀ z : Ext wp, Below w.heap.size w z.v) := fun z => HW_3.out (z.up HXwp.out)
          have Ngl_4 : Hid (∀ z : Ext wp, NumIn z.v z.v.heap.size D.n (gv D 40) (some ⟨gl0, glo, none⟩)) := fun z => Ngl_3.out (z.up HXwp.out)
          have Ngm_4 : Hid (∀ z : Ext wp, NumIn z.v z.v.heap.size D.n (gv D n) (some ⟨gm0, gmo, none⟩)) := fun z => Ngm_3.out (z.up HXwp.out)
          have Pgs_4 : Hid (∀ z : Ext wp, PairIn z.v z.v.heap.size D.n (gv D F) (gv D H) gs) := fun z => Pgs_3.out (z.up HXwp.out)
          clear HI_3 HBX_3 HAX_3 F0_3 F1_3 A1_3 A2_3 HW_3 Ngl_3 Ngm_3 Pgs_3
          have Ngp_4 : Hid (∀ z : Ext wp, NumIn z.v z.v.heap.size D.n (gv D F) gp) := fun z => HNgp0.out.bel z.b
          rw [hzwp]; clear hzwp
          go_wp2_with fail
          refine (gaugesL_any D (some ⟨b1, of1, none⟩) (some ⟨b2, of2, none⟩) c d H _ HOK.out hH40 (HI_4.out _)).mono ?_
          rintro e wq ⟨gq, gqc, rfl, hcgq⟩
          have HXwq := Lib.hid (bT zwp.b hcgq.below); have HNgq0 := Lib.hid hcgq.num
          obtain ⟨zwq, hzwq⟩ := rebase wq
          clear hcgq
          have HI_5 : Hid (∀ z : Ext wq, BxIn z.v z.v.heap.size D (some ⟨b1, of1, none⟩) (some ⟨b2, of2, none⟩)) := fun z => HI_4.out (z.up HXwq.out)
          have HBX_5 : Hid (∀ z : Ext wq, BoxAt z.v w.heap.size D (some ⟨b1, of1, none⟩) (some ⟨b2, of2, none⟩) c d) := fun z => HBX_4.out (z.up HXwq.out)
          have HAX_5 : Hid (∀ z : Ext wq, AskAt z.v x1.v.heap.size (A : Int) (F : Int) (H : Int) (G : Int)) := fun z => HAX_4.out (z.up HXwq.out)
          have F0_5 : ∀ z : Ext wq, z.v.cell? ⟨w.heap.size, 0, none⟩ = some (.slice (some ⟨b1, of1, none⟩) D.n c) := fun z => F0_4 (z.up HXwq.out)
          have F1_5 : ∀ z : Ext wq, z.v.cell? ⟨w.heap.size, 1, none⟩ = some (.slice (some ⟨b2, of2, none⟩) D.m d) := fun z => F1_4 (z.up HXwq.out)
          have A1_5 : ∀ z : Ext wq, z.v.cell? ⟨x1.v.heap.size, 1, none⟩ = some (.int .i64 (F : Int)) := fun z => A1_4 (z.up HXwq.out)
          have A2_5 : ∀ z : Ext wq, z.v.cell? ⟨x1.v.heap.size, 2, none⟩ = some (.int .i64 (H : Int)) := fun z => A2_4 (z.up HXwq.out)
          have HW_5 : Hid (∀ z : Ext wq, Below w.heap.size w z.v) := fun z => HW_4.out (z.up HXwq.out)
          have Ngl_5 : Hid (∀ z : Ext wq, NumIn z.v z.v.heap.size D.n (gv D 40) (some ⟨gl0, glo, none⟩)) := fun z => Ngl_4.out (z.up HXwq.out)
          have Ngm_5 : Hid (∀ z : Ext wq, NumIn z.v z.v.heap.size D.n (gv D n) (some ⟨gm0, gmo, none⟩)) := fun z => Ngm_4.out (z.up HXwq.out)
          have Pgs_5 : Hid (∀ z : Ext wq, PairIn z.v z.v.heap.size D.n (gv D F) (gv D H) gs) := fun z => Pgs_4.out (z.up HXwq.out)
          have Ngp_5 : Hid (∀ z : Ext wq, NumIn z.v z.v.heap.size D.n (gv D F) gp) := fun z => Ngp_4.out (z.up HXwq.out)
          clear HI_4 HBX_4 HAX_4 F0_4 F1_4 A1_4 A2_4 HW_4 Ngl_4 Ngm_4 Pgs_4 Ngp_4
          have Ngq_5 : Hid (∀ z : Ext wq, NumIn z.v z.v.heap.size D.n (gv D H) gq) := fun z => HNgq0.out.bel z.b
          rw [hzwq]; clear hzwq
          go_wp2
          go_loopw [24] (fun i wr => ∃ k : Nat, i = .int .i64 k ∧ k ≤ D.n ∧ ∃ z : Ext wq, wr = z.v) (fun i _ => D.n - (intOf i).toNat)
          case atStart => exact ⟨0, rfl, Nat.zero_le _, zwq, rfl⟩
          case round =>
            obtain ⟨k3, rfl, hk3, z3, rfl⟩ := hrel
            by_cases hlt3 : k3 < D.n
            · obtain ⟨gs0, rfl, _, _⟩ := (Pgs_5.out z3) (by omega)
              obtain ⟨gp0, gpo, rfl, _, _⟩ := (Ngp_5.out z3) (by omega)
              obtain ⟨gq0, gqo, rfl, _, _⟩ := (Ngq_5.out z3) (by omega)
              have EP : ∀ z : Ext wq, z.v.cell? ⟨gs0, k3 * 2, none⟩ = some (.int .i64 (gv D F k3)) ∧ z.v.cell? ⟨gs0, k3 * 2 + 1, none⟩ = some (.int .i64 (gv D H k3)) := fun z => by
                obtain ⟨g', e, _, hc⟩ := (Pgs_5.out z) (by omega)
                have e2 : gs0 = g' := by simpa using e
                subst e2
                exact hc k3 hlt3
              have E0 : ∀ z : Ext wq, z.v.cell? ⟨gs0, k3 * 2, none⟩ = some (.int .i64 (gv D F k3)) := fun z => (EP z).1
              have E1 : ∀ z : Ext wq, z.v.cell? ⟨gs0, k3 * 2 + 1, none⟩ = some (.int .i64 (gv D H k3)) := fun z => (EP z).2
              have E2 : ∀ z : Ext wq, z.v.cell? ⟨gp0, gpo + k3, none⟩ = some (.int .i64 (gv D F k3)) := fun z => ((Ngp_5.out z).cell hlt3).2
              have E3 : ∀ z : Ext wq, z.v.cell? ⟨gq0, gqo + k3, none⟩ = some (.int .i64 (gv D H k3)) := fun z => ((Ngq_5.out z).cell hlt3).2
              have hkm : (k3 : Int) < (D.n : Int) := by omega
              have hnp := fun w => neq_span (gv D F k3) (gv D H k3) w
              clear EP
              go_wp2
              refine quiet_e (by kernel_rfl) (by kernel_rfl) ?_
              repeat (first | go_big_quiet_step (fail) | quiet_step (fail))
              refine wpQuiet_nil ?_
              intro w6 hw6
              obtain ⟨y8, rfl⟩ := hw6
              go_wp2
              go_roundw
              case rel => exact ⟨k3 + 1, by go_num, hlt3, y8, rfl⟩
              case measure => first | (simp [intOf]; done) | (simp [intOf]; omega)
            · have j3 : decide ((k3 : Int) < (D.n : Int)) = false := by simp; omega
              go_wp2_with fail
              refine (quiet_x (works_ex _)).mono ?_
              rintro e w' ⟨rfl, y9, rfl⟩
              go_wp2
              go_ret
              exact ⟨rfl, HW_5.out y9⟩
        · have jfh : decide ((H : Int) < (F : Int)) = true := by simp; omega
          have jfh2 : H < F := by omega
          go_wp2_with fail
          refine (HWI.out _).mono ?_
          rintro e w' ⟨rfl, rfl⟩
          go_wp2_with fail
          refine (quiet_x (works_ex _)).mono ?_
          rintro e w' ⟨rfl, y9, rfl⟩
          go_wp2
          go_ret
          exact ⟨rfl, HW_2.out y9⟩
set_option maxRecDepth 100000 in
set_option maxHeartbeats 30000000 in
theorem back_some_some (D : Bx) (p q : Option Addr) (c d A F G S n : Nat) (a3 : Int) (w : World) (hi : BxIn w w.heap.size D p q) (hr : rdy D (F : Int) = true) (hok : D.ok = true) (hF : F ≤ 40) (hA : A < D.n) (hG : 0 < G ∧ G ≤ 20) (hf : fsN (hasB D A G) 41 = some n) (hS : fsN (needB D A F G) 21 = some S) (hS1 : 1 ≤ S ∧ S ≤ 21) (hSn : ∀ u, u + 1 = S → needB D A F G u = false) (hSy : S ≤ 20 → needB D A F G S = true) :
    Calls Try.prog 14 #[.agg #[.slice p D.n c, .slice q D.m d], .agg #[.int .i64 (A : Int), .int .i64 (F : Int), .int .i64 a3, .int .i64 (G : Int)]] w fun e w' => e = .returned (.bool true) ∧ Below w.heap.size w w' := by
  obtain ⟨w1, x1, w2, x2, hw1, hw2, hb, hz, hB, hA', hI⟩ := start_ba D p q c d (A : Int) (F : Int) a3 (G : Int) w hi
  obtain ⟨n4, m4, _, _⟩ := rdy_parts hr
  obtain ⟨o1, o2, o3, o4⟩ := Bx.ok_parts hok
  have hn : D.n ≤ maxLen := by unfold maxLen; omega
  have hm : D.m ≤ maxLen := by unfold maxLen; omega
  have HB := Lib.hid hb; have HI_0 := Lib.hid hI; have HR := Lib.hid hr; have HOK := Lib.hid hok
  have HBX_0 := Lib.hid hB; have HAX_0 := Lib.hid hA'
  have HMN := Lib.hid o2
  have HQ := Lib.hid (show isQ D (A : Int) = true from isQ_iff.2 ⟨by omega, by omega⟩)
  have HSN := Lib.hid hSn; have HSY := Lib.hid hSy
  have HGG := Lib.hid (show ∀ V : World, Calls Try.prog 57 #[.int .i64 (G : Int)] V fun e w' => e = .returned (.bool true) ∧ V = w' from fun V => by
    have := isGaugesR_any (G : Int) V
    rw [within_tt (by omega) (by omega)] at this
    exact this)
  have HFR := Lib.hid (show ∀ (V : World) (p' q' : Option Addr) (c' d' : Nat), BxIn V V.heap.size D p' q' → Calls Try.prog 28 #[.agg #[.slice p' D.n c', .slice q' D.m d'], .int .i64 (A : Int), .int .i64 (G : Int)] V fun e w' => e = .returned (.tuple #[.int .i64 (n : Int), .int .i64 0]) ∧ Below V.heap.size V w' from fun V p' q' c' d' h => by
    have := fromP_ok D p' q' c' d' A G V hok hA hG h
    rw [hf] at this
    exact this)
  obtain ⟨mm, hn1, hm40, hnx, hgn, jl⟩ := from_spec hok hG.1 hf
  have HNX := Lib.hid hnx; have HGN := Lib.hid hgn
  have jn1 : decide ((n : Int) < 1) = false := by simp; omega
  have jn2 : decide (40 < (n : Int)) = false := by simp; omega
  have hn40 : n ≤ 40 := by omega
  have ewm : IntKind.i64.wrap ((n : Int) - 1) = (mm : Int) := by rw [IntWalk.i64_in _ (by omega)]; omega
  clear hf hnx hgn hn1
  have HND := Lib.hid (show ∀ (V : World) (p' q' : Option Addr) (c' d' : Nat), BxIn V V.heap.size D p' q' → Calls Try.prog 33 #[.agg #[.slice p' D.n c', .slice q' D.m d'], .int .i64 (A : Int), .int .i64 (F : Int), .int .i64 (G : Int)] V fun e w' => e = .returned (.tuple #[.int .i64 (S : Int), .int .i64 0]) ∧ Below V.heap.size V w' from fun V p' q' c' d' h => by
    have := needP_ok D p' q' c' d' A F G V hok hA hF hG h
    rw [hS] at this
    exact this)
  have HK1 := Lib.hid (show ∀ V : World, Calls Try.prog 48 #[.int .i64 0] V fun e w' => e = .returned (.bool true) ∧ V = w' from fun V => isKnown_any 0 V)
  have HK2 := Lib.hid (show ∀ V : World, Calls Try.prog 48 #[.int .i64 0] V fun e w' => e = .returned (.bool true) ∧ V = w' from fun V => isKnown_any 0 V)
  clear hS hSn hSy hI hB hA' hb hz hi hr hok o2 o3 o4
  obtain ⟨b1, of1, rfl, _, _⟩ := (HI_0.out x2).s (by omega)
  obtain ⟨b2, of2, rfl, _, _⟩ := (HI_0.out x2).o (by have := HMN.out; omega)
  have F0_0 : ∀ z : Ext w2, z.v.cell? ⟨w.heap.size, 0, none⟩ = some (.slice (some ⟨b1, of1, none⟩) D.n c) := fun z => (HBX_0.out z).c0
  have F1_0 : ∀ z : Ext w2, z.v.cell? ⟨w.heap.size, 1, none⟩ = some (.slice (some ⟨b2, of2, none⟩) D.m d) := fun z => (HBX_0.out z).c1
  have A0_0 : ∀ z : Ext w2, z.v.cell? ⟨x1.v.heap.size, 0, none⟩ = some (.int .i64 (A : Int)) := fun z => (HAX_0.out z).c0
  have A1_0 : ∀ z : Ext w2, z.v.cell? ⟨x1.v.heap.size, 1, none⟩ = some (.int .i64 (F : Int)) := fun z => (HAX_0.out z).c1
  have A2_0 : ∀ z : Ext w2, z.v.cell? ⟨x1.v.heap.size, 2, none⟩ = some (.int .i64 a3) := fun z => (HAX_0.out z).c2
  have A3_0 : ∀ z : Ext w2, z.v.cell? ⟨x1.v.heap.size, 3, none⟩ = some (.int .i64 (G : Int)) := fun z => (HAX_0.out z).c3
  have HW_0 : Hid (∀ z : Ext w2, Below w.heap.size w z.v) := fun z => bT HB.out z.b
  have hAn : (A : Int) < (D.n : Int) := by omega
  go_enter Try.func14, Try.ntmps14
  go_wp2_with fail
  refine (quiet_x (ready_is HR.out hn hm (HI_0.out _))).mono ?_
  rintro e w' ⟨rfl, y, rfl⟩
  go_wp2_with fail
  refine (quiet_x (isQR_is HQ.out n4)).mono ?_
  rintro e w' ⟨rfl, y1, rfl⟩
  go_wp2_with fail
  refine (HGG.out _).mono ?_
  rintro e w' ⟨rfl, rfl⟩
  go_wp2_with fail
  refine (quiet_x (HFR.out _ _ _ _ _ (HI_0.out _))).mono ?_
  rintro e w' ⟨rfl, y2, rfl⟩
  go_wp2_with fail
  refine (gaugesL_any D (some ⟨b1, of1, none⟩) (some ⟨b2, of2, none⟩) c d 40 _ HOK.out (by omega) (HI_0.out _)).mono ?_
  rintro e wl ⟨gl, glc, rfl, hcgl⟩
  have HXwl := Lib.hid (bT y2.b hcgl.below); have HNgl0 := Lib.hid hcgl.num
  obtain ⟨zwl, hzwl⟩ := rebase wl
  clear hcgl
  have HI_1 : Hid (∀ z : Ext wl, BxIn z.v z.v.heap.size D (some ⟨b1, of1, none⟩) (some ⟨b2, of2, none⟩)) := fun z => HI_0.out (z.up HXwl.out)
  have HBX_1 : Hid (∀ z : Ext wl, BoxAt z.v w.heap.size D (some ⟨b1, of1, none⟩) (some ⟨b2, of2, none⟩) c d) := fun z => HBX_0.out (z.up HXwl.out)
  have HAX_1 : Hid (∀ z : Ext wl, AskAt z.v x1.v.heap.size (A : Int) (F : Int) a3 (G : Int)) := fun z => HAX_0.out (z.up HXwl.out)
  have F0_1 : ∀ z : Ext wl, z.v.cell? ⟨w.heap.size, 0, none⟩ = some (.slice (some ⟨b1, of1, none⟩) D.n c) := fun z => F0_0 (z.up HXwl.out)
  have F1_1 : ∀ z : Ext wl, z.v.cell? ⟨w.heap.size, 1, none⟩ = some (.slice (some ⟨b2, of2, none⟩) D.m d) := fun z => F1_0 (z.up HXwl.out)
  have A0_1 : ∀ z : Ext wl, z.v.cell? ⟨x1.v.heap.size, 0, none⟩ = some (.int .i64 (A : Int)) := fun z => A0_0 (z.up HXwl.out)
  have A1_1 : ∀ z : Ext wl, z.v.cell? ⟨x1.v.heap.size, 1, none⟩ = some (.int .i64 (F : Int)) := fun z => A1_0 (z.up HXwl.out)
  have A2_1 : ∀ z : Ext wl, z.v.cell? ⟨x1.v.heap.size, 2, none⟩ = some (.int .i64 a3) := fun z => A2_0 (z.up HXwl.out)
  have A3_1 : ∀ z : Ext wl, z.v.cell? ⟨x1.v.heap.size, 3, none⟩ = some (.int .i64 (G : Int)) := fun z => A3_0 (z.up HXwl.out)
  have HW_1 : Hid (∀ z : Ext wl, Below w.heap.size w z.v) := fun z => HW_0.out (z.up HXwl.out)
  clear HI_0 HBX_0 HAX_0 F0_0 F1_0 A0_0 A1_0 A2_0 A3_0 HW_0
  have Ngl_1 : Hid (∀ z : Ext wl, NumIn z.v z.v.heap.size D.n (gv D 40) gl) := fun z => HNgl0.out.bel z.b
  rw [hzwl]; clear hzwl
  clear hw1 hw2
  obtain ⟨gl0, glo, rfl, _, _⟩ := Ngl_1.out zwl (by omega)
  have L1 : ∀ z : Ext wl, z.v.cell? ⟨gl0, glo + A, none⟩ = some (.int .i64 (gv D 40 A)) := fun z => ((Ngl_1.out z).cell hA).2
  go_wp2
  refine quiet_e (by kernel_rfl) (by kernel_rfl) ?_
  repeat (first | go_big_quiet_step ((first | (go_at_call 48; exact quiet_s (HK1.out _)))) | quiet_step ((first | (go_at_call 48; exact quiet_s (HK1.out _)))))
  refine wpQuiet_nil ?_
  intro w6 hw6
  obtain ⟨y3, rfl⟩ := hw6
  clear L1 jl
  go_wp2_with fail
  refine (gaugesL_any D (some ⟨b1, of1, none⟩) (some ⟨b2, of2, none⟩) c d n _ HOK.out hn40 (HI_1.out _)).mono ?_
  rintro e wm ⟨gm, gmc, rfl, hcgm⟩
  have HXwm := Lib.hid (bT y3.b hcgm.below); have HNgm0 := Lib.hid hcgm.num
  obtain ⟨zwm, hzwm⟩ := rebase wm
  clear hcgm
  have HI_2 : Hid (∀ z : Ext wm, BxIn z.v z.v.heap.size D (some ⟨b1, of1, none⟩) (some ⟨b2, of2, none⟩)) := fun z => HI_1.out (z.up HXwm.out)
  have HBX_2 : Hid (∀ z : Ext wm, BoxAt z.v w.heap.size D (some ⟨b1, of1, none⟩) (some ⟨b2, of2, none⟩) c d) := fun z => HBX_1.out (z.up HXwm.out)
  have HAX_2 : Hid (∀ z : Ext wm, AskAt z.v x1.v.heap.size (A : Int) (F : Int) a3 (G : Int)) := fun z => HAX_1.out (z.up HXwm.out)
  have F0_2 : ∀ z : Ext wm, z.v.cell? ⟨w.heap.size, 0, none⟩ = some (.slice (some ⟨b1, of1, none⟩) D.n c) := fun z => F0_1 (z.up HXwm.out)
  have F1_2 : ∀ z : Ext wm, z.v.cell? ⟨w.heap.size, 1, none⟩ = some (.slice (some ⟨b2, of2, none⟩) D.m d) := fun z => F1_1 (z.up HXwm.out)
  have A0_2 : ∀ z : Ext wm, z.v.cell? ⟨x1.v.heap.size, 0, none⟩ = some (.int .i64 (A : Int)) := fun z => A0_1 (z.up HXwm.out)
  have A1_2 : ∀ z : Ext wm, z.v.cell? ⟨x1.v.heap.size, 1, none⟩ = some (.int .i64 (F : Int)) := fun z => A1_1 (z.up HXwm.out)
  have A2_2 : ∀ z : Ext wm, z.v.cell? ⟨x1.v.heap.size, 2, none⟩ = some (.int .i64 a3) := fun z => A2_1 (z.up HXwm.out)
  have A3_2 : ∀ z : Ext wm, z.v.cell? ⟨x1.v.heap.size, 3, none⟩ = some (.int .i64 (G : Int)) := fun z => A3_1 (z.up HXwm.out)
  have HW_2 : Hid (∀ z : Ext wm, Below w.heap.size w z.v) := fun z => HW_1.out (z.up HXwm.out)
  have Ngl_2 : Hid (∀ z : Ext wm, NumIn z.v z.v.heap.size D.n (gv D 40) (some ⟨gl0, glo, none⟩)) := fun z => Ngl_1.out (z.up HXwm.out)
  clear HI_1 HBX_1 HAX_1 F0_1 F1_1 A0_1 A1_1 A2_1 A3_1 HW_1 Ngl_1
  have Ngm_2 : Hid (∀ z : Ext wm, NumIn z.v z.v.heap.size D.n (gv D n) gm) := fun z => HNgm0.out.bel z.b
  rw [hzwm]; clear hzwm
  obtain ⟨gm0, gmo, rfl, _, _⟩ := Ngm_2.out zwm (by omega)
  have L2 : ∀ z : Ext wm, z.v.cell? ⟨gm0, gmo + A, none⟩ = some (.int .i64 (G : Int)) := fun z => by rw [← HGN.out]; exact ((Ngm_2.out z).cell hA).2
  go_wp2_with fail
  refine (quiet_x (turn_some HNX.out HOK.out hm40 (HI_2.out _))).mono ?_
  rintro e w' ⟨rfl, y4, rfl⟩
  go_wp2
  refine quiet_e (by kernel_rfl) (by kernel_rfl) ?_
  repeat (first | go_big_quiet_step (fail) | quiet_step (fail))
  refine wpQuiet_nil ?_
  intro w6 hw6
  obtain ⟨y5, rfl⟩ := hw6
  clear L2 jn1 jn2 ewm
  go_wp2_with fail
  refine (quiet_x (HND.out _ _ _ _ _ (HI_2.out _))).mono ?_
  rintro e w' ⟨rfl, y6, rfl⟩
  go_wp2_with fail
  refine (HK2.out _).mono ?_
  rintro e w' ⟨rfl, rfl⟩
  have js1 : IntKind.i64.wrap ((S : Int) - 1) = ((S - 1 : Nat) : Int) := by rw [IntWalk.i64_in _ (by omega)]; omega
  have js2 : decide ((S : Int) < 1) = false := by simp; omega
  have js3 : decide (21 < (S : Int)) = false := by simp; omega
  obtain ⟨mn, hmn⟩ : ∃ mn : Nat, min S 20 = mn := ⟨_, rfl⟩
  have hmnb : S - 1 ≤ mn ∧ mn ≤ 20 ∧ mn ≤ S ∧ mn + 1 ≤ S + 1 := by omega
  have hm1 : (if (S : Int) < 20 then (S : Int) else 20) = (mn : Int) := by split <;> omega
  have hm2 : (if 20 < (S : Int) then 20 else (S : Int)) = (mn : Int) := by split <;> omega
  go_wp2
  clear js1 js2 js3
  go_loopw [15] (fun i wr => ∃ u : Nat, i = .int .i64 (u : Int) ∧ S - 1 ≤ u ∧ u ≤ mn + 1 ∧ ∃ z : Ext wm, wr = z.v) (fun i _ => mn + 1 - (intOf i).toNat)
  case atStart => exact ⟨S - 1, by first | rfl | (simp; done), Nat.le_refl _, by omega, y6, rfl⟩
  case round =>
    obtain ⟨u, rfl, hu1, hu2, z, rfl⟩ := hrel
    by_cases hlt : u ≤ mn
    · have hum : (u : Int) ≤ (mn : Int) := by omega
      have hoks := Bx.setSh_ok HOK.out A (v := (u : Int)) ⟨by omega, by omega⟩
      have HGL := Lib.hid (show ∀ (V : World) (p' q' : Option Addr) (c' d' : Nat), BxIn V V.heap.size (D.setSh A (u : Int)) p' q' → Calls Try.prog 47 #[.agg #[.slice p' D.n c', .slice q' D.m d'], .int .i64 (F : Int)] V fun e w' => ∃ y c', e = .returned (.tuple #[.slice y D.n c', .bool true]) ∧ New V w' D.n (gv (D.setSh A (u : Int)) F) y from
        fun V p' q' c' d' h => gaugesL_any (D.setSh A (u : Int)) p' q' c' d' F V hoks hF h)
      obtain ⟨gg, hgg⟩ : ∃ gg, gv (D.setSh A (u : Int)) F = gg := ⟨_, rfl⟩
      have hnb : needB D A F G u = decide ((G : Int) ≤ gg A) := by unfold needB; rw [hgg]
      rw [hgg] at HGL
      have HNB := Lib.hid hnb
      clear hoks hgg hnb
      go_wp2
      refine wp_region_lastE 12 (by kernel_rfl) rfl (fun ys => ?_)
      refine wpAnyG_take (i := 0) (v := ?_) (by kernel_rfl) rfl (by kernel_rfl) (by kernel_rfl) (by kernel_rfl) (fun _ _ _ h => h) (Or.inl ⟨by rfl, ?_⟩) ⟨_, rfl⟩ ?_
      rotate_left
      · rintro wS ⟨yS, rfl⟩
        go_simp
        try (with_reducible rfl)
      try simp only [Act.put, List.setIfInBounds_toArray, List.set_cons_zero, List.set_cons_succ]
      refine wpAnyG_take (i := 1) (v := ?_) (by kernel_rfl) rfl (by kernel_rfl) (by kernel_rfl) (by kernel_rfl) (fun _ _ _ h => h) (Or.inl ⟨by rfl, ?_⟩) ⟨_, rfl⟩ ?_
      rotate_left
      · rintro wS ⟨yS, rfl⟩
        go_simp
        try (with_reducible rfl)
      try simp only [Act.put, List.setIfInBounds_toArray, List.set_cons_zero, List.set_cons_succ]
      refine wpAnyG_take (i := 2) (v := ?_) (by kernel_rfl) rfl (by kernel_rfl) (by kernel_rfl) (by kernel_rfl) (fun _ _ _ h => h) (Or.inl ⟨by rfl, ?_⟩) ⟨_, rfl⟩ ?_
      rotate_left
      · rintro wS ⟨yS, rfl⟩
        go_simp
        try (with_reducible rfl)
      try simp only [Act.put, List.setIfInBounds_toArray, List.set_cons_zero, List.set_cons_succ]
      refine wpAnyG_take (i := 3) (v := ?_) (by kernel_rfl) rfl (by kernel_rfl) (by kernel_rfl) (by kernel_rfl) (fun _ _ _ h => h) (Or.inl ⟨by rfl, ?_⟩) ⟨_, rfl⟩ ?_
      rotate_left
      · rintro wS ⟨yS, rfl⟩
        go_simp
        try (with_reducible rfl)
      try simp only [Act.put, List.setIfInBounds_toArray, List.set_cons_zero, List.set_cons_succ]
      refine wpAnyG_take (i := 5) (v := ?_) (by kernel_rfl) rfl (by kernel_rfl) (by kernel_rfl) (by kernel_rfl) (fun _ _ _ h => h) (Or.inl ⟨by rfl, ?_⟩) ⟨_, rfl⟩ ?_
      rotate_left
      · rintro wS ⟨yS, rfl⟩
        go_simp
        try (with_reducible rfl)
      try simp only [Act.put, List.setIfInBounds_toArray, List.set_cons_zero, List.set_cons_succ]
      refine wpAnyG_take (i := 6) (v := ?_) (by kernel_rfl) rfl (by kernel_rfl) (by kernel_rfl) (by kernel_rfl) (fun _ _ _ h => h) (Or.inl ⟨by rfl, ?_⟩) ⟨_, rfl⟩ ?_
      rotate_left
      · rintro wS ⟨yS, rfl⟩
        go_simp
        try (with_reducible rfl)
      try simp only [Act.put, List.setIfInBounds_toArray, List.set_cons_zero, List.set_cons_succ]
      refine wpAnyG_one (i := 4) (by kernel_rfl) (by decide) (wpOp_plain rfl rfl ?_)
      go_simp
      go_at_call 53
      refine (shared_any D (some ⟨b1, of1, none⟩) (some ⟨b2, of2, none⟩) c d A (u : Int) _ n4 HMN.out hA (HI_2.out _)).mono ?_
      rintro e w' ⟨p', c', q', d', rfl, hbs, hin⟩
      obtain ⟨yt, rfl⟩ : ∃ zz : Ext wm, w' = zz.v := ⟨⟨_, bT (Ext.b _) hbs⟩, rfl⟩
      have HIN := Lib.hid hin
      clear hbs hin
      refine ⟨⟨_, rfl⟩, ?_⟩
      try simp only [Act.put, List.setIfInBounds_toArray, List.set_cons_zero, List.set_cons_succ]
      refine wpAnyG_one (i := 7) (by kernel_rfl) (by decide) (wpOp_plain rfl rfl ?_)
      go_simp
      go_at_call 47
      refine (HGL.out _ p' q' c' d' HIN.out).mono ?_
      rintro e w' ⟨yg, yc, rfl, hcg⟩
      obtain ⟨yu, hyu⟩ : ∃ zz : Ext wm, w' = zz.v := ⟨⟨_, bT yt.b hcg.below⟩, rfl⟩
      have hng := hcg.num
      rw [hyu] at hng ⊢
      have HNG : Hid (∀ z : Ext yu.v, NumIn z.v z.v.heap.size D.n gg yg) := fun z => hng.bel z.b
      clear hcg hng hyu
      refine ⟨⟨_, rfl⟩, ?_⟩
      try simp only [Act.put, List.setIfInBounds_toArray, List.set_cons_zero, List.set_cons_succ]
      refine wpAnyG_take (i := 8) (v := ?_) (by kernel_rfl) rfl (by kernel_rfl) (by kernel_rfl) (by kernel_rfl) (fun _ _ _ h => h) (Or.inl ⟨by rfl, ?_⟩) ⟨_, rfl⟩ ?_
      rotate_left
      · rintro wS ⟨yS, rfl⟩
        go_simp
        try (with_reducible rfl)
      try simp only [Act.put, List.setIfInBounds_toArray, List.set_cons_zero, List.set_cons_succ]
      refine wpAnyG_take (i := 9) (v := ?_) (by kernel_rfl) rfl (by kernel_rfl) (by kernel_rfl) (by kernel_rfl) (fun _ _ _ h => h) (Or.inl ⟨by rfl, ?_⟩) ⟨_, rfl⟩ ?_
      rotate_left
      · rintro wS ⟨yS, rfl⟩
        go_simp
        try (with_reducible rfl)
      try simp only [Act.put, List.setIfInBounds_toArray, List.set_cons_zero, List.set_cons_succ]
      refine wpAnyG_take (i := 10) (v := ?_) (by kernel_rfl) rfl (by kernel_rfl) (by kernel_rfl) (by kernel_rfl) (fun _ _ _ h => h) (Or.inl ⟨by rfl, ?_⟩) ⟨_, rfl⟩ ?_
      rotate_left
      · rintro wS ⟨yS, rfl⟩
        go_simp
        try (with_reducible rfl)
      try simp only [Act.put, List.setIfInBounds_toArray, List.set_cons_zero, List.set_cons_succ]
      refine wpAnyG_take (i := 11) (v := ?_) (by kernel_rfl) rfl (by kernel_rfl) (by kernel_rfl) (by kernel_rfl) (fun _ _ _ h => h) (Or.inl ⟨by rfl, ?_⟩) ⟨_, rfl⟩ ?_
      rotate_left
      · rintro wS ⟨yS, rfl⟩
        go_simp
        try (with_reducible rfl)
      try simp only [Act.put, List.setIfInBounds_toArray, List.set_cons_zero, List.set_cons_succ]
      refine wpAnyG_done (by kernel_rfl) (by kernel_rfl) (wpOp_plain rfl rfl ?_)
      go_simp
      obtain ⟨g0, go, rfl, _, _⟩ := HNG.out ⟨yu.v, Below.refl _ _⟩ (by omega)
      have K0 : ∀ z : Ext yu.v, z.v.cell? ⟨g0, go + A, none⟩ = some (.int .i64 (gg A)) := fun z => ((HNG.out z).cell hA).2
      have KA0 : ∀ z : Ext yu.v, z.v.cell? ⟨x1.v.heap.size, 0, none⟩ = some (.int .i64 (A : Int)) := fun z => A0_2 (z.up yu.b)
      have KA3 : ∀ z : Ext yu.v, z.v.cell? ⟨x1.v.heap.size, 3, none⟩ = some (.int .i64 (G : Int)) := fun z => A3_2 (z.up yu.b)
      obtain ⟨zu, hzu⟩ := rebase yu.v
      rw [hzu]
      clear hzu
      by_cases hus : u = S
      · have jge : decide ((G : Int) ≤ gg A) = true := by rw [← HNB.out, hus]; exact HSY.out (by omega)
        have jeq : ((u : Int) == (S : Int)) = true := by simp; omega
        clear hus
        go_wp2
        refine quiet_e (by kernel_rfl) (by kernel_rfl) ?_
        repeat (first | go_big_quiet_step (fail) | quiet_step (fail))
        refine wpQuiet_nil ?_
        intro w6 hw6
        obtain ⟨y8, rfl⟩ := hw6
        go_wp2
        go_roundw
        case rel => exact ⟨u + 1, by go_num, by omega, by omega, ⟨y8.v, bT yu.b y8.b⟩, rfl⟩
        case measure => first | (simp [intOf]; done) | (simp [intOf]; omega)
      · have jge : decide ((G : Int) ≤ gg A) = false := by rw [← HNB.out]; exact HSN.out u (by omega)
        have jeq : ((u : Int) == (S : Int)) = false := by simp; omega
        clear hus
        go_wp2
        refine quiet_e (by kernel_rfl) (by kernel_rfl) ?_
        repeat (first | go_big_quiet_step (fail) | quiet_step (fail))
        refine wpQuiet_nil ?_
        intro w6 hw6
        obtain ⟨y8, rfl⟩ := hw6
        go_wp2
        go_roundw
        case rel => exact ⟨u + 1, by go_num, by omega, by omega, ⟨y8.v, bT yu.b y8.b⟩, rfl⟩
        case measure => first | (simp [intOf]; done) | (simp [intOf]; omega)
    · have jle : decide ((u : Int) ≤ (mn : Int)) = false := by simp; omega
      have jle2 : ¬ (u : Int) ≤ (mn : Int) := by omega
      cases hwi : within a3 0 40 with
      | false =>
        have HWI := Lib.hid (show ∀ V' : World, Calls Try.prog 58 #[.int .i64 a3] V' fun e w' => e = .returned (.bool false) ∧ V' = w' from fun V' => by
          have := isFlowR_any a3 V'
          rw [hwi] at this
          exact this)
        clear hwi
        go_wp2_with fail
        refine (HWI.out _).mono ?_
        rintro e w' ⟨rfl, rfl⟩
        go_wp2_with fail
        refine (quiet_x (works_ex _)).mono ?_
        rintro e w' ⟨rfl, y9, rfl⟩
        go_wp2
        go_ret
        exact ⟨rfl, HW_2.out y9⟩
      | true =>
        have HWI := Lib.hid (show ∀ V' : World, Calls Try.prog 58 #[.int .i64 a3] V' fun e w' => e = .returned (.bool true) ∧ V' = w' from fun V' => by
          have := isFlowR_any a3 V'
          rw [hwi] at this
          exact this)
        have hHb := within_iff.1 hwi
        obtain ⟨H, rfl⟩ : ∃ H : Nat, a3 = (H : Int) := ⟨a3.toNat, by omega⟩
        have hH40 : H ≤ 40 := by omega
        clear hwi hHb
        by_cases hfh : F ≤ H
        · have jfh : decide ((H : Int) < (F : Int)) = false := by simp; omega
          have jfh2 : ¬ H < F := by omega
          go_wp2_with fail
          refine (HWI.out _).mono ?_
          rintro e w' ⟨rfl, rfl⟩
          clear A0_2
          clear A3_2
          go_wp2_with fail
          refine (betweenP_ok D (some ⟨b1, of1, none⟩) (some ⟨b2, of2, none⟩) c d F H _ HOK.out hfh hH40 (HI_2.out _)).mono ?_
          rintro e ws ⟨gs, gsc, rfl, hbs, hps⟩
          have HXws := Lib.hid (bT z.b hbs); have HPS0 := Lib.hid hps
          obtain ⟨zws, hzws⟩ := rebase ws
          clear hbs hps
          have HI_3 : Hid (∀ z : Ext ws, BxIn z.v z.v.heap.size D (some ⟨b1, of1, none⟩) (some ⟨b2, of2, none⟩)) := fun z => HI_2.out (z.up HXws.out)
          have HBX_3 : Hid (∀ z : Ext ws, BoxAt z.v w.heap.size D (some ⟨b1, of1, none⟩) (some ⟨b2, of2, none⟩) c d) := fun z => HBX_2.out (z.up HXws.out)
          have HAX_3 : Hid (∀ z : Ext ws, AskAt z.v x1.v.heap.size (A : Int) (F : Int) (H : Int) (G : Int)) := fun z => HAX_2.out (z.up HXws.out)
          have F0_3 : ∀ z : Ext ws, z.v.cell? ⟨w.heap.size, 0, none⟩ = some (.slice (some ⟨b1, of1, none⟩) D.n c) := fun z => F0_2 (z.up HXws.out)
          have F1_3 : ∀ z : Ext ws, z.v.cell? ⟨w.heap.size, 1, none⟩ = some (.slice (some ⟨b2, of2, none⟩) D.m d) := fun z => F1_2 (z.up HXws.out)
          have A1_3 : ∀ z : Ext ws, z.v.cell? ⟨x1.v.heap.size, 1, none⟩ = some (.int .i64 (F : Int)) := fun z => A1_2 (z.up HXws.out)
          have A2_3 : ∀ z : Ext ws, z.v.cell? ⟨x1.v.heap.size, 2, none⟩ = some (.int .i64 (H : Int)) := fun z => A2_2 (z.up HXws.out)
          have HW_3 : Hid (∀ z : Ext ws, Below w.heap.size w z.v) := fun z => HW_2.out (z.up HXws.out)
          have Ngl_3 : Hid (∀ z : Ext ws, NumIn z.v z.v.heap.size D.n (gv D 40) (some ⟨gl0, glo, none⟩)) := fun z => Ngl_2.out (z.up HXws.out)
          have Ngm_3 : Hid (∀ z : Ext ws, NumIn z.v z.v.heap.size D.n (gv D n) (some ⟨gm0, gmo, none⟩)) := fun z => Ngm_2.out (z.up HXws.out)
          clear HI_2 HBX_2 HAX_2 F0_2 F1_2 A1_2 A2_2 HW_2 Ngl_2 Ngm_2
          have Pgs_3 : Hid (∀ z : Ext ws, PairIn z.v z.v.heap.size D.n (gv D F) (gv D H) gs) := fun z => HPS0.out.bel z.b
          rw [hzws]; clear hzws
          go_wp2_with fail
          refine (gaugesL_any D (some ⟨b1, of1, none⟩) (some ⟨b2, of2, none⟩) c d F _ HOK.out hF (HI_3.out _)).mono ?_
          rintro e wp ⟨gp, gpc, rfl, hcgp⟩
          have HXwp := Lib.hid (bT zws.b hcgp.below); have HNgp0 := Lib.hid hcgp.num
          obtain ⟨zwp, hzwp⟩ := rebase wp
          clear hcgp
          have HI_4 : Hid (∀ z : Ext wp, BxIn z.v z.v.heap.size D (some ⟨b1, of1, none⟩) (some ⟨b2, of2, none⟩)) := fun z => HI_3.out (z.up HXwp.out)
          have HBX_4 : Hid (∀ z : Ext wp, BoxAt z.v w.heap.size D (some ⟨b1, of1, none⟩) (some ⟨b2, of2, none⟩) c d) := fun z => HBX_3.out (z.up HXwp.out)
          have HAX_4 : Hid (∀ z : Ext wp, AskAt z.v x1.v.heap.size (A : Int) (F : Int) (H : Int) (G : Int)) := fun z => HAX_3.out (z.up HXwp.out)
          have F0_4 : ∀ z : Ext wp, z.v.cell? ⟨w.heap.size, 0, none⟩ = some (.slice (some ⟨b1, of1, none⟩) D.n c) := fun z => F0_3 (z.up HXwp.out)
          have F1_4 : ∀ z : Ext wp, z.v.cell? ⟨w.heap.size, 1, none⟩ = some (.slice (some ⟨b2, of2, none⟩) D.m d) := fun z => F1_3 (z.up HXwp.out)
          have A1_4 : ∀ z : Ext wp, z.v.cell? ⟨x1.v.heap.size, 1, none⟩ = some (.int .i64 (F : Int)) := fun z => A1_3 (z.up HXwp.out)
          have A2_4 : ∀ z : Ext wp, z.v.cell? ⟨x1.v.heap.size, 2, none⟩ = some (.int .i64 (H : Int)) := fun z => A2_3 (z.up HXwp.out)
          have HW_4 : Hid (∀ z : Ext wp, Below w.heap.size w z.v) := fun z => HW_3.out (z.up HXwp.out)
          have Ngl_4 : Hid (∀ z : Ext wp, NumIn z.v z.v.heap.size D.n (gv D 40) (some ⟨gl0, glo, none⟩)) := fun z => Ngl_3.out (z.up HXwp.out)
          have Ngm_4 : Hid (∀ z : Ext wp, NumIn z.v z.v.heap.size D.n (gv D n) (some ⟨gm0, gmo, none⟩)) := fun z => Ngm_3.out (z.up HXwp.out)
          have Pgs_4 : Hid (∀ z : Ext wp, PairIn z.v z.v.heap.size D.n (gv D F) (gv D H) gs) := fun z => Pgs_3.out (z.up HXwp.out)
          clear HI_3 HBX_3 HAX_3 F0_3 F1_3 A1_3 A2_3 HW_3 Ngl_3 Ngm_3 Pgs_3
          have Ngp_4 : Hid (∀ z : Ext wp, NumIn z.v z.v.heap.size D.n (gv D F) gp) := fun z => HNgp0.out.bel z.b
          rw [hzwp]; clear hzwp
          go_wp2_with fail
          refine (gaugesL_any D (some ⟨b1, of1, none⟩) (some ⟨b2, of2, none⟩) c d H _ HOK.out hH40 (HI_4.out _)).mono ?_
          rintro e wq ⟨gq, gqc, rfl, hcgq⟩
          have HXwq := Lib.hid (bT zwp.b hcgq.below); have HNgq0 := Lib.hid hcgq.num
          obtain ⟨zwq, hzwq⟩ := rebase wq
          clear hcgq
          have HI_5 : Hid (∀ z : Ext wq, BxIn z.v z.v.heap.size D (some ⟨b1, of1, none⟩) (some ⟨b2, of2, none⟩)) := fun z => HI_4.out (z.up HXwq.out)
          have HBX_5 : Hid (∀ z : Ext wq, BoxAt z.v w.heap.size D (some ⟨b1, of1, none⟩) (some ⟨b2, of2, none⟩) c d) := fun z => HBX_4.out (z.up HXwq.out)
          have HAX_5 : Hid (∀ z : Ext wq, AskAt z.v x1.v.heap.size (A : Int) (F : Int) (H : Int) (G : Int)) := fun z => HAX_4.out (z.up HXwq.out)
          have F0_5 : ∀ z : Ext wq, z.v.cell? ⟨w.heap.size, 0, none⟩ = some (.slice (some ⟨b1, of1, none⟩) D.n c) := fun z => F0_4 (z.up HXwq.out)
          have F1_5 : ∀ z : Ext wq, z.v.cell? ⟨w.heap.size, 1, none⟩ = some (.slice (some ⟨b2, of2, none⟩) D.m d) := fun z => F1_4 (z.up HXwq.out)
          have A1_5 : ∀ z : Ext wq, z.v.cell? ⟨x1.v.heap.size, 1, none⟩ = some (.int .i64 (F : Int)) := fun z => A1_4 (z.up HXwq.out)
          have A2_5 : ∀ z : Ext wq, z.v.cell? ⟨x1.v.heap.size, 2, none⟩ = some (.int .i64 (H : Int)) := fun z => A2_4 (z.up HXwq.out)
          have HW_5 : Hid (∀ z : Ext wq, Below w.heap.size w z.v) := fun z => HW_4.out (z.up HXwq.out)
          have Ngl_5 : Hid (∀ z : Ext wq, NumIn z.v z.v.heap.size D.n (gv D 40) (some ⟨gl0, glo, none⟩)) := fun z => Ngl_4.out (z.up HXwq.out)
          have Ngm_5 : Hid (∀ z : Ext wq, NumIn z.v z.v.heap.size D.n (gv D n) (some ⟨gm0, gmo, none⟩)) := fun z => Ngm_4.out (z.up HXwq.out)
          have Pgs_5 : Hid (∀ z : Ext wq, PairIn z.v z.v.heap.size D.n (gv D F) (gv D H) gs) := fun z => Pgs_4.out (z.up HXwq.out)
          have Ngp_5 : Hid (∀ z : Ext wq, NumIn z.v z.v.heap.size D.n (gv D F) gp) := fun z => Ngp_4.out (z.up HXwq.out)
          clear HI_4 HBX_4 HAX_4 F0_4 F1_4 A1_4 A2_4 HW_4 Ngl_4 Ngm_4 Pgs_4 Ngp_4
          have Ngq_5 : Hid (∀ z : Ext wq, NumIn z.v z.v.heap.size D.n (gv D H) gq) := fun z => HNgq0.out.bel z.b
          rw [hzwq]; clear hzwq
          go_wp2
          go_loopw [24] (fun i wr => ∃ k : Nat, i = .int .i64 k ∧ k ≤ D.n ∧ ∃ z : Ext wq, wr = z.v) (fun i _ => D.n - (intOf i).toNat)
          case atStart => exact ⟨0, rfl, Nat.zero_le _, zwq, rfl⟩
          case round =>
            obtain ⟨k3, rfl, hk3, z3, rfl⟩ := hrel
            by_cases hlt3 : k3 < D.n
            · obtain ⟨gs0, rfl, _, _⟩ := (Pgs_5.out z3) (by omega)
              obtain ⟨gp0, gpo, rfl, _, _⟩ := (Ngp_5.out z3) (by omega)
              obtain ⟨gq0, gqo, rfl, _, _⟩ := (Ngq_5.out z3) (by omega)
              have EP : ∀ z : Ext wq, z.v.cell? ⟨gs0, k3 * 2, none⟩ = some (.int .i64 (gv D F k3)) ∧ z.v.cell? ⟨gs0, k3 * 2 + 1, none⟩ = some (.int .i64 (gv D H k3)) := fun z => by
                obtain ⟨g', e, _, hc⟩ := (Pgs_5.out z) (by omega)
                have e2 : gs0 = g' := by simpa using e
                subst e2
                exact hc k3 hlt3
              have E0 : ∀ z : Ext wq, z.v.cell? ⟨gs0, k3 * 2, none⟩ = some (.int .i64 (gv D F k3)) := fun z => (EP z).1
              have E1 : ∀ z : Ext wq, z.v.cell? ⟨gs0, k3 * 2 + 1, none⟩ = some (.int .i64 (gv D H k3)) := fun z => (EP z).2
              have E2 : ∀ z : Ext wq, z.v.cell? ⟨gp0, gpo + k3, none⟩ = some (.int .i64 (gv D F k3)) := fun z => ((Ngp_5.out z).cell hlt3).2
              have E3 : ∀ z : Ext wq, z.v.cell? ⟨gq0, gqo + k3, none⟩ = some (.int .i64 (gv D H k3)) := fun z => ((Ngq_5.out z).cell hlt3).2
              have hkm : (k3 : Int) < (D.n : Int) := by omega
              have hnp := fun w => neq_span (gv D F k3) (gv D H k3) w
              clear EP
              go_wp2
              refine quiet_e (by kernel_rfl) (by kernel_rfl) ?_
              repeat (first | go_big_quiet_step (fail) | quiet_step (fail))
              refine wpQuiet_nil ?_
              intro w6 hw6
              obtain ⟨y8, rfl⟩ := hw6
              go_wp2
              go_roundw
              case rel => exact ⟨k3 + 1, by go_num, hlt3, y8, rfl⟩
              case measure => first | (simp [intOf]; done) | (simp [intOf]; omega)
            · have j3 : decide ((k3 : Int) < (D.n : Int)) = false := by simp; omega
              go_wp2_with fail
              refine (quiet_x (works_ex _)).mono ?_
              rintro e w' ⟨rfl, y9, rfl⟩
              go_wp2
              go_ret
              exact ⟨rfl, HW_5.out y9⟩
        · have jfh : decide ((H : Int) < (F : Int)) = true := by simp; omega
          have jfh2 : H < F := by omega
          go_wp2_with fail
          refine (HWI.out _).mono ?_
          rintro e w' ⟨rfl, rfl⟩
          go_wp2_with fail
          refine (quiet_x (works_ex _)).mono ?_
          rintro e w' ⟨rfl, y9, rfl⟩
          go_wp2
          go_ret
          exact ⟨rfl, HW_2.out y9⟩
theorem back_law (D : Bx) (p q : Option Addr) (c d : Nat) (a1 a2 a3 a4 : Int) (w : World) (hn : D.n ≤ maxLen) (hm : D.m ≤ maxLen) (hi : BxIn w w.heap.size D p q) :
    Calls Try.prog 14 #[.agg #[.slice p D.n c, .slice q D.m d], .agg #[.int .i64 a1, .int .i64 a2, .int .i64 a3, .int .i64 a4]] w fun e w' => e = .returned (.bool true) ∧ Below w.heap.size w w' := by
  cases hr : rdy D a2 with
  | false => exact back_out1 D p q c d a1 a2 a3 a4 w hn hm hi hr
  | true =>
    obtain ⟨_, _, hok, F, rfl, hF⟩ := rdy_parts hr
    cases hq : isQ D a1 with
    | false => exact back_out2 D p q c d a1 (F : Int) a3 a4 w hn hm hi hr hq
    | true =>
      cases hg : within a4 1 20 with
      | false => exact back_out3 D p q c d a1 (F : Int) a3 a4 w hn hm hi hr hq hg
      | true =>
        obtain ⟨A, rfl, hA⟩ := isQ_nat hq
        have hgb := within_iff.1 hg
        obtain ⟨G, rfl⟩ : ∃ G : Nat, a4 = (G : Int) := ⟨a4.toNat, by omega⟩
        have hG : 0 < G ∧ G ≤ 20 := ⟨by omega, by omega⟩
        obtain ⟨S, s1, s2, s3, s4, s5⟩ := need_spec (D := D) (A := A) (F := F) (G := G) hok hG.1
        cases hf : fsN (hasB D A G) 41 with
        | none =>
          rcases s5 with ⟨h, h21⟩ | h
          · exact back_none_none D p q c d A F G S a3 w hi hr hok hF hA hG hf h h21 ⟨s1, s2⟩ s3 s4
          · exact back_none_some D p q c d A F G S a3 w hi hr hok hF hA hG hf h ⟨s1, s2⟩ s3 s4
        | some n =>
          rcases s5 with ⟨h, h21⟩ | h
          · exact back_some_none D p q c d A F G S n a3 w hi hr hok hF hA hG hf h h21 ⟨s1, s2⟩ s3 s4
          · exact back_some_some D p q c d A F G S n a3 w hi hr hok hF hA hG hf h ⟨s1, s2⟩ s3 s4
end Go.Proofs.Ythbicbmlbblflaa
