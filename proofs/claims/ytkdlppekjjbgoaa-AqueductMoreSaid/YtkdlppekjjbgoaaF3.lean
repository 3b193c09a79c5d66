/- AqueductMore returns true in every walk: no such stretch. -/
import Derived.Test.YtkdlppekjjbgoaaF1

set_option linter.unusedSimpArgs false

set_option linter.unusedVariables false

namespace Go.Proofs.Ytkdlppekjjbgoaa

open Go.RowKit

set_option maxRecDepth 100000 in
set_option maxHeartbeats 8000000 in
theorem more_nost (D : Duct) (p q : Option Addr) (c d : Nat) (k u : Nat) (g1 g2 g3 : Int) (w : World) (hn4 : D.n ≤ 40) (hm4 : D.m ≤ 40) (hi : DuctIn w w.heap.size D p q) (hrd : (!(decide (40 < D.n) || decide (40 < D.m)) && D.ok) = true) (hok : D.ok = true) (hk : k < D.n) (hu : u < D.n) (hin : D.lo k ≤ g1 ∧ g1 ≤ g2 ∧ g2 ≤ D.hi k) (hoN : (nar D k g1 g2).one = true) (i5 : isSt D g3 = false) :
    Calls Try.prog 4 #[.agg #[.slice p D.n c, .slice q D.m d], .agg #[.int .i64 (k : Int), .int .i64 g1, .int .i64 g2, .int .i64 g3, .int .i64 (u : Int)]] w fun e w' => e = .returned (.bool true) ∧ Below w.heap.size w w' := by
  obtain ⟨pb, po, rfl, _, _⟩ := hi.pt (by omega)
  have hokN := nar_ok hok hk hin
  have i1 : isPt D (k : Int) = true := within_tt (by omega) (by omega)
  have i4 : isPt D (u : Int) = true := within_tt (by omega) (by omega)
  have hone : D.one = true := nar_one hin.1 hin.2.2 hoN
  have hcs : D.clash.isSome = false := by rw [(clash_one hok).2 hone]; rfl
  have hcsN : (nar D k g1 g2).clash.isSome = false := by rw [(clash_one hokN).2 hoN]; rfl
  have hL : lrnE D true = 0 := by simp [lrnE, hok, hcs]
  have hLN : lrnE (nar D k g1 g2) true = 0 := by simp [lrnE, hokN, hcsN]
  have hLu : lrnE D (isPt D (u : Int)) = 0 := by rw [i4]; exact hL
  have hLuN : lrnE (nar D k g1 g2) (isPt (nar D k g1 g2) (u : Int)) = 0 := by rw [show isPt (nar D k g1 g2) (u : Int) = true from i4]; exact hLN
  obtain ⟨a0, ha0⟩ : ∃ e, fl D u = e := ⟨_, rfl⟩
  obtain ⟨a1, ha1⟩ : ∃ e, fh D u = e := ⟨_, rfl⟩
  obtain ⟨b0, hb0⟩ : ∃ e, fl (nar D k g1 g2) u = e := ⟨_, rfl⟩
  obtain ⟨b1, hb1⟩ : ∃ e, fh (nar D k g1 g2) u = e := ⟨_, rfl⟩
  obtain ⟨s0, hs0⟩ : ∃ e, whV0 D = e := ⟨_, rfl⟩
  obtain ⟨s1, hs1⟩ : ∃ e, whV1 D = e := ⟨_, rfl⟩
  obtain ⟨t0, ht0⟩ : ∃ e, whV0 (nar D k g1 g2) = e := ⟨_, rfl⟩
  obtain ⟨t1, ht1⟩ : ∃ e, whV1 (nar D k g1 g2) = e := ⟨_, rfl⟩
  have q1 : decide (a0 ≤ b0 ∧ b0 ≤ b1 ∧ b1 ≤ a1) = true := by
    have h1 := nar_fl (b := g2) hin.1 hu
    have h2 := nar_fh (a := g1) hin.2.2 u
    have h3 := fl_fh hoN (k := u) hu
    rw [← ha0, ← ha1, ← hb0, ← hb1]; simp; exact ⟨h1, h3, h2⟩
  have q2 : decide (s0 ≤ t0 ∧ t0 ≤ t1 ∧ t1 ≤ s1) = true := by
    have h1 := nar_loss hin.1 hin.2.2 hoN (i := 0) (j := D.m) (by omega) (by have := (D.ok_parts hok).2.1; omega)
    rw [← hs0, ← hs1, ← ht0, ← ht1]; unfold whV0 whV1; rw [if_pos hL, if_pos hL, if_pos hLN, if_pos hLN]; simp; exact h1
  have hins : decide (D.lo k ≤ g1 ∧ g1 ≤ g2 ∧ g2 ≤ D.hi k) = true := by simpa using hin
  have j2 : (k : Int) < (D.n : Int) := by omega
  have HK := Lib.hid hk
  have HRD := Lib.hid (show ∀ (V : World), DuctIn V V.heap.size D (some ⟨pb, po, none⟩) q → Calls Try.prog 15 #[.agg #[.slice (some ⟨pb, po, none⟩) D.n c, .slice q D.m d]] V fun e w' => e = .returned (.bool true) ∧ Below V.heap.size V w' from fun V h => by
    have := ready_any D (some ⟨pb, po, none⟩) q c d V (by unfold maxLen; omega) (by unfold maxLen; omega) h
    rw [hrd] at this
    exact this)
  have HFD := Lib.hid (show ∀ (V : World), DuctIn V V.heap.size D (some ⟨pb, po, none⟩) q → Calls Try.prog 21 #[.agg #[.slice (some ⟨pb, po, none⟩) D.n c, .slice q D.m d], .int .i64 (u : Int)] V fun e w' => e = .returned (.tuple #[.agg #[.int .i64 a0, .int .i64 a1], .int .i64 0]) ∧ Below V.heap.size V w' from fun V h => by
    have := flowP_any D (some ⟨pb, po, none⟩) q c d (u : Int) V hn4 hm4 h
    rw [show flV0 D (u : Int) = a0 from by unfold flV0; rw [if_pos hLu]; exact ha0, show flV1 D (u : Int) = a1 from by unfold flV1; rw [if_pos hLu]; exact ha1, hLu] at this
    exact this)
  have HWD := Lib.hid (show ∀ (V : World), DuctIn V V.heap.size D (some ⟨pb, po, none⟩) q → Calls Try.prog 18 #[.agg #[.slice (some ⟨pb, po, none⟩) D.n c, .slice q D.m d]] V fun e w' => e = .returned (.tuple #[.agg #[.int .i64 s0, .int .i64 s1], .int .i64 0]) ∧ Below V.heap.size V w' from fun V h => by
    have := wholeP_any D (some ⟨pb, po, none⟩) q c d V hn4 hm4 h
    rw [hs0, hs1, hL] at this
    exact this)
  have HIS := Lib.hid (show ∀ (V : World), Calls Try.prog 27 #[.agg #[.slice (some ⟨pb, po, none⟩) D.n c, .slice q D.m d], .int .i64 g3] V fun e w' => e = .returned (.bool false) ∧ Below V.heap.size V w' from fun V => by
    have := isStretchR_any D (some ⟨pb, po, none⟩) q c d g3 V hm4
    rw [i5] at this
    exact this)
  have KK_hoN := Lib.hid hoN
  have KK_hLuN := Lib.hid hLuN
  have KK_hb0 := Lib.hid hb0
  have KK_hb1 := Lib.hid hb1
  have KK_ht0 := Lib.hid ht0
  have KK_ht1 := Lib.hid ht1
  have KK_hLN := Lib.hid hLN
  clear hrd hok hokN hin hk hu hoN hone hcs hcsN hL hLN hLu hLuN ha0 ha1 hb0 hb1 hs0 hs1 ht0 ht1
  obtain ⟨w1, x, e1, hb1, hl1⟩ := mk_line w (some ⟨pb, po, none⟩) q D.n D.m c d
  have HLb := Lib.hid hl1
  have HI := Lib.hid (hi.bel hb1)
  have HB := Lib.hid hb1
  clear hb1 hl1 hi
  obtain ⟨w2, x2, e2, b2, f2⟩ := mk_five x 46 (k : Int) g1 g2 g3 (u : Int)
  have HF := Lib.hid f2
  have H7_0 := Lib.hid (HLb.out.bel b2)
  have H7_1 := Lib.hid (HI.out.bel b2)
  have HB7 := Lib.hid (bT HB.out b2)
  clear b2 f2
  have L0a_8 : ∀ z : Ext w2, z.v.cell? ⟨w.heap.size, 0, none⟩ = some (.slice (some ⟨pb, po, none⟩) D.n c) := fun z => (H7_0.out.bel z.b).c0
  have L0b_8 : ∀ z : Ext w2, z.v.cell? ⟨w.heap.size, 1, none⟩ = some (.slice q D.m d) := fun z => (H7_0.out.bel z.b).c1
  have V20_8 : ∀ z : Ext w2, z.v.cell? ⟨x.v.heap.size, 0, none⟩ = some (.int .i64 (k : Int)) := fun z => (HF.out.bel z.b).c0
  have V21_8 : ∀ z : Ext w2, z.v.cell? ⟨x.v.heap.size, 1, none⟩ = some (.int .i64 g1) := fun z => (HF.out.bel z.b).c1
  have V22_8 : ∀ z : Ext w2, z.v.cell? ⟨x.v.heap.size, 2, none⟩ = some (.int .i64 g2) := fun z => (HF.out.bel z.b).c2
  have V23_8 : ∀ z : Ext w2, z.v.cell? ⟨x.v.heap.size, 3, none⟩ = some (.int .i64 g3) := fun z => (HF.out.bel z.b).c3
  have V24_8 : ∀ z : Ext w2, z.v.cell? ⟨x.v.heap.size, 4, none⟩ = some (.int .i64 (u : Int)) := fun z => (HF.out.bel z.b).c4
  go_enter Try.func4, Try.ntmps4
  go_wp2
  have C0 : ∀ z : Ext w2, z.v.cell? ⟨pb, po + k * 3, none⟩ = some (.int .i64 (D.lo k)) := fun z => (H7_1.out.bel z.b).lo' HK.out
  have C1 : ∀ z : Ext w2, z.v.cell? ⟨pb, po + k * 3 + 1, none⟩ = some (.int .i64 (D.hi k)) := fun z => (H7_1.out.bel z.b).hi' HK.out
  refine quiet_e (by kernel_rfl) (by kernel_rfl) ?_
  repeat (first | go_big_quiet_step ((first | (go_at_call 15; exact quiet_x (HRD.out _ (H7_1.out.bel (Ext.b _)))) | (go_at_call 19; exact quiet_x (isPointR_any D _ q c d _ _ hn4)) | (go_at_call 22; exact quiet_x (inside_any _ _ _ _ _)))) | quiet_step ((first | (go_at_call 15; exact quiet_x (HRD.out _ (H7_1.out.bel (Ext.b _)))) | (go_at_call 19; exact quiet_x (isPointR_any D _ q c d _ _ hn4)) | (go_at_call 22; exact quiet_x (inside_any _ _ _ _ _)))))
  refine wpQuiet_nil ?_
  intro w6 hw6
  obtain ⟨y, rfl⟩ := hw6
  clear C0 C1
  go_wp2_with fail
  refine (copy_any D (some ⟨pb, po, none⟩) q c d _ hn4 hm4 (H7_1.out.bel y.b)).mono ?_
  rintro e w' ⟨p', c', q', d', rfl, hcp⟩
  obtain ⟨g, go, rfl, hg1, hfz, hne⟩ := hcp.own (by have := HK.out; omega)
  have hcb := hcp.below; have hch := hcp.here
  clear hcp
  obtain ⟨y3, rfl⟩ : ∃ z : Ext w2, w' = z.v := ⟨⟨w', bT y.b hcb⟩, rfl⟩
  have HG : Hid (w2.heap.size ≤ g) := Nat.le_trans y.b.size hg1
  have HGL : Hid (g < y3.v.heap.size) := by
    obtain ⟨b, o, e, hl, _⟩ := hch.pt (by have := HK.out; omega)
    cases e; exact hl
  have HNE := Lib.hid hne; have HFZ := Lib.hid hfz; have HCH := Lib.hid hch
  clear hg1 hfz hne hcb hch
  have hoN := KK_hoN.out
  have hLuN := KK_hLuN.out
  have hb0 := KK_hb0.out
  have hb1 := KK_hb1.out
  have ht0 := KK_ht0.out
  have ht1 := KK_ht1.out
  have hLN := KK_hLN.out
  have HONE := Lib.hid (show ∀ (V : World), DuctIn V V.heap.size (nar D k g1 g2) (some ⟨g, go, none⟩) q' → Calls Try.prog 26 #[.agg #[.slice (some ⟨g, go, none⟩) D.n c', .slice q' D.m d']] V fun e w' => e = .returned (.bool true) ∧ Below V.heap.size V w' from fun V h => by
    have := one_any (nar D k g1 g2) (some ⟨g, go, none⟩) q' c' d' V hn4 hm4 h
    rw [hoN] at this
    exact this)
  have HFN := Lib.hid (show ∀ (V : World), DuctIn V V.heap.size (nar D k g1 g2) (some ⟨g, go, none⟩) q' → Calls Try.prog 21 #[.agg #[.slice (some ⟨g, go, none⟩) D.n c', .slice q' D.m d'], .int .i64 (u : Int)] V fun e w' => e = .returned (.tuple #[.agg #[.int .i64 b0, .int .i64 b1], .int .i64 0]) ∧ Below V.heap.size V w' from fun V h => by
    have := flowP_any (nar D k g1 g2) (some ⟨g, go, none⟩) q' c' d' (u : Int) V hn4 hm4 h
    rw [show flV0 (nar D k g1 g2) (u : Int) = b0 from by unfold flV0; rw [if_pos hLuN]; exact hb0, show flV1 (nar D k g1 g2) (u : Int) = b1 from by unfold flV1; rw [if_pos hLuN]; exact hb1, hLuN] at this
    exact this)
  have HWN := Lib.hid (show ∀ (V : World), DuctIn V V.heap.size (nar D k g1 g2) (some ⟨g, go, none⟩) q' → Calls Try.prog 18 #[.agg #[.slice (some ⟨g, go, none⟩) D.n c', .slice q' D.m d']] V fun e w' => e = .returned (.tuple #[.agg #[.int .i64 t0, .int .i64 t1], .int .i64 0]) ∧ Below V.heap.size V w' from fun V h => by
    have := wholeP_any (nar D k g1 g2) (some ⟨g, go, none⟩) q' c' d' V hn4 hm4 h
    rw [ht0, ht1, hLN] at this
    exact this)
  clear hoN hLuN hb0 hb1 ht0 ht1 hLN
  obtain ⟨w5, x5, e5, b5, l5⟩ := mk_line y3.v (some ⟨g, go, none⟩) q' D.n D.m c' d'
  have HBx5 := Lib.hid b5; have HLx5 := Lib.hid l5
  clear b5 l5

  clear L0a_8 L0b_8 V20_8 V21_8 V22_8 V23_8 V24_8
  have H9_0 := Lib.hid (H7_0.out.bel (bT y3.b HBx5.out))
  have H9_1 := Lib.hid (H7_1.out.bel (bT y3.b HBx5.out))
  have H9_2 := Lib.hid (HF.out.bel (bT y3.b HBx5.out))
  have HB9 := Lib.hid (bT HB7.out (bT y3.b HBx5.out))
  have L0a_10 : ∀ z : Ext w5, z.v.cell? ⟨w.heap.size, 0, none⟩ = some (.slice (some ⟨pb, po, none⟩) D.n c) := fun z => (H9_0.out.bel z.b).c0
  have L0b_10 : ∀ z : Ext w5, z.v.cell? ⟨w.heap.size, 1, none⟩ = some (.slice q D.m d) := fun z => (H9_0.out.bel z.b).c1
  have V20_10 : ∀ z : Ext w5, z.v.cell? ⟨x.v.heap.size, 0, none⟩ = some (.int .i64 (k : Int)) := fun z => (H9_2.out.bel z.b).c0
  have V21_10 : ∀ z : Ext w5, z.v.cell? ⟨x.v.heap.size, 1, none⟩ = some (.int .i64 g1) := fun z => (H9_2.out.bel z.b).c1
  have V22_10 : ∀ z : Ext w5, z.v.cell? ⟨x.v.heap.size, 2, none⟩ = some (.int .i64 g2) := fun z => (H9_2.out.bel z.b).c2
  have V23_10 : ∀ z : Ext w5, z.v.cell? ⟨x.v.heap.size, 3, none⟩ = some (.int .i64 g3) := fun z => (H9_2.out.bel z.b).c3
  have V24_10 : ∀ z : Ext w5, z.v.cell? ⟨x.v.heap.size, 4, none⟩ = some (.int .i64 (u : Int)) := fun z => (H9_2.out.bel z.b).c4
  have L3a_10 : ∀ z : Ext w5, z.v.cell? ⟨y3.v.heap.size, 0, none⟩ = some (.slice (some ⟨g, go, none⟩) D.n c') := fun z => (HLx5.out.bel z.b).c0
  have L3b_10 : ∀ z : Ext w5, z.v.cell? ⟨y3.v.heap.size, 1, none⟩ = some (.slice q' D.m d') := fun z => (HLx5.out.bel z.b).c1
  have FZ : ∀ (z : Ext w5) i, z.v.frozen? ⟨g, i, none⟩ = false := fun z i => ((bT HBx5.out z.b).frozen (p := ⟨g, i, none⟩) HGL.out).trans (HFZ.out i)
  have E0 : ∀ z : Ext w5, z.v.cell? ⟨g, go + k * 3, none⟩ = some (.int .i64 (D.lo k)) := fun z => (HCH.out.bel (bT HBx5.out z.b)).lo' HK.out
  have E1 : ∀ z : Ext w5, z.v.cell? ⟨g, go + k * 3 + 1, none⟩ = some (.int .i64 (D.hi k)) := fun z => (HCH.out.bel (bT HBx5.out z.b)).hi' HK.out
  obtain ⟨w6, x6, e6, hw6⟩ : ∃ (w6 : World) (x6 : Ext w6), (x5.v.setCell ⟨g, go + k * 3, none⟩ (.int .i64 g1)).setCell ⟨g, go + k * 3 + 1, none⟩ (.int .i64 g2) = x6.v ∧ w6 = (x5.v.setCell ⟨g, go + k * 3, none⟩ (.int .i64 g1)).setCell ⟨g, go + k * 3 + 1, none⟩ (.int .i64 g2) := ⟨_, ⟨_, Below.refl _ _⟩, rfl, rfl⟩
  have HBx26 : Hid (Below w2.heap.size w2 w6) := by rw [hw6]; exact bS (bS (bT (bT y3.b HBx5.out) x5.b) HG.out _) HG.out _
  have HLx6 : Hid (LineBox w6 y3.v.heap.size (some ⟨g, go, none⟩) D.n c' q' D.m d') := by rw [hw6]; exact (HLx5.out.bel x5.b).two (by have := HGL.out; omega)
  have HNx6 : Hid (DuctIn w6 w6.heap.size (nar D k g1 g2) (some ⟨g, go, none⟩) q') := by
    rw [hw6]
    have := nar_in (a := g1) (b := g2) (HCH.out.bel (bT HBx5.out x5.b)) HK.out HNE.out
    show DuctIn _ _ _ _ _
    simpa using this
  clear hw6
  have H11_0 := Lib.hid (H7_0.out.bel HBx26.out)
  have H11_1 := Lib.hid (H7_1.out.bel HBx26.out)
  have H11_2 := Lib.hid (HF.out.bel HBx26.out)
  have HB11 := Lib.hid (bT HB7.out HBx26.out)
  have L0a_12 : ∀ z : Ext w6, z.v.cell? ⟨w.heap.size, 0, none⟩ = some (.slice (some ⟨pb, po, none⟩) D.n c) := fun z => (H11_0.out.bel z.b).c0
  have L0b_12 : ∀ z : Ext w6, z.v.cell? ⟨w.heap.size, 1, none⟩ = some (.slice q D.m d) := fun z => (H11_0.out.bel z.b).c1
  have V20_12 : ∀ z : Ext w6, z.v.cell? ⟨x.v.heap.size, 0, none⟩ = some (.int .i64 (k : Int)) := fun z => (H11_2.out.bel z.b).c0
  have V21_12 : ∀ z : Ext w6, z.v.cell? ⟨x.v.heap.size, 1, none⟩ = some (.int .i64 g1) := fun z => (H11_2.out.bel z.b).c1
  have V22_12 : ∀ z : Ext w6, z.v.cell? ⟨x.v.heap.size, 2, none⟩ = some (.int .i64 g2) := fun z => (H11_2.out.bel z.b).c2
  have V23_12 : ∀ z : Ext w6, z.v.cell? ⟨x.v.heap.size, 3, none⟩ = some (.int .i64 g3) := fun z => (H11_2.out.bel z.b).c3
  have V24_12 : ∀ z : Ext w6, z.v.cell? ⟨x.v.heap.size, 4, none⟩ = some (.int .i64 (u : Int)) := fun z => (H11_2.out.bel z.b).c4
  have L3a_12 : ∀ z : Ext w6, z.v.cell? ⟨y3.v.heap.size, 0, none⟩ = some (.slice (some ⟨g, go, none⟩) D.n c') := fun z => (HLx6.out.bel z.b).c0
  have L3b_12 : ∀ z : Ext w6, z.v.cell? ⟨y3.v.heap.size, 1, none⟩ = some (.slice q' D.m d') := fun z => (HLx6.out.bel z.b).c1
  go_wp2_with fail
  clear L0a_10 L0b_10 V20_10 V21_10 V22_10 V23_10 V24_10 L3a_10 L3b_10 FZ E0 E1 e5 e6 e1 e2
  refine (quiet_x (HONE.out _ (HNx6.out.bel (Ext.b _)))).mono ?_
  rintro e w' ⟨rfl, y6, rfl⟩
  have Hbl := Lib.hid (Below.refl w6.heap.size w6)
  go_wp2_with fail
  refine (quiet_x (HFD.out _ (H11_1.out.bel (Ext.b _)))).mono ?_
  rintro e w' ⟨rfl, y7, rfl⟩
  obtain ⟨w7, x7, e7, b7, z7, t7⟩ := mk_two y7 34 a0 a1
  have Ht7 := Lib.hid t7
  have Hz7 := Lib.hid z7
  clear t7 z7
  clear L0a_12 L0b_12 V20_12 V21_12 V22_12 V23_12 V24_12 L3a_12 L3b_12
  have H13_0 := Lib.hid (H11_0.out.bel b7)
  have H13_1 := Lib.hid (H11_1.out.bel b7)
  have H13_2 := Lib.hid (H11_2.out.bel b7)
  have H13_3 := Lib.hid (HLx6.out.bel b7)
  have H13_4 := Lib.hid (HNx6.out.bel b7)
  have H13_5 := Lib.hid (bT Hbl.out b7)
  have HB13 := Lib.hid (bT HB11.out b7)
  have Hb67 := Lib.hid b7
  clear b7
  have L0a_14 : ∀ z : Ext w7, z.v.cell? ⟨w.heap.size, 0, none⟩ = some (.slice (some ⟨pb, po, none⟩) D.n c) := fun z => (H13_0.out.bel z.b).c0
  have L0b_14 : ∀ z : Ext w7, z.v.cell? ⟨w.heap.size, 1, none⟩ = some (.slice q D.m d) := fun z => (H13_0.out.bel z.b).c1
  have V20_14 : ∀ z : Ext w7, z.v.cell? ⟨x.v.heap.size, 0, none⟩ = some (.int .i64 (k : Int)) := fun z => (H13_2.out.bel z.b).c0
  have V21_14 : ∀ z : Ext w7, z.v.cell? ⟨x.v.heap.size, 1, none⟩ = some (.int .i64 g1) := fun z => (H13_2.out.bel z.b).c1
  have V22_14 : ∀ z : Ext w7, z.v.cell? ⟨x.v.heap.size, 2, none⟩ = some (.int .i64 g2) := fun z => (H13_2.out.bel z.b).c2
  have V23_14 : ∀ z : Ext w7, z.v.cell? ⟨x.v.heap.size, 3, none⟩ = some (.int .i64 g3) := fun z => (H13_2.out.bel z.b).c3
  have V24_14 : ∀ z : Ext w7, z.v.cell? ⟨x.v.heap.size, 4, none⟩ = some (.int .i64 (u : Int)) := fun z => (H13_2.out.bel z.b).c4
  have L3a_14 : ∀ z : Ext w7, z.v.cell? ⟨y3.v.heap.size, 0, none⟩ = some (.slice (some ⟨g, go, none⟩) D.n c') := fun z => (H13_3.out.bel z.b).c0
  have L3b_14 : ∀ z : Ext w7, z.v.cell? ⟨y3.v.heap.size, 1, none⟩ = some (.slice q' D.m d') := fun z => (H13_3.out.bel z.b).c1
  have T6a_14 : ∀ z : Ext w7, z.v.cell? ⟨y7.v.heap.size, 0, none⟩ = some (.int .i64 a0) := fun z => (Ht7.out.bel z.b).c0
  have T6b_14 : ∀ z : Ext w7, z.v.cell? ⟨y7.v.heap.size, 1, none⟩ = some (.int .i64 a1) := fun z => (Ht7.out.bel z.b).c1
  have T6f_14 : ∀ z : Ext w7, ∀ i, z.v.frozen? ⟨y7.v.heap.size, i, none⟩ = false := fun z => (Ht7.out.bel z.b).fz
  go_wp2_with fail
  refine (quiet_x (HFN.out _ (H13_4.out.bel (Ext.b _)))).mono ?_
  rintro e w' ⟨rfl, y8, rfl⟩
  obtain ⟨w8, x8, e8, b8, z8, t8⟩ := mk_two y8 34 b0 b1
  have Ht8 := Lib.hid t8
  have Hz8 := Lib.hid z8
  clear t8 z8
  clear L0a_14 L0b_14 V20_14 V21_14 V22_14 V23_14 V24_14 L3a_14 L3b_14 T6a_14 T6b_14 T6f_14
  have H15_0 := Lib.hid (H13_0.out.bel b8)
  have H15_1 := Lib.hid (H13_1.out.bel b8)
  have H15_2 := Lib.hid (H13_2.out.bel b8)
  have H15_3 := Lib.hid (H13_3.out.bel b8)
  have H15_4 := Lib.hid (H13_4.out.bel b8)
  have H15_5 := Lib.hid (bT H13_5.out b8)
  have H15_6 := Lib.hid (Ht7.out.bel b8)
  have HB15 := Lib.hid (bT HB13.out b8)
  clear b8
  have L0a_16 : ∀ z : Ext w8, z.v.cell? ⟨w.heap.size, 0, none⟩ = some (.slice (some ⟨pb, po, none⟩) D.n c) := fun z => (H15_0.out.bel z.b).c0
  have L0b_16 : ∀ z : Ext w8, z.v.cell? ⟨w.heap.size, 1, none⟩ = some (.slice q D.m d) := fun z => (H15_0.out.bel z.b).c1
  have V20_16 : ∀ z : Ext w8, z.v.cell? ⟨x.v.heap.size, 0, none⟩ = some (.int .i64 (k : Int)) := fun z => (H15_2.out.bel z.b).c0
  have V21_16 : ∀ z : Ext w8, z.v.cell? ⟨x.v.heap.size, 1, none⟩ = some (.int .i64 g1) := fun z => (H15_2.out.bel z.b).c1
  have V22_16 : ∀ z : Ext w8, z.v.cell? ⟨x.v.heap.size, 2, none⟩ = some (.int .i64 g2) := fun z => (H15_2.out.bel z.b).c2
  have V23_16 : ∀ z : Ext w8, z.v.cell? ⟨x.v.heap.size, 3, none⟩ = some (.int .i64 g3) := fun z => (H15_2.out.bel z.b).c3
  have V24_16 : ∀ z : Ext w8, z.v.cell? ⟨x.v.heap.size, 4, none⟩ = some (.int .i64 (u : Int)) := fun z => (H15_2.out.bel z.b).c4
  have L3a_16 : ∀ z : Ext w8, z.v.cell? ⟨y3.v.heap.size, 0, none⟩ = some (.slice (some ⟨g, go, none⟩) D.n c') := fun z => (H15_3.out.bel z.b).c0
  have L3b_16 : ∀ z : Ext w8, z.v.cell? ⟨y3.v.heap.size, 1, none⟩ = some (.slice q' D.m d') := fun z => (H15_3.out.bel z.b).c1
  have T6a_16 : ∀ z : Ext w8, z.v.cell? ⟨y7.v.heap.size, 0, none⟩ = some (.int .i64 a0) := fun z => (H15_6.out.bel z.b).c0
  have T6b_16 : ∀ z : Ext w8, z.v.cell? ⟨y7.v.heap.size, 1, none⟩ = some (.int .i64 a1) := fun z => (H15_6.out.bel z.b).c1
  have T6f_16 : ∀ z : Ext w8, ∀ i, z.v.frozen? ⟨y7.v.heap.size, i, none⟩ = false := fun z => (H15_6.out.bel z.b).fz
  have T7a_16 : ∀ z : Ext w8, z.v.cell? ⟨y8.v.heap.size, 0, none⟩ = some (.int .i64 b0) := fun z => (Ht8.out.bel z.b).c0
  have T7b_16 : ∀ z : Ext w8, z.v.cell? ⟨y8.v.heap.size, 1, none⟩ = some (.int .i64 b1) := fun z => (Ht8.out.bel z.b).c1
  have T7f_16 : ∀ z : Ext w8, ∀ i, z.v.frozen? ⟨y8.v.heap.size, i, none⟩ = false := fun z => (Ht8.out.bel z.b).fz
  go_wp2_with fail
  refine (quiet_x (HWD.out _ (H15_1.out.bel (Ext.b _)))).mono ?_
  rintro e w' ⟨rfl, y9, rfl⟩
  obtain ⟨w9, x9, e9, b9, z9, t9⟩ := mk_two y9 34 s0 s1
  have Ht9 := Lib.hid t9
  have Hz9 := Lib.hid z9
  clear t9 z9
  clear L0a_16 L0b_16 V20_16 V21_16 V22_16 V23_16 V24_16 L3a_16 L3b_16 T6a_16 T6b_16 T6f_16 T7a_16 T7b_16 T7f_16
  have H17_0 := Lib.hid (H15_0.out.bel b9)
  have H17_1 := Lib.hid (H15_1.out.bel b9)
  have H17_2 := Lib.hid (H15_2.out.bel b9)
  have H17_3 := Lib.hid (H15_3.out.bel b9)
  have H17_4 := Lib.hid (H15_4.out.bel b9)
  have H17_5 := Lib.hid (bT H15_5.out b9)
  have H17_6 := Lib.hid (H15_6.out.bel b9)
  have H17_7 := Lib.hid (Ht8.out.bel b9)
  have HB17 := Lib.hid (bT HB15.out b9)
  clear b9
  have L0a_18 : ∀ z : Ext w9, z.v.cell? ⟨w.heap.size, 0, none⟩ = some (.slice (some ⟨pb, po, none⟩) D.n c) := fun z => (H17_0.out.bel z.b).c0
  have L0b_18 : ∀ z : Ext w9, z.v.cell? ⟨w.heap.size, 1, none⟩ = some (.slice q D.m d) := fun z => (H17_0.out.bel z.b).c1
  have V20_18 : ∀ z : Ext w9, z.v.cell? ⟨x.v.heap.size, 0, none⟩ = some (.int .i64 (k : Int)) := fun z => (H17_2.out.bel z.b).c0
  have V21_18 : ∀ z : Ext w9, z.v.cell? ⟨x.v.heap.size, 1, none⟩ = some (.int .i64 g1) := fun z => (H17_2.out.bel z.b).c1
  have V22_18 : ∀ z : Ext w9, z.v.cell? ⟨x.v.heap.size, 2, none⟩ = some (.int .i64 g2) := fun z => (H17_2.out.bel z.b).c2
  have V23_18 : ∀ z : Ext w9, z.v.cell? ⟨x.v.heap.size, 3, none⟩ = some (.int .i64 g3) := fun z => (H17_2.out.bel z.b).c3
  have V24_18 : ∀ z : Ext w9, z.v.cell? ⟨x.v.heap.size, 4, none⟩ = some (.int .i64 (u : Int)) := fun z => (H17_2.out.bel z.b).c4
  have L3a_18 : ∀ z : Ext w9, z.v.cell? ⟨y3.v.heap.size, 0, none⟩ = some (.slice (some ⟨g, go, none⟩) D.n c') := fun z => (H17_3.out.bel z.b).c0
  have L3b_18 : ∀ z : Ext w9, z.v.cell? ⟨y3.v.heap.size, 1, none⟩ = some (.slice q' D.m d') := fun z => (H17_3.out.bel z.b).c1
  have T6a_18 : ∀ z : Ext w9, z.v.cell? ⟨y7.v.heap.size, 0, none⟩ = some (.int .i64 a0) := fun z => (H17_6.out.bel z.b).c0
  have T6b_18 : ∀ z : Ext w9, z.v.cell? ⟨y7.v.heap.size, 1, none⟩ = some (.int .i64 a1) := fun z => (H17_6.out.bel z.b).c1
  have T6f_18 : ∀ z : Ext w9, ∀ i, z.v.frozen? ⟨y7.v.heap.size, i, none⟩ = false := fun z => (H17_6.out.bel z.b).fz
  have T7a_18 : ∀ z : Ext w9, z.v.cell? ⟨y8.v.heap.size, 0, none⟩ = some (.int .i64 b0) := fun z => (H17_7.out.bel z.b).c0
  have T7b_18 : ∀ z : Ext w9, z.v.cell? ⟨y8.v.heap.size, 1, none⟩ = some (.int .i64 b1) := fun z => (H17_7.out.bel z.b).c1
  have T7f_18 : ∀ z : Ext w9, ∀ i, z.v.frozen? ⟨y8.v.heap.size, i, none⟩ = false := fun z => (H17_7.out.bel z.b).fz
  have T8a_18 : ∀ z : Ext w9, z.v.cell? ⟨y9.v.heap.size, 0, none⟩ = some (.int .i64 s0) := fun z => (Ht9.out.bel z.b).c0
  have T8b_18 : ∀ z : Ext w9, z.v.cell? ⟨y9.v.heap.size, 1, none⟩ = some (.int .i64 s1) := fun z => (Ht9.out.bel z.b).c1
  have T8f_18 : ∀ z : Ext w9, ∀ i, z.v.frozen? ⟨y9.v.heap.size, i, none⟩ = false := fun z => (Ht9.out.bel z.b).fz
  go_wp2_with fail
  refine (quiet_x (HWN.out _ (H17_4.out.bel (Ext.b _)))).mono ?_
  rintro e w' ⟨rfl, y10, rfl⟩
  obtain ⟨w10, x10, e10, b10, z10, t10⟩ := mk_two y10 34 t0 t1
  have Ht10 := Lib.hid t10
  have Hz10 := Lib.hid z10
  clear t10 z10
  clear L0a_18 L0b_18 V20_18 V21_18 V22_18 V23_18 V24_18 L3a_18 L3b_18 T6a_18 T6b_18 T6f_18 T7a_18 T7b_18 T7f_18 T8a_18 T8b_18 T8f_18
  have H19_0 := Lib.hid (H17_0.out.bel b10)
  have H19_1 := Lib.hid (H17_1.out.bel b10)
  have H19_2 := Lib.hid (H17_2.out.bel b10)
  have H19_3 := Lib.hid (H17_3.out.bel b10)
  have H19_4 := Lib.hid (H17_4.out.bel b10)
  have H19_5 := Lib.hid (bT H17_5.out b10)
  have H19_6 := Lib.hid (H17_6.out.bel b10)
  have H19_7 := Lib.hid (H17_7.out.bel b10)
  have H19_8 := Lib.hid (Ht9.out.bel b10)
  have HB19 := Lib.hid (bT HB17.out b10)
  clear b10
  have L0a_20 : ∀ z : Ext w10, z.v.cell? ⟨w.heap.size, 0, none⟩ = some (.slice (some ⟨pb, po, none⟩) D.n c) := fun z => (H19_0.out.bel z.b).c0
  have L0b_20 : ∀ z : Ext w10, z.v.cell? ⟨w.heap.size, 1, none⟩ = some (.slice q D.m d) := fun z => (H19_0.out.bel z.b).c1
  have V20_20 : ∀ z : Ext w10, z.v.cell? ⟨x.v.heap.size, 0, none⟩ = some (.int .i64 (k : Int)) := fun z => (H19_2.out.bel z.b).c0
  have V21_20 : ∀ z : Ext w10, z.v.cell? ⟨x.v.heap.size, 1, none⟩ = some (.int .i64 g1) := fun z => (H19_2.out.bel z.b).c1
  have V22_20 : ∀ z : Ext w10, z.v.cell? ⟨x.v.heap.size, 2, none⟩ = some (.int .i64 g2) := fun z => (H19_2.out.bel z.b).c2
  have V23_20 : ∀ z : Ext w10, z.v.cell? ⟨x.v.heap.size, 3, none⟩ = some (.int .i64 g3) := fun z => (H19_2.out.bel z.b).c3
  have V24_20 : ∀ z : Ext w10, z.v.cell? ⟨x.v.heap.size, 4, none⟩ = some (.int .i64 (u : Int)) := fun z => (H19_2.out.bel z.b).c4
  have L3a_20 : ∀ z : Ext w10, z.v.cell? ⟨y3.v.heap.size, 0, none⟩ = some (.slice (some ⟨g, go, none⟩) D.n c') := fun z => (H19_3.out.bel z.b).c0
  have L3b_20 : ∀ z : Ext w10, z.v.cell? ⟨y3.v.heap.size, 1, none⟩ = some (.slice q' D.m d') := fun z => (H19_3.out.bel z.b).c1
  have T6a_20 : ∀ z : Ext w10, z.v.cell? ⟨y7.v.heap.size, 0, none⟩ = some (.int .i64 a0) := fun z => (H19_6.out.bel z.b).c0
  have T6b_20 : ∀ z : Ext w10, z.v.cell? ⟨y7.v.heap.size, 1, none⟩ = some (.int .i64 a1) := fun z => (H19_6.out.bel z.b).c1
  have T6f_20 : ∀ z : Ext w10, ∀ i, z.v.frozen? ⟨y7.v.heap.size, i, none⟩ = false := fun z => (H19_6.out.bel z.b).fz
  have T7a_20 : ∀ z : Ext w10, z.v.cell? ⟨y8.v.heap.size, 0, none⟩ = some (.int .i64 b0) := fun z => (H19_7.out.bel z.b).c0
  have T7b_20 : ∀ z : Ext w10, z.v.cell? ⟨y8.v.heap.size, 1, none⟩ = some (.int .i64 b1) := fun z => (H19_7.out.bel z.b).c1
  have T7f_20 : ∀ z : Ext w10, ∀ i, z.v.frozen? ⟨y8.v.heap.size, i, none⟩ = false := fun z => (H19_7.out.bel z.b).fz
  have T8a_20 : ∀ z : Ext w10, z.v.cell? ⟨y9.v.heap.size, 0, none⟩ = some (.int .i64 s0) := fun z => (H19_8.out.bel z.b).c0
  have T8b_20 : ∀ z : Ext w10, z.v.cell? ⟨y9.v.heap.size, 1, none⟩ = some (.int .i64 s1) := fun z => (H19_8.out.bel z.b).c1
  have T8f_20 : ∀ z : Ext w10, ∀ i, z.v.frozen? ⟨y9.v.heap.size, i, none⟩ = false := fun z => (H19_8.out.bel z.b).fz
  have T9a_20 : ∀ z : Ext w10, z.v.cell? ⟨y10.v.heap.size, 0, none⟩ = some (.int .i64 t0) := fun z => (Ht10.out.bel z.b).c0
  have T9b_20 : ∀ z : Ext w10, z.v.cell? ⟨y10.v.heap.size, 1, none⟩ = some (.int .i64 t1) := fun z => (Ht10.out.bel z.b).c1
  have T9f_20 : ∀ z : Ext w10, ∀ i, z.v.frozen? ⟨y10.v.heap.size, i, none⟩ = false := fun z => (Ht10.out.bel z.b).fz
  go_wp2_with fail
  refine (quiet_x (inside_any _ _ _ _ _)).mono ?_
  rintro e w' ⟨rfl, y11, rfl⟩
  go_wp2_with fail
  refine (quiet_x (inside_any _ _ _ _ _)).mono ?_
  rintro e w' ⟨rfl, y12, rfl⟩
  go_wp2_with fail
  refine (quiet_x (HIS.out _)).mono ?_
  rintro e w' ⟨rfl, y13, rfl⟩
  go_wp2_with fail
  refine (quiet_x (works_ex _)).mono ?_
  rintro e w' ⟨rfl, y14, rfl⟩
  go_wp2_with fail
  go_ret
  exact ⟨rfl, bT HB19.out y14.b⟩
end Go.Proofs.Ytkdlppekjjbgoaa
