/- AqueductMore returns true in every walk: no truth with the narrower flow. -/
import Derived.Test.YtkdlppekjjbgoaaF1

set_option linter.unusedSimpArgs false

set_option linter.unusedVariables false

namespace Go.Proofs.Ytkdlppekjjbgoaa

open Go.RowKit

set_option maxRecDepth 100000 in
set_option maxHeartbeats 8000000 in
theorem more_one (D : Duct) (p q : Option Addr) (c d : Nat) (k u : Nat) (g1 g2 g3 : Int) (w : World) (hn4 : D.n ≤ 40) (hm4 : D.m ≤ 40) (hi : DuctIn w w.heap.size D p q) (hrd : (!(decide (40 < D.n) || decide (40 < D.m)) && D.ok) = true) (hok : D.ok = true) (hk : k < D.n) (hu : u < D.n) (hin : D.lo k ≤ g1 ∧ g1 ≤ g2 ∧ g2 ≤ D.hi k) (hoN : (nar D k g1 g2).one = false) :
    Calls Try.prog 4 #[.agg #[.slice p D.n c, .slice q D.m d], .agg #[.int .i64 (k : Int), .int .i64 g1, .int .i64 g2, .int .i64 g3, .int .i64 (u : Int)]] w fun e w' => e = .returned (.bool true) ∧ Below w.heap.size w w' := by
  obtain ⟨pb, po, rfl, _, _⟩ := hi.pt (by omega)
  have hokN := nar_ok hok hk hin
  have i1 : isPt D (k : Int) = true := within_tt (by omega) (by omega)
  have i4 : isPt D (u : Int) = true := within_tt (by omega) (by omega)
  have hins : decide (D.lo k ≤ g1 ∧ g1 ≤ g2 ∧ g2 ≤ D.hi k) = true := by simpa using hin
  have j2 : (k : Int) < (D.n : Int) := by omega
  have HK := Lib.hid hk
  have HRD := Lib.hid (show ∀ (V : World), DuctIn V V.heap.size D (some ⟨pb, po, none⟩) q → Calls Try.prog 15 #[.agg #[.slice (some ⟨pb, po, none⟩) D.n c, .slice q D.m d]] V fun e w' => e = .returned (.bool true) ∧ Below V.heap.size V w' from fun V h => by
    have := ready_any D (some ⟨pb, po, none⟩) q c d V (by unfold maxLen; omega) (by unfold maxLen; omega) h
    rw [hrd] at this
    exact this)
  have KK_hoN := Lib.hid hoN
  clear hrd hok hokN hin hk hu hoN
  obtain ⟨w1, x, e1, hb1, hl1⟩ := mk_line w (some ⟨pb, po, none⟩) q D.n D.m c d
  have HLb := Lib.hid hl1
  have HI := Lib.hid (hi.bel hb1)
  have HB := Lib.hid hb1
  clear hb1 hl1 hi
  obtain ⟨w2, x2, e2, b2, f2⟩ := mk_five x 46 (k : Int) g1 g2 g3 (u : Int)
  have HF := Lib.hid f2
  have H1_0 := Lib.hid (HLb.out.bel b2)
  have H1_1 := Lib.hid (HI.out.bel b2)
  have HB1 := Lib.hid (bT HB.out b2)
  clear b2 f2
  have L0a_2 : ∀ z : Ext w2, z.v.cell? ⟨w.heap.size, 0, none⟩ = some (.slice (some ⟨pb, po, none⟩) D.n c) := fun z => (H1_0.out.bel z.b).c0
  have L0b_2 : ∀ z : Ext w2, z.v.cell? ⟨w.heap.size, 1, none⟩ = some (.slice q D.m d) := fun z => (H1_0.out.bel z.b).c1
  have V20_2 : ∀ z : Ext w2, z.v.cell? ⟨x.v.heap.size, 0, none⟩ = some (.int .i64 (k : Int)) := fun z => (HF.out.bel z.b).c0
  have V21_2 : ∀ z : Ext w2, z.v.cell? ⟨x.v.heap.size, 1, none⟩ = some (.int .i64 g1) := fun z => (HF.out.bel z.b).c1
  have V22_2 : ∀ z : Ext w2, z.v.cell? ⟨x.v.heap.size, 2, none⟩ = some (.int .i64 g2) := fun z => (HF.out.bel z.b).c2
  have V23_2 : ∀ z : Ext w2, z.v.cell? ⟨x.v.heap.size, 3, none⟩ = some (.int .i64 g3) := fun z => (HF.out.bel z.b).c3
  have V24_2 : ∀ z : Ext w2, z.v.cell? ⟨x.v.heap.size, 4, none⟩ = some (.int .i64 (u : Int)) := fun z => (HF.out.bel z.b).c4
  go_enter Try.func4, Try.ntmps4
  go_wp2
  have C0 : ∀ z : Ext w2, z.v.cell? ⟨pb, po + k * 3, none⟩ = some (.int .i64 (D.lo k)) := fun z => (H1_1.out.bel z.b).lo' HK.out
  have C1 : ∀ z : Ext w2, z.v.cell? ⟨pb, po + k * 3 + 1, none⟩ = some (.int .i64 (D.hi k)) := fun z => (H1_1.out.bel z.b).hi' HK.out
  refine quiet_e (by kernel_rfl) (by kernel_rfl) ?_
  repeat (first | go_big_quiet_step ((first | (go_at_call 15; exact quiet_x (HRD.out _ (H1_1.out.bel (Ext.b _)))) | (go_at_call 19; exact quiet_x (isPointR_any D _ q c d _ _ hn4)) | (go_at_call 22; exact quiet_x (inside_any _ _ _ _ _)))) | quiet_step ((first | (go_at_call 15; exact quiet_x (HRD.out _ (H1_1.out.bel (Ext.b _)))) | (go_at_call 19; exact quiet_x (isPointR_any D _ q c d _ _ hn4)) | (go_at_call 22; exact quiet_x (inside_any _ _ _ _ _)))))
  refine wpQuiet_nil ?_
  intro w6 hw6
  obtain ⟨y, rfl⟩ := hw6
  clear C0 C1
  go_wp2_with fail
  refine (copy_any D (some ⟨pb, po, none⟩) q c d _ hn4 hm4 (H1_1.out.bel y.b)).mono ?_
  rintro e w' ⟨p', c', q', d', rfl, hcp⟩
  obtain ⟨g, go, rfl, hg1, hfz, hne⟩ := hcp.own (by have := HK.out; omega)
  have hcb := hcp.below; have hch := hcp.here
  clear hcp
  obtain ⟨y3, rfl⟩ : ∃ z : Ext w2, w' = z.v := ⟨⟨w', bT y.b hcb⟩, rfl⟩
  have HG : Hid (w2.heap.size ≤ g) := Nat.le_trans y.b.size hg1
  have HGL : Hid (g < y3.v.heap.size) := by
    obtain ⟨b, o, e, hl, _⟩ := hch.pt (by have := HK.out; omega)
    cases e; exact hl
  have HNE := Lib.hid hne; have HFZ := Lib.hid hfz; have HCH := Lib.hid hch
  clear hg1 hfz hne hcb hch
  have hoN := KK_hoN.out
  have HONE := Lib.hid (show ∀ (V : World), DuctIn V V.heap.size (nar D k g1 g2) (some ⟨g, go, none⟩) q' → Calls Try.prog 26 #[.agg #[.slice (some ⟨g, go, none⟩) D.n c', .slice q' D.m d']] V fun e w' => e = .returned (.bool false) ∧ Below V.heap.size V w' from fun V h => by
    have := one_any (nar D k g1 g2) (some ⟨g, go, none⟩) q' c' d' V hn4 hm4 h
    rw [hoN] at this
    exact this)
  clear hoN
  obtain ⟨w5, x5, e5, b5, l5⟩ := mk_line y3.v (some ⟨g, go, none⟩) q' D.n D.m c' d'
  have HBx5 := Lib.hid b5; have HLx5 := Lib.hid l5
  clear b5 l5

  clear L0a_2 L0b_2 V20_2 V21_2 V22_2 V23_2 V24_2
  have H3_0 := Lib.hid (H1_0.out.bel (bT y3.b HBx5.out))
  have H3_1 := Lib.hid (H1_1.out.bel (bT y3.b HBx5.out))
  have H3_2 := Lib.hid (HF.out.bel (bT y3.b HBx5.out))
  have HB3 := Lib.hid (bT HB1.out (bT y3.b HBx5.out))
  have L0a_4 : ∀ z : Ext w5, z.v.cell? ⟨w.heap.size, 0, none⟩ = some (.slice (some ⟨pb, po, none⟩) D.n c) := fun z => (H3_0.out.bel z.b).c0
  have L0b_4 : ∀ z : Ext w5, z.v.cell? ⟨w.heap.size, 1, none⟩ = some (.slice q D.m d) := fun z => (H3_0.out.bel z.b).c1
  have V20_4 : ∀ z : Ext w5, z.v.cell? ⟨x.v.heap.size, 0, none⟩ = some (.int .i64 (k : Int)) := fun z => (H3_2.out.bel z.b).c0
  have V21_4 : ∀ z : Ext w5, z.v.cell? ⟨x.v.heap.size, 1, none⟩ = some (.int .i64 g1) := fun z => (H3_2.out.bel z.b).c1
  have V22_4 : ∀ z : Ext w5, z.v.cell? ⟨x.v.heap.size, 2, none⟩ = some (.int .i64 g2) := fun z => (H3_2.out.bel z.b).c2
  have V23_4 : ∀ z : Ext w5, z.v.cell? ⟨x.v.heap.size, 3, none⟩ = some (.int .i64 g3) := fun z => (H3_2.out.bel z.b).c3
  have V24_4 : ∀ z : Ext w5, z.v.cell? ⟨x.v.heap.size, 4, none⟩ = some (.int .i64 (u : Int)) := fun z => (H3_2.out.bel z.b).c4
  have L3a_4 : ∀ z : Ext w5, z.v.cell? ⟨y3.v.heap.size, 0, none⟩ = some (.slice (some ⟨g, go, none⟩) D.n c') := fun z => (HLx5.out.bel z.b).c0
  have L3b_4 : ∀ z : Ext w5, z.v.cell? ⟨y3.v.heap.size, 1, none⟩ = some (.slice q' D.m d') := fun z => (HLx5.out.bel z.b).c1
  have FZ : ∀ (z : Ext w5) i, z.v.frozen? ⟨g, i, none⟩ = false := fun z i => ((bT HBx5.out z.b).frozen (p := ⟨g, i, none⟩) HGL.out).trans (HFZ.out i)
  have E0 : ∀ z : Ext w5, z.v.cell? ⟨g, go + k * 3, none⟩ = some (.int .i64 (D.lo k)) := fun z => (HCH.out.bel (bT HBx5.out z.b)).lo' HK.out
  have E1 : ∀ z : Ext w5, z.v.cell? ⟨g, go + k * 3 + 1, none⟩ = some (.int .i64 (D.hi k)) := fun z => (HCH.out.bel (bT HBx5.out z.b)).hi' HK.out
  obtain ⟨w6, x6, e6, hw6⟩ : ∃ (w6 : World) (x6 : Ext w6), (x5.v.setCell ⟨g, go + k * 3, none⟩ (.int .i64 g1)).setCell ⟨g, go + k * 3 + 1, none⟩ (.int .i64 g2) = x6.v ∧ w6 = (x5.v.setCell ⟨g, go + k * 3, none⟩ (.int .i64 g1)).setCell ⟨g, go + k * 3 + 1, none⟩ (.int .i64 g2) := ⟨_, ⟨_, Below.refl _ _⟩, rfl, rfl⟩
  have HBx26 : Hid (Below w2.heap.size w2 w6) := by rw [hw6]; exact bS (bS (bT (bT y3.b HBx5.out) x5.b) HG.out _) HG.out _
  have HLx6 : Hid (LineBox w6 y3.v.heap.size (some ⟨g, go, none⟩) D.n c' q' D.m d') := by rw [hw6]; exact (HLx5.out.bel x5.b).two (by have := HGL.out; omega)
  have HNx6 : Hid (DuctIn w6 w6.heap.size (nar D k g1 g2) (some ⟨g, go, none⟩) q') := by
    rw [hw6]
    have := nar_in (a := g1) (b := g2) (HCH.out.bel (bT HBx5.out x5.b)) HK.out HNE.out
    show DuctIn _ _ _ _ _
    simpa using this
  clear hw6
  have H5_0 := Lib.hid (H1_0.out.bel HBx26.out)
  have H5_1 := Lib.hid (H1_1.out.bel HBx26.out)
  have H5_2 := Lib.hid (HF.out.bel HBx26.out)
  have HB5 := Lib.hid (bT HB1.out HBx26.out)
  have L0a_6 : ∀ z : Ext w6, z.v.cell? ⟨w.heap.size, 0, none⟩ = some (.slice (some ⟨pb, po, none⟩) D.n c) := fun z => (H5_0.out.bel z.b).c0
  have L0b_6 : ∀ z : Ext w6, z.v.cell? ⟨w.heap.size, 1, none⟩ = some (.slice q D.m d) := fun z => (H5_0.out.bel z.b).c1
  have V20_6 : ∀ z : Ext w6, z.v.cell? ⟨x.v.heap.size, 0, none⟩ = some (.int .i64 (k : Int)) := fun z => (H5_2.out.bel z.b).c0
  have V21_6 : ∀ z : Ext w6, z.v.cell? ⟨x.v.heap.size, 1, none⟩ = some (.int .i64 g1) := fun z => (H5_2.out.bel z.b).c1
  have V22_6 : ∀ z : Ext w6, z.v.cell? ⟨x.v.heap.size, 2, none⟩ = some (.int .i64 g2) := fun z => (H5_2.out.bel z.b).c2
  have V23_6 : ∀ z : Ext w6, z.v.cell? ⟨x.v.heap.size, 3, none⟩ = some (.int .i64 g3) := fun z => (H5_2.out.bel z.b).c3
  have V24_6 : ∀ z : Ext w6, z.v.cell? ⟨x.v.heap.size, 4, none⟩ = some (.int .i64 (u : Int)) := fun z => (H5_2.out.bel z.b).c4
  have L3a_6 : ∀ z : Ext w6, z.v.cell? ⟨y3.v.heap.size, 0, none⟩ = some (.slice (some ⟨g, go, none⟩) D.n c') := fun z => (HLx6.out.bel z.b).c0
  have L3b_6 : ∀ z : Ext w6, z.v.cell? ⟨y3.v.heap.size, 1, none⟩ = some (.slice q' D.m d') := fun z => (HLx6.out.bel z.b).c1
  go_wp2_with fail
  clear L0a_4 L0b_4 V20_4 V21_4 V22_4 V23_4 V24_4 L3a_4 L3b_4 FZ E0 E1 e5 e6 e1 e2
  refine (quiet_x (HONE.out _ (HNx6.out.bel (Ext.b _)))).mono ?_
  rintro e w' ⟨rfl, y6, rfl⟩
  go_wp2_with fail
  refine (quiet_x (works_ex _)).mono ?_
  rintro e w' ⟨rfl, y7, rfl⟩
  go_wp2_with fail
  go_ret
  exact ⟨rfl, bT HB5.out y7.b⟩
end Go.Proofs.Ytkdlppekjjbgoaa
