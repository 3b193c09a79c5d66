/- AqueductMore returns true in every walk: all of it. -/
import Derived.Test.YtkdlppekjjbgoaaF1

set_option linter.unusedSimpArgs false

set_option linter.unusedVariables false

namespace Go.Proofs.Ytkdlppekjjbgoaa

open Go.RowKit

set_option maxRecDepth 100000 in
set_option maxHeartbeats 8000000 in
theorem more_full (D : Duct) (p q : Option Addr) (c d : Nat) (k u : Nat) (g1 g2 g3 : Int) (w : World) (hn4 : D.n ≤ 40) (hm4 : D.m ≤ 40) (hi : DuctIn w w.heap.size D p q) (hrd : (!(decide (40 < D.n) || decide (40 < D.m)) && D.ok) = true) (hok : D.ok = true) (hk : k < D.n) (hu : u < D.n) (hin : D.lo k ≤ g1 ∧ g1 ≤ g2 ∧ g2 ≤ D.hi k) (hoN : (nar D k g1 g2).one = true) (s : Nat) (hs : s < D.m) :
    Calls Try.prog 4 #[.agg #[.slice p D.n c, .slice q D.m d], .agg #[.int .i64 (k : Int), .int .i64 g1, .int .i64 g2, .int .i64 (s : Int), .int .i64 (u : Int)]] w fun e w' => e = .returned (.bool true) ∧ Below w.heap.size w w' := by
  obtain ⟨pb, po, rfl, _, _⟩ := hi.pt (by omega)
  have hokN := nar_ok hok hk hin
  have i1 : isPt D (k : Int) = true := within_tt (by omega) (by omega)
  have i4 : isPt D (u : Int) = true := within_tt (by omega) (by omega)
  have i5 : isSt D (s : Int) = true := within_tt (by omega) (by omega)
  have hone : D.one = true := nar_one hin.1 hin.2.2 hoN
  have hcs : D.clash.isSome = false := by rw [(clash_one hok).2 hone]; rfl
  have hcsN : (nar D k g1 g2).clash.isSome = false := by rw [(clash_one hokN).2 hoN]; rfl
  have hL : lrnE D true = 0 := by simp [lrnE, hok, hcs]
  have hLN : lrnE (nar D k g1 g2) true = 0 := by simp [lrnE, hokN, hcsN]
  have hLu : lrnE D (isPt D (u : Int)) = 0 := by rw [i4]; exact hL
  have hLuN : lrnE (nar D k g1 g2) (isPt (nar D k g1 g2) (u : Int)) = 0 := by rw [show isPt (nar D k g1 g2) (u : Int) = true from i4]; exact hLN
  obtain ⟨a0, ha0⟩ : ∃ e, fl D u = e := ⟨_, rfl⟩
  obtain ⟨a1, ha1⟩ : ∃ e, fh D u = e := ⟨_, rfl⟩
  obtain ⟨b0, hb0⟩ : ∃ e, fl (nar D k g1 g2) u = e := ⟨_, rfl⟩
  obtain ⟨b1, hb1⟩ : ∃ e, fh (nar D k g1 g2) u = e := ⟨_, rfl⟩
  obtain ⟨s0, hs0⟩ : ∃ e, whV0 D = e := ⟨_, rfl⟩
  obtain ⟨s1, hs1⟩ : ∃ e, whV1 D = e := ⟨_, rfl⟩
  obtain ⟨t0, ht0⟩ : ∃ e, whV0 (nar D k g1 g2) = e := ⟨_, rfl⟩
  obtain ⟨t1, ht1⟩ : ∃ e, whV1 (nar D k g1 g2) = e := ⟨_, rfl⟩
  have q1 : decide (a0 ≤ b0 ∧ b0 ≤ b1 ∧ b1 ≤ a1) = true := by
    have h1 := nar_fl (b := g2) hin.1 hu
    have h2 := nar_fh (a := g1) hin.2.2 u
    have h3 := fl_fh hoN (k := u) hu
    rw [← ha0, ← ha1, ← hb0, ← hb1]; simp; exact ⟨h1, h3, h2⟩
  have q2 : decide (s0 ≤ t0 ∧ t0 ≤ t1 ∧ t1 ≤ s1) = true := by
    have h1 := nar_loss hin.1 hin.2.2 hoN (i := 0) (j := D.m) (by omega) (by have := (D.ok_parts hok).2.1; omega)
    rw [← hs0, ← hs1, ← ht0, ← ht1]; unfold whV0 whV1; rw [if_pos hL, if_pos hL, if_pos hLN, if_pos hLN]; simp; exact h1
  have i5N : isSt (nar D k g1 g2) (s : Int) = true := i5
  have hLs : lrnE D (isSt D (s : Int)) = 0 := by rw [i5]; exact hL
  have hLsN : lrnE (nar D k g1 g2) (isSt (nar D k g1 g2) (s : Int)) = 0 := by rw [i5N]; exact hLN
  obtain ⟨l0, hl0⟩ : ∃ e, lsL D s (s + 1) = e := ⟨_, rfl⟩
  obtain ⟨l1, hl1⟩ : ∃ e, lsH D s (s + 1) = e := ⟨_, rfl⟩
  obtain ⟨k0, hk0⟩ : ∃ e, lsL (nar D k g1 g2) s (s + 1) = e := ⟨_, rfl⟩
  obtain ⟨k1, hk1⟩ : ∃ e, lsH (nar D k g1 g2) s (s + 1) = e := ⟨_, rfl⟩
  obtain ⟨yv, hyv⟩ : ∃ e, lyV D (s : Int) = e := ⟨_, rfl⟩
  obtain ⟨zv, hzv⟩ : ∃ e, lyV (nar D k g1 g2) (s : Int) = e := ⟨_, rfl⟩
  have hll := nar_loss hin.1 hin.2.2 hoN (i := s) (j := s + 1) (by omega) (by have := (D.ok_parts hok).2.1; omega)
  have hl00 := (loss_le hoN (i := s) (j := s + 1) (by omega) (show s + 1 < D.n by have := (D.ok_parts hok).2.1; omega)).1
  rw [hl0, hl1, hk0, hk1] at hll
  rw [hk0] at hl00
  have q3 : decide (l0 ≤ k0 ∧ k0 ≤ k1 ∧ k1 ≤ l1) = true := by simp; exact hll
  have HYY : Hid ((yv == 3) = true ∨ (zv == yv) = true) := by
    have e1 : yv = (if 0 < l0 then 1 else if l1 = 0 then 2 else 3) := by rw [← hyv, ← hl0, ← hl1]; unfold lyV; rw [if_pos hLs]; rfl
    have e2 : zv = (if 0 < k0 then 1 else if k1 = 0 then 2 else 3) := by rw [← hzv, ← hk0, ← hk1]; unfold lyV; rw [if_pos hLsN]; rfl
    show (yv == 3) = true ∨ (zv == yv) = true
    simp only [beq_iff_eq]
    split at e1
    · rw [if_pos (by omega)] at e2; omega
    · split at e1
      · rw [if_neg (by omega), if_pos (by omega)] at e2; omega
      · omega
  have hins : decide (D.lo k ≤ g1 ∧ g1 ≤ g2 ∧ g2 ≤ D.hi k) = true := by simpa using hin
  have j2 : (k : Int) < (D.n : Int) := by omega
  have HK := Lib.hid hk
  have HRD := Lib.hid (show ∀ (V : World), DuctIn V V.heap.size D (some ⟨pb, po, none⟩) q → Calls Try.prog 15 #[.agg #[.slice (some ⟨pb, po, none⟩) D.n c, .slice q D.m d]] V fun e w' => e = .returned (.bool true) ∧ Below V.heap.size V w' from fun V h => by
    have := ready_any D (some ⟨pb, po, none⟩) q c d V (by unfold maxLen; omega) (by unfold maxLen; omega) h
    rw [hrd] at this
    exact this)
  have HFD := Lib.hid (show ∀ (V : World), DuctIn V V.heap.size D (some ⟨pb, po, none⟩) q → Calls Try.prog 21 #[.agg #[.slice (some ⟨pb, po, none⟩) D.n c, .slice q D.m d], .int .i64 (u : Int)] V fun e w' => e = .returned (.tuple #[.agg #[.int .i64 a0, .int .i64 a1], .int .i64 0]) ∧ Below V.heap.size V w' from fun V h => by
    have := flowP_any D (some ⟨pb, po, none⟩) q c d (u : Int) V hn4 hm4 h
    rw [show flV0 D (u : Int) = a0 from by unfold flV0; rw [if_pos hLu]; exact ha0, show flV1 D (u : Int) = a1 from by unfold flV1; rw [if_pos hLu]; exact ha1, hLu] at this
    exact this)
  have HWD := Lib.hid (show ∀ (V : World), DuctIn V V.heap.size D (some ⟨pb, po, none⟩) q → Calls Try.prog 18 #[.agg #[.slice (some ⟨pb, po, none⟩) D.n c, .slice q D.m d]] V fun e w' => e = .returned (.tuple #[.agg #[.int .i64 s0, .int .i64 s1], .int .i64 0]) ∧ Below V.heap.size V w' from fun V h => by
    have := wholeP_any D (some ⟨pb, po, none⟩) q c d V hn4 hm4 h
    rw [hs0, hs1, hL] at this
    exact this)
  have HIS := Lib.hid (show ∀ (V : World), Calls Try.prog 27 #[.agg #[.slice (some ⟨pb, po, none⟩) D.n c, .slice q D.m d], .int .i64 (s : Int)] V fun e w' => e = .returned (.bool true) ∧ Below V.heap.size V w' from fun V => by
    have := isStretchR_any D (some ⟨pb, po, none⟩) q c d (s : Int) V hm4
    rw [i5] at this
    exact this)
  have HLD := Lib.hid (show ∀ (V : World), DuctIn V V.heap.size D (some ⟨pb, po, none⟩) q → Calls Try.prog 23 #[.agg #[.slice (some ⟨pb, po, none⟩) D.n c, .slice q D.m d], .int .i64 (s : Int)] V fun e w' => e = .returned (.tuple #[.agg #[.int .i64 l0, .int .i64 l1], .int .i64 0]) ∧ Below V.heap.size V w' from fun V h => by
    have := lossP_any D (some ⟨pb, po, none⟩) q c d (s : Int) V hn4 hm4 h
    rw [show lsV0 D (s : Int) = l0 from by unfold lsV0; rw [if_pos hLs]; exact hl0, show lsV1 D (s : Int) = l1 from by unfold lsV1; rw [if_pos hLs]; exact hl1, hLs] at this
    exact this)
  have HYD := Lib.hid (show ∀ (V : World), DuctIn V V.heap.size D (some ⟨pb, po, none⟩) q → Calls Try.prog 24 #[.agg #[.slice (some ⟨pb, po, none⟩) D.n c, .slice q D.m d], .int .i64 (s : Int)] V fun e w' => e = .returned (.tuple #[.int .i64 yv, .int .i64 0]) ∧ Below V.heap.size V w' from fun V h => by
    have := lossyP_any D (some ⟨pb, po, none⟩) q c d (s : Int) V hn4 hm4 h
    rw [hyv, hLs] at this
    exact this)
  have KK_hoN := Lib.hid hoN
  have KK_hLuN := Lib.hid hLuN
  have KK_hb0 := Lib.hid hb0
  have KK_hb1 := Lib.hid hb1
  have KK_ht0 := Lib.hid ht0
  have KK_ht1 := Lib.hid ht1
  have KK_hLN := Lib.hid hLN
  have KK_hLsN := Lib.hid hLsN
  have KK_hk0 := Lib.hid hk0
  have KK_hk1 := Lib.hid hk1
  have KK_hzv := Lib.hid hzv
  clear hrd hok hokN hin hk hu hoN hone hcs hcsN hL hLN hLu hLuN ha0 ha1 hb0 hb1 hs0 hs1 ht0 ht1 i5N hLs hLsN hl0 hl1 hk0 hk1 hyv hzv hll hl00
  obtain ⟨w1, x, e1, hb1, hl1⟩ := mk_line w (some ⟨pb, po, none⟩) q D.n D.m c d
  have HLb := Lib.hid hl1
  have HI := Lib.hid (hi.bel hb1)
  have HB := Lib.hid hb1
  clear hb1 hl1 hi
  obtain ⟨w2, x2, e2, b2, f2⟩ := mk_five x 46 (k : Int) g1 g2 (s : Int) (u : Int)
  have HF := Lib.hid f2
  have H21_0 := Lib.hid (HLb.out.bel b2)
  have H21_1 := Lib.hid (HI.out.bel b2)
  have HB21 := Lib.hid (bT HB.out b2)
  clear b2 f2
  have L0a_22 : ∀ z : Ext w2, z.v.cell? ⟨w.heap.size, 0, none⟩ = some (.slice (some ⟨pb, po, none⟩) D.n c) := fun z => (H21_0.out.bel z.b).c0
  have L0b_22 : ∀ z : Ext w2, z.v.cell? ⟨w.heap.size, 1, none⟩ = some (.slice q D.m d) := fun z => (H21_0.out.bel z.b).c1
  have V20_22 : ∀ z : Ext w2, z.v.cell? ⟨x.v.heap.size, 0, none⟩ = some (.int .i64 (k : Int)) := fun z => (HF.out.bel z.b).c0
  have V21_22 : ∀ z : Ext w2, z.v.cell? ⟨x.v.heap.size, 1, none⟩ = some (.int .i64 g1) := fun z => (HF.out.bel z.b).c1
  have V22_22 : ∀ z : Ext w2, z.v.cell? ⟨x.v.heap.size, 2, none⟩ = some (.int .i64 g2) := fun z => (HF.out.bel z.b).c2
  have V23_22 : ∀ z : Ext w2, z.v.cell? ⟨x.v.heap.size, 3, none⟩ = some (.int .i64 (s : Int)) := fun z => (HF.out.bel z.b).c3
  have V24_22 : ∀ z : Ext w2, z.v.cell? ⟨x.v.heap.size, 4, none⟩ = some (.int .i64 (u : Int)) := fun z => (HF.out.bel z.b).c4
  go_enter Try.func4, Try.ntmps4
  go_wp2
  have C0 : ∀ z : Ext w2, z.v.cell? ⟨pb, po + k * 3, none⟩ = some (.int .i64 (D.lo k)) := fun z => (H21_1.out.bel z.b).lo' HK.out
  have C1 : ∀ z : Ext w2, z.v.cell? ⟨pb, po + k * 3 + 1, none⟩ = some (.int .i64 (D.hi k)) := fun z => (H21_1.out.bel z.b).hi' HK.out
  refine quiet_e (by kernel_rfl) (by kernel_rfl) ?_
  repeat (first | go_big_quiet_step ((first | (go_at_call 15; exact quiet_x (HRD.out _ (H21_1.out.bel (Ext.b _)))) | (go_at_call 19; exact quiet_x (isPointR_any D _ q c d _ _ hn4)) | (go_at_call 22; exact quiet_x (inside_any _ _ _ _ _)))) | quiet_step ((first | (go_at_call 15; exact quiet_x (HRD.out _ (H21_1.out.bel (Ext.b _)))) | (go_at_call 19; exact quiet_x (isPointR_any D _ q c d _ _ hn4)) | (go_at_call 22; exact quiet_x (inside_any _ _ _ _ _)))))
  refine wpQuiet_nil ?_
  intro w6 hw6
  obtain ⟨y, rfl⟩ := hw6
  clear C0 C1
  go_wp2_with fail
  refine (copy_any D (some ⟨pb, po, none⟩) q c d _ hn4 hm4 (H21_1.out.bel y.b)).mono ?_
  rintro e w' ⟨p', c', q', d', rfl, hcp⟩
  obtain ⟨g, go, rfl, hg1, hfz, hne⟩ := hcp.own (by have := HK.out; omega)
  have hcb := hcp.below; have hch := hcp.here
  clear hcp
  obtain ⟨y3, rfl⟩ : ∃ z : Ext w2, w' = z.v := ⟨⟨w', bT y.b hcb⟩, rfl⟩
  have HG : Hid (w2.heap.size ≤ g) := Nat.le_trans y.b.size hg1
  have HGL : Hid (g < y3.v.heap.size) := by
    obtain ⟨b, o, e, hl, _⟩ := hch.pt (by have := HK.out; omega)
    cases e; exact hl
  have HNE := Lib.hid hne; have HFZ := Lib.hid hfz; have HCH := Lib.hid hch
  clear hg1 hfz hne hcb hch
  have hoN := KK_hoN.out
  have hLuN := KK_hLuN.out
  have hb0 := KK_hb0.out
  have hb1 := KK_hb1.out
  have ht0 := KK_ht0.out
  have ht1 := KK_ht1.out
  have hLN := KK_hLN.out
  have hLsN := KK_hLsN.out
  have hk0 := KK_hk0.out
  have hk1 := KK_hk1.out
  have hzv := KK_hzv.out
  have HONE := Lib.hid (show ∀ (V : World), DuctIn V V.heap.size (nar D k g1 g2) (some ⟨g, go, none⟩) q' → Calls Try.prog 26 #[.agg #[.slice (some ⟨g, go, none⟩) D.n c', .slice q' D.m d']] V fun e w' => e = .returned (.bool true) ∧ Below V.heap.size V w' from fun V h => by
    have := one_any (nar D k g1 g2) (some ⟨g, go, none⟩) q' c' d' V hn4 hm4 h
    rw [hoN] at this
    exact this)
  have HFN := Lib.hid (show ∀ (V : World), DuctIn V V.heap.size (nar D k g1 g2) (some ⟨g, go, none⟩) q' → Calls Try.prog 21 #[.agg #[.slice (some ⟨g, go, none⟩) D.n c', .slice q' D.m d'], .int .i64 (u : Int)] V fun e w' => e = .returned (.tuple #[.agg #[.int .i64 b0, .int .i64 b1], .int .i64 0]) ∧ Below V.heap.size V w' from fun V h => by
    have := flowP_any (nar D k g1 g2) (some ⟨g, go, none⟩) q' c' d' (u : Int) V hn4 hm4 h
    rw [show flV0 (nar D k g1 g2) (u : Int) = b0 from by unfold flV0; rw [if_pos hLuN]; exact hb0, show flV1 (nar D k g1 g2) (u : Int) = b1 from by unfold flV1; rw [if_pos hLuN]; exact hb1, hLuN] at this
    exact this)
  have HWN := Lib.hid (show ∀ (V : World), DuctIn V V.heap.size (nar D k g1 g2) (some ⟨g, go, none⟩) q' → Calls Try.prog 18 #[.agg #[.slice (some ⟨g, go, none⟩) D.n c', .slice q' D.m d']] V fun e w' => e = .returned (.tuple #[.agg #[.int .i64 t0, .int .i64 t1], .int .i64 0]) ∧ Below V.heap.size V w' from fun V h => by
    have := wholeP_any (nar D k g1 g2) (some ⟨g, go, none⟩) q' c' d' V hn4 hm4 h
    rw [ht0, ht1, hLN] at this
    exact this)
  have HLN := Lib.hid (show ∀ (V : World), DuctIn V V.heap.size (nar D k g1 g2) (some ⟨g, go, none⟩) q' → Calls Try.prog 23 #[.agg #[.slice (some ⟨g, go, none⟩) D.n c', .slice q' D.m d'], .int .i64 (s : Int)] V fun e w' => e = .returned (.tuple #[.agg #[.int .i64 k0, .int .i64 k1], .int .i64 0]) ∧ Below V.heap.size V w' from fun V h => by
    have := lossP_any (nar D k g1 g2) (some ⟨g, go, none⟩) q' c' d' (s : Int) V hn4 hm4 h
    rw [show lsV0 (nar D k g1 g2) (s : Int) = k0 from by unfold lsV0; rw [if_pos hLsN]; exact hk0, show lsV1 (nar D k g1 g2) (s : Int) = k1 from by unfold lsV1; rw [if_pos hLsN]; exact hk1, hLsN] at this
    exact this)
  have HYN := Lib.hid (show ∀ (V : World), DuctIn V V.heap.size (nar D k g1 g2) (some ⟨g, go, none⟩) q' → Calls Try.prog 24 #[.agg #[.slice (some ⟨g, go, none⟩) D.n c', .slice q' D.m d'], .int .i64 (s : Int)] V fun e w' => e = .returned (.tuple #[.int .i64 zv, .int .i64 0]) ∧ Below V.heap.size V w' from fun V h => by
    have := lossyP_any (nar D k g1 g2) (some ⟨g, go, none⟩) q' c' d' (s : Int) V hn4 hm4 h
    rw [hzv, hLsN] at this
    exact this)
  clear hoN hLuN hb0 hb1 ht0 ht1 hLN hLsN hk0 hk1 hzv
  obtain ⟨w5, x5, e5, b5, l5⟩ := mk_line y3.v (some ⟨g, go, none⟩) q' D.n D.m c' d'
  have HBx5 := Lib.hid b5; have HLx5 := Lib.hid l5
  clear b5 l5

  clear L0a_22 L0b_22 V20_22 V21_22 V22_22 V23_22 V24_22
  have H23_0 := Lib.hid (H21_0.out.bel (bT y3.b HBx5.out))
  have H23_1 := Lib.hid (H21_1.out.bel (bT y3.b HBx5.out))
  have H23_2 := Lib.hid (HF.out.bel (bT y3.b HBx5.out))
  have HB23 := Lib.hid (bT HB21.out (bT y3.b HBx5.out))
  have L0a_24 : ∀ z : Ext w5, z.v.cell? ⟨w.heap.size, 0, none⟩ = some (.slice (some ⟨pb, po, none⟩) D.n c) := fun z => (H23_0.out.bel z.b).c0
  have L0b_24 : ∀ z : Ext w5, z.v.cell? ⟨w.heap.size, 1, none⟩ = some (.slice q D.m d) := fun z => (H23_0.out.bel z.b).c1
  have V20_24 : ∀ z : Ext w5, z.v.cell? ⟨x.v.heap.size, 0, none⟩ = some (.int .i64 (k : Int)) := fun z => (H23_2.out.bel z.b).c0
  have V21_24 : ∀ z : Ext w5, z.v.cell? ⟨x.v.heap.size, 1, none⟩ = some (.int .i64 g1) := fun z => (H23_2.out.bel z.b).c1
  have V22_24 : ∀ z : Ext w5, z.v.cell? ⟨x.v.heap.size, 2, none⟩ = some (.int .i64 g2) := fun z => (H23_2.out.bel z.b).c2
  have V23_24 : ∀ z : Ext w5, z.v.cell? ⟨x.v.heap.size, 3, none⟩ = some (.int .i64 (s : Int)) := fun z => (H23_2.out.bel z.b).c3
  have V24_24 : ∀ z : Ext w5, z.v.cell? ⟨x.v.heap.size, 4, none⟩ = some (.int .i64 (u : Int)) := fun z => (H23_2.out.bel z.b).c4
  have L3a_24 : ∀ z : Ext w5, z.v.cell? ⟨y3.v.heap.size, 0, none⟩ = some (.slice (some ⟨g, go, none⟩) D.n c') := fun z => (HLx5.out.bel z.b).c0
  have L3b_24 : ∀ z : Ext w5, z.v.cell? ⟨y3.v.heap.size, 1, none⟩ = some (.slice q' D.m d') := fun z => (HLx5.out.bel z.b).c1
  have FZ : ∀ (z : Ext w5) i, z.v.frozen? ⟨g, i, none⟩ = false := fun z i => ((bT HBx5.out z.b).frozen (p := ⟨g, i, none⟩) HGL.out).trans (HFZ.out i)
  have E0 : ∀ z : Ext w5, z.v.cell? ⟨g, go + k * 3, none⟩ = some (.int .i64 (D.lo k)) := fun z => (HCH.out.bel (bT HBx5.out z.b)).lo' HK.out
  have E1 : ∀ z : Ext w5, z.v.cell? ⟨g, go + k * 3 + 1, none⟩ = some (.int .i64 (D.hi k)) := fun z => (HCH.out.bel (bT HBx5.out z.b)).hi' HK.out
  obtain ⟨w6, x6, e6, hw6⟩ : ∃ (w6 : World) (x6 : Ext w6), (x5.v.setCell ⟨g, go + k * 3, none⟩ (.int .i64 g1)).setCell ⟨g, go + k * 3 + 1, none⟩ (.int .i64 g2) = x6.v ∧ w6 = (x5.v.setCell ⟨g, go + k * 3, none⟩ (.int .i64 g1)).setCell ⟨g, go + k * 3 + 1, none⟩ (.int .i64 g2) := ⟨_, ⟨_, Below.refl _ _⟩, rfl, rfl⟩
  have HBx26 : Hid (Below w2.heap.size w2 w6) := by rw [hw6]; exact bS (bS (bT (bT y3.b HBx5.out) x5.b) HG.out _) HG.out _
  have HLx6 : Hid (LineBox w6 y3.v.heap.size (some ⟨g, go, none⟩) D.n c' q' D.m d') := by rw [hw6]; exact (HLx5.out.bel x5.b).two (by have := HGL.out; omega)
  have HNx6 : Hid (DuctIn w6 w6.heap.size (nar D k g1 g2) (some ⟨g, go, none⟩) q') := by
    rw [hw6]
    have := nar_in (a := g1) (b := g2) (HCH.out.bel (bT HBx5.out x5.b)) HK.out HNE.out
    show DuctIn _ _ _ _ _
    simpa using this
  clear hw6
  have H25_0 := Lib.hid (H21_0.out.bel HBx26.out)
  have H25_1 := Lib.hid (H21_1.out.bel HBx26.out)
  have H25_2 := Lib.hid (HF.out.bel HBx26.out)
  have HB25 := Lib.hid (bT HB21.out HBx26.out)
  have L0a_26 : ∀ z : Ext w6, z.v.cell? ⟨w.heap.size, 0, none⟩ = some (.slice (some ⟨pb, po, none⟩) D.n c) := fun z => (H25_0.out.bel z.b).c0
  have L0b_26 : ∀ z : Ext w6, z.v.cell? ⟨w.heap.size, 1, none⟩ = some (.slice q D.m d) := fun z => (H25_0.out.bel z.b).c1
  have V20_26 : ∀ z : Ext w6, z.v.cell? ⟨x.v.heap.size, 0, none⟩ = some (.int .i64 (k : Int)) := fun z => (H25_2.out.bel z.b).c0
  have V21_26 : ∀ z : Ext w6, z.v.cell? ⟨x.v.heap.size, 1, none⟩ = some (.int .i64 g1) := fun z => (H25_2.out.bel z.b).c1
  have V22_26 : ∀ z : Ext w6, z.v.cell? ⟨x.v.heap.size, 2, none⟩ = some (.int .i64 g2) := fun z => (H25_2.out.bel z.b).c2
  have V23_26 : ∀ z : Ext w6, z.v.cell? ⟨x.v.heap.size, 3, none⟩ = some (.int .i64 (s : Int)) := fun z => (H25_2.out.bel z.b).c3
  have V24_26 : ∀ z : Ext w6, z.v.cell? ⟨x.v.heap.size, 4, none⟩ = some (.int .i64 (u : Int)) := fun z => (H25_2.out.bel z.b).c4
  have L3a_26 : ∀ z : Ext w6, z.v.cell? ⟨y3.v.heap.size, 0, none⟩ = some (.slice (some ⟨g, go, none⟩) D.n c') := fun z => (HLx6.out.bel z.b).c0
  have L3b_26 : ∀ z : Ext w6, z.v.cell? ⟨y3.v.heap.size, 1, none⟩ = some (.slice q' D.m d') := fun z => (HLx6.out.bel z.b).c1
  go_wp2_with fail
  clear L0a_24 L0b_24 V20_24 V21_24 V22_24 V23_24 V24_24 L3a_24 L3b_24 FZ E0 E1 e5 e6 e1 e2
  refine (quiet_x (HONE.out _ (HNx6.out.bel (Ext.b _)))).mono ?_
  rintro e w' ⟨rfl, y6, rfl⟩
  have Hbl := Lib.hid (Below.refl w6.heap.size w6)
  go_wp2_with fail
  refine (quiet_x (HFD.out _ (H25_1.out.bel (Ext.b _)))).mono ?_
  rintro e w' ⟨rfl, y7, rfl⟩
  obtain ⟨w7, x7, e7, b7, z7, t7⟩ := mk_two y7 34 a0 a1
  have Ht7 := Lib.hid t7
  have Hz7 := Lib.hid z7
  clear t7 z7
  clear L0a_26 L0b_26 V20_26 V21_26 V22_26 V23_26 V24_26 L3a_26 L3b_26
  have H27_0 := Lib.hid (H25_0.out.bel b7)
  have H27_1 := Lib.hid (H25_1.out.bel b7)
  have H27_2 := Lib.hid (H25_2.out.bel b7)
  have H27_3 := Lib.hid (HLx6.out.bel b7)
  have H27_4 := Lib.hid (HNx6.out.bel b7)
  have H27_5 := Lib.hid (bT Hbl.out b7)
  have HB27 := Lib.hid (bT HB25.out b7)
  have Hb67 := Lib.hid b7
  clear b7
  have L0a_28 : ∀ z : Ext w7, z.v.cell? ⟨w.heap.size, 0, none⟩ = some (.slice (some ⟨pb, po, none⟩) D.n c) := fun z => (H27_0.out.bel z.b).c0
  have L0b_28 : ∀ z : Ext w7, z.v.cell? ⟨w.heap.size, 1, none⟩ = some (.slice q D.m d) := fun z => (H27_0.out.bel z.b).c1
  have V20_28 : ∀ z : Ext w7, z.v.cell? ⟨x.v.heap.size, 0, none⟩ = some (.int .i64 (k : Int)) := fun z => (H27_2.out.bel z.b).c0
  have V21_28 : ∀ z : Ext w7, z.v.cell? ⟨x.v.heap.size, 1, none⟩ = some (.int .i64 g1) := fun z => (H27_2.out.bel z.b).c1
  have V22_28 : ∀ z : Ext w7, z.v.cell? ⟨x.v.heap.size, 2, none⟩ = some (.int .i64 g2) := fun z => (H27_2.out.bel z.b).c2
  have V23_28 : ∀ z : Ext w7, z.v.cell? ⟨x.v.heap.size, 3, none⟩ = some (.int .i64 (s : Int)) := fun z => (H27_2.out.bel z.b).c3
  have V24_28 : ∀ z : Ext w7, z.v.cell? ⟨x.v.heap.size, 4, none⟩ = some (.int .i64 (u : Int)) := fun z => (H27_2.out.bel z.b).c4
  have L3a_28 : ∀ z : Ext w7, z.v.cell? ⟨y3.v.heap.size, 0, none⟩ = some (.slice (some ⟨g, go, none⟩) D.n c') := fun z => (H27_3.out.bel z.b).c0
  have L3b_28 : ∀ z : Ext w7, z.v.cell? ⟨y3.v.heap.size, 1, none⟩ = some (.slice q' D.m d') := fun z => (H27_3.out.bel z.b).c1
  have T6a_28 : ∀ z : Ext w7, z.v.cell? ⟨y7.v.heap.size, 0, none⟩ = some (.int .i64 a0) := fun z => (Ht7.out.bel z.b).c0
  have T6b_28 : ∀ z : Ext w7, z.v.cell? ⟨y7.v.heap.size, 1, none⟩ = some (.int .i64 a1) := fun z => (Ht7.out.bel z.b).c1
  have T6f_28 : ∀ z : Ext w7, ∀ i, z.v.frozen? ⟨y7.v.heap.size, i, none⟩ = false := fun z => (Ht7.out.bel z.b).fz
  go_wp2_with fail
  refine (quiet_x (HFN.out _ (H27_4.out.bel (Ext.b _)))).mono ?_
  rintro e w' ⟨rfl, y8, rfl⟩
  obtain ⟨w8, x8, e8, b8, z8, t8⟩ := mk_two y8 34 b0 b1
  have Ht8 := Lib.hid t8
  have Hz8 := Lib.hid z8
  clear t8 z8
  clear L0a_28 L0b_28 V20_28 V21_28 V22_28 V23_28 V24_28 L3a_28 L3b_28 T6a_28 T6b_28 T6f_28
  have H29_0 := Lib.hid (H27_0.out.bel b8)
  have H29_1 := Lib.hid (H27_1.out.bel b8)
  have H29_2 := Lib.hid (H27_2.out.bel b8)
  have H29_3 := Lib.hid (H27_3.out.bel b8)
  have H29_4 := Lib.hid (H27_4.out.bel b8)
  have H29_5 := Lib.hid (bT H27_5.out b8)
  have H29_6 := Lib.hid (Ht7.out.bel b8)
  have HB29 := Lib.hid (bT HB27.out b8)
  clear b8
  have L0a_30 : ∀ z : Ext w8, z.v.cell? ⟨w.heap.size, 0, none⟩ = some (.slice (some ⟨pb, po, none⟩) D.n c) := fun z => (H29_0.out.bel z.b).c0
  have L0b_30 : ∀ z : Ext w8, z.v.cell? ⟨w.heap.size, 1, none⟩ = some (.slice q D.m d) := fun z => (H29_0.out.bel z.b).c1
  have V20_30 : ∀ z : Ext w8, z.v.cell? ⟨x.v.heap.size, 0, none⟩ = some (.int .i64 (k : Int)) := fun z => (H29_2.out.bel z.b).c0
  have V21_30 : ∀ z : Ext w8, z.v.cell? ⟨x.v.heap.size, 1, none⟩ = some (.int .i64 g1) := fun z => (H29_2.out.bel z.b).c1
  have V22_30 : ∀ z : Ext w8, z.v.cell? ⟨x.v.heap.size, 2, none⟩ = some (.int .i64 g2) := fun z => (H29_2.out.bel z.b).c2
  have V23_30 : ∀ z : Ext w8, z.v.cell? ⟨x.v.heap.size, 3, none⟩ = some (.int .i64 (s : Int)) := fun z => (H29_2.out.bel z.b).c3
  have V24_30 : ∀ z : Ext w8, z.v.cell? ⟨x.v.heap.size, 4, none⟩ = some (.int .i64 (u : Int)) := fun z => (H29_2.out.bel z.b).c4
  have L3a_30 : ∀ z : Ext w8, z.v.cell? ⟨y3.v.heap.size, 0, none⟩ = some (.slice (some ⟨g, go, none⟩) D.n c') := fun z => (H29_3.out.bel z.b).c0
  have L3b_30 : ∀ z : Ext w8, z.v.cell? ⟨y3.v.heap.size, 1, none⟩ = some (.slice q' D.m d') := fun z => (H29_3.out.bel z.b).c1
  have T6a_30 : ∀ z : Ext w8, z.v.cell? ⟨y7.v.heap.size, 0, none⟩ = some (.int .i64 a0) := fun z => (H29_6.out.bel z.b).c0
  have T6b_30 : ∀ z : Ext w8, z.v.cell? ⟨y7.v.heap.size, 1, none⟩ = some (.int .i64 a1) := fun z => (H29_6.out.bel z.b).c1
  have T6f_30 : ∀ z : Ext w8, ∀ i, z.v.frozen? ⟨y7.v.heap.size, i, none⟩ = false := fun z => (H29_6.out.bel z.b).fz
  have T7a_30 : ∀ z : Ext w8, z.v.cell? ⟨y8.v.heap.size, 0, none⟩ = some (.int .i64 b0) := fun z => (Ht8.out.bel z.b).c0
  have T7b_30 : ∀ z : Ext w8, z.v.cell? ⟨y8.v.heap.size, 1, none⟩ = some (.int .i64 b1) := fun z => (Ht8.out.bel z.b).c1
  have T7f_30 : ∀ z : Ext w8, ∀ i, z.v.frozen? ⟨y8.v.heap.size, i, none⟩ = false := fun z => (Ht8.out.bel z.b).fz
  go_wp2_with fail
  refine (quiet_x (HWD.out _ (H29_1.out.bel (Ext.b _)))).mono ?_
  rintro e w' ⟨rfl, y9, rfl⟩
  obtain ⟨w9, x9, e9, b9, z9, t9⟩ := mk_two y9 34 s0 s1
  have Ht9 := Lib.hid t9
  have Hz9 := Lib.hid z9
  clear t9 z9
  clear L0a_30 L0b_30 V20_30 V21_30 V22_30 V23_30 V24_30 L3a_30 L3b_30 T6a_30 T6b_30 T6f_30 T7a_30 T7b_30 T7f_30
  have H31_0 := Lib.hid (H29_0.out.bel b9)
  have H31_1 := Lib.hid (H29_1.out.bel b9)
  have H31_2 := Lib.hid (H29_2.out.bel b9)
  have H31_3 := Lib.hid (H29_3.out.bel b9)
  have H31_4 := Lib.hid (H29_4.out.bel b9)
  have H31_5 := Lib.hid (bT H29_5.out b9)
  have H31_6 := Lib.hid (H29_6.out.bel b9)
  have H31_7 := Lib.hid (Ht8.out.bel b9)
  have HB31 := Lib.hid (bT HB29.out b9)
  clear b9
  have L0a_32 : ∀ z : Ext w9, z.v.cell? ⟨w.heap.size, 0, none⟩ = some (.slice (some ⟨pb, po, none⟩) D.n c) := fun z => (H31_0.out.bel z.b).c0
  have L0b_32 : ∀ z : Ext w9, z.v.cell? ⟨w.heap.size, 1, none⟩ = some (.slice q D.m d) := fun z => (H31_0.out.bel z.b).c1
  have V20_32 : ∀ z : Ext w9, z.v.cell? ⟨x.v.heap.size, 0, none⟩ = some (.int .i64 (k : Int)) := fun z => (H31_2.out.bel z.b).c0
  have V21_32 : ∀ z : Ext w9, z.v.cell? ⟨x.v.heap.size, 1, none⟩ = some (.int .i64 g1) := fun z => (H31_2.out.bel z.b).c1
  have V22_32 : ∀ z : Ext w9, z.v.cell? ⟨x.v.heap.size, 2, none⟩ = some (.int .i64 g2) := fun z => (H31_2.out.bel z.b).c2
  have V23_32 : ∀ z : Ext w9, z.v.cell? ⟨x.v.heap.size, 3, none⟩ = some (.int .i64 (s : Int)) := fun z => (H31_2.out.bel z.b).c3
  have V24_32 : ∀ z : Ext w9, z.v.cell? ⟨x.v.heap.size, 4, none⟩ = some (.int .i64 (u : Int)) := fun z => (H31_2.out.bel z.b).c4
  have L3a_32 : ∀ z : Ext w9, z.v.cell? ⟨y3.v.heap.size, 0, none⟩ = some (.slice (some ⟨g, go, none⟩) D.n c') := fun z => (H31_3.out.bel z.b).c0
  have L3b_32 : ∀ z : Ext w9, z.v.cell? ⟨y3.v.heap.size, 1, none⟩ = some (.slice q' D.m d') := fun z => (H31_3.out.bel z.b).c1
  have T6a_32 : ∀ z : Ext w9, z.v.cell? ⟨y7.v.heap.size, 0, none⟩ = some (.int .i64 a0) := fun z => (H31_6.out.bel z.b).c0
  have T6b_32 : ∀ z : Ext w9, z.v.cell? ⟨y7.v.heap.size, 1, none⟩ = some (.int .i64 a1) := fun z => (H31_6.out.bel z.b).c1
  have T6f_32 : ∀ z : Ext w9, ∀ i, z.v.frozen? ⟨y7.v.heap.size, i, none⟩ = false := fun z => (H31_6.out.bel z.b).fz
  have T7a_32 : ∀ z : Ext w9, z.v.cell? ⟨y8.v.heap.size, 0, none⟩ = some (.int .i64 b0) := fun z => (H31_7.out.bel z.b).c0
  have T7b_32 : ∀ z : Ext w9, z.v.cell? ⟨y8.v.heap.size, 1, none⟩ = some (.int .i64 b1) := fun z => (H31_7.out.bel z.b).c1
  have T7f_32 : ∀ z : Ext w9, ∀ i, z.v.frozen? ⟨y8.v.heap.size, i, none⟩ = false := fun z => (H31_7.out.bel z.b).fz
  have T8a_32 : ∀ z : Ext w9, z.v.cell? ⟨y9.v.heap.size, 0, none⟩ = some (.int .i64 s0) := fun z => (Ht9.out.bel z.b).c0
  have T8b_32 : ∀ z : Ext w9, z.v.cell? ⟨y9.v.heap.size, 1, none⟩ = some (.int .i64 s1) := fun z => (Ht9.out.bel z.b).c1
  have T8f_32 : ∀ z : Ext w9, ∀ i, z.v.frozen? ⟨y9.v.heap.size, i, none⟩ = false := fun z => (Ht9.out.bel z.b).fz
  go_wp2_with fail
  refine (quiet_x (HWN.out _ (H31_4.out.bel (Ext.b _)))).mono ?_
  rintro e w' ⟨rfl, y10, rfl⟩
  obtain ⟨w10, x10, e10, b10, z10, t10⟩ := mk_two y10 34 t0 t1
  have Ht10 := Lib.hid t10
  have Hz10 := Lib.hid z10
  clear t10 z10
  clear L0a_32 L0b_32 V20_32 V21_32 V22_32 V23_32 V24_32 L3a_32 L3b_32 T6a_32 T6b_32 T6f_32 T7a_32 T7b_32 T7f_32 T8a_32 T8b_32 T8f_32
  have H33_0 := Lib.hid (H31_0.out.bel b10)
  have H33_1 := Lib.hid (H31_1.out.bel b10)
  have H33_2 := Lib.hid (H31_2.out.bel b10)
  have H33_3 := Lib.hid (H31_3.out.bel b10)
  have H33_4 := Lib.hid (H31_4.out.bel b10)
  have H33_5 := Lib.hid (bT H31_5.out b10)
  have H33_6 := Lib.hid (H31_6.out.bel b10)
  have H33_7 := Lib.hid (H31_7.out.bel b10)
  have H33_8 := Lib.hid (Ht9.out.bel b10)
  have HB33 := Lib.hid (bT HB31.out b10)
  clear b10
  have L0a_34 : ∀ z : Ext w10, z.v.cell? ⟨w.heap.size, 0, none⟩ = some (.slice (some ⟨pb, po, none⟩) D.n c) := fun z => (H33_0.out.bel z.b).c0
  have L0b_34 : ∀ z : Ext w10, z.v.cell? ⟨w.heap.size, 1, none⟩ = some (.slice q D.m d) := fun z => (H33_0.out.bel z.b).c1
  have V20_34 : ∀ z : Ext w10, z.v.cell? ⟨x.v.heap.size, 0, none⟩ = some (.int .i64 (k : Int)) := fun z => (H33_2.out.bel z.b).c0
  have V21_34 : ∀ z : Ext w10, z.v.cell? ⟨x.v.heap.size, 1, none⟩ = some (.int .i64 g1) := fun z => (H33_2.out.bel z.b).c1
  have V22_34 : ∀ z : Ext w10, z.v.cell? ⟨x.v.heap.size, 2, none⟩ = some (.int .i64 g2) := fun z => (H33_2.out.bel z.b).c2
  have V23_34 : ∀ z : Ext w10, z.v.cell? ⟨x.v.heap.size, 3, none⟩ = some (.int .i64 (s : Int)) := fun z => (H33_2.out.bel z.b).c3
  have V24_34 : ∀ z : Ext w10, z.v.cell? ⟨x.v.heap.size, 4, none⟩ = some (.int .i64 (u : Int)) := fun z => (H33_2.out.bel z.b).c4
  have L3a_34 : ∀ z : Ext w10, z.v.cell? ⟨y3.v.heap.size, 0, none⟩ = some (.slice (some ⟨g, go, none⟩) D.n c') := fun z => (H33_3.out.bel z.b).c0
  have L3b_34 : ∀ z : Ext w10, z.v.cell? ⟨y3.v.heap.size, 1, none⟩ = some (.slice q' D.m d') := fun z => (H33_3.out.bel z.b).c1
  have T6a_34 : ∀ z : Ext w10, z.v.cell? ⟨y7.v.heap.size, 0, none⟩ = some (.int .i64 a0) := fun z => (H33_6.out.bel z.b).c0
  have T6b_34 : ∀ z : Ext w10, z.v.cell? ⟨y7.v.heap.size, 1, none⟩ = some (.int .i64 a1) := fun z => (H33_6.out.bel z.b).c1
  have T6f_34 : ∀ z : Ext w10, ∀ i, z.v.frozen? ⟨y7.v.heap.size, i, none⟩ = false := fun z => (H33_6.out.bel z.b).fz
  have T7a_34 : ∀ z : Ext w10, z.v.cell? ⟨y8.v.heap.size, 0, none⟩ = some (.int .i64 b0) := fun z => (H33_7.out.bel z.b).c0
  have T7b_34 : ∀ z : Ext w10, z.v.cell? ⟨y8.v.heap.size, 1, none⟩ = some (.int .i64 b1) := fun z => (H33_7.out.bel z.b).c1
  have T7f_34 : ∀ z : Ext w10, ∀ i, z.v.frozen? ⟨y8.v.heap.size, i, none⟩ = false := fun z => (H33_7.out.bel z.b).fz
  have T8a_34 : ∀ z : Ext w10, z.v.cell? ⟨y9.v.heap.size, 0, none⟩ = some (.int .i64 s0) := fun z => (H33_8.out.bel z.b).c0
  have T8b_34 : ∀ z : Ext w10, z.v.cell? ⟨y9.v.heap.size, 1, none⟩ = some (.int .i64 s1) := fun z => (H33_8.out.bel z.b).c1
  have T8f_34 : ∀ z : Ext w10, ∀ i, z.v.frozen? ⟨y9.v.heap.size, i, none⟩ = false := fun z => (H33_8.out.bel z.b).fz
  have T9a_34 : ∀ z : Ext w10, z.v.cell? ⟨y10.v.heap.size, 0, none⟩ = some (.int .i64 t0) := fun z => (Ht10.out.bel z.b).c0
  have T9b_34 : ∀ z : Ext w10, z.v.cell? ⟨y10.v.heap.size, 1, none⟩ = some (.int .i64 t1) := fun z => (Ht10.out.bel z.b).c1
  have T9f_34 : ∀ z : Ext w10, ∀ i, z.v.frozen? ⟨y10.v.heap.size, i, none⟩ = false := fun z => (Ht10.out.bel z.b).fz
  go_wp2_with fail
  refine (quiet_x (inside_any _ _ _ _ _)).mono ?_
  rintro e w' ⟨rfl, y11, rfl⟩
  go_wp2_with fail
  refine (quiet_x (inside_any _ _ _ _ _)).mono ?_
  rintro e w' ⟨rfl, y12, rfl⟩
  go_wp2_with fail
  refine (quiet_x (HIS.out _)).mono ?_
  rintro e w' ⟨rfl, y13, rfl⟩
  go_wp2_with fail
  refine (quiet_x (HLD.out _ (H33_1.out.bel (Ext.b _)))).mono ?_
  rintro e w' ⟨rfl, y14, rfl⟩
  have HN87 : Hid (y8.v.heap.size ≠ y7.v.heap.size) := by have := Hz8.out; have := Ht7.out.lt; show _ ≠ _; omega
  have HZ8 : Hid (w6.heap.size ≤ y8.v.heap.size) := Nat.le_trans Hb67.out.size Hz8.out
  obtain ⟨w15, x15, e15, hw15⟩ : ∃ (w' : World) (x' : Ext w'), (y14.v.setCell ⟨y7.v.heap.size, 0, none⟩ (.int .i64 l0)).setCell ⟨y7.v.heap.size, 1, none⟩ (.int .i64 l1) = x'.v ∧ w' = (y14.v.setCell ⟨y7.v.heap.size, 0, none⟩ (.int .i64 l0)).setCell ⟨y7.v.heap.size, 1, none⟩ (.int .i64 l1) := ⟨_, ⟨_, Below.refl _ _⟩, rfl, rfl⟩
  have HBy15 : Hid (Below w6.heap.size w6 w15) := by rw [hw15]; exact bS (bS (bT H33_5.out y14.b) Hz7.out _) Hz7.out _
  have HSy15 : Hid (TwoBox w15 y7.v.heap.size l0 l1) := by rw [hw15]; exact (H33_6.out.bel y14.b).set _ _
  have HOy15 : Hid (TwoBox w15 y8.v.heap.size b0 b1) := by rw [hw15]; exact (H33_7.out.bel y14.b).two HN87.out
  clear hw15
  have H35_0 := Lib.hid (H25_0.out.bel HBy15.out)
  have H35_1 := Lib.hid (H25_1.out.bel HBy15.out)
  have H35_2 := Lib.hid (H25_2.out.bel HBy15.out)
  have H35_3 := Lib.hid (HLx6.out.bel HBy15.out)
  have H35_4 := Lib.hid (HNx6.out.bel HBy15.out)
  have HB35 := Lib.hid (bT HB25.out HBy15.out)
  have L0a_36 : ∀ z : Ext w15, z.v.cell? ⟨w.heap.size, 0, none⟩ = some (.slice (some ⟨pb, po, none⟩) D.n c) := fun z => (H35_0.out.bel z.b).c0
  have L0b_36 : ∀ z : Ext w15, z.v.cell? ⟨w.heap.size, 1, none⟩ = some (.slice q D.m d) := fun z => (H35_0.out.bel z.b).c1
  have V20_36 : ∀ z : Ext w15, z.v.cell? ⟨x.v.heap.size, 0, none⟩ = some (.int .i64 (k : Int)) := fun z => (H35_2.out.bel z.b).c0
  have V21_36 : ∀ z : Ext w15, z.v.cell? ⟨x.v.heap.size, 1, none⟩ = some (.int .i64 g1) := fun z => (H35_2.out.bel z.b).c1
  have V22_36 : ∀ z : Ext w15, z.v.cell? ⟨x.v.heap.size, 2, none⟩ = some (.int .i64 g2) := fun z => (H35_2.out.bel z.b).c2
  have V23_36 : ∀ z : Ext w15, z.v.cell? ⟨x.v.heap.size, 3, none⟩ = some (.int .i64 (s : Int)) := fun z => (H35_2.out.bel z.b).c3
  have V24_36 : ∀ z : Ext w15, z.v.cell? ⟨x.v.heap.size, 4, none⟩ = some (.int .i64 (u : Int)) := fun z => (H35_2.out.bel z.b).c4
  have L3a_36 : ∀ z : Ext w15, z.v.cell? ⟨y3.v.heap.size, 0, none⟩ = some (.slice (some ⟨g, go, none⟩) D.n c') := fun z => (H35_3.out.bel z.b).c0
  have L3b_36 : ∀ z : Ext w15, z.v.cell? ⟨y3.v.heap.size, 1, none⟩ = some (.slice q' D.m d') := fun z => (H35_3.out.bel z.b).c1
  have T5a_36 : ∀ z : Ext w15, z.v.cell? ⟨y7.v.heap.size, 0, none⟩ = some (.int .i64 l0) := fun z => (HSy15.out.bel z.b).c0
  have T5b_36 : ∀ z : Ext w15, z.v.cell? ⟨y7.v.heap.size, 1, none⟩ = some (.int .i64 l1) := fun z => (HSy15.out.bel z.b).c1
  have T5f_36 : ∀ z : Ext w15, ∀ i, z.v.frozen? ⟨y7.v.heap.size, i, none⟩ = false := fun z => (HSy15.out.bel z.b).fz
  have T6a_36 : ∀ z : Ext w15, z.v.cell? ⟨y8.v.heap.size, 0, none⟩ = some (.int .i64 b0) := fun z => (HOy15.out.bel z.b).c0
  have T6b_36 : ∀ z : Ext w15, z.v.cell? ⟨y8.v.heap.size, 1, none⟩ = some (.int .i64 b1) := fun z => (HOy15.out.bel z.b).c1
  have T6f_36 : ∀ z : Ext w15, ∀ i, z.v.frozen? ⟨y8.v.heap.size, i, none⟩ = false := fun z => (HOy15.out.bel z.b).fz
  go_wp2_with fail
  clear L0a_34 L0b_34 V20_34 V21_34 V22_34 V23_34 V24_34 L3a_34 L3b_34 T6a_34 T6b_34 T6f_34 T7a_34 T7b_34 T7f_34 T8a_34 T8b_34 T8f_34 T9a_34 T9b_34 T9f_34 e15
  refine (quiet_x (HLN.out _ (H35_4.out.bel (Ext.b _)))).mono ?_
  rintro e w' ⟨rfl, y15, rfl⟩
  obtain ⟨w16, x16, e16, hw16⟩ : ∃ (w' : World) (x' : Ext w'), (y15.v.setCell ⟨y8.v.heap.size, 0, none⟩ (.int .i64 k0)).setCell ⟨y8.v.heap.size, 1, none⟩ (.int .i64 k1) = x'.v ∧ w' = (y15.v.setCell ⟨y8.v.heap.size, 0, none⟩ (.int .i64 k0)).setCell ⟨y8.v.heap.size, 1, none⟩ (.int .i64 k1) := ⟨_, ⟨_, Below.refl _ _⟩, rfl, rfl⟩
  have HBy16 : Hid (Below w6.heap.size w6 w16) := by rw [hw16]; exact bS (bS (bT HBy15.out y15.b) HZ8.out _) HZ8.out _
  have HSy16 : Hid (TwoBox w16 y8.v.heap.size k0 k1) := by rw [hw16]; exact (HOy15.out.bel y15.b).set _ _
  have HOy16 : Hid (TwoBox w16 y7.v.heap.size l0 l1) := by rw [hw16]; exact (HSy15.out.bel y15.b).two HN87.out.symm
  clear hw16
  have H37_0 := Lib.hid (H25_0.out.bel HBy16.out)
  have H37_1 := Lib.hid (H25_1.out.bel HBy16.out)
  have H37_2 := Lib.hid (H25_2.out.bel HBy16.out)
  have H37_3 := Lib.hid (HLx6.out.bel HBy16.out)
  have H37_4 := Lib.hid (HNx6.out.bel HBy16.out)
  have HB37 := Lib.hid (bT HB25.out HBy16.out)
  have L0a_38 : ∀ z : Ext w16, z.v.cell? ⟨w.heap.size, 0, none⟩ = some (.slice (some ⟨pb, po, none⟩) D.n c) := fun z => (H37_0.out.bel z.b).c0
  have L0b_38 : ∀ z : Ext w16, z.v.cell? ⟨w.heap.size, 1, none⟩ = some (.slice q D.m d) := fun z => (H37_0.out.bel z.b).c1
  have V20_38 : ∀ z : Ext w16, z.v.cell? ⟨x.v.heap.size, 0, none⟩ = some (.int .i64 (k : Int)) := fun z => (H37_2.out.bel z.b).c0
  have V21_38 : ∀ z : Ext w16, z.v.cell? ⟨x.v.heap.size, 1, none⟩ = some (.int .i64 g1) := fun z => (H37_2.out.bel z.b).c1
  have V22_38 : ∀ z : Ext w16, z.v.cell? ⟨x.v.heap.size, 2, none⟩ = some (.int .i64 g2) := fun z => (H37_2.out.bel z.b).c2
  have V23_38 : ∀ z : Ext w16, z.v.cell? ⟨x.v.heap.size, 3, none⟩ = some (.int .i64 (s : Int)) := fun z => (H37_2.out.bel z.b).c3
  have V24_38 : ∀ z : Ext w16, z.v.cell? ⟨x.v.heap.size, 4, none⟩ = some (.int .i64 (u : Int)) := fun z => (H37_2.out.bel z.b).c4
  have L3a_38 : ∀ z : Ext w16, z.v.cell? ⟨y3.v.heap.size, 0, none⟩ = some (.slice (some ⟨g, go, none⟩) D.n c') := fun z => (H37_3.out.bel z.b).c0
  have L3b_38 : ∀ z : Ext w16, z.v.cell? ⟨y3.v.heap.size, 1, none⟩ = some (.slice q' D.m d') := fun z => (H37_3.out.bel z.b).c1
  have T5a_38 : ∀ z : Ext w16, z.v.cell? ⟨y8.v.heap.size, 0, none⟩ = some (.int .i64 k0) := fun z => (HSy16.out.bel z.b).c0
  have T5b_38 : ∀ z : Ext w16, z.v.cell? ⟨y8.v.heap.size, 1, none⟩ = some (.int .i64 k1) := fun z => (HSy16.out.bel z.b).c1
  have T5f_38 : ∀ z : Ext w16, ∀ i, z.v.frozen? ⟨y8.v.heap.size, i, none⟩ = false := fun z => (HSy16.out.bel z.b).fz
  have T6a_38 : ∀ z : Ext w16, z.v.cell? ⟨y7.v.heap.size, 0, none⟩ = some (.int .i64 l0) := fun z => (HOy16.out.bel z.b).c0
  have T6b_38 : ∀ z : Ext w16, z.v.cell? ⟨y7.v.heap.size, 1, none⟩ = some (.int .i64 l1) := fun z => (HOy16.out.bel z.b).c1
  have T6f_38 : ∀ z : Ext w16, ∀ i, z.v.frozen? ⟨y7.v.heap.size, i, none⟩ = false := fun z => (HOy16.out.bel z.b).fz
  go_wp2_with fail
  clear L0a_36 L0b_36 V20_36 V21_36 V22_36 V23_36 V24_36 L3a_36 L3b_36 T5a_36 T5b_36 T5f_36 T6a_36 T6b_36 T6f_36 e16
  refine (quiet_x (HYD.out _ (H37_1.out.bel (Ext.b _)))).mono ?_
  rintro e w' ⟨rfl, y16, rfl⟩
  go_wp2_with fail
  refine (quiet_x (HYN.out _ (H37_4.out.bel (Ext.b _)))).mono ?_
  rintro e w' ⟨rfl, y17, rfl⟩
  rcases HYY.out with hyy | hyy
  · go_wp2_with fail
    refine (quiet_x (inside_any _ _ _ _ _)).mono ?_
    rintro e w' ⟨rfl, y18, rfl⟩
    go_wp2_with fail
    refine (quiet_x (works_ex _)).mono ?_
    rintro e w' ⟨rfl, y19, rfl⟩
    go_wp2_with fail
    go_ret
    exact ⟨rfl, bT HB37.out y19.b⟩
  · cases h3 : (yv == 3) with
    | true =>
    go_wp2_with fail
    refine (quiet_x (inside_any _ _ _ _ _)).mono ?_
    rintro e w' ⟨rfl, y18, rfl⟩
    go_wp2_with fail
    refine (quiet_x (works_ex _)).mono ?_
    rintro e w' ⟨rfl, y19, rfl⟩
    go_wp2_with fail
    go_ret
    exact ⟨rfl, bT HB37.out y19.b⟩
    | false =>
    go_wp2_with fail
    refine (quiet_x (inside_any _ _ _ _ _)).mono ?_
    rintro e w' ⟨rfl, y18, rfl⟩
    go_wp2_with fail
    refine (quiet_x (works_ex _)).mono ?_
    rintro e w' ⟨rfl, y19, rfl⟩
    go_wp2_with fail
    go_ret
    exact ⟨rfl, bT HB37.out y19.b⟩
end Go.Proofs.Ytkdlppekjjbgoaa
