/- MouthsShares returns true in every walk. -/
import Derived.Test.YthbicbmlbblflaaC10

import Derived.Test.YthbicbmlbblflaaM6

set_option linter.unusedSimpArgs false

set_option linter.unusedVariables false

namespace Go.Proofs.Ythbicbmlbblflaa

open Go.RowKit

set_option maxRecDepth 100000 in
set_option maxHeartbeats 8000000 in
theorem shares_out1 (D : Bx) (p q : Option Addr) (c d : Nat) (fl a1 a2 a3 a4 : Int) (w : World) (hn : D.n ≤ maxLen) (hm : D.m ≤ maxLen) (hi : BxIn w w.heap.size D p q) (hr : rdy D fl = false) :
    Calls Try.prog 9 #[.agg #[.slice p D.n c, .slice q D.m d], .int .i64 fl, .agg #[.int .i64 a1, .int .i64 a2, .int .i64 a3, .int .i64 a4]] w fun e w' => e = .returned (.bool true) ∧ Below w.heap.size w w' := by
  obtain ⟨w1, x1, w2, x2, hw1, hw2, hb, hz, hB, hA, hI⟩ := start_ba D p q c d a1 a2 a3 a4 w hi
  have HB := Lib.hid hb; have HI := Lib.hid hI
  have F0 := fun y => (hB y).c0; have F1 := fun y => (hB y).c1
  have A0 := fun y => (hA y).c0
  have A1 := fun y => (hA y).c1
  have A2 := fun y => (hA y).c2
  have A3 := fun y => (hA y).c3
  have HR := Lib.hid hr; clear hr
  clear hb hz hB hA hI hi
  go_enter Try.func9, Try.ntmps9
  go_wp2_with fail
  refine (quiet_x (ready_is HR.out hn hm (HI.out _))).mono ?_
  rintro e w' ⟨rfl, y, rfl⟩
  go_wp2_with fail
  refine (quiet_x (works_ex _)).mono ?_
  rintro e w' ⟨rfl, y2, rfl⟩
  go_wp2
  go_ret
  exact ⟨rfl, bT HB.out y2.b⟩
set_option maxRecDepth 100000 in
set_option maxHeartbeats 8000000 in
theorem shares_out2 (D : Bx) (p q : Option Addr) (c d : Nat) (fl a1 a2 a3 a4 : Int) (w : World) (hn : D.n ≤ maxLen) (hm : D.m ≤ maxLen) (hi : BxIn w w.heap.size D p q) (hr : rdy D fl = true) (hq : isQ D a1 = false) :
    Calls Try.prog 9 #[.agg #[.slice p D.n c, .slice q D.m d], .int .i64 fl, .agg #[.int .i64 a1, .int .i64 a2, .int .i64 a3, .int .i64 a4]] w fun e w' => e = .returned (.bool true) ∧ Below w.heap.size w w' := by
  obtain ⟨w1, x1, w2, x2, hw1, hw2, hb, hz, hB, hA, hI⟩ := start_ba D p q c d a1 a2 a3 a4 w hi
  have HB := Lib.hid hb; have HI := Lib.hid hI
  have F0 := fun y => (hB y).c0; have F1 := fun y => (hB y).c1
  have A0 := fun y => (hA y).c0
  have HR := Lib.hid hr; clear hr
  obtain ⟨n4, m4, _, _⟩ := rdy_parts HR.out
  have HQ := Lib.hid hq; clear hq
  clear hb hz hB hA hI hi
  go_enter Try.func9, Try.ntmps9
  go_wp2_with fail
  refine (quiet_x (ready_is HR.out hn hm (HI.out _))).mono ?_
  rintro e w' ⟨rfl, y, rfl⟩
  go_wp2_with fail
  refine (quiet_x (isQR_is HQ.out n4)).mono ?_
  rintro e w' ⟨rfl, y1, rfl⟩
  go_wp2_with fail
  refine (quiet_x (works_ex _)).mono ?_
  rintro e w' ⟨rfl, y2, rfl⟩
  go_wp2
  go_ret
  exact ⟨rfl, bT HB.out y2.b⟩
def Bx.twice (D : Bx) : Bx := { D with sh := fun i => if i < D.n then D.sh i * 2 else D.sh i }
/-- a box of two rows in memory -/
structure RowsAt (W : World) (bw : Nat) (D : Bx) (g g2 c' d' : Nat) (f1 f2 : Nat → Int) : Prop where
  b : BoxAt W bw D (some ⟨g, 0, none⟩) (some ⟨g2, 0, none⟩) c' d'
  lt : bw < W.heap.size
  s : RowN W g D.n f1
  o : RowN W g2 D.m f2
theorem RowsAt.bel {W W' : World} {bw : Nat} {D : Bx} {g g2 c' d' : Nat} {f1 f2 : Nat → Int} (h : RowsAt W bw D g g2 c' d' f1 f2) (hb : Below W.heap.size W W') : RowsAt W' bw D g g2 c' d' f1 f2 :=
  ⟨⟨(hb.cell (p := ⟨bw, 0, none⟩) h.lt).trans h.b.c0, (hb.cell (p := ⟨bw, 1, none⟩) h.lt).trans h.b.c1⟩, Nat.lt_of_lt_of_le h.lt hb.size, h.s.bel hb, h.o.bel hb⟩
def twT (D : Bx) (k : Nat) : Nat → Int := fun i => if i < k then D.sh i * 2 else D.sh i
theorem RowsAt.set {W : World} {bw : Nat} {D : Bx} {g g2 c' d' k : Nat} {f2 : Nat → Int} (h : RowsAt W bw D g g2 c' d' (twT D k) f2) (hk : k < D.n) (h1 : g2 ≠ g) (h2 : bw ≠ g) : RowsAt (W.setCell ⟨g, k, none⟩ (.int .i64 (D.sh k * 2))) bw D g g2 c' d' (twT D (k + 1)) f2 := by
  refine ⟨⟨?_, ?_⟩, by simpa using h.lt, ?_, h.o.blk (setCell_block h1)⟩
  · rw [World.cell?_setCell_other _ _ _ _ (by simp [Ne.symm h2])]; exact h.b.c0
  · rw [World.cell?_setCell_other _ _ _ _ (by simp [Ne.symm h2])]; exact h.b.c1
  · have := h.s.set hk (D.sh k * 2)
    refine ⟨this.lt, fun i hi => (this.c i hi).trans ?_, this.fz⟩
    unfold twT
    by_cases e : i = k
    · rw [if_pos e, if_pos (by omega), e]
    · rw [if_neg e]
      by_cases e2 : i < k
      · rw [if_pos e2, if_pos (by omega)]
      · rw [if_neg e2, if_neg (by omega)]
set_option maxRecDepth 100000 in
set_option maxHeartbeats 30000000 in
theorem shares_in (D : Bx) (p q : Option Addr) (c d F A : Nat) (a2 a3 V : Int) (w : World) (hi : BxIn w w.heap.size D p q) (hr : rdy D (F : Int) = true) (hq : isQ D (A : Int) = true) (hok : D.ok = true) (hF : F ≤ 40) (hA : A < D.n) :
    Calls Try.prog 9 #[.agg #[.slice p D.n c, .slice q D.m d], .int .i64 (F : Int), .agg #[.int .i64 (A : Int), .int .i64 a2, .int .i64 a3, .int .i64 V]] w fun e w' => e = .returned (.bool true) ∧ Below w.heap.size w w' := by
  obtain ⟨w1, x1, w2, x2, hw1, hw2, hb, hz, hB, hA', hI⟩ := start_ba D p q c d (A : Int) a2 a3 V w hi
  obtain ⟨n4, m4, _, _⟩ := rdy_parts hr
  obtain ⟨o1, o2, o3, o4⟩ := Bx.ok_parts hok
  have hn : D.n ≤ maxLen := by unfold maxLen; omega
  have hm : D.m ≤ maxLen := by unfold maxLen; omega
  have HB := Lib.hid hb; have HI_0 := Lib.hid hI; have HR := Lib.hid hr; have HQ := Lib.hid hq; have HOK := Lib.hid hok
  have HBX_0 := Lib.hid hB; have HAX_0 := Lib.hid hA'
  have HMN := Lib.hid o2; have HS3 := Lib.hid o3
  clear hI hB hA' hb hz hi hr hq hok o2 o3 o4
  obtain ⟨b1, of1, rfl, _, _⟩ := (HI_0.out x2).s (by omega)
  obtain ⟨b2, of2, rfl, _, _⟩ := (HI_0.out x2).o (by have := HMN.out; omega)
  have F0_0 : ∀ z : Ext w2, z.v.cell? ⟨w.heap.size, 0, none⟩ = some (.slice (some ⟨b1, of1, none⟩) D.n c) := fun z => (HBX_0.out z).c0
  have F1_0 : ∀ z : Ext w2, z.v.cell? ⟨w.heap.size, 1, none⟩ = some (.slice (some ⟨b2, of2, none⟩) D.m d) := fun z => (HBX_0.out z).c1
  have A0_0 : ∀ z : Ext w2, z.v.cell? ⟨x1.v.heap.size, 0, none⟩ = some (.int .i64 (A : Int)) := fun z => (HAX_0.out z).c0
  have HW_0 : Hid (∀ z : Ext w2, Below w.heap.size w z.v) := fun z => bT HB.out z.b
  have hAn : (A : Int) < (D.n : Int) := by omega
  go_enter Try.func9, Try.ntmps9
  go_wp2_with fail
  refine (quiet_x (ready_is HR.out hn hm (HI_0.out _))).mono ?_
  rintro e w' ⟨rfl, y, rfl⟩
  go_wp2_with fail
  refine (quiet_x (isQR_is HQ.out n4)).mono ?_
  rintro e w' ⟨rfl, y1, rfl⟩
  go_wp2_with fail
  refine (gaugesL_any D (some ⟨b1, of1, none⟩) (some ⟨b2, of2, none⟩) c d F _ HOK.out hF (HI_0.out _)).mono ?_
  rintro e wa ⟨ga, gac, rfl, hcga⟩
  have HXwa := Lib.hid (bT y1.b hcga.below); have HNga0 := Lib.hid hcga.num
  obtain ⟨zwa, hzwa⟩ := rebase wa
  clear hcga
  have HI_1 : Hid (∀ z : Ext wa, BxIn z.v z.v.heap.size D (some ⟨b1, of1, none⟩) (some ⟨b2, of2, none⟩)) := fun z => HI_0.out (z.up HXwa.out)
  have HBX_1 : Hid (∀ z : Ext wa, BoxAt z.v w.heap.size D (some ⟨b1, of1, none⟩) (some ⟨b2, of2, none⟩) c d) := fun z => HBX_0.out (z.up HXwa.out)
  have HAX_1 : Hid (∀ z : Ext wa, AskAt z.v x1.v.heap.size (A : Int) a2 a3 V) := fun z => HAX_0.out (z.up HXwa.out)
  have F0_1 : ∀ z : Ext wa, z.v.cell? ⟨w.heap.size, 0, none⟩ = some (.slice (some ⟨b1, of1, none⟩) D.n c) := fun z => F0_0 (z.up HXwa.out)
  have F1_1 : ∀ z : Ext wa, z.v.cell? ⟨w.heap.size, 1, none⟩ = some (.slice (some ⟨b2, of2, none⟩) D.m d) := fun z => F1_0 (z.up HXwa.out)
  have A0_1 : ∀ z : Ext wa, z.v.cell? ⟨x1.v.heap.size, 0, none⟩ = some (.int .i64 (A : Int)) := fun z => A0_0 (z.up HXwa.out)
  have HW_1 : Hid (∀ z : Ext wa, Below w.heap.size w z.v) := fun z => HW_0.out (z.up HXwa.out)
  clear HI_0 HBX_0 HAX_0 F0_0 F1_0 A0_0 HW_0
  have Nga_1 : Hid (∀ z : Ext wa, NumIn z.v z.v.heap.size D.n (gv D F) ga) := fun z => HNga0.out.bel z.b
  rw [hzwa]; clear hzwa
  clear hw1 hw2
  go_wp2_with fail
  refine (remP_ok D (some ⟨b1, of1, none⟩) (some ⟨b2, of2, none⟩) c d F _ HOK.out hF (HI_1.out _)).mono ?_
  rintro e wr0 ⟨gr, grc, rfl, hcgr⟩
  have HXwr0 := Lib.hid (bT zwa.b hcgr.below); have HNgr0 := Lib.hid hcgr.num
  obtain ⟨zwr0, hzwr0⟩ := rebase wr0
  clear hcgr
  have HI_2 : Hid (∀ z : Ext wr0, BxIn z.v z.v.heap.size D (some ⟨b1, of1, none⟩) (some ⟨b2, of2, none⟩)) := fun z => HI_1.out (z.up HXwr0.out)
  have HBX_2 : Hid (∀ z : Ext wr0, BoxAt z.v w.heap.size D (some ⟨b1, of1, none⟩) (some ⟨b2, of2, none⟩) c d) := fun z => HBX_1.out (z.up HXwr0.out)
  have HAX_2 : Hid (∀ z : Ext wr0, AskAt z.v x1.v.heap.size (A : Int) a2 a3 V) := fun z => HAX_1.out (z.up HXwr0.out)
  have F0_2 : ∀ z : Ext wr0, z.v.cell? ⟨w.heap.size, 0, none⟩ = some (.slice (some ⟨b1, of1, none⟩) D.n c) := fun z => F0_1 (z.up HXwr0.out)
  have F1_2 : ∀ z : Ext wr0, z.v.cell? ⟨w.heap.size, 1, none⟩ = some (.slice (some ⟨b2, of2, none⟩) D.m d) := fun z => F1_1 (z.up HXwr0.out)
  have A0_2 : ∀ z : Ext wr0, z.v.cell? ⟨x1.v.heap.size, 0, none⟩ = some (.int .i64 (A : Int)) := fun z => A0_1 (z.up HXwr0.out)
  have HW_2 : Hid (∀ z : Ext wr0, Below w.heap.size w z.v) := fun z => HW_1.out (z.up HXwr0.out)
  have Nga_2 : Hid (∀ z : Ext wr0, NumIn z.v z.v.heap.size D.n (gv D F) ga) := fun z => Nga_1.out (z.up HXwr0.out)
  clear HI_1 HBX_1 HAX_1 F0_1 F1_1 A0_1 HW_1 Nga_1
  have Ngr_2 : Hid (∀ z : Ext wr0, NumIn z.v z.v.heap.size D.n (RM D F) gr) := fun z => HNgr0.out.bel z.b
  rw [hzwr0]; clear hzwr0
  obtain ⟨ga0, gao, rfl, _, _⟩ := Nga_2.out zwr0 (by omega)
  go_wp2_with fail
  refine (copy_any D (some ⟨b1, of1, none⟩) (some ⟨b2, of2, none⟩) c d _ n4 m4 (HI_2.out _)).mono ?_
  rintro e wc ⟨p2, c2, q2, d2, rfl, hcp⟩
  obtain ⟨gs, e1, hgs, hrs⟩ := hcp.s (by omega)
  obtain ⟨gm, e2, hgm, hrm⟩ := hcp.o (by have := HMN.out; omega)
  have hne := hcp.ne gs gm (by omega) (by have := HMN.out; omega) e1 e2
  subst e1; subst e2
  obtain ⟨w3, x3, hw3, hb3, hz3, G0, G1⟩ := box_bx wc (some ⟨gs, 0, none⟩) (some ⟨gm, 0, none⟩) D.n D.m c2 d2
  have HWA : Hid (RowsAt x3.v wc.heap.size D gs gm c2 d2 (twT D 0) D.mo) := ⟨⟨G0 x3, G1 x3⟩, by have := x3.b.size; omega, by
    have := (hrs.bel hb3).bel x3.b
    exact ⟨this.lt, fun i hi => (this.c i hi).trans (by unfold twT; rw [if_neg (Nat.not_lt_zero _)]), this.fz⟩, (hrm.bel hb3).bel x3.b⟩
  have HX3 : Hid (Below wr0.heap.size wr0 x3.v) := bT zwr0.b (bT hcp.below (bT hb3 x3.b))
  have HNE : Hid (gm ≠ gs ∧ wc.heap.size ≠ gs ∧ wr0.heap.size ≤ gs) := ⟨Ne.symm hne, by have := hrs.lt; omega, by have := zwr0.b.size; omega⟩
  clear hcp hgs hrs hgm hrm hne hb3 hz3
  have W0s : x3.v.cell? ⟨wc.heap.size, 0, none⟩ = some (.slice (some ⟨gs, 0, none⟩) D.n c2) := G0 x3
  clear G0 G1
  go_wp2
  clear hw3 W0s
  go_loopw [12] (fun i wr => ∃ k : Nat, i = .int .i64 k ∧ k ≤ D.n ∧ RowsAt wr wc.heap.size D gs gm c2 d2 (twT D k) D.mo ∧ Below wr0.heap.size wr0 wr) (fun i _ => D.n - (intOf i).toNat)
  case atStart => exact ⟨0, rfl, Nat.zero_le _, HWA.out, HX3.out⟩
  case round =>
    obtain ⟨k, rfl, hk, hwa, hbw⟩ := hrel
    have HWA2 := Lib.hid hwa; have HBW := Lib.hid hbw; clear hwa hbw HWA HX3
    obtain ⟨z0, hz0⟩ := rebase wr
    have HI_3 : Hid (∀ z : Ext wr, BxIn z.v z.v.heap.size D (some ⟨b1, of1, none⟩) (some ⟨b2, of2, none⟩)) := fun z => HI_2.out (z.up HBW.out)
    have HBX_3 : Hid (∀ z : Ext wr, BoxAt z.v w.heap.size D (some ⟨b1, of1, none⟩) (some ⟨b2, of2, none⟩) c d) := fun z => HBX_2.out (z.up HBW.out)
    have HAX_3 : Hid (∀ z : Ext wr, AskAt z.v x1.v.heap.size (A : Int) a2 a3 V) := fun z => HAX_2.out (z.up HBW.out)
    have F0_3 : ∀ z : Ext wr, z.v.cell? ⟨w.heap.size, 0, none⟩ = some (.slice (some ⟨b1, of1, none⟩) D.n c) := fun z => F0_2 (z.up HBW.out)
    have F1_3 : ∀ z : Ext wr, z.v.cell? ⟨w.heap.size, 1, none⟩ = some (.slice (some ⟨b2, of2, none⟩) D.m d) := fun z => F1_2 (z.up HBW.out)
    have A0_3 : ∀ z : Ext wr, z.v.cell? ⟨x1.v.heap.size, 0, none⟩ = some (.int .i64 (A : Int)) := fun z => A0_2 (z.up HBW.out)
    have HW_3 : Hid (∀ z : Ext wr, Below w.heap.size w z.v) := fun z => HW_2.out (z.up HBW.out)
    have Nga_3 : Hid (∀ z : Ext wr, NumIn z.v z.v.heap.size D.n (gv D F) (some ⟨ga0, gao, none⟩)) := fun z => Nga_2.out (z.up HBW.out)
    have Ngr_3 : Hid (∀ z : Ext wr, NumIn z.v z.v.heap.size D.n (RM D F) gr) := fun z => Ngr_2.out (z.up HBW.out)
    clear HI_2 HBX_2 HAX_2 F0_2 F1_2 A0_2 HW_2 Nga_2 Ngr_2
    have WA_3 : Hid (∀ z : Ext wr, RowsAt z.v wc.heap.size D gs gm c2 d2 (twT D k) D.mo) := fun z => HWA2.out.bel z.b
    have W0_3 : ∀ z : Ext wr, z.v.cell? ⟨wc.heap.size, 0, none⟩ = some (.slice (some ⟨gs, 0, none⟩) D.n c2) := fun z => (HWA2.out.bel z.b).b.c0
    rw [hz0]; clear hz0
    by_cases hlt : k < D.n
    · have M0 : ∀ z : Ext wr, z.v.cell? ⟨gs, k, none⟩ = some (.int .i64 (D.sh k)) := fun z => by have := (WA_3.out z).s.c k hlt; rwa [show twT D k k = D.sh k from if_neg (Nat.lt_irrefl k)] at this
      have M1 : ∀ (z : Ext wr) i, z.v.frozen? ⟨gs, i, none⟩ = false := fun z => (WA_3.out z).s.fz
      have hkm : (k : Int) < (D.n : Int) := by omega
      have ew : IntKind.i64.wrap (D.sh k * 2) = D.sh k * 2 := IntWalk.i64_in _ (by have := HS3.out k hlt; omega)
      go_wp2
      go_roundw
      case rel => exact ⟨k + 1, by go_num, hlt, (HWA2.out.bel z0.b).set hlt HNE.out.1 HNE.out.2.1, bS (bT HBW.out z0.b) HNE.out.2.2 _⟩
      case measure => first | (simp [intOf]; done) | (simp [intOf]; omega)
    · have hkn : k = D.n := by omega
      have HKN := Lib.hid hkn; clear hkn
      have j : decide ((k : Int) < (D.n : Int)) = false := by simp; omega
      obtain ⟨E, hE⟩ : ∃ E : Bx, D.twice = E := ⟨_, rfl⟩
      have hEn : E.n = D.n := by rw [← hE]; rfl
      have hEm : E.m = D.m := by rw [← hE]; rfl
      have HIE : Hid (∀ z : Ext wr, BxIn z.v z.v.heap.size E (some ⟨gs, 0, none⟩) (some ⟨gm, 0, none⟩)) := fun z => by
        have hs := (WA_3.out z).s.num; have ho := (WA_3.out z).o.num
        rw [HKN.out] at hs
        rw [← hE]
        exact ⟨hs, ho⟩
      have W1 : ∀ z : Ext wr, z.v.cell? ⟨wc.heap.size, 1, none⟩ = some (.slice (some ⟨gm, 0, none⟩) D.m d2) := fun z => (WA_3.out z).b.c1
      have HCH := Lib.hid (show ∀ (W' : World), BxIn W' W'.heap.size E (some ⟨gs, 0, none⟩) (some ⟨gm, 0, none⟩) → Calls Try.prog 19 #[.agg #[.slice (some ⟨gs, 0, none⟩) D.n c2, .slice (some ⟨gm, 0, none⟩) D.m d2]] W' fun e w' => e = .returned (.int .i64 (chkE E.ok true)) ∧ Below W'.heap.size W' w' from
        fun W' h => by have := checkR_any E (some ⟨gs, 0, none⟩) (some ⟨gm, 0, none⟩) c2 d2 W' (by omega) (by omega) h; rw [hEn, hEm] at this; exact this)
      have HGV : Hid (gv E F = gv D F) := gv_twice hEn (fun i hi => by rw [← hE]; show (if i < D.n then D.sh i * 2 else D.sh i) = _; rw [if_pos hi]; omega) (fun i hi => by rw [← hE]; rfl) F
      have HRV : Hid (RM E F = RM D F) := rm_twice HOK.out hEn (fun i hi => by rw [← hE]; show (if i < D.n then D.sh i * 2 else D.sh i) = _; rw [if_pos hi]; omega) F
      have HGG := Lib.hid (show E.ok = true → ∀ (W' : World), BxIn W' W'.heap.size E (some ⟨gs, 0, none⟩) (some ⟨gm, 0, none⟩) → Calls Try.prog 47 #[.agg #[.slice (some ⟨gs, 0, none⟩) D.n c2, .slice (some ⟨gm, 0, none⟩) D.m d2], .int .i64 (F : Int)] W' fun e w' => ∃ y c3, e = .returned (.tuple #[.slice y D.n c3, .bool true]) ∧ New W' w' D.n (gv D F) y from
        fun he W' h => by have := gaugesL_any E (some ⟨gs, 0, none⟩) (some ⟨gm, 0, none⟩) c2 d2 F W' he hF h; rw [hEn, hEm, HGV.out] at this; exact this)
      have HRR := Lib.hid (show E.ok = true → ∀ (W' : World), BxIn W' W'.heap.size E (some ⟨gs, 0, none⟩) (some ⟨gm, 0, none⟩) → Calls Try.prog 37 #[.agg #[.slice (some ⟨gs, 0, none⟩) D.n c2, .slice (some ⟨gm, 0, none⟩) D.m d2], .int .i64 (F : Int)] W' fun e w' => ∃ y c3, e = .returned (.tuple #[.slice y D.n c3, .int .i64 0]) ∧ New W' w' D.n (RM D F) y from
        fun he W' h => by have := remP_ok E (some ⟨gs, 0, none⟩) (some ⟨gm, 0, none⟩) c2 d2 F W' he hF h; rw [hEn, hEm, HRV.out] at this; exact this)
      clear hE hEn hEm
      cases hEo : E.ok with
      | false =>
        have hc : chkE E.ok true = 70 := by rw [hEo]; rfl
        rw [hc] at HCH
        clear hc hEo
        go_wp2_with fail
        refine (quiet_x (HCH.out _ (HIE.out _))).mono ?_
        rintro e w' ⟨rfl, yc, rfl⟩
        have A3_3 : ∀ z : Ext wr, z.v.cell? ⟨x1.v.heap.size, 3, none⟩ = some (.int .i64 V) := fun z => (HAX_3.out z).c3
        have S1_3 : ∀ z : Ext wr, z.v.cell? ⟨b1, of1 + A, none⟩ = some (.int .i64 (D.sh A)) := fun z => ((HI_3.out z).s.cell hA).2
        cases hwi : within V (D.sh A) 20 with
        | false =>
          have HWI := Lib.hid (show ∀ V' : World, Calls Try.prog 52 #[.int .i64 V, .int .i64 (D.sh A), .int .i64 20] V' fun e w' => e = .returned (.bool false) ∧ V' = w' from fun V' => by
            have := within1_any V (D.sh A) 20 V'
            rw [hwi] at this
            exact this)
          clear hwi
          go_wp2
          refine quiet_e (by kernel_rfl) (by kernel_rfl) ?_
          repeat (first | go_big_quiet_step ((first | (go_at_call 52; exact quiet_s (HWI.out _)))) | quiet_step ((first | (go_at_call 52; exact quiet_s (HWI.out _)))))
          refine wpQuiet_nil ?_
          intro w6 hw6
          obtain ⟨y5, rfl⟩ := hw6
          go_wp2_with fail
          refine (quiet_x (works_ex _)).mono ?_
          rintro e w' ⟨rfl, y6, rfl⟩
          go_wp2
          go_ret
          exact ⟨rfl, HW_3.out y6⟩
        | true =>
          have HWI := Lib.hid (show ∀ V' : World, Calls Try.prog 52 #[.int .i64 V, .int .i64 (D.sh A), .int .i64 20] V' fun e w' => e = .returned (.bool true) ∧ V' = w' from fun V' => by
            have := within1_any V (D.sh A) 20 V'
            rw [hwi] at this
            exact this)
          have hVb := within_iff.1 hwi
          have hok1 := Bx.setSh_ok HOK.out A (v := V) ⟨by have := HS3.out A hA; omega, hVb.2⟩
          have hgr := setSh_grown (D := D) (q := A) hVb.1
          have HG1 := Lib.hid (show ∀ (V' : World) (p' q' : Option Addr) (c' d' : Nat), BxIn V' V'.heap.size (D.setSh A V) p' q' → Calls Try.prog 47 #[.agg #[.slice p' D.n c', .slice q' D.m d'], .int .i64 (F : Int)] V' fun e w' => ∃ y c2, e = .returned (.tuple #[.slice y D.n c2, .bool true]) ∧ New V' w' D.n (gv (D.setSh A V) F) y from
            fun V' p' q' c' d' h => gaugesL_any (D.setSh A V) p' q' c' d' F V' hok1 hF h)
          have HGE : Hid (∀ i, i < D.n → i ≠ A → gv (D.setSh A V) F i ≤ gv D F i) := fun i h1 h2 => grown_others HOK.out hok1 hgr F h1 h2
          have hself := grown_self HOK.out hok1 hgr F hA
          obtain ⟨g1, hg1⟩ : ∃ g1, gv (D.setSh A V) F = g1 := ⟨_, rfl⟩
          rw [hg1] at HG1 HGE hself
          have jself : decide (g1 A < gv D F A) = false := by simp; omega
          clear hwi hVb hok1 hgr hself hg1
          go_wp2
          refine quiet_e (by kernel_rfl) (by kernel_rfl) ?_
          repeat (first | go_big_quiet_step ((first | (go_at_call 52; exact quiet_s (HWI.out _)))) | quiet_step ((first | (go_at_call 52; exact quiet_s (HWI.out _)))))
          refine wpQuiet_nil ?_
          intro w6 hw6
          obtain ⟨y5, rfl⟩ := hw6
          go_wp2_with fail
          refine (shared_any D (some ⟨b1, of1, none⟩) (some ⟨b2, of2, none⟩) c d A V _ n4 HMN.out hA (HI_3.out _)).mono ?_
          rintro e ww ⟨p9, c9, q9, d9, rfl, hbw9, hin9⟩
          have HXW := Lib.hid (bT y5.b hbw9); have HIN := Lib.hid hin9
          obtain ⟨zww, hzww⟩ := rebase ww
          clear hbw9 hin9
          clear F0_3
          clear F1_3
          clear Ngr_3
          clear WA_3
          clear W0_3
          clear HIE
          clear W1
          clear A3_3
          clear S1_3
          have HI_4 : Hid (∀ z : Ext ww, BxIn z.v z.v.heap.size D (some ⟨b1, of1, none⟩) (some ⟨b2, of2, none⟩)) := fun z => HI_3.out (z.up HXW.out)
          have HBX_4 : Hid (∀ z : Ext ww, BoxAt z.v w.heap.size D (some ⟨b1, of1, none⟩) (some ⟨b2, of2, none⟩) c d) := fun z => HBX_3.out (z.up HXW.out)
          have HAX_4 : Hid (∀ z : Ext ww, AskAt z.v x1.v.heap.size (A : Int) a2 a3 V) := fun z => HAX_3.out (z.up HXW.out)
          have A0_4 : ∀ z : Ext ww, z.v.cell? ⟨x1.v.heap.size, 0, none⟩ = some (.int .i64 (A : Int)) := fun z => A0_3 (z.up HXW.out)
          have HW_4 : Hid (∀ z : Ext ww, Below w.heap.size w z.v) := fun z => HW_3.out (z.up HXW.out)
          have Nga_4 : Hid (∀ z : Ext ww, NumIn z.v z.v.heap.size D.n (gv D F) (some ⟨ga0, gao, none⟩)) := fun z => Nga_3.out (z.up HXW.out)
          clear HI_3 HBX_3 HAX_3 A0_3 HW_3 Nga_3
          rw [hzww]; clear hzww
          go_wp2_with fail
          refine (HG1.out _ p9 q9 c9 d9 (HIN.out.bel (Ext.b _))).mono ?_
          rintro e wb ⟨gb, gbc, rfl, hcgb⟩
          have HXwb := Lib.hid (bT zww.b hcgb.below); have HNgb0 := Lib.hid hcgb.num
          obtain ⟨zwb, hzwb⟩ := rebase wb
          clear hcgb
          have HI_5 : Hid (∀ z : Ext wb, BxIn z.v z.v.heap.size D (some ⟨b1, of1, none⟩) (some ⟨b2, of2, none⟩)) := fun z => HI_4.out (z.up HXwb.out)
          have HBX_5 : Hid (∀ z : Ext wb, BoxAt z.v w.heap.size D (some ⟨b1, of1, none⟩) (some ⟨b2, of2, none⟩) c d) := fun z => HBX_4.out (z.up HXwb.out)
          have HAX_5 : Hid (∀ z : Ext wb, AskAt z.v x1.v.heap.size (A : Int) a2 a3 V) := fun z => HAX_4.out (z.up HXwb.out)
          have A0_5 : ∀ z : Ext wb, z.v.cell? ⟨x1.v.heap.size, 0, none⟩ = some (.int .i64 (A : Int)) := fun z => A0_4 (z.up HXwb.out)
          have HW_5 : Hid (∀ z : Ext wb, Below w.heap.size w z.v) := fun z => HW_4.out (z.up HXwb.out)
          have Nga_5 : Hid (∀ z : Ext wb, NumIn z.v z.v.heap.size D.n (gv D F) (some ⟨ga0, gao, none⟩)) := fun z => Nga_4.out (z.up HXwb.out)
          clear HI_4 HBX_4 HAX_4 A0_4 HW_4 Nga_4
          have Ngb_5 : Hid (∀ z : Ext wb, NumIn z.v z.v.heap.size D.n (g1) gb) := fun z => HNgb0.out.bel z.b
          rw [hzwb]; clear hzwb
          obtain ⟨gb0, gbo, rfl, _, _⟩ := Ngb_5.out zwb (by omega)
          have K1_5 : ∀ z : Ext wb, z.v.cell? ⟨ga0, gao + A, none⟩ = some (.int .i64 (gv D F A)) := fun z => ((Nga_5.out z).cell hA).2
          have K2_5 : ∀ z : Ext wb, z.v.cell? ⟨gb0, gbo + A, none⟩ = some (.int .i64 (g1 A)) := fun z => ((Ngb_5.out z).cell hA).2
          go_wp2
          refine quiet_e (by kernel_rfl) (by kernel_rfl) ?_
          repeat (first | go_big_quiet_step (fail) | quiet_step (fail))
          refine wpQuiet_nil ?_
          intro w6 hw6
          obtain ⟨y7, rfl⟩ := hw6
          go_wp2
          clear K1_5 K2_5 jself
          go_loopw [19] (fun i wr => ∃ k : Nat, i = .int .i64 k ∧ k ≤ D.n ∧ ∃ z : Ext wb, wr = z.v) (fun i _ => D.n - (intOf i).toNat)
          case atStart => exact ⟨0, rfl, Nat.zero_le _, y7, rfl⟩
          case round =>
            obtain ⟨k3, rfl, hk3, z3, rfl⟩ := hrel
            by_cases hlt3 : k3 < D.n
            · have E2 : ∀ z : Ext wb, z.v.cell? ⟨ga0, gao + k3, none⟩ = some (.int .i64 (gv D F k3)) := fun z => ((Nga_5.out z).cell hlt3).2
              have E3 : ∀ z : Ext wb, z.v.cell? ⟨gb0, gbo + k3, none⟩ = some (.int .i64 (g1 k3)) := fun z => ((Ngb_5.out z).cell hlt3).2
              have hkm : (k3 : Int) < (D.n : Int) := by omega
              by_cases hkA : k3 = A
              · have jk : ((k3 : Int) != (A : Int)) = false := by simp; omega
                clear hkA
                go_wp2
                refine quiet_e (by kernel_rfl) (by kernel_rfl) ?_
                repeat (first | go_big_quiet_step (fail) | quiet_step (fail))
                refine wpQuiet_nil ?_
                intro w6 hw6
                obtain ⟨y8, rfl⟩ := hw6
                go_wp2
                go_roundw
                case rel => exact ⟨k3 + 1, by go_num, hlt3, y8, rfl⟩
                case measure => first | (simp [intOf]; done) | (simp [intOf]; omega)
              · have jk : ((k3 : Int) != (A : Int)) = true := by simp; omega
                have jg : decide (gv D F k3 < g1 k3) = false := by have := HGE.out k3 hlt3 hkA; simp; omega
                clear hkA
                go_wp2
                refine quiet_e (by kernel_rfl) (by kernel_rfl) ?_
                repeat (first | go_big_quiet_step (fail) | quiet_step (fail))
                refine wpQuiet_nil ?_
                intro w6 hw6
                obtain ⟨y8, rfl⟩ := hw6
                go_wp2
                go_roundw
                case rel => exact ⟨k3 + 1, by go_num, hlt3, y8, rfl⟩
                case measure => first | (simp [intOf]; done) | (simp [intOf]; omega)
            · have j3 : decide ((k3 : Int) < (D.n : Int)) = false := by simp; omega
              go_wp2_with fail
              refine (quiet_x (works_ex _)).mono ?_
              rintro e w' ⟨rfl, y9, rfl⟩
              go_wp2
              go_ret
              exact ⟨rfl, HW_5.out y9⟩
      | true =>
        have hc : chkE E.ok true = 0 := by rw [hEo]; rfl
        rw [hc] at HCH
        have HEO := Lib.hid hEo
        clear hc hEo
        go_wp2_with fail
        refine (quiet_x (HCH.out _ (HIE.out _))).mono ?_
        rintro e w' ⟨rfl, yc, rfl⟩
        go_wp2_with fail
        refine (HGG.out HEO.out _ (HIE.out _)).mono ?_
        rintro e ws1 ⟨gs1, gs1c, rfl, hcgs1⟩
        have HXws1 := Lib.hid (bT yc.b hcgs1.below); have HNgs10 := Lib.hid hcgs1.num
        obtain ⟨zws1, hzws1⟩ := rebase ws1
        clear hcgs1
        have HI_4 : Hid (∀ z : Ext ws1, BxIn z.v z.v.heap.size D (some ⟨b1, of1, none⟩) (some ⟨b2, of2, none⟩)) := fun z => HI_3.out (z.up HXws1.out)
        have HBX_4 : Hid (∀ z : Ext ws1, BoxAt z.v w.heap.size D (some ⟨b1, of1, none⟩) (some ⟨b2, of2, none⟩) c d) := fun z => HBX_3.out (z.up HXws1.out)
        have HAX_4 : Hid (∀ z : Ext ws1, AskAt z.v x1.v.heap.size (A : Int) a2 a3 V) := fun z => HAX_3.out (z.up HXws1.out)
        have F0_4 : ∀ z : Ext ws1, z.v.cell? ⟨w.heap.size, 0, none⟩ = some (.slice (some ⟨b1, of1, none⟩) D.n c) := fun z => F0_3 (z.up HXws1.out)
        have F1_4 : ∀ z : Ext ws1, z.v.cell? ⟨w.heap.size, 1, none⟩ = some (.slice (some ⟨b2, of2, none⟩) D.m d) := fun z => F1_3 (z.up HXws1.out)
        have A0_4 : ∀ z : Ext ws1, z.v.cell? ⟨x1.v.heap.size, 0, none⟩ = some (.int .i64 (A : Int)) := fun z => A0_3 (z.up HXws1.out)
        have HW_4 : Hid (∀ z : Ext ws1, Below w.heap.size w z.v) := fun z => HW_3.out (z.up HXws1.out)
        have Nga_4 : Hid (∀ z : Ext ws1, NumIn z.v z.v.heap.size D.n (gv D F) (some ⟨ga0, gao, none⟩)) := fun z => Nga_3.out (z.up HXws1.out)
        have Ngr_4 : Hid (∀ z : Ext ws1, NumIn z.v z.v.heap.size D.n (RM D F) gr) := fun z => Ngr_3.out (z.up HXws1.out)
        have WA_4 : Hid (∀ z : Ext ws1, RowsAt z.v wc.heap.size D gs gm c2 d2 (twT D k) D.mo) := fun z => WA_3.out (z.up HXws1.out)
        have W0_4 : ∀ z : Ext ws1, z.v.cell? ⟨wc.heap.size, 0, none⟩ = some (.slice (some ⟨gs, 0, none⟩) D.n c2) := fun z => W0_3 (z.up HXws1.out)
        have HIE_4 : Hid (∀ z : Ext ws1, BxIn z.v z.v.heap.size E (some ⟨gs, 0, none⟩) (some ⟨gm, 0, none⟩)) := fun z => HIE.out (z.up HXws1.out)
        have W1_4 : ∀ z : Ext ws1, z.v.cell? ⟨wc.heap.size, 1, none⟩ = some (.slice (some ⟨gm, 0, none⟩) D.m d2) := fun z => W1 (z.up HXws1.out)
        clear HI_3 HBX_3 HAX_3 F0_3 F1_3 A0_3 HW_3 Nga_3 Ngr_3 WA_3 W0_3 HIE W1
        have Ngs1_4 : Hid (∀ z : Ext ws1, NumIn z.v z.v.heap.size D.n (gv D F) gs1) := fun z => HNgs10.out.bel z.b
        rw [hzws1]; clear hzws1
        go_wp2_with fail
        refine (HRR.out HEO.out _ (HIE_4.out _)).mono ?_
        rintro e wt1 ⟨gt1, gt1c, rfl, hcgt1⟩
        have HXwt1 := Lib.hid (bT zws1.b hcgt1.below); have HNgt10 := Lib.hid hcgt1.num
        obtain ⟨zwt1, hzwt1⟩ := rebase wt1
        clear hcgt1
        have HI_5 : Hid (∀ z : Ext wt1, BxIn z.v z.v.heap.size D (some ⟨b1, of1, none⟩) (some ⟨b2, of2, none⟩)) := fun z => HI_4.out (z.up HXwt1.out)
        have HBX_5 : Hid (∀ z : Ext wt1, BoxAt z.v w.heap.size D (some ⟨b1, of1, none⟩) (some ⟨b2, of2, none⟩) c d) := fun z => HBX_4.out (z.up HXwt1.out)
        have HAX_5 : Hid (∀ z : Ext wt1, AskAt z.v x1.v.heap.size (A : Int) a2 a3 V) := fun z => HAX_4.out (z.up HXwt1.out)
        have F0_5 : ∀ z : Ext wt1, z.v.cell? ⟨w.heap.size, 0, none⟩ = some (.slice (some ⟨b1, of1, none⟩) D.n c) := fun z => F0_4 (z.up HXwt1.out)
        have F1_5 : ∀ z : Ext wt1, z.v.cell? ⟨w.heap.size, 1, none⟩ = some (.slice (some ⟨b2, of2, none⟩) D.m d) := fun z => F1_4 (z.up HXwt1.out)
        have A0_5 : ∀ z : Ext wt1, z.v.cell? ⟨x1.v.heap.size, 0, none⟩ = some (.int .i64 (A : Int)) := fun z => A0_4 (z.up HXwt1.out)
        have HW_5 : Hid (∀ z : Ext wt1, Below w.heap.size w z.v) := fun z => HW_4.out (z.up HXwt1.out)
        have Nga_5 : Hid (∀ z : Ext wt1, NumIn z.v z.v.heap.size D.n (gv D F) (some ⟨ga0, gao, none⟩)) := fun z => Nga_4.out (z.up HXwt1.out)
        have Ngr_5 : Hid (∀ z : Ext wt1, NumIn z.v z.v.heap.size D.n (RM D F) gr) := fun z => Ngr_4.out (z.up HXwt1.out)
        have WA_5 : Hid (∀ z : Ext wt1, RowsAt z.v wc.heap.size D gs gm c2 d2 (twT D k) D.mo) := fun z => WA_4.out (z.up HXwt1.out)
        have W0_5 : ∀ z : Ext wt1, z.v.cell? ⟨wc.heap.size, 0, none⟩ = some (.slice (some ⟨gs, 0, none⟩) D.n c2) := fun z => W0_4 (z.up HXwt1.out)
        have HIE_5 : Hid (∀ z : Ext wt1, BxIn z.v z.v.heap.size E (some ⟨gs, 0, none⟩) (some ⟨gm, 0, none⟩)) := fun z => HIE_4.out (z.up HXwt1.out)
        have W1_5 : ∀ z : Ext wt1, z.v.cell? ⟨wc.heap.size, 1, none⟩ = some (.slice (some ⟨gm, 0, none⟩) D.m d2) := fun z => W1_4 (z.up HXwt1.out)
        have Ngs1_5 : Hid (∀ z : Ext wt1, NumIn z.v z.v.heap.size D.n (gv D F) gs1) := fun z => Ngs1_4.out (z.up HXwt1.out)
        clear HI_4 HBX_4 HAX_4 F0_4 F1_4 A0_4 HW_4 Nga_4 Ngr_4 WA_4 W0_4 HIE_4 W1_4 Ngs1_4
        have Ngt1_5 : Hid (∀ z : Ext wt1, NumIn z.v z.v.heap.size D.n (RM D F) gt1) := fun z => HNgt10.out.bel z.b
        rw [hzwt1]; clear hzwt1
        go_wp2_with fail
        refine (quiet_x (sameInts_any D.n (gv D F) gs1 (some ⟨ga0, gao, none⟩) gs1c gac _ (by omega) (Ngs1_5.out _) (Nga_5.out _))).mono ?_
        rintro e w' ⟨rfl, yu, rfl⟩
        go_wp2_with fail
        refine (quiet_x (sameInts_any D.n (RM D F) gr gt1 grc gt1c _ (by omega) (Ngr_5.out _) (Ngt1_5.out _))).mono ?_
        rintro e w' ⟨rfl, yv, rfl⟩
        have A3_5 : ∀ z : Ext wt1, z.v.cell? ⟨x1.v.heap.size, 3, none⟩ = some (.int .i64 V) := fun z => (HAX_5.out z).c3
        have S1_5 : ∀ z : Ext wt1, z.v.cell? ⟨b1, of1 + A, none⟩ = some (.int .i64 (D.sh A)) := fun z => ((HI_5.out z).s.cell hA).2
        cases hwi : within V (D.sh A) 20 with
        | false =>
          have HWI := Lib.hid (show ∀ V' : World, Calls Try.prog 52 #[.int .i64 V, .int .i64 (D.sh A), .int .i64 20] V' fun e w' => e = .returned (.bool false) ∧ V' = w' from fun V' => by
            have := within1_any V (D.sh A) 20 V'
            rw [hwi] at this
            exact this)
          clear hwi
          go_wp2
          refine quiet_e (by kernel_rfl) (by kernel_rfl) ?_
          repeat (first | go_big_quiet_step ((first | (go_at_call 52; exact quiet_s (HWI.out _)))) | quiet_step ((first | (go_at_call 52; exact quiet_s (HWI.out _)))))
          refine wpQuiet_nil ?_
          intro w6 hw6
          obtain ⟨y5, rfl⟩ := hw6
          go_wp2_with fail
          refine (quiet_x (works_ex _)).mono ?_
          rintro e w' ⟨rfl, y6, rfl⟩
          go_wp2
          go_ret
          exact ⟨rfl, HW_5.out y6⟩
        | true =>
          have HWI := Lib.hid (show ∀ V' : World, Calls Try.prog 52 #[.int .i64 V, .int .i64 (D.sh A), .int .i64 20] V' fun e w' => e = .returned (.bool true) ∧ V' = w' from fun V' => by
            have := within1_any V (D.sh A) 20 V'
            rw [hwi] at this
            exact this)
          have hVb := within_iff.1 hwi
          have hok1 := Bx.setSh_ok HOK.out A (v := V) ⟨by have := HS3.out A hA; omega, hVb.2⟩
          have hgr := setSh_grown (D := D) (q := A) hVb.1
          have HG1 := Lib.hid (show ∀ (V' : World) (p' q' : Option Addr) (c' d' : Nat), BxIn V' V'.heap.size (D.setSh A V) p' q' → Calls Try.prog 47 #[.agg #[.slice p' D.n c', .slice q' D.m d'], .int .i64 (F : Int)] V' fun e w' => ∃ y c2, e = .returned (.tuple #[.slice y D.n c2, .bool true]) ∧ New V' w' D.n (gv (D.setSh A V) F) y from
            fun V' p' q' c' d' h => gaugesL_any (D.setSh A V) p' q' c' d' F V' hok1 hF h)
          have HGE : Hid (∀ i, i < D.n → i ≠ A → gv (D.setSh A V) F i ≤ gv D F i) := fun i h1 h2 => grown_others HOK.out hok1 hgr F h1 h2
          have hself := grown_self HOK.out hok1 hgr F hA
          obtain ⟨g1, hg1⟩ : ∃ g1, gv (D.setSh A V) F = g1 := ⟨_, rfl⟩
          rw [hg1] at HG1 HGE hself
          have jself : decide (g1 A < gv D F A) = false := by simp; omega
          clear hwi hVb hok1 hgr hself hg1
          go_wp2
          refine quiet_e (by kernel_rfl) (by kernel_rfl) ?_
          repeat (first | go_big_quiet_step ((first | (go_at_call 52; exact quiet_s (HWI.out _)))) | quiet_step ((first | (go_at_call 52; exact quiet_s (HWI.out _)))))
          refine wpQuiet_nil ?_
          intro w6 hw6
          obtain ⟨y5, rfl⟩ := hw6
          go_wp2_with fail
          refine (shared_any D (some ⟨b1, of1, none⟩) (some ⟨b2, of2, none⟩) c d A V _ n4 HMN.out hA (HI_5.out _)).mono ?_
          rintro e ww ⟨p9, c9, q9, d9, rfl, hbw9, hin9⟩
          have HXW := Lib.hid (bT y5.b hbw9); have HIN := Lib.hid hin9
          obtain ⟨zww, hzww⟩ := rebase ww
          clear hbw9 hin9
          clear F0_5
          clear F1_5
          clear Ngr_5
          clear WA_5
          clear W0_5
          clear HIE_5
          clear W1_5
          clear A3_5
          clear S1_5
          have HI_6 : Hid (∀ z : Ext ww, BxIn z.v z.v.heap.size D (some ⟨b1, of1, none⟩) (some ⟨b2, of2, none⟩)) := fun z => HI_5.out (z.up HXW.out)
          have HBX_6 : Hid (∀ z : Ext ww, BoxAt z.v w.heap.size D (some ⟨b1, of1, none⟩) (some ⟨b2, of2, none⟩) c d) := fun z => HBX_5.out (z.up HXW.out)
          have HAX_6 : Hid (∀ z : Ext ww, AskAt z.v x1.v.heap.size (A : Int) a2 a3 V) := fun z => HAX_5.out (z.up HXW.out)
          have A0_6 : ∀ z : Ext ww, z.v.cell? ⟨x1.v.heap.size, 0, none⟩ = some (.int .i64 (A : Int)) := fun z => A0_5 (z.up HXW.out)
          have HW_6 : Hid (∀ z : Ext ww, Below w.heap.size w z.v) := fun z => HW_5.out (z.up HXW.out)
          have Nga_6 : Hid (∀ z : Ext ww, NumIn z.v z.v.heap.size D.n (gv D F) (some ⟨ga0, gao, none⟩)) := fun z => Nga_5.out (z.up HXW.out)
          have Ngs1_6 : Hid (∀ z : Ext ww, NumIn z.v z.v.heap.size D.n (gv D F) gs1) := fun z => Ngs1_5.out (z.up HXW.out)
          have Ngt1_6 : Hid (∀ z : Ext ww, NumIn z.v z.v.heap.size D.n (RM D F) gt1) := fun z => Ngt1_5.out (z.up HXW.out)
          clear HI_5 HBX_5 HAX_5 A0_5 HW_5 Nga_5 Ngs1_5 Ngt1_5
          rw [hzww]; clear hzww
          go_wp2_with fail
          refine (HG1.out _ p9 q9 c9 d9 (HIN.out.bel (Ext.b _))).mono ?_
          rintro e wb ⟨gb, gbc, rfl, hcgb⟩
          have HXwb := Lib.hid (bT zww.b hcgb.below); have HNgb0 := Lib.hid hcgb.num
          obtain ⟨zwb, hzwb⟩ := rebase wb
          clear hcgb
          have HI_7 : Hid (∀ z : Ext wb, BxIn z.v z.v.heap.size D (some ⟨b1, of1, none⟩) (some ⟨b2, of2, none⟩)) := fun z => HI_6.out (z.up HXwb.out)
          have HBX_7 : Hid (∀ z : Ext wb, BoxAt z.v w.heap.size D (some ⟨b1, of1, none⟩) (some ⟨b2, of2, none⟩) c d) := fun z => HBX_6.out (z.up HXwb.out)
          have HAX_7 : Hid (∀ z : Ext wb, AskAt z.v x1.v.heap.size (A : Int) a2 a3 V) := fun z => HAX_6.out (z.up HXwb.out)
          have A0_7 : ∀ z : Ext wb, z.v.cell? ⟨x1.v.heap.size, 0, none⟩ = some (.int .i64 (A : Int)) := fun z => A0_6 (z.up HXwb.out)
          have HW_7 : Hid (∀ z : Ext wb, Below w.heap.size w z.v) := fun z => HW_6.out (z.up HXwb.out)
          have Nga_7 : Hid (∀ z : Ext wb, NumIn z.v z.v.heap.size D.n (gv D F) (some ⟨ga0, gao, none⟩)) := fun z => Nga_6.out (z.up HXwb.out)
          have Ngs1_7 : Hid (∀ z : Ext wb, NumIn z.v z.v.heap.size D.n (gv D F) gs1) := fun z => Ngs1_6.out (z.up HXwb.out)
          have Ngt1_7 : Hid (∀ z : Ext wb, NumIn z.v z.v.heap.size D.n (RM D F) gt1) := fun z => Ngt1_6.out (z.up HXwb.out)
          clear HI_6 HBX_6 HAX_6 A0_6 HW_6 Nga_6 Ngs1_6 Ngt1_6
          have Ngb_7 : Hid (∀ z : Ext wb, NumIn z.v z.v.heap.size D.n (g1) gb) := fun z => HNgb0.out.bel z.b
          rw [hzwb]; clear hzwb
          obtain ⟨gb0, gbo, rfl, _, _⟩ := Ngb_7.out zwb (by omega)
          have K1_7 : ∀ z : Ext wb, z.v.cell? ⟨ga0, gao + A, none⟩ = some (.int .i64 (gv D F A)) := fun z => ((Nga_7.out z).cell hA).2
          have K2_7 : ∀ z : Ext wb, z.v.cell? ⟨gb0, gbo + A, none⟩ = some (.int .i64 (g1 A)) := fun z => ((Ngb_7.out z).cell hA).2
          go_wp2
          refine quiet_e (by kernel_rfl) (by kernel_rfl) ?_
          repeat (first | go_big_quiet_step (fail) | quiet_step (fail))
          refine wpQuiet_nil ?_
          intro w6 hw6
          obtain ⟨y7, rfl⟩ := hw6
          go_wp2
          clear K1_7 K2_7 jself
          go_loopw [19] (fun i wr => ∃ k : Nat, i = .int .i64 k ∧ k ≤ D.n ∧ ∃ z : Ext wb, wr = z.v) (fun i _ => D.n - (intOf i).toNat)
          case atStart => exact ⟨0, rfl, Nat.zero_le _, y7, rfl⟩
          case round =>
            obtain ⟨k3, rfl, hk3, z3, rfl⟩ := hrel
            by_cases hlt3 : k3 < D.n
            · have E2 : ∀ z : Ext wb, z.v.cell? ⟨ga0, gao + k3, none⟩ = some (.int .i64 (gv D F k3)) := fun z => ((Nga_7.out z).cell hlt3).2
              have E3 : ∀ z : Ext wb, z.v.cell? ⟨gb0, gbo + k3, none⟩ = some (.int .i64 (g1 k3)) := fun z => ((Ngb_7.out z).cell hlt3).2
              have hkm : (k3 : Int) < (D.n : Int) := by omega
              by_cases hkA : k3 = A
              · have jk : ((k3 : Int) != (A : Int)) = false := by simp; omega
                clear hkA
                go_wp2
                refine quiet_e (by kernel_rfl) (by kernel_rfl) ?_
                repeat (first | go_big_quiet_step (fail) | quiet_step (fail))
                refine wpQuiet_nil ?_
                intro w6 hw6
                obtain ⟨y8, rfl⟩ := hw6
                go_wp2
                go_roundw
                case rel => exact ⟨k3 + 1, by go_num, hlt3, y8, rfl⟩
                case measure => first | (simp [intOf]; done) | (simp [intOf]; omega)
              · have jk : ((k3 : Int) != (A : Int)) = true := by simp; omega
                have jg : decide (gv D F k3 < g1 k3) = false := by have := HGE.out k3 hlt3 hkA; simp; omega
                clear hkA
                go_wp2
                refine quiet_e (by kernel_rfl) (by kernel_rfl) ?_
                repeat (first | go_big_quiet_step (fail) | quiet_step (fail))
                refine wpQuiet_nil ?_
                intro w6 hw6
                obtain ⟨y8, rfl⟩ := hw6
                go_wp2
                go_roundw
                case rel => exact ⟨k3 + 1, by go_num, hlt3, y8, rfl⟩
                case measure => first | (simp [intOf]; done) | (simp [intOf]; omega)
            · have j3 : decide ((k3 : Int) < (D.n : Int)) = false := by simp; omega
              go_wp2_with fail
              refine (quiet_x (works_ex _)).mono ?_
              rintro e w' ⟨rfl, y9, rfl⟩
              go_wp2
              go_ret
              exact ⟨rfl, HW_7.out y9⟩
theorem shares_law (D : Bx) (p q : Option Addr) (c d : Nat) (fl a1 a2 a3 a4 : Int) (w : World) (hn : D.n ≤ maxLen) (hm : D.m ≤ maxLen) (hi : BxIn w w.heap.size D p q) :
    Calls Try.prog 9 #[.agg #[.slice p D.n c, .slice q D.m d], .int .i64 fl, .agg #[.int .i64 a1, .int .i64 a2, .int .i64 a3, .int .i64 a4]] w fun e w' => e = .returned (.bool true) ∧ Below w.heap.size w w' := by
  cases hr : rdy D fl with
  | false => exact shares_out1 D p q c d fl a1 a2 a3 a4 w hn hm hi hr
  | true =>
  cases hq : isQ D a1 with
  | false => exact shares_out2 D p q c d fl a1 a2 a3 a4 w hn hm hi hr hq
  | true =>
  obtain ⟨_, _, hok, F, rfl, hF⟩ := rdy_parts hr
  obtain ⟨A, rfl, hA⟩ := isQ_nat hq
  exact shares_in D p q c d F A a2 a3 a4 w hi hr hq hok hF hA
end Go.Proofs.Ythbicbmlbblflaa
