/- MouthsMosts returns true in every walk. -/
import Derived.Test.YthbicbmlbblflaaC10

set_option linter.unusedSimpArgs false

set_option linter.unusedVariables false

namespace Go.Proofs.Ythbicbmlbblflaa

open Go.RowKit

set_option maxRecDepth 100000 in
set_option maxHeartbeats 8000000 in
theorem mosts_out1 (D : Bx) (p q : Option Addr) (c d : Nat) (fl a1 a2 a3 a4 : Int) (w : World) (hn : D.n ≤ maxLen) (hm : D.m ≤ maxLen) (hi : BxIn w w.heap.size D p q) (hr : rdy D fl = false) :
    Calls Try.prog 10 #[.agg #[.slice p D.n c, .slice q D.m d], .int .i64 fl, .agg #[.int .i64 a1, .int .i64 a2, .int .i64 a3, .int .i64 a4]] w fun e w' => e = .returned (.bool true) ∧ Below w.heap.size w w' := by
  obtain ⟨w1, x1, w2, x2, hw1, hw2, hb, hz, hB, hA, hI⟩ := start_ba D p q c d a1 a2 a3 a4 w hi
  have HB := Lib.hid hb; have HI := Lib.hid hI
  have F0 := fun y => (hB y).c0; have F1 := fun y => (hB y).c1
  have A0 := fun y => (hA y).c0
  have A1 := fun y => (hA y).c1
  have A2 := fun y => (hA y).c2
  have A3 := fun y => (hA y).c3
  have HR := Lib.hid hr; clear hr
  clear hb hz hB hA hI hi
  go_enter Try.func10, Try.ntmps10
  go_wp2
  refine quiet_e (by kernel_rfl) (by kernel_rfl) ?_
  repeat (first | go_big_quiet_step ((first | (go_at_call 46; exact quiet_x (ready_is HR.out hn hm (HI.out _))))) | quiet_step ((first | (go_at_call 46; exact quiet_x (ready_is HR.out hn hm (HI.out _))))))
  refine wpQuiet_nil ?_
  intro w6 hw6
  obtain ⟨yq, rfl⟩ := hw6
  go_wp2_with fail
  refine (quiet_x (works_ex _)).mono ?_
  rintro e w' ⟨rfl, y2, rfl⟩
  go_wp2
  go_ret
  exact ⟨rfl, bT HB.out y2.b⟩
set_option maxRecDepth 100000 in
set_option maxHeartbeats 8000000 in
theorem mosts_out2 (D : Bx) (p q : Option Addr) (c d : Nat) (fl a1 a2 a3 a4 : Int) (w : World) (hn : D.n ≤ maxLen) (hm : D.m ≤ maxLen) (hi : BxIn w w.heap.size D p q) (hr : rdy D fl = true) (hq : isQ D a1 = false) :
    Calls Try.prog 10 #[.agg #[.slice p D.n c, .slice q D.m d], .int .i64 fl, .agg #[.int .i64 a1, .int .i64 a2, .int .i64 a3, .int .i64 a4]] w fun e w' => e = .returned (.bool true) ∧ Below w.heap.size w w' := by
  obtain ⟨w1, x1, w2, x2, hw1, hw2, hb, hz, hB, hA, hI⟩ := start_ba D p q c d a1 a2 a3 a4 w hi
  have HB := Lib.hid hb; have HI := Lib.hid hI
  have F0 := fun y => (hB y).c0; have F1 := fun y => (hB y).c1
  have A0 := fun y => (hA y).c0
  have A1 := fun y => (hA y).c1
  have A2 := fun y => (hA y).c2
  have A3 := fun y => (hA y).c3
  have HR := Lib.hid hr; clear hr
  obtain ⟨n4, m4, _, _⟩ := rdy_parts HR.out
  have HQ := Lib.hid hq; clear hq
  clear hb hz hB hA hI hi
  go_enter Try.func10, Try.ntmps10
  go_wp2
  refine quiet_e (by kernel_rfl) (by kernel_rfl) ?_
  repeat (first | go_big_quiet_step ((first | (go_at_call 46; exact quiet_x (ready_is HR.out hn hm (HI.out _))) | (go_at_call 50; exact quiet_x (isQR_is HQ.out n4)))) | quiet_step ((first | (go_at_call 46; exact quiet_x (ready_is HR.out hn hm (HI.out _))) | (go_at_call 50; exact quiet_x (isQR_is HQ.out n4)))))
  refine wpQuiet_nil ?_
  intro w6 hw6
  obtain ⟨yq, rfl⟩ := hw6
  go_wp2_with fail
  refine (quiet_x (works_ex _)).mono ?_
  rintro e w' ⟨rfl, y2, rfl⟩
  go_wp2
  go_ret
  exact ⟨rfl, bT HB.out y2.b⟩
set_option maxRecDepth 100000 in
set_option maxHeartbeats 8000000 in
theorem mosts_out3 (D : Bx) (p q : Option Addr) (c d : Nat) (fl : Int) (A : Nat) (a2 a3 a4 : Int) (w : World) (hn : D.n ≤ maxLen) (hm : D.m ≤ maxLen) (hi : BxIn w w.heap.size D p q) (hr : rdy D fl = true) (hq : isQ D (A : Int) = true) (hAm : A < D.m) (hw : within a4 (D.mo A) 20 = false) :
    Calls Try.prog 10 #[.agg #[.slice p D.n c, .slice q D.m d], .int .i64 fl, .agg #[.int .i64 (A : Int), .int .i64 a2, .int .i64 a3, .int .i64 a4]] w fun e w' => e = .returned (.bool true) ∧ Below w.heap.size w w' := by
  obtain ⟨w1, x1, w2, x2, hw1, hw2, hb, hz, hB, hA, hI⟩ := start_ba D p q c d (A : Int) a2 a3 a4 w hi
  have HB := Lib.hid hb; have HI := Lib.hid hI
  have F0 := fun y => (hB y).c0; have F1 := fun y => (hB y).c1
  have A0 := fun y => (hA y).c0
  have A1 := fun y => (hA y).c1
  have A2 := fun y => (hA y).c2
  have A3 := fun y => (hA y).c3
  have HR := Lib.hid hr; clear hr
  obtain ⟨n4, m4, _, _⟩ := rdy_parts HR.out
  have HQ := Lib.hid hq; clear hq
  obtain ⟨b2, of2, rfl, _, _⟩ := (hI x2).o (by omega)
  have S3 : ∀ z : Ext w2, z.v.cell? ⟨b2, of2 + A, none⟩ = some (.int .i64 (D.mo A)) := fun z => ((hI z).o.cell hAm).2
  have hAi : (A : Int) < (D.m : Int) := by omega
  have HW := Lib.hid (show ∀ V : World, Calls Try.prog 52 #[.int .i64 a4, .int .i64 (D.mo A), .int .i64 20] V fun e w' => e = .returned (.bool false) ∧ V = w' from fun V => by
    have := within1_any a4 (D.mo A) 20 V
    rw [hw] at this
    exact this)
  clear hw
  clear hb hz hB hA hI hi
  go_enter Try.func10, Try.ntmps10
  go_wp2
  refine quiet_e (by kernel_rfl) (by kernel_rfl) ?_
  repeat (first | go_big_quiet_step ((first | (go_at_call 46; exact quiet_x (ready_is HR.out hn hm (HI.out _))) | (go_at_call 50; exact quiet_x (isQR_is HQ.out n4)) | (go_at_call 52; exact quiet_s (HW.out _)))) | quiet_step ((first | (go_at_call 46; exact quiet_x (ready_is HR.out hn hm (HI.out _))) | (go_at_call 50; exact quiet_x (isQR_is HQ.out n4)) | (go_at_call 52; exact quiet_s (HW.out _)))))
  refine wpQuiet_nil ?_
  intro w6 hw6
  obtain ⟨yq, rfl⟩ := hw6
  go_wp2_with fail
  refine (quiet_x (works_ex _)).mono ?_
  rintro e w' ⟨rfl, y2, rfl⟩
  go_wp2
  go_ret
  exact ⟨rfl, bT HB.out y2.b⟩
def fullN (D : Bx) (g : Nat → Int) : Nat → Bool
  | 0 => false
  | k + 1 => fullN D g k || decide (g k = D.mo k)
theorem fullN_no {D : Bx} {g : Nat → Int} : ∀ {k : Nat}, fullN D g k = false → ∀ i, i < k → g i ≠ D.mo i
  | k + 1, h, i, hi => by
    have h' : (fullN D g k || decide (g k = D.mo k)) = false := h
    rw [Bool.or_eq_false_iff] at h'
    rcases Nat.lt_succ_iff_lt_or_eq.1 hi with h1 | rfl
    · exact fullN_no h'.1 i h1
    · simpa using h'.2
def Bx.wide (D : Bx) : Bx := { D with mo := fun i => if i < D.n then 20 else D.mo i }
theorem Bx.wide_ok {D : Bx} (h : D.ok = true) : D.wide.ok = true := by
  obtain ⟨o1, o2, o3, o4⟩ := Bx.ok_parts h
  refine Bx.ok_mk o1 o2 o3 (fun k hk => ?_)
  have hk : k < D.n := hk
  show 0 ≤ (if k < D.n then (20 : Int) else D.mo k) ∧ (if k < D.n then (20 : Int) else D.mo k) ≤ 20
  rw [if_pos hk]; omega
/-- the wide box while it is made wider -/
structure WideAt (W : World) (bw : Nat) (D : Bx) (g g2 c' d' : Nat) (k : Nat) : Prop where
  b : BoxAt W bw D (some ⟨g, 0, none⟩) (some ⟨g2, 0, none⟩) c' d'
  lt : bw < W.heap.size
  s : RowN W g D.n D.sh
  o : RowN W g2 D.m (fun i => if i < k then 20 else D.mo i)
theorem WideAt.bel {W W' : World} {bw : Nat} {D : Bx} {g g2 c' d' k : Nat} (h : WideAt W bw D g g2 c' d' k) (hb : Below W.heap.size W W') : WideAt W' bw D g g2 c' d' k :=
  ⟨⟨(hb.cell (p := ⟨bw, 0, none⟩) h.lt).trans h.b.c0, (hb.cell (p := ⟨bw, 1, none⟩) h.lt).trans h.b.c1⟩, Nat.lt_of_lt_of_le h.lt hb.size, h.s.bel hb, h.o.bel hb⟩
theorem WideAt.set {W : World} {bw : Nat} {D : Bx} {g g2 c' d' k : Nat} (h : WideAt W bw D g g2 c' d' k) (hk : k < D.m) (h1 : g ≠ g2) (h2 : bw ≠ g2) : WideAt (W.setCell ⟨g2, k, none⟩ (.int .i64 20)) bw D g g2 c' d' (k + 1) := by
  refine ⟨⟨?_, ?_⟩, by simpa using h.lt, h.s.blk (setCell_block h1), ?_⟩
  · rw [World.cell?_setCell_other _ _ _ _ (by first | (simp; done) | (simp; omega) | (simp [h2]))]; exact h.b.c0
  · rw [World.cell?_setCell_other _ _ _ _ (by first | (simp; done) | (simp; omega) | (simp [h2]))]; exact h.b.c1
  · have := h.o.set hk 20
    refine ⟨this.lt, fun i hi => (this.c i hi).trans ?_, this.fz⟩
    by_cases e : i = k
    · rw [if_pos e, if_pos (by omega)]
    · rw [if_neg e]
      by_cases e2 : i < k
      · rw [if_pos e2, if_pos (by omega)]
      · rw [if_neg e2, if_neg (by omega)]
set_option maxRecDepth 100000 in
set_option maxHeartbeats 16000000 in
theorem mosts_in (D : Bx) (p q : Option Addr) (c d F A : Nat) (a2 a3 V : Int) (w : World) (hi : BxIn w w.heap.size D p q) (hr : rdy D (F : Int) = true) (hq : isQ D (A : Int) = true) (hw : within V (D.mo A) 20 = true) (hok : D.ok = true) (hF : F ≤ 40) (hA : A < D.n) :
    Calls Try.prog 10 #[.agg #[.slice p D.n c, .slice q D.m d], .int .i64 (F : Int), .agg #[.int .i64 (A : Int), .int .i64 a2, .int .i64 a3, .int .i64 V]] w fun e w' => e = .returned (.bool true) ∧ Below w.heap.size w w' := by
  obtain ⟨w1, x1, w2, x2, hw1, hw2, hb, hz, hB, hA', hI⟩ := start_ba D p q c d (A : Int) a2 a3 V w hi
  obtain ⟨n4, m4, _, _⟩ := rdy_parts hr
  obtain ⟨o1, o2, o3, o4⟩ := Bx.ok_parts hok
  have hn : D.n ≤ maxLen := by unfold maxLen; omega
  have hm : D.m ≤ maxLen := by unfold maxLen; omega
  have hVb := within_iff.1 hw
  have hok1 := Bx.setMo_ok hok A (v := V) ⟨by have := o4 A hA; omega, hVb.2⟩
  have hgr := setMo_grown (D := D) (q := A) hVb.1
  have HB := Lib.hid hb; have HI_0 := Lib.hid hI; have HR := Lib.hid hr; have HQ := Lib.hid hq; have HOK := Lib.hid hok
  have HBX_0 := Lib.hid hB; have HAX_0 := Lib.hid hA'
  have HWI := Lib.hid (show ∀ V' : World, Calls Try.prog 52 #[.int .i64 V, .int .i64 (D.mo A), .int .i64 20] V' fun e w' => e = .returned (.bool true) ∧ V' = w' from fun V' => by
    have := within1_any V (D.mo A) 20 V'
    rw [hw] at this
    exact this)
  have HG1 := Lib.hid (show ∀ (V' : World) (p' q' : Option Addr) (c' d' : Nat), BxIn V' V'.heap.size (D.setMo A V) p' q' → Calls Try.prog 47 #[.agg #[.slice p' D.n c', .slice q' D.m d'], .int .i64 (F : Int)] V' fun e w' => ∃ y c2, e = .returned (.tuple #[.slice y D.n c2, .bool true]) ∧ New V' w' D.n (gv (D.setMo A V) F) y from
    fun V' p' q' c' d' h => gaugesL_any (D.setMo A V) p' q' c' d' F V' hok1 hF h)
  have HG2 := Lib.hid (show ∀ (V' : World) (p' q' : Option Addr) (c' d' : Nat), BxIn V' V'.heap.size D.wide p' q' → Calls Try.prog 47 #[.agg #[.slice p' D.n c', .slice q' D.m d'], .int .i64 (F : Int)] V' fun e w' => ∃ y c2, e = .returned (.tuple #[.slice y D.n c2, .bool true]) ∧ New V' w' D.n (gv D.wide F) y from
    fun V' p' q' c' d' h => gaugesL_any D.wide p' q' c' d' F V' (Bx.wide_ok hok) hF h)
  have HGE : Hid (∀ i, i < D.n → i ≠ A → gv (D.setMo A V) F i ≤ gv D F i) := fun i h1 h2 => grown_others hok hok1 hgr F h1 h2
  have hself := grown_self hok hok1 hgr F hA
  have HMN := Lib.hid o2
  obtain ⟨g1, hg1⟩ : ∃ g1, gv (D.setMo A V) F = g1 := ⟨_, rfl⟩
  rw [hg1] at HG1 HGE hself
  have jself : decide (g1 A < gv D F A) = false := by simp; omega
  have HWD := Lib.hid (show fullN D (gv D F) D.n = false → gv D.wide F = gv D F from fun h => gv_wide hok (Bx.wide_ok hok) rfl (fun _ => rfl) (fun i hi => if_pos hi) (f := F) (fun i hi => fullN_no h i hi) (Nat.le_refl _))
  clear hI hB hA' hb hz hi hr hq hok hok1 hgr hw hVb o2 o3 o4 hself hg1
  obtain ⟨b1, of1, rfl, _, _⟩ := (HI_0.out x2).s (by omega)
  obtain ⟨b2, of2, rfl, _, _⟩ := (HI_0.out x2).o (by have := HMN.out; omega)
  have F0_0 : ∀ z : Ext w2, z.v.cell? ⟨w.heap.size, 0, none⟩ = some (.slice (some ⟨b1, of1, none⟩) D.n c) := fun z => (HBX_0.out z).c0
  have F1_0 : ∀ z : Ext w2, z.v.cell? ⟨w.heap.size, 1, none⟩ = some (.slice (some ⟨b2, of2, none⟩) D.m d) := fun z => (HBX_0.out z).c1
  have A0_0 : ∀ z : Ext w2, z.v.cell? ⟨x1.v.heap.size, 0, none⟩ = some (.int .i64 (A : Int)) := fun z => (HAX_0.out z).c0
  have A3_0 : ∀ z : Ext w2, z.v.cell? ⟨x1.v.heap.size, 3, none⟩ = some (.int .i64 V) := fun z => (HAX_0.out z).c3
  have S3_0 : ∀ z : Ext w2, z.v.cell? ⟨b2, of2 + A, none⟩ = some (.int .i64 (D.mo A)) := fun z => ((HI_0.out z).o.cell (by have := HMN.out; omega)).2
  have hAi : (A : Int) < (D.m : Int) := by have := HMN.out; omega
  have hAn : (A : Int) < (D.n : Int) := by omega
  go_enter Try.func10, Try.ntmps10
  go_wp2
  refine quiet_e (by kernel_rfl) (by kernel_rfl) ?_
  repeat (first | go_big_quiet_step ((first | (go_at_call 46; exact quiet_x (ready_is HR.out hn hm (HI_0.out _))) | (go_at_call 50; exact quiet_x (isQR_is HQ.out n4)) | (go_at_call 52; exact quiet_s (HWI.out _)))) | quiet_step ((first | (go_at_call 46; exact quiet_x (ready_is HR.out hn hm (HI_0.out _))) | (go_at_call 50; exact quiet_x (isQR_is HQ.out n4)) | (go_at_call 52; exact quiet_s (HWI.out _)))))
  refine wpQuiet_nil ?_
  intro w6 hw6
  obtain ⟨yq, rfl⟩ := hw6
  clear hw1 hw2
  have HW_0 : Hid (∀ z : Ext w2, Below w.heap.size w z.v) := fun z => bT HB.out z.b
  go_wp2_with fail
  refine (gaugesL_any D (some ⟨b1, of1, none⟩) (some ⟨b2, of2, none⟩) c d F _ HOK.out hF (HI_0.out _)).mono ?_
  rintro e wa ⟨ga, gac, rfl, hcga⟩
  have HXwa := Lib.hid (bT yq.b hcga.below); have HNga0 := Lib.hid hcga.num
  obtain ⟨zwa, hzwa⟩ := rebase wa
  clear hcga
  have HI_1 : Hid (∀ z : Ext wa, BxIn z.v z.v.heap.size D (some ⟨b1, of1, none⟩) (some ⟨b2, of2, none⟩)) := fun z => HI_0.out (z.up HXwa.out)
  have HBX_1 : Hid (∀ z : Ext wa, BoxAt z.v w.heap.size D (some ⟨b1, of1, none⟩) (some ⟨b2, of2, none⟩) c d) := fun z => HBX_0.out (z.up HXwa.out)
  have HAX_1 : Hid (∀ z : Ext wa, AskAt z.v x1.v.heap.size (A : Int) a2 a3 V) := fun z => HAX_0.out (z.up HXwa.out)
  have F0_1 : ∀ z : Ext wa, z.v.cell? ⟨w.heap.size, 0, none⟩ = some (.slice (some ⟨b1, of1, none⟩) D.n c) := fun z => F0_0 (z.up HXwa.out)
  have F1_1 : ∀ z : Ext wa, z.v.cell? ⟨w.heap.size, 1, none⟩ = some (.slice (some ⟨b2, of2, none⟩) D.m d) := fun z => F1_0 (z.up HXwa.out)
  have A0_1 : ∀ z : Ext wa, z.v.cell? ⟨x1.v.heap.size, 0, none⟩ = some (.int .i64 (A : Int)) := fun z => A0_0 (z.up HXwa.out)
  have A3_1 : ∀ z : Ext wa, z.v.cell? ⟨x1.v.heap.size, 3, none⟩ = some (.int .i64 V) := fun z => A3_0 (z.up HXwa.out)
  have S3_1 : ∀ z : Ext wa, z.v.cell? ⟨b2, of2 + A, none⟩ = some (.int .i64 (D.mo A)) := fun z => S3_0 (z.up HXwa.out)
  have HW_1 : Hid (∀ z : Ext wa, Below w.heap.size w z.v) := fun z => HW_0.out (z.up HXwa.out)
  clear HI_0 HBX_0 HAX_0 F0_0 F1_0 A0_0 A3_0 S3_0 HW_0
  have Nga_1 : Hid (∀ z : Ext wa, NumIn z.v z.v.heap.size D.n (gv D F) ga) := fun z => HNga0.out.bel z.b
  rw [hzwa]; clear hzwa
  go_wp2_with fail
  refine (wider_any D (some ⟨b1, of1, none⟩) (some ⟨b2, of2, none⟩) c d A V _ n4 HMN.out hA (HI_1.out _)).mono ?_
  rintro e ww ⟨p', c', q', d', rfl, hbw, hin⟩
  have HXW := Lib.hid (bT zwa.b hbw); have HIN := Lib.hid hin
  obtain ⟨zww, hzww⟩ := rebase ww
  clear hbw hin
  have HI_2 : Hid (∀ z : Ext ww, BxIn z.v z.v.heap.size D (some ⟨b1, of1, none⟩) (some ⟨b2, of2, none⟩)) := fun z => HI_1.out (z.up HXW.out)
  have HBX_2 : Hid (∀ z : Ext ww, BoxAt z.v w.heap.size D (some ⟨b1, of1, none⟩) (some ⟨b2, of2, none⟩) c d) := fun z => HBX_1.out (z.up HXW.out)
  have HAX_2 : Hid (∀ z : Ext ww, AskAt z.v x1.v.heap.size (A : Int) a2 a3 V) := fun z => HAX_1.out (z.up HXW.out)
  have F0_2 : ∀ z : Ext ww, z.v.cell? ⟨w.heap.size, 0, none⟩ = some (.slice (some ⟨b1, of1, none⟩) D.n c) := fun z => F0_1 (z.up HXW.out)
  have F1_2 : ∀ z : Ext ww, z.v.cell? ⟨w.heap.size, 1, none⟩ = some (.slice (some ⟨b2, of2, none⟩) D.m d) := fun z => F1_1 (z.up HXW.out)
  have A0_2 : ∀ z : Ext ww, z.v.cell? ⟨x1.v.heap.size, 0, none⟩ = some (.int .i64 (A : Int)) := fun z => A0_1 (z.up HXW.out)
  have A3_2 : ∀ z : Ext ww, z.v.cell? ⟨x1.v.heap.size, 3, none⟩ = some (.int .i64 V) := fun z => A3_1 (z.up HXW.out)
  have S3_2 : ∀ z : Ext ww, z.v.cell? ⟨b2, of2 + A, none⟩ = some (.int .i64 (D.mo A)) := fun z => S3_1 (z.up HXW.out)
  have HW_2 : Hid (∀ z : Ext ww, Below w.heap.size w z.v) := fun z => HW_1.out (z.up HXW.out)
  have Nga_2 : Hid (∀ z : Ext ww, NumIn z.v z.v.heap.size D.n (gv D F) ga) := fun z => Nga_1.out (z.up HXW.out)
  clear HI_1 HBX_1 HAX_1 F0_1 F1_1 A0_1 A3_1 S3_1 HW_1 Nga_1
  rw [hzww]; clear hzww
  go_wp2_with fail
  refine (HG1.out _ p' q' c' d' (HIN.out.bel (Ext.b _))).mono ?_
  rintro e wb ⟨gb, gbc, rfl, hcgb⟩
  have HXwb := Lib.hid (bT zww.b hcgb.below); have HNgb0 := Lib.hid hcgb.num
  obtain ⟨zwb, hzwb⟩ := rebase wb
  clear hcgb
  have HI_3 : Hid (∀ z : Ext wb, BxIn z.v z.v.heap.size D (some ⟨b1, of1, none⟩) (some ⟨b2, of2, none⟩)) := fun z => HI_2.out (z.up HXwb.out)
  have HBX_3 : Hid (∀ z : Ext wb, BoxAt z.v w.heap.size D (some ⟨b1, of1, none⟩) (some ⟨b2, of2, none⟩) c d) := fun z => HBX_2.out (z.up HXwb.out)
  have HAX_3 : Hid (∀ z : Ext wb, AskAt z.v x1.v.heap.size (A : Int) a2 a3 V) := fun z => HAX_2.out (z.up HXwb.out)
  have F0_3 : ∀ z : Ext wb, z.v.cell? ⟨w.heap.size, 0, none⟩ = some (.slice (some ⟨b1, of1, none⟩) D.n c) := fun z => F0_2 (z.up HXwb.out)
  have F1_3 : ∀ z : Ext wb, z.v.cell? ⟨w.heap.size, 1, none⟩ = some (.slice (some ⟨b2, of2, none⟩) D.m d) := fun z => F1_2 (z.up HXwb.out)
  have A0_3 : ∀ z : Ext wb, z.v.cell? ⟨x1.v.heap.size, 0, none⟩ = some (.int .i64 (A : Int)) := fun z => A0_2 (z.up HXwb.out)
  have A3_3 : ∀ z : Ext wb, z.v.cell? ⟨x1.v.heap.size, 3, none⟩ = some (.int .i64 V) := fun z => A3_2 (z.up HXwb.out)
  have S3_3 : ∀ z : Ext wb, z.v.cell? ⟨b2, of2 + A, none⟩ = some (.int .i64 (D.mo A)) := fun z => S3_2 (z.up HXwb.out)
  have HW_3 : Hid (∀ z : Ext wb, Below w.heap.size w z.v) := fun z => HW_2.out (z.up HXwb.out)
  have Nga_3 : Hid (∀ z : Ext wb, NumIn z.v z.v.heap.size D.n (gv D F) ga) := fun z => Nga_2.out (z.up HXwb.out)
  clear HI_2 HBX_2 HAX_2 F0_2 F1_2 A0_2 A3_2 S3_2 HW_2 Nga_2
  have Ngb_3 : Hid (∀ z : Ext wb, NumIn z.v z.v.heap.size D.n (g1) gb) := fun z => HNgb0.out.bel z.b
  rw [hzwb]; clear hzwb
  obtain ⟨ga0, gao, rfl, _, _⟩ := Nga_3.out zwb (by omega)
  obtain ⟨gb0, gbo, rfl, _, _⟩ := Ngb_3.out zwb (by omega)
  have K1_3 : ∀ z : Ext wb, z.v.cell? ⟨ga0, gao + A, none⟩ = some (.int .i64 (gv D F A)) := fun z => ((Nga_3.out z).cell hA).2
  have K2_3 : ∀ z : Ext wb, z.v.cell? ⟨gb0, gbo + A, none⟩ = some (.int .i64 (g1 A)) := fun z => ((Ngb_3.out z).cell hA).2
  go_wp2
  refine quiet_e (by kernel_rfl) (by kernel_rfl) ?_
  repeat (first | go_big_quiet_step (fail) | quiet_step (fail))
  refine wpQuiet_nil ?_
  intro w6 hw6
  obtain ⟨yr, rfl⟩ := hw6
  go_wp2_with fail
  refine (copy_any D (some ⟨b1, of1, none⟩) (some ⟨b2, of2, none⟩) c d _ n4 m4 (HI_3.out _)).mono ?_
  rintro e wc ⟨p2, c2, q2, d2, rfl, hcp⟩
  obtain ⟨gs, e1, hgs, hrs⟩ := hcp.s (by omega)
  obtain ⟨gm, e2, hgm, hrm⟩ := hcp.o (by have := HMN.out; omega)
  have hne := hcp.ne gs gm (by omega) (by have := HMN.out; omega) e1 e2
  subst e1; subst e2
  obtain ⟨w3, x3, hw3, hb3, hz3, G0, G1⟩ := box_bx wc (some ⟨gs, 0, none⟩) (some ⟨gm, 0, none⟩) D.n D.m c2 d2
  have HWA : Hid (WideAt x3.v wc.heap.size D gs gm c2 d2 0) := ⟨⟨G0 x3, G1 x3⟩, by have := x3.b.size; omega, (hrs.bel hb3).bel x3.b, by
    have := (hrm.bel hb3).bel x3.b
    exact ⟨this.lt, fun i hi => (this.c i hi).trans (by rw [if_neg (Nat.not_lt_zero _)]), this.fz⟩⟩
  have HX3 : Hid (Below wb.heap.size wb x3.v) := bT yr.b (bT hcp.below (bT hb3 x3.b))
  have HNE : Hid (gs ≠ gm ∧ wc.heap.size ≠ gm ∧ wb.heap.size ≤ gm) := ⟨hne, by have := hrm.lt; omega, by have := yr.b.size; omega⟩
  clear hcp hgs hrs hgm hrm hne hb3 hz3
  go_wp2
  clear G0 G1 hw3 jself
  go_loopw [13, 11] (fun i fu wr => ∃ k : Nat, i = .int .i64 k ∧ fu = .bool (fullN D (gv D F) k) ∧ k ≤ D.n ∧ WideAt wr wc.heap.size D gs gm c2 d2 k ∧ Below wb.heap.size wb wr) (fun i _ _ => D.n - (intOf i).toNat)
  case atStart => exact ⟨0, rfl, rfl, Nat.zero_le _, HWA.out, HX3.out⟩
  case round =>
    obtain ⟨k, rfl, rfl, hk, hwa, hbw⟩ := hrel
    have HWA2 := Lib.hid hwa; have HBW := Lib.hid hbw; clear hwa hbw HWA HX3
    obtain ⟨z0, hz0⟩ := rebase wr
    clear S3_3
    clear A3_3
    clear K1_3
    clear K2_3
    have HI_4 : Hid (∀ z : Ext wr, BxIn z.v z.v.heap.size D (some ⟨b1, of1, none⟩) (some ⟨b2, of2, none⟩)) := fun z => HI_3.out (z.up HBW.out)
    have HBX_4 : Hid (∀ z : Ext wr, BoxAt z.v w.heap.size D (some ⟨b1, of1, none⟩) (some ⟨b2, of2, none⟩) c d) := fun z => HBX_3.out (z.up HBW.out)
    have HAX_4 : Hid (∀ z : Ext wr, AskAt z.v x1.v.heap.size (A : Int) a2 a3 V) := fun z => HAX_3.out (z.up HBW.out)
    have F0_4 : ∀ z : Ext wr, z.v.cell? ⟨w.heap.size, 0, none⟩ = some (.slice (some ⟨b1, of1, none⟩) D.n c) := fun z => F0_3 (z.up HBW.out)
    have F1_4 : ∀ z : Ext wr, z.v.cell? ⟨w.heap.size, 1, none⟩ = some (.slice (some ⟨b2, of2, none⟩) D.m d) := fun z => F1_3 (z.up HBW.out)
    have A0_4 : ∀ z : Ext wr, z.v.cell? ⟨x1.v.heap.size, 0, none⟩ = some (.int .i64 (A : Int)) := fun z => A0_3 (z.up HBW.out)
    have HW_4 : Hid (∀ z : Ext wr, Below w.heap.size w z.v) := fun z => HW_3.out (z.up HBW.out)
    have Nga_4 : Hid (∀ z : Ext wr, NumIn z.v z.v.heap.size D.n (gv D F) (some ⟨ga0, gao, none⟩)) := fun z => Nga_3.out (z.up HBW.out)
    have Ngb_4 : Hid (∀ z : Ext wr, NumIn z.v z.v.heap.size D.n (g1) (some ⟨gb0, gbo, none⟩)) := fun z => Ngb_3.out (z.up HBW.out)
    clear HI_3 HBX_3 HAX_3 F0_3 F1_3 A0_3 HW_3 Nga_3 Ngb_3
    have WA_4 : Hid (∀ z : Ext wr, WideAt z.v wc.heap.size D gs gm c2 d2 k) := fun z => HWA2.out.bel z.b
    rw [hz0]; clear hz0
    by_cases hlt : k < D.n
    · have E1 : ∀ z : Ext wr, z.v.cell? ⟨b2, of2 + k, none⟩ = some (.int .i64 (D.mo k)) := fun z => ((HI_4.out z).o.cell (by have := HMN.out; omega)).2
      have E2 : ∀ z : Ext wr, z.v.cell? ⟨ga0, gao + k, none⟩ = some (.int .i64 (gv D F k)) := fun z => ((Nga_4.out z).cell hlt).2
      have E3 : ∀ z : Ext wr, z.v.cell? ⟨gb0, gbo + k, none⟩ = some (.int .i64 (g1 k)) := fun z => ((Ngb_4.out z).cell hlt).2
      have W0 : ∀ z : Ext wr, z.v.cell? ⟨wc.heap.size, 1, none⟩ = some (.slice (some ⟨gm, 0, none⟩) D.m d2) := fun z => (WA_4.out z).b.c1
      have M0 : ∀ z : Ext wr, z.v.cell? ⟨gm, k, none⟩ = some (.int .i64 (if k < k then 20 else D.mo k)) := fun z => (WA_4.out z).o.c k (by have := HMN.out; omega)
      have M1 : ∀ (z : Ext wr) i, z.v.frozen? ⟨gm, i, none⟩ = false := fun z => (WA_4.out z).o.fz
      have hkm : (k : Int) < (D.n : Int) := by omega
      have hkm2 : (k : Int) < (D.m : Int) := by have := HMN.out; omega
      have HN : Hid (fullN D (gv D F) (k + 1) = (fullN D (gv D F) k || decide (gv D F k = D.mo k))) := rfl
      rw [if_neg (Nat.lt_irrefl k)] at M0
      by_cases hkA : k = A
      ·
        have jk : ((k : Int) != (A : Int)) = false := by simp; omega
        clear hkA
        cases hfu : fullN D (gv D F) k with
        | true =>
          have HFU := Lib.hid hfu; clear hfu
          go_wp2
          refine quiet_e (by kernel_rfl) (by kernel_rfl) ?_
          repeat (first | go_big_quiet_step (fail) | quiet_step (fail))
          refine wpQuiet_nil ?_
          intro w6 hw6
          obtain ⟨yu, rfl⟩ := hw6
          go_wp2
          refine quiet_e (by kernel_rfl) (by kernel_rfl) ?_
          repeat (first | go_big_quiet_step (fail) | quiet_step (fail))
          refine wpQuiet_nil ?_
          intro w6 hw6
          obtain ⟨yv, rfl⟩ := hw6
          go_wp2
          go_roundw
          case rel => exact ⟨k + 1, by go_num, by rw [HN.out]; rw [HFU.out]; rfl, hlt, (HWA2.out.bel yv.b).set (by have := HMN.out; omega) HNE.out.1 HNE.out.2.1, bS (bT HBW.out yv.b) HNE.out.2.2 _⟩
          case measure => first | (simp [intOf]; done) | (simp [intOf]; omega)
        | false =>
          have HFU := Lib.hid hfu; clear hfu
          by_cases hgm : gv D F k = D.mo k
          ·
            have HGM := Lib.hid hgm
            rw [hgm] at E2
            try rw [hgm] at jg
            clear hgm
            go_wp2
            refine quiet_e (by kernel_rfl) (by kernel_rfl) ?_
            repeat (first | go_big_quiet_step (fail) | quiet_step (fail))
            refine wpQuiet_nil ?_
            intro w6 hw6
            obtain ⟨yu, rfl⟩ := hw6
            go_wp2
            refine quiet_e (by kernel_rfl) (by kernel_rfl) ?_
            repeat (first | go_big_quiet_step (fail) | quiet_step (fail))
            refine wpQuiet_nil ?_
            intro w6 hw6
            obtain ⟨yv, rfl⟩ := hw6
            go_wp2
            go_roundw
            case rel => exact ⟨k + 1, by go_num, by rw [HN.out]; rw [HFU.out, HGM.out]; simp, hlt, (HWA2.out.bel yv.b).set (by have := HMN.out; omega) HNE.out.1 HNE.out.2.1, bS (bT HBW.out yv.b) HNE.out.2.2 _⟩
            case measure => first | (simp [intOf]; done) | (simp [intOf]; omega)
          ·
            have jgm : (gv D F k == D.mo k) = false := by simpa using hgm
            have HGM := Lib.hid hgm
            clear hgm
            go_wp2
            refine quiet_e (by kernel_rfl) (by kernel_rfl) ?_
            repeat (first | go_big_quiet_step (fail) | quiet_step (fail))
            refine wpQuiet_nil ?_
            intro w6 hw6
            obtain ⟨yu, rfl⟩ := hw6
            go_wp2
            refine quiet_e (by kernel_rfl) (by kernel_rfl) ?_
            repeat (first | go_big_quiet_step (fail) | quiet_step (fail))
            refine wpQuiet_nil ?_
            intro w6 hw6
            obtain ⟨yv, rfl⟩ := hw6
            go_wp2
            go_roundw
            case rel => exact ⟨k + 1, by go_num, by rw [HN.out]; rw [HFU.out]; simp [HGM.out], hlt, (HWA2.out.bel yv.b).set (by have := HMN.out; omega) HNE.out.1 HNE.out.2.1, bS (bT HBW.out yv.b) HNE.out.2.2 _⟩
            case measure => first | (simp [intOf]; done) | (simp [intOf]; omega)
      ·
        have jk : ((k : Int) != (A : Int)) = true := by simp; omega
        have jg : decide (gv D F k < g1 k) = false := by have := HGE.out k hlt hkA; simp; omega
        clear hkA
        cases hfu : fullN D (gv D F) k with
        | true =>
          have HFU := Lib.hid hfu; clear hfu
          go_wp2
          refine quiet_e (by kernel_rfl) (by kernel_rfl) ?_
          repeat (first | go_big_quiet_step (fail) | quiet_step (fail))
          refine wpQuiet_nil ?_
          intro w6 hw6
          obtain ⟨yu, rfl⟩ := hw6
          go_wp2
          refine quiet_e (by kernel_rfl) (by kernel_rfl) ?_
          repeat (first | go_big_quiet_step (fail) | quiet_step (fail))
          refine wpQuiet_nil ?_
          intro w6 hw6
          obtain ⟨yv, rfl⟩ := hw6
          go_wp2
          go_roundw
          case rel => exact ⟨k + 1, by go_num, by rw [HN.out]; rw [HFU.out]; rfl, hlt, (HWA2.out.bel yv.b).set (by have := HMN.out; omega) HNE.out.1 HNE.out.2.1, bS (bT HBW.out yv.b) HNE.out.2.2 _⟩
          case measure => first | (simp [intOf]; done) | (simp [intOf]; omega)
        | false =>
          have HFU := Lib.hid hfu; clear hfu
          by_cases hgm : gv D F k = D.mo k
          ·
            have HGM := Lib.hid hgm
            rw [hgm] at E2
            try rw [hgm] at jg
            clear hgm
            go_wp2
            refine quiet_e (by kernel_rfl) (by kernel_rfl) ?_
            repeat (first | go_big_quiet_step (fail) | quiet_step (fail))
            refine wpQuiet_nil ?_
            intro w6 hw6
            obtain ⟨yu, rfl⟩ := hw6
            go_wp2
            refine quiet_e (by kernel_rfl) (by kernel_rfl) ?_
            repeat (first | go_big_quiet_step (fail) | quiet_step (fail))
            refine wpQuiet_nil ?_
            intro w6 hw6
            obtain ⟨yv, rfl⟩ := hw6
            go_wp2
            go_roundw
            case rel => exact ⟨k + 1, by go_num, by rw [HN.out]; rw [HFU.out, HGM.out]; simp, hlt, (HWA2.out.bel yv.b).set (by have := HMN.out; omega) HNE.out.1 HNE.out.2.1, bS (bT HBW.out yv.b) HNE.out.2.2 _⟩
            case measure => first | (simp [intOf]; done) | (simp [intOf]; omega)
          ·
            have jgm : (gv D F k == D.mo k) = false := by simpa using hgm
            have HGM := Lib.hid hgm
            clear hgm
            go_wp2
            refine quiet_e (by kernel_rfl) (by kernel_rfl) ?_
            repeat (first | go_big_quiet_step (fail) | quiet_step (fail))
            refine wpQuiet_nil ?_
            intro w6 hw6
            obtain ⟨yu, rfl⟩ := hw6
            go_wp2
            refine quiet_e (by kernel_rfl) (by kernel_rfl) ?_
            repeat (first | go_big_quiet_step (fail) | quiet_step (fail))
            refine wpQuiet_nil ?_
            intro w6 hw6
            obtain ⟨yv, rfl⟩ := hw6
            go_wp2
            go_roundw
            case rel => exact ⟨k + 1, by go_num, by rw [HN.out]; rw [HFU.out]; simp [HGM.out], hlt, (HWA2.out.bel yv.b).set (by have := HMN.out; omega) HNE.out.1 HNE.out.2.1, bS (bT HBW.out yv.b) HNE.out.2.2 _⟩
            case measure => first | (simp [intOf]; done) | (simp [intOf]; omega)
    · have HKN := Lib.hid (show k = D.n by omega)
      have j : decide ((k : Int) < (D.n : Int)) = false := by simp; omega
      have W0 : ∀ z : Ext wr, z.v.cell? ⟨wc.heap.size, 0, none⟩ = some (.slice (some ⟨gs, 0, none⟩) D.n c2) := fun z => (WA_4.out z).b.c0
      have W1 : ∀ z : Ext wr, z.v.cell? ⟨wc.heap.size, 1, none⟩ = some (.slice (some ⟨gm, 0, none⟩) D.m d2) := fun z => (WA_4.out z).b.c1
      have HIN2 : Hid (∀ z : Ext wr, BxIn z.v z.v.heap.size D.wide (some ⟨gs, 0, none⟩) (some ⟨gm, 0, none⟩)) := fun z =>
        ⟨(WA_4.out z).s.num, by have := (WA_4.out z).o.num; rw [HKN.out] at this; exact this⟩
      go_wp2_with fail
      refine (HG2.out _ _ _ _ _ (HIN2.out _)).mono ?_
      rintro e we ⟨ge, gec, rfl, hce⟩
      have HXE := Lib.hid (bT z0.b hce.below); have HNE2 := Lib.hid hce.num
      have HNA := Lib.hid ((Nga_4.out z0).bel hce.below)
      have HBE := Lib.hid (bT (HW_4.out z0) hce.below)
      obtain ⟨ze, hze⟩ := rebase we
      clear hce
      rw [hze]; clear hze
      cases hfu : fullN D (gv D F) k with
      | true =>
        go_wp2_with fail
        refine (quiet_x (works_ex _)).mono ?_
        rintro e w' ⟨rfl, y2, rfl⟩
        go_wp2
        go_ret
        exact ⟨rfl, bT HBE.out y2.b⟩
      | false =>
        have HFE := Lib.hid (HWD.out (by rw [← HKN.out]; exact hfu))
        clear hfu
        go_wp2_with fail
        refine (quiet_x (sameInts_any D.n (gv D F) ge (some ⟨ga0, gao, none⟩) gec gac _ (by omega) (by have := HNE2.out.bel ze.b; rw [HFE.out] at this; exact this) (HNA.out.bel ze.b))).mono ?_
        rintro e w' ⟨rfl, ys, rfl⟩
        go_wp2_with fail
        refine (quiet_x (works_ex _)).mono ?_
        rintro e w' ⟨rfl, y2, rfl⟩
        go_wp2
        go_ret
        exact ⟨rfl, bT HBE.out y2.b⟩
theorem mosts_law (D : Bx) (p q : Option Addr) (c d : Nat) (fl a1 a2 a3 a4 : Int) (w : World) (hn : D.n ≤ maxLen) (hm : D.m ≤ maxLen) (hi : BxIn w w.heap.size D p q) :
    Calls Try.prog 10 #[.agg #[.slice p D.n c, .slice q D.m d], .int .i64 fl, .agg #[.int .i64 a1, .int .i64 a2, .int .i64 a3, .int .i64 a4]] w fun e w' => e = .returned (.bool true) ∧ Below w.heap.size w w' := by
  cases hr : rdy D fl with
  | false => exact mosts_out1 D p q c d fl a1 a2 a3 a4 w hn hm hi hr
  | true =>
  cases hq : isQ D a1 with
  | false => exact mosts_out2 D p q c d fl a1 a2 a3 a4 w hn hm hi hr hq
  | true =>
  obtain ⟨_, _, hok, F, rfl, hF⟩ := rdy_parts hr
  obtain ⟨A, rfl, hA⟩ := isQ_nat hq
  have hmn := (Bx.ok_parts hok).2.1
  cases hw : within a4 (D.mo A) 20 with
  | false => exact mosts_out3 D p q c d F A a2 a3 a4 w hn hm hi hr hq (by omega) hw
  | true => exact mosts_in D p q c d F A a2 a3 a4 w hi hr hq hw hok hF hA
end Go.Proofs.Ythbicbmlbblflaa
