/- MouthsAlike returns true in every walk. -/
import Derived.Test.YthbicbmlbblflaaC10

import Derived.Test.YthbicbmlbblflaaM6

set_option linter.unusedSimpArgs false

set_option linter.unusedVariables false

namespace Go.Proofs.Ythbicbmlbblflaa

open Go.RowKit

set_option maxRecDepth 100000 in
set_option maxHeartbeats 8000000 in
theorem alike_out1 (D : Bx) (p q : Option Addr) (c d : Nat) (fl a1 a2 a3 a4 : Int) (w : World) (hn : D.n ≤ maxLen) (hm : D.m ≤ maxLen) (hi : BxIn w w.heap.size D p q) (hr : rdy D fl = false) :
    Calls Try.prog 13 #[.agg #[.slice p D.n c, .slice q D.m d], .int .i64 fl, .agg #[.int .i64 a1, .int .i64 a2, .int .i64 a3, .int .i64 a4]] w fun e w' => e = .returned (.bool true) ∧ Below w.heap.size w w' := by
  obtain ⟨w1, x1, w2, x2, hw1, hw2, hb, hz, hB, hA, hI⟩ := start_ba D p q c d a1 a2 a3 a4 w hi
  have HB := Lib.hid hb; have HI := Lib.hid hI
  have F0 := fun y => (hB y).c0; have F1 := fun y => (hB y).c1
  have A0 := fun y => (hA y).c0
  have A1 := fun y => (hA y).c1
  have A2 := fun y => (hA y).c2
  have A3 := fun y => (hA y).c3
  have HR := Lib.hid hr; clear hr
  clear hb hz hB hA hI hi
  go_enter Try.func13, Try.ntmps13
  go_wp2_with fail
  refine (quiet_x (ready_is HR.out hn hm (HI.out _))).mono ?_
  rintro e w' ⟨rfl, y, rfl⟩
  go_wp2_with fail
  refine (quiet_x (works_ex _)).mono ?_
  rintro e w' ⟨rfl, y2, rfl⟩
  go_wp2
  go_ret
  exact ⟨rfl, bT HB.out y2.b⟩
set_option maxRecDepth 100000 in
set_option maxHeartbeats 8000000 in
theorem alike_out2 (D : Bx) (p q : Option Addr) (c d : Nat) (fl a1 a2 a3 a4 : Int) (w : World) (hn : D.n ≤ maxLen) (hm : D.m ≤ maxLen) (hi : BxIn w w.heap.size D p q) (hr : rdy D fl = true) (hq : isQ D a1 = false) :
    Calls Try.prog 13 #[.agg #[.slice p D.n c, .slice q D.m d], .int .i64 fl, .agg #[.int .i64 a1, .int .i64 a2, .int .i64 a3, .int .i64 a4]] w fun e w' => e = .returned (.bool true) ∧ Below w.heap.size w w' := by
  obtain ⟨w1, x1, w2, x2, hw1, hw2, hb, hz, hB, hA, hI⟩ := start_ba D p q c d a1 a2 a3 a4 w hi
  have HB := Lib.hid hb; have HI := Lib.hid hI
  have F0 := fun y => (hB y).c0; have F1 := fun y => (hB y).c1
  have A0 := fun y => (hA y).c0
  have HR := Lib.hid hr; clear hr
  obtain ⟨n4, m4, _, _⟩ := rdy_parts HR.out
  have HQ := Lib.hid hq; clear hq
  clear hb hz hB hA hI hi
  go_enter Try.func13, Try.ntmps13
  go_wp2_with fail
  refine (quiet_x (ready_is HR.out hn hm (HI.out _))).mono ?_
  rintro e w' ⟨rfl, y, rfl⟩
  go_wp2_with fail
  refine (quiet_x (isQR_is HQ.out n4)).mono ?_
  rintro e w' ⟨rfl, y1, rfl⟩
  go_wp2_with fail
  refine (quiet_x (works_ex _)).mono ?_
  rintro e w' ⟨rfl, y2, rfl⟩
  go_wp2
  go_ret
  exact ⟨rfl, bT HB.out y2.b⟩
set_option maxRecDepth 100000 in
set_option maxHeartbeats 8000000 in
theorem alike_out3 (D : Bx) (p q : Option Addr) (c d : Nat) (fl a1 a2 a3 a4 : Int) (w : World) (hn : D.n ≤ maxLen) (hm : D.m ≤ maxLen) (hi : BxIn w w.heap.size D p q) (hr : rdy D fl = true) (hq : isQ D a1 = true) (hq2 : isQ D a3 = false) :
    Calls Try.prog 13 #[.agg #[.slice p D.n c, .slice q D.m d], .int .i64 fl, .agg #[.int .i64 a1, .int .i64 a2, .int .i64 a3, .int .i64 a4]] w fun e w' => e = .returned (.bool true) ∧ Below w.heap.size w w' := by
  obtain ⟨w1, x1, w2, x2, hw1, hw2, hb, hz, hB, hA, hI⟩ := start_ba D p q c d a1 a2 a3 a4 w hi
  have HB := Lib.hid hb; have HI := Lib.hid hI
  have F0 := fun y => (hB y).c0; have F1 := fun y => (hB y).c1
  have A0 := fun y => (hA y).c0
  have A2 := fun y => (hA y).c2
  have HR := Lib.hid hr; clear hr
  obtain ⟨n4, m4, _, _⟩ := rdy_parts HR.out
  have HQ := Lib.hid hq; clear hq
  have HQ2 := Lib.hid hq2; clear hq2
  clear hb hz hB hA hI hi
  go_enter Try.func13, Try.ntmps13
  go_wp2_with fail
  refine (quiet_x (ready_is HR.out hn hm (HI.out _))).mono ?_
  rintro e w' ⟨rfl, y, rfl⟩
  go_wp2_with fail
  refine (quiet_x (isQR_is HQ.out n4)).mono ?_
  rintro e w' ⟨rfl, y1, rfl⟩
  go_wp2_with fail
  refine (quiet_x (isQR_is HQ2.out n4)).mono ?_
  rintro e w' ⟨rfl, y3, rfl⟩
  go_wp2_with fail
  refine (quiet_x (works_ex _)).mono ?_
  rintro e w' ⟨rfl, y2, rfl⟩
  go_wp2
  go_ret
  exact ⟨rfl, bT HB.out y2.b⟩
set_option maxRecDepth 100000 in
set_option maxHeartbeats 8000000 in
theorem alike_out4 (D : Bx) (p q : Option Addr) (c d : Nat) (fl a1 a2 a3 a4 : Int) (w : World) (hn : D.n ≤ maxLen) (hm : D.m ≤ maxLen) (hi : BxIn w w.heap.size D p q) (hr : rdy D fl = true) (hq : isQ D a1 = true) (hq2 : isQ D a3 = true) (hge : a3 ≤ a1) :
    Calls Try.prog 13 #[.agg #[.slice p D.n c, .slice q D.m d], .int .i64 fl, .agg #[.int .i64 a1, .int .i64 a2, .int .i64 a3, .int .i64 a4]] w fun e w' => e = .returned (.bool true) ∧ Below w.heap.size w w' := by
  obtain ⟨w1, x1, w2, x2, hw1, hw2, hb, hz, hB, hA, hI⟩ := start_ba D p q c d a1 a2 a3 a4 w hi
  have HB := Lib.hid hb; have HI := Lib.hid hI
  have F0 := fun y => (hB y).c0; have F1 := fun y => (hB y).c1
  have A0 := fun y => (hA y).c0
  have A2 := fun y => (hA y).c2
  have HR := Lib.hid hr; clear hr
  obtain ⟨n4, m4, _, _⟩ := rdy_parts HR.out
  have HQ := Lib.hid hq; clear hq
  have HQ2 := Lib.hid hq2; clear hq2
  have jge : decide (a3 ≤ a1) = true := by simpa using hge
  clear hge
  clear hb hz hB hA hI hi
  go_enter Try.func13, Try.ntmps13
  go_wp2_with fail
  refine (quiet_x (ready_is HR.out hn hm (HI.out _))).mono ?_
  rintro e w' ⟨rfl, y, rfl⟩
  go_wp2_with fail
  refine (quiet_x (isQR_is HQ.out n4)).mono ?_
  rintro e w' ⟨rfl, y1, rfl⟩
  go_wp2_with fail
  refine (quiet_x (isQR_is HQ2.out n4)).mono ?_
  rintro e w' ⟨rfl, y3, rfl⟩
  go_wp2_with fail
  refine (quiet_x (works_ex _)).mono ?_
  rintro e w' ⟨rfl, y2, rfl⟩
  go_wp2
  go_ret
  exact ⟨rfl, bT HB.out y2.b⟩
/-- a new box, still empty -/
structure NilAt (W : World) (b : Nat) : Prop where
  lt : b < W.heap.size
  c0 : W.cell? ⟨b, 0, none⟩ = some (.slice none 0 0)
  c1 : W.cell? ⟨b, 1, none⟩ = some (.slice none 0 0)
  c2 : ∀ i, W.cell? ⟨b, i + 2, none⟩ = none
  fz : ∀ i, W.frozen? ⟨b, i, none⟩ = false
theorem NilAt.bel {W W' : World} {b : Nat} (h : NilAt W b) (k : Below W.heap.size W W') : NilAt W' b :=
  ⟨Nat.lt_of_lt_of_le h.lt k.size, (k.cell h.lt).trans h.c0, (k.cell h.lt).trans h.c1, fun i => (k.cell (p := ⟨b, i + 2, none⟩) h.lt).trans (h.c2 i), fun i => (k.frozen (p := ⟨b, i, none⟩) h.lt).trans (h.fz i)⟩
theorem NilAt.new (W : World) (t : TypeId) : NilAt (W.alloc (Obj.cells #[.slice none 0 0, .slice none 0 0] t)) W.heap.size :=
  ⟨by simp, by go_simp, by go_simp, fun i => by
    have h : (W.alloc (Obj.cells #[.slice none 0 0, .slice none 0 0] t)).heap[W.heap.size]? = some (.cells #[.slice none 0 0, .slice none 0 0] t (0, 0)) := World.alloc_heap_new _ _
    rw [cell_of_row _ W.heap.size (i + 2) _ _ (0, 0) h]; simp, fun i => by go_simp⟩
theorem num_ne {W : World} {K n b : Nat} {f : Nat → Int} {p : Option Addr} (h : NumIn W K n f p) (hb : NilAt W b) {g o : Nat} (hn : 0 < n) (e : p = some ⟨g, o, none⟩) : g ≠ b := by
  rintro rfl
  obtain ⟨b', o', e', _, hc⟩ := h hn
  rw [e] at e'
  simp only [Option.some.injEq, Addr.mk.injEq] at e'
  obtain ⟨rfl, rfl, _⟩ := e'
  have h0 := hc 0 hn
  rw [Nat.add_zero] at h0
  match o, h0 with
  | 0, h0 => rw [hb.c0] at h0; cases h0
  | 1, h0 => rw [hb.c1] at h0; cases h0
  | o + 2, h0 => rw [hb.c2] at h0; cases h0
theorem num_set {W : World} {K n b : Nat} {f : Nat → Int} {p : Option Addr} (h : NumIn W K n f p) (hb : NilAt W b) (u v : Value) : NumIn ((W.setCell ⟨b, 0, none⟩ u).setCell ⟨b, 1, none⟩ v) K n f p := fun hn => by
  obtain ⟨g, o, e, hl, hc⟩ := h hn
  have hne := num_ne h hb hn e
  refine ⟨g, o, e, hl, fun k hk => ?_⟩
  rw [World.cell?_setCell_other _ _ _ _ (by simp [Ne.symm hne]), World.cell?_setCell_other _ _ _ _ (by simp [Ne.symm hne])]
  exact hc k hk
/-- an empty box is filled -/
theorem nil_fill {W : World} {b : Nat} {D : Bx} {p q : Option Addr} {c d : Nat} (hb : NilAt W b) (hi : BxIn W W.heap.size D p q) :
    ∃ (w2 : World) (x2 : Ext w2), (W.setCell ⟨b, 0, none⟩ (.slice p D.n c)).setCell ⟨b, 1, none⟩ (.slice q D.m d) = x2.v ∧ Below b W w2 ∧ (∀ y : Ext w2, BoxAt y.v b D p q c d) ∧ (∀ y : Ext w2, BxIn y.v y.v.heap.size D p q) := by
  have h0 := hb.c0; have h1 := hb.c1; have hf := hb.fz; have hl := hb.lt
  have g0 : ((W.setCell ⟨b, 0, none⟩ (.slice p D.n c)).setCell ⟨b, 1, none⟩ (.slice q D.m d)).cell? ⟨b, 0, none⟩ = some (.slice p D.n c) := by go_simp
  have g1 : ((W.setCell ⟨b, 0, none⟩ (.slice p D.n c)).setCell ⟨b, 1, none⟩ (.slice q D.m d)).cell? ⟨b, 1, none⟩ = some (.slice q D.m d) := by go_simp
  have hi2 : BxIn ((W.setCell ⟨b, 0, none⟩ (.slice p D.n c)).setCell ⟨b, 1, none⟩ (.slice q D.m d)) W.heap.size D p q := ⟨num_set hi.s hb _ _, num_set hi.o hb _ _⟩
  refine ⟨_, ⟨_, Below.refl _ _⟩, rfl, ((Below.refl b W).setCell (Nat.le_refl _) _).setCell (Nat.le_refl _) _, fun y => ⟨(y.b.cell (p := ⟨b, 0, none⟩) (by simpa using hl)).trans g0, (y.b.cell (p := ⟨b, 1, none⟩) (by simpa using hl)).trans g1⟩, fun y => (hi2.mono (by simp)).bel y.b⟩
set_option maxRecDepth 100000 in
set_option maxHeartbeats 30000000 in
theorem alike_in (D : Bx) (p q : Option Addr) (c d F A B : Nat) (a2 a4 : Int) (w : World) (hi : BxIn w w.heap.size D p q) (hr : rdy D (F : Int) = true) (hq : isQ D (A : Int) = true) (hq2 : isQ D (B : Int) = true) (hok : D.ok = true) (hF : F ≤ 40) (hA : A < D.n) (hBn : B < D.n) (hAB : A < B) :
    Calls Try.prog 13 #[.agg #[.slice p D.n c, .slice q D.m d], .int .i64 (F : Int), .agg #[.int .i64 (A : Int), .int .i64 a2, .int .i64 (B : Int), .int .i64 a4]] w fun e w' => e = .returned (.bool true) ∧ Below w.heap.size w w' := by
  obtain ⟨w1, x1, w2, x2, hw1, hw2, hb, hz, hB, hA', hI⟩ := start_ba D p q c d (A : Int) a2 (B : Int) a4 w hi
  obtain ⟨n4, m4, _, _⟩ := rdy_parts hr
  obtain ⟨o1, o2, o3, o4⟩ := Bx.ok_parts hok
  have hn : D.n ≤ maxLen := by unfold maxLen; omega
  have hm : D.m ≤ maxLen := by unfold maxLen; omega
  obtain ⟨E, hE⟩ : ∃ E : Bx, ((D.setSh B (D.sh A)).setMo B (D.mo A)) = E := ⟨_, rfl⟩
  have hok2 : E.ok = true := by rw [← hE]; exact Bx.setMo_ok (Bx.setSh_ok hok B (o3 A hA)) B (o4 A hA)
  have hEn : E.n = D.n := by rw [← hE]; rfl
  have hEm : E.m = D.m := by rw [← hE]; rfl
  have hs : E.sh A = E.sh B := by
    rw [← hE]
    show (if A = B then D.sh A else D.sh A) = (if B = B then D.sh A else D.sh B)
    rw [if_neg (by omega), if_pos rfl]
  have hmo : E.mo A = E.mo B := by
    rw [← hE]
    show (if A = B then D.mo A else D.mo A) = (if B = B then D.mo A else D.mo B)
    rw [if_neg (by omega), if_pos rfl]
  have hg := gv_alike hok2 hAB (by omega) hs hmo F
  have hrm := rm_alike hok2 (fl := (F : Int)) hAB (by omega) hs
  have rb1 := RM_bd (fl := (F : Int)) hok2 ⟨by omega, by omega⟩ A
  have rb2 := RM_bd (fl := (F : Int)) hok2 ⟨by omega, by omega⟩ B
  have gb1 := gv_5 hok2 F A (by omega); have gb2 := gv_5 hok2 F B (by omega)
  have HGG := Lib.hid (show ∀ (V : World) (p' q' : Option Addr) (c' d' : Nat), BxIn V V.heap.size E p' q' → Calls Try.prog 47 #[.agg #[.slice p' D.n c', .slice q' D.m d'], .int .i64 (F : Int)] V fun e w' => ∃ y c2, e = .returned (.tuple #[.slice y D.n c2, .bool true]) ∧ New V w' D.n (gv E F) y from
    fun V p' q' c' d' h => by have := gaugesL_any E p' q' c' d' F V hok2 hF h; rw [hEn, hEm] at this; exact this)
  have HRM := Lib.hid (show ∀ (V : World) (p' q' : Option Addr) (c' d' : Nat), BxIn V V.heap.size E p' q' → Calls Try.prog 37 #[.agg #[.slice p' D.n c', .slice q' D.m d'], .int .i64 (F : Int)] V fun e w' => ∃ y c2, e = .returned (.tuple #[.slice y D.n c2, .int .i64 0]) ∧ New V w' D.n (RM E F) y from
    fun V p' q' c' d' h => by have := remP_ok E p' q' c' d' F V hok2 hF h; rw [hEn, hEm] at this; exact this)
  have HWID := Lib.hid (show ∀ (V : World) (p' q' : Option Addr) (c' d' : Nat), BxIn V V.heap.size (D.setSh B (D.sh A)) p' q' → Calls Try.prog 54 #[.agg #[.slice p' D.n c', .slice q' D.m d'], .int .i64 (B : Int), .int .i64 (D.mo A)] V fun e w' => ∃ p2 c2 q2 d2, e = .returned (.agg #[.slice p2 E.n c2, .slice q2 E.m d2]) ∧ Below V.heap.size V w' ∧ BxIn w' w'.heap.size E p2 q2 from
    fun V p' q' c' d' h => by have := wider_any (D.setSh B (D.sh A)) p' q' c' d' B (D.mo A) V n4 o2 hBn h; rw [hE] at this; rw [hEn, hEm]; exact this)
  have HMN := Lib.hid o2
  obtain ⟨ra, hra⟩ : ∃ ra, RM E F A = ra := ⟨_, rfl⟩
  obtain ⟨rb, hrb⟩ : ∃ rb, RM E F B = rb := ⟨_, rfl⟩
  obtain ⟨ga', hga⟩ : ∃ ga', gv E F A = ga' := ⟨_, rfl⟩
  obtain ⟨gb', hgb⟩ : ∃ gb', gv E F B = gb' := ⟨_, rfl⟩
  have HRA := Lib.hid hra; have HRB := Lib.hid hrb; have HGA := Lib.hid hga; have HGB := Lib.hid hgb
  rw [hra] at hrm rb1; rw [hrb] at hrm rb2; rw [hga] at hg gb1; rw [hgb] at hg gb2
  have ew1 : IntKind.i64.wrap (ga' - gb') = ga' - gb' := IntWalk.i64_in _ (by omega)
  have ew2 : IntKind.i64.wrap (ra - rb) = ra - rb := IntWalk.i64_in _ (by omega)
  have wi1 : within ra 0 1000 = true := within_tt (by omega) (by omega)
  have wi2 : within rb 0 1000 = true := within_tt (by omega) (by omega)
  have wi3 : within (ga' - gb') 0 1 = true := within_tt (by omega) (by omega)
  have wi4 : within (ra - rb) 0 1 = true := within_tt (by omega) (by omega)
  have HEN := Lib.hid hEn; have HEM := Lib.hid hEm
  have HB := Lib.hid hb; have HI_0 := Lib.hid hI; have HR := Lib.hid hr; have HQ := Lib.hid hq; have HQ2 := Lib.hid hq2
  have HBX_0 := Lib.hid hB; have HAX_0 := Lib.hid hA'
  have jge : decide ((B : Int) ≤ (A : Int)) = false := by simp; omega
  clear hI hB hA' hb hz hi hr hq hq2 hok hok2 o2 o3 o4 hs hmo hg hrm rb1 rb2 gb1 gb2 hra hrb hga hgb hE hEn hEm
  obtain ⟨b1, of1, rfl, _, _⟩ := (HI_0.out x2).s (by omega)
  obtain ⟨b2, of2, rfl, _, _⟩ := (HI_0.out x2).o (by have := HMN.out; omega)
  have F0_0 : ∀ z : Ext w2, z.v.cell? ⟨w.heap.size, 0, none⟩ = some (.slice (some ⟨b1, of1, none⟩) D.n c) := fun z => (HBX_0.out z).c0
  have F1_0 : ∀ z : Ext w2, z.v.cell? ⟨w.heap.size, 1, none⟩ = some (.slice (some ⟨b2, of2, none⟩) D.m d) := fun z => (HBX_0.out z).c1
  have A0_0 : ∀ z : Ext w2, z.v.cell? ⟨x1.v.heap.size, 0, none⟩ = some (.int .i64 (A : Int)) := fun z => (HAX_0.out z).c0
  have A2_0 : ∀ z : Ext w2, z.v.cell? ⟨x1.v.heap.size, 2, none⟩ = some (.int .i64 (B : Int)) := fun z => (HAX_0.out z).c2
  have S1_0 : ∀ z : Ext w2, z.v.cell? ⟨b1, of1 + A, none⟩ = some (.int .i64 (D.sh A)) := fun z => ((HI_0.out z).s.cell hA).2
  have S3_0 : ∀ z : Ext w2, z.v.cell? ⟨b2, of2 + A, none⟩ = some (.int .i64 (D.mo A)) := fun z => ((HI_0.out z).o.cell (by have := HMN.out; omega)).2
  have HW_0 : Hid (∀ z : Ext w2, Below w.heap.size w z.v) := fun z => bT HB.out z.b
  have hAi : (A : Int) < (D.n : Int) := by omega
  have hAm : (A : Int) < (D.m : Int) := by have := HMN.out; omega
  have hBi : (B : Int) < (D.n : Int) := by omega
  go_enter Try.func13, Try.ntmps13
  go_wp2_with fail
  refine (quiet_x (ready_is HR.out hn hm (HI_0.out _))).mono ?_
  rintro e w' ⟨rfl, y, rfl⟩
  go_wp2_with fail
  refine (quiet_x (isQR_is HQ.out n4)).mono ?_
  rintro e w' ⟨rfl, y1, rfl⟩
  go_wp2_with fail
  refine (quiet_x (isQR_is HQ2.out n4)).mono ?_
  rintro e w' ⟨rfl, y3, rfl⟩
  go_wp2
  clear hw1 hw2 jge
  refine wp_region_lastE 20 (by kernel_rfl) rfl (fun yr => ?_)
  refine wpAnyG_take (i := 0) (v := ?_) (by kernel_rfl) rfl (by kernel_rfl) (by kernel_rfl) (by kernel_rfl) (fun _ _ _ h => h) (Or.inl ⟨by rfl, ?_⟩) ⟨_, rfl⟩ ?_
  rotate_left
  · rintro wS ⟨yS, rfl⟩
    go_simp
    try (with_reducible rfl)
  try simp only [Act.put, List.setIfInBounds_toArray, List.set_cons_zero, List.set_cons_succ]
  refine wpAnyG_take (i := 1) (v := ?_) (by kernel_rfl) rfl (by kernel_rfl) (by kernel_rfl) (by kernel_rfl) (fun _ _ _ h => h) (Or.inl ⟨by rfl, ?_⟩) ⟨_, rfl⟩ ?_
  rotate_left
  · rintro wS ⟨yS, rfl⟩
    go_simp
    try (with_reducible rfl)
  try simp only [Act.put, List.setIfInBounds_toArray, List.set_cons_zero, List.set_cons_succ]
  refine wpAnyG_take (i := 2) (v := ?_) (by kernel_rfl) rfl (by kernel_rfl) (by kernel_rfl) (by kernel_rfl) (fun _ _ _ h => h) (Or.inl ⟨by rfl, ?_⟩) ⟨_, rfl⟩ ?_
  rotate_left
  · rintro wS ⟨yS, rfl⟩
    go_simp
    try (with_reducible rfl)
  try simp only [Act.put, List.setIfInBounds_toArray, List.set_cons_zero, List.set_cons_succ]
  refine wpAnyG_take (i := 3) (v := ?_) (by kernel_rfl) rfl (by kernel_rfl) (by kernel_rfl) (by kernel_rfl) (fun _ _ _ h => h) (Or.inl ⟨by rfl, ?_⟩) ⟨_, rfl⟩ ?_
  rotate_left
  · rintro wS ⟨yS, rfl⟩
    go_simp
    try (with_reducible rfl)
  try simp only [Act.put, List.setIfInBounds_toArray, List.set_cons_zero, List.set_cons_succ]
  refine wpAnyG_take (i := 4) (v := ?_) (by kernel_rfl) rfl (by kernel_rfl) (by kernel_rfl) (by kernel_rfl) (fun _ _ _ h => h) (Or.inl ⟨by rfl, ?_⟩) ⟨_, rfl⟩ ?_
  rotate_left
  · rintro wS ⟨yS, rfl⟩
    go_simp
    try (with_reducible rfl)
  try simp only [Act.put, List.setIfInBounds_toArray, List.set_cons_zero, List.set_cons_succ]
  refine wpAnyG_take (i := 5) (v := ?_) (by kernel_rfl) rfl (by kernel_rfl) (by kernel_rfl) (by kernel_rfl) (fun _ _ _ h => h) (Or.inl ⟨by rfl, ?_⟩) ⟨_, rfl⟩ ?_
  rotate_left
  · rintro wS ⟨yS, rfl⟩
    go_simp
    try (with_reducible rfl)
  try simp only [Act.put, List.setIfInBounds_toArray, List.set_cons_zero, List.set_cons_succ]
  refine wpAnyG_take (i := 6) (v := ?_) (by kernel_rfl) rfl (by kernel_rfl) (by kernel_rfl) (by kernel_rfl) (fun _ _ _ h => h) (Or.inl ⟨by rfl, ?_⟩) ⟨_, rfl⟩ ?_
  rotate_left
  · rintro wS ⟨yS, rfl⟩
    go_simp
    try (with_reducible rfl)
  try simp only [Act.put, List.setIfInBounds_toArray, List.set_cons_zero, List.set_cons_succ]
  refine wpAnyG_take (i := 7) (v := ?_) (by kernel_rfl) rfl (by kernel_rfl) (by kernel_rfl) (by kernel_rfl) (fun _ _ _ h => h) (Or.inl ⟨by rfl, ?_⟩) ⟨_, rfl⟩ ?_
  rotate_left
  · rintro wS ⟨yS, rfl⟩
    go_simp
    try (with_reducible rfl)
  try simp only [Act.put, List.setIfInBounds_toArray, List.set_cons_zero, List.set_cons_succ]
  refine wpAnyG_take (i := 8) (v := ?_) (by kernel_rfl) rfl (by kernel_rfl) (by kernel_rfl) (by kernel_rfl) (fun _ _ _ h => h) (Or.inl ⟨by rfl, ?_⟩) ⟨_, rfl⟩ ?_
  rotate_left
  · rintro wS ⟨yS, rfl⟩
    go_simp
    try (with_reducible rfl)
  try simp only [Act.put, List.setIfInBounds_toArray, List.set_cons_zero, List.set_cons_succ]
  refine wpAnyG_take (i := 10) (v := ?_) (by kernel_rfl) rfl (by kernel_rfl) (by kernel_rfl) (by kernel_rfl) (fun _ _ _ h => h) (Or.inl ⟨by rfl, ?_⟩) ⟨_, rfl⟩ ?_
  rotate_left
  · rintro wS ⟨yS, rfl⟩
    go_simp
    try (with_reducible rfl)
  try simp only [Act.put, List.setIfInBounds_toArray, List.set_cons_zero, List.set_cons_succ]
  refine wpAnyG_take (i := 11) (v := ?_) (by kernel_rfl) rfl (by kernel_rfl) (by kernel_rfl) (by kernel_rfl) (fun _ _ _ h => h) (Or.inl ⟨by rfl, ?_⟩) ⟨_, rfl⟩ ?_
  rotate_left
  · rintro wS ⟨yS, rfl⟩
    go_simp
    try (with_reducible rfl)
  try simp only [Act.put, List.setIfInBounds_toArray, List.set_cons_zero, List.set_cons_succ]
  refine wpAnyG_take (i := 12) (v := ?_) (by kernel_rfl) rfl (by kernel_rfl) (by kernel_rfl) (by kernel_rfl) (fun _ _ _ h => h) (Or.inl ⟨by rfl, ?_⟩) ⟨_, rfl⟩ ?_
  rotate_left
  · rintro wS ⟨yS, rfl⟩
    go_simp
    try (with_reducible rfl)
  try simp only [Act.put, List.setIfInBounds_toArray, List.set_cons_zero, List.set_cons_succ]
  refine wpAnyG_take (i := 13) (v := ?_) (by kernel_rfl) rfl (by kernel_rfl) (by kernel_rfl) (by kernel_rfl) (fun _ _ _ h => h) (Or.inl ⟨by rfl, ?_⟩) ⟨_, rfl⟩ ?_
  rotate_left
  · rintro wS ⟨yS, rfl⟩
    go_simp
    try (with_reducible rfl)
  try simp only [Act.put, List.setIfInBounds_toArray, List.set_cons_zero, List.set_cons_succ]
  refine wpAnyG_take (i := 14) (v := ?_) (by kernel_rfl) rfl (by kernel_rfl) (by kernel_rfl) (by kernel_rfl) (fun _ _ _ h => h) (Or.inl ⟨by rfl, ?_⟩) ⟨_, rfl⟩ ?_
  rotate_left
  · rintro wS ⟨yS, rfl⟩
    go_simp
    try (with_reducible rfl)
  try simp only [Act.put, List.setIfInBounds_toArray, List.set_cons_zero, List.set_cons_succ]
  refine wpAnyG_take (i := 15) (v := ?_) (by kernel_rfl) rfl (by kernel_rfl) (by kernel_rfl) (by kernel_rfl) (fun _ _ _ h => h) (Or.inl ⟨by rfl, ?_⟩) ⟨_, rfl⟩ ?_
  rotate_left
  · rintro wS ⟨yS, rfl⟩
    go_simp
    try (with_reducible rfl)
  try simp only [Act.put, List.setIfInBounds_toArray, List.set_cons_zero, List.set_cons_succ]
  refine wpAnyG_take (i := 16) (v := ?_) (by kernel_rfl) rfl (by kernel_rfl) (by kernel_rfl) (by kernel_rfl) (fun _ _ _ h => h) (Or.inl ⟨by rfl, ?_⟩) ⟨_, rfl⟩ ?_
  rotate_left
  · rintro wS ⟨yS, rfl⟩
    go_simp
    try (with_reducible rfl)
  try simp only [Act.put, List.setIfInBounds_toArray, List.set_cons_zero, List.set_cons_succ]
  refine wpAnyG_take (i := 17) (v := ?_) (by kernel_rfl) rfl (by kernel_rfl) (by kernel_rfl) (by kernel_rfl) (fun _ _ _ h => h) (Or.inl ⟨by rfl, ?_⟩) ⟨_, rfl⟩ ?_
  rotate_left
  · rintro wS ⟨yS, rfl⟩
    go_simp
    try (with_reducible rfl)
  try simp only [Act.put, List.setIfInBounds_toArray, List.set_cons_zero, List.set_cons_succ]
  refine wpAnyG_two (i := 9) (j := 19) (by kernel_rfl) (by decide) (by decide) ?_ ?_
  ·
    refine wpOp_plain rfl rfl ?_
    go_simp
    go_at_call 53
    refine (shared_any D (some ⟨b1, of1, none⟩) (some ⟨b2, of2, none⟩) c d B (D.sh A) _ n4 HMN.out hBn (HI_0.out _)).mono ?_
    rintro e w' ⟨p', c', q', d', rfl, hbs, hin⟩
    obtain ⟨ys, rfl⟩ : ∃ zz : Ext w2, w' = zz.v := ⟨⟨_, bT (Ext.b _) hbs⟩, rfl⟩
    have HBS := Lib.hid hbs; have HSI := Lib.hid hin
    clear hbs hin
    refine ⟨⟨_, rfl⟩, ?_⟩
    try simp only [Act.put, List.setIfInBounds_toArray, List.set_cons_zero, List.set_cons_succ]
    refine wpAnyG_two (i := 18) (j := 19) (by kernel_rfl) (by decide) (by decide) ?_ ?_
    ·
      refine wpOp_plain rfl rfl ?_
      go_simp
      go_at_call 54
      refine (HWID.out _ p' q' c' d' (HSI.out)).mono ?_
      rintro e w' ⟨p2, c2, q2, d2, rfl, hbw, hin⟩
      obtain ⟨yw, rfl⟩ : ∃ zz : Ext w2, w' = zz.v := ⟨⟨_, bT (Ext.b _) hbw⟩, rfl⟩
      have HBWW := Lib.hid hbw; have HWI := Lib.hid hin
      clear hbw hin
      refine ⟨⟨_, rfl⟩, ?_⟩
      try simp only [Act.put, List.setIfInBounds_toArray, List.set_cons_zero, List.set_cons_succ]
      refine wpAnyG_one (i := 19) (by kernel_rfl) (by decide) (wpOp_plain rfl rfl ?_)
      go_simp
      obtain ⟨yn, hyn⟩ : ∃ zz : Ext w2, yw.v.alloc (Obj.cells #[Value.slice none 0 0, Value.slice none 0 0] 24) = zz.v := ⟨⟨_, bA (Ext.b _) _⟩, rfl⟩
      have HNA := Lib.hid (NilAt.new yw.v 24)
      rw [hyn] at HNA
      have HAB : Hid (Below yw.v.heap.size yw.v yn.v) := by rw [← hyn]; exact bA (Below.refl _ _) _
      have HLE : Hid (w2.heap.size ≤ yw.v.heap.size) := yw.b.size
      rw [hyn]; clear hyn
      refine ⟨⟨_, rfl⟩, ?_⟩
      try simp only [Act.put, List.setIfInBounds_toArray, List.set_cons_zero, List.set_cons_succ]
      have HNF := Lib.hid (HNA.out)
      have HIF := Lib.hid (HWI.out.bel HAB.out)
      have N0 := HNF.out.c0; have N1 := HNF.out.c1; have NF := HNF.out.fz
      refine wpAnyG_done (by kernel_rfl) (by kernel_rfl) (wpOp_plain rfl rfl ?_)
      go_simp
      obtain ⟨w9, x9, hw9, hb9, hB9, hI9⟩ := nil_fill (c := c2) (d := d2) HNF.out HIF.out
      have HX9 : Hid (Below w2.heap.size w2 w9) := yn.b.trans (hb9.mono HLE.out)
      have HBX9 := Lib.hid hB9; have HI9_0 := Lib.hid hI9
      clear hb9 hB9 hI9 N0 N1 NF
      clear F0_0
      clear F1_0
      clear S1_0
      clear S3_0
      have HI_1 : Hid (∀ z : Ext w9, BxIn z.v z.v.heap.size D (some ⟨b1, of1, none⟩) (some ⟨b2, of2, none⟩)) := fun z => HI_0.out (z.up HX9.out)
      have HBX_1 : Hid (∀ z : Ext w9, BoxAt z.v w.heap.size D (some ⟨b1, of1, none⟩) (some ⟨b2, of2, none⟩) c d) := fun z => HBX_0.out (z.up HX9.out)
      have HAX_1 : Hid (∀ z : Ext w9, AskAt z.v x1.v.heap.size (A : Int) a2 (B : Int) a4) := fun z => HAX_0.out (z.up HX9.out)
      have A0_1 : ∀ z : Ext w9, z.v.cell? ⟨x1.v.heap.size, 0, none⟩ = some (.int .i64 (A : Int)) := fun z => A0_0 (z.up HX9.out)
      have A2_1 : ∀ z : Ext w9, z.v.cell? ⟨x1.v.heap.size, 2, none⟩ = some (.int .i64 (B : Int)) := fun z => A2_0 (z.up HX9.out)
      have HW_1 : Hid (∀ z : Ext w9, Below w.heap.size w z.v) := fun z => HW_0.out (z.up HX9.out)
      clear HI_0 HBX_0 HAX_0 A0_0 A2_0 HW_0
      have O0_1 : ∀ z : Ext w9, z.v.cell? ⟨yw.v.heap.size, 0, none⟩ = some (.slice p2 D.n c2) := fun z => by have := (HBX9.out z).c0; rwa [HEN.out] at this
      have O1_1 : ∀ z : Ext w9, z.v.cell? ⟨yw.v.heap.size, 1, none⟩ = some (.slice q2 D.m d2) := fun z => by have := (HBX9.out z).c1; rwa [HEM.out] at this
      rw [hw9]; clear hw9
      go_wp2_with fail
      refine (HGG.out _ p2 q2 c2 d2 (HI9_0.out _)).mono ?_
      rintro e wa ⟨ga, gac, rfl, hcga⟩
      have HXwa := Lib.hid (bT x9.b hcga.below); have HNga0 := Lib.hid hcga.num
      obtain ⟨zwa, hzwa⟩ := rebase wa
      clear hcga
      have HI_2 : Hid (∀ z : Ext wa, BxIn z.v z.v.heap.size D (some ⟨b1, of1, none⟩) (some ⟨b2, of2, none⟩)) := fun z => HI_1.out (z.up HXwa.out)
      have HBX_2 : Hid (∀ z : Ext wa, BoxAt z.v w.heap.size D (some ⟨b1, of1, none⟩) (some ⟨b2, of2, none⟩) c d) := fun z => HBX_1.out (z.up HXwa.out)
      have HAX_2 : Hid (∀ z : Ext wa, AskAt z.v x1.v.heap.size (A : Int) a2 (B : Int) a4) := fun z => HAX_1.out (z.up HXwa.out)
      have A0_2 : ∀ z : Ext wa, z.v.cell? ⟨x1.v.heap.size, 0, none⟩ = some (.int .i64 (A : Int)) := fun z => A0_1 (z.up HXwa.out)
      have A2_2 : ∀ z : Ext wa, z.v.cell? ⟨x1.v.heap.size, 2, none⟩ = some (.int .i64 (B : Int)) := fun z => A2_1 (z.up HXwa.out)
      have HW_2 : Hid (∀ z : Ext wa, Below w.heap.size w z.v) := fun z => HW_1.out (z.up HXwa.out)
      have HJ_2 : Hid (∀ z : Ext wa, BxIn z.v z.v.heap.size E p2 q2) := fun z => HI9_0.out (z.up HXwa.out)
      have O0_2 : ∀ z : Ext wa, z.v.cell? ⟨yw.v.heap.size, 0, none⟩ = some (.slice p2 D.n c2) := fun z => O0_1 (z.up HXwa.out)
      have O1_2 : ∀ z : Ext wa, z.v.cell? ⟨yw.v.heap.size, 1, none⟩ = some (.slice q2 D.m d2) := fun z => O1_1 (z.up HXwa.out)
      clear HI_1 HBX_1 HAX_1 A0_1 A2_1 HW_1 HI9_0 O0_1 O1_1
      have Nga_2 : Hid (∀ z : Ext wa, NumIn z.v z.v.heap.size D.n (gv E F) ga) := fun z => HNga0.out.bel z.b
      rw [hzwa]; clear hzwa
      go_wp2_with fail
      refine (HRM.out _ p2 q2 c2 d2 (HJ_2.out _)).mono ?_
      rintro e wr ⟨gr, grc, rfl, hcgr⟩
      have HXwr := Lib.hid (bT zwa.b hcgr.below); have HNgr0 := Lib.hid hcgr.num
      obtain ⟨zwr, hzwr⟩ := rebase wr
      clear hcgr
      have HI_3 : Hid (∀ z : Ext wr, BxIn z.v z.v.heap.size D (some ⟨b1, of1, none⟩) (some ⟨b2, of2, none⟩)) := fun z => HI_2.out (z.up HXwr.out)
      have HBX_3 : Hid (∀ z : Ext wr, BoxAt z.v w.heap.size D (some ⟨b1, of1, none⟩) (some ⟨b2, of2, none⟩) c d) := fun z => HBX_2.out (z.up HXwr.out)
      have HAX_3 : Hid (∀ z : Ext wr, AskAt z.v x1.v.heap.size (A : Int) a2 (B : Int) a4) := fun z => HAX_2.out (z.up HXwr.out)
      have A0_3 : ∀ z : Ext wr, z.v.cell? ⟨x1.v.heap.size, 0, none⟩ = some (.int .i64 (A : Int)) := fun z => A0_2 (z.up HXwr.out)
      have A2_3 : ∀ z : Ext wr, z.v.cell? ⟨x1.v.heap.size, 2, none⟩ = some (.int .i64 (B : Int)) := fun z => A2_2 (z.up HXwr.out)
      have HW_3 : Hid (∀ z : Ext wr, Below w.heap.size w z.v) := fun z => HW_2.out (z.up HXwr.out)
      have HJ_3 : Hid (∀ z : Ext wr, BxIn z.v z.v.heap.size E p2 q2) := fun z => HJ_2.out (z.up HXwr.out)
      have O0_3 : ∀ z : Ext wr, z.v.cell? ⟨yw.v.heap.size, 0, none⟩ = some (.slice p2 D.n c2) := fun z => O0_2 (z.up HXwr.out)
      have O1_3 : ∀ z : Ext wr, z.v.cell? ⟨yw.v.heap.size, 1, none⟩ = some (.slice q2 D.m d2) := fun z => O1_2 (z.up HXwr.out)
      have Nga_3 : Hid (∀ z : Ext wr, NumIn z.v z.v.heap.size D.n (gv E F) ga) := fun z => Nga_2.out (z.up HXwr.out)
      clear HI_2 HBX_2 HAX_2 A0_2 A2_2 HW_2 HJ_2 O0_2 O1_2 Nga_2
      have Ngr_3 : Hid (∀ z : Ext wr, NumIn z.v z.v.heap.size D.n (RM E F) gr) := fun z => HNgr0.out.bel z.b
      rw [hzwr]; clear hzwr
      obtain ⟨ga0, gao, rfl, _, _⟩ := Nga_3.out zwr (by omega)
      obtain ⟨gr0, gro, rfl, _, _⟩ := Ngr_3.out zwr (by omega)
      have K1_3 : ∀ z : Ext wr, z.v.cell? ⟨ga0, gao + A, none⟩ = some (.int .i64 ga') := fun z => by have := ((Nga_3.out z).cell hA).2; rwa [HGA.out] at this
      have K2_3 : ∀ z : Ext wr, z.v.cell? ⟨ga0, gao + B, none⟩ = some (.int .i64 gb') := fun z => by have := ((Nga_3.out z).cell hBn).2; rwa [HGB.out] at this
      have K3_3 : ∀ z : Ext wr, z.v.cell? ⟨gr0, gro + A, none⟩ = some (.int .i64 ra) := fun z => by have := ((Ngr_3.out z).cell hA).2; rwa [HRA.out] at this
      have K4_3 : ∀ z : Ext wr, z.v.cell? ⟨gr0, gro + B, none⟩ = some (.int .i64 rb) := fun z => by have := ((Ngr_3.out z).cell hBn).2; rwa [HRB.out] at this
      go_wp2
      refine quiet_e (by kernel_rfl) (by kernel_rfl) ?_
      repeat (first | go_big_quiet_step ((first | (go_at_call 52; exact quiet_s (within1_any _ _ _ _)) | (go_at_call 16; exact quiet_x (works_ex _)))) | quiet_step ((first | (go_at_call 52; exact quiet_s (within1_any _ _ _ _)) | (go_at_call 16; exact quiet_x (works_ex _)))))
      refine wpQuiet_nil ?_
      intro w6 hw6
      obtain ⟨ye, rfl⟩ := hw6
      go_wp2
      go_ret
      exact ⟨rfl, HW_3.out ye⟩
    ·
      refine wpOp_plain rfl rfl ?_
      go_simp
      obtain ⟨yn, hyn⟩ : ∃ zz : Ext w2, ys.v.alloc (Obj.cells #[Value.slice none 0 0, Value.slice none 0 0] 24) = zz.v := ⟨⟨_, bA (Ext.b _) _⟩, rfl⟩
      have HNA := Lib.hid (NilAt.new ys.v 24)
      rw [hyn] at HNA
      have HAB : Hid (Below ys.v.heap.size ys.v yn.v) := by rw [← hyn]; exact bA (Below.refl _ _) _
      have HLE : Hid (w2.heap.size ≤ ys.v.heap.size) := ys.b.size
      rw [hyn]; clear hyn
      refine ⟨⟨_, rfl⟩, ?_⟩
      try simp only [Act.put, List.setIfInBounds_toArray, List.set_cons_zero, List.set_cons_succ]
      refine wpAnyG_one (i := 18) (by kernel_rfl) (by decide) (wpOp_plain rfl rfl ?_)
      go_simp
      go_at_call 54
      refine (HWID.out _ p' q' c' d' (HSI.out.bel HAB.out)).mono ?_
      rintro e w' ⟨p2, c2, q2, d2, rfl, hbw, hin⟩
      obtain ⟨yw, rfl⟩ : ∃ zz : Ext w2, w' = zz.v := ⟨⟨_, bT (Ext.b _) hbw⟩, rfl⟩
      have HBWW := Lib.hid hbw; have HWI := Lib.hid hin
      clear hbw hin
      refine ⟨⟨_, rfl⟩, ?_⟩
      try simp only [Act.put, List.setIfInBounds_toArray, List.set_cons_zero, List.set_cons_succ]
      have HNF := Lib.hid (HNA.out.bel HBWW.out)
      have HIF := Lib.hid (HWI.out)
      have N0 := HNF.out.c0; have N1 := HNF.out.c1; have NF := HNF.out.fz
      refine wpAnyG_done (by kernel_rfl) (by kernel_rfl) (wpOp_plain rfl rfl ?_)
      go_simp
      obtain ⟨w9, x9, hw9, hb9, hB9, hI9⟩ := nil_fill (c := c2) (d := d2) HNF.out HIF.out
      have HX9 : Hid (Below w2.heap.size w2 w9) := yw.b.trans (hb9.mono HLE.out)
      have HBX9 := Lib.hid hB9; have HI9_0 := Lib.hid hI9
      clear hb9 hB9 hI9 N0 N1 NF
      clear F0_0
      clear F1_0
      clear S1_0
      clear S3_0
      have HI_1 : Hid (∀ z : Ext w9, BxIn z.v z.v.heap.size D (some ⟨b1, of1, none⟩) (some ⟨b2, of2, none⟩)) := fun z => HI_0.out (z.up HX9.out)
      have HBX_1 : Hid (∀ z : Ext w9, BoxAt z.v w.heap.size D (some ⟨b1, of1, none⟩) (some ⟨b2, of2, none⟩) c d) := fun z => HBX_0.out (z.up HX9.out)
      have HAX_1 : Hid (∀ z : Ext w9, AskAt z.v x1.v.heap.size (A : Int) a2 (B : Int) a4) := fun z => HAX_0.out (z.up HX9.out)
      have A0_1 : ∀ z : Ext w9, z.v.cell? ⟨x1.v.heap.size, 0, none⟩ = some (.int .i64 (A : Int)) := fun z => A0_0 (z.up HX9.out)
      have A2_1 : ∀ z : Ext w9, z.v.cell? ⟨x1.v.heap.size, 2, none⟩ = some (.int .i64 (B : Int)) := fun z => A2_0 (z.up HX9.out)
      have HW_1 : Hid (∀ z : Ext w9, Below w.heap.size w z.v) := fun z => HW_0.out (z.up HX9.out)
      clear HI_0 HBX_0 HAX_0 A0_0 A2_0 HW_0
      have O0_1 : ∀ z : Ext w9, z.v.cell? ⟨ys.v.heap.size, 0, none⟩ = some (.slice p2 D.n c2) := fun z => by have := (HBX9.out z).c0; rwa [HEN.out] at this
      have O1_1 : ∀ z : Ext w9, z.v.cell? ⟨ys.v.heap.size, 1, none⟩ = some (.slice q2 D.m d2) := fun z => by have := (HBX9.out z).c1; rwa [HEM.out] at this
      rw [hw9]; clear hw9
      go_wp2_with fail
      refine (HGG.out _ p2 q2 c2 d2 (HI9_0.out _)).mono ?_
      rintro e wa ⟨ga, gac, rfl, hcga⟩
      have HXwa := Lib.hid (bT x9.b hcga.below); have HNga0 := Lib.hid hcga.num
      obtain ⟨zwa, hzwa⟩ := rebase wa
      clear hcga
      have HI_2 : Hid (∀ z : Ext wa, BxIn z.v z.v.heap.size D (some ⟨b1, of1, none⟩) (some ⟨b2, of2, none⟩)) := fun z => HI_1.out (z.up HXwa.out)
      have HBX_2 : Hid (∀ z : Ext wa, BoxAt z.v w.heap.size D (some ⟨b1, of1, none⟩) (some ⟨b2, of2, none⟩) c d) := fun z => HBX_1.out (z.up HXwa.out)
      have HAX_2 : Hid (∀ z : Ext wa, AskAt z.v x1.v.heap.size (A : Int) a2 (B : Int) a4) := fun z => HAX_1.out (z.up HXwa.out)
      have A0_2 : ∀ z : Ext wa, z.v.cell? ⟨x1.v.heap.size, 0, none⟩ = some (.int .i64 (A : Int)) := fun z => A0_1 (z.up HXwa.out)
      have A2_2 : ∀ z : Ext wa, z.v.cell? ⟨x1.v.heap.size, 2, none⟩ = some (.int .i64 (B : Int)) := fun z => A2_1 (z.up HXwa.out)
      have HW_2 : Hid (∀ z : Ext wa, Below w.heap.size w z.v) := fun z => HW_1.out (z.up HXwa.out)
      have HJ_2 : Hid (∀ z : Ext wa, BxIn z.v z.v.heap.size E p2 q2) := fun z => HI9_0.out (z.up HXwa.out)
      have O0_2 : ∀ z : Ext wa, z.v.cell? ⟨ys.v.heap.size, 0, none⟩ = some (.slice p2 D.n c2) := fun z => O0_1 (z.up HXwa.out)
      have O1_2 : ∀ z : Ext wa, z.v.cell? ⟨ys.v.heap.size, 1, none⟩ = some (.slice q2 D.m d2) := fun z => O1_1 (z.up HXwa.out)
      clear HI_1 HBX_1 HAX_1 A0_1 A2_1 HW_1 HI9_0 O0_1 O1_1
      have Nga_2 : Hid (∀ z : Ext wa, NumIn z.v z.v.heap.size D.n (gv E F) ga) := fun z => HNga0.out.bel z.b
      rw [hzwa]; clear hzwa
      go_wp2_with fail
      refine (HRM.out _ p2 q2 c2 d2 (HJ_2.out _)).mono ?_
      rintro e wr ⟨gr, grc, rfl, hcgr⟩
      have HXwr := Lib.hid (bT zwa.b hcgr.below); have HNgr0 := Lib.hid hcgr.num
      obtain ⟨zwr, hzwr⟩ := rebase wr
      clear hcgr
      have HI_3 : Hid (∀ z : Ext wr, BxIn z.v z.v.heap.size D (some ⟨b1, of1, none⟩) (some ⟨b2, of2, none⟩)) := fun z => HI_2.out (z.up HXwr.out)
      have HBX_3 : Hid (∀ z : Ext wr, BoxAt z.v w.heap.size D (some ⟨b1, of1, none⟩) (some ⟨b2, of2, none⟩) c d) := fun z => HBX_2.out (z.up HXwr.out)
      have HAX_3 : Hid (∀ z : Ext wr, AskAt z.v x1.v.heap.size (A : Int) a2 (B : Int) a4) := fun z => HAX_2.out (z.up HXwr.out)
      have A0_3 : ∀ z : Ext wr, z.v.cell? ⟨x1.v.heap.size, 0, none⟩ = some (.int .i64 (A : Int)) := fun z => A0_2 (z.up HXwr.out)
      have A2_3 : ∀ z : Ext wr, z.v.cell? ⟨x1.v.heap.size, 2, none⟩ = some (.int .i64 (B : Int)) := fun z => A2_2 (z.up HXwr.out)
      have HW_3 : Hid (∀ z : Ext wr, Below w.heap.size w z.v) := fun z => HW_2.out (z.up HXwr.out)
      have HJ_3 : Hid (∀ z : Ext wr, BxIn z.v z.v.heap.size E p2 q2) := fun z => HJ_2.out (z.up HXwr.out)
      have O0_3 : ∀ z : Ext wr, z.v.cell? ⟨ys.v.heap.size, 0, none⟩ = some (.slice p2 D.n c2) := fun z => O0_2 (z.up HXwr.out)
      have O1_3 : ∀ z : Ext wr, z.v.cell? ⟨ys.v.heap.size, 1, none⟩ = some (.slice q2 D.m d2) := fun z => O1_2 (z.up HXwr.out)
      have Nga_3 : Hid (∀ z : Ext wr, NumIn z.v z.v.heap.size D.n (gv E F) ga) := fun z => Nga_2.out (z.up HXwr.out)
      clear HI_2 HBX_2 HAX_2 A0_2 A2_2 HW_2 HJ_2 O0_2 O1_2 Nga_2
      have Ngr_3 : Hid (∀ z : Ext wr, NumIn z.v z.v.heap.size D.n (RM E F) gr) := fun z => HNgr0.out.bel z.b
      rw [hzwr]; clear hzwr
      obtain ⟨ga0, gao, rfl, _, _⟩ := Nga_3.out zwr (by omega)
      obtain ⟨gr0, gro, rfl, _, _⟩ := Ngr_3.out zwr (by omega)
      have K1_3 : ∀ z : Ext wr, z.v.cell? ⟨ga0, gao + A, none⟩ = some (.int .i64 ga') := fun z => by have := ((Nga_3.out z).cell hA).2; rwa [HGA.out] at this
      have K2_3 : ∀ z : Ext wr, z.v.cell? ⟨ga0, gao + B, none⟩ = some (.int .i64 gb') := fun z => by have := ((Nga_3.out z).cell hBn).2; rwa [HGB.out] at this
      have K3_3 : ∀ z : Ext wr, z.v.cell? ⟨gr0, gro + A, none⟩ = some (.int .i64 ra) := fun z => by have := ((Ngr_3.out z).cell hA).2; rwa [HRA.out] at this
      have K4_3 : ∀ z : Ext wr, z.v.cell? ⟨gr0, gro + B, none⟩ = some (.int .i64 rb) := fun z => by have := ((Ngr_3.out z).cell hBn).2; rwa [HRB.out] at this
      go_wp2
      refine quiet_e (by kernel_rfl) (by kernel_rfl) ?_
      repeat (first | go_big_quiet_step ((first | (go_at_call 52; exact quiet_s (within1_any _ _ _ _)) | (go_at_call 16; exact quiet_x (works_ex _)))) | quiet_step ((first | (go_at_call 52; exact quiet_s (within1_any _ _ _ _)) | (go_at_call 16; exact quiet_x (works_ex _)))))
      refine wpQuiet_nil ?_
      intro w6 hw6
      obtain ⟨ye, rfl⟩ := hw6
      go_wp2
      go_ret
      exact ⟨rfl, HW_3.out ye⟩
  ·
    refine wpOp_plain rfl rfl ?_
    go_simp
    obtain ⟨yn, hyn⟩ : ∃ zz : Ext w2, yr.v.alloc (Obj.cells #[Value.slice none 0 0, Value.slice none 0 0] 24) = zz.v := ⟨⟨_, bA (Ext.b _) _⟩, rfl⟩
    have HNA := Lib.hid (NilAt.new yr.v 24)
    rw [hyn] at HNA
    have HAB : Hid (Below yr.v.heap.size yr.v yn.v) := by rw [← hyn]; exact bA (Below.refl _ _) _
    have HLE : Hid (w2.heap.size ≤ yr.v.heap.size) := yr.b.size
    rw [hyn]; clear hyn
    refine ⟨⟨_, rfl⟩, ?_⟩
    try simp only [Act.put, List.setIfInBounds_toArray, List.set_cons_zero, List.set_cons_succ]
    refine wpAnyG_one (i := 9) (by kernel_rfl) (by decide) (wpOp_plain rfl rfl ?_)
    go_simp
    go_at_call 53
    refine (shared_any D (some ⟨b1, of1, none⟩) (some ⟨b2, of2, none⟩) c d B (D.sh A) _ n4 HMN.out hBn (HI_0.out _)).mono ?_
    rintro e w' ⟨p', c', q', d', rfl, hbs, hin⟩
    obtain ⟨ys, rfl⟩ : ∃ zz : Ext w2, w' = zz.v := ⟨⟨_, bT (Ext.b _) hbs⟩, rfl⟩
    have HBS := Lib.hid hbs; have HSI := Lib.hid hin
    clear hbs hin
    refine ⟨⟨_, rfl⟩, ?_⟩
    try simp only [Act.put, List.setIfInBounds_toArray, List.set_cons_zero, List.set_cons_succ]
    refine wpAnyG_one (i := 18) (by kernel_rfl) (by decide) (wpOp_plain rfl rfl ?_)
    go_simp
    go_at_call 54
    refine (HWID.out _ p' q' c' d' (HSI.out)).mono ?_
    rintro e w' ⟨p2, c2, q2, d2, rfl, hbw, hin⟩
    obtain ⟨yw, rfl⟩ : ∃ zz : Ext w2, w' = zz.v := ⟨⟨_, bT (Ext.b _) hbw⟩, rfl⟩
    have HBWW := Lib.hid hbw; have HWI := Lib.hid hin
    clear hbw hin
    refine ⟨⟨_, rfl⟩, ?_⟩
    try simp only [Act.put, List.setIfInBounds_toArray, List.set_cons_zero, List.set_cons_succ]
    have HNF := Lib.hid ((HNA.out.bel HBS.out).bel HBWW.out)
    have HIF := Lib.hid (HWI.out)
    have N0 := HNF.out.c0; have N1 := HNF.out.c1; have NF := HNF.out.fz
    refine wpAnyG_done (by kernel_rfl) (by kernel_rfl) (wpOp_plain rfl rfl ?_)
    go_simp
    obtain ⟨w9, x9, hw9, hb9, hB9, hI9⟩ := nil_fill (c := c2) (d := d2) HNF.out HIF.out
    have HX9 : Hid (Below w2.heap.size w2 w9) := yw.b.trans (hb9.mono HLE.out)
    have HBX9 := Lib.hid hB9; have HI9_0 := Lib.hid hI9
    clear hb9 hB9 hI9 N0 N1 NF
    clear F0_0
    clear F1_0
    clear S1_0
    clear S3_0
    have HI_1 : Hid (∀ z : Ext w9, BxIn z.v z.v.heap.size D (some ⟨b1, of1, none⟩) (some ⟨b2, of2, none⟩)) := fun z => HI_0.out (z.up HX9.out)
    have HBX_1 : Hid (∀ z : Ext w9, BoxAt z.v w.heap.size D (some ⟨b1, of1, none⟩) (some ⟨b2, of2, none⟩) c d) := fun z => HBX_0.out (z.up HX9.out)
    have HAX_1 : Hid (∀ z : Ext w9, AskAt z.v x1.v.heap.size (A : Int) a2 (B : Int) a4) := fun z => HAX_0.out (z.up HX9.out)
    have A0_1 : ∀ z : Ext w9, z.v.cell? ⟨x1.v.heap.size, 0, none⟩ = some (.int .i64 (A : Int)) := fun z => A0_0 (z.up HX9.out)
    have A2_1 : ∀ z : Ext w9, z.v.cell? ⟨x1.v.heap.size, 2, none⟩ = some (.int .i64 (B : Int)) := fun z => A2_0 (z.up HX9.out)
    have HW_1 : Hid (∀ z : Ext w9, Below w.heap.size w z.v) := fun z => HW_0.out (z.up HX9.out)
    clear HI_0 HBX_0 HAX_0 A0_0 A2_0 HW_0
    have O0_1 : ∀ z : Ext w9, z.v.cell? ⟨yr.v.heap.size, 0, none⟩ = some (.slice p2 D.n c2) := fun z => by have := (HBX9.out z).c0; rwa [HEN.out] at this
    have O1_1 : ∀ z : Ext w9, z.v.cell? ⟨yr.v.heap.size, 1, none⟩ = some (.slice q2 D.m d2) := fun z => by have := (HBX9.out z).c1; rwa [HEM.out] at this
    rw [hw9]; clear hw9
    go_wp2_with fail
    refine (HGG.out _ p2 q2 c2 d2 (HI9_0.out _)).mono ?_
    rintro e wa ⟨ga, gac, rfl, hcga⟩
    have HXwa := Lib.hid (bT x9.b hcga.below); have HNga0 := Lib.hid hcga.num
    obtain ⟨zwa, hzwa⟩ := rebase wa
    clear hcga
    have HI_2 : Hid (∀ z : Ext wa, BxIn z.v z.v.heap.size D (some ⟨b1, of1, none⟩) (some ⟨b2, of2, none⟩)) := fun z => HI_1.out (z.up HXwa.out)
    have HBX_2 : Hid (∀ z : Ext wa, BoxAt z.v w.heap.size D (some ⟨b1, of1, none⟩) (some ⟨b2, of2, none⟩) c d) := fun z => HBX_1.out (z.up HXwa.out)
    have HAX_2 : Hid (∀ z : Ext wa, AskAt z.v x1.v.heap.size (A : Int) a2 (B : Int) a4) := fun z => HAX_1.out (z.up HXwa.out)
    have A0_2 : ∀ z : Ext wa, z.v.cell? ⟨x1.v.heap.size, 0, none⟩ = some (.int .i64 (A : Int)) := fun z => A0_1 (z.up HXwa.out)
    have A2_2 : ∀ z : Ext wa, z.v.cell? ⟨x1.v.heap.size, 2, none⟩ = some (.int .i64 (B : Int)) := fun z => A2_1 (z.up HXwa.out)
    have HW_2 : Hid (∀ z : Ext wa, Below w.heap.size w z.v) := fun z => HW_1.out (z.up HXwa.out)
    have HJ_2 : Hid (∀ z : Ext wa, BxIn z.v z.v.heap.size E p2 q2) := fun z => HI9_0.out (z.up HXwa.out)
    have O0_2 : ∀ z : Ext wa, z.v.cell? ⟨yr.v.heap.size, 0, none⟩ = some (.slice p2 D.n c2) := fun z => O0_1 (z.up HXwa.out)
    have O1_2 : ∀ z : Ext wa, z.v.cell? ⟨yr.v.heap.size, 1, none⟩ = some (.slice q2 D.m d2) := fun z => O1_1 (z.up HXwa.out)
    clear HI_1 HBX_1 HAX_1 A0_1 A2_1 HW_1 HI9_0 O0_1 O1_1
    have Nga_2 : Hid (∀ z : Ext wa, NumIn z.v z.v.heap.size D.n (gv E F) ga) := fun z => HNga0.out.bel z.b
    rw [hzwa]; clear hzwa
    go_wp2_with fail
    refine (HRM.out _ p2 q2 c2 d2 (HJ_2.out _)).mono ?_
    rintro e wr ⟨gr, grc, rfl, hcgr⟩
    have HXwr := Lib.hid (bT zwa.b hcgr.below); have HNgr0 := Lib.hid hcgr.num
    obtain ⟨zwr, hzwr⟩ := rebase wr
    clear hcgr
    have HI_3 : Hid (∀ z : Ext wr, BxIn z.v z.v.heap.size D (some ⟨b1, of1, none⟩) (some ⟨b2, of2, none⟩)) := fun z => HI_2.out (z.up HXwr.out)
    have HBX_3 : Hid (∀ z : Ext wr, BoxAt z.v w.heap.size D (some ⟨b1, of1, none⟩) (some ⟨b2, of2, none⟩) c d) := fun z => HBX_2.out (z.up HXwr.out)
    have HAX_3 : Hid (∀ z : Ext wr, AskAt z.v x1.v.heap.size (A : Int) a2 (B : Int) a4) := fun z => HAX_2.out (z.up HXwr.out)
    have A0_3 : ∀ z : Ext wr, z.v.cell? ⟨x1.v.heap.size, 0, none⟩ = some (.int .i64 (A : Int)) := fun z => A0_2 (z.up HXwr.out)
    have A2_3 : ∀ z : Ext wr, z.v.cell? ⟨x1.v.heap.size, 2, none⟩ = some (.int .i64 (B : Int)) := fun z => A2_2 (z.up HXwr.out)
    have HW_3 : Hid (∀ z : Ext wr, Below w.heap.size w z.v) := fun z => HW_2.out (z.up HXwr.out)
    have HJ_3 : Hid (∀ z : Ext wr, BxIn z.v z.v.heap.size E p2 q2) := fun z => HJ_2.out (z.up HXwr.out)
    have O0_3 : ∀ z : Ext wr, z.v.cell? ⟨yr.v.heap.size, 0, none⟩ = some (.slice p2 D.n c2) := fun z => O0_2 (z.up HXwr.out)
    have O1_3 : ∀ z : Ext wr, z.v.cell? ⟨yr.v.heap.size, 1, none⟩ = some (.slice q2 D.m d2) := fun z => O1_2 (z.up HXwr.out)
    have Nga_3 : Hid (∀ z : Ext wr, NumIn z.v z.v.heap.size D.n (gv E F) ga) := fun z => Nga_2.out (z.up HXwr.out)
    clear HI_2 HBX_2 HAX_2 A0_2 A2_2 HW_2 HJ_2 O0_2 O1_2 Nga_2
    have Ngr_3 : Hid (∀ z : Ext wr, NumIn z.v z.v.heap.size D.n (RM E F) gr) := fun z => HNgr0.out.bel z.b
    rw [hzwr]; clear hzwr
    obtain ⟨ga0, gao, rfl, _, _⟩ := Nga_3.out zwr (by omega)
    obtain ⟨gr0, gro, rfl, _, _⟩ := Ngr_3.out zwr (by omega)
    have K1_3 : ∀ z : Ext wr, z.v.cell? ⟨ga0, gao + A, none⟩ = some (.int .i64 ga') := fun z => by have := ((Nga_3.out z).cell hA).2; rwa [HGA.out] at this
    have K2_3 : ∀ z : Ext wr, z.v.cell? ⟨ga0, gao + B, none⟩ = some (.int .i64 gb') := fun z => by have := ((Nga_3.out z).cell hBn).2; rwa [HGB.out] at this
    have K3_3 : ∀ z : Ext wr, z.v.cell? ⟨gr0, gro + A, none⟩ = some (.int .i64 ra) := fun z => by have := ((Ngr_3.out z).cell hA).2; rwa [HRA.out] at this
    have K4_3 : ∀ z : Ext wr, z.v.cell? ⟨gr0, gro + B, none⟩ = some (.int .i64 rb) := fun z => by have := ((Ngr_3.out z).cell hBn).2; rwa [HRB.out] at this
    go_wp2
    refine quiet_e (by kernel_rfl) (by kernel_rfl) ?_
    repeat (first | go_big_quiet_step ((first | (go_at_call 52; exact quiet_s (within1_any _ _ _ _)) | (go_at_call 16; exact quiet_x (works_ex _)))) | quiet_step ((first | (go_at_call 52; exact quiet_s (within1_any _ _ _ _)) | (go_at_call 16; exact quiet_x (works_ex _)))))
    refine wpQuiet_nil ?_
    intro w6 hw6
    obtain ⟨ye, rfl⟩ := hw6
    go_wp2
    go_ret
    exact ⟨rfl, HW_3.out ye⟩
theorem alike_law (D : Bx) (p q : Option Addr) (c d : Nat) (fl a1 a2 a3 a4 : Int) (w : World) (hn : D.n ≤ maxLen) (hm : D.m ≤ maxLen) (hi : BxIn w w.heap.size D p q) :
    Calls Try.prog 13 #[.agg #[.slice p D.n c, .slice q D.m d], .int .i64 fl, .agg #[.int .i64 a1, .int .i64 a2, .int .i64 a3, .int .i64 a4]] w fun e w' => e = .returned (.bool true) ∧ Below w.heap.size w w' := by
  cases hr : rdy D fl with
  | false => exact alike_out1 D p q c d fl a1 a2 a3 a4 w hn hm hi hr
  | true =>
  cases hq : isQ D a1 with
  | false => exact alike_out2 D p q c d fl a1 a2 a3 a4 w hn hm hi hr hq
  | true =>
  cases hq2 : isQ D a3 with
  | false => exact alike_out3 D p q c d fl a1 a2 a3 a4 w hn hm hi hr hq hq2
  | true =>
  by_cases hge : a3 ≤ a1
  · exact alike_out4 D p q c d fl a1 a2 a3 a4 w hn hm hi hr hq hq2 hge
  obtain ⟨_, _, hok, F, rfl, hF⟩ := rdy_parts hr
  obtain ⟨A, rfl, hA⟩ := isQ_nat hq
  obtain ⟨B, rfl, hB⟩ := isQ_nat hq2
  exact alike_in D p q c d F A B a2 a4 w hi hr hq hq2 hok hF hA hB (by omega)
end Go.Proofs.Ythbicbmlbblflaa
