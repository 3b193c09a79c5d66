/- Lines of an aqueduct: what is lost from a point to a later one, in the specification's words. -/
import Derived.Test.YtkdlppekjjbgoaaS3

set_option linter.unusedSimpArgs false

set_option linter.unusedVariables false

namespace Go.Proofs.Ytkdlppekjjbgoaa

open Go.RowKit

theorem loss_vals {D : Duct} {i j : Nat} {v f0 f1 A B : Int} (ho : D.one = true) (hij : i ≤ j) (hj : j < D.n) (hv : fl D i ≤ v ∧ v ≤ fh D i) (h0 : fl (nar D i v v) j = f0) (h1 : fh (nar D i v v) j = f1) (hA : v - f1 = A) (hB : v - f0 = B) :
    (v = fl D i → A = lsL D i j) ∧ (B = if i = j then 0 else v - fl D j) ∧ lsL D i j ≤ A ∧ ∀ o1 : Int, o1 = (if i = j then 0 else v - 1 - fl D j) → (if o1 < B then B else o1) = B := by
  rcases Nat.eq_or_lt_of_le hij with rfl | hlt
  · rw [set_fl_self hj hv.1] at h0
    rw [set_fh_self hv.2] at h1
    have hl : lsL D i i = 0 := if_pos rfl
    refine ⟨fun _ => by omega, by rw [if_pos rfl]; omega, by omega, fun o1 e => ?_⟩
    rw [if_pos rfl] at e
    split <;> omega
  · rw [set_fl hlt hj] at h0
    rw [set_fh hlt (Int.le_trans hv.2 fh_le)] at h1
    have hne : ¬ i = j := by omega
    have hl : lsL D i j = max 0 (fl D i - fh D j) := if_neg hne
    refine ⟨fun e => by omega, by rw [if_neg hne]; omega, by omega, fun o1 e => ?_⟩
    rw [if_neg hne] at e
    split <;> omega
set_option maxRecDepth 100000 in
set_option maxHeartbeats 8000000 in
theorem lossOf_any (D : Duct) (p q : Option Addr) (c d : Nat) (i j : Nat) (w : World) (hn : D.n ≤ 40) (hm : D.m ≤ 40) (hij : i ≤ j) (hj : j < D.n) (hok : D.ok = true) (hone : D.one = true) (hi : DuctIn w w.heap.size D p q) :
    Calls Try.prog 75 #[.agg #[.slice p D.n c, .slice q D.m d], .int .i64 i, .int .i64 j] w fun e w' => e = .returned (.agg #[.int .i64 (lsL D i j), .int .i64 (lsH D i j)]) ∧ Below w.heap.size w w' := by
  obtain ⟨pb, po, rfl, _, _⟩ := hi.pt (by omega)
  obtain ⟨w1, x1, e1, hb1, hl1⟩ := mk_line w (some ⟨pb, po, none⟩) q D.n D.m c d
  obtain ⟨w2, x2, e2, b2, t2⟩ := mk_two' x1.v 34 0 0
  obtain ⟨w3, x3, e3, b3, t3⟩ := mk_two' x2.v 34 0 0
  have hb12 := bT x1.b b2
  have HRB : Hid (w.heap.size ≤ x1.v.heap.size) := Nat.le_trans hb1.size x1.b.size
  have HOB : Hid (w2.heap.size ≤ x2.v.heap.size) := x2.b.size
  have HB2 := Lib.hid (bT hb1 hb12)
  have HL := Lib.hid (hl1.bel hb12)
  have HI := Lib.hid ((hi.bel hb1).bel hb12)
  have HR := Lib.hid t2
  have HO3 := Lib.hid t3
  have HBB := Lib.hid (bT x2.b b3)
  have HKI : Hid (i < D.n) := by show _ < _; omega
  have HKJ := Lib.hid hj; have HIJ := Lib.hid hij
  have HON := Lib.hid hone; have HOK := Lib.hid hok
  have HF := Lib.hid (fl_fh hone HKI.out)
  have HBD : Hid ((0 ≤ fl D i ∧ fl D i ≤ 99) ∧ 0 ≤ fh D i ∧ fh D i ≤ 99) := ⟨fl_bd hok HKI.out, fh_bd hok HKI.out⟩
  have HFI := Lib.hid (fun (V : World) (h : DuctIn V V.heap.size D (some ⟨pb, po, none⟩) q) => flowOf_any D (some ⟨pb, po, none⟩) q c d i V hn hm HKI.out HOK.out HON.out h)
  have L0 : ∀ z : Ext w3, z.v.cell? ⟨w.heap.size, 0, none⟩ = some (.slice (some ⟨pb, po, none⟩) D.n c) := fun z => (HL.out.bel (bT HBB.out z.b)).c0
  have L1 : ∀ z : Ext w3, z.v.cell? ⟨w.heap.size, 1, none⟩ = some (.slice q D.m d) := fun z => (HL.out.bel (bT HBB.out z.b)).c1
  clear hb1 hl1 b2 t2 b3 t3 hb12 hi hj hij hone hok
  go_enter Try.func75, Try.ntmps75
  go_wp2_with fail
  refine (quiet_x (HFI.out _ (HI.out.bel (bT HBB.out (Ext.b _))))).mono ?_
  rintro e w' ⟨rfl, y, rfl⟩
  obtain ⟨w4, x4, e4, b4, z4, t4⟩ := mk_two y 34 (fl D i) (fh D i)
  have HB4 := Lib.hid b4; have HS4 := Lib.hid t4
  have HNE : Hid (x2.v.heap.size ≠ y.v.heap.size) := by have := HO3.out.lt; have := y.b.size; show _ ≠ _; omega
  clear b4 z4 t4 L0 L1
  have S0 : ∀ z : Ext w4, z.v.cell? ⟨y.v.heap.size, 0, none⟩ = some (.int .i64 (fl D i)) := fun z => (HS4.out.bel z.b).c0
  go_wp2
  clear S0 e1 e2 e3 e4
  go_loopw [9] (fun iv wr => ∃ v : Int, iv = .int .i64 v ∧ fl D i ≤ v ∧ v ≤ fh D i + 1 ∧ (∃ o0 o1, TwoBox wr x2.v.heap.size o0 o1 ∧ (fl D i < v → o0 = lsL D i j ∧ o1 = (if i = j then 0 else v - 1 - fl D j))) ∧ TwoBox wr y.v.heap.size (fl D i) (fh D i) ∧ Below w2.heap.size w2 wr) (fun iv _ => (fh D i + 1 - intOf iv).toNat)
  case atStart => exact ⟨fl D i, rfl, Int.le_refl _, by have := HF.out; omega, ⟨0, 0, (HO3.out.bel HB4.out).bel x4.b, fun h => absurd h (Int.lt_irrefl _)⟩, HS4.out.bel x4.b, bT (bT HBB.out HB4.out) x4.b⟩
  case round =>
    clear HBB
    obtain ⟨v, rfl, hv1, hv2, ⟨o0, o1, ho, hoe⟩, hs, hbb⟩ := hrel
    have HO := Lib.hid ho; have HOE := Lib.hid hoe; have HS := Lib.hid hs; have HBB := Lib.hid hbb
    clear ho hoe hs hbb
    obtain ⟨z0, hz0⟩ := rebase wr
    rw [hz0]; clear hz0
    by_cases hv : v ≤ fh D i
    · have L0 : ∀ z : Ext wr, z.v.cell? ⟨w.heap.size, 0, none⟩ = some (.slice (some ⟨pb, po, none⟩) D.n c) := fun z => (HL.out.bel (bT HBB.out z.b)).c0
      have L1 : ∀ z : Ext wr, z.v.cell? ⟨w.heap.size, 1, none⟩ = some (.slice q D.m d) := fun z => (HL.out.bel (bT HBB.out z.b)).c1
      have O0 : ∀ z : Ext wr, z.v.cell? ⟨x2.v.heap.size, 0, none⟩ = some (.int .i64 o0) := fun z => (HO.out.bel z.b).c0
      have O1 : ∀ z : Ext wr, z.v.cell? ⟨x2.v.heap.size, 1, none⟩ = some (.int .i64 o1) := fun z => (HO.out.bel z.b).c1
      have Of : ∀ (z : Ext wr) i, z.v.frozen? ⟨x2.v.heap.size, i, none⟩ = false := fun z => (HO.out.bel z.b).fz
      have S0 : ∀ z : Ext wr, z.v.cell? ⟨y.v.heap.size, 0, none⟩ = some (.int .i64 (fl D i)) := fun z => (HS.out.bel z.b).c0
      have S1 : ∀ z : Ext wr, z.v.cell? ⟨y.v.heap.size, 1, none⟩ = some (.int .i64 (fh D i)) := fun z => (HS.out.bel z.b).c1
      have Sf : ∀ (z : Ext wr) i, z.v.frozen? ⟨y.v.heap.size, i, none⟩ = false := fun z => (HS.out.bel z.b).fz
      obtain ⟨f0, hf0⟩ : ∃ e, fl (nar D i v v) j = e := ⟨_, rfl⟩
      obtain ⟨f1, hf1⟩ : ∃ e, fh (nar D i v v) j = e := ⟨_, rfl⟩
      obtain ⟨A, hA⟩ : ∃ e, v - f1 = e := ⟨_, rfl⟩
      obtain ⟨B, hB⟩ : ∃ e, v - f0 = e := ⟨_, rfl⟩
      have hcan := nar_can HON.out HKI.out (show fl D i ≤ v ∧ v ≤ fh D i from ⟨hv1, hv⟩)
      have hokN := nar_ok HOK.out HKI.out hcan.2
      have hvals := loss_vals HON.out HIJ.out HKJ.out ⟨hv1, hv⟩ hf0 hf1 hA hB
      have hbF := HBD.out
      have hf0b := fl_bd hokN (k := j) HKJ.out
      have hf1b := fh_bd hokN (k := j) HKJ.out
      rw [hf0] at hf0b; rw [hf1] at hf1b
      have HFL := Lib.hid (show ∀ (V : World) (P Q : Option Addr) (cc dd : Nat), DuctIn V V.heap.size (nar D i v v) P Q → Calls Try.prog 74 #[.agg #[.slice P D.n cc, .slice Q D.m dd], .int .i64 j] V fun e w' => e = .returned (.agg #[.int .i64 f0, .int .i64 f1]) ∧ Below V.heap.size V w' from fun V P Q cc dd h => by
        have := flowOf_any (nar D i v v) P Q cc dd j V hn hm HKJ.out hokN hcan.1 h
        rw [hf0, hf1] at this
        exact this)
      have w1' : IntKind.i64.wrap (v - f1) = A := by rw [hA]; exact IntWalk.i64_in _ (by omega)
      have w2' : IntKind.i64.wrap (v - f0) = B := by rw [hB]; exact IntWalk.i64_in _ (by omega)
      have w3' : IntKind.i64.wrap A = A := IntWalk.i64_in _ (by omega)
      have w4' : IntKind.i64.wrap B = B := IntWalk.i64_in _ (by omega)
      have w5' : IntKind.i64.wrap (v + 1) = v + 1 := IntWalk.i64_in _ (by omega)
      have HV := Lib.hid hvals
      have HVB : Hid (fl D i ≤ v ∧ v ≤ fh D i) := ⟨hv1, hv⟩
      have d1 : decide (v ≤ fh D i) = true := by simpa using hv
      clear hf0 hf1 hcan hokN hvals hbF hf0b hf1b hv hv1
      go_wp2_with fail
      refine (set_any D (some ⟨pb, po, none⟩) q c d i v _ hn hm HKI.out (HI.out.bel (bT HBB.out (Ext.b _)))).mono ?_
      rintro e w' ⟨p', c', q', d', rfl, hb, hn'⟩
      obtain ⟨y5, rfl⟩ : ∃ z : Ext wr, w' = z.v := ⟨⟨w', bT (Ext.b _) hb⟩, rfl⟩
      have HN := Lib.hid hn'
      clear hb hn'
      go_wp2_with fail
      refine (quiet_x (HFL.out _ p' q' c' d' HN.out)).mono ?_
      rintro e w' ⟨rfl, y6, rfl⟩
      obtain ⟨w10, x10, e10, b10, z10, t10⟩ := mk_two y6 34 f0 f1
      have HB10 := Lib.hid b10; have HT := Lib.hid t10
      clear b10 z10 t10
      have HO10 := Lib.hid (HO.out.bel HB10.out); have HS10 := Lib.hid (HS.out.bel HB10.out)
      have HBW := Lib.hid (bT HBB.out HB10.out)
      clear L0 L1 O0 O1 Of S0 S1 Sf
      have O0 : ∀ z : Ext w10, z.v.cell? ⟨x2.v.heap.size, 0, none⟩ = some (.int .i64 o0) := fun z => (HO10.out.bel z.b).c0
      have O1 : ∀ z : Ext w10, z.v.cell? ⟨x2.v.heap.size, 1, none⟩ = some (.int .i64 o1) := fun z => (HO10.out.bel z.b).c1
      have Of : ∀ (z : Ext w10) i, z.v.frozen? ⟨x2.v.heap.size, i, none⟩ = false := fun z => (HO10.out.bel z.b).fz
      have S0 : ∀ z : Ext w10, z.v.cell? ⟨y.v.heap.size, 0, none⟩ = some (.int .i64 (fl D i)) := fun z => (HS10.out.bel z.b).c0
      have S1 : ∀ z : Ext w10, z.v.cell? ⟨y.v.heap.size, 1, none⟩ = some (.int .i64 (fh D i)) := fun z => (HS10.out.bel z.b).c1
      have Sf : ∀ (z : Ext w10) i, z.v.frozen? ⟨y.v.heap.size, i, none⟩ = false := fun z => (HS10.out.bel z.b).fz
      have T0 : ∀ z : Ext w10, z.v.cell? ⟨y6.v.heap.size, 0, none⟩ = some (.int .i64 f0) := fun z => (HT.out.bel z.b).c0
      have T1 : ∀ z : Ext w10, z.v.cell? ⟨y6.v.heap.size, 1, none⟩ = some (.int .i64 f1) := fun z => (HT.out.bel z.b).c1
      have Tf : ∀ (z : Ext w10) i, z.v.frozen? ⟨y6.v.heap.size, i, none⟩ = false := fun z => (HT.out.bel z.b).fz
      by_cases hvf : v = fl D i
      · have d2 : (v == fl D i) = true := by simpa using hvf
        obtain ⟨w11, x11, e11, hw11⟩ : ∃ (w' : World) (x' : Ext w'), (x10.v.setCell ⟨x2.v.heap.size, 0, none⟩ (.int .i64 A)).setCell ⟨x2.v.heap.size, 1, none⟩ (.int .i64 B) = x'.v ∧ w' = (x10.v.setCell ⟨x2.v.heap.size, 0, none⟩ (.int .i64 A)).setCell ⟨x2.v.heap.size, 1, none⟩ (.int .i64 B) := ⟨_, ⟨_, Below.refl _ _⟩, rfl, rfl⟩
        have HBX : Hid (Below w2.heap.size w2 w11) := by rw [hw11]; exact bS (bS (bT HBW.out x10.b) HOB.out _) HOB.out _
        have HO11 : Hid (TwoBox w11 x2.v.heap.size A B) := by rw [hw11]; exact (HO10.out.bel x10.b).set _ _
        have HS11 : Hid (TwoBox w11 y.v.heap.size (fl D i) (fh D i)) := by rw [hw11]; exact (HS10.out.bel x10.b).two (Ne.symm HNE.out)
        have HT11 : Hid (TwoBox w11 y6.v.heap.size f0 f1) := by rw [hw11]; exact (HT.out.bel x10.b).two (by have := HO.out.lt; have := y6.b.size; omega)
        clear hw11
        have P0 : ∀ z : Ext w11, z.v.cell? ⟨x2.v.heap.size, 0, none⟩ = some (.int .i64 A) := fun z => (HO11.out.bel z.b).c0
        have P1 : ∀ z : Ext w11, z.v.cell? ⟨x2.v.heap.size, 1, none⟩ = some (.int .i64 B) := fun z => (HO11.out.bel z.b).c1
        have Pf : ∀ (z : Ext w11) i, z.v.frozen? ⟨x2.v.heap.size, i, none⟩ = false := fun z => (HO11.out.bel z.b).fz
        have T0' : ∀ z : Ext w11, z.v.cell? ⟨y6.v.heap.size, 0, none⟩ = some (.int .i64 f0) := fun z => (HT11.out.bel z.b).c0
        have T1' : ∀ z : Ext w11, z.v.cell? ⟨y6.v.heap.size, 1, none⟩ = some (.int .i64 f1) := fun z => (HT11.out.bel z.b).c1
        have hAB := HV.out.1 hvf
        clear hvf
        have HAB := Lib.hid hAB
        clear hAB
        go_wp2
        clear w1' w2' w3' w4' w5' hA hB
        go_roundw
        case rel => exact ⟨v + 1, rfl, by have := HVB.out; omega, by have := HVB.out; omega, ⟨A, B, (HO11.out.bel x11.b).set _ _, fun _ => ⟨HAB.out, by rw [show v + 1 - 1 - fl D j = v - fl D j by omega]; exact HV.out.2.1⟩⟩, (HS11.out.bel x11.b).two (Ne.symm HNE.out), bS (bS (bT HBX.out x11.b) HOB.out _) HOB.out _⟩
        case measure => have := HVB.out; simp [intOf]; try omega
      · have d2 : (v == fl D i) = false := by simpa using hvf
        obtain ⟨g1, g2⟩ := HOE.out (by have := HVB.out; omega)
        have hm0 : (if A < o0 then A else o0) = o0 := if_neg (by have := HV.out.2.2.1; omega)
        have hm1 : (if o1 < B then B else o1) = B := HV.out.2.2.2 o1 g2
        have G1 := Lib.hid g1
        clear hvf g1 g2
        go_wp2
        clear w1' w2' w3' w4' w5' hA hB
        go_roundw
        case rel => exact ⟨v + 1, rfl, by have := HVB.out; omega, by have := HVB.out; omega, ⟨o0, B, (HO10.out.bel x10.b).set _ _, fun _ => ⟨G1.out, by rw [show v + 1 - 1 - fl D j = v - fl D j by omega]; exact HV.out.2.1⟩⟩, (HS10.out.bel x10.b).two (Ne.symm HNE.out), bS (bS (bT HBW.out x10.b) HOB.out _) HOB.out _⟩
        case measure => have := HVB.out; simp [intOf]; try omega
    · have hve : v = fh D i + 1 := by omega
      subst hve
      obtain ⟨g1, g2⟩ := HOE.out (by have := HF.out; omega)
      have d1 : decide (fh D i + 1 ≤ fh D i) = false := by simp; omega
      have hlh : lsH D i j = o1 := by rw [g2]; unfold lsH; split <;> omega
      have R0' := Lib.hid g1; have R1' := Lib.hid hlh
      have O0 : ∀ z : Ext wr, z.v.cell? ⟨x2.v.heap.size, 0, none⟩ = some (.int .i64 o0) := fun z => (HO.out.bel z.b).c0
      have O1 : ∀ z : Ext wr, z.v.cell? ⟨x2.v.heap.size, 1, none⟩ = some (.int .i64 o1) := fun z => (HO.out.bel z.b).c1
      have Of : ∀ (z : Ext wr) i, z.v.frozen? ⟨x2.v.heap.size, i, none⟩ = false := fun z => (HO.out.bel z.b).fz
      have S0 : ∀ z : Ext wr, z.v.cell? ⟨y.v.heap.size, 0, none⟩ = some (.int .i64 (fl D i)) := fun z => (HS.out.bel z.b).c0
      have S1 : ∀ z : Ext wr, z.v.cell? ⟨y.v.heap.size, 1, none⟩ = some (.int .i64 (fh D i)) := fun z => (HS.out.bel z.b).c1
      have Sf : ∀ (z : Ext wr) i, z.v.frozen? ⟨y.v.heap.size, i, none⟩ = false := fun z => (HS.out.bel z.b).fz
      have Q0 : ∀ z : Ext wr, z.v.cell? ⟨x1.v.heap.size, 0, none⟩ = some (.int .i64 0) := fun z => (HR.out.bel (bT HBB.out z.b)).c0
      have Q1 : ∀ z : Ext wr, z.v.cell? ⟨x1.v.heap.size, 1, none⟩ = some (.int .i64 0) := fun z => (HR.out.bel (bT HBB.out z.b)).c1
      have Qf : ∀ (z : Ext wr) i, z.v.frozen? ⟨x1.v.heap.size, i, none⟩ = false := fun z => (HR.out.bel (bT HBB.out z.b)).fz
      clear g1 g2 hlh hv hv1 hv2
      go_wp2
      refine bodyPost_ret (v := .agg #[.int .i64 o0, .int .i64 o1]) (by simp [results, Try.f75, go_sem, Q0, Q1, Qf]) rfl ⟨?_, ?_⟩
      · rw [R0'.out, R1'.out]
      · exact bS (bS (bT HB2.out (bT HBB.out z0.b)) HRB.out _) HRB.out _
end Go.Proofs.Ytkdlppekjjbgoaa
