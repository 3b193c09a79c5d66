/- Towns with worlds: Between and Harms of the program, for any wells. -/
import Derived.Test.YtdjkbpenppdnlaaDoorG5

import Derived.Test.YtdjkbpenppdnlaaDoorK3

set_option linter.unusedSimpArgs false

set_option linter.unusedVariables false

namespace Go.Proofs.YtdjkbpenppdnlaaDoor

open Go.RowKit

theorem two_wells {w : World} (z : Ext w) (i k : Int) : ∃ ya : Ext w, z.v.alloc (Obj.cells #[Value.int .i64 i, Value.int .i64 k] 3) = ya.v ∧ Below z.v.heap.size z.v ya.v ∧ At ya.v ya.v.heap.size (some ⟨z.v.heap.size, 0, none⟩) 2 1 (fun q => .int .i64 (if q = 0 then i else k)) := by
  have h0 : (z.v.alloc (Obj.cells #[Value.int .i64 i, Value.int .i64 k] 3)).cell? ⟨z.v.heap.size, 0, none⟩ = some (.int .i64 i) := by go_simp
  have h1 : (z.v.alloc (Obj.cells #[Value.int .i64 i, Value.int .i64 k] 3)).cell? ⟨z.v.heap.size, 1, none⟩ = some (.int .i64 k) := by go_simp
  refine ⟨⟨_, bA z.b _⟩, rfl, bA (Below.refl _ _) _, fun _ => ⟨_, 0, rfl, by simp, fun q hq => ?_⟩⟩
  rcases (show q = 0 ∨ q = 1 by omega) with rfl | rfl
  · exact h0
  · exact h1
theorem areWells_two {T : Tn} {A : Adr} {p : Option Addr} {i k : Int} {b : Bool} (hb : (T.well i && T.well k) = b) (w : World) (h : At w w.heap.size p 2 1 (fun q => .int .i64 (if q = 0 then i else k))) :
    Calls Tryd.prog 79 #[.agg #[.int .i64 T.wn, .slice A.wp T.nw A.wc, .slice A.fp T.nf A.fc], .slice p 2 2] w fun e w' => e = .returned (.bool b) ∧ Below w.heap.size w w' := by
  have := areWells_any T A 2 2 (fun q => if q = 0 then i else k) p w (by decide) h
  rw [show allN (fun q => T.well (if q = 0 then i else k)) 2 = b by rw [← hb]; rfl] at this
  exact this
/-- a call that gives a span and an error -/
def SpanC (g : FuncId) (args : Array Value) (a b er : Int) (W : World) : Prop :=
  Calls Tryd.prog g args W fun e w' => e = .returned (.tuple #[.agg #[.int .i64 a, .int .i64 b], .int .i64 er]) ∧ Below W.heap.size W w'
/-- a call that gives a number and an error -/
def IntC (g : FuncId) (args : Array Value) (a er : Int) (W : World) : Prop :=
  Calls Tryd.prog g args W fun e w' => e = .returned (.tuple #[.int .i64 a, .int .i64 er]) ∧ Below W.heap.size W w'
def Tn.is2 (T : Tn) (i k : Int) : Bool := T.well i && T.well k
theorem is2_nat {T : Tn} {i k : Int} (h : T.is2 i k = true) : (∃ a : Nat, i = (a : Int) ∧ (a : Int) < T.wn) ∧ ∃ b : Nat, k = (b : Int) ∧ (b : Int) < T.wn := by
  simp only [Tn.is2, Tn.well, Bool.and_eq_true] at h
  have h1 := within_iff.1 h.1; have h2 := within_iff.1 h.2
  exact ⟨⟨i.toNat, by omega, by omega⟩, ⟨k.toNat, by omega, by omega⟩⟩
set_option maxRecDepth 100000 in
set_option maxHeartbeats 4000000 in
theorem betwP_no (T : Tn) (A : Adr) (i k : Int) (er : Int) (w : World) (hs : T.sized) (hi : TnIn w w.heap.size T A) (he : T.wkE (T.is2 i k) = er) (h0 : er ≠ 0) :
    SpanC 26 #[.agg #[.int .i64 T.wn, .slice A.wp T.nw A.wc, .slice A.fp T.nf A.fc], .int .i64 i, .int .i64 k] 0 0 er w := by
  unfold SpanC
  obtain ⟨w1, x, hw1, hb1, hz1, F0, F1, F2, _⟩ := box_tn w T.wn A.wp A.fp T.nw A.wc T.nf A.fc
  obtain ⟨w2, x2, hw2, hb2, hz2, R0, R1, Rf⟩ := box_sp x.v
  have q1 : ∀ z : Ext w2, Below w1.heap.size w1 z.v := fun z => bT x.b (bT hb2 z.b)
  have HI : Hid (∀ z : Ext w2, TnIn z.v z.v.heap.size T A) := fun z => (hi.bel hb1).bel (q1 z)
  have HB : Hid (∀ z : Ext w2, Below w.heap.size w z.v) := fun z => bT hb1 (q1 z)
  have HS := Lib.hid hs
  have HGE := Lib.hid (show w.heap.size ≤ x.v.heap.size by have a1 := hb1.size; have a2 := x.b.size; omega)
  obtain ⟨is, his⟩ : ∃ b, T.is2 i k = b := ⟨_, rfl⟩
  rw [his] at he
  have HIS := Lib.hid his; have HE := Lib.hid he; have H0 := Lib.hid h0
  have je : (er != 0) = true := by simpa using h0
  have f0 : ∀ z : Ext w2, z.v.cell? ⟨w.heap.size, 0, none⟩ = some (.int .i64 T.wn) := fun z => F0 ⟨z.v, q1 z⟩
  have f1 : ∀ z : Ext w2, z.v.cell? ⟨w.heap.size, 1, none⟩ = some (.slice A.wp T.nw A.wc) := fun z => F1 ⟨z.v, q1 z⟩
  have f2 : ∀ z : Ext w2, z.v.cell? ⟨w.heap.size, 2, none⟩ = some (.slice A.fp T.nf A.fc) := fun z => F2 ⟨z.v, q1 z⟩
  obtain ⟨gr, hgr⟩ : ∃ g, x.v.heap.size = g := ⟨_, rfl⟩
  rw [hgr] at R0 R1 Rf HGE
  clear F0 F1 F2 q1 hb1 hz1 hb2 hz2 hi hs his he h0
  go_enter Tryd.func26, Tryd.ntmps26
  go_wp2
  try rw [hgr]
  refine wp_region_lastE 11 (by kernel_rfl) rfl (fun yr => ?_)
  clear hw1 hw2 hgr
  refine wpAnyG_take (i := 0) (v := ?_) (by kernel_rfl) rfl (by kernel_rfl) (by kernel_rfl) (by kernel_rfl) (fun _ _ _ h => h) (Or.inl ⟨by rfl, ?_⟩) ⟨_, rfl⟩ ?_
  rotate_left
  · rintro wS ⟨yS, rfl⟩
    go_simp
    try (with_reducible rfl)
  try simp only [Act.put, List.setIfInBounds_toArray, List.set_cons_zero, List.set_cons_succ]
  refine wpAnyG_take (i := 1) (v := ?_) (by kernel_rfl) rfl (by kernel_rfl) (by kernel_rfl) (by kernel_rfl) (fun _ _ _ h => h) (Or.inl ⟨by rfl, ?_⟩) ⟨_, rfl⟩ ?_
  rotate_left
  · rintro wS ⟨yS, rfl⟩
    go_simp
    try (with_reducible rfl)
  try simp only [Act.put, List.setIfInBounds_toArray, List.set_cons_zero, List.set_cons_succ]
  refine wpAnyG_take (i := 2) (v := ?_) (by kernel_rfl) rfl (by kernel_rfl) (by kernel_rfl) (by kernel_rfl) (fun _ _ _ h => h) (Or.inl ⟨by rfl, ?_⟩) ⟨_, rfl⟩ ?_
  rotate_left
  · rintro wS ⟨yS, rfl⟩
    go_simp
    try (with_reducible rfl)
  try simp only [Act.put, List.setIfInBounds_toArray, List.set_cons_zero, List.set_cons_succ]
  refine wpAnyG_take (i := 3) (v := ?_) (by kernel_rfl) rfl (by kernel_rfl) (by kernel_rfl) (by kernel_rfl) (fun _ _ _ h => h) (Or.inl ⟨by rfl, ?_⟩) ⟨_, rfl⟩ ?_
  rotate_left
  · rintro wS ⟨yS, rfl⟩
    go_simp
    try (with_reducible rfl)
  try simp only [Act.put, List.setIfInBounds_toArray, List.set_cons_zero, List.set_cons_succ]
  obtain ⟨ya, hya, hba, hat⟩ := two_wells yr i k
  have HAT := Lib.hid hat
  clear hat hba
  refine wpAnyG_one (i := 4) (by kernel_rfl) (by decide) (wpOp_plain rfl rfl ?_)
  go_simp
  try rw [hya]
  clear hya
  refine ⟨⟨_, rfl⟩, ?_⟩
  try simp only [Act.put, List.setIfInBounds_toArray, List.set_cons_zero, List.set_cons_succ]
  refine wpAnyG_one (i := 5) (by kernel_rfl) (by decide) (wpOp_plain rfl rfl ?_)
  go_simp
  go_at_call 79
  refine (quiet_x (areWells_two (A := A) HIS.out ya.v HAT.out)).mono ?_
  rintro e w5 ⟨rfl, yb, rfl⟩
  refine ⟨⟨_, rfl⟩, ?_⟩
  try simp only [Act.put, List.setIfInBounds_toArray, List.set_cons_zero, List.set_cons_succ]
  refine wpAnyG_one (i := 6) (by kernel_rfl) (by decide) (wpOp_plain rfl rfl ?_)
  go_simp
  go_at_call 78
  refine (quiet_x (work_no T A is yb.v HS.out (HI.out yb) er HE.out H0.out)).mono ?_
  rintro e w6 ⟨rfl, yc, rfl⟩
  refine ⟨⟨_, rfl⟩, ?_⟩
  try simp only [Act.put, List.setIfInBounds_toArray, List.set_cons_zero, List.set_cons_succ]
  refine wpAnyG_take (i := 7) (v := ?_) (by kernel_rfl) rfl (by kernel_rfl) (by kernel_rfl) (by kernel_rfl) (fun _ _ _ h => h) (Or.inl ⟨by rfl, ?_⟩) ⟨_, rfl⟩ ?_
  rotate_left
  · rintro wS ⟨yS, rfl⟩
    go_simp
    try (with_reducible rfl)
  try simp only [Act.put, List.setIfInBounds_toArray, List.set_cons_zero, List.set_cons_succ]
  refine wpAnyG_take (i := 8) (v := ?_) (by kernel_rfl) rfl (by kernel_rfl) (by kernel_rfl) (by kernel_rfl) (fun _ _ _ h => h) (Or.inl ⟨by rfl, ?_⟩) ⟨_, rfl⟩ ?_
  rotate_left
  · rintro wS ⟨yS, rfl⟩
    go_simp
    try (with_reducible rfl)
  try simp only [Act.put, List.setIfInBounds_toArray, List.set_cons_zero, List.set_cons_succ]
  refine wpAnyG_take (i := 10) (v := ?_) (by kernel_rfl) rfl (by kernel_rfl) (by kernel_rfl) (by kernel_rfl) (fun _ _ _ h => h) (Or.inl ⟨by rfl, ?_⟩) ⟨_, rfl⟩ ?_
  rotate_left
  · rintro wS ⟨yS, rfl⟩
    go_simp
    try (with_reducible rfl)
  try simp only [Act.put, List.setIfInBounds_toArray, List.set_cons_zero, List.set_cons_succ]
  refine wpAnyG_take (i := 9) (v := ?_) (by kernel_rfl) rfl (by kernel_rfl) (by kernel_rfl) (by kernel_rfl) (fun _ _ _ h => h) (Or.inl ⟨by rfl, ?_⟩) ⟨_, rfl⟩ ?_
  rotate_left
  · rintro wS ⟨yS, rfl⟩
    go_simp
    try (with_reducible rfl)
  try simp only [Act.put, List.setIfInBounds_toArray, List.set_cons_zero, List.set_cons_succ]
  refine wpAnyG_done (by kernel_rfl) (by kernel_rfl) (wpOp_plain rfl rfl ?_)
  go_simp
  have r0 := R0 yc; have r1 := R1 yc; have rf0 := Rf yc 0; have rf1 := Rf yc 1
  obtain ⟨h1, h2, h3⟩ := set_sp (w := w) 0 0 HGE.out r0 r1 (Rf yc) (HB.out yc)
  have H1 := Lib.hid h1
  clear h1 f0 f1 f2 R0 R1 Rf
  go_wp2
  exact bodyPost_ret (v := .tuple #[.agg #[.int .i64 0, .int .i64 0], .int .i64 er]) (by simp [results, Tryd.f26, go_sem, h2, h3]) rfl ⟨rfl, H1.out⟩
set_option maxRecDepth 100000 in
set_option maxHeartbeats 4000000 in
theorem betwP_ok (T : Tn) (A : Adr) (i k : Int) (w : World) (hs : T.sized) (hi : TnIn w w.heap.size T A) (hg : GlobsOk laid w) (he : T.wkE (T.is2 i k) = 0) :
    SpanC 26 #[.agg #[.int .i64 T.wn, .slice A.wp T.nw A.wc, .slice A.fp T.nf A.fc], .int .i64 i, .int .i64 k] (mnL (T.fl2 i k) T.LL) (mxL (T.fl2 i k) T.LL) 0 w := by
  unfold SpanC
  obtain ⟨w1, x, hw1, hb1, hz1, F0, F1, F2, _⟩ := box_tn w T.wn A.wp A.fp T.nw A.wc T.nf A.fc
  obtain ⟨w2, x2, hw2, hb2, hz2, R0, R1, Rf⟩ := box_sp x.v
  have q1 : ∀ z : Ext w2, Below w1.heap.size w1 z.v := fun z => bT x.b (bT hb2 z.b)
  have HI : Hid (∀ z : Ext w2, TnIn z.v z.v.heap.size T A) := fun z => (hi.bel hb1).bel (q1 z)
  have HG : Hid (∀ z : Ext w2, GlobsOk laid z.v) := fun z => hg.below (bT hb1 (q1 z))
  have HB : Hid (∀ z : Ext w2, Below w.heap.size w z.v) := fun z => bT hb1 (q1 z)
  have HS := Lib.hid hs
  have HGE := Lib.hid (show w.heap.size ≤ x.v.heap.size by have a1 := hb1.size; have a2 := x.b.size; omega)
  obtain ⟨hok, his, hl⟩ := wkE_zero he
  obtain ⟨⟨a, rfl, ha⟩, ⟨b, rfl, hb⟩⟩ := is2_nat his
  have HBT : Hid (∀ (g : Nat) (z : Ext w2), WkIn z.v g T A → Calls Tryd.prog 80 #[.pointer (some ⟨g, 0, none⟩), .int .i64 (a : Int), .int .i64 (b : Int)] z.v fun e w' => e = .returned (.agg #[.int .i64 (mnL (T.fl2 a b) T.LL), .int .i64 (mxL (T.fl2 a b) T.LL)]) ∧ Below z.v.heap.size z.v w') := fun g z hW => between_any T A g a b z.v hok hl ha hb (HI.out z) hW (HG.out z)
  have HIS := Lib.hid his
  have HE := Lib.hid (show T.wkE true = 0 by rw [his] at he; exact he)
  have f0 : ∀ z : Ext w2, z.v.cell? ⟨w.heap.size, 0, none⟩ = some (.int .i64 T.wn) := fun z => F0 ⟨z.v, q1 z⟩
  have f1 : ∀ z : Ext w2, z.v.cell? ⟨w.heap.size, 1, none⟩ = some (.slice A.wp T.nw A.wc) := fun z => F1 ⟨z.v, q1 z⟩
  have f2 : ∀ z : Ext w2, z.v.cell? ⟨w.heap.size, 2, none⟩ = some (.slice A.fp T.nf A.fc) := fun z => F2 ⟨z.v, q1 z⟩
  obtain ⟨gr, hgr⟩ : ∃ g, x.v.heap.size = g := ⟨_, rfl⟩
  obtain ⟨lo, hlo⟩ : ∃ v, mnL (T.fl2 a b) T.LL = v := ⟨_, rfl⟩
  obtain ⟨hi', hhi⟩ : ∃ v, mxL (T.fl2 a b) T.LL = v := ⟨_, rfl⟩
  rw [hlo, hhi] at HBT ⊢
  rw [hgr] at R0 R1 Rf HGE
  clear F0 F1 F2 q1 hb1 hz1 hb2 hz2 hi hs hg his he hok hl ha hb hlo hhi
  go_enter Tryd.func26, Tryd.ntmps26
  go_wp2
  try rw [hgr]
  refine wp_region_lastE 11 (by kernel_rfl) rfl (fun yr => ?_)
  clear hw1 hw2 hgr
  refine wpAnyG_take (i := 0) (v := ?_) (by kernel_rfl) rfl (by kernel_rfl) (by kernel_rfl) (by kernel_rfl) (fun _ _ _ h => h) (Or.inl ⟨by rfl, ?_⟩) ⟨_, rfl⟩ ?_
  rotate_left
  · rintro wS ⟨yS, rfl⟩
    go_simp
    try (with_reducible rfl)
  try simp only [Act.put, List.setIfInBounds_toArray, List.set_cons_zero, List.set_cons_succ]
  refine wpAnyG_take (i := 1) (v := ?_) (by kernel_rfl) rfl (by kernel_rfl) (by kernel_rfl) (by kernel_rfl) (fun _ _ _ h => h) (Or.inl ⟨by rfl, ?_⟩) ⟨_, rfl⟩ ?_
  rotate_left
  · rintro wS ⟨yS, rfl⟩
    go_simp
    try (with_reducible rfl)
  try simp only [Act.put, List.setIfInBounds_toArray, List.set_cons_zero, List.set_cons_succ]
  refine wpAnyG_take (i := 2) (v := ?_) (by kernel_rfl) rfl (by kernel_rfl) (by kernel_rfl) (by kernel_rfl) (fun _ _ _ h => h) (Or.inl ⟨by rfl, ?_⟩) ⟨_, rfl⟩ ?_
  rotate_left
  · rintro wS ⟨yS, rfl⟩
    go_simp
    try (with_reducible rfl)
  try simp only [Act.put, List.setIfInBounds_toArray, List.set_cons_zero, List.set_cons_succ]
  refine wpAnyG_take (i := 3) (v := ?_) (by kernel_rfl) rfl (by kernel_rfl) (by kernel_rfl) (by kernel_rfl) (fun _ _ _ h => h) (Or.inl ⟨by rfl, ?_⟩) ⟨_, rfl⟩ ?_
  rotate_left
  · rintro wS ⟨yS, rfl⟩
    go_simp
    try (with_reducible rfl)
  try simp only [Act.put, List.setIfInBounds_toArray, List.set_cons_zero, List.set_cons_succ]
  obtain ⟨ya, hya, hba, hat⟩ := two_wells yr (a : Int) (b : Int)
  have HAT := Lib.hid hat
  clear hat hba
  refine wpAnyG_one (i := 4) (by kernel_rfl) (by decide) (wpOp_plain rfl rfl ?_)
  go_simp
  try rw [hya]
  clear hya
  refine ⟨⟨_, rfl⟩, ?_⟩
  try simp only [Act.put, List.setIfInBounds_toArray, List.set_cons_zero, List.set_cons_succ]
  refine wpAnyG_one (i := 5) (by kernel_rfl) (by decide) (wpOp_plain rfl rfl ?_)
  go_simp
  go_at_call 79
  refine (quiet_x (areWells_two (A := A) HIS.out ya.v HAT.out)).mono ?_
  rintro e w5 ⟨rfl, yb, rfl⟩
  refine ⟨⟨_, rfl⟩, ?_⟩
  try simp only [Act.put, List.setIfInBounds_toArray, List.set_cons_zero, List.set_cons_succ]
  refine wpAnyG_one (i := 6) (by kernel_rfl) (by decide) (wpOp_plain rfl rfl ?_)
  go_simp
  go_at_call 78
  refine (work_ok T A true yb.v HS.out (HI.out yb) HE.out).mono ?_
  rintro e w6 ⟨g, rfl, hge, hW, hb⟩
  obtain ⟨yc, rfl⟩ : ∃ z : Ext w2, w6 = z.v := ⟨⟨w6, bT yb.b hb⟩, rfl⟩
  have HW := Lib.hid hW
  clear hge hW hb
  refine ⟨⟨_, rfl⟩, ?_⟩
  try simp only [Act.put, List.setIfInBounds_toArray, List.set_cons_zero, List.set_cons_succ]
  refine wpAnyG_take (i := 7) (v := ?_) (by kernel_rfl) rfl (by kernel_rfl) (by kernel_rfl) (by kernel_rfl) (fun _ _ _ h => h) (Or.inl ⟨by rfl, ?_⟩) ⟨_, rfl⟩ ?_
  rotate_left
  · rintro wS ⟨yS, rfl⟩
    go_simp
    try (with_reducible rfl)
  try simp only [Act.put, List.setIfInBounds_toArray, List.set_cons_zero, List.set_cons_succ]
  refine wpAnyG_take (i := 8) (v := ?_) (by kernel_rfl) rfl (by kernel_rfl) (by kernel_rfl) (by kernel_rfl) (fun _ _ _ h => h) (Or.inl ⟨by rfl, ?_⟩) ⟨_, rfl⟩ ?_
  rotate_left
  · rintro wS ⟨yS, rfl⟩
    go_simp
    try (with_reducible rfl)
  try simp only [Act.put, List.setIfInBounds_toArray, List.set_cons_zero, List.set_cons_succ]
  refine wpAnyG_take (i := 10) (v := ?_) (by kernel_rfl) rfl (by kernel_rfl) (by kernel_rfl) (by kernel_rfl) (fun _ _ _ h => h) (Or.inl ⟨by rfl, ?_⟩) ⟨_, rfl⟩ ?_
  rotate_left
  · rintro wS ⟨yS, rfl⟩
    go_simp
    try (with_reducible rfl)
  try simp only [Act.put, List.setIfInBounds_toArray, List.set_cons_zero, List.set_cons_succ]
  refine wpAnyG_take (i := 9) (v := ?_) (by kernel_rfl) rfl (by kernel_rfl) (by kernel_rfl) (by kernel_rfl) (fun _ _ _ h => h) (Or.inl ⟨by rfl, ?_⟩) ⟨_, rfl⟩ ?_
  rotate_left
  · rintro wS ⟨yS, rfl⟩
    go_simp
    try (with_reducible rfl)
  try simp only [Act.put, List.setIfInBounds_toArray, List.set_cons_zero, List.set_cons_succ]
  refine wpAnyG_done (by kernel_rfl) (by kernel_rfl) (wpOp_plain rfl rfl ?_)
  go_simp
  go_wp2_with fail
  refine (quiet_x (HBT.out g yc HW.out)).mono ?_
  rintro e w7 ⟨rfl, yd, rfl⟩
  have r0 := R0 yd; have r1 := R1 yd; have rf0 := Rf yd 0; have rf1 := Rf yd 1
  obtain ⟨h1, h2, h3⟩ := set_sp (w := w) lo hi' HGE.out r0 r1 (Rf yd) (HB.out yd)
  have H1 := Lib.hid h1
  clear h1 f0 f1 f2 R0 R1 Rf
  go_wp2
  exact bodyPost_ret (v := .tuple #[.agg #[.int .i64 lo, .int .i64 hi'], .int .i64 0]) (by simp [results, Tryd.f26, go_sem, h2, h3]) rfl ⟨rfl, H1.out⟩
end Go.Proofs.YtdjkbpenppdnlaaDoor
