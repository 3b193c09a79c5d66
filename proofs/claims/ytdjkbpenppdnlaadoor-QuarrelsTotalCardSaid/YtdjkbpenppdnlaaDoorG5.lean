/- A town at work: Between and Harms of the program. -/
import Derived.Test.YtdjkbpenppdnlaaDoorG4

import Derived.Test.YtdjkbpenppdnlaaDoorD0

set_option linter.unusedSimpArgs false

set_option linter.unusedVariables false

namespace Go.Proofs.YtdjkbpenppdnlaaDoor

open Go.RowKit

/-- the fall of one well by another one in a world, by any numbers -/
def Tn.fl2 (T : Tn) (i k : Int) (x : Nat) : Int := T.fall x i k
theorem box_v (w : World) (v : Value) (t : TypeId) (h : v.cells = #[v]) :
    ∃ (w1 : World) (x : Ext w1), w.alloc (Obj.cells #[v] t) = x.v ∧ Below w.heap.size w w1 ∧ w1.heap.size = w.heap.size + 1 ∧ (∀ x : Ext w1, x.v.cell? ⟨w.heap.size, 0, none⟩ = some v) := by
  have h0 : (w.alloc (Obj.cells #[v] t)).cell? ⟨w.heap.size, 0, none⟩ = some v := by go_simp
  exact ⟨_, ⟨_, Below.refl _ _⟩, rfl, bA (Below.refl _ _) _, by simp, fun x => (x.b.cell (p := ⟨w.heap.size, 0, none⟩) (by simp)).trans h0⟩
theorem box_sp (w : World) :
    ∃ (w1 : World) (x : Ext w1), w.alloc (Obj.cells #[Value.int .i64 0, Value.int .i64 0] 41) = x.v ∧ Below w.heap.size w w1 ∧ w1.heap.size = w.heap.size + 1 ∧
      (∀ x : Ext w1, x.v.cell? ⟨w.heap.size, 0, none⟩ = some (.int .i64 0)) ∧ (∀ x : Ext w1, x.v.cell? ⟨w.heap.size, 1, none⟩ = some (.int .i64 0)) ∧ (∀ (x : Ext w1) i, x.v.frozen? ⟨w.heap.size, i, none⟩ = false) := by
  have h0 : (w.alloc (Obj.cells #[Value.int .i64 0, Value.int .i64 0] 41)).cell? ⟨w.heap.size, 0, none⟩ = some (.int .i64 0) := by go_simp
  have h1 : (w.alloc (Obj.cells #[Value.int .i64 0, Value.int .i64 0] 41)).cell? ⟨w.heap.size, 1, none⟩ = some (.int .i64 0) := by go_simp
  have hf : ∀ i, (w.alloc (Obj.cells #[Value.int .i64 0, Value.int .i64 0] 41)).frozen? ⟨w.heap.size, i, none⟩ = false := fun i => by go_simp
  exact ⟨_, ⟨_, Below.refl _ _⟩, rfl, bA (Below.refl _ _) _, by simp, fun x => (x.b.cell (p := ⟨w.heap.size, 0, none⟩) (by simp)).trans h0, fun x => (x.b.cell (p := ⟨w.heap.size, 1, none⟩) (by simp)).trans h1, fun x i => (x.b.frozen (p := ⟨w.heap.size, i, none⟩) (by simp)).trans (hf i)⟩
/-- two stores into a span's cells -/
theorem set_sp {w z : World} {b : Nat} (u v : Int) (hb : w.heap.size ≤ b) (h0 : z.cell? ⟨b, 0, none⟩ = some (.int .i64 0)) (h1 : z.cell? ⟨b, 1, none⟩ = some (.int .i64 0)) (hf : ∀ i, z.frozen? ⟨b, i, none⟩ = false) (hbw : Below w.heap.size w z) :
    Below w.heap.size w ((z.setCell ⟨b, 0, none⟩ (.int .i64 u)).setCell ⟨b, 1, none⟩ (.int .i64 v)) ∧ ((z.setCell ⟨b, 0, none⟩ (.int .i64 u)).setCell ⟨b, 1, none⟩ (.int .i64 v)).cell? ⟨b, 0, none⟩ = some (.int .i64 u) ∧
      ((z.setCell ⟨b, 0, none⟩ (.int .i64 u)).setCell ⟨b, 1, none⟩ (.int .i64 v)).cell? ⟨b, 1, none⟩ = some (.int .i64 v) := by
  have f0 := hf 0; have f1 := hf 1
  exact ⟨bS (bS hbw hb _) hb _, by go_simp, by go_simp⟩
theorem betw1_any (T : Tn) (A : Adr) (g i j b1 b2 b3 k : Nat) (W : World) (hok : T.ok = true) (hk : k < T.nw) (hi : (i : Int) < T.wn) (hj : (j : Int) < T.wn) (hT : TnIn W W.heap.size T A) (hW : WkIn W g T A)
    (h1 : W.cell? ⟨b1, 0, none⟩ = some (.pointer (some ⟨g, 0, none⟩))) (h2 : W.cell? ⟨b2, 0, none⟩ = some (.int .i64 (i : Int))) (h3 : W.cell? ⟨b3, 0, none⟩ = some (.int .i64 (j : Int))) :
    Calls Tryd.prog 117 (#[.int .i64 (k : Int)] ++ #[.pointer (some ⟨b1, 0, none⟩), .pointer (some ⟨b2, 0, none⟩), .pointer (some ⟨b3, 0, none⟩)]) W fun e W' => e = .returned (.int .i64 (T.fall k (i : Int) (j : Int))) ∧ Below W.heap.size W W' := by
  show Calls Tryd.prog 117 #[.int .i64 (k : Int), .pointer (some ⟨b1, 0, none⟩), .pointer (some ⟨b2, 0, none⟩), .pointer (some ⟨b3, 0, none⟩)] W _
  have HF := Lib.hid (fallP_any T A g k i j W hok hk hi hj hT hW)
  clear hok hk hi hj hT hW
  go_enter Tryd.func117, Tryd.ntmps117
  go_wp2_with fail
  refine HF.out.mono ?_
  rintro e w' ⟨rfl, rfl⟩
  go_wp2
  go_ret
  exact ⟨rfl, Below.refl _ _⟩
set_option maxRecDepth 100000 in
set_option maxHeartbeats 2000000 in
theorem between_any (T : Tn) (A : Adr) (g i j : Nat) (w : World) (hok : T.ok = true) (hl : T.LL ≠ []) (hi : (i : Int) < T.wn) (hj : (j : Int) < T.wn) (hT : TnIn w w.heap.size T A) (hW : WkIn w g T A) (hg : GlobsOk laid w) :
    Calls Tryd.prog 80 #[.pointer (some ⟨g, 0, none⟩), .int .i64 (i : Int), .int .i64 (j : Int)] w fun e w' => e = .returned (.agg #[.int .i64 (mnL (T.fl2 i j) T.LL), .int .i64 (mxL (T.fl2 i j) T.LL)]) ∧ Below w.heap.size w w' := by
  obtain ⟨w1, x1, hw1, hb1, hz1, F1⟩ := box_v w (.pointer (some ⟨g, 0, none⟩)) 98 rfl
  obtain ⟨w2, x2, hw2, hb2, hz2, F2⟩ := box_v x1.v (.int .i64 (i : Int)) 3 rfl
  obtain ⟨w3, x3, hw3, hb3, hz3, F3⟩ := box_v x2.v (.int .i64 (j : Int)) 3 rfl
  obtain ⟨w4, x4, hw4, hb4, hz4, R0, R1, Rf⟩ := box_sp x3.v
  have q3 : ∀ z : Ext w4, Below w3.heap.size w3 z.v := fun z => bT x3.b (bT hb4 z.b)
  have q2 : ∀ z : Ext w4, Below w2.heap.size w2 z.v := fun z => bT x2.b (bT hb3 (q3 z))
  have q1 : ∀ z : Ext w4, Below w1.heap.size w1 z.v := fun z => bT x1.b (bT hb2 (q2 z))
  have q0 : ∀ z : Ext w4, Below w.heap.size w z.v := fun z => bT hb1 (q1 z)
  have HSP := Lib.hid (span_any T A g 117 #[.pointer (some ⟨w.heap.size, 0, none⟩), .pointer (some ⟨x1.v.heap.size, 0, none⟩), .pointer (some ⟨x2.v.heap.size, 0, none⟩)] (T.fl2 i j) x4.v hok hl (hW.bel (q0 x4)) (hg.below (q0 x4)) (enters_of Tryd.func117 (by kernel_rfl) rfl)
    (fun V x hV hx => betw1_any T A g i j _ _ _ x V hok (pick_mem.1 hx).1 hi hj ((hT.bel (q0 x4)).bel hV) ((hW.bel (q0 x4)).bel hV) (F1 ⟨V, q1 ⟨V, bT x4.b hV⟩⟩) (F2 ⟨V, q2 ⟨V, bT x4.b hV⟩⟩) (F3 ⟨V, q3 ⟨V, bT x4.b hV⟩⟩)))
  have HQ0 := Lib.hid (q0 x4)
  have f1 : x4.v.cell? ⟨w.heap.size, 0, none⟩ = some (.pointer (some ⟨g, 0, none⟩)) := F1 ⟨x4.v, q1 x4⟩
  have HR := Lib.hid (And.intro R0 (And.intro R1 Rf))
  have HGE := Lib.hid (show w.heap.size ≤ x3.v.heap.size by have a1 := hb1.size; have a2 := x1.b.size; have a3 := hb2.size; have a4 := x2.b.size; have a5 := hb3.size; have a6 := x3.b.size; omega)
  obtain ⟨gr, hgr⟩ : ∃ g, x3.v.heap.size = g := ⟨_, rfl⟩
  clear q3 q2 q1 q0 hb1 hb2 hb3 hb4 hz1 hz2 hz3 hz4 F1 F2 F3 R0 R1 Rf hT hW hg hi hj hl hok
  go_enter Tryd.func80, Tryd.ntmps80
  go_wp2_with fail
  refine (callsIn_wide.1 HSP.out).mono ?_
  rintro e w' ⟨rfl, hb⟩
  rw [hgr] at HR HGE
  have r0 := HR.out.1 ⟨w', bT x4.b hb⟩; have r1 := HR.out.2.1 ⟨w', bT x4.b hb⟩; have rf := HR.out.2.2 ⟨w', bT x4.b hb⟩
  dsimp only at r0 r1 rf
  have rf0 := rf 0; have rf1 := rf 1
  obtain ⟨h1, h2, h3⟩ := set_sp (w := w) (mnL (T.fl2 i j) T.LL) (mxL (T.fl2 i j) T.LL) HGE.out r0 r1 rf (bT HQ0.out hb)
  have H1 := Lib.hid h1
  clear h1 hb rf
  try rw [hgr]
  go_wp2
  exact bodyPost_ret (v := .agg #[.int .i64 (mnL (T.fl2 i j) T.LL), .int .i64 (mxL (T.fl2 i j) T.LL)]) (by simp [results, Tryd.f80, go_sem, h2, h3]) rfl ⟨rfl, H1.out⟩
/-- what Harms says of the least and the greatest fall -/
def harmV (lo hi law : Int) : Int := if law < lo then 1 else if hi ≤ law then 2 else 3
set_option maxRecDepth 100000 in
set_option maxHeartbeats 2000000 in
theorem harms_any (T : Tn) (A : Adr) (g i j : Nat) (law : Int) (w : World) (hok : T.ok = true) (hl : T.LL ≠ []) (hi : (i : Int) < T.wn) (hj : (j : Int) < T.wn) (hT : TnIn w w.heap.size T A) (hW : WkIn w g T A) (hg : GlobsOk laid w) :
    Calls Tryd.prog 83 #[.pointer (some ⟨g, 0, none⟩), .int .i64 (i : Int), .int .i64 (j : Int), .int .i64 law] w fun e w' => e = .returned (.int .i64 (harmV (mnL (T.fl2 i j) T.LL) (mxL (T.fl2 i j) T.LL) law)) ∧ Below w.heap.size w w' := by
  have HBT := Lib.hid (between_any T A g i j w hok hl hi hj hT hW hg)
  obtain ⟨lo, hlo⟩ : ∃ x, mnL (T.fl2 i j) T.LL = x := ⟨_, rfl⟩
  obtain ⟨hi', hhi⟩ : ∃ x, mxL (T.fl2 i j) T.LL = x := ⟨_, rfl⟩
  rw [hlo, hhi] at HBT ⊢
  clear hlo hhi hok hl hi hj hT hW hg
  by_cases h1 : law < lo
  · have j1 : decide (law < lo) = true := by simpa using h1
    have HV := Lib.hid (show harmV lo hi' law = 1 from if_pos h1)
    go_enter Tryd.func83, Tryd.ntmps83
    go_wp2_with fail
    refine HBT.out.mono ?_
    rintro e w' ⟨rfl, hb⟩
    have HB := Lib.hid hb; clear hb
    go_wp2
    go_ret
    exact ⟨ret_i HV.out.symm, bA HB.out _⟩
  · have j1 : decide (law < lo) = false := by simpa using h1
    by_cases h2 : hi' ≤ law
    · have j2 : decide (hi' ≤ law) = true := by simpa using h2
      have HV := Lib.hid (show harmV lo hi' law = 2 by unfold harmV; rw [if_neg h1, if_pos h2])
      go_enter Tryd.func83, Tryd.ntmps83
      go_wp2_with fail
      refine HBT.out.mono ?_
      rintro e w' ⟨rfl, hb⟩
      have HB := Lib.hid hb; clear hb
      go_wp2
      go_ret
      exact ⟨ret_i HV.out.symm, bA HB.out _⟩
    · have j2 : decide (hi' ≤ law) = false := by simpa using h2
      have HV := Lib.hid (show harmV lo hi' law = 3 by unfold harmV; rw [if_neg h1, if_neg h2])
      go_enter Tryd.func83, Tryd.ntmps83
      go_wp2_with fail
      refine HBT.out.mono ?_
      rintro e w' ⟨rfl, hb⟩
      have HB := Lib.hid hb; clear hb
      go_wp2
      go_ret
      exact ⟨ret_i HV.out.symm, bA HB.out _⟩
end Go.Proofs.YtdjkbpenppdnlaaDoor
