/- Rosters of hours: who finds: all room, the least, the first. -/
import Derived.Test.YtegkgfiaegpihaaF2

import Derived.Laws.IdiomCopy

import Derived.Deep.Upon

set_option linter.unusedSimpArgs false

set_option linter.unusedVariables false

namespace Go.Proofs.Ytegkgfiaegpihaa

open Go.RowKit

theorem choose_any (w0 : World) (D : Ro) (P : Pr) (p q : Option Addr) (c d gf : Nat) (caps : Array Value) (fb mb : Nat) (hD : OkP D) (hB : PrB D P) (hP : PrOk w0 D P gf caps) (hI : RoIn w0 w0.heap.size D p q) :
    ∀ j s, s + j = D.m → ChooseOk w0 D P p q c d gf caps fb mb j s
  | 0, s, h => choose_zero w0 D P p q c d gf caps fb mb hD hB hP hI s h
  | j + 1, s, h => choose_succ w0 D P p q c d gf caps fb mb hD hB hP hI j s h (choose_any w0 D P p q c d gf caps fb mb hD hB hP hI j (s + 1) (by omega))
theorem setC_gr (w : World) (a : Addr) (u : Value) : w.grownBy (w.setCell a u) (some a.block) :=
  ⟨by first | rfl | simp, by first | rfl | simp, by first | rfl | simp, by first | rfl | simp, fun k _ hk => setCell_block (fun e => hk (by rw [e]))⟩
theorem setCells_gr {b : Nat} : ∀ (vs : List Value) (o : Nat) (w : World), w.grownBy (w.setCells b o vs) (some b)
  | [], _, w => Gr.bel (Below.refl _ _)
  | v :: r, o, w => (setC_gr w ⟨b, o, none⟩ v).trans (setCells_gr r (o + 1) _)
theorem lf0_in {D : Ro} {i : Nat} (h : i < D.n) : lf0 D i = D.rm i := if_pos h
theorem lf0_out {D : Ro} {i : Nat} (h : ¬ i < D.n) : lf0 D i = 0 := if_neg h
theorem ArAt.put8 {w : World} {b : Nat} {L M : Nat → Int} (h : ArAt w b L) : ArAt ((((((((w.setCell ⟨b, 0, none⟩ (.int .i64 (M 0))).setCell ⟨b, 1, none⟩ (.int .i64 (M 1))).setCell ⟨b, 2, none⟩ (.int .i64 (M 2))).setCell ⟨b, 3, none⟩ (.int .i64 (M 3))).setCell ⟨b, 4, none⟩ (.int .i64 (M 4))).setCell ⟨b, 5, none⟩ (.int .i64 (M 5))).setCell ⟨b, 6, none⟩ (.int .i64 (M 6))).setCell ⟨b, 7, none⟩ (.int .i64 (M 7))) b M := by
  have h0 := h.c 0 (by omega); have h1 := h.c 1 (by omega); have h2 := h.c 2 (by omega); have h3 := h.c 3 (by omega)
  have h4 := h.c 4 (by omega); have h5 := h.c 5 (by omega); have h6 := h.c 6 (by omega); have h7 := h.c 7 (by omega)
  have hf := h.fz
  refine ⟨by simpa using h.lt, fun i hi => ?_, fun i => by have := h.fz i; simpa using this⟩
  have : i = 0 ∨ i = 1 ∨ i = 2 ∨ i = 3 ∨ i = 4 ∨ i = 5 ∨ i = 6 ∨ i = 7 := by omega
  rcases this with rfl | rfl | rfl | rfl | rfl | rfl | rfl | rfl <;> go_simp
/-- all room, copied into a block of eight zeros -/
theorem copy_room {D : Ro} {w : World} {K : Nat} {p : Option Addr} {c lb : Nat} {ty : TypeId} (hn : D.n ≤ 8) (hp : NumIn w K D.n D.rm p) (ha : ArAt w lb (fun _ => 0)) :
    ∃ w', (Builtin.copy_ #[22, 22] ty #[.slice (some ⟨lb, 0, none⟩) 8 8, .slice p D.n c]).run Try.prog w = .ok (goInt D.n) w' ∧ ArAt w' lb (lf0 D) ∧ w.grownBy w' (some lb) := by
  have hi : (Try.prog.info? 3).map (·.size) = some 1 := by kernel_rfl
  rcases Nat.eq_zero_or_pos D.n with h0 | h0
  · refine ⟨w, ?_, ⟨ha.lt, fun i hi => by rw [ha.c i hi, lf0_out (by omega)], ha.fz⟩, Gr.bel (Below.refl _ _)⟩
    have := run_copy_none (P := Try.prog) w 22 22 ty 3 (some ⟨lb, 0, none⟩) p 8 8 D.n c Try.underlying22 hi (by rw [h0]; rfl)
    rw [this, h0]; rfl
  · obtain ⟨b, o, rfl, _, hc⟩ := hp h0
    have hl := row1_len D.rm D.n
    have := run_copy_cells (P := Try.prog) w 22 22 ty 3 lb 0 8 8 ⟨b, o, none⟩ D.n c (row1 D.rm D.n) Try.underlying22 hi (by rw [hl]; exact (Nat.min_eq_left hn).symm)
      (fun j v hv => by
        have hj : j < D.n := by have := (List.getElem?_eq_some_iff.1 hv).1; omega
        rw [add_at'', hc j hj]
        rw [row1_at hj] at hv
        exact hv)
      (fun j hj => by rw [Nat.zero_add, ha.c j (by omega)]; rfl) (fun j hj => by rw [Nat.zero_add]; exact ha.fz j)
      (fun v hv => by
        obtain ⟨j, hj⟩ := List.mem_iff_getElem?.1 hv
        have hjn : j < D.n := by have := (List.getElem?_eq_some_iff.1 hj).1; omega
        rw [row1_at hjn] at hj
        cases hj; rfl)
    rw [hl] at this
    have hin := World.cell?_setCells_in lb (row1 D.rm D.n) 0 w (fun j hj => by rw [Nat.zero_add, ha.c j (by omega)]; rfl)
    refine ⟨_, this, ⟨?_, fun i hi => ?_, fun i => by rw [World.frozen?_setCells]; exact ha.fz i⟩, ?_⟩
    · have := (World.keptBut_setCells lb (may := fun _ => True) (row1 D.rm D.n) 0 w (fun _ _ => trivial))
      have h3 := hin 0 (by omega)
      exact World.block_lt_of_cell? _ _ h3
    · by_cases hin' : i < D.n
      · have h3 := hin i (by omega)
        rw [Nat.zero_add] at h3
        rw [h3, lf0_in hin']
        have h4 := row1_at (f := D.rm) hin'
        rw [List.getElem?_eq_getElem (by omega)] at h4
        exact congrArg some (Option.some.inj h4)
      · rw [World.cell?_setCells_out lb _ _ _ _ (fun _ _ => Or.inr (by simp; omega)), ha.c i hi, lf0_out hin']
    · exact setCells_gr _ _ _
set_option maxRecDepth 100000 in
set_option maxHeartbeats 4000000 in
theorem all_any (w0 : World) (D : Ro) (P : Pr) (p q : Option Addr) (c d gf : Nat) (caps : Array Value) (fb mb : Nat) (hD : OkP D) (pv : Value) (W : World) (hf : Fin w0 D P p q c d pv fb mb W) (hI : RoIn w0 w0.heap.size D p q) :
    Calls Try.prog 94 #[.pointer (some ⟨fb, 0, none⟩)] W fun e W' => e = .returned (.agg #[.int .i64 (lf0 D 0), .int .i64 (lf0 D 1), .int .i64 (lf0 D 2), .int .i64 (lf0 D 3), .int .i64 (lf0 D 4), .int .i64 (lf0 D 5), .int .i64 (lf0 D 6), .int .i64 (lf0 D 7)]) ∧ Below W.heap.size W W' := by
  obtain ⟨w1, hw1⟩ : ∃ w1, W.alloc (Obj.cells #[.int .i64 0, .int .i64 0, .int .i64 0, .int .i64 0, .int .i64 0, .int .i64 0, .int .i64 0, .int .i64 0] 106) = w1 := ⟨_, rfl⟩
  have a1 : ArAt w1 W.heap.size (fun _ => 0) := by rw [← hw1]; exact ArAt.new W (fun _ => 0)
  have b1 : Below W.heap.size W w1 := by rw [← hw1]; exact bA (Below.refl _ _) _
  have z1 : w1.heap.size = W.heap.size + 1 := by rw [← hw1]; simp
  obtain ⟨lb, hlb⟩ : ∃ lb, w1.heap.size = lb := ⟨_, rfl⟩
  obtain ⟨w2, hw2⟩ : ∃ w2, w1.alloc (Obj.cells #[.int .i64 0, .int .i64 0, .int .i64 0, .int .i64 0, .int .i64 0, .int .i64 0, .int .i64 0, .int .i64 0] 106) = w2 := ⟨_, rfl⟩
  have a2 : ArAt w2 lb (fun _ => 0) := by rw [← hw2, ← hlb]; exact ArAt.new w1 (fun _ => 0)
  have b2 : Below w1.heap.size w1 w2 := by rw [← hw2]; exact bA (Below.refl _ _) _
  have b12 := bT b1 b2
  have F0 : ∀ y : Ext w2, y.v.cell? ⟨fb, 0, none⟩ = some (.slice p D.n c) := fun y => ((hf.bel b12).bel y.b).c0
  have HA2 := Lib.hid a2; have HA1 := Lib.hid (a1.blk (b2.block _ a1.lt)); have HB12 := Lib.hid b12
  have HN : Hid (∀ y : Ext w2, NumIn y.v y.v.heap.size D.n D.rm p) := fun y => ((hI.below ((hf.bel b12).bel y.b).b).mono ((hf.bel b12).bel y.b).b.size).rm
  have HZ : Hid (W.heap.size < lb) := by show _ < _; omega
  have HN8 := Lib.hid hD.n
  clear a1 b1 z1 a2 b2 b12 hf hI hD
  go_enter Try.func94, Try.ntmps94
  go_wp2
  try rw [hlb]
  clear hw1 hw2 hlb
  refine wp_region_lastE (w := w2) (x := ⟨w2, Below.refl _ _⟩) 6 (by kernel_rfl) rfl (fun y0 => ?_)
  refine wpAnyG_take (i := 0) (v := ?_) (by kernel_rfl) rfl (by kernel_rfl) (by kernel_rfl) (by kernel_rfl) (fun _ _ _ h => h) (Or.inl ⟨by rfl, ?_⟩) ⟨_, rfl⟩ ?_
  rotate_left
  · rintro wS ⟨yS, rfl⟩
    go_simp
    try (with_reducible rfl)
  try simp only [Act.put, List.setIfInBounds_toArray, List.set_cons_zero, List.set_cons_succ]
  refine wpAnyG_take (i := 1) (v := ?_) (by kernel_rfl) rfl (by kernel_rfl) (by kernel_rfl) (by kernel_rfl) (fun _ _ _ h => h) (Or.inl ⟨by rfl, ?_⟩) ⟨_, rfl⟩ ?_
  rotate_left
  · rintro wS ⟨yS, rfl⟩
    go_simp
    try (with_reducible rfl)
  try simp only [Act.put, List.setIfInBounds_toArray, List.set_cons_zero, List.set_cons_succ]
  refine wpAnyG_take (i := 2) (v := ?_) (by kernel_rfl) rfl (by kernel_rfl) (by kernel_rfl) (by kernel_rfl) (fun _ _ _ h => h) (Or.inl ⟨by rfl, ?_⟩) ⟨_, rfl⟩ ?_
  rotate_left
  · rintro wS ⟨yS, rfl⟩
    go_simp
    try (with_reducible rfl)
  try simp only [Act.put, List.setIfInBounds_toArray, List.set_cons_zero, List.set_cons_succ]
  refine wpAnyG_take (i := 3) (v := ?_) (by kernel_rfl) rfl (by kernel_rfl) (by kernel_rfl) (by kernel_rfl) (fun _ _ _ h => h) (Or.inl ⟨by rfl, ?_⟩) ⟨_, rfl⟩ ?_
  rotate_left
  · rintro wS ⟨yS, rfl⟩
    go_simp
    try (with_reducible rfl)
  try simp only [Act.put, List.setIfInBounds_toArray, List.set_cons_zero, List.set_cons_succ]
  refine wpAnyG_take (i := 4) (v := ?_) (by kernel_rfl) rfl (by kernel_rfl) (by kernel_rfl) (by kernel_rfl) (fun _ _ _ h => h) (Or.inl ⟨by rfl, ?_⟩) ⟨_, rfl⟩ ?_
  rotate_left
  · rintro wS ⟨yS, rfl⟩
    go_simp
    try (with_reducible rfl)
  try simp only [Act.put, List.setIfInBounds_toArray, List.set_cons_zero, List.set_cons_succ]
  refine wpAnyG_take (i := 5) (v := ?_) (by kernel_rfl) rfl (by kernel_rfl) (by kernel_rfl) (by kernel_rfl) (fun _ _ _ h => h) (Or.inl ⟨by rfl, ?_⟩) ⟨_, rfl⟩ ?_
  rotate_left
  · rintro wS ⟨yS, rfl⟩
    go_simp
    try (with_reducible rfl)
  try simp only [Act.put, List.setIfInBounds_toArray, List.set_cons_zero, List.set_cons_succ]
  obtain ⟨w3, h3, a3, g3⟩ := copy_room (c := c) (ty := 3) HN8.out (HN.out y0) (HA2.out.blk (y0.b.block _ HA2.out.lt))
  refine wpAnyG_done (by kernel_rfl) (by kernel_rfl) (wpOp_plain rfl rfl ?_)
  go_simp
  have HA3 := Lib.hid a3; have HB3 : Hid (Below W.heap.size W w3) := (bT HB12.out y0.b).grown g3 (bT HB12.out y0.b).size (fun k hk => by cases hk; have := HZ.out; omega)
  have HR3 := Lib.hid ((HA1.out.blk (y0.b.block _ HA1.out.lt)).blk (g3.block _ ((HA1.out.blk (y0.b.block _ HA1.out.lt))).lt (by have := HZ.out; simp; omega)))
  have c0 := a3.c 0 (by omega); have c1 := a3.c 1 (by omega); have c2 := a3.c 2 (by omega); have c3 := a3.c 3 (by omega)
  have c4 := a3.c 4 (by omega); have c5 := a3.c 5 (by omega); have c6 := a3.c 6 (by omega); have c7 := a3.c 7 (by omega)
  have r0 := HR3.out.c 0 (by omega); have r1 := HR3.out.c 1 (by omega); have r2 := HR3.out.c 2 (by omega); have r3 := HR3.out.c 3 (by omega)
  have r4 := HR3.out.c 4 (by omega); have r5 := HR3.out.c 5 (by omega); have r6 := HR3.out.c 6 (by omega); have r7 := HR3.out.c 7 (by omega)
  have rf := HR3.out.fz
  obtain ⟨w9, hw9⟩ : ∃ w9, ((((((((w3.setCell ⟨W.heap.size, 0, none⟩ (.int .i64 (lf0 D 0))).setCell ⟨W.heap.size, 1, none⟩ (.int .i64 (lf0 D 1))).setCell ⟨W.heap.size, 2, none⟩ (.int .i64 (lf0 D 2))).setCell ⟨W.heap.size, 3, none⟩ (.int .i64 (lf0 D 3))).setCell ⟨W.heap.size, 4, none⟩ (.int .i64 (lf0 D 4))).setCell ⟨W.heap.size, 5, none⟩ (.int .i64 (lf0 D 5))).setCell ⟨W.heap.size, 6, none⟩ (.int .i64 (lf0 D 6))).setCell ⟨W.heap.size, 7, none⟩ (.int .i64 (lf0 D 7))) = w9 := ⟨_, rfl⟩
  have h9 : ArAt w9 W.heap.size (lf0 D) := by rw [← hw9]; exact HR3.out.put8
  have HB9 : Hid (Below W.heap.size W w9) := by rw [← hw9]; exact (bS (bS (bS (bS (bS (bS (bS (bS HB3.out (Nat.le_refl _) _) (Nat.le_refl _) _) (Nat.le_refl _) _) (Nat.le_refl _) _) (Nat.le_refl _) _) (Nat.le_refl _) _) (Nat.le_refl _) _) (Nat.le_refl _) _)
  have q0 := h9.c 0 (by omega); have q1 := h9.c 1 (by omega); have q2 := h9.c 2 (by omega); have q3 := h9.c 3 (by omega)
  have q4 := h9.c 4 (by omega); have q5 := h9.c 5 (by omega); have q6 := h9.c 6 (by omega); have q7 := h9.c 7 (by omega)
  clear a3 g3 h9 F0 h3
  go_wp2
  try rw [hw9]
  exact bodyPost_ret (v := .agg #[.int .i64 (lf0 D 0), .int .i64 (lf0 D 1), .int .i64 (lf0 D 2), .int .i64 (lf0 D 3), .int .i64 (lf0 D 4), .int .i64 (lf0 D 5), .int .i64 (lf0 D 6), .int .i64 (lf0 D 7)]) (by simp [results, Try.f94, go_sem, q0, q1, q2, q3, q4, q5, q6, q7]) rfl ⟨rfl, HB9.out⟩
set_option maxRecDepth 100000 in
set_option maxHeartbeats 4000000 in
theorem least_any (w0 : World) (D : Ro) (P : Pr) (p q : Option Addr) (c d gf : Nat) (caps : Array Value) (fb mb : Nat) (hD : OkP D) (hB : PrB D P) (hP : PrOk w0 D P gf caps) (hI : RoIn w0 w0.heap.size D p q) (W : World) (hf : Fin w0 D P p q c d (.func (.func gf) #[] caps) fb mb W) :
    Calls Try.prog 90 #[.pointer (some ⟨fb, 0, none⟩)] W fun e W' => e = .returned (.tuple #[.int .i64 (best D P).c, .bool (!(best D P).no)]) ∧ Gr mb W W' ∧ MapOk D P W' mb := by
  have HC : Hid (∀ V, Fin w0 D P p q c d (.func (.func gf) #[] caps) fb mb V → Calls Try.prog 95 #[.pointer (some ⟨fb, 0, none⟩), .int .i64 0, .agg #[.int .i64 (lf0 D 0), .int .i64 (lf0 D 1), .int .i64 (lf0 D 2), .int .i64 (lf0 D 3), .int .i64 (lf0 D 4), .int .i64 (lf0 D 5), .int .i64 (lf0 D 6), .int .i64 (lf0 D 7)]] V fun e V' => e = .returned (.agg #[.int .i64 (best D P).h, .int .i64 (best D P).c, .bool (best D P).no]) ∧ Gr mb V V' ∧ MapOk D P V' mb) := fun V hV =>
    choose_any w0 D P p q c d gf caps fb mb hD hB hP hI D.m 0 (by omega) V (lf0 D) hV (Rm.all hD) (Str.zero D)
  obtain ⟨b, hb⟩ : ∃ b, best D P = b := ⟨_, rfl⟩
  rw [hb] at HC ⊢
  have HF := Lib.hid hf
  have HA := Lib.hid (fun (V : World) (hV : Fin w0 D P p q c d (.func (.func gf) #[] caps) fb mb V) => all_any w0 D P p q c d gf caps fb mb hD _ V hV hI)
  clear hb hf hB hP hI hD
  go_enter Try.func90, Try.ntmps90
  go_wp2_with fail
  refine (HA.out _ HF.out).mono ?_
  rintro e w1 ⟨rfl, hb1⟩
  have HF1 := Lib.hid (HF.out.bel hb1); have HB1 := Lib.hid hb1
  clear hb1
  go_wp2_with fail
  refine (HC.out _ HF1.out).mono ?_
  rintro e w2 ⟨rfl, hg2, hm2⟩
  have HF2 := Lib.hid (HF1.out.gr hg2 hm2); have HG2 : Hid (Gr mb W w2) := (Gr.bel HB1.out).trans hg2
  clear hg2 hm2
  obtain ⟨cb, hcb⟩ : ∃ cb, w2.heap.size = cb := ⟨_, rfl⟩
  obtain ⟨w3, hw3⟩ : ∃ w3, w2.alloc (Obj.cells #[.int .i64 b.h, .int .i64 b.c, .bool b.no] 109) = w3 := ⟨_, rfl⟩
  have c3 : ChAt w3 cb b := by rw [← hw3, ← hcb]; exact ChAt.new w2 b
  have b3 : Below w2.heap.size w2 w3 := by rw [← hw3]; exact bA (Below.refl _ _) _
  have HF3 := Lib.hid (HF2.out.bel b3); have HG3 : Hid (Gr mb W w3) := HG2.out.trans (Gr.bel b3)
  have C1 : ∀ y : Ext w3, y.v.cell? ⟨cb, 1, none⟩ = some (.int .i64 b.c) := fun y => (c3.blk (y.b.block _ c3.lt)).c1
  have C2 : ∀ y : Ext w3, y.v.cell? ⟨cb, 2, none⟩ = some (.bool b.no) := fun y => (c3.blk (y.b.block _ c3.lt)).c2
  clear c3 b3
  go_wp2_with fail
  try rw [hcb]
  refine quiet_e (w := w3) (x := ⟨w3, Below.refl _ _⟩) (by kernel_rfl) (by kernel_rfl) ?_
  repeat (first | go_big_quiet_step (fail) | quiet_step (fail))
  refine wpQuiet_nil ?_
  intro w6 hw6
  obtain ⟨y, rfl⟩ := hw6
  go_wp2
  go_ret2
  exact ⟨rfl, HG3.out.trans (Gr.bel y.b), (HF3.out.bel y.b).m⟩
end Go.Proofs.Ytegkgfiaegpihaa
