/- Lines of an aqueduct: Flow, Loss, Lossy, Whole in the specification's words. -/
import Derived.Test.YtkdlppekjjbgoaaS4

set_option linter.unusedSimpArgs false

set_option linter.unusedVariables false

namespace Go.Proofs.Ytkdlppekjjbgoaa

open Go.RowKit

theorem ask_any (D : Duct) (p q : Option Addr) (c d : Nat) (is : Bool) (w : World) (hn : D.n ≤ 40) (hm : D.m ≤ 40) (hi : DuctIn w w.heap.size D p q) :
    Calls Try.prog 76 #[.agg #[.slice p D.n c, .slice q D.m d], .bool is] w fun e w' => e = .returned (.int .i64 (chkE D.ok is)) ∧ Below w.heap.size w w' := by
  obtain ⟨w1, x, hw1, hb1, hz1, F0, F1⟩ := box_line w p q D.n D.m c d
  have HB := Lib.hid hb1
  have HI : Hid (∀ x : Ext w1, DuctIn x.v x.v.heap.size D p q) := fun x => (hi.bel hb1).bel x.b
  clear hb1 hz1 hi
  cases ho : D.ok <;> cases is
  all_goals
    have hc1 : chkE true true = 0 := rfl
    have hc2 : chkE false true = 60 := rfl
    go_enter Try.func76, Try.ntmps76
    go_wp2_with (go_at_call 42; refine (quiet_x (checkR_any D p q c d _ hn hm (HI.out _))).mono ?_; rintro e w' ⟨rfl, y, rfl⟩)
    go_ret
    exact ⟨rfl, bT HB.out (Ext.b _)⟩
theorem known_any (D : Duct) (p q : Option Addr) (c d : Nat) (is : Bool) (w : World) (hn : D.n ≤ 40) (hm : D.m ≤ 40) (hi : DuctIn w w.heap.size D p q) :
    Calls Try.prog 73 #[.agg #[.slice p D.n c, .slice q D.m d], .bool is] w fun e w' => e = .returned (.int .i64 (lrnE D is)) ∧ Below w.heap.size w w' := by
  obtain ⟨w1, x, hw1, hb1, hz1, F0, F1⟩ := box_line w p q D.n D.m c d
  have HB := Lib.hid hb1
  have HI : Hid (∀ x : Ext w1, DuctIn x.v x.v.heap.size D p q) := fun x => (hi.bel hb1).bel x.b
  clear hb1 hz1 hi
  cases ho : D.ok with
  | false =>
    have hR := Lib.hid (show lrnE D is = 60 by simp [lrnE, ho])
    have hc : chkE false is = 60 := rfl
    go_enter Try.func73, Try.ntmps73
    go_wp2_with (go_at_call 76; refine (quiet_x (ask_any D p q c d is _ hn hm (HI.out _))).mono ?_; rintro e w' ⟨rfl, y, rfl⟩)
    go_ret
    exact ⟨ret_i hR.out.symm, bT HB.out y.b⟩
  | true =>
  cases is with
  | false =>
    have hR := Lib.hid (show lrnE D false = 1 by simp [lrnE, ho])
    have hc : chkE true false = 1 := rfl
    go_enter Try.func73, Try.ntmps73
    go_wp2_with (go_at_call 76; refine (quiet_x (ask_any D p q c d false _ hn hm (HI.out _))).mono ?_; rintro e w' ⟨rfl, y, rfl⟩)
    go_ret
    exact ⟨ret_i hR.out.symm, bT HB.out y.b⟩
  | true =>
    have hc : chkE true true = 0 := rfl
    cases hone : D.one with
    | true =>
      have hR := Lib.hid (show lrnE D true = 0 by simp [lrnE, ho, (clash_one ho).2 hone])
      go_enter Try.func73, Try.ntmps73
      go_wp2_with (first | (go_at_call 76; refine (quiet_x (ask_any D p q c d true _ hn hm (HI.out _))).mono ?_; rintro e w' ⟨rfl, y, rfl⟩) | (go_at_call 26; refine (quiet_x (one_any D p q c d _ hn hm (HI.out _))).mono ?_; rintro e w' ⟨rfl, y2, rfl⟩))
      go_ret
      exact ⟨ret_i hR.out.symm, bT HB.out y2.b⟩
    | false =>
      have hcl : D.clash.isSome = true := by
        cases h : D.clash with
        | some x => rfl
        | none => rw [(clash_one ho).1 h] at hone; cases hone
      have hR := Lib.hid (show lrnE D true = 3 by simp [lrnE, ho, hcl])
      clear hcl
      go_enter Try.func73, Try.ntmps73
      go_wp2_with (first | (go_at_call 76; refine (quiet_x (ask_any D p q c d true _ hn hm (HI.out _))).mono ?_; rintro e w' ⟨rfl, y, rfl⟩) | (go_at_call 26; refine (quiet_x (one_any D p q c d _ hn hm (HI.out _))).mono ?_; rintro e w' ⟨rfl, y2, rfl⟩))
      go_ret
      exact ⟨ret_i hR.out.symm, bT HB.out y2.b⟩
theorem lrn_one {D : Duct} {is : Bool} (h : lrnE D is = 0) : D.ok = true ∧ is = true ∧ D.one = true := by
  obtain ⟨h1, h2, h3⟩ := lrn_zero h
  exact ⟨h1, h2, (clash_one h1).1 h3⟩
set_option maxRecDepth 100000 in
set_option maxHeartbeats 2000000 in
theorem flowR_any (D : Duct) (p q : Option Addr) (c d : Nat) (k : Int) (w : World) (hn : D.n ≤ 40) (hm : D.m ≤ 40) (hi : DuctIn w w.heap.size D p q) :
    Calls Try.prog 44 #[.agg #[.slice p D.n c, .slice q D.m d], .int .i64 k] w fun e w' => e = .returned (.tuple #[.agg #[.int .i64 (flV0 D k), .int .i64 (flV1 D k)], .int .i64 (lrnE D (isPt D k))]) ∧ Below w.heap.size w w' := by
  by_cases he : lrnE D (isPt D k) = 0
  case neg =>
    obtain ⟨w1, x1, hw1, hb1, hz1, F0, F1⟩ := box_line w p q D.n D.m c d
    obtain ⟨w2, x2, hw2, hb2, hz2, G0, G1, Gz⟩ := box_two x1.v 34 0 0
    have hB2 : Below x1.v.heap.size x1.v w2 := hb2
    have HB := Lib.hid (bT (bT hb1 x1.b) hb2)
    have HI : Hid (∀ x : Ext w2, DuctIn x.v x.v.heap.size D p q) := fun x => (hi.bel (bT hb1 x1.b)).bel (bT hb2 x.b)
    have HZ : Hid (w.heap.size ≤ x1.v.heap.size) := by have := hb1.size; have := x1.b.size; show _ ≤ _; omega
    replace F0 : ∀ y : Ext w2, y.v.cell? ⟨w.heap.size, 0, none⟩ = some (.slice p D.n c) := fun y => F0 (y.up (bT x1.b hb2))
    replace F1 : ∀ y : Ext w2, y.v.cell? ⟨w.heap.size, 1, none⟩ = some (.slice q D.m d) := fun y => F1 (y.up (bT x1.b hb2))
    clear hb1 hz1 hi hb2 hz2 hB2
    have R0 := Lib.hid (show flV0 D k = 0 from by unfold flV0; rw [if_neg he])
    have R1 := Lib.hid (show flV1 D k = 0 from by unfold flV1; rw [if_neg he])
    obtain ⟨er, hE⟩ : ∃ e, lrnE D (isPt D k) = e := ⟨_, rfl⟩
    have hne : (er != 0) = true := by rw [hE] at he; simpa using he
    clear he
    go_enter Try.func44, Try.ntmps44
    go_wp2
    refine quiet_e (by kernel_rfl) (by kernel_rfl) ?_
    repeat (first | go_big_quiet_step (first | (go_at_call 19; exact quiet_x (isPointR_any D p q c d _ _ hn)) | (go_at_call 73; exact quiet_x (known_any D p q c d _ _ hn hm (HI.out _)))) | quiet_step (first | (go_at_call 19; exact quiet_x (isPointR_any D p q c d _ _ hn)) | (go_at_call 73; exact quiet_x (known_any D p q c d _ _ hn hm (HI.out _)))))
    refine wpQuiet_nil ?_
    intro w6 hw6
    obtain ⟨y4, rfl⟩ := hw6
    go_wp2
    refine bodyPost_ret (v := .tuple #[.agg #[.int .i64 0, .int .i64 0], .int .i64 er]) (by simp [results, Try.f44, go_sem, G0, G1, Gz, hE]) rfl ⟨?_, ?_⟩
    · rw [R0.out, R1.out, hE]
    · exact bS (bS (bT HB.out y4.b) HZ.out _) HZ.out _
  obtain ⟨ho, his, hone⟩ := lrn_one he
  obtain ⟨j, rfl, hj⟩ := isPt_nat his
  have HOF := Lib.hid (show ∀ (V : World), DuctIn V V.heap.size D p q → Calls Try.prog 74 #[.agg #[.slice p D.n c, .slice q D.m d], .int .i64 j] V fun e w' => e = .returned (.agg #[.int .i64 (fl D j), .int .i64 (fh D j)]) ∧ Below V.heap.size V w' from fun V h => flowOf_any D p q c d j V hn hm hj ho hone h)
  obtain ⟨w1, x1, hw1, hb1, hz1, F0, F1⟩ := box_line w p q D.n D.m c d
  obtain ⟨w2, x2, hw2, hb2, hz2, G0, G1, Gz⟩ := box_two x1.v 34 0 0
  have hB2 : Below x1.v.heap.size x1.v w2 := hb2
  have HB := Lib.hid (bT (bT hb1 x1.b) hb2)
  have HI : Hid (∀ x : Ext w2, DuctIn x.v x.v.heap.size D p q) := fun x => (hi.bel (bT hb1 x1.b)).bel (bT hb2 x.b)
  have HZ : Hid (w.heap.size ≤ x1.v.heap.size) := by have := hb1.size; have := x1.b.size; show _ ≤ _; omega
  replace F0 : ∀ y : Ext w2, y.v.cell? ⟨w.heap.size, 0, none⟩ = some (.slice p D.n c) := fun y => F0 (y.up (bT x1.b hb2))
  replace F1 : ∀ y : Ext w2, y.v.cell? ⟨w.heap.size, 1, none⟩ = some (.slice q D.m d) := fun y => F1 (y.up (bT x1.b hb2))
  clear hb1 hz1 hi hb2 hz2 hB2
  have R0 := Lib.hid (show flV0 D (j : Int) = fl D j from by unfold flV0; rw [if_pos he]; simp)
  have R1 := Lib.hid (show flV1 D (j : Int) = fh D j from by unfold flV1; rw [if_pos he]; simp)
  have HE := Lib.hid he
  have hE : lrnE D true = 0 := by rw [← his]; exact he
  have hjm : j ≤ 40 := by omega
  clear he ho hone hj
  go_enter Try.func44, Try.ntmps44
  go_wp2
  refine quiet_e (by kernel_rfl) (by kernel_rfl) ?_
  repeat (first | go_big_quiet_step (first | (go_at_call 19; exact quiet_x (isPointR_any D p q c d _ _ hn)) | (go_at_call 73; exact quiet_x (known_any D p q c d _ _ hn hm (HI.out _)))) | quiet_step (first | (go_at_call 19; exact quiet_x (isPointR_any D p q c d _ _ hn)) | (go_at_call 73; exact quiet_x (known_any D p q c d _ _ hn hm (HI.out _)))))
  refine wpQuiet_nil ?_
  intro w6 hw6
  obtain ⟨y4, rfl⟩ := hw6
  go_wp2_with fail
  refine (quiet_x (HOF.out _ (HI.out y4))).mono ?_
  rintro e w' ⟨rfl, y5, rfl⟩
  
  go_wp2
  refine bodyPost_ret (v := .tuple #[.agg #[.int .i64 (fl D j), .int .i64 (fh D j)], .int .i64 0]) (by simp [results, Try.f44, go_sem, G0, G1, Gz]) rfl ⟨?_, ?_⟩
  · rw [R0.out, R1.out, HE.out]
  · exact bS (bS (bT HB.out y5.b) HZ.out _) HZ.out _
set_option maxRecDepth 100000 in
set_option maxHeartbeats 2000000 in
theorem lossR_any (D : Duct) (p q : Option Addr) (c d : Nat) (k : Int) (w : World) (hn : D.n ≤ 40) (hm : D.m ≤ 40) (hi : DuctIn w w.heap.size D p q) :
    Calls Try.prog 47 #[.agg #[.slice p D.n c, .slice q D.m d], .int .i64 k] w fun e w' => e = .returned (.tuple #[.agg #[.int .i64 (lsV0 D k), .int .i64 (lsV1 D k)], .int .i64 (lrnE D (isSt D k))]) ∧ Below w.heap.size w w' := by
  by_cases he : lrnE D (isSt D k) = 0
  case neg =>
    obtain ⟨w1, x1, hw1, hb1, hz1, F0, F1⟩ := box_line w p q D.n D.m c d
    obtain ⟨w2, x2, hw2, hb2, hz2, G0, G1, Gz⟩ := box_two x1.v 34 0 0
    have hB2 : Below x1.v.heap.size x1.v w2 := hb2
    have HB := Lib.hid (bT (bT hb1 x1.b) hb2)
    have HI : Hid (∀ x : Ext w2, DuctIn x.v x.v.heap.size D p q) := fun x => (hi.bel (bT hb1 x1.b)).bel (bT hb2 x.b)
    have HZ : Hid (w.heap.size ≤ x1.v.heap.size) := by have := hb1.size; have := x1.b.size; show _ ≤ _; omega
    replace F0 : ∀ y : Ext w2, y.v.cell? ⟨w.heap.size, 0, none⟩ = some (.slice p D.n c) := fun y => F0 (y.up (bT x1.b hb2))
    replace F1 : ∀ y : Ext w2, y.v.cell? ⟨w.heap.size, 1, none⟩ = some (.slice q D.m d) := fun y => F1 (y.up (bT x1.b hb2))
    clear hb1 hz1 hi hb2 hz2 hB2
    have R0 := Lib.hid (show lsV0 D k = 0 from by unfold lsV0; rw [if_neg he])
    have R1 := Lib.hid (show lsV1 D k = 0 from by unfold lsV1; rw [if_neg he])
    obtain ⟨er, hE⟩ : ∃ e, lrnE D (isSt D k) = e := ⟨_, rfl⟩
    have hne : (er != 0) = true := by rw [hE] at he; simpa using he
    clear he
    go_enter Try.func47, Try.ntmps47
    go_wp2
    refine quiet_e (by kernel_rfl) (by kernel_rfl) ?_
    repeat (first | go_big_quiet_step (first | (go_at_call 27; exact quiet_x (isStretchR_any D p q c d _ _ hm)) | (go_at_call 73; exact quiet_x (known_any D p q c d _ _ hn hm (HI.out _)))) | quiet_step (first | (go_at_call 27; exact quiet_x (isStretchR_any D p q c d _ _ hm)) | (go_at_call 73; exact quiet_x (known_any D p q c d _ _ hn hm (HI.out _)))))
    refine wpQuiet_nil ?_
    intro w6 hw6
    obtain ⟨y4, rfl⟩ := hw6
    go_wp2
    refine bodyPost_ret (v := .tuple #[.agg #[.int .i64 0, .int .i64 0], .int .i64 er]) (by simp [results, Try.f47, go_sem, G0, G1, Gz, hE]) rfl ⟨?_, ?_⟩
    · rw [R0.out, R1.out, hE]
    · exact bS (bS (bT HB.out y4.b) HZ.out _) HZ.out _
  obtain ⟨ho, his, hone⟩ := lrn_one he
  obtain ⟨j, rfl, hj⟩ := isSt_nat his
  have HOF := Lib.hid (show ∀ (V : World), DuctIn V V.heap.size D p q → Calls Try.prog 75 #[.agg #[.slice p D.n c, .slice q D.m d], .int .i64 j, .int .i64 ((j : Int) + 1)] V fun e w' => e = .returned (.agg #[.int .i64 (lsL D j (j + 1)), .int .i64 (lsH D j (j + 1))]) ∧ Below V.heap.size V w' from fun V h => by
    have := lossOf_any D p q c d j (j + 1) V hn hm (by omega) (by have := (D.ok_parts ho).2.1; omega) ho hone h
    simpa using this)
  obtain ⟨w1, x1, hw1, hb1, hz1, F0, F1⟩ := box_line w p q D.n D.m c d
  obtain ⟨w2, x2, hw2, hb2, hz2, G0, G1, Gz⟩ := box_two x1.v 34 0 0
  have hB2 : Below x1.v.heap.size x1.v w2 := hb2
  have HB := Lib.hid (bT (bT hb1 x1.b) hb2)
  have HI : Hid (∀ x : Ext w2, DuctIn x.v x.v.heap.size D p q) := fun x => (hi.bel (bT hb1 x1.b)).bel (bT hb2 x.b)
  have HZ : Hid (w.heap.size ≤ x1.v.heap.size) := by have := hb1.size; have := x1.b.size; show _ ≤ _; omega
  replace F0 : ∀ y : Ext w2, y.v.cell? ⟨w.heap.size, 0, none⟩ = some (.slice p D.n c) := fun y => F0 (y.up (bT x1.b hb2))
  replace F1 : ∀ y : Ext w2, y.v.cell? ⟨w.heap.size, 1, none⟩ = some (.slice q D.m d) := fun y => F1 (y.up (bT x1.b hb2))
  clear hb1 hz1 hi hb2 hz2 hB2
  have R0 := Lib.hid (show lsV0 D (j : Int) = lsL D j (j + 1) from by unfold lsV0; rw [if_pos he]; simp)
  have R1 := Lib.hid (show lsV1 D (j : Int) = lsH D j (j + 1) from by unfold lsV1; rw [if_pos he]; simp)
  have HE := Lib.hid he
  have hE : lrnE D true = 0 := by rw [← his]; exact he
  have hjm : j ≤ 40 := by omega
  have hw : IntKind.i64.wrap ((j : Int) + 1) = (j : Int) + 1 := IntWalk.i64_in _ (by omega)
  clear he ho hone hj
  go_enter Try.func47, Try.ntmps47
  go_wp2
  refine quiet_e (by kernel_rfl) (by kernel_rfl) ?_
  repeat (first | go_big_quiet_step (first | (go_at_call 27; exact quiet_x (isStretchR_any D p q c d _ _ hm)) | (go_at_call 73; exact quiet_x (known_any D p q c d _ _ hn hm (HI.out _)))) | quiet_step (first | (go_at_call 27; exact quiet_x (isStretchR_any D p q c d _ _ hm)) | (go_at_call 73; exact quiet_x (known_any D p q c d _ _ hn hm (HI.out _)))))
  refine wpQuiet_nil ?_
  intro w6 hw6
  obtain ⟨y4, rfl⟩ := hw6
  go_wp2_with fail
  refine (quiet_x (HOF.out _ (HI.out y4))).mono ?_
  rintro e w' ⟨rfl, y5, rfl⟩
  clear hw
  go_wp2
  refine bodyPost_ret (v := .tuple #[.agg #[.int .i64 (lsL D j (j + 1)), .int .i64 (lsH D j (j + 1))], .int .i64 0]) (by simp [results, Try.f47, go_sem, G0, G1, Gz]) rfl ⟨?_, ?_⟩
  · rw [R0.out, R1.out, HE.out]
  · exact bS (bS (bT HB.out y5.b) HZ.out _) HZ.out _
set_option maxRecDepth 100000 in
set_option maxHeartbeats 2000000 in
theorem wholeR_any (D : Duct) (p q : Option Addr) (c d : Nat) (w : World) (hn : D.n ≤ 40) (hm : D.m ≤ 40) (hi : DuctIn w w.heap.size D p q) :
    Calls Try.prog 45 #[.agg #[.slice p D.n c, .slice q D.m d]] w fun e w' => e = .returned (.tuple #[.agg #[.int .i64 (whV0 D), .int .i64 (whV1 D)], .int .i64 (lrnE D true)]) ∧ Below w.heap.size w w' := by
  by_cases he : lrnE D true = 0
  case neg =>
    obtain ⟨w1, x1, hw1, hb1, hz1, F0, F1⟩ := box_line w p q D.n D.m c d
    obtain ⟨w2, x2, hw2, hb2, hz2, G0, G1, Gz⟩ := box_two x1.v 34 0 0
    have hB2 : Below x1.v.heap.size x1.v w2 := hb2
    have HB := Lib.hid (bT (bT hb1 x1.b) hb2)
    have HI : Hid (∀ x : Ext w2, DuctIn x.v x.v.heap.size D p q) := fun x => (hi.bel (bT hb1 x1.b)).bel (bT hb2 x.b)
    have HZ : Hid (w.heap.size ≤ x1.v.heap.size) := by have := hb1.size; have := x1.b.size; show _ ≤ _; omega
    replace F0 : ∀ y : Ext w2, y.v.cell? ⟨w.heap.size, 0, none⟩ = some (.slice p D.n c) := fun y => F0 (y.up (bT x1.b hb2))
    replace F1 : ∀ y : Ext w2, y.v.cell? ⟨w.heap.size, 1, none⟩ = some (.slice q D.m d) := fun y => F1 (y.up (bT x1.b hb2))
    clear hb1 hz1 hi hb2 hz2 hB2
    have R0 := Lib.hid (show whV0 D = 0 from by unfold whV0; rw [if_neg he])
    have R1 := Lib.hid (show whV1 D = 0 from by unfold whV1; rw [if_neg he])
    obtain ⟨er, hE⟩ : ∃ e, lrnE D true = e := ⟨_, rfl⟩
    have hne : (er != 0) = true := by rw [hE] at he; simpa using he
    clear he
    go_enter Try.func45, Try.ntmps45
    go_wp2_with (go_at_call 73; refine (quiet_x (known_any D p q c d true _ hn hm (HI.out _))).mono ?_; rintro e w' ⟨rfl, y4, rfl⟩)
    refine bodyPost_ret (v := .tuple #[.agg #[.int .i64 0, .int .i64 0], .int .i64 er]) (by simp [results, Try.f45, go_sem, G0, G1, Gz]) rfl ⟨?_, ?_⟩
    · rw [R0.out, R1.out, hE]
    · exact bS (bS (bT HB.out y4.b) HZ.out _) HZ.out _
  obtain ⟨ho, _, hone⟩ := lrn_one he
  have hnm := (D.ok_parts ho).2.1
  have HOF := Lib.hid (show ∀ (V : World), DuctIn V V.heap.size D p q → Calls Try.prog 75 #[.agg #[.slice p D.n c, .slice q D.m d], .int .i64 0, .int .i64 (D.m : Int)] V fun e w' => e = .returned (.agg #[.int .i64 (lsL D 0 D.m), .int .i64 (lsH D 0 D.m)]) ∧ Below V.heap.size V w' from fun V h => lossOf_any D p q c d 0 D.m V hn hm (by omega) (by omega) ho hone h)
  obtain ⟨w1, x1, hw1, hb1, hz1, F0, F1⟩ := box_line w p q D.n D.m c d
  obtain ⟨w2, x2, hw2, hb2, hz2, G0, G1, Gz⟩ := box_two x1.v 34 0 0
  have hB2 : Below x1.v.heap.size x1.v w2 := hb2
  have HB := Lib.hid (bT (bT hb1 x1.b) hb2)
  have HI : Hid (∀ x : Ext w2, DuctIn x.v x.v.heap.size D p q) := fun x => (hi.bel (bT hb1 x1.b)).bel (bT hb2 x.b)
  have HZ : Hid (w.heap.size ≤ x1.v.heap.size) := by have := hb1.size; have := x1.b.size; show _ ≤ _; omega
  replace F0 : ∀ y : Ext w2, y.v.cell? ⟨w.heap.size, 0, none⟩ = some (.slice p D.n c) := fun y => F0 (y.up (bT x1.b hb2))
  replace F1 : ∀ y : Ext w2, y.v.cell? ⟨w.heap.size, 1, none⟩ = some (.slice q D.m d) := fun y => F1 (y.up (bT x1.b hb2))
  clear hb1 hz1 hi hb2 hz2 hB2
  have R0 := Lib.hid (show whV0 D = lsL D 0 D.m from by unfold whV0; rw [if_pos he])
  have R1 := Lib.hid (show whV1 D = lsH D 0 D.m from by unfold whV1; rw [if_pos he])
  have hw1 : (D.n : Int) - 1 = (D.m : Int) := by omega
  have hw2 : IntKind.i64.wrap (D.m : Int) = (D.m : Int) := IntWalk.i64_in _ (by omega)
  clear ho hone hnm
  go_enter Try.func45, Try.ntmps45
  go_wp2_with (first | (go_at_call 73; refine (quiet_x (known_any D p q c d true _ hn hm (HI.out _))).mono ?_; rintro e w' ⟨rfl, y4, rfl⟩) | (go_at_call 75; refine (quiet_x (HOF.out _ (HI.out _))).mono ?_; rintro e w' ⟨rfl, y5, rfl⟩))
  refine bodyPost_ret (v := .tuple #[.agg #[.int .i64 (lsL D 0 D.m), .int .i64 (lsH D 0 D.m)], .int .i64 0]) (by simp [results, Try.f45, go_sem, G0, G1, Gz]) rfl ⟨?_, ?_⟩
  · rw [R0.out, R1.out, he]
  · exact bS (bS (bT HB.out y5.b) HZ.out _) HZ.out _
set_option maxRecDepth 100000 in
set_option maxHeartbeats 2000000 in
theorem lossyR_any (D : Duct) (p q : Option Addr) (c d : Nat) (k : Int) (w : World) (hn : D.n ≤ 40) (hm : D.m ≤ 40) (hi : DuctIn w w.heap.size D p q) :
    Calls Try.prog 48 #[.agg #[.slice p D.n c, .slice q D.m d], .int .i64 k] w fun e w' => e = .returned (.tuple #[.int .i64 (lyV D k), .int .i64 (lrnE D (isSt D k))]) ∧ Below w.heap.size w w' := by
  obtain ⟨a, ha⟩ : ∃ a, lsV0 D k = a := ⟨_, rfl⟩
  obtain ⟨b, hb⟩ : ∃ b, lsV1 D k = b := ⟨_, rfl⟩
  obtain ⟨er, hE⟩ : ∃ e, lrnE D (isSt D k) = e := ⟨_, rfl⟩
  have HLS := Lib.hid (show ∀ (V : World), DuctIn V V.heap.size D p q → Calls Try.prog 47 #[.agg #[.slice p D.n c, .slice q D.m d], .int .i64 k] V fun e w' => e = .returned (.tuple #[.agg #[.int .i64 a, .int .i64 b], .int .i64 er]) ∧ Below V.heap.size V w' from fun V h => by
    have := lossR_any D p q c d k V hn hm h
    rw [ha, hb, hE] at this
    exact this)
  obtain ⟨w1, x, hw1, hb1, hz1, F0, F1⟩ := box_line w p q D.n D.m c d
  have HB := Lib.hid hb1
  have HI : Hid (∀ x : Ext w1, DuctIn x.v x.v.heap.size D p q) := fun x => (hi.bel hb1).bel x.b
  clear hb1 hz1 hi
  by_cases he : er = 0
  case neg =>
    have R0 := Lib.hid (show lyV D k = 0 from by unfold lyV; rw [if_neg (by rw [hE]; exact he)])
    have hne : (er != 0) = true := by simpa using he
    have HEE := Lib.hid hE
    clear he hE ha hb
    go_enter Try.func48, Try.ntmps48
    go_wp2_with (go_at_call 47; refine (quiet_x (HLS.out _ (HI.out _))).mono ?_; rintro e w' ⟨rfl, y5, rfl⟩; obtain ⟨w5, x5, hw5, hb5, hup, M0, M1, _⟩ := box_twoE y5 34 a b; have HB5 := Lib.hid (bT (bT (bT HB.out y5.b) hb5) x5.b))
    go_ret2
    refine ⟨?_, HB5.out⟩
    rw [R0.out, HEE.out]
    rfl
  subst he
  have hly : lyV D k = (if 0 < a then 1 else if b = 0 then 2 else 3) := by
    rw [← ha, ← hb]; unfold lyV lsV0 lsV1; rw [if_pos hE, if_pos hE, if_pos hE]
  have R0 := Lib.hid hly
  have HEE := Lib.hid hE
  clear hE ha hb hly
  by_cases h1 : 0 < a
  · have R2 := Lib.hid (R0.out.trans (if_pos h1))
    have d1 : decide (0 < a) = true := by simpa using h1
    clear h1
    go_enter Try.func48, Try.ntmps48
    go_wp2_with (go_at_call 47; refine (quiet_x (HLS.out _ (HI.out _))).mono ?_; rintro e w' ⟨rfl, y5, rfl⟩; obtain ⟨w5, x5, hw5, hb5, hup, M0, M1, _⟩ := box_twoE y5 34 a b; have HB5 := Lib.hid (bT (bT (bT HB.out y5.b) hb5) x5.b))
    go_ret2
    refine ⟨?_, HB5.out⟩
    rw [R2.out, HEE.out]
    rfl
  · have d1 : decide (0 < a) = false := by simpa using h1
    by_cases h2 : b = 0
    · have R2 := Lib.hid ((R0.out.trans (if_neg h1)).trans (if_pos h2))
      have d2 : (b == 0) = true := by simpa using h2
      clear h1 h2
      go_enter Try.func48, Try.ntmps48
      go_wp2_with (go_at_call 47; refine (quiet_x (HLS.out _ (HI.out _))).mono ?_; rintro e w' ⟨rfl, y5, rfl⟩; obtain ⟨w5, x5, hw5, hb5, hup, M0, M1, _⟩ := box_twoE y5 34 a b; have HB5 := Lib.hid (bT (bT (bT HB.out y5.b) hb5) x5.b))
      go_ret2
      refine ⟨?_, HB5.out⟩
      rw [R2.out, HEE.out]
      rfl
    · have R2 := Lib.hid ((R0.out.trans (if_neg h1)).trans (if_neg h2))
      have d2 : (b == 0) = false := by simpa using h2
      clear h1 h2
      go_enter Try.func48, Try.ntmps48
      go_wp2_with (go_at_call 47; refine (quiet_x (HLS.out _ (HI.out _))).mono ?_; rintro e w' ⟨rfl, y5, rfl⟩; obtain ⟨w5, x5, hw5, hb5, hup, M0, M1, _⟩ := box_twoE y5 34 a b; have HB5 := Lib.hid (bT (bT (bT HB.out y5.b) hb5) x5.b))
      go_ret2
      refine ⟨?_, HB5.out⟩
      rw [R2.out, HEE.out]
      rfl
end Go.Proofs.Ytkdlppekjjbgoaa
