/- Lines of an aqueduct: what is lost, and what is known of a line, of the program. -/
import Derived.Test.YtkdlppekjjbgoaaA4

set_option linter.unusedSimpArgs false

set_option linter.unusedVariables false

namespace Go.Proofs.Ytkdlppekjjbgoaa

open Go.RowKit

theorem wp_region_lastE {P : Program} {ops : Array Oper} {Q : Exit → Act → World → Prop} {w : World} {x : Ext w} (n : Nat) {id : Nat} {a : Act} (hm : P.follows .mixedOrders = true) (hn : ops.size = n + 1)
    (h : ∀ y : Ext w, wpAnyG P .any ops Q (fun w' => ∃ y : Ext w, w' = y.v) n n (Array.replicate ops.size false) a y.v) : (Code.region id ops true).wp P Q a x.v :=
  wp_region_last (fun w' => ∃ y : Ext w, w' = y.v) n hm hn ⟨⟨x.v.drew, bd x.b⟩, rfl⟩ (fun _ => h ⟨x.v.drew, bd x.b⟩)
def lrnE (D : Duct) (is : Bool) : Int := if D.ok then (if is then (if D.clash.isSome then 3 else 0) else 1) else 60
theorem box_twoE {w : World} (x0 : Ext w) (t : TypeId) (a b : Int) :
    ∃ (w1 : World) (x : Ext w1), x0.v.alloc (Obj.cells #[Value.int .i64 a, Value.int .i64 b] t) = x.v ∧ Below x0.v.heap.size x0.v w1 ∧ (∀ y : Ext w1, ∃ z : Ext w, y.v = z.v) ∧
      (∀ x : Ext w1, x.v.cell? ⟨x0.v.heap.size, 0, none⟩ = some (.int .i64 a)) ∧ (∀ x : Ext w1, x.v.cell? ⟨x0.v.heap.size, 1, none⟩ = some (.int .i64 b)) ∧ (∀ (x : Ext w1) i, x.v.frozen? ⟨x0.v.heap.size, i, none⟩ = false) := by
  obtain ⟨w1, x, h1, h2, h3, h4, h5, h6⟩ := box_two x0.v t a b
  exact ⟨w1, x, h1, h2, fun y => ⟨y.up (bT x0.b h2), rfl⟩, h4, h5, h6⟩

set_option maxRecDepth 100000 in
set_option maxHeartbeats 2000000 in
theorem lost_any (D : Duct) (g c i j : Nat) (w : World) (hn : D.n ≤ 40) (hok : D.ok = true) (hi : i < D.n) (hj : j < D.n) (hf : FlIn w w.heap.size D g) :
    Calls Try.prog 60 #[.slice (some ⟨g, 0, none⟩) D.n c, .int .i64 i, .int .i64 j] w fun e w' => e = .returned (.agg #[.int .i64 (lsL D i j), .int .i64 (lsH D i j)]) ∧ Below w.heap.size w w' := by
  obtain ⟨w2, x2, hw2, hb2, hz2, G0, G1, Gz⟩ := box_two w 34 0 0
  have HB := Lib.hid hb2
  have b1 := fl_bd hok hi; have b2 := fh_bd hok hi; have b3 := fl_bd hok hj; have b4 := fh_bd hok hj
  have C0 : ∀ y : Ext w2, y.v.cell? ⟨g, i * 2, none⟩ = some (.int .i64 (fl D i)) := fun y => (hf.bel (bT hb2 y.b)).c0 i hi
  have C1 : ∀ y : Ext w2, y.v.cell? ⟨g, i * 2 + 1, none⟩ = some (.int .i64 (fh D i)) := fun y => (hf.bel (bT hb2 y.b)).c1 i hi
  have C2 : ∀ y : Ext w2, y.v.cell? ⟨g, j * 2, none⟩ = some (.int .i64 (fl D j)) := fun y => (hf.bel (bT hb2 y.b)).c0 j hj
  have C3 : ∀ y : Ext w2, y.v.cell? ⟨g, j * 2 + 1, none⟩ = some (.int .i64 (fh D j)) := fun y => (hf.bel (bT hb2 y.b)).c1 j hj
  clear hb2 hz2 hf
  have hin : (i : Int) < (D.n : Int) := by omega
  have hjn : (j : Int) < (D.n : Int) := by omega
  by_cases hij : i = j
  · have R0 := Lib.hid (show lsL D i j = 0 from by unfold lsL; rw [if_pos hij])
    have R1 := Lib.hid (show lsH D i j = 0 from by unfold lsH; rw [if_pos hij])
    have hd : ((i : Int) == (j : Int)) = true := by simp; omega
    clear hij C0 C1 C2 C3 hin hjn
    go_enter Try.func60, Try.ntmps60
    go_wp2
    refine bodyPost_ret (v := .agg #[.int .i64 0, .int .i64 0]) (by simp [results, Try.f60, go_sem, G0, G1, Gz]) rfl ⟨?_, ?_⟩
    · rw [R0.out, R1.out]
    · exact bS (bS (bT HB.out x2.b) (Nat.le_refl _) _) (Nat.le_refl _) _
  · have R0 := Lib.hid (show lsL D i j = max 0 (fl D i - fh D j) from by unfold lsL; rw [if_neg hij])
    have R1 := Lib.hid (show lsH D i j = fh D i - fl D j from by unfold lsH; rw [if_neg hij])
    have hd : ((i : Int) == (j : Int)) = false := by simp; omega
    have hm : (if fh D j < fl D i then fl D i - fh D j else 0) = max 0 (fl D i - fh D j) := by rw [Int.max_def]; split <;> split <;> omega
    have hw1 : IntKind.i64.wrap (fl D i - fh D j) = fl D i - fh D j := IntWalk.i64_in _ (by omega)
    have hw3 : IntKind.i64.wrap (fh D i - fl D j) = fh D i - fl D j := IntWalk.i64_in _ (by omega)
    clear hij
    go_enter Try.func60, Try.ntmps60
    go_wp2
    refine wp_region_lastE 24 (by kernel_rfl) rfl (fun yr => ?_)
    refine wpAnyG_take (i := 0) (v := ?_) (by kernel_rfl) rfl (by kernel_rfl) (by kernel_rfl) (by kernel_rfl) (fun _ _ _ h => h) (Or.inl ⟨by rfl, ?_⟩) ⟨_, rfl⟩ ?_
    rotate_left
    · rintro wS ⟨yS, rfl⟩
      go_simp
      try (with_reducible rfl)
    try simp only [Act.put, List.setIfInBounds_toArray, List.set_cons_zero, List.set_cons_succ]
    refine wpAnyG_take (i := 1) (v := ?_) (by kernel_rfl) rfl (by kernel_rfl) (by kernel_rfl) (by kernel_rfl) (fun _ _ _ h => h) (Or.inl ⟨by rfl, ?_⟩) ⟨_, rfl⟩ ?_
    rotate_left
    · rintro wS ⟨yS, rfl⟩
      go_simp
      try (with_reducible rfl)
    try simp only [Act.put, List.setIfInBounds_toArray, List.set_cons_zero, List.set_cons_succ]
    refine wpAnyG_take (i := 2) (v := ?_) (by kernel_rfl) rfl (by kernel_rfl) (by kernel_rfl) (by kernel_rfl) (fun _ _ _ h => h) (Or.inl ⟨by rfl, ?_⟩) ⟨_, rfl⟩ ?_
    rotate_left
    · rintro wS ⟨yS, rfl⟩
      go_simp
      try (with_reducible rfl)
    try simp only [Act.put, List.setIfInBounds_toArray, List.set_cons_zero, List.set_cons_succ]
    refine wpAnyG_take (i := 3) (v := ?_) (by kernel_rfl) rfl (by kernel_rfl) (by kernel_rfl) (by kernel_rfl) (fun _ _ _ h => h) (Or.inl ⟨by rfl, ?_⟩) ⟨_, rfl⟩ ?_
    rotate_left
    · rintro wS ⟨yS, rfl⟩
      go_simp
      try (with_reducible rfl)
    try simp only [Act.put, List.setIfInBounds_toArray, List.set_cons_zero, List.set_cons_succ]
    refine wpAnyG_take (i := 4) (v := ?_) (by kernel_rfl) rfl (by kernel_rfl) (by kernel_rfl) (by kernel_rfl) (fun _ _ _ h => h) (Or.inl ⟨by rfl, ?_⟩) ⟨_, rfl⟩ ?_
    rotate_left
    · rintro wS ⟨yS, rfl⟩
      go_simp
      try (with_reducible rfl)
    try simp only [Act.put, List.setIfInBounds_toArray, List.set_cons_zero, List.set_cons_succ]
    refine wpAnyG_take (i := 5) (v := ?_) (by kernel_rfl) rfl (by kernel_rfl) (by kernel_rfl) (by kernel_rfl) (fun _ _ _ h => h) (Or.inl ⟨by rfl, ?_⟩) ⟨_, rfl⟩ ?_
    rotate_left
    · rintro wS ⟨yS, rfl⟩
      go_simp
      try (with_reducible rfl)
    try simp only [Act.put, List.setIfInBounds_toArray, List.set_cons_zero, List.set_cons_succ]
    refine wpAnyG_take (i := 6) (v := ?_) (by kernel_rfl) rfl (by kernel_rfl) (by kernel_rfl) (by kernel_rfl) (fun _ _ _ h => h) (Or.inl ⟨by rfl, ?_⟩) ⟨_, rfl⟩ ?_
    rotate_left
    · rintro wS ⟨yS, rfl⟩
      go_simp
      try (with_reducible rfl)
    try simp only [Act.put, List.setIfInBounds_toArray, List.set_cons_zero, List.set_cons_succ]
    refine wpAnyG_take (i := 7) (v := ?_) (by kernel_rfl) rfl (by kernel_rfl) (by kernel_rfl) (by kernel_rfl) (fun _ _ _ h => h) (Or.inl ⟨by rfl, ?_⟩) ⟨_, rfl⟩ ?_
    rotate_left
    · rintro wS ⟨yS, rfl⟩
      go_simp
      try (with_reducible rfl)
    try simp only [Act.put, List.setIfInBounds_toArray, List.set_cons_zero, List.set_cons_succ]
    refine wpAnyG_take (i := 8) (v := ?_) (by kernel_rfl) rfl (by kernel_rfl) (by kernel_rfl) (by kernel_rfl) (fun _ _ _ h => h) (Or.inl ⟨by rfl, ?_⟩) ⟨_, rfl⟩ ?_
    rotate_left
    · rintro wS ⟨yS, rfl⟩
      go_simp
      try (with_reducible rfl)
    try simp only [Act.put, List.setIfInBounds_toArray, List.set_cons_zero, List.set_cons_succ]
    refine wpAnyG_take (i := 9) (v := ?_) (by kernel_rfl) rfl (by kernel_rfl) (by kernel_rfl) (by kernel_rfl) (fun _ _ _ h => h) (Or.inl ⟨by rfl, ?_⟩) ⟨_, rfl⟩ ?_
    rotate_left
    · rintro wS ⟨yS, rfl⟩
      go_simp
      try (with_reducible rfl)
    try simp only [Act.put, List.setIfInBounds_toArray, List.set_cons_zero, List.set_cons_succ]
    refine wpAnyG_take (i := 10) (v := ?_) (by kernel_rfl) rfl (by kernel_rfl) (by kernel_rfl) (by kernel_rfl) (fun _ _ _ h => h) (Or.inl ⟨by rfl, ?_⟩) ⟨_, rfl⟩ ?_
    rotate_left
    · rintro wS ⟨yS, rfl⟩
      go_simp
      try (with_reducible rfl)
    try simp only [Act.put, List.setIfInBounds_toArray, List.set_cons_zero, List.set_cons_succ]
    refine wpAnyG_take (i := 11) (v := ?_) (by kernel_rfl) rfl (by kernel_rfl) (by kernel_rfl) (by kernel_rfl) (fun _ _ _ h => h) (Or.inl ⟨by rfl, ?_⟩) ⟨_, rfl⟩ ?_
    rotate_left
    · rintro wS ⟨yS, rfl⟩
      go_simp
      try (with_reducible rfl)
    try simp only [Act.put, List.setIfInBounds_toArray, List.set_cons_zero, List.set_cons_succ]
    refine wpAnyG_take (i := 12) (v := ?_) (by kernel_rfl) rfl (by kernel_rfl) (by kernel_rfl) (by kernel_rfl) (fun _ _ _ h => h) (Or.inl ⟨by rfl, ?_⟩) ⟨_, rfl⟩ ?_
    rotate_left
    · rintro wS ⟨yS, rfl⟩
      go_simp
      try (with_reducible rfl)
    try simp only [Act.put, List.setIfInBounds_toArray, List.set_cons_zero, List.set_cons_succ]
    refine wpAnyG_take (i := 13) (v := ?_) (by kernel_rfl) rfl (by kernel_rfl) (by kernel_rfl) (by kernel_rfl) (fun _ _ _ h => h) (Or.inl ⟨by rfl, ?_⟩) ⟨_, rfl⟩ ?_
    rotate_left
    · rintro wS ⟨yS, rfl⟩
      go_simp
      try (with_reducible rfl)
    try simp only [Act.put, List.setIfInBounds_toArray, List.set_cons_zero, List.set_cons_succ]
    refine wpAnyG_take (i := 14) (v := ?_) (by kernel_rfl) rfl (by kernel_rfl) (by kernel_rfl) (by kernel_rfl) (fun _ _ _ h => h) (Or.inl ⟨by rfl, ?_⟩) ⟨_, rfl⟩ ?_
    rotate_left
    · rintro wS ⟨yS, rfl⟩
      go_simp
      try (with_reducible rfl)
    try simp only [Act.put, List.setIfInBounds_toArray, List.set_cons_zero, List.set_cons_succ]
    refine wpAnyG_take (i := 15) (v := ?_) (by kernel_rfl) rfl (by kernel_rfl) (by kernel_rfl) (by kernel_rfl) (fun _ _ _ h => h) (Or.inl ⟨by rfl, ?_⟩) ⟨_, rfl⟩ ?_
    rotate_left
    · rintro wS ⟨yS, rfl⟩
      go_simp
      try (with_reducible rfl)
    try simp only [Act.put, List.setIfInBounds_toArray, List.set_cons_zero, List.set_cons_succ]
    refine wpAnyG_take (i := 16) (v := ?_) (by kernel_rfl) rfl (by kernel_rfl) (by kernel_rfl) (by kernel_rfl) (fun _ _ _ h => h) (Or.inl ⟨by rfl, ?_⟩) ⟨_, rfl⟩ ?_
    rotate_left
    · rintro wS ⟨yS, rfl⟩
      go_simp
      try (with_reducible rfl)
    try simp only [Act.put, List.setIfInBounds_toArray, List.set_cons_zero, List.set_cons_succ]
    refine wpAnyG_take (i := 17) (v := ?_) (by kernel_rfl) rfl (by kernel_rfl) (by kernel_rfl) (by kernel_rfl) (fun _ _ _ h => h) (Or.inl ⟨by rfl, ?_⟩) ⟨_, rfl⟩ ?_
    rotate_left
    · rintro wS ⟨yS, rfl⟩
      go_simp
      try (with_reducible rfl)
    try simp only [Act.put, List.setIfInBounds_toArray, List.set_cons_zero, List.set_cons_succ]
    refine wpAnyG_take (i := 18) (v := ?_) (by kernel_rfl) rfl (by kernel_rfl) (by kernel_rfl) (by kernel_rfl) (fun _ _ _ h => h) (Or.inl ⟨by rfl, ?_⟩) ⟨_, rfl⟩ ?_
    rotate_left
    · rintro wS ⟨yS, rfl⟩
      go_simp
      try (with_reducible rfl)
    try simp only [Act.put, List.setIfInBounds_toArray, List.set_cons_zero, List.set_cons_succ]
    refine wpAnyG_take (i := 19) (v := ?_) (by kernel_rfl) rfl (by kernel_rfl) (by kernel_rfl) (by kernel_rfl) (fun _ _ _ h => h) (Or.inl ⟨by rfl, ?_⟩) ⟨_, rfl⟩ ?_
    rotate_left
    · rintro wS ⟨yS, rfl⟩
      go_simp
      try (with_reducible rfl)
    try simp only [Act.put, List.setIfInBounds_toArray, List.set_cons_zero, List.set_cons_succ]
    refine wpAnyG_take (i := 20) (v := ?_) (by kernel_rfl) rfl (by kernel_rfl) (by kernel_rfl) (by kernel_rfl) (fun _ _ _ h => h) (Or.inl ⟨by rfl, ?_⟩) ⟨_, rfl⟩ ?_
    rotate_left
    · rintro wS ⟨yS, rfl⟩
      go_simp
      try (with_reducible rfl)
    try simp only [Act.put, List.setIfInBounds_toArray, List.set_cons_zero, List.set_cons_succ]
    refine wpAnyG_take (i := 21) (v := ?_) (by kernel_rfl) rfl (by kernel_rfl) (by kernel_rfl) (by kernel_rfl) (fun _ _ _ h => h) (Or.inl ⟨by rfl, ?_⟩) ⟨_, rfl⟩ ?_
    rotate_left
    · rintro wS ⟨yS, rfl⟩
      go_simp
      try (with_reducible rfl)
    try simp only [Act.put, List.setIfInBounds_toArray, List.set_cons_zero, List.set_cons_succ]
    refine wpAnyG_take (i := 22) (v := ?_) (by kernel_rfl) rfl (by kernel_rfl) (by kernel_rfl) (by kernel_rfl) (fun _ _ _ h => h) (Or.inl ⟨by rfl, ?_⟩) ⟨_, rfl⟩ ?_
    rotate_left
    · rintro wS ⟨yS, rfl⟩
      go_simp
      try (with_reducible rfl)
    try simp only [Act.put, List.setIfInBounds_toArray, List.set_cons_zero, List.set_cons_succ]
    refine wpAnyG_take (i := 23) (v := ?_) (by kernel_rfl) rfl (by kernel_rfl) (by kernel_rfl) (by kernel_rfl) (fun _ _ _ h => h) (Or.inl ⟨by rfl, ?_⟩) ⟨_, rfl⟩ ?_
    rotate_left
    · rintro wS ⟨yS, rfl⟩
      go_simp
      try (with_reducible rfl)
    try simp only [Act.put, List.setIfInBounds_toArray, List.set_cons_zero, List.set_cons_succ]
    refine wpAnyG_done (by kernel_rfl) (by kernel_rfl) (wpOp_plain rfl rfl ?_)
    go_simp
    clear C0 C1 C2 C3
    go_wp2
    refine bodyPost_ret (v := .agg #[.int .i64 (max 0 (fl D i - fh D j)), .int .i64 (fh D i - fl D j)]) (by simp [results, Try.f60, go_sem, G0, G1, Gz, hm]) rfl ⟨?_, ?_⟩
    · rw [R0.out, R1.out]
    · exact bS (bS (bT HB.out yr.b) (Nat.le_refl _) _) (Nat.le_refl _) _
set_option maxRecDepth 100000 in
set_option maxHeartbeats 2000000 in
theorem loss_any (D : Duct) (g c i : Nat) (w : World) (hn : D.n ≤ 40) (hok : D.ok = true) (hi : i < D.m) (hf : FlIn w w.heap.size D g) :
    Calls Try.prog 64 #[.slice (some ⟨g, 0, none⟩) D.n c, .int .i64 i] w fun e w' => e = .returned (.agg #[.int .i64 (lsL D i (i + 1)), .int .i64 (lsH D i (i + 1))]) ∧ Below w.heap.size w w' := by
  obtain ⟨w2, x2, hw2, hb2, hz2, G0, G1, Gz⟩ := box_two w 34 0 0
  have HB := Lib.hid hb2
  have hmn := (D.ok_parts hok).2.1
  have HF : Hid (∀ y : Ext w2, FlIn y.v y.v.heap.size D g) := fun y => hf.bel (bT hb2 y.b)
  have hl : ∀ y : Ext w2, Calls Try.prog 60 #[.slice (some ⟨g, 0, none⟩) D.n c, .int .i64 i, .int .i64 ((i : Int) + 1)] y.v fun e w' => e = .returned (.agg #[.int .i64 (lsL D i (i + 1)), .int .i64 (lsH D i (i + 1))]) ∧ Below y.v.heap.size y.v w' := fun y => by
    have := lost_any D g c i (i + 1) y.v hn hok (by omega) (by omega) (HF.out y)
    simpa using this
  have HL := Lib.hid hl
  have hi7 := (D.ok_parts hok).1
  clear hb2 hz2 hf hl hmn hok
  go_enter Try.func64, Try.ntmps64
  go_wp2_with (go_at_call 60; refine (quiet_x (HL.out _)).mono ?_; rintro e w' ⟨rfl, y, rfl⟩)
  refine bodyPost_ret (v := .agg #[.int .i64 (lsL D i (i + 1)), .int .i64 (lsH D i (i + 1))]) (by simp [results, Try.f64, go_sem, G0, G1, Gz]) rfl ⟨rfl, ?_⟩
  exact bS (bS (bT HB.out y.b) (Nat.le_refl _) _) (Nat.le_refl _) _
theorem ret2_eq {a b : Value} {x y : Int} (h : a = b) (h2 : x = y) : Ending.returned (.tuple #[a, .int .i64 x]) = .returned (.tuple #[b, .int .i64 y]) := by rw [h, h2]
theorem learn_er (D : Duct) (p q : Option Addr) (c d : Nat) (is : Bool) (er : Int) (w : World) (hn : D.n ≤ 40) (hm : D.m ≤ 40) (hi : DuctIn w w.heap.size D p q) (he : lrnE D is = er) (h0 : er ≠ 0) :
    Calls Try.prog 59 #[.agg #[.slice p D.n c, .slice q D.m d], .bool is] w fun e w' => e = .returned (.tuple #[.slice none 0 0, .int .i64 er]) ∧ Below w.heap.size w w' := by
  obtain ⟨w1, x, hw1, hb1, hz1, F0, F1⟩ := box_line w p q D.n D.m c d
  have HB := Lib.hid hb1
  have HI : Hid (∀ x : Ext w1, DuctIn x.v x.v.heap.size D p q) := fun x => (hi.bel hb1).bel x.b
  clear hb1 hz1 hi
  cases ho : D.ok with
  | false =>
    have hr : er = 60 := by rw [← he]; simp [lrnE, ho]
    have hc : chkE false is = 60 := rfl
    subst hr; clear he h0
    go_enter Try.func59, Try.ntmps59
    go_wp2_with (go_at_call 57; refine (quiet_x (check_any D p q c d is _ hn hm (HI.out _))).mono ?_; rintro e w' ⟨rfl, y, rfl⟩)
    go_ret2
    exact ⟨rfl, bT HB.out y.b⟩
  | true =>
  cases is with
  | false =>
    have hr : er = 1 := by rw [← he]; simp [lrnE, ho]
    have hc : chkE true false = 1 := rfl
    subst hr; clear he h0
    go_enter Try.func59, Try.ntmps59
    go_wp2_with (go_at_call 57; refine (quiet_x (check_any D p q c d false _ hn hm (HI.out _))).mono ?_; rintro e w' ⟨rfl, y, rfl⟩)
    go_ret2
    exact ⟨rfl, bT HB.out y.b⟩
  | true =>
    have hcl : D.clash.isSome = true := by
      cases h : D.clash.isSome with
      | true => rfl
      | false => exfalso; apply h0; rw [← he]; simp [lrnE, ho, h]
    have hr : er = 3 := by rw [← he]; simp [lrnE, ho, hcl]
    have hc : chkE true true = 0 := rfl
    subst hr; clear he h0
    go_enter Try.func59, Try.ntmps59
    go_wp2_with (first | (go_at_call 57; refine (quiet_x (check_any D p q c d true _ hn hm (HI.out _))).mono ?_; rintro e w' ⟨rfl, y, rfl⟩) | (go_at_call 58; refine (quiet_x (clashOf_any D p q c d _ hn hm (HI.out _))).mono ?_; rintro e w' ⟨rfl, y2, rfl⟩))
    go_ret2
    exact ⟨rfl, bA (bT HB.out y2.b) _⟩
theorem lrn_zero {D : Duct} {is : Bool} (h : lrnE D is = 0) : D.ok = true ∧ is = true ∧ D.clash = none := by
  unfold lrnE at h
  split at h
  · rename_i ho
    split at h
    · rename_i h1
      split at h
      · omega
      · rename_i h2
        exact ⟨ho, h1, by cases hc : D.clash <;> simp_all⟩
    · omega
  · omega
theorem learn_ok (D : Duct) (p q : Option Addr) (c d : Nat) (w : World) (hn : D.n ≤ 40) (hm : D.m ≤ 40) (hi : DuctIn w w.heap.size D p q) (ho : D.ok = true) (hcl : D.clash.isSome = false) :
    Calls Try.prog 59 #[.agg #[.slice p D.n c, .slice q D.m d], .bool true] w fun e w' => ∃ g c', e = .returned (.tuple #[.slice (some ⟨g, 0, none⟩) D.n c', .int .i64 0]) ∧ Below w.heap.size w w' ∧ FlIn w' w'.heap.size D g := by
  obtain ⟨w1, x, hw1, hb1, hz1, F0, F1⟩ := box_line w p q D.n D.m c d
  have HB := Lib.hid hb1
  have HI : Hid (∀ x : Ext w1, DuctIn x.v x.v.heap.size D p q) := fun x => (hi.bel hb1).bel x.b
  clear hb1 hz1 hi
  have hc : chkE true true = 0 := rfl
  have H0 : Hid (0 < D.n) := by have := (D.ok_parts ho).2.1; show _ < _; omega
  have HFl := Lib.hid (fun (V : World) (hi : DuctIn V V.heap.size D p q) => flowsOf_any D p q c d V hn hm hi H0.out)
  go_enter Try.func59, Try.ntmps59
  go_wp2_with (first | (go_at_call 57; refine (quiet_x (check_any D p q c d true _ hn hm (HI.out _))).mono ?_; rintro e w' ⟨rfl, y, rfl⟩) | (go_at_call 58; refine (quiet_x (clashOf_any D p q c d _ hn hm (HI.out _))).mono ?_; rintro e w' ⟨rfl, y2, rfl⟩; obtain ⟨w5, x5, hw5, hb5, hup, _, _, _⟩ := box_twoE y2 29 (clA D) (clB D); have F0' : ∀ y : Ext w5, y.v.cell? ⟨w.heap.size, 0, none⟩ = some (.slice p D.n c) := fun y => (by obtain ⟨z, hz⟩ := hup y; rw [hz]; exact F0 z); have F1' : ∀ y : Ext w5, y.v.cell? ⟨w.heap.size, 1, none⟩ = some (.slice q D.m d) := fun y => (by obtain ⟨z, hz⟩ := hup y; rw [hz]; exact F1 z)) | (go_at_call 83; refine (HFl.out _ (by obtain ⟨z, hz⟩ := hup x5; rw [hz]; exact HI.out z)).mono ?_; rintro e w' ⟨g, c', rfl, hb, hf⟩))
  go_ret2
  exact ⟨g, c', rfl, bT (bT (bT (bT HB.out y2.b) hb5) x5.b) hb, hf⟩
end Go.Proofs.Ytkdlppekjjbgoaa
