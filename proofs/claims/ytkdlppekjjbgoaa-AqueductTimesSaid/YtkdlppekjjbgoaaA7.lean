/- Lines of an aqueduct: Lossy, Whole of the program. -/
import Derived.Test.YtkdlppekjjbgoaaA6

set_option linter.unusedSimpArgs false

set_option linter.unusedVariables false

namespace Go.Proofs.Ytkdlppekjjbgoaa

open Go.RowKit

set_option maxRecDepth 100000 in
set_option maxHeartbeats 2000000 in
theorem lossyP_er (D : Duct) (p q : Option Addr) (c d : Nat) (k er : Int) (w : World) (hn : D.n ≤ 40) (hm : D.m ≤ 40) (hi : DuctIn w w.heap.size D p q) (he : lrnE D (isSt D k) = er) (h0 : er ≠ 0) :
    Calls Try.prog 24 #[.agg #[.slice p D.n c, .slice q D.m d], .int .i64 k] w fun e w' => e = .returned (.tuple #[.int .i64 (lyV D k), .int .i64 (lrnE D (isSt D k))]) ∧ Below w.heap.size w w' := by
  obtain ⟨w1, x, hw1, hb1, hz1, F0, F1⟩ := box_line w p q D.n D.m c d
  have HB := Lib.hid hb1
  have HI : Hid (∀ x : Ext w1, DuctIn x.v x.v.heap.size D p q) := fun x => (hi.bel hb1).bel x.b
  clear hb1 hz1 hi
  have R0 := Lib.hid (show lyV D k = 0 from by unfold lyV; rw [if_neg (by rw [he]; exact h0)])
  have HE := Lib.hid he; have H0 := Lib.hid h0
  have hne : (er != 0) = true := by simpa using h0
  clear he h0
  go_enter Try.func24, Try.ntmps24
  go_wp2
  refine wp_region_lastE 9 (by kernel_rfl) rfl (fun yr => ?_)
  refine wpAnyG_take (i := 0) (v := ?_) (by kernel_rfl) rfl (by kernel_rfl) (by kernel_rfl) (by kernel_rfl) (fun _ _ _ h => h) (Or.inl ⟨by rfl, ?_⟩) ⟨_, rfl⟩ ?_
  rotate_left
  · rintro wS ⟨yS, rfl⟩
    go_simp
    try (with_reducible rfl)
  try simp only [Act.put, List.setIfInBounds_toArray, List.set_cons_zero, List.set_cons_succ]
  refine wpAnyG_take (i := 1) (v := ?_) (by kernel_rfl) rfl (by kernel_rfl) (by kernel_rfl) (by kernel_rfl) (fun _ _ _ h => h) (Or.inl ⟨by rfl, ?_⟩) ⟨_, rfl⟩ ?_
  rotate_left
  · rintro wS ⟨yS, rfl⟩
    go_simp
    try (with_reducible rfl)
  try simp only [Act.put, List.setIfInBounds_toArray, List.set_cons_zero, List.set_cons_succ]
  refine wpAnyG_take (i := 2) (v := ?_) (by kernel_rfl) rfl (by kernel_rfl) (by kernel_rfl) (by kernel_rfl) (fun _ _ _ h => h) (Or.inl ⟨by rfl, ?_⟩) ⟨_, rfl⟩ ?_
  rotate_left
  · rintro wS ⟨yS, rfl⟩
    go_simp
    try (with_reducible rfl)
  try simp only [Act.put, List.setIfInBounds_toArray, List.set_cons_zero, List.set_cons_succ]
  refine wpAnyG_one (i := 3) (by kernel_rfl) (by decide) (wpOp_plain rfl rfl ?_)
  go_simp
  go_at_call 63
  refine (quiet_x (isStretch_any D p q c d k _)).mono ?_
  rintro e w' ⟨rfl, y1, rfl⟩
  refine ⟨⟨y1, rfl⟩, ?_⟩
  try simp only [Act.put, List.setIfInBounds_toArray, List.set_cons_zero, List.set_cons_succ]
  refine wpAnyG_one (i := 4) (by kernel_rfl) (by decide) (wpOp_plain rfl rfl ?_)
  go_simp
  go_at_call 59
  refine (quiet_x (learn_er D p q c d _ er _ hn hm (HI.out _) HE.out H0.out)).mono ?_
  rintro e w' ⟨rfl, y4, rfl⟩
  refine ⟨⟨y4, rfl⟩, ?_⟩
  try simp only [Act.put, List.setIfInBounds_toArray, List.set_cons_zero, List.set_cons_succ]
  refine wpAnyG_take (i := 5) (v := ?_) (by kernel_rfl) rfl (by kernel_rfl) (by kernel_rfl) (by kernel_rfl) (fun _ _ _ h => h) (Or.inl ⟨by rfl, ?_⟩) ⟨_, rfl⟩ ?_
  rotate_left
  · rintro wS ⟨yS, rfl⟩
    go_simp
    try (with_reducible rfl)
  try simp only [Act.put, List.setIfInBounds_toArray, List.set_cons_zero, List.set_cons_succ]
  refine wpAnyG_take (i := 6) (v := ?_) (by kernel_rfl) rfl (by kernel_rfl) (by kernel_rfl) (by kernel_rfl) (fun _ _ _ h => h) (Or.inl ⟨by rfl, ?_⟩) ⟨_, rfl⟩ ?_
  rotate_left
  · rintro wS ⟨yS, rfl⟩
    go_simp
    try (with_reducible rfl)
  try simp only [Act.put, List.setIfInBounds_toArray, List.set_cons_zero, List.set_cons_succ]
  refine wpAnyG_take (i := 7) (v := ?_) (by kernel_rfl) rfl (by kernel_rfl) (by kernel_rfl) (by kernel_rfl) (fun _ _ _ h => h) (Or.inl ⟨by rfl, ?_⟩) ⟨_, rfl⟩ ?_
  rotate_left
  · rintro wS ⟨yS, rfl⟩
    go_simp
    try (with_reducible rfl)
  try simp only [Act.put, List.setIfInBounds_toArray, List.set_cons_zero, List.set_cons_succ]
  refine wpAnyG_take (i := 8) (v := ?_) (by kernel_rfl) rfl (by kernel_rfl) (by kernel_rfl) (by kernel_rfl) (fun _ _ _ h => h) (Or.inl ⟨by rfl, ?_⟩) ⟨_, rfl⟩ ?_
  rotate_left
  · rintro wS ⟨yS, rfl⟩
    go_simp
    try (with_reducible rfl)
  try simp only [Act.put, List.setIfInBounds_toArray, List.set_cons_zero, List.set_cons_succ]
  refine wpAnyG_done (by kernel_rfl) (by kernel_rfl) (wpOp_plain rfl rfl ?_)
  go_simp
  go_wp2
  go_ret2
  refine ⟨?_, bT HB.out y4.b⟩
  rw [R0.out, HE.out]
  rfl
set_option maxRecDepth 100000 in
set_option maxHeartbeats 2000000 in
theorem lossyP_ok (D : Duct) (p q : Option Addr) (c d : Nat) (k : Int) (w : World) (hn : D.n ≤ 40) (hm : D.m ≤ 40) (hi : DuctIn w w.heap.size D p q) (he : lrnE D (isSt D k) = 0) :
    Calls Try.prog 24 #[.agg #[.slice p D.n c, .slice q D.m d], .int .i64 k] w fun e w' => e = .returned (.tuple #[.int .i64 (lyV D k), .int .i64 (lrnE D (isSt D k))]) ∧ Below w.heap.size w w' := by
  obtain ⟨ho, his, hcl0⟩ := lrn_zero he
  have hcl : D.clash.isSome = false := by rw [hcl0]; rfl
  obtain ⟨j, rfl, hj⟩ := isSt_nat his
  obtain ⟨w1, x, hw1, hb1, hz1, F0, F1⟩ := box_line w p q D.n D.m c d
  have HB := Lib.hid hb1
  have HI : Hid (∀ x : Ext w1, DuctIn x.v x.v.heap.size D p q) := fun x => (hi.bel hb1).bel x.b
  clear hb1 hz1 hi
  have R0 := Lib.hid (show lyV D (j : Int) = (if 0 < lsL D j (j + 1) then 1 else if lsH D j (j + 1) = 0 then 2 else 3) from by unfold lyV; rw [if_pos he]; simp)
  have HE := Lib.hid he; have HO := Lib.hid ho
  clear he hcl0
  go_enter Try.func24, Try.ntmps24
  go_wp2
  refine wp_region_lastE 9 (by kernel_rfl) rfl (fun yr => ?_)
  refine wpAnyG_take (i := 0) (v := ?_) (by kernel_rfl) rfl (by kernel_rfl) (by kernel_rfl) (by kernel_rfl) (fun _ _ _ h => h) (Or.inl ⟨by rfl, ?_⟩) ⟨_, rfl⟩ ?_
  rotate_left
  · rintro wS ⟨yS, rfl⟩
    go_simp
    try (with_reducible rfl)
  try simp only [Act.put, List.setIfInBounds_toArray, List.set_cons_zero, List.set_cons_succ]
  refine wpAnyG_take (i := 1) (v := ?_) (by kernel_rfl) rfl (by kernel_rfl) (by kernel_rfl) (by kernel_rfl) (fun _ _ _ h => h) (Or.inl ⟨by rfl, ?_⟩) ⟨_, rfl⟩ ?_
  rotate_left
  · rintro wS ⟨yS, rfl⟩
    go_simp
    try (with_reducible rfl)
  try simp only [Act.put, List.setIfInBounds_toArray, List.set_cons_zero, List.set_cons_succ]
  refine wpAnyG_take (i := 2) (v := ?_) (by kernel_rfl) rfl (by kernel_rfl) (by kernel_rfl) (by kernel_rfl) (fun _ _ _ h => h) (Or.inl ⟨by rfl, ?_⟩) ⟨_, rfl⟩ ?_
  rotate_left
  · rintro wS ⟨yS, rfl⟩
    go_simp
    try (with_reducible rfl)
  try simp only [Act.put, List.setIfInBounds_toArray, List.set_cons_zero, List.set_cons_succ]
  refine wpAnyG_one (i := 3) (by kernel_rfl) (by decide) (wpOp_plain rfl rfl ?_)
  go_simp
  go_at_call 63
  refine (quiet_x (isStretch_any D p q c d (j : Int) _)).mono ?_
  rintro e w' ⟨rfl, y1, rfl⟩
  refine ⟨⟨y1, rfl⟩, ?_⟩
  try simp only [Act.put, List.setIfInBounds_toArray, List.set_cons_zero, List.set_cons_succ]
  refine wpAnyG_one (i := 4) (by kernel_rfl) (by decide) (wpOp_plain rfl rfl ?_)
  go_simp
  go_at_call 59
  refine (learn_ok D p q c d _ hn hm (HI.out _) ho hcl).mono ?_
  rintro e w' ⟨g, c', rfl, hb, hf⟩
  obtain ⟨y4, rfl⟩ : ∃ y4 : Ext w1, w' = y4.v := ⟨⟨w', bT (Ext.b _) hb⟩, rfl⟩
  have HF := Lib.hid hf
  clear hb hf
  refine ⟨⟨y4, rfl⟩, ?_⟩
  try simp only [Act.put, List.setIfInBounds_toArray, List.set_cons_zero, List.set_cons_succ]
  refine wpAnyG_take (i := 5) (v := ?_) (by kernel_rfl) rfl (by kernel_rfl) (by kernel_rfl) (by kernel_rfl) (fun _ _ _ h => h) (Or.inl ⟨by rfl, ?_⟩) ⟨_, rfl⟩ ?_
  rotate_left
  · rintro wS ⟨yS, rfl⟩
    go_simp
    try (with_reducible rfl)
  try simp only [Act.put, List.setIfInBounds_toArray, List.set_cons_zero, List.set_cons_succ]
  refine wpAnyG_take (i := 6) (v := ?_) (by kernel_rfl) rfl (by kernel_rfl) (by kernel_rfl) (by kernel_rfl) (fun _ _ _ h => h) (Or.inl ⟨by rfl, ?_⟩) ⟨_, rfl⟩ ?_
  rotate_left
  · rintro wS ⟨yS, rfl⟩
    go_simp
    try (with_reducible rfl)
  try simp only [Act.put, List.setIfInBounds_toArray, List.set_cons_zero, List.set_cons_succ]
  refine wpAnyG_take (i := 7) (v := ?_) (by kernel_rfl) rfl (by kernel_rfl) (by kernel_rfl) (by kernel_rfl) (fun _ _ _ h => h) (Or.inl ⟨by rfl, ?_⟩) ⟨_, rfl⟩ ?_
  rotate_left
  · rintro wS ⟨yS, rfl⟩
    go_simp
    try (with_reducible rfl)
  try simp only [Act.put, List.setIfInBounds_toArray, List.set_cons_zero, List.set_cons_succ]
  refine wpAnyG_take (i := 8) (v := ?_) (by kernel_rfl) rfl (by kernel_rfl) (by kernel_rfl) (by kernel_rfl) (fun _ _ _ h => h) (Or.inl ⟨by rfl, ?_⟩) ⟨_, rfl⟩ ?_
  rotate_left
  · rintro wS ⟨yS, rfl⟩
    go_simp
    try (with_reducible rfl)
  try simp only [Act.put, List.setIfInBounds_toArray, List.set_cons_zero, List.set_cons_succ]
  refine wpAnyG_done (by kernel_rfl) (by kernel_rfl) (wpOp_plain rfl rfl ?_)
  go_simp
  obtain ⟨a, ha⟩ : ∃ a, lsL D j (j + 1) = a := ⟨_, rfl⟩
  obtain ⟨b, hb⟩ : ∃ b, lsH D j (j + 1) = b := ⟨_, rfl⟩
  have HL := Lib.hid (fun (V : World) (hf : FlIn V V.heap.size D g) => loss_any D g c' j V hn HO.out hj hf)
  rw [ha, hb] at HL R0
  clear ha hb
  by_cases h1 : 0 < a
  · have R2 := Lib.hid (R0.out.trans (if_pos h1))
    have d1 : decide (0 < a) = true := by simpa using h1
    clear h1
    go_wp2_with (go_at_call 64; refine (quiet_x (HL.out _ HF.out)).mono ?_; rintro e w' ⟨rfl, y5, rfl⟩; obtain ⟨w5, x5, hw5, hb5, hup, M0, M1, _⟩ := box_twoE y5 34 a b; have HB5 := Lib.hid (bT (bT (bT HB.out y5.b) hb5) x5.b))
    go_ret2
    refine ⟨?_, HB5.out⟩
    rw [R2.out, HE.out]
    rfl
  · have d1 : decide (0 < a) = false := by simpa using h1
    by_cases h2 : b = 0
    · have R2 := Lib.hid ((R0.out.trans (if_neg h1)).trans (if_pos h2))
      have d2 : (b == 0) = true := by simpa using h2
      clear h1 h2
      go_wp2_with (go_at_call 64; refine (quiet_x (HL.out _ HF.out)).mono ?_; rintro e w' ⟨rfl, y5, rfl⟩; obtain ⟨w5, x5, hw5, hb5, hup, M0, M1, _⟩ := box_twoE y5 34 a b; have HB5 := Lib.hid (bT (bT (bT HB.out y5.b) hb5) x5.b))
      go_ret2
      refine ⟨?_, HB5.out⟩
      rw [R2.out, HE.out]
      rfl
    · have R2 := Lib.hid ((R0.out.trans (if_neg h1)).trans (if_neg h2))
      have d2 : (b == 0) = false := by simpa using h2
      clear h1 h2
      go_wp2_with (go_at_call 64; refine (quiet_x (HL.out _ HF.out)).mono ?_; rintro e w' ⟨rfl, y5, rfl⟩; obtain ⟨w5, x5, hw5, hb5, hup, M0, M1, _⟩ := box_twoE y5 34 a b; have HB5 := Lib.hid (bT (bT (bT HB.out y5.b) hb5) x5.b))
      go_ret2
      refine ⟨?_, HB5.out⟩
      rw [R2.out, HE.out]
      rfl
theorem lossyP_any (D : Duct) (p q : Option Addr) (c d : Nat) (k : Int) (w : World) (hn : D.n ≤ 40) (hm : D.m ≤ 40) (hi : DuctIn w w.heap.size D p q) :
    Calls Try.prog 24 #[.agg #[.slice p D.n c, .slice q D.m d], .int .i64 k] w fun e w' => e = .returned (.tuple #[.int .i64 (lyV D k), .int .i64 (lrnE D (isSt D k))]) ∧ Below w.heap.size w w' := by
  by_cases h : lrnE D (isSt D k) = 0
  · exact lossyP_ok D p q c d k w hn hm hi h
  · exact lossyP_er D p q c d k _ w hn hm hi rfl h
set_option maxRecDepth 100000 in
set_option maxHeartbeats 2000000 in
theorem wholeP_er (D : Duct) (p q : Option Addr) (c d : Nat) (er : Int) (w : World) (hn : D.n ≤ 40) (hm : D.m ≤ 40) (hi : DuctIn w w.heap.size D p q) (he : lrnE D true = er) (h0 : er ≠ 0) :
    Calls Try.prog 18 #[.agg #[.slice p D.n c, .slice q D.m d]] w fun e w' => e = .returned (.tuple #[.agg #[.int .i64 (whV0 D), .int .i64 (whV1 D)], .int .i64 (lrnE D true)]) ∧ Below w.heap.size w w' := by
  obtain ⟨w1, x1, hw1, hb1, hz1, F0, F1⟩ := box_line w p q D.n D.m c d
  obtain ⟨w2, x2, hw2, hb2, hz2, G0, G1, Gz⟩ := box_two x1.v 34 0 0
  have hB2 : Below x1.v.heap.size x1.v w2 := hb2
  have HB := Lib.hid (bT (bT hb1 x1.b) hb2)
  have HI : Hid (∀ x : Ext w2, DuctIn x.v x.v.heap.size D p q) := fun x => (hi.bel (bT hb1 x1.b)).bel (bT hb2 x.b)
  have HZ : Hid (w.heap.size ≤ x1.v.heap.size) := by have := hb1.size; have := x1.b.size; show _ ≤ _; omega
  replace F0 : ∀ y : Ext w2, y.v.cell? ⟨w.heap.size, 0, none⟩ = some (.slice p D.n c) := fun y => F0 (y.up (bT x1.b hb2))
  replace F1 : ∀ y : Ext w2, y.v.cell? ⟨w.heap.size, 1, none⟩ = some (.slice q D.m d) := fun y => F1 (y.up (bT x1.b hb2))
  clear hb1 hz1 hi hb2 hz2 hB2
  have R0 := Lib.hid (show whV0 D = 0 from by unfold whV0; rw [if_neg (by rw [he]; exact h0)])
  have R1 := Lib.hid (show whV1 D = 0 from by unfold whV1; rw [if_neg (by rw [he]; exact h0)])
  have HE := Lib.hid he; have H0 := Lib.hid h0
  have hne : (er != 0) = true := by simpa using h0
  clear he h0
  go_enter Try.func18, Try.ntmps18
  go_wp2_with (go_at_call 59; refine (quiet_x (learn_er D p q c d _ er _ hn hm (HI.out _) HE.out H0.out)).mono ?_; rintro e w' ⟨rfl, y4, rfl⟩)
  refine bodyPost_ret (v := .tuple #[.agg #[.int .i64 0, .int .i64 0], .int .i64 er]) (by simp [results, Try.f18, go_sem, G0, G1, Gz]) rfl ⟨?_, ?_⟩
  · rw [R0.out, R1.out, HE.out]
  · exact bS (bS (bT HB.out y4.b) HZ.out _) HZ.out _
set_option maxRecDepth 100000 in
set_option maxHeartbeats 2000000 in
theorem wholeP_ok (D : Duct) (p q : Option Addr) (c d : Nat) (w : World) (hn : D.n ≤ 40) (hm : D.m ≤ 40) (hi : DuctIn w w.heap.size D p q) (he : lrnE D true = 0) :
    Calls Try.prog 18 #[.agg #[.slice p D.n c, .slice q D.m d]] w fun e w' => e = .returned (.tuple #[.agg #[.int .i64 (whV0 D), .int .i64 (whV1 D)], .int .i64 (lrnE D true)]) ∧ Below w.heap.size w w' := by
  obtain ⟨ho, his, hcl0⟩ := lrn_zero he
  have hcl : D.clash.isSome = false := by rw [hcl0]; rfl
  obtain ⟨w1, x1, hw1, hb1, hz1, F0, F1⟩ := box_line w p q D.n D.m c d
  obtain ⟨w2, x2, hw2, hb2, hz2, G0, G1, Gz⟩ := box_two x1.v 34 0 0
  have hB2 : Below x1.v.heap.size x1.v w2 := hb2
  have HB := Lib.hid (bT (bT hb1 x1.b) hb2)
  have HI : Hid (∀ x : Ext w2, DuctIn x.v x.v.heap.size D p q) := fun x => (hi.bel (bT hb1 x1.b)).bel (bT hb2 x.b)
  have HZ : Hid (w.heap.size ≤ x1.v.heap.size) := by have := hb1.size; have := x1.b.size; show _ ≤ _; omega
  replace F0 : ∀ y : Ext w2, y.v.cell? ⟨w.heap.size, 0, none⟩ = some (.slice p D.n c) := fun y => F0 (y.up (bT x1.b hb2))
  replace F1 : ∀ y : Ext w2, y.v.cell? ⟨w.heap.size, 1, none⟩ = some (.slice q D.m d) := fun y => F1 (y.up (bT x1.b hb2))
  clear hb1 hz1 hi hb2 hz2 hB2
  have R0 := Lib.hid (show whV0 D = lsL D 0 D.m from by unfold whV0; rw [if_pos he])
  have R1 := Lib.hid (show whV1 D = lsH D 0 D.m from by unfold whV1; rw [if_pos he])
  have HE := Lib.hid he; have HO := Lib.hid ho
  have HL := Lib.hid (show ∀ (V : World) (g c' : Nat) (hf : FlIn V V.heap.size D g), Calls Try.prog 60 #[.slice (some ⟨g, 0, none⟩) D.n c', .int .i64 0, .int .i64 D.m] V fun e w' => e = .returned (.agg #[.int .i64 (lsL D 0 D.m), .int .i64 (lsH D 0 D.m)]) ∧ Below V.heap.size V w' from fun V g c' hf =>
    lost_any D g c' 0 D.m V hn HO.out (by have := (D.ok_parts HO.out).2.1; omega) (by have := (D.ok_parts HO.out).2.1; omega) hf)
  clear he hcl0
  go_enter Try.func18, Try.ntmps18
  go_wp2_with (first | (go_at_call 59; refine (learn_ok D p q c d _ hn hm (HI.out _) ho hcl).mono ?_; rintro e w' ⟨g, c', rfl, hb, hf⟩; obtain ⟨y4, rfl⟩ : ∃ y4 : Ext w2, w' = y4.v := ⟨⟨w', bT (Ext.b _) hb⟩, rfl⟩; have HF := Lib.hid hf; clear hb hf) | (go_at_call 60; refine (quiet_x (HL.out _ _ _ HF.out)).mono ?_; rintro e w' ⟨rfl, y5, rfl⟩))
  refine bodyPost_ret (v := .tuple #[.agg #[.int .i64 (lsL D 0 D.m), .int .i64 (lsH D 0 D.m)], .int .i64 0]) (by simp [results, Try.f18, go_sem, G0, G1, Gz]) rfl ⟨?_, ?_⟩
  · rw [R0.out, R1.out, HE.out]
  · exact bS (bS (bT HB.out y5.b) HZ.out _) HZ.out _
theorem wholeP_any (D : Duct) (p q : Option Addr) (c d : Nat) (w : World) (hn : D.n ≤ 40) (hm : D.m ≤ 40) (hi : DuctIn w w.heap.size D p q) :
    Calls Try.prog 18 #[.agg #[.slice p D.n c, .slice q D.m d]] w fun e w' => e = .returned (.tuple #[.agg #[.int .i64 (whV0 D), .int .i64 (whV1 D)], .int .i64 (lrnE D true)]) ∧ Below w.heap.size w w' := by
  by_cases h : lrnE D true = 0
  · exact wholeP_ok D p q c d w hn hm hi h
  · exact wholeP_er D p q c d _ w hn hm hi rfl h
end Go.Proofs.Ytkdlppekjjbgoaa
