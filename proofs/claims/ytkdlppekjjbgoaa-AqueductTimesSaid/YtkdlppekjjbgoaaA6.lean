/- Lines of an aqueduct: Clash, Flow, Loss, Lossy, Whole of the program. -/
import Derived.Test.YtkdlppekjjbgoaaA5

set_option linter.unusedSimpArgs false

set_option linter.unusedVariables false

namespace Go.Proofs.Ytkdlppekjjbgoaa

open Go.RowKit

def clE (D : Duct) : Int := if D.ok then (if D.clash.isSome then 0 else 3) else 60
def clAv (D : Duct) : Int := if D.ok then clA D else 0
def clBv (D : Duct) : Int := if D.ok then clB D else 0
set_option maxRecDepth 100000 in
set_option maxHeartbeats 1000000 in
theorem clashP_any (D : Duct) (p q : Option Addr) (c d : Nat) (w : World) (hn : D.n ≤ 40) (hm : D.m ≤ 40) (hi : DuctIn w w.heap.size D p q) :
    Calls Try.prog 17 #[.agg #[.slice p D.n c, .slice q D.m d]] w fun e w' => e = .returned (.tuple #[.agg #[.int .i64 (clAv D), .int .i64 (clBv D)], .int .i64 (clE D)]) ∧ Below w.heap.size w w' := by
  obtain ⟨w1, x1, hw1, hb1, hz1, F0, F1⟩ := box_line w p q D.n D.m c d
  obtain ⟨w2, x2, hw2, hb2, hz2, G0, G1, Gz⟩ := box_two x1.v 29 0 0
  have hB2 : Below x1.v.heap.size x1.v w2 := hb2
  have HB := Lib.hid (bT (bT hb1 x1.b) hb2)
  have HI : Hid (∀ x : Ext w2, DuctIn x.v x.v.heap.size D p q) := fun x => (hi.bel (bT hb1 x1.b)).bel (bT hb2 x.b)
  have HZ : Hid (w.heap.size ≤ x1.v.heap.size) := by have := hb1.size; have := x1.b.size; show _ ≤ _; omega
  replace F0 : ∀ y : Ext w2, y.v.cell? ⟨w.heap.size, 0, none⟩ = some (.slice p D.n c) := fun y => F0 (y.up (bT x1.b hb2))
  replace F1 : ∀ y : Ext w2, y.v.cell? ⟨w.heap.size, 1, none⟩ = some (.slice q D.m d) := fun y => F1 (y.up (bT x1.b hb2))
  clear hb1 hz1 hi hb2 hz2 hB2
  cases ho : D.ok with
  | false =>
    have hc : chkE false true = 60 := rfl
    have R0 := Lib.hid (show clAv D = 0 from by simp [clAv, ho])
    have R1 := Lib.hid (show clBv D = 0 from by simp [clBv, ho])
    have R2 := Lib.hid (show clE D = 60 from by simp [clE, ho])
    go_enter Try.func17, Try.ntmps17
    go_wp2_with (go_at_call 57; refine (quiet_x (check_any D p q c d true _ hn hm (HI.out _))).mono ?_; rintro e w' ⟨rfl, y, rfl⟩)
    refine bodyPost_ret (v := .tuple #[.agg #[.int .i64 0, .int .i64 0], .int .i64 60]) (by simp [results, Try.f17, go_sem, G0, G1, Gz]) rfl ⟨?_, ?_⟩
    · rw [R0.out, R1.out, R2.out]
    · exact bS (bS (bT HB.out y.b) HZ.out _) HZ.out _
  | true =>
  have hc : chkE true true = 0 := rfl
  have R0 := Lib.hid (show clAv D = clA D from by simp [clAv, ho])
  have R1 := Lib.hid (show clBv D = clB D from by simp [clBv, ho])
  cases hcl : D.clash.isSome with
  | false =>
    have R2 := Lib.hid (show clE D = 3 from by simp [clE, ho, hcl])
    have hcn : D.clash = none := by cases h : D.clash <;> simp_all
    have R3 := Lib.hid (show clA D = 0 from by simp [clA, hcn])
    have R4 := Lib.hid (show clB D = 0 from by simp [clB, hcn])
    clear hcn
    go_enter Try.func17, Try.ntmps17
    go_wp2_with (first | (go_at_call 57; refine (quiet_x (check_any D p q c d true _ hn hm (HI.out _))).mono ?_; rintro e w' ⟨rfl, y, rfl⟩) | (go_at_call 58; refine (quiet_x (clashOf_any D p q c d _ hn hm (HI.out _))).mono ?_; rintro e w' ⟨rfl, y2, rfl⟩; obtain ⟨w5, x5, hw5, hb5, hup, _, _, _⟩ := box_twoE y2 29 (clA D) (clB D); have G0' : ∀ y : Ext w5, y.v.cell? ⟨x1.v.heap.size, 0, none⟩ = some (.int .i64 0) := fun y => (by obtain ⟨z, hz⟩ := hup y; rw [hz]; exact G0 z); have G1' : ∀ y : Ext w5, y.v.cell? ⟨x1.v.heap.size, 1, none⟩ = some (.int .i64 0) := fun y => (by obtain ⟨z, hz⟩ := hup y; rw [hz]; exact G1 z); have Gz' : ∀ y : Ext w5, ∀ i, y.v.frozen? ⟨x1.v.heap.size, i, none⟩ = false := fun y => (by obtain ⟨z, hz⟩ := hup y; rw [hz]; exact Gz z); have HB5 := Lib.hid (bT (bT (bT HB.out y2.b) hb5) x5.b)))
    refine bodyPost_ret (v := .tuple #[.agg #[.int .i64 0, .int .i64 0], .int .i64 3]) (by simp [results, Try.f17, go_sem, G0', G1', Gz']) rfl ⟨?_, ?_⟩
    · rw [R0.out, R1.out, R2.out, R3.out, R4.out]
    · exact bS (bS (HB5.out) HZ.out _) HZ.out _
  | true =>
    have R2 := Lib.hid (show clE D = 0 from by simp [clE, ho, hcl])
    go_enter Try.func17, Try.ntmps17
    go_wp2_with (first | (go_at_call 57; refine (quiet_x (check_any D p q c d true _ hn hm (HI.out _))).mono ?_; rintro e w' ⟨rfl, y, rfl⟩) | (go_at_call 58; refine (quiet_x (clashOf_any D p q c d _ hn hm (HI.out _))).mono ?_; rintro e w' ⟨rfl, y2, rfl⟩; obtain ⟨w5, x5, hw5, hb5, hup, M0, M1, _⟩ := box_twoE y2 29 (clA D) (clB D); have G0' : ∀ y : Ext w5, y.v.cell? ⟨x1.v.heap.size, 0, none⟩ = some (.int .i64 0) := fun y => (by obtain ⟨z, hz⟩ := hup y; rw [hz]; exact G0 z); have G1' : ∀ y : Ext w5, y.v.cell? ⟨x1.v.heap.size, 1, none⟩ = some (.int .i64 0) := fun y => (by obtain ⟨z, hz⟩ := hup y; rw [hz]; exact G1 z); have Gz' : ∀ y : Ext w5, ∀ i, y.v.frozen? ⟨x1.v.heap.size, i, none⟩ = false := fun y => (by obtain ⟨z, hz⟩ := hup y; rw [hz]; exact Gz z); have HB5 := Lib.hid (bT (bT (bT HB.out y2.b) hb5) x5.b)))
    refine bodyPost_ret (v := .tuple #[.agg #[.int .i64 (clA D), .int .i64 (clB D)], .int .i64 0]) (by simp [results, Try.f17, go_sem, G0', G1', Gz']) rfl ⟨?_, ?_⟩
    · rw [R0.out, R1.out, R2.out]
    · exact bS (bS (HB5.out) HZ.out _) HZ.out _
def flV0 (D : Duct) (k : Int) : Int := if lrnE D (isPt D k) = 0 then fl D k.toNat else 0
def flV1 (D : Duct) (k : Int) : Int := if lrnE D (isPt D k) = 0 then fh D k.toNat else 0
def lsV0 (D : Duct) (k : Int) : Int := if lrnE D (isSt D k) = 0 then lsL D k.toNat (k.toNat + 1) else 0
def lsV1 (D : Duct) (k : Int) : Int := if lrnE D (isSt D k) = 0 then lsH D k.toNat (k.toNat + 1) else 0
def lyV (D : Duct) (k : Int) : Int := if lrnE D (isSt D k) = 0 then (if 0 < lsL D k.toNat (k.toNat + 1) then 1 else if lsH D k.toNat (k.toNat + 1) = 0 then 2 else 3) else 0
def whV0 (D : Duct) : Int := if lrnE D true = 0 then lsL D 0 D.m else 0
def whV1 (D : Duct) : Int := if lrnE D true = 0 then lsH D 0 D.m else 0
theorem isPt_nat {D : Duct} {k : Int} (h : isPt D k = true) : ∃ j : Nat, k = (j : Int) ∧ j < D.n := by
  obtain ⟨h1, h2⟩ := within_iff.1 h
  exact ⟨k.toNat, by omega, by omega⟩
theorem isSt_nat {D : Duct} {k : Int} (h : isSt D k = true) : ∃ j : Nat, k = (j : Int) ∧ j < D.m := by
  obtain ⟨h1, h2⟩ := within_iff.1 h
  exact ⟨k.toNat, by omega, by omega⟩
set_option maxRecDepth 100000 in
set_option maxHeartbeats 2000000 in
theorem flowP_er (D : Duct) (p q : Option Addr) (c d : Nat) (k er : Int) (w : World) (hn : D.n ≤ 40) (hm : D.m ≤ 40) (hi : DuctIn w w.heap.size D p q) (he : lrnE D (isPt D k) = er) (h0 : er ≠ 0) :
    Calls Try.prog 21 #[.agg #[.slice p D.n c, .slice q D.m d], .int .i64 k] w fun e w' => e = .returned (.tuple #[.agg #[.int .i64 (flV0 D k), .int .i64 (flV1 D k)], .int .i64 (lrnE D (isPt D k))]) ∧ Below w.heap.size w w' := by
  obtain ⟨w1, x1, hw1, hb1, hz1, F0, F1⟩ := box_line w p q D.n D.m c d
  obtain ⟨w2, x2, hw2, hb2, hz2, G0, G1, Gz⟩ := box_two x1.v 34 0 0
  have hB2 : Below x1.v.heap.size x1.v w2 := hb2
  have HB := Lib.hid (bT (bT hb1 x1.b) hb2)
  have HI : Hid (∀ x : Ext w2, DuctIn x.v x.v.heap.size D p q) := fun x => (hi.bel (bT hb1 x1.b)).bel (bT hb2 x.b)
  have HZ : Hid (w.heap.size ≤ x1.v.heap.size) := by have := hb1.size; have := x1.b.size; show _ ≤ _; omega
  replace F0 : ∀ y : Ext w2, y.v.cell? ⟨w.heap.size, 0, none⟩ = some (.slice p D.n c) := fun y => F0 (y.up (bT x1.b hb2))
  replace F1 : ∀ y : Ext w2, y.v.cell? ⟨w.heap.size, 1, none⟩ = some (.slice q D.m d) := fun y => F1 (y.up (bT x1.b hb2))
  clear hb1 hz1 hi hb2 hz2 hB2
  have R0 := Lib.hid (show flV0 D k = 0 from by unfold flV0; rw [if_neg (by rw [he]; exact h0)])
  have R1 := Lib.hid (show flV1 D k = 0 from by unfold flV1; rw [if_neg (by rw [he]; exact h0)])
  have HE := Lib.hid he; have H0 := Lib.hid h0
  have hne : (er != 0) = true := by simpa using h0
  clear he h0
  go_enter Try.func21, Try.ntmps21
  go_wp2
  refine wp_region_lastE 9 (by kernel_rfl) rfl (fun yr => ?_)
  refine wpAnyG_take (i := 0) (v := ?_) (by kernel_rfl) rfl (by kernel_rfl) (by kernel_rfl) (by kernel_rfl) (fun _ _ _ h => h) (Or.inl ⟨by rfl, ?_⟩) ⟨_, rfl⟩ ?_
  rotate_left
  · rintro wS ⟨yS, rfl⟩
    go_simp
    try (with_reducible rfl)
  try simp only [Act.put, List.setIfInBounds_toArray, List.set_cons_zero, List.set_cons_succ]
  refine wpAnyG_take (i := 1) (v := ?_) (by kernel_rfl) rfl (by kernel_rfl) (by kernel_rfl) (by kernel_rfl) (fun _ _ _ h => h) (Or.inl ⟨by rfl, ?_⟩) ⟨_, rfl⟩ ?_
  rotate_left
  · rintro wS ⟨yS, rfl⟩
    go_simp
    try (with_reducible rfl)
  try simp only [Act.put, List.setIfInBounds_toArray, List.set_cons_zero, List.set_cons_succ]
  refine wpAnyG_take (i := 2) (v := ?_) (by kernel_rfl) rfl (by kernel_rfl) (by kernel_rfl) (by kernel_rfl) (fun _ _ _ h => h) (Or.inl ⟨by rfl, ?_⟩) ⟨_, rfl⟩ ?_
  rotate_left
  · rintro wS ⟨yS, rfl⟩
    go_simp
    try (with_reducible rfl)
  try simp only [Act.put, List.setIfInBounds_toArray, List.set_cons_zero, List.set_cons_succ]
  refine wpAnyG_one (i := 3) (by kernel_rfl) (by decide) (wpOp_plain rfl rfl ?_)
  go_simp
  go_at_call 62
  refine (quiet_x (isPoint_any D p q c d k _)).mono ?_
  rintro e w' ⟨rfl, y1, rfl⟩
  refine ⟨⟨y1, rfl⟩, ?_⟩
  try simp only [Act.put, List.setIfInBounds_toArray, List.set_cons_zero, List.set_cons_succ]
  refine wpAnyG_one (i := 4) (by kernel_rfl) (by decide) (wpOp_plain rfl rfl ?_)
  go_simp
  go_at_call 59
  refine (quiet_x (learn_er D p q c d _ er _ hn hm (HI.out _) HE.out H0.out)).mono ?_
  rintro e w' ⟨rfl, y4, rfl⟩
  refine ⟨⟨y4, rfl⟩, ?_⟩
  try simp only [Act.put, List.setIfInBounds_toArray, List.set_cons_zero, List.set_cons_succ]
  refine wpAnyG_take (i := 5) (v := ?_) (by kernel_rfl) rfl (by kernel_rfl) (by kernel_rfl) (by kernel_rfl) (fun _ _ _ h => h) (Or.inl ⟨by rfl, ?_⟩) ⟨_, rfl⟩ ?_
  rotate_left
  · rintro wS ⟨yS, rfl⟩
    go_simp
    try (with_reducible rfl)
  try simp only [Act.put, List.setIfInBounds_toArray, List.set_cons_zero, List.set_cons_succ]
  refine wpAnyG_take (i := 6) (v := ?_) (by kernel_rfl) rfl (by kernel_rfl) (by kernel_rfl) (by kernel_rfl) (fun _ _ _ h => h) (Or.inl ⟨by rfl, ?_⟩) ⟨_, rfl⟩ ?_
  rotate_left
  · rintro wS ⟨yS, rfl⟩
    go_simp
    try (with_reducible rfl)
  try simp only [Act.put, List.setIfInBounds_toArray, List.set_cons_zero, List.set_cons_succ]
  refine wpAnyG_take (i := 7) (v := ?_) (by kernel_rfl) rfl (by kernel_rfl) (by kernel_rfl) (by kernel_rfl) (fun _ _ _ h => h) (Or.inl ⟨by rfl, ?_⟩) ⟨_, rfl⟩ ?_
  rotate_left
  · rintro wS ⟨yS, rfl⟩
    go_simp
    try (with_reducible rfl)
  try simp only [Act.put, List.setIfInBounds_toArray, List.set_cons_zero, List.set_cons_succ]
  refine wpAnyG_take (i := 8) (v := ?_) (by kernel_rfl) rfl (by kernel_rfl) (by kernel_rfl) (by kernel_rfl) (fun _ _ _ h => h) (Or.inl ⟨by rfl, ?_⟩) ⟨_, rfl⟩ ?_
  rotate_left
  · rintro wS ⟨yS, rfl⟩
    go_simp
    try (with_reducible rfl)
  try simp only [Act.put, List.setIfInBounds_toArray, List.set_cons_zero, List.set_cons_succ]
  refine wpAnyG_done (by kernel_rfl) (by kernel_rfl) (wpOp_plain rfl rfl ?_)
  go_simp
  go_wp2
  refine bodyPost_ret (v := .tuple #[.agg #[.int .i64 0, .int .i64 0], .int .i64 er]) (by simp [results, Try.f21, go_sem, G0, G1, Gz]) rfl ⟨?_, ?_⟩
  · rw [R0.out, R1.out, HE.out]
  · exact bS (bS (bT HB.out y4.b) HZ.out _) HZ.out _
set_option maxRecDepth 100000 in
set_option maxHeartbeats 2000000 in
theorem flowP_ok (D : Duct) (p q : Option Addr) (c d : Nat) (k : Int) (w : World) (hn : D.n ≤ 40) (hm : D.m ≤ 40) (hi : DuctIn w w.heap.size D p q) (he : lrnE D (isPt D k) = 0) :
    Calls Try.prog 21 #[.agg #[.slice p D.n c, .slice q D.m d], .int .i64 k] w fun e w' => e = .returned (.tuple #[.agg #[.int .i64 (flV0 D k), .int .i64 (flV1 D k)], .int .i64 (lrnE D (isPt D k))]) ∧ Below w.heap.size w w' := by
  obtain ⟨ho, his, hcl0⟩ := lrn_zero he
  have hcl : D.clash.isSome = false := by rw [hcl0]; rfl
  obtain ⟨j, rfl, hj⟩ := isPt_nat his
  obtain ⟨w1, x1, hw1, hb1, hz1, F0, F1⟩ := box_line w p q D.n D.m c d
  obtain ⟨w2, x2, hw2, hb2, hz2, G0, G1, Gz⟩ := box_two x1.v 34 0 0
  have hB2 : Below x1.v.heap.size x1.v w2 := hb2
  have HB := Lib.hid (bT (bT hb1 x1.b) hb2)
  have HI : Hid (∀ x : Ext w2, DuctIn x.v x.v.heap.size D p q) := fun x => (hi.bel (bT hb1 x1.b)).bel (bT hb2 x.b)
  have HZ : Hid (w.heap.size ≤ x1.v.heap.size) := by have := hb1.size; have := x1.b.size; show _ ≤ _; omega
  replace F0 : ∀ y : Ext w2, y.v.cell? ⟨w.heap.size, 0, none⟩ = some (.slice p D.n c) := fun y => F0 (y.up (bT x1.b hb2))
  replace F1 : ∀ y : Ext w2, y.v.cell? ⟨w.heap.size, 1, none⟩ = some (.slice q D.m d) := fun y => F1 (y.up (bT x1.b hb2))
  clear hb1 hz1 hi hb2 hz2 hB2
  have R0 := Lib.hid (show flV0 D (j : Int) = fl D j from by unfold flV0; rw [if_pos he]; simp)
  have R1 := Lib.hid (show flV1 D (j : Int) = fh D j from by unfold flV1; rw [if_pos he]; simp)
  have HE := Lib.hid he; have HO := Lib.hid ho
  clear he hcl0
  go_enter Try.func21, Try.ntmps21
  go_wp2
  refine wp_region_lastE 9 (by kernel_rfl) rfl (fun yr => ?_)
  refine wpAnyG_take (i := 0) (v := ?_) (by kernel_rfl) rfl (by kernel_rfl) (by kernel_rfl) (by kernel_rfl) (fun _ _ _ h => h) (Or.inl ⟨by rfl, ?_⟩) ⟨_, rfl⟩ ?_
  rotate_left
  · rintro wS ⟨yS, rfl⟩
    go_simp
    try (with_reducible rfl)
  try simp only [Act.put, List.setIfInBounds_toArray, List.set_cons_zero, List.set_cons_succ]
  refine wpAnyG_take (i := 1) (v := ?_) (by kernel_rfl) rfl (by kernel_rfl) (by kernel_rfl) (by kernel_rfl) (fun _ _ _ h => h) (Or.inl ⟨by rfl, ?_⟩) ⟨_, rfl⟩ ?_
  rotate_left
  · rintro wS ⟨yS, rfl⟩
    go_simp
    try (with_reducible rfl)
  try simp only [Act.put, List.setIfInBounds_toArray, List.set_cons_zero, List.set_cons_succ]
  refine wpAnyG_take (i := 2) (v := ?_) (by kernel_rfl) rfl (by kernel_rfl) (by kernel_rfl) (by kernel_rfl) (fun _ _ _ h => h) (Or.inl ⟨by rfl, ?_⟩) ⟨_, rfl⟩ ?_
  rotate_left
  · rintro wS ⟨yS, rfl⟩
    go_simp
    try (with_reducible rfl)
  try simp only [Act.put, List.setIfInBounds_toArray, List.set_cons_zero, List.set_cons_succ]
  refine wpAnyG_one (i := 3) (by kernel_rfl) (by decide) (wpOp_plain rfl rfl ?_)
  go_simp
  go_at_call 62
  refine (quiet_x (isPoint_any D p q c d (j : Int) _)).mono ?_
  rintro e w' ⟨rfl, y1, rfl⟩
  refine ⟨⟨y1, rfl⟩, ?_⟩
  try simp only [Act.put, List.setIfInBounds_toArray, List.set_cons_zero, List.set_cons_succ]
  refine wpAnyG_one (i := 4) (by kernel_rfl) (by decide) (wpOp_plain rfl rfl ?_)
  go_simp
  go_at_call 59
  refine (learn_ok D p q c d _ hn hm (HI.out _) ho hcl).mono ?_
  rintro e w' ⟨g, c', rfl, hb, hf⟩
  obtain ⟨y4, rfl⟩ : ∃ y4 : Ext w2, w' = y4.v := ⟨⟨w', bT (Ext.b _) hb⟩, rfl⟩
  have HF := Lib.hid hf
  clear hb hf
  refine ⟨⟨y4, rfl⟩, ?_⟩
  try simp only [Act.put, List.setIfInBounds_toArray, List.set_cons_zero, List.set_cons_succ]
  refine wpAnyG_take (i := 5) (v := ?_) (by kernel_rfl) rfl (by kernel_rfl) (by kernel_rfl) (by kernel_rfl) (fun _ _ _ h => h) (Or.inl ⟨by rfl, ?_⟩) ⟨_, rfl⟩ ?_
  rotate_left
  · rintro wS ⟨yS, rfl⟩
    go_simp
    try (with_reducible rfl)
  try simp only [Act.put, List.setIfInBounds_toArray, List.set_cons_zero, List.set_cons_succ]
  refine wpAnyG_take (i := 6) (v := ?_) (by kernel_rfl) rfl (by kernel_rfl) (by kernel_rfl) (by kernel_rfl) (fun _ _ _ h => h) (Or.inl ⟨by rfl, ?_⟩) ⟨_, rfl⟩ ?_
  rotate_left
  · rintro wS ⟨yS, rfl⟩
    go_simp
    try (with_reducible rfl)
  try simp only [Act.put, List.setIfInBounds_toArray, List.set_cons_zero, List.set_cons_succ]
  refine wpAnyG_take (i := 7) (v := ?_) (by kernel_rfl) rfl (by kernel_rfl) (by kernel_rfl) (by kernel_rfl) (fun _ _ _ h => h) (Or.inl ⟨by rfl, ?_⟩) ⟨_, rfl⟩ ?_
  rotate_left
  · rintro wS ⟨yS, rfl⟩
    go_simp
    try (with_reducible rfl)
  try simp only [Act.put, List.setIfInBounds_toArray, List.set_cons_zero, List.set_cons_succ]
  refine wpAnyG_take (i := 8) (v := ?_) (by kernel_rfl) rfl (by kernel_rfl) (by kernel_rfl) (by kernel_rfl) (fun _ _ _ h => h) (Or.inl ⟨by rfl, ?_⟩) ⟨_, rfl⟩ ?_
  rotate_left
  · rintro wS ⟨yS, rfl⟩
    go_simp
    try (with_reducible rfl)
  try simp only [Act.put, List.setIfInBounds_toArray, List.set_cons_zero, List.set_cons_succ]
  refine wpAnyG_done (by kernel_rfl) (by kernel_rfl) (wpOp_plain rfl rfl ?_)
  go_simp
  have e0 := HF.out.c0 j hj
  have e1 := HF.out.c1 j hj
  have hjn : (j : Int) < (D.n : Int) := by omega
  go_wp2
  refine bodyPost_ret (v := .tuple #[.agg #[.int .i64 (fl D j), .int .i64 (fh D j)], .int .i64 0]) (by simp [results, Try.f21, go_sem, G0, G1, Gz]) rfl ⟨?_, ?_⟩
  · rw [R0.out, R1.out, HE.out]
  · exact bS (bS (bT HB.out (Ext.b _)) HZ.out _) HZ.out _
theorem flowP_any (D : Duct) (p q : Option Addr) (c d : Nat) (k : Int) (w : World) (hn : D.n ≤ 40) (hm : D.m ≤ 40) (hi : DuctIn w w.heap.size D p q) :
    Calls Try.prog 21 #[.agg #[.slice p D.n c, .slice q D.m d], .int .i64 k] w fun e w' => e = .returned (.tuple #[.agg #[.int .i64 (flV0 D k), .int .i64 (flV1 D k)], .int .i64 (lrnE D (isPt D k))]) ∧ Below w.heap.size w w' := by
  by_cases h : lrnE D (isPt D k) = 0
  · exact flowP_ok D p q c d k w hn hm hi h
  · exact flowP_er D p q c d k _ w hn hm hi rfl h
set_option maxRecDepth 100000 in
set_option maxHeartbeats 2000000 in
theorem lossP_er (D : Duct) (p q : Option Addr) (c d : Nat) (k er : Int) (w : World) (hn : D.n ≤ 40) (hm : D.m ≤ 40) (hi : DuctIn w w.heap.size D p q) (he : lrnE D (isSt D k) = er) (h0 : er ≠ 0) :
    Calls Try.prog 23 #[.agg #[.slice p D.n c, .slice q D.m d], .int .i64 k] w fun e w' => e = .returned (.tuple #[.agg #[.int .i64 (lsV0 D k), .int .i64 (lsV1 D k)], .int .i64 (lrnE D (isSt D k))]) ∧ Below w.heap.size w w' := by
  obtain ⟨w1, x1, hw1, hb1, hz1, F0, F1⟩ := box_line w p q D.n D.m c d
  obtain ⟨w2, x2, hw2, hb2, hz2, G0, G1, Gz⟩ := box_two x1.v 34 0 0
  have hB2 : Below x1.v.heap.size x1.v w2 := hb2
  have HB := Lib.hid (bT (bT hb1 x1.b) hb2)
  have HI : Hid (∀ x : Ext w2, DuctIn x.v x.v.heap.size D p q) := fun x => (hi.bel (bT hb1 x1.b)).bel (bT hb2 x.b)
  have HZ : Hid (w.heap.size ≤ x1.v.heap.size) := by have := hb1.size; have := x1.b.size; show _ ≤ _; omega
  replace F0 : ∀ y : Ext w2, y.v.cell? ⟨w.heap.size, 0, none⟩ = some (.slice p D.n c) := fun y => F0 (y.up (bT x1.b hb2))
  replace F1 : ∀ y : Ext w2, y.v.cell? ⟨w.heap.size, 1, none⟩ = some (.slice q D.m d) := fun y => F1 (y.up (bT x1.b hb2))
  clear hb1 hz1 hi hb2 hz2 hB2
  have R0 := Lib.hid (show lsV0 D k = 0 from by unfold lsV0; rw [if_neg (by rw [he]; exact h0)])
  have R1 := Lib.hid (show lsV1 D k = 0 from by unfold lsV1; rw [if_neg (by rw [he]; exact h0)])
  have HE := Lib.hid he; have H0 := Lib.hid h0
  have hne : (er != 0) = true := by simpa using h0
  clear he h0
  go_enter Try.func23, Try.ntmps23
  go_wp2
  refine wp_region_lastE 9 (by kernel_rfl) rfl (fun yr => ?_)
  refine wpAnyG_take (i := 0) (v := ?_) (by kernel_rfl) rfl (by kernel_rfl) (by kernel_rfl) (by kernel_rfl) (fun _ _ _ h => h) (Or.inl ⟨by rfl, ?_⟩) ⟨_, rfl⟩ ?_
  rotate_left
  · rintro wS ⟨yS, rfl⟩
    go_simp
    try (with_reducible rfl)
  try simp only [Act.put, List.setIfInBounds_toArray, List.set_cons_zero, List.set_cons_succ]
  refine wpAnyG_take (i := 1) (v := ?_) (by kernel_rfl) rfl (by kernel_rfl) (by kernel_rfl) (by kernel_rfl) (fun _ _ _ h => h) (Or.inl ⟨by rfl, ?_⟩) ⟨_, rfl⟩ ?_
  rotate_left
  · rintro wS ⟨yS, rfl⟩
    go_simp
    try (with_reducible rfl)
  try simp only [Act.put, List.setIfInBounds_toArray, List.set_cons_zero, List.set_cons_succ]
  refine wpAnyG_take (i := 2) (v := ?_) (by kernel_rfl) rfl (by kernel_rfl) (by kernel_rfl) (by kernel_rfl) (fun _ _ _ h => h) (Or.inl ⟨by rfl, ?_⟩) ⟨_, rfl⟩ ?_
  rotate_left
  · rintro wS ⟨yS, rfl⟩
    go_simp
    try (with_reducible rfl)
  try simp only [Act.put, List.setIfInBounds_toArray, List.set_cons_zero, List.set_cons_succ]
  refine wpAnyG_one (i := 3) (by kernel_rfl) (by decide) (wpOp_plain rfl rfl ?_)
  go_simp
  go_at_call 63
  refine (quiet_x (isStretch_any D p q c d k _)).mono ?_
  rintro e w' ⟨rfl, y1, rfl⟩
  refine ⟨⟨y1, rfl⟩, ?_⟩
  try simp only [Act.put, List.setIfInBounds_toArray, List.set_cons_zero, List.set_cons_succ]
  refine wpAnyG_one (i := 4) (by kernel_rfl) (by decide) (wpOp_plain rfl rfl ?_)
  go_simp
  go_at_call 59
  refine (quiet_x (learn_er D p q c d _ er _ hn hm (HI.out _) HE.out H0.out)).mono ?_
  rintro e w' ⟨rfl, y4, rfl⟩
  refine ⟨⟨y4, rfl⟩, ?_⟩
  try simp only [Act.put, List.setIfInBounds_toArray, List.set_cons_zero, List.set_cons_succ]
  refine wpAnyG_take (i := 5) (v := ?_) (by kernel_rfl) rfl (by kernel_rfl) (by kernel_rfl) (by kernel_rfl) (fun _ _ _ h => h) (Or.inl ⟨by rfl, ?_⟩) ⟨_, rfl⟩ ?_
  rotate_left
  · rintro wS ⟨yS, rfl⟩
    go_simp
    try (with_reducible rfl)
  try simp only [Act.put, List.setIfInBounds_toArray, List.set_cons_zero, List.set_cons_succ]
  refine wpAnyG_take (i := 6) (v := ?_) (by kernel_rfl) rfl (by kernel_rfl) (by kernel_rfl) (by kernel_rfl) (fun _ _ _ h => h) (Or.inl ⟨by rfl, ?_⟩) ⟨_, rfl⟩ ?_
  rotate_left
  · rintro wS ⟨yS, rfl⟩
    go_simp
    try (with_reducible rfl)
  try simp only [Act.put, List.setIfInBounds_toArray, List.set_cons_zero, List.set_cons_succ]
  refine wpAnyG_take (i := 7) (v := ?_) (by kernel_rfl) rfl (by kernel_rfl) (by kernel_rfl) (by kernel_rfl) (fun _ _ _ h => h) (Or.inl ⟨by rfl, ?_⟩) ⟨_, rfl⟩ ?_
  rotate_left
  · rintro wS ⟨yS, rfl⟩
    go_simp
    try (with_reducible rfl)
  try simp only [Act.put, List.setIfInBounds_toArray, List.set_cons_zero, List.set_cons_succ]
  refine wpAnyG_take (i := 8) (v := ?_) (by kernel_rfl) rfl (by kernel_rfl) (by kernel_rfl) (by kernel_rfl) (fun _ _ _ h => h) (Or.inl ⟨by rfl, ?_⟩) ⟨_, rfl⟩ ?_
  rotate_left
  · rintro wS ⟨yS, rfl⟩
    go_simp
    try (with_reducible rfl)
  try simp only [Act.put, List.setIfInBounds_toArray, List.set_cons_zero, List.set_cons_succ]
  refine wpAnyG_done (by kernel_rfl) (by kernel_rfl) (wpOp_plain rfl rfl ?_)
  go_simp
  go_wp2
  refine bodyPost_ret (v := .tuple #[.agg #[.int .i64 0, .int .i64 0], .int .i64 er]) (by simp [results, Try.f23, go_sem, G0, G1, Gz]) rfl ⟨?_, ?_⟩
  · rw [R0.out, R1.out, HE.out]
  · exact bS (bS (bT HB.out y4.b) HZ.out _) HZ.out _
set_option maxRecDepth 100000 in
set_option maxHeartbeats 2000000 in
theorem lossP_ok (D : Duct) (p q : Option Addr) (c d : Nat) (k : Int) (w : World) (hn : D.n ≤ 40) (hm : D.m ≤ 40) (hi : DuctIn w w.heap.size D p q) (he : lrnE D (isSt D k) = 0) :
    Calls Try.prog 23 #[.agg #[.slice p D.n c, .slice q D.m d], .int .i64 k] w fun e w' => e = .returned (.tuple #[.agg #[.int .i64 (lsV0 D k), .int .i64 (lsV1 D k)], .int .i64 (lrnE D (isSt D k))]) ∧ Below w.heap.size w w' := by
  obtain ⟨ho, his, hcl0⟩ := lrn_zero he
  have hcl : D.clash.isSome = false := by rw [hcl0]; rfl
  obtain ⟨j, rfl, hj⟩ := isSt_nat his
  obtain ⟨w1, x1, hw1, hb1, hz1, F0, F1⟩ := box_line w p q D.n D.m c d
  obtain ⟨w2, x2, hw2, hb2, hz2, G0, G1, Gz⟩ := box_two x1.v 34 0 0
  have hB2 : Below x1.v.heap.size x1.v w2 := hb2
  have HB := Lib.hid (bT (bT hb1 x1.b) hb2)
  have HI : Hid (∀ x : Ext w2, DuctIn x.v x.v.heap.size D p q) := fun x => (hi.bel (bT hb1 x1.b)).bel (bT hb2 x.b)
  have HZ : Hid (w.heap.size ≤ x1.v.heap.size) := by have := hb1.size; have := x1.b.size; show _ ≤ _; omega
  replace F0 : ∀ y : Ext w2, y.v.cell? ⟨w.heap.size, 0, none⟩ = some (.slice p D.n c) := fun y => F0 (y.up (bT x1.b hb2))
  replace F1 : ∀ y : Ext w2, y.v.cell? ⟨w.heap.size, 1, none⟩ = some (.slice q D.m d) := fun y => F1 (y.up (bT x1.b hb2))
  clear hb1 hz1 hi hb2 hz2 hB2
  have R0 := Lib.hid (show lsV0 D (j : Int) = lsL D j (j + 1) from by unfold lsV0; rw [if_pos he]; simp)
  have R1 := Lib.hid (show lsV1 D (j : Int) = lsH D j (j + 1) from by unfold lsV1; rw [if_pos he]; simp)
  have HE := Lib.hid he; have HO := Lib.hid ho
  clear he hcl0
  go_enter Try.func23, Try.ntmps23
  go_wp2
  refine wp_region_lastE 9 (by kernel_rfl) rfl (fun yr => ?_)
  refine wpAnyG_take (i := 0) (v := ?_) (by kernel_rfl) rfl (by kernel_rfl) (by kernel_rfl) (by kernel_rfl) (fun _ _ _ h => h) (Or.inl ⟨by rfl, ?_⟩) ⟨_, rfl⟩ ?_
  rotate_left
  · rintro wS ⟨yS, rfl⟩
    go_simp
    try (with_reducible rfl)
  try simp only [Act.put, List.setIfInBounds_toArray, List.set_cons_zero, List.set_cons_succ]
  refine wpAnyG_take (i := 1) (v := ?_) (by kernel_rfl) rfl (by kernel_rfl) (by kernel_rfl) (by kernel_rfl) (fun _ _ _ h => h) (Or.inl ⟨by rfl, ?_⟩) ⟨_, rfl⟩ ?_
  rotate_left
  · rintro wS ⟨yS, rfl⟩
    go_simp
    try (with_reducible rfl)
  try simp only [Act.put, List.setIfInBounds_toArray, List.set_cons_zero, List.set_cons_succ]
  refine wpAnyG_take (i := 2) (v := ?_) (by kernel_rfl) rfl (by kernel_rfl) (by kernel_rfl) (by kernel_rfl) (fun _ _ _ h => h) (Or.inl ⟨by rfl, ?_⟩) ⟨_, rfl⟩ ?_
  rotate_left
  · rintro wS ⟨yS, rfl⟩
    go_simp
    try (with_reducible rfl)
  try simp only [Act.put, List.setIfInBounds_toArray, List.set_cons_zero, List.set_cons_succ]
  refine wpAnyG_one (i := 3) (by kernel_rfl) (by decide) (wpOp_plain rfl rfl ?_)
  go_simp
  go_at_call 63
  refine (quiet_x (isStretch_any D p q c d (j : Int) _)).mono ?_
  rintro e w' ⟨rfl, y1, rfl⟩
  refine ⟨⟨y1, rfl⟩, ?_⟩
  try simp only [Act.put, List.setIfInBounds_toArray, List.set_cons_zero, List.set_cons_succ]
  refine wpAnyG_one (i := 4) (by kernel_rfl) (by decide) (wpOp_plain rfl rfl ?_)
  go_simp
  go_at_call 59
  refine (learn_ok D p q c d _ hn hm (HI.out _) ho hcl).mono ?_
  rintro e w' ⟨g, c', rfl, hb, hf⟩
  obtain ⟨y4, rfl⟩ : ∃ y4 : Ext w2, w' = y4.v := ⟨⟨w', bT (Ext.b _) hb⟩, rfl⟩
  have HF := Lib.hid hf
  clear hb hf
  refine ⟨⟨y4, rfl⟩, ?_⟩
  try simp only [Act.put, List.setIfInBounds_toArray, List.set_cons_zero, List.set_cons_succ]
  refine wpAnyG_take (i := 5) (v := ?_) (by kernel_rfl) rfl (by kernel_rfl) (by kernel_rfl) (by kernel_rfl) (fun _ _ _ h => h) (Or.inl ⟨by rfl, ?_⟩) ⟨_, rfl⟩ ?_
  rotate_left
  · rintro wS ⟨yS, rfl⟩
    go_simp
    try (with_reducible rfl)
  try simp only [Act.put, List.setIfInBounds_toArray, List.set_cons_zero, List.set_cons_succ]
  refine wpAnyG_take (i := 6) (v := ?_) (by kernel_rfl) rfl (by kernel_rfl) (by kernel_rfl) (by kernel_rfl) (fun _ _ _ h => h) (Or.inl ⟨by rfl, ?_⟩) ⟨_, rfl⟩ ?_
  rotate_left
  · rintro wS ⟨yS, rfl⟩
    go_simp
    try (with_reducible rfl)
  try simp only [Act.put, List.setIfInBounds_toArray, List.set_cons_zero, List.set_cons_succ]
  refine wpAnyG_take (i := 7) (v := ?_) (by kernel_rfl) rfl (by kernel_rfl) (by kernel_rfl) (by kernel_rfl) (fun _ _ _ h => h) (Or.inl ⟨by rfl, ?_⟩) ⟨_, rfl⟩ ?_
  rotate_left
  · rintro wS ⟨yS, rfl⟩
    go_simp
    try (with_reducible rfl)
  try simp only [Act.put, List.setIfInBounds_toArray, List.set_cons_zero, List.set_cons_succ]
  refine wpAnyG_take (i := 8) (v := ?_) (by kernel_rfl) rfl (by kernel_rfl) (by kernel_rfl) (by kernel_rfl) (fun _ _ _ h => h) (Or.inl ⟨by rfl, ?_⟩) ⟨_, rfl⟩ ?_
  rotate_left
  · rintro wS ⟨yS, rfl⟩
    go_simp
    try (with_reducible rfl)
  try simp only [Act.put, List.setIfInBounds_toArray, List.set_cons_zero, List.set_cons_succ]
  refine wpAnyG_done (by kernel_rfl) (by kernel_rfl) (wpOp_plain rfl rfl ?_)
  go_simp
  go_wp2_with (go_at_call 64; refine (quiet_x (loss_any D g c' j _ hn HO.out hj HF.out)).mono ?_; rintro e w' ⟨rfl, y4, rfl⟩)
  refine bodyPost_ret (v := .tuple #[.agg #[.int .i64 (lsL D j (j + 1)), .int .i64 (lsH D j (j + 1))], .int .i64 0]) (by simp [results, Try.f23, go_sem, G0, G1, Gz]) rfl ⟨?_, ?_⟩
  · rw [R0.out, R1.out, HE.out]
  · exact bS (bS (bT HB.out (Ext.b _)) HZ.out _) HZ.out _
theorem lossP_any (D : Duct) (p q : Option Addr) (c d : Nat) (k : Int) (w : World) (hn : D.n ≤ 40) (hm : D.m ≤ 40) (hi : DuctIn w w.heap.size D p q) :
    Calls Try.prog 23 #[.agg #[.slice p D.n c, .slice q D.m d], .int .i64 k] w fun e w' => e = .returned (.tuple #[.agg #[.int .i64 (lsV0 D k), .int .i64 (lsV1 D k)], .int .i64 (lrnE D (isSt D k))]) ∧ Below w.heap.size w w' := by
  by_cases h : lrnE D (isSt D k) = 0
  · exact lossP_ok D p q c d k w hn hm hi h
  · exact lossP_er D p q c d k _ w hn hm hi rfl h
end Go.Proofs.Ytkdlppekjjbgoaa
