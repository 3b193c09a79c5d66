/- Rosters of hours: Least, Far and Fewest of the program. -/
import Derived.Test.YtegkgfiaegpihaaM4

set_option linter.unusedSimpArgs false

set_option linter.unusedVariables false

namespace Go.Proofs.Ytegkgfiaegpihaa

open Go.RowKit

theorem orNone_int (v : Int) (b : Bool) (w : World) : Calls Try.prog 75 #[.int .i64 v, .bool b] w fun e w' => e = .returned (.tuple #[.int .i64 (if b then v else 0), .int .i64 (if b then 0 else 3)]) ∧ w = w' := by
  cases b with
  | false =>
    go_enter Try.func75, Try.ntmps75
    go_wp2
    go_ret2
    exact ⟨rfl, rfl⟩
  | true =>
    go_enter Try.func75, Try.ntmps75
    go_wp2
    go_ret2
    exact ⟨rfl, rfl⟩
theorem orNone_is {v a er : Int} {b : Bool} (h1 : (if b then v else 0) = a) (h2 : (if b then 0 else 3) = er) (w : World) : Calls Try.prog 75 #[.int .i64 v, .bool b] w fun e w' => e = .returned (.tuple #[.int .i64 a, .int .i64 er]) ∧ w = w' := by
  subst h1; subst h2; exact orNone_int v b w
set_option maxRecDepth 100000 in
set_option maxHeartbeats 8000000 in
theorem leastOf_any (D : Ro) (p q : Option Addr) (c d : Nat) (hD : OkP D) (w : World) (hI : RoIn w w.heap.size D p q) : Calls Try.prog 76 #[.agg #[.slice p D.n c, .slice q D.m d]] w fun e w' => e = .returned (.tuple #[.int .i64 (lsC D), .bool (!(best D (prC D)).no)]) ∧ Below w.heap.size w w' := by
  unfold lsC
  obtain ⟨w1, x, hw1, hb1, hz1, F0, F1, _⟩ := box_ro w p q D.n D.m c d
  have HB := Lib.hid hb1; have HD := Lib.hid hD
  have HI : Hid (∀ x : Ext w1, RoIn x.v x.v.heap.size D p q) := fun x => (hI.bel hb1).bel x.b
  have hm6 := hD.m; have hn8 := hD.n
  clear hb1 hz1 hI hD
  go_enter Try.func76, Try.ntmps76
  go_wp2
  refine wp_region_lastE 8 (by kernel_rfl) rfl (fun y0 => ?_)
  refine wpAnyG_take (i := 0) (v := ?_) (by kernel_rfl) rfl (by kernel_rfl) (by kernel_rfl) (by kernel_rfl) (fun _ _ _ h => h) (Or.inl ⟨by rfl, ?_⟩) ⟨_, rfl⟩ ?_
  rotate_left
  · rintro wS ⟨yS, rfl⟩
    go_simp
    try (with_reducible rfl)
  try simp only [Act.put, List.setIfInBounds_toArray, List.set_cons_zero, List.set_cons_succ]
  refine wpAnyG_take (i := 1) (v := ?_) (by kernel_rfl) rfl (by kernel_rfl) (by kernel_rfl) (by kernel_rfl) (fun _ _ _ h => h) (Or.inl ⟨by rfl, ?_⟩) ⟨_, rfl⟩ ?_
  rotate_left
  · rintro wS ⟨yS, rfl⟩
    go_simp
    try (with_reducible rfl)
  try simp only [Act.put, List.setIfInBounds_toArray, List.set_cons_zero, List.set_cons_succ]
  refine wpAnyG_one (i := 2) (by kernel_rfl) (by decide) (wpOp_plain rfl rfl ?_)
  go_simp
  go_at_call 64
  refine (costs_any D p q c d HD.out _ (HI.out y0)).mono ?_
  rintro e y1w ⟨c1, rfl, hb1, hp1⟩
  obtain ⟨y1, rfl⟩ : ∃ zz : Ext w1, y1w = zz.v := ⟨⟨y1w, bT y0.b hb1⟩, rfl⟩
  refine ⟨⟨_, rfl⟩, ?_⟩
  try simp only [Act.put, List.setIfInBounds_toArray, List.set_cons_zero, List.set_cons_succ]
  have HP1 := Lib.hid hp1; clear hp1 hb1
  refine wpAnyG_one (i := 3) (by kernel_rfl) (by decide) (wpOp_plain rfl rfl ?_)
  go_simp
  go_at_call 63
  refine (newFinder_any D (prC D) p q c d _ c1 y1.v).mono ?_
  rintro e y4w ⟨fb, mb, rfl, hb4, hf4⟩
  obtain ⟨y4, rfl⟩ : ∃ zz : Ext w1, y4w = zz.v := ⟨⟨y4w, bT y1.b hb4⟩, rfl⟩
  refine ⟨⟨_, rfl⟩, ?_⟩
  try simp only [Act.put, List.setIfInBounds_toArray, List.set_cons_zero, List.set_cons_succ]
  have HF4 := Lib.hid hf4; clear hf4 hb4
  refine wpAnyG_one (i := 4) (by kernel_rfl) (by decide) (wpOp_plain rfl rfl ?_)
  go_simp
  go_at_call 90
  refine (least_any y1.v D (prC D) p q c d 93 c1 fb mb HD.out (prC_bd HD.out) HP1.out (HI.out y1) y4.v HF4.out).mono ?_
  rintro e y5w ⟨rfl, hg5, hm5⟩
  obtain ⟨y5, rfl⟩ : ∃ zz : Ext w1, y5w = zz.v := ⟨⟨y5w, bT y1.b (HF4.out.gr hg5 hm5).b⟩, rfl⟩
  refine ⟨⟨_, rfl⟩, ?_⟩
  try simp only [Act.put, List.setIfInBounds_toArray, List.set_cons_zero, List.set_cons_succ]
  clear hg5 hm5
  refine wpAnyG_take (i := 5) (v := ?_) (by kernel_rfl) rfl (by kernel_rfl) (by kernel_rfl) (by kernel_rfl) (fun _ _ _ h => h) (Or.inl ⟨by rfl, ?_⟩) ⟨_, rfl⟩ ?_
  rotate_left
  · rintro wS ⟨yS, rfl⟩
    go_simp
    try (with_reducible rfl)
  try simp only [Act.put, List.setIfInBounds_toArray, List.set_cons_zero, List.set_cons_succ]
  refine wpAnyG_take (i := 6) (v := ?_) (by kernel_rfl) rfl (by kernel_rfl) (by kernel_rfl) (by kernel_rfl) (fun _ _ _ h => h) (Or.inl ⟨by rfl, ?_⟩) ⟨_, rfl⟩ ?_
  rotate_left
  · rintro wS ⟨yS, rfl⟩
    go_simp
    try (with_reducible rfl)
  try simp only [Act.put, List.setIfInBounds_toArray, List.set_cons_zero, List.set_cons_succ]
  refine wpAnyG_take (i := 7) (v := ?_) (by kernel_rfl) rfl (by kernel_rfl) (by kernel_rfl) (by kernel_rfl) (fun _ _ _ h => h) (Or.inl ⟨by rfl, ?_⟩) ⟨_, rfl⟩ ?_
  rotate_left
  · rintro wS ⟨yS, rfl⟩
    go_simp
    try (with_reducible rfl)
  try simp only [Act.put, List.setIfInBounds_toArray, List.set_cons_zero, List.set_cons_succ]
  refine wpAnyG_done (by kernel_rfl) (by kernel_rfl) (wpOp_plain rfl rfl ?_)
  go_simp
  go_wp2
  go_ret2
  exact ⟨rfl, bT HB.out y5.b⟩
set_option maxRecDepth 100000 in
set_option maxHeartbeats 4000000 in
theorem leastP_any (D : Ro) (p q : Option Addr) (c d : Nat) (hD : OkP D) (w : World) (hI : RoIn w w.heap.size D p q) : Calls Try.prog 35 #[.agg #[.slice p D.n c, .slice q D.m d]] w fun e w' => e = .returned (.tuple #[.int .i64 (if (!(best D (prC D)).no) then lsC D else 0), .int .i64 (if (!(best D (prC D)).no) then 0 else 3)]) ∧ Below w.heap.size w w' := by
  obtain ⟨w1, x, hw1, hb1, hz1, F0, F1, _⟩ := box_ro w p q D.n D.m c d
  have HB := Lib.hid hb1; have HD := Lib.hid hD
  have HI : Hid (∀ x : Ext w1, RoIn x.v x.v.heap.size D p q) := fun x => (hI.bel hb1).bel x.b
  have hm6 := hD.m; have hn8 := hD.n
  clear hb1 hz1 hI hD
  have HO := Lib.hid (Ro.ok_iff.2 HD.out)
  have j0 : ((0 : Int) != 0) = false := by decide
  obtain ⟨ex, hex⟩ : ∃ b, (!(best D (prC D)).no) = b := ⟨_, rfl⟩
  obtain ⟨vl, hvl⟩ : ∃ b, lsC D = b := ⟨_, rfl⟩
  have HIN := Lib.hid (fun y : Ext w1 => leastOf_any D p q c d HD.out y.v (HI.out y))
  rw [hex, hvl] at HIN ⊢
  clear hex hvl
  obtain ⟨ra, hra⟩ : ∃ a, (if ex then vl else 0) = a := ⟨_, rfl⟩
  obtain ⟨rb, hrb⟩ : ∃ a : Int, (if ex then 0 else 3) = a := ⟨_, rfl⟩
  have HRA := Lib.hid hra; have HRB := Lib.hid hrb
  rw [hra, hrb]
  clear hra hrb
  go_enter Try.func35, Try.ntmps35
  go_wp2_with fail
  refine (quiet_x (checkP_is (chk_ok HO.out) _ (by unfold maxLen; omega) (by unfold maxLen; omega) (HI.out _))).mono ?_
  rintro e w' ⟨rfl, y, rfl⟩
  go_wp2_with fail
  refine (quiet_x (HIN.out _)).mono ?_
  rintro e w' ⟨rfl, y2, rfl⟩
  go_wp2_with fail
  refine (orNone_is HRA.out HRB.out _).mono ?_
  rintro e w' ⟨rfl, rfl⟩
  go_wp2
  go_ret2
  exact ⟨rfl, bT HB.out y2.b⟩
set_option maxRecDepth 100000 in
set_option maxHeartbeats 8000000 in
theorem fewestP_any (D : Ro) (p q : Option Addr) (c d : Nat) (hD : OkP D) (w : World) (hI : RoIn w w.heap.size D p q) : Calls Try.prog 55 #[.agg #[.slice p D.n c, .slice q D.m d]] w fun e w' => e = .returned (.tuple #[.int .i64 (if (!(best D (prN D)).no) then fwC D else 0), .int .i64 (if (!(best D (prN D)).no) then 0 else 3)]) ∧ Below w.heap.size w w' := by
  unfold fwC
  obtain ⟨w1, x, hw1, hb1, hz1, F0, F1, _⟩ := box_ro w p q D.n D.m c d
  have HB := Lib.hid hb1; have HD := Lib.hid hD
  have HI : Hid (∀ x : Ext w1, RoIn x.v x.v.heap.size D p q) := fun x => (hI.bel hb1).bel x.b
  have hm6 := hD.m; have hn8 := hD.n
  clear hb1 hz1 hI hD
  have HO := Lib.hid (Ro.ok_iff.2 HD.out)
  have j0 : ((0 : Int) != 0) = false := by decide
  obtain ⟨ra, hra⟩ : ∃ a, (if (!(best D (prN D)).no) then (best D (prN D)).c else 0) = a := ⟨_, rfl⟩
  obtain ⟨rb, hrb⟩ : ∃ a : Int, (if (!(best D (prN D)).no) then 0 else 3) = a := ⟨_, rfl⟩
  have HRA := Lib.hid hra; have HRB := Lib.hid hrb
  rw [hra, hrb]
  clear hra hrb
  go_enter Try.func55, Try.ntmps55
  go_wp2_with fail
  refine (quiet_x (checkP_is (chk_ok HO.out) _ (by unfold maxLen; omega) (by unfold maxLen; omega) (HI.out _))).mono ?_
  rintro e w' ⟨rfl, y, rfl⟩
  go_wp2
  refine wp_region_lastE 11 (by kernel_rfl) rfl (fun y0 => ?_)
  refine wpAnyG_take (i := 0) (v := ?_) (by kernel_rfl) rfl (by kernel_rfl) (by kernel_rfl) (by kernel_rfl) (fun _ _ _ h => h) (Or.inl ⟨by rfl, ?_⟩) ⟨_, rfl⟩ ?_
  rotate_left
  · rintro wS ⟨yS, rfl⟩
    go_simp
    try (with_reducible rfl)
  try simp only [Act.put, List.setIfInBounds_toArray, List.set_cons_zero, List.set_cons_succ]
  refine wpAnyG_take (i := 1) (v := ?_) (by kernel_rfl) rfl (by kernel_rfl) (by kernel_rfl) (by kernel_rfl) (fun _ _ _ h => h) (Or.inl ⟨by rfl, ?_⟩) ⟨_, rfl⟩ ?_
  rotate_left
  · rintro wS ⟨yS, rfl⟩
    go_simp
    try (with_reducible rfl)
  try simp only [Act.put, List.setIfInBounds_toArray, List.set_cons_zero, List.set_cons_succ]
  refine wpAnyG_one (i := 2) (by kernel_rfl) (by decide) (wpOp_plain rfl rfl ?_)
  go_simp
  go_at_call 89
  refine (counts_any D p q c d HD.out _ (HI.out y0)).mono ?_
  rintro e y1w ⟨c1, rfl, hb1, hp1⟩
  obtain ⟨y1, rfl⟩ : ∃ zz : Ext w1, y1w = zz.v := ⟨⟨y1w, bT y0.b hb1⟩, rfl⟩
  refine ⟨⟨_, rfl⟩, ?_⟩
  try simp only [Act.put, List.setIfInBounds_toArray, List.set_cons_zero, List.set_cons_succ]
  have HP1 := Lib.hid hp1; clear hp1 hb1
  refine wpAnyG_one (i := 3) (by kernel_rfl) (by decide) (wpOp_plain rfl rfl ?_)
  go_simp
  go_at_call 63
  refine (newFinder_any D (prN D) p q c d _ c1 y1.v).mono ?_
  rintro e y4w ⟨fb, mb, rfl, hb4, hf4⟩
  obtain ⟨y4, rfl⟩ : ∃ zz : Ext w1, y4w = zz.v := ⟨⟨y4w, bT y1.b hb4⟩, rfl⟩
  refine ⟨⟨_, rfl⟩, ?_⟩
  try simp only [Act.put, List.setIfInBounds_toArray, List.set_cons_zero, List.set_cons_succ]
  have HF4 := Lib.hid hf4; clear hf4 hb4
  refine wpAnyG_one (i := 4) (by kernel_rfl) (by decide) (wpOp_plain rfl rfl ?_)
  go_simp
  go_at_call 90
  refine (least_any y1.v D (prN D) p q c d 107 c1 fb mb HD.out (prN_bd HD.out) HP1.out (HI.out y1) y4.v HF4.out).mono ?_
  rintro e y5w ⟨rfl, hg5, hm5⟩
  obtain ⟨y5, rfl⟩ : ∃ zz : Ext w1, y5w = zz.v := ⟨⟨y5w, bT y1.b (HF4.out.gr hg5 hm5).b⟩, rfl⟩
  refine ⟨⟨_, rfl⟩, ?_⟩
  try simp only [Act.put, List.setIfInBounds_toArray, List.set_cons_zero, List.set_cons_succ]
  clear hg5 hm5
  refine wpAnyG_take (i := 5) (v := ?_) (by kernel_rfl) rfl (by kernel_rfl) (by kernel_rfl) (by kernel_rfl) (fun _ _ _ h => h) (Or.inl ⟨by rfl, ?_⟩) ⟨_, rfl⟩ ?_
  rotate_left
  · rintro wS ⟨yS, rfl⟩
    go_simp
    try (with_reducible rfl)
  try simp only [Act.put, List.setIfInBounds_toArray, List.set_cons_zero, List.set_cons_succ]
  refine wpAnyG_take (i := 6) (v := ?_) (by kernel_rfl) rfl (by kernel_rfl) (by kernel_rfl) (by kernel_rfl) (fun _ _ _ h => h) (Or.inl ⟨by rfl, ?_⟩) ⟨_, rfl⟩ ?_
  rotate_left
  · rintro wS ⟨yS, rfl⟩
    go_simp
    try (with_reducible rfl)
  try simp only [Act.put, List.setIfInBounds_toArray, List.set_cons_zero, List.set_cons_succ]
  refine wpAnyG_one (i := 7) (by kernel_rfl) (by decide) (wpOp_plain rfl rfl ?_)
  go_simp
  go_at_call 75
  refine (orNone_is HRA.out HRB.out _).mono ?_
  rintro e w' ⟨rfl, rfl⟩
  refine ⟨⟨_, rfl⟩, ?_⟩
  try simp only [Act.put, List.setIfInBounds_toArray, List.set_cons_zero, List.set_cons_succ]
  refine wpAnyG_take (i := 8) (v := ?_) (by kernel_rfl) rfl (by kernel_rfl) (by kernel_rfl) (by kernel_rfl) (fun _ _ _ h => h) (Or.inl ⟨by rfl, ?_⟩) ⟨_, rfl⟩ ?_
  rotate_left
  · rintro wS ⟨yS, rfl⟩
    go_simp
    try (with_reducible rfl)
  try simp only [Act.put, List.setIfInBounds_toArray, List.set_cons_zero, List.set_cons_succ]
  refine wpAnyG_take (i := 9) (v := ?_) (by kernel_rfl) rfl (by kernel_rfl) (by kernel_rfl) (by kernel_rfl) (fun _ _ _ h => h) (Or.inl ⟨by rfl, ?_⟩) ⟨_, rfl⟩ ?_
  rotate_left
  · rintro wS ⟨yS, rfl⟩
    go_simp
    try (with_reducible rfl)
  try simp only [Act.put, List.setIfInBounds_toArray, List.set_cons_zero, List.set_cons_succ]
  refine wpAnyG_take (i := 10) (v := ?_) (by kernel_rfl) rfl (by kernel_rfl) (by kernel_rfl) (by kernel_rfl) (fun _ _ _ h => h) (Or.inl ⟨by rfl, ?_⟩) ⟨_, rfl⟩ ?_
  rotate_left
  · rintro wS ⟨yS, rfl⟩
    go_simp
    try (with_reducible rfl)
  try simp only [Act.put, List.setIfInBounds_toArray, List.set_cons_zero, List.set_cons_succ]
  refine wpAnyG_done (by kernel_rfl) (by kernel_rfl) (wpOp_plain rfl rfl ?_)
  go_simp
  go_wp2
  go_ret2
  exact ⟨rfl, bT HB.out y5.b⟩
set_option maxRecDepth 100000 in
set_option maxHeartbeats 16000000 in
theorem farOf_any (D : Ro) (p q : Option Addr) (c d : Nat) (hD : OkP D) (w : World) (hI : RoIn w w.heap.size D p q) : Calls Try.prog 88 #[.agg #[.slice p D.n c, .slice q D.m d]] w fun e w' => e = .returned (.tuple #[.int .i64 (frC D), .bool (farT D 8).isSome]) ∧ Below w.heap.size w w' := by
  obtain ⟨w1, x, hw1, hb1, hz1, F0, F1, _⟩ := box_ro w p q D.n D.m c d
  have HB := Lib.hid hb1; have HD := Lib.hid hD
  have HI : Hid (∀ x : Ext w1, RoIn x.v x.v.heap.size D p q) := fun x => (hI.bel hb1).bel x.b
  have hm6 := hD.m; have hn8 := hD.n
  clear hb1 hz1 hI hD
  go_enter Try.func88, Try.ntmps88
  go_wp2
  clear hw1
  go_loopw [7] (fun v wr => ∃ k : Nat, v = .int .i64 (k : Int) ∧ k ≤ 8 ∧ farT D k = none ∧ ∃ z : Ext w1, wr = z.v) (fun v _ => 8 - (intOf v).toNat)
  case atStart => exact ⟨0, rfl, by omega, rfl, x, rfl⟩
  case round =>
    obtain ⟨k, rfl, hk, hft, z, rfl⟩ := hrel
    have HT := Lib.hid hft; clear hft
    by_cases hlt : k < 8
    · have j : decide ((k : Int) < 8) = true := by simp; omega
      cases hno : (best D (pF D (k : Int))).no with
      | false =>
        have HNO := Lib.hid hno
        have HV : Hid (frC D = (k : Int) ∧ (farT D 8).isSome = true) := by
          have := farT_hit HT.out hno (7 - k)
          rw [show k + 1 + (7 - k) = 8 by omega] at this
          unfold frC
          rw [this]; exact ⟨rfl, rfl⟩
        clear hno
        go_wp2
        refine wp_region_lastE 13 (by kernel_rfl) rfl (fun y0 => ?_)
        refine wpAnyG_take (i := 0) (v := ?_) (by kernel_rfl) rfl (by kernel_rfl) (by kernel_rfl) (by kernel_rfl) (fun _ _ _ h => h) (Or.inl ⟨by rfl, ?_⟩) ⟨_, rfl⟩ ?_
        rotate_left
        · rintro wS ⟨yS, rfl⟩
          go_simp
          try (with_reducible rfl)
        try simp only [Act.put, List.setIfInBounds_toArray, List.set_cons_zero, List.set_cons_succ]
        refine wpAnyG_take (i := 1) (v := ?_) (by kernel_rfl) rfl (by kernel_rfl) (by kernel_rfl) (by kernel_rfl) (fun _ _ _ h => h) (Or.inl ⟨by rfl, ?_⟩) ⟨_, rfl⟩ ?_
        rotate_left
        · rintro wS ⟨yS, rfl⟩
          go_simp
          try (with_reducible rfl)
        try simp only [Act.put, List.setIfInBounds_toArray, List.set_cons_zero, List.set_cons_succ]
        refine wpAnyG_take (i := 3) (v := ?_) (by kernel_rfl) rfl (by kernel_rfl) (by kernel_rfl) (by kernel_rfl) (fun _ _ _ h => h) (Or.inl ⟨by rfl, ?_⟩) ⟨_, rfl⟩ ?_
        rotate_left
        · rintro wS ⟨yS, rfl⟩
          go_simp
          try (with_reducible rfl)
        try simp only [Act.put, List.setIfInBounds_toArray, List.set_cons_zero, List.set_cons_succ]
        refine wpAnyG_take (i := 4) (v := ?_) (by kernel_rfl) rfl (by kernel_rfl) (by kernel_rfl) (by kernel_rfl) (fun _ _ _ h => h) (Or.inl ⟨by rfl, ?_⟩) ⟨_, rfl⟩ ?_
        rotate_left
        · rintro wS ⟨yS, rfl⟩
          go_simp
          try (with_reducible rfl)
        try simp only [Act.put, List.setIfInBounds_toArray, List.set_cons_zero, List.set_cons_succ]
        refine wpAnyG_one (i := 2) (by kernel_rfl) (by decide) (wpOp_plain rfl rfl ?_)
        go_simp
        go_at_call 64
        refine (costs_any D p q c d HD.out _ (HI.out y0)).mono ?_
        rintro e y1w ⟨c1, rfl, hb1, hp1⟩
        obtain ⟨y1, rfl⟩ : ∃ zz : Ext w1, y1w = zz.v := ⟨⟨y1w, bT y0.b hb1⟩, rfl⟩
        refine ⟨⟨_, rfl⟩, ?_⟩
        try simp only [Act.put, List.setIfInBounds_toArray, List.set_cons_zero, List.set_cons_succ]
        have HP1 := Lib.hid hp1; clear hp1 hb1
        refine wpAnyG_one (i := 5) (by kernel_rfl) (by decide) (wpOp_plain rfl rfl ?_)
        go_simp
        go_at_call 67
        refine (withinF_any D p q c d (k : Int) HD.out _ (HI.out y1)).mono ?_
        rintro e y2w ⟨c2, rfl, hb2, hm2⟩
        obtain ⟨y2, rfl⟩ : ∃ zz : Ext w1, y2w = zz.v := ⟨⟨y2w, bT y1.b hb2⟩, rfl⟩
        refine ⟨⟨_, rfl⟩, ?_⟩
        try simp only [Act.put, List.setIfInBounds_toArray, List.set_cons_zero, List.set_cons_succ]
        have HM2 := Lib.hid hm2; have HP2 := Lib.hid (HP1.out.up hb2); clear hm2 hb2
        refine wpAnyG_one (i := 6) (by kernel_rfl) (by decide) (wpOp_plain rfl rfl ?_)
        go_simp
        go_at_call 66
        refine (only_any D (prC D) _ _ _ c1 c2 y2.v HP2.out HM2.out).mono ?_
        rintro e y3w ⟨c3, rfl, hb3, hp3⟩
        obtain ⟨y3, rfl⟩ : ∃ zz : Ext w1, y3w = zz.v := ⟨⟨y3w, bT y2.b hb3⟩, rfl⟩
        refine ⟨⟨_, rfl⟩, ?_⟩
        try simp only [Act.put, List.setIfInBounds_toArray, List.set_cons_zero, List.set_cons_succ]
        have HP3 := Lib.hid hp3; clear hp3 hb3
        refine wpAnyG_one (i := 7) (by kernel_rfl) (by decide) (wpOp_plain rfl rfl ?_)
        go_simp
        go_at_call 63
        refine (newFinder_any D (pF D (k : Int)) p q c d _ c3 y3.v).mono ?_
        rintro e y4w ⟨fb, mb, rfl, hb4, hf4⟩
        obtain ⟨y4, rfl⟩ : ∃ zz : Ext w1, y4w = zz.v := ⟨⟨y4w, bT y3.b hb4⟩, rfl⟩
        refine ⟨⟨_, rfl⟩, ?_⟩
        try simp only [Act.put, List.setIfInBounds_toArray, List.set_cons_zero, List.set_cons_succ]
        have HF4 := Lib.hid hf4; clear hf4 hb4
        refine wpAnyG_one (i := 8) (by kernel_rfl) (by decide) (wpOp_plain rfl rfl ?_)
        go_simp
        go_at_call 90
        refine (least_any y3.v D (pF D (k : Int)) p q c d 96 c3 fb mb HD.out (pF_bd HD.out _) HP3.out (HI.out y3) y4.v HF4.out).mono ?_
        rintro e y5w ⟨rfl, hg5, hm5⟩
        obtain ⟨y5, rfl⟩ : ∃ zz : Ext w1, y5w = zz.v := ⟨⟨y5w, bT y3.b (HF4.out.gr hg5 hm5).b⟩, rfl⟩
        refine ⟨⟨_, rfl⟩, ?_⟩
        try simp only [Act.put, List.setIfInBounds_toArray, List.set_cons_zero, List.set_cons_succ]
        clear hg5 hm5
        rw [HNO.out]
        refine wpAnyG_take (i := 9) (v := ?_) (by kernel_rfl) rfl (by kernel_rfl) (by kernel_rfl) (by kernel_rfl) (fun _ _ _ h => h) (Or.inl ⟨by rfl, ?_⟩) ⟨_, rfl⟩ ?_
        rotate_left
        · rintro wS ⟨yS, rfl⟩
          go_simp
          try (with_reducible rfl)
        try simp only [Act.put, List.setIfInBounds_toArray, List.set_cons_zero, List.set_cons_succ]
        refine wpAnyG_take (i := 10) (v := ?_) (by kernel_rfl) rfl (by kernel_rfl) (by kernel_rfl) (by kernel_rfl) (fun _ _ _ h => h) (Or.inl ⟨by rfl, ?_⟩) ⟨_, rfl⟩ ?_
        rotate_left
        · rintro wS ⟨yS, rfl⟩
          go_simp
          try (with_reducible rfl)
        try simp only [Act.put, List.setIfInBounds_toArray, List.set_cons_zero, List.set_cons_succ]
        refine wpAnyG_take (i := 11) (v := ?_) (by kernel_rfl) rfl (by kernel_rfl) (by kernel_rfl) (by kernel_rfl) (fun _ _ _ h => h) (Or.inl ⟨by rfl, ?_⟩) ⟨_, rfl⟩ ?_
        rotate_left
        · rintro wS ⟨yS, rfl⟩
          go_simp
          try (with_reducible rfl)
        try simp only [Act.put, List.setIfInBounds_toArray, List.set_cons_zero, List.set_cons_succ]
        refine wpAnyG_take (i := 12) (v := ?_) (by kernel_rfl) rfl (by kernel_rfl) (by kernel_rfl) (by kernel_rfl) (fun _ _ _ h => h) (Or.inl ⟨by rfl, ?_⟩) ⟨_, rfl⟩ ?_
        rotate_left
        · rintro wS ⟨yS, rfl⟩
          go_simp
          try (with_reducible rfl)
        try simp only [Act.put, List.setIfInBounds_toArray, List.set_cons_zero, List.set_cons_succ]
        refine wpAnyG_done (by kernel_rfl) (by kernel_rfl) (wpOp_plain rfl rfl ?_)
        go_simp
        go_wp2
        go_ret2
        exact ⟨by rw [HV.out.1, HV.out.2]; rfl, bT HB.out y5.b⟩
      | true =>
        have HNO := Lib.hid hno
        have HV := Lib.hid (farT_miss HT.out hno)
        clear hno
        go_wp2
        refine wp_region_lastE 13 (by kernel_rfl) rfl (fun y0 => ?_)
        refine wpAnyG_take (i := 0) (v := ?_) (by kernel_rfl) rfl (by kernel_rfl) (by kernel_rfl) (by kernel_rfl) (fun _ _ _ h => h) (Or.inl ⟨by rfl, ?_⟩) ⟨_, rfl⟩ ?_
        rotate_left
        · rintro wS ⟨yS, rfl⟩
          go_simp
          try (with_reducible rfl)
        try simp only [Act.put, List.setIfInBounds_toArray, List.set_cons_zero, List.set_cons_succ]
        refine wpAnyG_take (i := 1) (v := ?_) (by kernel_rfl) rfl (by kernel_rfl) (by kernel_rfl) (by kernel_rfl) (fun _ _ _ h => h) (Or.inl ⟨by rfl, ?_⟩) ⟨_, rfl⟩ ?_
        rotate_left
        · rintro wS ⟨yS, rfl⟩
          go_simp
          try (with_reducible rfl)
        try simp only [Act.put, List.setIfInBounds_toArray, List.set_cons_zero, List.set_cons_succ]
        refine wpAnyG_take (i := 3) (v := ?_) (by kernel_rfl) rfl (by kernel_rfl) (by kernel_rfl) (by kernel_rfl) (fun _ _ _ h => h) (Or.inl ⟨by rfl, ?_⟩) ⟨_, rfl⟩ ?_
        rotate_left
        · rintro wS ⟨yS, rfl⟩
          go_simp
          try (with_reducible rfl)
        try simp only [Act.put, List.setIfInBounds_toArray, List.set_cons_zero, List.set_cons_succ]
        refine wpAnyG_take (i := 4) (v := ?_) (by kernel_rfl) rfl (by kernel_rfl) (by kernel_rfl) (by kernel_rfl) (fun _ _ _ h => h) (Or.inl ⟨by rfl, ?_⟩) ⟨_, rfl⟩ ?_
        rotate_left
        · rintro wS ⟨yS, rfl⟩
          go_simp
          try (with_reducible rfl)
        try simp only [Act.put, List.setIfInBounds_toArray, List.set_cons_zero, List.set_cons_succ]
        refine wpAnyG_one (i := 2) (by kernel_rfl) (by decide) (wpOp_plain rfl rfl ?_)
        go_simp
        go_at_call 64
        refine (costs_any D p q c d HD.out _ (HI.out y0)).mono ?_
        rintro e y1w ⟨c1, rfl, hb1, hp1⟩
        obtain ⟨y1, rfl⟩ : ∃ zz : Ext w1, y1w = zz.v := ⟨⟨y1w, bT y0.b hb1⟩, rfl⟩
        refine ⟨⟨_, rfl⟩, ?_⟩
        try simp only [Act.put, List.setIfInBounds_toArray, List.set_cons_zero, List.set_cons_succ]
        have HP1 := Lib.hid hp1; clear hp1 hb1
        refine wpAnyG_one (i := 5) (by kernel_rfl) (by decide) (wpOp_plain rfl rfl ?_)
        go_simp
        go_at_call 67
        refine (withinF_any D p q c d (k : Int) HD.out _ (HI.out y1)).mono ?_
        rintro e y2w ⟨c2, rfl, hb2, hm2⟩
        obtain ⟨y2, rfl⟩ : ∃ zz : Ext w1, y2w = zz.v := ⟨⟨y2w, bT y1.b hb2⟩, rfl⟩
        refine ⟨⟨_, rfl⟩, ?_⟩
        try simp only [Act.put, List.setIfInBounds_toArray, List.set_cons_zero, List.set_cons_succ]
        have HM2 := Lib.hid hm2; have HP2 := Lib.hid (HP1.out.up hb2); clear hm2 hb2
        refine wpAnyG_one (i := 6) (by kernel_rfl) (by decide) (wpOp_plain rfl rfl ?_)
        go_simp
        go_at_call 66
        refine (only_any D (prC D) _ _ _ c1 c2 y2.v HP2.out HM2.out).mono ?_
        rintro e y3w ⟨c3, rfl, hb3, hp3⟩
        obtain ⟨y3, rfl⟩ : ∃ zz : Ext w1, y3w = zz.v := ⟨⟨y3w, bT y2.b hb3⟩, rfl⟩
        refine ⟨⟨_, rfl⟩, ?_⟩
        try simp only [Act.put, List.setIfInBounds_toArray, List.set_cons_zero, List.set_cons_succ]
        have HP3 := Lib.hid hp3; clear hp3 hb3
        refine wpAnyG_one (i := 7) (by kernel_rfl) (by decide) (wpOp_plain rfl rfl ?_)
        go_simp
        go_at_call 63
        refine (newFinder_any D (pF D (k : Int)) p q c d _ c3 y3.v).mono ?_
        rintro e y4w ⟨fb, mb, rfl, hb4, hf4⟩
        obtain ⟨y4, rfl⟩ : ∃ zz : Ext w1, y4w = zz.v := ⟨⟨y4w, bT y3.b hb4⟩, rfl⟩
        refine ⟨⟨_, rfl⟩, ?_⟩
        try simp only [Act.put, List.setIfInBounds_toArray, List.set_cons_zero, List.set_cons_succ]
        have HF4 := Lib.hid hf4; clear hf4 hb4
        refine wpAnyG_one (i := 8) (by kernel_rfl) (by decide) (wpOp_plain rfl rfl ?_)
        go_simp
        go_at_call 90
        refine (least_any y3.v D (pF D (k : Int)) p q c d 96 c3 fb mb HD.out (pF_bd HD.out _) HP3.out (HI.out y3) y4.v HF4.out).mono ?_
        rintro e y5w ⟨rfl, hg5, hm5⟩
        obtain ⟨y5, rfl⟩ : ∃ zz : Ext w1, y5w = zz.v := ⟨⟨y5w, bT y3.b (HF4.out.gr hg5 hm5).b⟩, rfl⟩
        refine ⟨⟨_, rfl⟩, ?_⟩
        try simp only [Act.put, List.setIfInBounds_toArray, List.set_cons_zero, List.set_cons_succ]
        clear hg5 hm5
        rw [HNO.out]
        refine wpAnyG_take (i := 9) (v := ?_) (by kernel_rfl) rfl (by kernel_rfl) (by kernel_rfl) (by kernel_rfl) (fun _ _ _ h => h) (Or.inl ⟨by rfl, ?_⟩) ⟨_, rfl⟩ ?_
        rotate_left
        · rintro wS ⟨yS, rfl⟩
          go_simp
          try (with_reducible rfl)
        try simp only [Act.put, List.setIfInBounds_toArray, List.set_cons_zero, List.set_cons_succ]
        refine wpAnyG_take (i := 10) (v := ?_) (by kernel_rfl) rfl (by kernel_rfl) (by kernel_rfl) (by kernel_rfl) (fun _ _ _ h => h) (Or.inl ⟨by rfl, ?_⟩) ⟨_, rfl⟩ ?_
        rotate_left
        · rintro wS ⟨yS, rfl⟩
          go_simp
          try (with_reducible rfl)
        try simp only [Act.put, List.setIfInBounds_toArray, List.set_cons_zero, List.set_cons_succ]
        refine wpAnyG_take (i := 11) (v := ?_) (by kernel_rfl) rfl (by kernel_rfl) (by kernel_rfl) (by kernel_rfl) (fun _ _ _ h => h) (Or.inl ⟨by rfl, ?_⟩) ⟨_, rfl⟩ ?_
        rotate_left
        · rintro wS ⟨yS, rfl⟩
          go_simp
          try (with_reducible rfl)
        try simp only [Act.put, List.setIfInBounds_toArray, List.set_cons_zero, List.set_cons_succ]
        refine wpAnyG_take (i := 12) (v := ?_) (by kernel_rfl) rfl (by kernel_rfl) (by kernel_rfl) (by kernel_rfl) (fun _ _ _ h => h) (Or.inl ⟨by rfl, ?_⟩) ⟨_, rfl⟩ ?_
        rotate_left
        · rintro wS ⟨yS, rfl⟩
          go_simp
          try (with_reducible rfl)
        try simp only [Act.put, List.setIfInBounds_toArray, List.set_cons_zero, List.set_cons_succ]
        refine wpAnyG_done (by kernel_rfl) (by kernel_rfl) (wpOp_plain rfl rfl ?_)
        go_simp
        go_wp2
        go_roundw
        case rel => exact ⟨k + 1, by go_num, by omega, HV.out, y5, rfl⟩
        case measure => first | (simp [intOf]; done) | (simp [intOf]; omega)
    · have HV : Hid (frC D = 0 ∧ (farT D 8).isSome = false) := by
        have := HT.out
        rw [show k = 8 by omega] at this
        unfold frC
        rw [this]; exact ⟨rfl, rfl⟩
      have j : decide ((k : Int) < 8) = false := by simp; omega
      go_wp2
      go_ret2
      exact ⟨by rw [HV.out.1, HV.out.2]; rfl, bT HB.out z.b⟩
set_option maxRecDepth 100000 in
set_option maxHeartbeats 4000000 in
theorem farP_any (D : Ro) (p q : Option Addr) (c d : Nat) (hD : OkP D) (w : World) (hI : RoIn w w.heap.size D p q) : Calls Try.prog 53 #[.agg #[.slice p D.n c, .slice q D.m d]] w fun e w' => e = .returned (.tuple #[.int .i64 (if (farT D 8).isSome then frC D else 0), .int .i64 (if (farT D 8).isSome then 0 else 3)]) ∧ Below w.heap.size w w' := by
  obtain ⟨w1, x, hw1, hb1, hz1, F0, F1, _⟩ := box_ro w p q D.n D.m c d
  have HB := Lib.hid hb1; have HD := Lib.hid hD
  have HI : Hid (∀ x : Ext w1, RoIn x.v x.v.heap.size D p q) := fun x => (hI.bel hb1).bel x.b
  have hm6 := hD.m; have hn8 := hD.n
  clear hb1 hz1 hI hD
  have HO := Lib.hid (Ro.ok_iff.2 HD.out)
  have j0 : ((0 : Int) != 0) = false := by decide
  obtain ⟨ex, hex⟩ : ∃ b, (farT D 8).isSome = b := ⟨_, rfl⟩
  obtain ⟨vl, hvl⟩ : ∃ b, frC D = b := ⟨_, rfl⟩
  have HIN := Lib.hid (fun y : Ext w1 => farOf_any D p q c d HD.out y.v (HI.out y))
  rw [hex, hvl] at HIN ⊢
  clear hex hvl
  obtain ⟨ra, hra⟩ : ∃ a, (if ex then vl else 0) = a := ⟨_, rfl⟩
  obtain ⟨rb, hrb⟩ : ∃ a : Int, (if ex then 0 else 3) = a := ⟨_, rfl⟩
  have HRA := Lib.hid hra; have HRB := Lib.hid hrb
  rw [hra, hrb]
  clear hra hrb
  go_enter Try.func53, Try.ntmps53
  go_wp2_with fail
  refine (quiet_x (checkP_is (chk_ok HO.out) _ (by unfold maxLen; omega) (by unfold maxLen; omega) (HI.out _))).mono ?_
  rintro e w' ⟨rfl, y, rfl⟩
  go_wp2_with fail
  refine (quiet_x (HIN.out _)).mono ?_
  rintro e w' ⟨rfl, y2, rfl⟩
  go_wp2_with fail
  refine (orNone_is HRA.out HRB.out _).mono ?_
  rintro e w' ⟨rfl, rfl⟩
  go_wp2
  go_ret2
  exact ⟨rfl, bT HB.out y2.b⟩
end Go.Proofs.Ytegkgfiaegpihaa
