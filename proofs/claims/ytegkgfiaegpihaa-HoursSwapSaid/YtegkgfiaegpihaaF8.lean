/- Rosters of hours: Roster of the program. -/
import Derived.Test.YtegkgfiaegpihaaF7

set_option linter.unusedSimpArgs false

set_option linter.unusedVariables false

namespace Go.Proofs.Ytegkgfiaegpihaa

open Go.RowKit

theorem orNone_list (v : Value) (w : World) : Calls Try.prog 62 #[v, .bool true] w fun e w' => e = .returned (.tuple #[v, .int .i64 0]) ∧ w = w' := by
  go_enter Try.func62, Try.ntmps62
  go_wp2
  go_ret2
  exact ⟨rfl, rfl⟩
theorem orNone_nil (v : Value) (w : World) : Calls Try.prog 62 #[v, .bool false] w fun e w' => e = .returned (.tuple #[.slice none 0 0, .int .i64 3]) ∧ w = w' := by
  go_enter Try.func62, Try.ntmps62
  go_wp2
  go_ret2
  exact ⟨rfl, rfl⟩
/-- the hours of Roster -/
def rsF (D : Ro) : Nat → Int := hrA D (prC D)
theorem rs_new {D : Ro} (hD : OkP D) (h : exB D = true) : NR D (rsF D) ∧ costF D (rsF D) D.m = lsC D := by
  have hn : (best D (prC D)).no = false := by simpa [exB] using h
  obtain ⟨h1, _, h3⟩ := hr_new hD hn
  exact ⟨h1, by have := pcA_C hD h1; unfold rsF lsC; rw [← this]; exact h3⟩
set_option maxRecDepth 100000 in
set_option maxHeartbeats 8000000 in
theorem roster_ok (D : Ro) (p q : Option Addr) (c d : Nat) (hD : OkP D) (w : World) (hI : RoIn w w.heap.size D p q) (hx : exB D = true) : Calls Try.prog 18 #[.agg #[.slice p D.n c, .slice q D.m d]] w fun e w' => ∃ y c', e = .returned (.tuple #[.slice y D.m c', .int .i64 0]) ∧ Below w.heap.size w w' ∧ NumIn w' w'.heap.size D.m (rsF D) y := by
  obtain ⟨w1, x, hw1, hb1, hz1, F0, F1, _⟩ := box_ro w p q D.n D.m c d
  have HB := Lib.hid hb1; have HD := Lib.hid hD
  have HI : Hid (∀ x : Ext w1, RoIn x.v x.v.heap.size D p q) := fun x => (hI.bel hb1).bel x.b
  have hm6 := hD.m; have hn8 := hD.n
  clear hb1 hz1 hI hD
  have HO := Lib.hid (Ro.ok_iff.2 HD.out)
  have HN := Lib.hid (show (best D (prC D)).no = false from by simpa [exB] using hx)
  clear hx
  have j0 : ((0 : Int) != 0) = false := by decide
  go_enter Try.func18, Try.ntmps18
  go_wp2_with fail
  refine (quiet_x (checkP_is (chk_ok HO.out) _ (by unfold maxLen; omega) (by unfold maxLen; omega) (HI.out _))).mono ?_
  rintro e w' ⟨rfl, y, rfl⟩
  go_wp2
  refine wp_region_lastE 11 (by kernel_rfl) rfl (fun y0 => ?_)
  refine wpAnyG_take (i := 0) (v := ?_) (by kernel_rfl) rfl (by kernel_rfl) (by kernel_rfl) (by kernel_rfl) (fun _ _ _ h => h) (Or.inl ⟨by rfl, ?_⟩) ⟨_, rfl⟩ ?_
  rotate_left
  · rintro wS ⟨yS, rfl⟩
    go_simp
    try (with_reducible rfl)
  try simp only [Act.put, List.setIfInBounds_toArray, List.set_cons_zero, List.set_cons_succ]
  refine wpAnyG_take (i := 1) (v := ?_) (by kernel_rfl) rfl (by kernel_rfl) (by kernel_rfl) (by kernel_rfl) (fun _ _ _ h => h) (Or.inl ⟨by rfl, ?_⟩) ⟨_, rfl⟩ ?_
  rotate_left
  · rintro wS ⟨yS, rfl⟩
    go_simp
    try (with_reducible rfl)
  try simp only [Act.put, List.setIfInBounds_toArray, List.set_cons_zero, List.set_cons_succ]
  refine wpAnyG_one (i := 2) (by kernel_rfl) (by decide) (wpOp_plain rfl rfl ?_)
  go_simp
  go_at_call 64
  refine (costs_any D p q c d HD.out _ (HI.out y0)).mono ?_
  rintro e y1w ⟨c1, rfl, hb1, hp1⟩
  obtain ⟨y1, rfl⟩ : ∃ zz : Ext w1, y1w = zz.v := ⟨⟨y1w, bT y0.b hb1⟩, rfl⟩
  refine ⟨⟨_, rfl⟩, ?_⟩
  try simp only [Act.put, List.setIfInBounds_toArray, List.set_cons_zero, List.set_cons_succ]
  have HP1 := Lib.hid hp1; clear hp1 hb1
  refine wpAnyG_one (i := 3) (by kernel_rfl) (by decide) (wpOp_plain rfl rfl ?_)
  go_simp
  go_at_call 63
  refine (newFinder_any D (prC D) p q c d _ c1 y1.v).mono ?_
  rintro e y4w ⟨fb, mb, rfl, hb4, hf4⟩
  obtain ⟨y4, rfl⟩ : ∃ zz : Ext w1, y4w = zz.v := ⟨⟨y4w, bT y1.b hb4⟩, rfl⟩
  refine ⟨⟨_, rfl⟩, ?_⟩
  try simp only [Act.put, List.setIfInBounds_toArray, List.set_cons_zero, List.set_cons_succ]
  have HF4 := Lib.hid hf4; clear hf4 hb4
  refine wpAnyG_one (i := 4) (by kernel_rfl) (by decide) (wpOp_plain rfl rfl ?_)
  go_simp
  go_at_call 65
  refine (first_ok y1.v D (prC D) p q c d 93 c1 fb mb HD.out (prC_bd HD.out) HP1.out (HI.out y1) HN.out y4.v HF4.out).mono ?_
  rintro e y5w ⟨yv, cy, rfl, hg5, hm5, hny⟩
  obtain ⟨y5, rfl⟩ : ∃ zz : Ext w1, y5w = zz.v := ⟨⟨y5w, bT y1.b (HF4.out.gr hg5 hm5).b⟩, rfl⟩
  refine ⟨⟨_, rfl⟩, ?_⟩
  try simp only [Act.put, List.setIfInBounds_toArray, List.set_cons_zero, List.set_cons_succ]
  clear hg5 hm5
  refine wpAnyG_take (i := 5) (v := ?_) (by kernel_rfl) rfl (by kernel_rfl) (by kernel_rfl) (by kernel_rfl) (fun _ _ _ h => h) (Or.inl ⟨by rfl, ?_⟩) ⟨_, rfl⟩ ?_
  rotate_left
  · rintro wS ⟨yS, rfl⟩
    go_simp
    try (with_reducible rfl)
  try simp only [Act.put, List.setIfInBounds_toArray, List.set_cons_zero, List.set_cons_succ]
  refine wpAnyG_take (i := 6) (v := ?_) (by kernel_rfl) rfl (by kernel_rfl) (by kernel_rfl) (by kernel_rfl) (fun _ _ _ h => h) (Or.inl ⟨by rfl, ?_⟩) ⟨_, rfl⟩ ?_
  rotate_left
  · rintro wS ⟨yS, rfl⟩
    go_simp
    try (with_reducible rfl)
  try simp only [Act.put, List.setIfInBounds_toArray, List.set_cons_zero, List.set_cons_succ]
  refine wpAnyG_one (i := 7) (by kernel_rfl) (by decide) (wpOp_plain rfl rfl ?_)
  go_simp
  go_at_call 62
  refine (orNone_list _ _).mono ?_
  rintro e w' ⟨rfl, rfl⟩
  refine ⟨⟨_, rfl⟩, ?_⟩
  try simp only [Act.put, List.setIfInBounds_toArray, List.set_cons_zero, List.set_cons_succ]
  refine wpAnyG_take (i := 8) (v := ?_) (by kernel_rfl) rfl (by kernel_rfl) (by kernel_rfl) (by kernel_rfl) (fun _ _ _ h => h) (Or.inl ⟨by rfl, ?_⟩) ⟨_, rfl⟩ ?_
  rotate_left
  · rintro wS ⟨yS, rfl⟩
    go_simp
    try (with_reducible rfl)
  try simp only [Act.put, List.setIfInBounds_toArray, List.set_cons_zero, List.set_cons_succ]
  refine wpAnyG_take (i := 9) (v := ?_) (by kernel_rfl) rfl (by kernel_rfl) (by kernel_rfl) (by kernel_rfl) (fun _ _ _ h => h) (Or.inl ⟨by rfl, ?_⟩) ⟨_, rfl⟩ ?_
  rotate_left
  · rintro wS ⟨yS, rfl⟩
    go_simp
    try (with_reducible rfl)
  try simp only [Act.put, List.setIfInBounds_toArray, List.set_cons_zero, List.set_cons_succ]
  refine wpAnyG_take (i := 10) (v := ?_) (by kernel_rfl) rfl (by kernel_rfl) (by kernel_rfl) (by kernel_rfl) (fun _ _ _ h => h) (Or.inl ⟨by rfl, ?_⟩) ⟨_, rfl⟩ ?_
  rotate_left
  · rintro wS ⟨yS, rfl⟩
    go_simp
    try (with_reducible rfl)
  try simp only [Act.put, List.setIfInBounds_toArray, List.set_cons_zero, List.set_cons_succ]
  refine wpAnyG_done (by kernel_rfl) (by kernel_rfl) (wpOp_plain rfl rfl ?_)
  go_simp
  go_wp2
  go_ret2
  exact ⟨_, _, rfl, bT HB.out y5.b, hny⟩
set_option maxRecDepth 100000 in
set_option maxHeartbeats 8000000 in
theorem roster_no (D : Ro) (p q : Option Addr) (c d : Nat) (hD : OkP D) (w : World) (hI : RoIn w w.heap.size D p q) (hx : exB D = false) : Calls Try.prog 18 #[.agg #[.slice p D.n c, .slice q D.m d]] w fun e w' => e = .returned (.tuple #[.slice none 0 0, .int .i64 3]) ∧ Below w.heap.size w w' := by
  obtain ⟨w1, x, hw1, hb1, hz1, F0, F1, _⟩ := box_ro w p q D.n D.m c d
  have HB := Lib.hid hb1; have HD := Lib.hid hD
  have HI : Hid (∀ x : Ext w1, RoIn x.v x.v.heap.size D p q) := fun x => (hI.bel hb1).bel x.b
  have hm6 := hD.m; have hn8 := hD.n
  clear hb1 hz1 hI hD
  have HO := Lib.hid (Ro.ok_iff.2 HD.out)
  have HN := Lib.hid (show (best D (prC D)).no = true from by simpa [exB] using hx)
  clear hx
  have j0 : ((0 : Int) != 0) = false := by decide
  go_enter Try.func18, Try.ntmps18
  go_wp2_with fail
  refine (quiet_x (checkP_is (chk_ok HO.out) _ (by unfold maxLen; omega) (by unfold maxLen; omega) (HI.out _))).mono ?_
  rintro e w' ⟨rfl, y, rfl⟩
  go_wp2
  refine wp_region_lastE 11 (by kernel_rfl) rfl (fun y0 => ?_)
  refine wpAnyG_take (i := 0) (v := ?_) (by kernel_rfl) rfl (by kernel_rfl) (by kernel_rfl) (by kernel_rfl) (fun _ _ _ h => h) (Or.inl ⟨by rfl, ?_⟩) ⟨_, rfl⟩ ?_
  rotate_left
  · rintro wS ⟨yS, rfl⟩
    go_simp
    try (with_reducible rfl)
  try simp only [Act.put, List.setIfInBounds_toArray, List.set_cons_zero, List.set_cons_succ]
  refine wpAnyG_take (i := 1) (v := ?_) (by kernel_rfl) rfl (by kernel_rfl) (by kernel_rfl) (by kernel_rfl) (fun _ _ _ h => h) (Or.inl ⟨by rfl, ?_⟩) ⟨_, rfl⟩ ?_
  rotate_left
  · rintro wS ⟨yS, rfl⟩
    go_simp
    try (with_reducible rfl)
  try simp only [Act.put, List.setIfInBounds_toArray, List.set_cons_zero, List.set_cons_succ]
  refine wpAnyG_one (i := 2) (by kernel_rfl) (by decide) (wpOp_plain rfl rfl ?_)
  go_simp
  go_at_call 64
  refine (costs_any D p q c d HD.out _ (HI.out y0)).mono ?_
  rintro e y1w ⟨c1, rfl, hb1, hp1⟩
  obtain ⟨y1, rfl⟩ : ∃ zz : Ext w1, y1w = zz.v := ⟨⟨y1w, bT y0.b hb1⟩, rfl⟩
  refine ⟨⟨_, rfl⟩, ?_⟩
  try simp only [Act.put, List.setIfInBounds_toArray, List.set_cons_zero, List.set_cons_succ]
  have HP1 := Lib.hid hp1; clear hp1 hb1
  refine wpAnyG_one (i := 3) (by kernel_rfl) (by decide) (wpOp_plain rfl rfl ?_)
  go_simp
  go_at_call 63
  refine (newFinder_any D (prC D) p q c d _ c1 y1.v).mono ?_
  rintro e y4w ⟨fb, mb, rfl, hb4, hf4⟩
  obtain ⟨y4, rfl⟩ : ∃ zz : Ext w1, y4w = zz.v := ⟨⟨y4w, bT y1.b hb4⟩, rfl⟩
  refine ⟨⟨_, rfl⟩, ?_⟩
  try simp only [Act.put, List.setIfInBounds_toArray, List.set_cons_zero, List.set_cons_succ]
  have HF4 := Lib.hid hf4; clear hf4 hb4
  refine wpAnyG_one (i := 4) (by kernel_rfl) (by decide) (wpOp_plain rfl rfl ?_)
  go_simp
  go_at_call 65
  refine (first_no y1.v D (prC D) p q c d 93 c1 fb mb HD.out (prC_bd HD.out) HP1.out (HI.out y1) HN.out y4.v HF4.out).mono ?_
  rintro e y5w ⟨rfl, hg5, hm5⟩
  obtain ⟨y5, rfl⟩ : ∃ zz : Ext w1, y5w = zz.v := ⟨⟨y5w, bT y1.b (HF4.out.gr hg5 hm5).b⟩, rfl⟩
  refine ⟨⟨_, rfl⟩, ?_⟩
  try simp only [Act.put, List.setIfInBounds_toArray, List.set_cons_zero, List.set_cons_succ]
  clear hg5 hm5
  refine wpAnyG_take (i := 5) (v := ?_) (by kernel_rfl) rfl (by kernel_rfl) (by kernel_rfl) (by kernel_rfl) (fun _ _ _ h => h) (Or.inl ⟨by rfl, ?_⟩) ⟨_, rfl⟩ ?_
  rotate_left
  · rintro wS ⟨yS, rfl⟩
    go_simp
    try (with_reducible rfl)
  try simp only [Act.put, List.setIfInBounds_toArray, List.set_cons_zero, List.set_cons_succ]
  refine wpAnyG_take (i := 6) (v := ?_) (by kernel_rfl) rfl (by kernel_rfl) (by kernel_rfl) (by kernel_rfl) (fun _ _ _ h => h) (Or.inl ⟨by rfl, ?_⟩) ⟨_, rfl⟩ ?_
  rotate_left
  · rintro wS ⟨yS, rfl⟩
    go_simp
    try (with_reducible rfl)
  try simp only [Act.put, List.setIfInBounds_toArray, List.set_cons_zero, List.set_cons_succ]
  refine wpAnyG_one (i := 7) (by kernel_rfl) (by decide) (wpOp_plain rfl rfl ?_)
  go_simp
  go_at_call 62
  refine (orNone_nil _ _).mono ?_
  rintro e w' ⟨rfl, rfl⟩
  refine ⟨⟨_, rfl⟩, ?_⟩
  try simp only [Act.put, List.setIfInBounds_toArray, List.set_cons_zero, List.set_cons_succ]
  refine wpAnyG_take (i := 8) (v := ?_) (by kernel_rfl) rfl (by kernel_rfl) (by kernel_rfl) (by kernel_rfl) (fun _ _ _ h => h) (Or.inl ⟨by rfl, ?_⟩) ⟨_, rfl⟩ ?_
  rotate_left
  · rintro wS ⟨yS, rfl⟩
    go_simp
    try (with_reducible rfl)
  try simp only [Act.put, List.setIfInBounds_toArray, List.set_cons_zero, List.set_cons_succ]
  refine wpAnyG_take (i := 9) (v := ?_) (by kernel_rfl) rfl (by kernel_rfl) (by kernel_rfl) (by kernel_rfl) (fun _ _ _ h => h) (Or.inl ⟨by rfl, ?_⟩) ⟨_, rfl⟩ ?_
  rotate_left
  · rintro wS ⟨yS, rfl⟩
    go_simp
    try (with_reducible rfl)
  try simp only [Act.put, List.setIfInBounds_toArray, List.set_cons_zero, List.set_cons_succ]
  refine wpAnyG_take (i := 10) (v := ?_) (by kernel_rfl) rfl (by kernel_rfl) (by kernel_rfl) (by kernel_rfl) (fun _ _ _ h => h) (Or.inl ⟨by rfl, ?_⟩) ⟨_, rfl⟩ ?_
  rotate_left
  · rintro wS ⟨yS, rfl⟩
    go_simp
    try (with_reducible rfl)
  try simp only [Act.put, List.setIfInBounds_toArray, List.set_cons_zero, List.set_cons_succ]
  refine wpAnyG_done (by kernel_rfl) (by kernel_rfl) (wpOp_plain rfl rfl ?_)
  go_simp
  go_wp2
  go_ret2
  exact ⟨rfl, bT HB.out y5.b⟩
end Go.Proofs.Ytegkgfiaegpihaa
