/- Rosters of hours: Exchanged of the reference. -/
import Derived.Test.YtegkgfiaegpihaaF9

set_option linter.unusedSimpArgs false

set_option linter.unusedVariables false

namespace Go.Proofs.Ytegkgfiaegpihaa

open Go.RowKit

theorem num_set {w : World} {g m : Nat} {f : Nat → Int} (h : NumAt w g 0 m f) (hf : ∀ i, w.frozen? ⟨g, i, none⟩ = false) {a : Nat} (ha : a < m) (v : Int) : NumAt (w.setCell ⟨g, a, none⟩ (.int .i64 v)) g 0 m (fun i => if i = a then v else f i) := by
  have ca := h a ha
  rw [Nat.zero_add] at ca
  intro i hi
  have ci := h i hi
  rw [Nat.zero_add] at ci ⊢
  by_cases e : i = a
  · subst e
    show World.cell? _ _ = some (Value.int .i64 (if i = i then v else f i))
    rw [if_pos rfl]
    go_simp
  · show World.cell? _ _ = some (Value.int .i64 (if i = a then v else f i))
    rw [if_neg e, World.cell?_setCell_other _ _ _ _ (by simp; try omega)]
    exact ci
set_option maxRecDepth 100000 in
set_option maxHeartbeats 8000000 in
theorem exchR_any (m : Nat) (lp : Option Addr) (lc a b : Nat) (f : Nat → Int) (w : World) (hm : m ≤ 1000) (ha : a < m) (hb : b < m) (hab : a < b) (hL : NumIn w w.heap.size m f lp) :
    Calls Try.prog 36 #[.slice lp m lc, .agg #[.int .i64 (a : Int), .int .i64 (b : Int)]] w fun e w' => ∃ y c', e = .returned (.slice y m c') ∧ Below w.heap.size w w' ∧ NumIn w' w'.heap.size m (exch f a b) y := by
  obtain ⟨i3, hi3, hz3, hz3', hz3''⟩ := info_parts infoI
  have I3 := Lib.hid hi3; have Z3 := Lib.hid hz3; have Z3' := Lib.hid hz3'; have Z3'' := Lib.hid hz3''; clear hi3 hz3 hz3' hz3''
  obtain ⟨w0, x0, hw0, hb0, hz0, A0, A1, _⟩ := box_pair w (a : Int) (b : Int)
  obtain ⟨w1, hw1⟩ : ∃ w1, x0.v.alloc (Obj.cells #[] 3) = w1 := ⟨_, rfl⟩
  have hb1 : Below w0.heap.size w0 w1 := by rw [← hw1]; exact bA x0.b _
  have HB1 := Lib.hid (bT hb0 hb1)
  have B0 : ∀ z : Ext w1, z.v.cell? ⟨w.heap.size, 0, none⟩ = some (.int .i64 (a : Int)) := fun z => A0 (z.up hb1)
  have B1 : ∀ z : Ext w1, z.v.cell? ⟨w.heap.size, 1, none⟩ = some (.int .i64 (b : Int)) := fun z => A1 (z.up hb1)
  obtain ⟨lb, lo, rfl, hlb, hln⟩ := hL (by omega)
  have HL := Lib.hid hL
  have ham : (a : Int) < (m : Int) := by omega
  have hbm : (b : Int) < (m : Int) := by omega
  have S1 := Lib.hid (show m ≤ maxLen by unfold maxLen; omega)
  have La : ∀ z : Ext w1, z.v.cell? ⟨lb, lo + a, none⟩ = some (.int .i64 (f a)) := fun z => ((HL.out.bel HB1.out).bel z.b).cell ha |>.2
  have Lb : ∀ z : Ext w1, z.v.cell? ⟨lb, lo + b, none⟩ = some (.int .i64 (f b)) := fun z => ((HL.out.bel HB1.out).bel z.b).cell hb |>.2
  clear A0 A1 hb0 hz0 hb1 hL hlb hln
  go_enter Try.func36, Try.ntmps36
  go_wp2_with (at_builtin; refine wpList_append_copy rfl (.tmp 6) (.tmp 7) 22 rfl 3 i3 _ 1 8 Try.underlying22 I3.out Z3.out Z3'.out Z3''.out rfl (by decide) _ (by simp [Act.eval, Act.put]; rfl) (some ⟨lb, lo, none⟩) m lc (by simp [Act.eval, Act.put]) (srcN (HL.out.bel HB1.out)) S1.out (by omega) ?_)
  intro yk ck wk hck
  have hnew := copied_new (w0 := w1) (HL.out.bel HB1.out) (Below.refl _ _) (by simpa using hck)
  clear hck
  obtain ⟨g, rfl, hg1, hg2, hgn, hgf⟩ := hnew.here (by omega)
  obtain ⟨zk, rfl⟩ : ∃ z : Ext w1, wk = z.v := ⟨⟨wk, hnew.below⟩, rfl⟩
  clear hnew
  have hgk := hg2; have hfk := hgf
  have B0k : ∀ z : Ext zk.v, z.v.cell? ⟨w.heap.size, 0, none⟩ = some (.int .i64 (a : Int)) := fun z => B0 (z.up zk.b)
  have B1k : ∀ z : Ext zk.v, z.v.cell? ⟨w.heap.size, 1, none⟩ = some (.int .i64 (b : Int)) := fun z => B1 (z.up zk.b)
  have cfk : ∀ (y : Ext zk.v) i, y.v.frozen? ⟨g, i, none⟩ = false := fun y i => (y.b.frozen (p := ⟨g, i, none⟩) hgk).trans (hfk i)
  have Lbk : ∀ z : Ext zk.v, z.v.cell? ⟨lb, lo + b, none⟩ = some (.int .i64 (f b)) := fun z => Lb (z.up zk.b)
  have cak : ∀ y : Ext zk.v, y.v.cell? ⟨g, a, none⟩ = some (.int .i64 (f a)) := fun y => by have := hgn.below y.b hg2 a ha; rwa [Nat.zero_add] at this
  obtain ⟨y0, hy0⟩ : ∃ y : Ext zk.v, zk.v.drew = y.v := ⟨⟨zk.v.drew, bd (Below.refl _ _)⟩, rfl⟩
  have hn0 := num_set (hgn.below y0.b hg2) (cfk y0) ha (f b)
  obtain ⟨z8, hz8⟩ : ∃ z : Ext w1, y0.v.setCell ⟨g, a, none⟩ (.int .i64 (f b)) = z.v := ⟨⟨_, bS (bT zk.b y0.b) hg1 _⟩, rfl⟩
  have hg8 : g < z8.v.heap.size := by rw [← hz8]; simp; exact Nat.lt_of_lt_of_le hg2 y0.b.size
  have hf8 : ∀ i, z8.v.frozen? ⟨g, i, none⟩ = false := fun i => by rw [← hz8]; have := cfk y0 i; simpa using this
  rw [hz8] at hn0
  have B08 : ∀ z : Ext z8.v, z.v.cell? ⟨w.heap.size, 0, none⟩ = some (.int .i64 (a : Int)) := fun z => B0 (z.up z8.b)
  have B18 : ∀ z : Ext z8.v, z.v.cell? ⟨w.heap.size, 1, none⟩ = some (.int .i64 (b : Int)) := fun z => B1 (z.up z8.b)
  have cf8 : ∀ (y : Ext z8.v) i, y.v.frozen? ⟨g, i, none⟩ = false := fun y i => (y.b.frozen (p := ⟨g, i, none⟩) hg8).trans (hf8 i)
  have Lb8 : ∀ z : Ext z8.v, z.v.cell? ⟨lb, lo + a, none⟩ = some (.int .i64 (f a)) := fun z => La (z.up z8.b)
  have cb8 : ∀ y : Ext z8.v, ∃ v, y.v.cell? ⟨g, b, none⟩ = some v := fun y => by have := hn0.below y.b hg8 b hb; rw [Nat.zero_add] at this; exact ⟨_, this⟩
  obtain ⟨y1, hy1⟩ : ∃ y : Ext z8.v, z8.v.drew = y.v := ⟨⟨z8.v.drew, bd (Below.refl _ _)⟩, rfl⟩
  have hn1 := num_set (hn0.below y1.b hg8) (cf8 y1) hb (f a)
  obtain ⟨u1, hu1⟩ := cb8 y1
  obtain ⟨z9, hz9⟩ : ∃ z : Ext w1, y1.v.setCell ⟨g, b, none⟩ (.int .i64 (f a)) = z.v := ⟨⟨_, bS (bT z8.b y1.b) hg1 _⟩, rfl⟩
  have hg9 : g < z9.v.heap.size := by rw [← hz9]; simp; exact Nat.lt_of_lt_of_le hg8 y1.b.size
  rw [hz9] at hn1
  have HEX : Hid (NumIn z9.v z9.v.heap.size m (exch f a b) (some ⟨g, 0, none⟩)) := fun _ => ⟨g, 0, rfl, hg9, fun i hi => by
    rw [hn1 i hi]
    show some (Value.int .i64 (if i = b then f a else if i = a then f b else f i)) = some (Value.int .i64 (if i = a then f b else if i = b then f a else f i))
    by_cases e1 : i = a
    · have e2 : ¬ i = b := by omega
      rw [if_neg e2, if_pos e1, if_pos e1]
    · rw [if_neg e1, if_neg e1]⟩
  clear hn0 hn1 hg9 hgn hgf hg1 hg2 hg8 hf8 hgk hfk B0 B1 La Lb cb8
  go_wp2
  refine wp_region_last (fun w' => ∃ y : Ext zk.v, w' = y.v) 9 (by kernel_rfl) rfl ⟨⟨zk.v.drew, bd (Below.refl _ _)⟩, rfl⟩ (fun _ => ?_)
  rw [hy0]
  clear hy0
  refine wpAnyG_take (i := 0) (v := ?_) (by kernel_rfl) rfl (by kernel_rfl) (by kernel_rfl) (by kernel_rfl) (fun _ _ _ h => h) (Or.inl ⟨by rfl, ?_⟩) ⟨_, rfl⟩ ?_
  rotate_left
  · rintro wS ⟨yS, rfl⟩
    go_simp
    try (with_reducible rfl)
  try simp only [Act.put, List.setIfInBounds_toArray, List.set_cons_zero, List.set_cons_succ]
  refine wpAnyG_take (i := 1) (v := ?_) (by kernel_rfl) rfl (by kernel_rfl) (by kernel_rfl) (by kernel_rfl) (fun _ _ _ h => h) (Or.inl ⟨by rfl, ?_⟩) ⟨_, rfl⟩ ?_
  rotate_left
  · rintro wS ⟨yS, rfl⟩
    go_simp
    try (with_reducible rfl)
  try simp only [Act.put, List.setIfInBounds_toArray, List.set_cons_zero, List.set_cons_succ]
  refine wpAnyG_take (i := 2) (v := ?_) (by kernel_rfl) rfl (by kernel_rfl) (by kernel_rfl) (by kernel_rfl) (fun _ _ _ h => h) (Or.inl ⟨by rfl, ?_⟩) ⟨_, rfl⟩ ?_
  rotate_left
  · rintro wS ⟨yS, rfl⟩
    go_simp
    try (with_reducible rfl)
  try simp only [Act.put, List.setIfInBounds_toArray, List.set_cons_zero, List.set_cons_succ]
  refine wpAnyG_take (i := 3) (v := ?_) (by kernel_rfl) rfl (by kernel_rfl) (by kernel_rfl) (by kernel_rfl) (fun _ _ _ h => h) (Or.inl ⟨by rfl, ?_⟩) ⟨_, rfl⟩ ?_
  rotate_left
  · rintro wS ⟨yS, rfl⟩
    go_simp
    try (with_reducible rfl)
  try simp only [Act.put, List.setIfInBounds_toArray, List.set_cons_zero, List.set_cons_succ]
  refine wpAnyG_take (i := 4) (v := ?_) (by kernel_rfl) rfl (by kernel_rfl) (by kernel_rfl) (by kernel_rfl) (fun _ _ _ h => h) (Or.inl ⟨by rfl, ?_⟩) ⟨_, rfl⟩ ?_
  rotate_left
  · rintro wS ⟨yS, rfl⟩
    go_simp
    try (with_reducible rfl)
  try simp only [Act.put, List.setIfInBounds_toArray, List.set_cons_zero, List.set_cons_succ]
  refine wpAnyG_take (i := 5) (v := ?_) (by kernel_rfl) rfl (by kernel_rfl) (by kernel_rfl) (by kernel_rfl) (fun _ _ _ h => h) (Or.inl ⟨by rfl, ?_⟩) ⟨_, rfl⟩ ?_
  rotate_left
  · rintro wS ⟨yS, rfl⟩
    go_simp
    try (with_reducible rfl)
  try simp only [Act.put, List.setIfInBounds_toArray, List.set_cons_zero, List.set_cons_succ]
  refine wpAnyG_take (i := 6) (v := ?_) (by kernel_rfl) rfl (by kernel_rfl) (by kernel_rfl) (by kernel_rfl) (fun _ _ _ h => h) (Or.inl ⟨by rfl, ?_⟩) ⟨_, rfl⟩ ?_
  rotate_left
  · rintro wS ⟨yS, rfl⟩
    go_simp
    try (with_reducible rfl)
  try simp only [Act.put, List.setIfInBounds_toArray, List.set_cons_zero, List.set_cons_succ]
  refine wpAnyG_take (i := 7) (v := ?_) (by kernel_rfl) rfl (by kernel_rfl) (by kernel_rfl) (by kernel_rfl) (fun _ _ _ h => h) (Or.inl ⟨by rfl, ?_⟩) ⟨_, rfl⟩ ?_
  rotate_left
  · rintro wS ⟨yS, rfl⟩
    go_simp
    try (with_reducible rfl)
  try simp only [Act.put, List.setIfInBounds_toArray, List.set_cons_zero, List.set_cons_succ]
  refine wpAnyG_take (i := 8) (v := ?_) (by kernel_rfl) rfl (by kernel_rfl) (by kernel_rfl) (by kernel_rfl) (fun _ _ _ h => h) (Or.inl ⟨by rfl, ?_⟩) ⟨_, rfl⟩ ?_
  rotate_left
  · rintro wS ⟨yS, rfl⟩
    go_simp
    try (with_reducible rfl)
  try simp only [Act.put, List.setIfInBounds_toArray, List.set_cons_zero, List.set_cons_succ]
  refine wpAnyG_done (by kernel_rfl) (by kernel_rfl) (wpOp_plain rfl rfl ?_)
  go_simp
  go_wp2
  refine wp_region_last (fun w' => ∃ y : Ext z8.v, w' = y.v) 9 (by kernel_rfl) rfl ⟨⟨z8.v.drew, bd (Below.refl _ _)⟩, rfl⟩ (fun _ => ?_)
  rw [hy1]
  clear hy1
  refine wpAnyG_take (i := 0) (v := ?_) (by kernel_rfl) rfl (by kernel_rfl) (by kernel_rfl) (by kernel_rfl) (fun _ _ _ h => h) (Or.inl ⟨by rfl, ?_⟩) ⟨_, rfl⟩ ?_
  rotate_left
  · rintro wS ⟨yS, rfl⟩
    go_simp
    try (with_reducible rfl)
  try simp only [Act.put, List.setIfInBounds_toArray, List.set_cons_zero, List.set_cons_succ]
  refine wpAnyG_take (i := 1) (v := ?_) (by kernel_rfl) rfl (by kernel_rfl) (by kernel_rfl) (by kernel_rfl) (fun _ _ _ h => h) (Or.inl ⟨by rfl, ?_⟩) ⟨_, rfl⟩ ?_
  rotate_left
  · rintro wS ⟨yS, rfl⟩
    go_simp
    try (with_reducible rfl)
  try simp only [Act.put, List.setIfInBounds_toArray, List.set_cons_zero, List.set_cons_succ]
  refine wpAnyG_take (i := 2) (v := ?_) (by kernel_rfl) rfl (by kernel_rfl) (by kernel_rfl) (by kernel_rfl) (fun _ _ _ h => h) (Or.inl ⟨by rfl, ?_⟩) ⟨_, rfl⟩ ?_
  rotate_left
  · rintro wS ⟨yS, rfl⟩
    go_simp
    try (with_reducible rfl)
  try simp only [Act.put, List.setIfInBounds_toArray, List.set_cons_zero, List.set_cons_succ]
  refine wpAnyG_take (i := 3) (v := ?_) (by kernel_rfl) rfl (by kernel_rfl) (by kernel_rfl) (by kernel_rfl) (fun _ _ _ h => h) (Or.inl ⟨by rfl, ?_⟩) ⟨_, rfl⟩ ?_
  rotate_left
  · rintro wS ⟨yS, rfl⟩
    go_simp
    try (with_reducible rfl)
  try simp only [Act.put, List.setIfInBounds_toArray, List.set_cons_zero, List.set_cons_succ]
  refine wpAnyG_take (i := 4) (v := ?_) (by kernel_rfl) rfl (by kernel_rfl) (by kernel_rfl) (by kernel_rfl) (fun _ _ _ h => h) (Or.inl ⟨by rfl, ?_⟩) ⟨_, rfl⟩ ?_
  rotate_left
  · rintro wS ⟨yS, rfl⟩
    go_simp
    try (with_reducible rfl)
  try simp only [Act.put, List.setIfInBounds_toArray, List.set_cons_zero, List.set_cons_succ]
  refine wpAnyG_take (i := 5) (v := ?_) (by kernel_rfl) rfl (by kernel_rfl) (by kernel_rfl) (by kernel_rfl) (fun _ _ _ h => h) (Or.inl ⟨by rfl, ?_⟩) ⟨_, rfl⟩ ?_
  rotate_left
  · rintro wS ⟨yS, rfl⟩
    go_simp
    try (with_reducible rfl)
  try simp only [Act.put, List.setIfInBounds_toArray, List.set_cons_zero, List.set_cons_succ]
  refine wpAnyG_take (i := 6) (v := ?_) (by kernel_rfl) rfl (by kernel_rfl) (by kernel_rfl) (by kernel_rfl) (fun _ _ _ h => h) (Or.inl ⟨by rfl, ?_⟩) ⟨_, rfl⟩ ?_
  rotate_left
  · rintro wS ⟨yS, rfl⟩
    go_simp
    try (with_reducible rfl)
  try simp only [Act.put, List.setIfInBounds_toArray, List.set_cons_zero, List.set_cons_succ]
  refine wpAnyG_take (i := 7) (v := ?_) (by kernel_rfl) rfl (by kernel_rfl) (by kernel_rfl) (by kernel_rfl) (fun _ _ _ h => h) (Or.inl ⟨by rfl, ?_⟩) ⟨_, rfl⟩ ?_
  rotate_left
  · rintro wS ⟨yS, rfl⟩
    go_simp
    try (with_reducible rfl)
  try simp only [Act.put, List.setIfInBounds_toArray, List.set_cons_zero, List.set_cons_succ]
  refine wpAnyG_take (i := 8) (v := ?_) (by kernel_rfl) rfl (by kernel_rfl) (by kernel_rfl) (by kernel_rfl) (fun _ _ _ h => h) (Or.inl ⟨by rfl, ?_⟩) ⟨_, rfl⟩ ?_
  rotate_left
  · rintro wS ⟨yS, rfl⟩
    go_simp
    try (with_reducible rfl)
  try simp only [Act.put, List.setIfInBounds_toArray, List.set_cons_zero, List.set_cons_succ]
  refine wpAnyG_done (by kernel_rfl) (by kernel_rfl) (wpOp_plain rfl rfl ?_)
  go_simp
  go_wp2
  go_ret
  exact ⟨_, _, rfl, bT HB1.out z9.b, HEX.out⟩
end Go.Proofs.Ytegkgfiaegpihaa
