/- Rosters of hours: a copy, in the specification's words: new memory, apart. -/
import Derived.Test.YtegkgfiaegpihaaC1

set_option linter.unusedSimpArgs false

set_option linter.unusedVariables false

namespace Go.Proofs.Ytegkgfiaegpihaa

open Go.RowKit

theorem wpOp_want {P : Program} {ops : Array Oper} {Q : Exit → Act → World → Prop} {i : Nat} {o : Oper} {K : Act → World → Prop} {a : Act} {w : World} (hi : ops[i]? = some o) (hw : Region.wanted o (yielded ops a.tmps) = true) (h : Oper.wp P o a w K Q) : wpOp P ops Q i K a w := by
  simp only [wpOp, hi, hw, if_true]
  exact .inl h
theorem infoS : (Try.prog.info? 43).map (fun i => (i.zero, i.size, i.bytes)) = some (some (.agg #[.int .i64 0, .int .i64 0, .int .i64 0, .int .i64 0]), 4, 32) := by kernel_rfl
theorem srcR {w : World} {K : Nat} {D : Ro} {p q : Option Addr} (h : RoIn w K D p q) : 0 < D.n → ∃ b o, p = some ⟨b, o, none⟩ ∧ ∀ j, j < D.n * 1 → ∃ u, w.cell? ⟨b, o + j, none⟩ = some u ∧ u.oneCell' = true := srcN h.rm
theorem StAt.any {w : World} {b o : Nat} {D : Ro} (hc : StAt w b o D) {j : Nat} (hj : j < D.m * 4) : ∃ u, w.cell? ⟨b, o + j, none⟩ = some u ∧ u.oneCell' = true := by
  have hk : j / 4 < D.m := by omega
  have e3 : j = j / 4 * 4 + j % 4 := by omega
  have hr : j % 4 < 4 := Nat.mod_lt _ (by omega)
  rcases (show j % 4 = 0 ∨ j % 4 = 1 ∨ j % 4 = 2 ∨ j % 4 = 3 by omega) with h | h | h | h
  · exact ⟨_, by rw [e3, h]; exact hc.c0 _ hk, rfl⟩
  · exact ⟨_, by rw [e3, h, ← Nat.add_assoc]; exact hc.c1 _ hk, rfl⟩
  · exact ⟨_, by rw [e3, h, ← Nat.add_assoc]; exact hc.c2 _ hk, rfl⟩
  · exact ⟨_, by rw [e3, h, ← Nat.add_assoc]; exact hc.c3 _ hk, rfl⟩
theorem srcS {w : World} {K : Nat} {D : Ro} {p q : Option Addr} (h : RoIn w K D p q) : 0 < D.m → ∃ b o, q = some ⟨b, o, none⟩ ∧ ∀ j, j < D.m * 4 → ∃ u, w.cell? ⟨b, o + j, none⟩ = some u ∧ u.oneCell' = true := fun h0 => by
  obtain ⟨b, o, e, _, hc⟩ := h.st h0
  exact ⟨b, o, e, fun j hj => hc.any hj⟩
/-- the roster is a copy in new memory -/
structure CopyIn (w w' : World) (D : Ro) (p' q' : Option Addr) : Prop where
  below : Below w.heap.size w w'
  here : RoIn w' w'.heap.size D p' q'
  rm : 0 < D.n → ∃ g, p' = some ⟨g, 0, none⟩ ∧ w.heap.size ≤ g ∧ g < w'.heap.size ∧ ∀ i, w'.frozen? ⟨g, i, none⟩ = false
  st : 0 < D.m → ∃ g, q' = some ⟨g, 0, none⟩ ∧ w.heap.size ≤ g ∧ g < w'.heap.size ∧ ∀ i, w'.frozen? ⟨g, i, none⟩ = false
  ne : 0 < D.n → 0 < D.m → ∀ g g2 o o2, p' = some ⟨g, o, none⟩ → q' = some ⟨g2, o2, none⟩ → g ≠ g2
theorem StAt.of {w w' : World} {b o g : Nat} {D : Ro} (h : StAt w b o D) (hc : ∀ j, j < D.m * 4 → w'.cell? ⟨g, j, none⟩ = w.cell? ⟨b, o + j, none⟩) : StAt w' g 0 D :=
  ⟨fun k hk => by rw [Nat.zero_add, hc _ (by omega)]; exact h.c0 k hk, fun k hk => by rw [Nat.zero_add, hc _ (by omega), ← Nat.add_assoc]; exact h.c1 k hk,
    fun k hk => by rw [Nat.zero_add, hc _ (by omega), ← Nat.add_assoc]; exact h.c2 k hk, fun k hk => by rw [Nat.zero_add, hc _ (by omega), ← Nat.add_assoc]; exact h.c3 k hk⟩
theorem copy_fin {w w2 ws wo wl : World} {wp : World} {D : Ro} {p q yP yO : Option Addr} {bx : Nat} {u v : Value} (hs : RoIn ws ws.heap.size D p q) (ho : RoIn wo wo.heap.size D p q) (hP : CopiedF ws wp p (D.n * 1) yP) (hO : CopiedF wo wl q (D.m * 4) yO)
    (hpo : Below wp.heap.size wp wo) (hB : Below w.heap.size w w2) (hsb : Below w2.heap.size w2 ws) (hlb : Below w2.heap.size w2 wl) (hz : w.heap.size ≤ bx ∧ bx < w2.heap.size) :
    CopyIn w ((wl.setCell ⟨bx, 0, none⟩ u).setCell ⟨bx, 1, none⟩ v) D yP yO := by
  have hne : ∀ b j, w2.heap.size ≤ b → ((wl.setCell ⟨bx, 0, none⟩ u).setCell ⟨bx, 1, none⟩ v).cell? ⟨b, j, none⟩ = wl.cell? ⟨b, j, none⟩ := fun b j hb => by
    rw [World.cell?_setCell_other _ _ _ _ (by simp; try omega), World.cell?_setCell_other _ _ _ _ (by simp; try omega)]
  have hfz : ∀ b j, ((wl.setCell ⟨bx, 0, none⟩ u).setCell ⟨bx, 1, none⟩ v).frozen? ⟨b, j, none⟩ = wl.frozen? ⟨b, j, none⟩ := fun b j => by simp
  have hsz : ((wl.setCell ⟨bx, 0, none⟩ u).setCell ⟨bx, 1, none⟩ v).heap.size = wl.heap.size := by simp
  have z1 := hB.size; have z2 := hsb.size; have z3 := hP.below.size; have z4 := hpo.size; have z5 := hO.below.size
  have key1 : 0 < D.n → ∃ g, yP = some ⟨g, 0, none⟩ ∧ ws.heap.size ≤ g ∧ g < wp.heap.size ∧ NumAt ((wl.setCell ⟨bx, 0, none⟩ u).setCell ⟨bx, 1, none⟩ v) g 0 D.n D.rm ∧ ∀ i, wl.frozen? ⟨g, i, none⟩ = false := fun h0 => by
    obtain ⟨b, o, e, hl, hc⟩ := hs.rm h0
    obtain ⟨g, e2, l1, l2, hx⟩ := hP.here (by omega)
    refine ⟨g, e2, l1, l2, fun k hk => ?_, fun i => ?_⟩
    · rw [Nat.zero_add, hne g k (by omega), (bT hpo hO.below).cell (p := ⟨g, k, none⟩) l2, hx _ e k (by omega), add_at'']
      exact hc k hk
    · exact ((bT hpo hO.below).frozen (p := ⟨g, i, none⟩) l2).trans (hP.open' (by omega) g e2 i)
  have key2 : 0 < D.m → ∃ g, yO = some ⟨g, 0, none⟩ ∧ wo.heap.size ≤ g ∧ g < wl.heap.size ∧ StAt ((wl.setCell ⟨bx, 0, none⟩ u).setCell ⟨bx, 1, none⟩ v) g 0 D ∧ ∀ i, wl.frozen? ⟨g, i, none⟩ = false := fun h0 => by
    obtain ⟨b, o, e, hl, hc⟩ := ho.st h0
    obtain ⟨g, e2, l1, l2, hx⟩ := hO.here (by omega)
    refine ⟨g, e2, l1, l2, hc.of fun j hj => ?_, hO.open' (by omega) g e2⟩
    rw [hne g j (by omega), hx _ e j hj, add_at'']
  refine ⟨bS (bS (bT hB hlb) hz.1 _) hz.1 _, ⟨fun h0 => ?_, fun h0 => ?_⟩, fun h0 => ?_, fun h0 => ?_, fun h0 h1 g g2 o o2 e1 e2 => ?_⟩
  · obtain ⟨g, e, l1, l2, hc, _⟩ := key1 h0
    exact ⟨g, 0, e, by rw [hsz]; omega, hc⟩
  · obtain ⟨g, e, l1, l2, hc, _⟩ := key2 h0
    exact ⟨g, 0, e, by rw [hsz]; omega, hc⟩
  · obtain ⟨g, e, l1, l2, hc, hf⟩ := key1 h0
    exact ⟨g, e, by omega, by rw [hsz]; omega, fun i => by rw [hfz]; exact hf i⟩
  · obtain ⟨g, e, l1, l2, hc, hf⟩ := key2 h0
    exact ⟨g, e, by omega, by rw [hsz]; omega, fun i => by rw [hfz]; exact hf i⟩
  · obtain ⟨g', e', l1, l2, _, _⟩ := key1 h0
    obtain ⟨g2', e2', l3, l4, _, _⟩ := key2 h1
    rw [e'] at e1; rw [e2'] at e2
    cases e1; cases e2
    omega
set_option maxRecDepth 100000 in
set_option maxHeartbeats 4000000 in
theorem copy_any (D : Ro) (p q : Option Addr) (c d : Nat) (w : World) (hn : D.n ≤ 40) (hm : D.m ≤ 40) (hi : RoIn w w.heap.size D p q) :
    Calls Try.prog 32 #[.agg #[.slice p D.n c, .slice q D.m d]] w fun e w' => ∃ p' c' q' d', e = .returned (.agg #[.slice p' D.n c', .slice q' D.m d']) ∧ CopyIn w w' D p' q' := by
  obtain ⟨i3, hi3, hz3, hz3', hz3''⟩ := info_parts infoI
  obtain ⟨i4, hi4, hz4, hz4', hz4''⟩ := info_parts infoS
  have S1 := Lib.hid (show D.n ≤ maxLen by unfold maxLen; omega); have S2 := Lib.hid (show D.m ≤ maxLen by unfold maxLen; omega)
  have I3 := Lib.hid hi3; have Z3 := Lib.hid hz3; have Z3' := Lib.hid hz3'; have Z3'' := Lib.hid hz3''; clear hi3 hz3 hz3' hz3''
  have I4 := Lib.hid hi4; have Z4 := Lib.hid hz4; have Z4' := Lib.hid hz4'; have Z4'' := Lib.hid hz4''; clear hi4 hz4 hz4' hz4''
  obtain ⟨w1, x1, hw1, hb1, hz1, F0, F1, _⟩ := box_ro w p q D.n D.m c d
  obtain ⟨w2, x2, hw2, hb2, hz2, G0, G1, Gz⟩ := box_nilr x1.v
  have HB := Lib.hid (bT (bT hb1 x1.b) hb2)
  have HI : Hid (∀ x : Ext w2, RoIn x.v x.v.heap.size D p q) := fun x => (hi.bel (bT hb1 x1.b)).bel (bT hb2 x.b)
  have HZ : Hid (w.heap.size ≤ x1.v.heap.size ∧ x1.v.heap.size < w2.heap.size) := by have := hb1.size; have := x1.b.size; exact ⟨by omega, by omega⟩
  replace F0 : ∀ y : Ext w2, y.v.cell? ⟨w.heap.size, 0, none⟩ = some (.slice p D.n c) := fun y => F0 (y.up (bT x1.b hb2))
  replace F1 : ∀ y : Ext w2, y.v.cell? ⟨w.heap.size, 1, none⟩ = some (.slice q D.m d) := fun y => F1 (y.up (bT x1.b hb2))
  clear hb1 hz1 hi hb2 hz2
  go_enter Try.func32, Try.ntmps32
  go_wp2
  refine wp_region_lastE 9 (by kernel_rfl) rfl (fun yr => ?_)
  refine wpAnyG_take (i := 1) (v := ?_) (by kernel_rfl) rfl (by kernel_rfl) (by kernel_rfl) (by kernel_rfl) (fun _ _ _ h => h) (Or.inl ⟨by rfl, ?_⟩) ⟨_, rfl⟩ ?_
  rotate_left
  · rintro wS ⟨yS, rfl⟩
    go_simp
    try (with_reducible rfl)
  try simp only [Act.put, List.setIfInBounds_toArray, List.set_cons_zero, List.set_cons_succ]
  refine wpAnyG_take (i := 2) (v := ?_) (by kernel_rfl) rfl (by kernel_rfl) (by kernel_rfl) (by kernel_rfl) (fun _ _ _ h => h) (Or.inl ⟨by rfl, ?_⟩) ⟨_, rfl⟩ ?_
  rotate_left
  · rintro wS ⟨yS, rfl⟩
    go_simp
    try (with_reducible rfl)
  try simp only [Act.put, List.setIfInBounds_toArray, List.set_cons_zero, List.set_cons_succ]
  refine wpAnyG_take (i := 5) (v := ?_) (by kernel_rfl) rfl (by kernel_rfl) (by kernel_rfl) (by kernel_rfl) (fun _ _ _ h => h) (Or.inl ⟨by rfl, ?_⟩) ⟨_, rfl⟩ ?_
  rotate_left
  · rintro wS ⟨yS, rfl⟩
    go_simp
    try (with_reducible rfl)
  try simp only [Act.put, List.setIfInBounds_toArray, List.set_cons_zero, List.set_cons_succ]
  refine wpAnyG_take (i := 6) (v := ?_) (by kernel_rfl) rfl (by kernel_rfl) (by kernel_rfl) (by kernel_rfl) (fun _ _ _ h => h) (Or.inl ⟨by rfl, ?_⟩) ⟨_, rfl⟩ ?_
  rotate_left
  · rintro wS ⟨yS, rfl⟩
    go_simp
    try (with_reducible rfl)
  try simp only [Act.put, List.setIfInBounds_toArray, List.set_cons_zero, List.set_cons_succ]
  refine wpAnyG_two (i := 0) (j := 4) (by kernel_rfl) (by decide) (by decide) ?_ ?_
  · refine wpOp_plain rfl rfl ?_
    go_simp
    obtain ⟨ya, hya⟩ : ∃ zz : Ext w2, yr.v.alloc (Obj.cells #[] 3) = zz.v := ⟨⟨_, bA yr.b _⟩, rfl⟩
    rw [hya]
    clear hya
    refine ⟨⟨_, rfl⟩, ?_⟩
    try simp only [Act.put, List.setIfInBounds_toArray, List.set_cons_zero, List.set_cons_succ]
    refine wpAnyG_two (i := 3) (j := 4) (by kernel_rfl) (by decide) (by decide) ?_ ?_
    · refine wpOp_plain rfl rfl ?_
      refine append_copyE (ops := #[]) rfl (.tmp 3) (.tmp 5) 22 rfl 3 i3 _ 1 8 Try.underlying22 I3.out Z3.out Z3'.out Z3''.out rfl (by decide) _ (by simp [Act.eval, Act.put]; rfl) p D.n c (by simp [Act.eval, Act.put]) (srcR (HI.out ya)) S1.out (by omega) ?_
      intro yP cP w' hcP
      obtain ⟨yb, rfl⟩ : ∃ zz : Ext w2, w' = zz.v := ⟨⟨_, bT ya.b hcP.below⟩, rfl⟩
      have HP := Lib.hid hcP
      clear hcP
      refine ⟨⟨_, rfl⟩, ?_⟩
      try simp only [Act.put, List.setIfInBounds_toArray, List.set_cons_zero, List.set_cons_succ]
      refine wpAnyG_one (i := 4) (by kernel_rfl) (by decide) ?_
      refine wpOp_plain rfl rfl ?_
      go_simp
      obtain ⟨yc, hyc, hPO⟩ : ∃ zz : Ext w2, yb.v.alloc (Obj.cells #[] 43) = zz.v ∧ Below yb.v.heap.size yb.v zz.v := ⟨⟨_, bA yb.b _⟩, rfl, bA (Below.refl _ _) _⟩
      have HPO := Lib.hid hPO
      clear hPO
      rw [hyc]
      clear hyc
      refine ⟨⟨_, rfl⟩, ?_⟩
      try simp only [Act.put, List.setIfInBounds_toArray, List.set_cons_zero, List.set_cons_succ]
      refine wpAnyG_one (i := 7) (by kernel_rfl) (by decide) ?_
      refine wpOp_plain rfl rfl ?_
      refine append_copyE (ops := #[]) rfl (.tmp 7) (.tmp 9) 23 rfl 43 i4 _ 4 32 Try.underlying23 I4.out Z4.out Z4'.out Z4''.out rfl (by decide) _ (by simp [Act.eval, Act.put]; rfl) q D.m d (by simp [Act.eval, Act.put]) (srcS (HI.out yc)) S2.out (by omega) ?_
      intro yO cO w' hcO
      obtain ⟨yd, rfl⟩ : ∃ zz : Ext w2, w' = zz.v := ⟨⟨_, bT yc.b hcO.below⟩, rfl⟩
      have HO := Lib.hid hcO
      clear hcO
      refine ⟨⟨_, rfl⟩, ?_⟩
      try simp only [Act.put, List.setIfInBounds_toArray, List.set_cons_zero, List.set_cons_succ]
      refine wpAnyG_take (i := 8) (v := ?_) (by kernel_rfl) rfl (by kernel_rfl) (by kernel_rfl) (by kernel_rfl) (fun _ _ _ h => h) (Or.inl ⟨by rfl, ?_⟩) ⟨_, rfl⟩ ?_
      rotate_left
      · rintro wS ⟨yS, rfl⟩
        go_simp
        try (with_reducible rfl)
      try simp only [Act.put, List.setIfInBounds_toArray, List.set_cons_zero, List.set_cons_succ]
      refine wpAnyG_done (by kernel_rfl) (by kernel_rfl) (wpOp_plain rfl rfl ?_)
      go_simp
      go_wp2
      refine bodyPost_ret (v := .agg #[.slice yP D.n cP, .slice yO D.m cO]) (by simp [results, Try.f32, go_sem, G0, G1, Gz]) rfl ?_
      exact ⟨_, _, _, _, rfl, copy_fin (HI.out ya) (HI.out yc) HP.out HO.out HPO.out HB.out ya.b yd.b HZ.out⟩
    · refine wpOp_plain rfl rfl ?_
      go_simp
      obtain ⟨yb, hyb⟩ : ∃ zz : Ext w2, ya.v.alloc (Obj.cells #[] 43) = zz.v := ⟨⟨_, bA ya.b _⟩, rfl⟩
      rw [hyb]
      clear hyb
      refine ⟨⟨_, rfl⟩, ?_⟩
      try simp only [Act.put, List.setIfInBounds_toArray, List.set_cons_zero, List.set_cons_succ]
      refine wpAnyG_one (i := 3) (by kernel_rfl) (by decide) ?_
      refine wpOp_plain rfl rfl ?_
      refine append_copyE (ops := #[]) rfl (.tmp 3) (.tmp 5) 22 rfl 3 i3 _ 1 8 Try.underlying22 I3.out Z3.out Z3'.out Z3''.out rfl (by decide) _ (by simp [Act.eval, Act.put]; rfl) p D.n c (by simp [Act.eval, Act.put]) (srcR (HI.out yb)) S1.out (by omega) ?_
      intro yP cP w' hcP
      obtain ⟨yc, rfl⟩ : ∃ zz : Ext w2, w' = zz.v := ⟨⟨_, bT yb.b hcP.below⟩, rfl⟩
      have HP := Lib.hid hcP
      clear hcP
      refine ⟨⟨_, rfl⟩, ?_⟩
      try simp only [Act.put, List.setIfInBounds_toArray, List.set_cons_zero, List.set_cons_succ]
      refine wpAnyG_one (i := 7) (by kernel_rfl) (by decide) ?_
      refine wpOp_plain rfl rfl ?_
      refine append_copyE (ops := #[]) rfl (.tmp 7) (.tmp 9) 23 rfl 43 i4 _ 4 32 Try.underlying23 I4.out Z4.out Z4'.out Z4''.out rfl (by decide) _ (by simp [Act.eval, Act.put]; rfl) q D.m d (by simp [Act.eval, Act.put]) (srcS (HI.out yc)) S2.out (by omega) ?_
      intro yO cO w' hcO
      obtain ⟨yd, rfl⟩ : ∃ zz : Ext w2, w' = zz.v := ⟨⟨_, bT yc.b hcO.below⟩, rfl⟩
      have HO := Lib.hid hcO
      clear hcO
      refine ⟨⟨_, rfl⟩, ?_⟩
      try simp only [Act.put, List.setIfInBounds_toArray, List.set_cons_zero, List.set_cons_succ]
      have HPO := Lib.hid (Below.refl yc.v.heap.size yc.v)
      refine wpAnyG_take (i := 8) (v := ?_) (by kernel_rfl) rfl (by kernel_rfl) (by kernel_rfl) (by kernel_rfl) (fun _ _ _ h => h) (Or.inl ⟨by rfl, ?_⟩) ⟨_, rfl⟩ ?_
      rotate_left
      · rintro wS ⟨yS, rfl⟩
        go_simp
        try (with_reducible rfl)
      try simp only [Act.put, List.setIfInBounds_toArray, List.set_cons_zero, List.set_cons_succ]
      refine wpAnyG_done (by kernel_rfl) (by kernel_rfl) (wpOp_plain rfl rfl ?_)
      go_simp
      go_wp2
      refine bodyPost_ret (v := .agg #[.slice yP D.n cP, .slice yO D.m cO]) (by simp [results, Try.f32, go_sem, G0, G1, Gz]) rfl ?_
      exact ⟨_, _, _, _, rfl, copy_fin (HI.out yb) (HI.out yc) HP.out HO.out HPO.out HB.out yb.b yd.b HZ.out⟩
  · refine wpOp_plain rfl rfl ?_
    go_simp
    obtain ⟨ya, hya⟩ : ∃ zz : Ext w2, yr.v.alloc (Obj.cells #[] 43) = zz.v := ⟨⟨_, bA yr.b _⟩, rfl⟩
    rw [hya]
    clear hya
    refine ⟨⟨_, rfl⟩, ?_⟩
    try simp only [Act.put, List.setIfInBounds_toArray, List.set_cons_zero, List.set_cons_succ]
    refine wpAnyG_one (i := 0) (by kernel_rfl) (by decide) ?_
    refine wpOp_plain rfl rfl ?_
    go_simp
    obtain ⟨yb, hyb⟩ : ∃ zz : Ext w2, ya.v.alloc (Obj.cells #[] 3) = zz.v := ⟨⟨_, bA ya.b _⟩, rfl⟩
    rw [hyb]
    clear hyb
    refine ⟨⟨_, rfl⟩, ?_⟩
    try simp only [Act.put, List.setIfInBounds_toArray, List.set_cons_zero, List.set_cons_succ]
    refine wpAnyG_one (i := 3) (by kernel_rfl) (by decide) ?_
    refine wpOp_plain rfl rfl ?_
    refine append_copyE (ops := #[]) rfl (.tmp 3) (.tmp 5) 22 rfl 3 i3 _ 1 8 Try.underlying22 I3.out Z3.out Z3'.out Z3''.out rfl (by decide) _ (by simp [Act.eval, Act.put]; rfl) p D.n c (by simp [Act.eval, Act.put]) (srcR (HI.out yb)) S1.out (by omega) ?_
    intro yP cP w' hcP
    obtain ⟨yc, rfl⟩ : ∃ zz : Ext w2, w' = zz.v := ⟨⟨_, bT yb.b hcP.below⟩, rfl⟩
    have HP := Lib.hid hcP
    clear hcP
    refine ⟨⟨_, rfl⟩, ?_⟩
    try simp only [Act.put, List.setIfInBounds_toArray, List.set_cons_zero, List.set_cons_succ]
    refine wpAnyG_one (i := 7) (by kernel_rfl) (by decide) ?_
    refine wpOp_plain rfl rfl ?_
    refine append_copyE (ops := #[]) rfl (.tmp 7) (.tmp 9) 23 rfl 43 i4 _ 4 32 Try.underlying23 I4.out Z4.out Z4'.out Z4''.out rfl (by decide) _ (by simp [Act.eval, Act.put]; rfl) q D.m d (by simp [Act.eval, Act.put]) (srcS (HI.out yc)) S2.out (by omega) ?_
    intro yO cO w' hcO
    obtain ⟨yd, rfl⟩ : ∃ zz : Ext w2, w' = zz.v := ⟨⟨_, bT yc.b hcO.below⟩, rfl⟩
    have HO := Lib.hid hcO
    clear hcO
    refine ⟨⟨_, rfl⟩, ?_⟩
    try simp only [Act.put, List.setIfInBounds_toArray, List.set_cons_zero, List.set_cons_succ]
    have HPO := Lib.hid (Below.refl yc.v.heap.size yc.v)
    refine wpAnyG_take (i := 8) (v := ?_) (by kernel_rfl) rfl (by kernel_rfl) (by kernel_rfl) (by kernel_rfl) (fun _ _ _ h => h) (Or.inl ⟨by rfl, ?_⟩) ⟨_, rfl⟩ ?_
    rotate_left
    · rintro wS ⟨yS, rfl⟩
      go_simp
      try (with_reducible rfl)
    try simp only [Act.put, List.setIfInBounds_toArray, List.set_cons_zero, List.set_cons_succ]
    refine wpAnyG_done (by kernel_rfl) (by kernel_rfl) (wpOp_plain rfl rfl ?_)
    go_simp
    go_wp2
    refine bodyPost_ret (v := .agg #[.slice yP D.n cP, .slice yO D.m cO]) (by simp [results, Try.f32, go_sem, G0, G1, Gz]) rfl ?_
    exact ⟨_, _, _, _, rfl, copy_fin (HI.out yb) (HI.out yc) HP.out HO.out HPO.out HB.out yb.b yd.b HZ.out⟩
end Go.Proofs.Ytegkgfiaegpihaa
