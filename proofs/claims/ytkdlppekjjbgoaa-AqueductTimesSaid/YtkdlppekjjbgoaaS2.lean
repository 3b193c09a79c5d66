/- Lines of an aqueduct: a line past one of whose points just so much flows; whether it can. -/
import Derived.Test.YtkdlppekjjbgoaaS1

set_option linter.unusedSimpArgs false

set_option linter.unusedVariables false

namespace Go.Proofs.Ytkdlppekjjbgoaa

open Go.RowKit

theorem apart_fin {w w2 wo wl : World} {q yO : Option Addr} {m : Nat} (hO : CopiedF wo wl q (m * 1) yO) (hB : Below w.heap.size w w2) (hb : Below w2.heap.size w2 wo) : 0 < m → ∀ g2 o2, yO = some ⟨g2, o2, none⟩ → w.heap.size ≤ g2 := fun hm g2 o2 e => by
  obtain ⟨g', e3, m1, _, _⟩ := hO.here (by omega)
  rw [e3] at e
  cases e
  have := hB.size
  have := hb.size
  omega
theorem wpOp_want {P : Program} {ops : Array Oper} {Q : Exit → Act → World → Prop} {i : Nat} {o : Oper} {K : Act → World → Prop} {a : Act} {w : World} (hi : ops[i]? = some o) (hw : Region.wanted o (yielded ops a.tmps) = true) (h : Oper.wp P o a w K Q) : wpOp P ops Q i K a w := by
  simp only [wpOp, hi, hw, if_true]
  exact .inl h
set_option maxRecDepth 100000 in
set_option maxHeartbeats 4000000 in
theorem copy2_any (D : Duct) (p q : Option Addr) (c d : Nat) (w : World) (hn : D.n ≤ 40) (hm : D.m ≤ 40) (hi : DuctIn w w.heap.size D p q) :
    Calls Try.prog 25 #[.agg #[.slice p D.n c, .slice q D.m d]] w fun e w' => ∃ p' c' q' d', e = .returned (.agg #[.slice p' D.n c', .slice q' D.m d']) ∧ CopyIn w w' D p' q' ∧ (0 < D.m → ∀ g2 o2, q' = some ⟨g2, o2, none⟩ → w.heap.size ≤ g2) := by
  obtain ⟨i3, hi3, hz3, hz3', hz3''⟩ := info_parts infoI
  obtain ⟨i4, hi4, hz4, hz4', hz4''⟩ := info_parts infoP
  have S1 := Lib.hid (show D.n ≤ maxLen by unfold maxLen; omega); have S2 := Lib.hid (show D.m ≤ maxLen by unfold maxLen; omega)
  have I3 := Lib.hid hi3; have Z3 := Lib.hid hz3; have Z3' := Lib.hid hz3'; have Z3'' := Lib.hid hz3''; clear hi3 hz3 hz3' hz3''
  have I4 := Lib.hid hi4; have Z4 := Lib.hid hz4; have Z4' := Lib.hid hz4'; have Z4'' := Lib.hid hz4''; clear hi4 hz4 hz4' hz4''
  obtain ⟨w1, x1, hw1, hb1, hz1, F0, F1⟩ := box_line w p q D.n D.m c d
  obtain ⟨w2, x2, hw2, hb2, hz2, G0, G1, Gz⟩ := box_nil x1.v
  have HB := Lib.hid (bT (bT hb1 x1.b) hb2)
  have HI : Hid (∀ x : Ext w2, DuctIn x.v x.v.heap.size D p q) := fun x => (hi.bel (bT hb1 x1.b)).bel (bT hb2 x.b)
  have HZ : Hid (w.heap.size ≤ x1.v.heap.size ∧ x1.v.heap.size < w2.heap.size) := by have := hb1.size; have := x1.b.size; exact ⟨by omega, by omega⟩
  replace F0 : ∀ y : Ext w2, y.v.cell? ⟨w.heap.size, 0, none⟩ = some (.slice p D.n c) := fun y => F0 (y.up (bT x1.b hb2))
  replace F1 : ∀ y : Ext w2, y.v.cell? ⟨w.heap.size, 1, none⟩ = some (.slice q D.m d) := fun y => F1 (y.up (bT x1.b hb2))
  clear hb1 hz1 hi hb2 hz2
  go_enter Try.func25, Try.ntmps25
  go_wp2
  refine wp_region_lastE 9 (by kernel_rfl) rfl (fun yr => ?_)
  refine wpAnyG_take (i := 1) (v := ?_) (by kernel_rfl) rfl (by kernel_rfl) (by kernel_rfl) (by kernel_rfl) (fun _ _ _ h => h) (Or.inl ⟨by rfl, ?_⟩) ⟨_, rfl⟩ ?_
  rotate_left
  · rintro wS ⟨yS, rfl⟩
    go_simp
    try (with_reducible rfl)
  try simp only [Act.put, List.setIfInBounds_toArray, List.set_cons_zero, List.set_cons_succ]
  refine wpAnyG_take (i := 2) (v := ?_) (by kernel_rfl) rfl (by kernel_rfl) (by kernel_rfl) (by kernel_rfl) (fun _ _ _ h => h) (Or.inl ⟨by rfl, ?_⟩) ⟨_, rfl⟩ ?_
  rotate_left
  · rintro wS ⟨yS, rfl⟩
    go_simp
    try (with_reducible rfl)
  try simp only [Act.put, List.setIfInBounds_toArray, List.set_cons_zero, List.set_cons_succ]
  refine wpAnyG_take (i := 5) (v := ?_) (by kernel_rfl) rfl (by kernel_rfl) (by kernel_rfl) (by kernel_rfl) (fun _ _ _ h => h) (Or.inl ⟨by rfl, ?_⟩) ⟨_, rfl⟩ ?_
  rotate_left
  · rintro wS ⟨yS, rfl⟩
    go_simp
    try (with_reducible rfl)
  try simp only [Act.put, List.setIfInBounds_toArray, List.set_cons_zero, List.set_cons_succ]
  refine wpAnyG_take (i := 6) (v := ?_) (by kernel_rfl) rfl (by kernel_rfl) (by kernel_rfl) (by kernel_rfl) (fun _ _ _ h => h) (Or.inl ⟨by rfl, ?_⟩) ⟨_, rfl⟩ ?_
  rotate_left
  · rintro wS ⟨yS, rfl⟩
    go_simp
    try (with_reducible rfl)
  try simp only [Act.put, List.setIfInBounds_toArray, List.set_cons_zero, List.set_cons_succ]
  refine wpAnyG_two (i := 0) (j := 4) (by kernel_rfl) (by decide) (by decide) ?_ ?_
  · refine wpOp_plain rfl rfl ?_
    go_simp
    obtain ⟨ya, hya⟩ : ∃ zz : Ext w2, yr.v.alloc (Obj.cells #[] 39) = zz.v := ⟨⟨_, bA yr.b _⟩, rfl⟩
    rw [hya]
    clear hya
    refine ⟨⟨_, rfl⟩, ?_⟩
    try simp only [Act.put, List.setIfInBounds_toArray, List.set_cons_zero, List.set_cons_succ]
    refine wpAnyG_two (i := 3) (j := 4) (by kernel_rfl) (by decide) (by decide) ?_ ?_
    · refine wpOp_plain rfl rfl ?_
      refine append_copyE (ops := #[]) rfl (.tmp 3) (.tmp 5) 22 rfl 39 i4 _ 3 24 Try.underlying22 I4.out Z4.out Z4'.out Z4''.out rfl (by decide) _ (by simp [Act.eval, Act.put]; rfl) p D.n c (by simp [Act.eval, Act.put]) (srcP (HI.out ya)) S1.out (by omega) ?_
      intro yP cP w' hcP
      obtain ⟨yb, rfl⟩ : ∃ zz : Ext w2, w' = zz.v := ⟨⟨_, bT ya.b hcP.below⟩, rfl⟩
      have HP := Lib.hid hcP
      clear hcP
      refine ⟨⟨_, rfl⟩, ?_⟩
      try simp only [Act.put, List.setIfInBounds_toArray, List.set_cons_zero, List.set_cons_succ]
      refine wpAnyG_one (i := 4) (by kernel_rfl) (by decide) ?_
      refine wpOp_plain rfl rfl ?_
      go_simp
      obtain ⟨yc, hyc, hPO⟩ : ∃ zz : Ext w2, yb.v.alloc (Obj.cells #[] 3) = zz.v ∧ Below yb.v.heap.size yb.v zz.v := ⟨⟨_, bA yb.b _⟩, rfl, bA (Below.refl _ _) _⟩
      have HPO := Lib.hid hPO
      clear hPO
      rw [hyc]
      clear hyc
      refine ⟨⟨_, rfl⟩, ?_⟩
      try simp only [Act.put, List.setIfInBounds_toArray, List.set_cons_zero, List.set_cons_succ]
      refine wpAnyG_one (i := 7) (by kernel_rfl) (by decide) ?_
      refine wpOp_plain rfl rfl ?_
      refine append_copyE (ops := #[]) rfl (.tmp 7) (.tmp 9) 23 rfl 3 i3 _ 1 8 Try.underlying23 I3.out Z3.out Z3'.out Z3''.out rfl (by decide) _ (by simp [Act.eval, Act.put]; rfl) q D.m d (by simp [Act.eval, Act.put]) (srcO (HI.out yc)) S2.out (by omega) ?_
      intro yO cO w' hcO
      obtain ⟨yd, rfl⟩ : ∃ zz : Ext w2, w' = zz.v := ⟨⟨_, bT yc.b hcO.below⟩, rfl⟩
      have HO := Lib.hid hcO
      clear hcO
      refine ⟨⟨_, rfl⟩, ?_⟩
      try simp only [Act.put, List.setIfInBounds_toArray, List.set_cons_zero, List.set_cons_succ]
      refine wpAnyG_take (i := 8) (v := ?_) (by kernel_rfl) rfl (by kernel_rfl) (by kernel_rfl) (by kernel_rfl) (fun _ _ _ h => h) (Or.inl ⟨by rfl, ?_⟩) ⟨_, rfl⟩ ?_
      rotate_left
      · rintro wS ⟨yS, rfl⟩
        go_simp
        try (with_reducible rfl)
      try simp only [Act.put, List.setIfInBounds_toArray, List.set_cons_zero, List.set_cons_succ]
      refine wpAnyG_done (by kernel_rfl) (by kernel_rfl) (wpOp_plain rfl rfl ?_)
      go_simp
      go_wp2
      refine bodyPost_ret (v := .agg #[.slice yP D.n cP, .slice yO D.m cO]) (by simp [results, Try.f25, go_sem, G0, G1, Gz]) rfl ?_
      exact ⟨_, _, _, _, rfl, (copy_fin (HI.out ya) (HI.out yc) HP.out HO.out HPO.out HB.out ya.b yd.b HZ.out).2, apart_fin HO.out HB.out yc.b⟩
    · refine wpOp_plain rfl rfl ?_
      go_simp
      obtain ⟨yb, hyb⟩ : ∃ zz : Ext w2, ya.v.alloc (Obj.cells #[] 3) = zz.v := ⟨⟨_, bA ya.b _⟩, rfl⟩
      rw [hyb]
      clear hyb
      refine ⟨⟨_, rfl⟩, ?_⟩
      try simp only [Act.put, List.setIfInBounds_toArray, List.set_cons_zero, List.set_cons_succ]
      refine wpAnyG_one (i := 3) (by kernel_rfl) (by decide) ?_
      refine wpOp_plain rfl rfl ?_
      refine append_copyE (ops := #[]) rfl (.tmp 3) (.tmp 5) 22 rfl 39 i4 _ 3 24 Try.underlying22 I4.out Z4.out Z4'.out Z4''.out rfl (by decide) _ (by simp [Act.eval, Act.put]; rfl) p D.n c (by simp [Act.eval, Act.put]) (srcP (HI.out yb)) S1.out (by omega) ?_
      intro yP cP w' hcP
      obtain ⟨yc, rfl⟩ : ∃ zz : Ext w2, w' = zz.v := ⟨⟨_, bT yb.b hcP.below⟩, rfl⟩
      have HP := Lib.hid hcP
      clear hcP
      refine ⟨⟨_, rfl⟩, ?_⟩
      try simp only [Act.put, List.setIfInBounds_toArray, List.set_cons_zero, List.set_cons_succ]
      refine wpAnyG_one (i := 7) (by kernel_rfl) (by decide) ?_
      refine wpOp_plain rfl rfl ?_
      refine append_copyE (ops := #[]) rfl (.tmp 7) (.tmp 9) 23 rfl 3 i3 _ 1 8 Try.underlying23 I3.out Z3.out Z3'.out Z3''.out rfl (by decide) _ (by simp [Act.eval, Act.put]; rfl) q D.m d (by simp [Act.eval, Act.put]) (srcO (HI.out yc)) S2.out (by omega) ?_
      intro yO cO w' hcO
      obtain ⟨yd, rfl⟩ : ∃ zz : Ext w2, w' = zz.v := ⟨⟨_, bT yc.b hcO.below⟩, rfl⟩
      have HO := Lib.hid hcO
      clear hcO
      refine ⟨⟨_, rfl⟩, ?_⟩
      try simp only [Act.put, List.setIfInBounds_toArray, List.set_cons_zero, List.set_cons_succ]
      have HPO := Lib.hid (Below.refl yc.v.heap.size yc.v)
      refine wpAnyG_take (i := 8) (v := ?_) (by kernel_rfl) rfl (by kernel_rfl) (by kernel_rfl) (by kernel_rfl) (fun _ _ _ h => h) (Or.inl ⟨by rfl, ?_⟩) ⟨_, rfl⟩ ?_
      rotate_left
      · rintro wS ⟨yS, rfl⟩
        go_simp
        try (with_reducible rfl)
      try simp only [Act.put, List.setIfInBounds_toArray, List.set_cons_zero, List.set_cons_succ]
      refine wpAnyG_done (by kernel_rfl) (by kernel_rfl) (wpOp_plain rfl rfl ?_)
      go_simp
      go_wp2
      refine bodyPost_ret (v := .agg #[.slice yP D.n cP, .slice yO D.m cO]) (by simp [results, Try.f25, go_sem, G0, G1, Gz]) rfl ?_
      exact ⟨_, _, _, _, rfl, (copy_fin (HI.out yb) (HI.out yc) HP.out HO.out HPO.out HB.out yb.b yd.b HZ.out).2, apart_fin HO.out HB.out yc.b⟩
  · refine wpOp_plain rfl rfl ?_
    go_simp
    obtain ⟨ya, hya⟩ : ∃ zz : Ext w2, yr.v.alloc (Obj.cells #[] 3) = zz.v := ⟨⟨_, bA yr.b _⟩, rfl⟩
    rw [hya]
    clear hya
    refine ⟨⟨_, rfl⟩, ?_⟩
    try simp only [Act.put, List.setIfInBounds_toArray, List.set_cons_zero, List.set_cons_succ]
    refine wpAnyG_one (i := 0) (by kernel_rfl) (by decide) ?_
    refine wpOp_plain rfl rfl ?_
    go_simp
    obtain ⟨yb, hyb⟩ : ∃ zz : Ext w2, ya.v.alloc (Obj.cells #[] 39) = zz.v := ⟨⟨_, bA ya.b _⟩, rfl⟩
    rw [hyb]
    clear hyb
    refine ⟨⟨_, rfl⟩, ?_⟩
    try simp only [Act.put, List.setIfInBounds_toArray, List.set_cons_zero, List.set_cons_succ]
    refine wpAnyG_one (i := 3) (by kernel_rfl) (by decide) ?_
    refine wpOp_plain rfl rfl ?_
    refine append_copyE (ops := #[]) rfl (.tmp 3) (.tmp 5) 22 rfl 39 i4 _ 3 24 Try.underlying22 I4.out Z4.out Z4'.out Z4''.out rfl (by decide) _ (by simp [Act.eval, Act.put]; rfl) p D.n c (by simp [Act.eval, Act.put]) (srcP (HI.out yb)) S1.out (by omega) ?_
    intro yP cP w' hcP
    obtain ⟨yc, rfl⟩ : ∃ zz : Ext w2, w' = zz.v := ⟨⟨_, bT yb.b hcP.below⟩, rfl⟩
    have HP := Lib.hid hcP
    clear hcP
    refine ⟨⟨_, rfl⟩, ?_⟩
    try simp only [Act.put, List.setIfInBounds_toArray, List.set_cons_zero, List.set_cons_succ]
    refine wpAnyG_one (i := 7) (by kernel_rfl) (by decide) ?_
    refine wpOp_plain rfl rfl ?_
    refine append_copyE (ops := #[]) rfl (.tmp 7) (.tmp 9) 23 rfl 3 i3 _ 1 8 Try.underlying23 I3.out Z3.out Z3'.out Z3''.out rfl (by decide) _ (by simp [Act.eval, Act.put]; rfl) q D.m d (by simp [Act.eval, Act.put]) (srcO (HI.out yc)) S2.out (by omega) ?_
    intro yO cO w' hcO
    obtain ⟨yd, rfl⟩ : ∃ zz : Ext w2, w' = zz.v := ⟨⟨_, bT yc.b hcO.below⟩, rfl⟩
    have HO := Lib.hid hcO
    clear hcO
    refine ⟨⟨_, rfl⟩, ?_⟩
    try simp only [Act.put, List.setIfInBounds_toArray, List.set_cons_zero, List.set_cons_succ]
    have HPO := Lib.hid (Below.refl yc.v.heap.size yc.v)
    refine wpAnyG_take (i := 8) (v := ?_) (by kernel_rfl) rfl (by kernel_rfl) (by kernel_rfl) (by kernel_rfl) (fun _ _ _ h => h) (Or.inl ⟨by rfl, ?_⟩) ⟨_, rfl⟩ ?_
    rotate_left
    · rintro wS ⟨yS, rfl⟩
      go_simp
      try (with_reducible rfl)
    try simp only [Act.put, List.setIfInBounds_toArray, List.set_cons_zero, List.set_cons_succ]
    refine wpAnyG_done (by kernel_rfl) (by kernel_rfl) (wpOp_plain rfl rfl ?_)
    go_simp
    go_wp2
    refine bodyPost_ret (v := .agg #[.slice yP D.n cP, .slice yO D.m cO]) (by simp [results, Try.f25, go_sem, G0, G1, Gz]) rfl ?_
    exact ⟨_, _, _, _, rfl, (copy_fin (HI.out yb) (HI.out yc) HP.out HO.out HPO.out HB.out yb.b yd.b HZ.out).2, apart_fin HO.out HB.out yc.b⟩
set_option maxRecDepth 100000 in
set_option maxHeartbeats 4000000 in
theorem set_any (D : Duct) (p q : Option Addr) (c d : Nat) (k : Nat) (v : Int) (w : World) (hn : D.n ≤ 40) (hm : D.m ≤ 40) (hk : k < D.n) (hi : DuctIn w w.heap.size D p q) :
    Calls Try.prog 88 #[.agg #[.slice p D.n c, .slice q D.m d], .int .i64 k, .int .i64 v] w fun e w' => ∃ p' c' q' d', e = .returned (.agg #[.slice p' D.n c', .slice q' D.m d']) ∧ Below w.heap.size w w' ∧ DuctIn w' w'.heap.size (nar D k v v) p' q' := by
  obtain ⟨w1, x1, hw1, hb1, hz1, F0, F1⟩ := box_line w p q D.n D.m c d
  obtain ⟨w2, x2, hw2, hb2, hz2, G0, G1, Gz⟩ := box_nil x1.v
  have HB := Lib.hid (bT (bT hb1 x1.b) hb2)
  have HI : Hid (∀ x : Ext w2, DuctIn x.v x.v.heap.size D p q) := fun x => (hi.bel (bT hb1 x1.b)).bel (bT hb2 x.b)
  have HZ : Hid (w.heap.size ≤ x1.v.heap.size ∧ x1.v.heap.size < w2.heap.size) := by have := hb1.size; have := x1.b.size; exact ⟨by omega, by omega⟩
  replace F0 : ∀ y : Ext w2, y.v.cell? ⟨w.heap.size, 0, none⟩ = some (.slice p D.n c) := fun y => F0 (y.up (bT x1.b hb2))
  replace F1 : ∀ y : Ext w2, y.v.cell? ⟨w.heap.size, 1, none⟩ = some (.slice q D.m d) := fun y => F1 (y.up (bT x1.b hb2))
  have j2 : (k : Int) < (D.n : Int) := by omega
  have HK := Lib.hid hk
  clear hb1 hz1 hi hb2 hz2 hk
  go_enter Try.func88, Try.ntmps88
  go_wp2_with fail
  refine (copy2_any D p q c d _ hn hm (HI.out _)).mono ?_
  rintro e w' ⟨p', c', q', d', rfl, hcp, hap⟩
  obtain ⟨g, go, rfl, hg1, hfz, hne⟩ := hcp.own (by have := HK.out; omega)
  have hcb := hcp.below; have hch := hcp.here
  clear hcp
  obtain ⟨y3, rfl⟩ : ∃ z : Ext w2, w' = z.v := ⟨⟨w', bT x2.b hcb⟩, rfl⟩
  have HG : Hid (w2.heap.size ≤ g) := Nat.le_trans x2.b.size hg1
  have HAP : Hid (0 < D.m → ∀ g2 o2, q' = some ⟨g2, o2, none⟩ → w2.heap.size ≤ g2) := fun h g2 o2 e => Nat.le_trans x2.b.size (hap h g2 o2 e)
  have HGL : Hid (g < y3.v.heap.size) := by
    obtain ⟨b, o, e, hl, _⟩ := hch.pt (by have := HK.out; omega)
    cases e; exact hl
  have HNE := Lib.hid hne; have HFZ := Lib.hid hfz; have HCH := Lib.hid hch
  clear hg1 hfz hne hcb hch hap hw1 hw2
  obtain ⟨w5, x5, e5, b5, l5⟩ := mk_line y3.v (some ⟨g, go, none⟩) q' D.n D.m c' d'
  have HBx5 := Lib.hid b5; have HLx5 := Lib.hid l5
  clear b5 l5
  have L0 : ∀ z : Ext w5, z.v.cell? ⟨y3.v.heap.size, 0, none⟩ = some (.slice (some ⟨g, go, none⟩) D.n c') := fun z => (HLx5.out.bel z.b).c0
  have FZ : ∀ (z : Ext w5) i, z.v.frozen? ⟨g, i, none⟩ = false := fun z i => ((bT HBx5.out z.b).frozen (p := ⟨g, i, none⟩) HGL.out).trans (HFZ.out i)
  have E0 : ∀ z : Ext w5, z.v.cell? ⟨g, go + k * 3, none⟩ = some (.int .i64 (D.lo k)) := fun z => (HCH.out.bel (bT HBx5.out z.b)).lo' HK.out
  have E1 : ∀ z : Ext w5, z.v.cell? ⟨g, go + k * 3 + 1, none⟩ = some (.int .i64 (D.hi k)) := fun z => (HCH.out.bel (bT HBx5.out z.b)).hi' HK.out
  obtain ⟨w6, x6, e6, hw6⟩ : ∃ (w6 : World) (x6 : Ext w6), (x5.v.setCell ⟨g, go + k * 3, none⟩ (.int .i64 v)).setCell ⟨g, go + k * 3 + 1, none⟩ (.int .i64 v) = x6.v ∧ w6 = (x5.v.setCell ⟨g, go + k * 3, none⟩ (.int .i64 v)).setCell ⟨g, go + k * 3 + 1, none⟩ (.int .i64 v) := ⟨_, ⟨_, Below.refl _ _⟩, rfl, rfl⟩
  have HBx26 : Hid (Below w2.heap.size w2 w6) := by rw [hw6]; exact bS (bS (bT (bT y3.b HBx5.out) x5.b) HG.out _) HG.out _
  have HLx6 : Hid (LineBox w6 y3.v.heap.size (some ⟨g, go, none⟩) D.n c' q' D.m d') := by rw [hw6]; exact (HLx5.out.bel x5.b).two (by have := HGL.out; omega)
  have HNx6 : Hid (DuctIn w6 w6.heap.size (nar D k v v) (some ⟨g, go, none⟩) q') := by
    rw [hw6]
    have := nar_in (a := v) (b := v) (HCH.out.bel (bT HBx5.out x5.b)) HK.out HNE.out
    show DuctIn _ _ _ _ _
    simpa using this
  clear hw6
  have M0 : ∀ z : Ext w6, z.v.cell? ⟨y3.v.heap.size, 0, none⟩ = some (.slice (some ⟨g, go, none⟩) D.n c') := fun z => (HLx6.out.bel z.b).c0
  have M1 : ∀ z : Ext w6, z.v.cell? ⟨y3.v.heap.size, 1, none⟩ = some (.slice q' D.m d') := fun z => (HLx6.out.bel z.b).c1
  have R0 : ∀ z : Ext w6, z.v.cell? ⟨x1.v.heap.size, 0, none⟩ = some (.slice none 0 0) := fun z => G0 (z.up HBx26.out)
  have R1 : ∀ z : Ext w6, z.v.cell? ⟨x1.v.heap.size, 1, none⟩ = some (.slice none 0 0) := fun z => G1 (z.up HBx26.out)
  have Rz : ∀ (z : Ext w6) i, z.v.frozen? ⟨x1.v.heap.size, i, none⟩ = false := fun z => Gz (z.up HBx26.out)
  clear G0 G1 Gz
  go_wp2
  refine bodyPost_ret (v := .agg #[.slice (some ⟨g, go, none⟩) D.n c', .slice q' D.m d']) (by simp [results, Try.f88, go_sem, R0, R1, Rz]) rfl ⟨_, _, _, _, rfl, ?_, ?_⟩
  · exact bS (bS (bT (bT HB.out HBx26.out) x6.b) HZ.out.1 _) HZ.out.1 _
  · have h := HNx6.out.bel x6.b
    have hz := HZ.out.2
    have hg := HG.out
    refine ⟨fun h0 => ?_, fun h0 => ?_⟩
    · obtain ⟨b, o, e, hl, hc⟩ := h.pt h0
      cases e
      refine ⟨g, go, rfl, by simpa using hl, fun i hi => ?_, fun i hi => ?_, fun i hi => ?_⟩
      · rw [setTwo_else (o := 0) (by simp; try omega) (by simp; try omega)]; exact hc.c0 i hi
      · rw [setTwo_else (o := 0) (by simp; try omega) (by simp; try omega)]; exact hc.c1 i hi
      · rw [setTwo_else (o := 0) (by simp; try omega) (by simp; try omega)]; exact hc.c2 i hi
    · obtain ⟨b, o, e, hl, hc⟩ := h.od h0
      have := HAP.out h0 b o e
      exact ⟨b, o, e, by simpa using hl, fun i hi => by rw [setTwo_else (o := 0) (by simp; try omega) (by simp; try omega)]; exact hc i hi⟩
set_option maxRecDepth 100000 in
set_option maxHeartbeats 4000000 in
theorem can_any (D : Duct) (p q : Option Addr) (c d : Nat) (k : Nat) (v : Int) (w : World) (hn : D.n ≤ 40) (hm : D.m ≤ 40) (hk : k < D.n) (hi : DuctIn w w.heap.size D p q) :
    Calls Try.prog 87 #[.agg #[.slice p D.n c, .slice q D.m d], .int .i64 k, .int .i64 v] w fun e w' => e = .returned (.bool (canV D k v)) ∧ Below w.heap.size w w' := by
  obtain ⟨w1, x, hw1, hb1, hz1, F0, F1⟩ := box_line w p q D.n D.m c d
  have HB := Lib.hid hb1
  have HI : Hid (∀ x : Ext w1, DuctIn x.v x.v.heap.size D p q) := fun x => (hi.bel hb1).bel x.b
  clear hb1 hz1 hi
  obtain ⟨pb, po, rfl, _, _⟩ := (HI.out x).pt (by omega)
  have C0 : ∀ z : Ext w1, z.v.cell? ⟨pb, po + k * 3, none⟩ = some (.int .i64 (D.lo k)) := fun z => (HI.out z).lo' hk
  have C1 : ∀ z : Ext w1, z.v.cell? ⟨pb, po + k * 3 + 1, none⟩ = some (.int .i64 (D.hi k)) := fun z => (HI.out z).hi' hk
  have j2 : (k : Int) < (D.n : Int) := by omega
  have HK := Lib.hid hk
  clear hk
  cases hw : within v (D.lo k) (D.hi k) with
  | false =>
    have HR := Lib.hid (show canV D k v = false by simp [canV, hw])
    go_enter Try.func87, Try.ntmps87
    go_wp2
    refine wp_region_lastE 23 (by kernel_rfl) rfl (fun yr => ?_)
    refine wpAnyG_take (i := 0) (v := ?_) (by kernel_rfl) rfl (by kernel_rfl) (by kernel_rfl) (by kernel_rfl) (fun _ _ _ h => h) (Or.inl ⟨by rfl, ?_⟩) ⟨_, rfl⟩ ?_
    rotate_left
    · rintro wS ⟨yS, rfl⟩
      go_simp
      try (with_reducible rfl)
    try simp only [Act.put, List.setIfInBounds_toArray, List.set_cons_zero, List.set_cons_succ]
    refine wpAnyG_take (i := 1) (v := ?_) (by kernel_rfl) rfl (by kernel_rfl) (by kernel_rfl) (by kernel_rfl) (fun _ _ _ h => h) (Or.inl ⟨by rfl, ?_⟩) ⟨_, rfl⟩ ?_
    rotate_left
    · rintro wS ⟨yS, rfl⟩
      go_simp
      try (with_reducible rfl)
    try simp only [Act.put, List.setIfInBounds_toArray, List.set_cons_zero, List.set_cons_succ]
    refine wpAnyG_take (i := 2) (v := ?_) (by kernel_rfl) rfl (by kernel_rfl) (by kernel_rfl) (by kernel_rfl) (fun _ _ _ h => h) (Or.inl ⟨by rfl, ?_⟩) ⟨_, rfl⟩ ?_
    rotate_left
    · rintro wS ⟨yS, rfl⟩
      go_simp
      try (with_reducible rfl)
    try simp only [Act.put, List.setIfInBounds_toArray, List.set_cons_zero, List.set_cons_succ]
    refine wpAnyG_take (i := 3) (v := ?_) (by kernel_rfl) rfl (by kernel_rfl) (by kernel_rfl) (by kernel_rfl) (fun _ _ _ h => h) (Or.inl ⟨by rfl, ?_⟩) ⟨_, rfl⟩ ?_
    rotate_left
    · rintro wS ⟨yS, rfl⟩
      go_simp
      try (with_reducible rfl)
    try simp only [Act.put, List.setIfInBounds_toArray, List.set_cons_zero, List.set_cons_succ]
    refine wpAnyG_take (i := 4) (v := ?_) (by kernel_rfl) rfl (by kernel_rfl) (by kernel_rfl) (by kernel_rfl) (fun _ _ _ h => h) (Or.inl ⟨by rfl, ?_⟩) ⟨_, rfl⟩ ?_
    rotate_left
    · rintro wS ⟨yS, rfl⟩
      go_simp
      try (with_reducible rfl)
    try simp only [Act.put, List.setIfInBounds_toArray, List.set_cons_zero, List.set_cons_succ]
    refine wpAnyG_take (i := 5) (v := ?_) (by kernel_rfl) rfl (by kernel_rfl) (by kernel_rfl) (by kernel_rfl) (fun _ _ _ h => h) (Or.inl ⟨by rfl, ?_⟩) ⟨_, rfl⟩ ?_
    rotate_left
    · rintro wS ⟨yS, rfl⟩
      go_simp
      try (with_reducible rfl)
    try simp only [Act.put, List.setIfInBounds_toArray, List.set_cons_zero, List.set_cons_succ]
    refine wpAnyG_take (i := 6) (v := ?_) (by kernel_rfl) rfl (by kernel_rfl) (by kernel_rfl) (by kernel_rfl) (fun _ _ _ h => h) (Or.inl ⟨by rfl, ?_⟩) ⟨_, rfl⟩ ?_
    rotate_left
    · rintro wS ⟨yS, rfl⟩
      go_simp
      try (with_reducible rfl)
    try simp only [Act.put, List.setIfInBounds_toArray, List.set_cons_zero, List.set_cons_succ]
    refine wpAnyG_take (i := 7) (v := ?_) (by kernel_rfl) rfl (by kernel_rfl) (by kernel_rfl) (by kernel_rfl) (fun _ _ _ h => h) (Or.inl ⟨by rfl, ?_⟩) ⟨_, rfl⟩ ?_
    rotate_left
    · rintro wS ⟨yS, rfl⟩
      go_simp
      try (with_reducible rfl)
    try simp only [Act.put, List.setIfInBounds_toArray, List.set_cons_zero, List.set_cons_succ]
    refine wpAnyG_take (i := 8) (v := ?_) (by kernel_rfl) rfl (by kernel_rfl) (by kernel_rfl) (by kernel_rfl) (fun _ _ _ h => h) (Or.inl ⟨by rfl, ?_⟩) ⟨_, rfl⟩ ?_
    rotate_left
    · rintro wS ⟨yS, rfl⟩
      go_simp
      try (with_reducible rfl)
    try simp only [Act.put, List.setIfInBounds_toArray, List.set_cons_zero, List.set_cons_succ]
    refine wpAnyG_take (i := 9) (v := ?_) (by kernel_rfl) rfl (by kernel_rfl) (by kernel_rfl) (by kernel_rfl) (fun _ _ _ h => h) (Or.inl ⟨by rfl, ?_⟩) ⟨_, rfl⟩ ?_
    rotate_left
    · rintro wS ⟨yS, rfl⟩
      go_simp
      try (with_reducible rfl)
    try simp only [Act.put, List.setIfInBounds_toArray, List.set_cons_zero, List.set_cons_succ]
    refine wpAnyG_take (i := 10) (v := ?_) (by kernel_rfl) rfl (by kernel_rfl) (by kernel_rfl) (by kernel_rfl) (fun _ _ _ h => h) (Or.inl ⟨by rfl, ?_⟩) ⟨_, rfl⟩ ?_
    rotate_left
    · rintro wS ⟨yS, rfl⟩
      go_simp
      try (with_reducible rfl)
    try simp only [Act.put, List.setIfInBounds_toArray, List.set_cons_zero, List.set_cons_succ]
    refine wpAnyG_take (i := 11) (v := ?_) (by kernel_rfl) rfl (by kernel_rfl) (by kernel_rfl) (by kernel_rfl) (fun _ _ _ h => h) (Or.inl ⟨by rfl, ?_⟩) ⟨_, rfl⟩ ?_
    rotate_left
    · rintro wS ⟨yS, rfl⟩
      go_simp
      try (with_reducible rfl)
    try simp only [Act.put, List.setIfInBounds_toArray, List.set_cons_zero, List.set_cons_succ]
    refine wpAnyG_take (i := 12) (v := ?_) (by kernel_rfl) rfl (by kernel_rfl) (by kernel_rfl) (by kernel_rfl) (fun _ _ _ h => h) (Or.inl ⟨by rfl, ?_⟩) ⟨_, rfl⟩ ?_
    rotate_left
    · rintro wS ⟨yS, rfl⟩
      go_simp
      try (with_reducible rfl)
    try simp only [Act.put, List.setIfInBounds_toArray, List.set_cons_zero, List.set_cons_succ]
    refine wpAnyG_take (i := 13) (v := ?_) (by kernel_rfl) rfl (by kernel_rfl) (by kernel_rfl) (by kernel_rfl) (fun _ _ _ h => h) (Or.inl ⟨by rfl, ?_⟩) ⟨_, rfl⟩ ?_
    rotate_left
    · rintro wS ⟨yS, rfl⟩
      go_simp
      try (with_reducible rfl)
    try simp only [Act.put, List.setIfInBounds_toArray, List.set_cons_zero, List.set_cons_succ]
    refine wpAnyG_take (i := 14) (v := ?_) (by kernel_rfl) rfl (by kernel_rfl) (by kernel_rfl) (by kernel_rfl) (fun _ _ _ h => h) (Or.inl ⟨by rfl, ?_⟩) ⟨_, rfl⟩ ?_
    rotate_left
    · rintro wS ⟨yS, rfl⟩
      go_simp
      try (with_reducible rfl)
    try simp only [Act.put, List.setIfInBounds_toArray, List.set_cons_zero, List.set_cons_succ]
    refine wpAnyG_one (i := 15) (by kernel_rfl) (by decide) (wpOp_plain rfl rfl ?_)
    go_simp
    go_at_call 61
    refine (quiet_s (within_any _ _ _ _)).mono ?_
    rintro e w' ⟨rfl, y1, rfl⟩
    refine ⟨⟨y1, rfl⟩, ?_⟩
    try simp only [Act.put, List.setIfInBounds_toArray, List.set_cons_zero, List.set_cons_succ]
    refine wpAnyG_take (i := 16) (v := ?_) (by kernel_rfl) rfl (by kernel_rfl) (by kernel_rfl) (by kernel_rfl) (fun _ _ _ h => h) (Or.inl ⟨by rfl, ?_⟩) ⟨_, rfl⟩ ?_
    rotate_left
    · rintro wS ⟨yS, rfl⟩
      go_simp
      try (with_reducible rfl)
    try simp only [Act.put, List.setIfInBounds_toArray, List.set_cons_zero, List.set_cons_succ]
    refine wpAnyG_take (i := 17) (v := undef) (by kernel_rfl) rfl (by kernel_rfl) (by kernel_rfl) (by kernel_rfl) (fun _ _ _ h => h) (Or.inr ⟨by rfl, rfl⟩) ⟨_, rfl⟩ ?_
    try simp only [Act.put, List.setIfInBounds_toArray, List.set_cons_zero, List.set_cons_succ]
    refine wpAnyG_take (i := 18) (v := undef) (by kernel_rfl) rfl (by kernel_rfl) (by kernel_rfl) (by kernel_rfl) (fun _ _ _ h => h) (Or.inr ⟨by rfl, rfl⟩) ⟨_, rfl⟩ ?_
    try simp only [Act.put, List.setIfInBounds_toArray, List.set_cons_zero, List.set_cons_succ]
    refine wpAnyG_take (i := 19) (v := undef) (by kernel_rfl) rfl (by kernel_rfl) (by kernel_rfl) (by kernel_rfl) (fun _ _ _ h => h) (Or.inr ⟨by rfl, rfl⟩) ⟨_, rfl⟩ ?_
    try simp only [Act.put, List.setIfInBounds_toArray, List.set_cons_zero, List.set_cons_succ]
    refine wpAnyG_take (i := 20) (v := undef) (by kernel_rfl) rfl (by kernel_rfl) (by kernel_rfl) (by kernel_rfl) (fun _ _ _ h => h) (Or.inr ⟨by rfl, rfl⟩) ⟨_, rfl⟩ ?_
    try simp only [Act.put, List.setIfInBounds_toArray, List.set_cons_zero, List.set_cons_succ]
    refine wpAnyG_take (i := 21) (v := undef) (by kernel_rfl) rfl (by kernel_rfl) (by kernel_rfl) (by kernel_rfl) (fun _ _ _ h => h) (Or.inr ⟨by rfl, rfl⟩) ⟨_, rfl⟩ ?_
    try simp only [Act.put, List.setIfInBounds_toArray, List.set_cons_zero, List.set_cons_succ]
    refine wpAnyG_take (i := 22) (v := ?_) (by kernel_rfl) rfl (by kernel_rfl) (by kernel_rfl) (by kernel_rfl) (fun _ _ _ h => h) (Or.inl ⟨by rfl, ?_⟩) ⟨_, rfl⟩ ?_
    rotate_left
    · rintro wS ⟨yS, rfl⟩
      go_simp
      try (with_reducible rfl)
    try simp only [Act.put, List.setIfInBounds_toArray, List.set_cons_zero, List.set_cons_succ]
    refine wpAnyG_done (by kernel_rfl) (by kernel_rfl) (wpOp_plain rfl rfl ?_)
    go_simp
    go_wp2
    go_ret
    exact ⟨ret_b HR.out.symm, bT HB.out (Ext.b _)⟩
  | true =>
    have HR := Lib.hid (show canV D k v = (nar D k v v).one by simp [canV, hw])
    go_enter Try.func87, Try.ntmps87
    go_wp2
    refine wp_region_lastE 23 (by kernel_rfl) rfl (fun yr => ?_)
    refine wpAnyG_take (i := 0) (v := ?_) (by kernel_rfl) rfl (by kernel_rfl) (by kernel_rfl) (by kernel_rfl) (fun _ _ _ h => h) (Or.inl ⟨by rfl, ?_⟩) ⟨_, rfl⟩ ?_
    rotate_left
    · rintro wS ⟨yS, rfl⟩
      go_simp
      try (with_reducible rfl)
    try simp only [Act.put, List.setIfInBounds_toArray, List.set_cons_zero, List.set_cons_succ]
    refine wpAnyG_take (i := 1) (v := ?_) (by kernel_rfl) rfl (by kernel_rfl) (by kernel_rfl) (by kernel_rfl) (fun _ _ _ h => h) (Or.inl ⟨by rfl, ?_⟩) ⟨_, rfl⟩ ?_
    rotate_left
    · rintro wS ⟨yS, rfl⟩
      go_simp
      try (with_reducible rfl)
    try simp only [Act.put, List.setIfInBounds_toArray, List.set_cons_zero, List.set_cons_succ]
    refine wpAnyG_take (i := 2) (v := ?_) (by kernel_rfl) rfl (by kernel_rfl) (by kernel_rfl) (by kernel_rfl) (fun _ _ _ h => h) (Or.inl ⟨by rfl, ?_⟩) ⟨_, rfl⟩ ?_
    rotate_left
    · rintro wS ⟨yS, rfl⟩
      go_simp
      try (with_reducible rfl)
    try simp only [Act.put, List.setIfInBounds_toArray, List.set_cons_zero, List.set_cons_succ]
    refine wpAnyG_take (i := 3) (v := ?_) (by kernel_rfl) rfl (by kernel_rfl) (by kernel_rfl) (by kernel_rfl) (fun _ _ _ h => h) (Or.inl ⟨by rfl, ?_⟩) ⟨_, rfl⟩ ?_
    rotate_left
    · rintro wS ⟨yS, rfl⟩
      go_simp
      try (with_reducible rfl)
    try simp only [Act.put, List.setIfInBounds_toArray, List.set_cons_zero, List.set_cons_succ]
    refine wpAnyG_take (i := 4) (v := ?_) (by kernel_rfl) rfl (by kernel_rfl) (by kernel_rfl) (by kernel_rfl) (fun _ _ _ h => h) (Or.inl ⟨by rfl, ?_⟩) ⟨_, rfl⟩ ?_
    rotate_left
    · rintro wS ⟨yS, rfl⟩
      go_simp
      try (with_reducible rfl)
    try simp only [Act.put, List.setIfInBounds_toArray, List.set_cons_zero, List.set_cons_succ]
    refine wpAnyG_take (i := 5) (v := ?_) (by kernel_rfl) rfl (by kernel_rfl) (by kernel_rfl) (by kernel_rfl) (fun _ _ _ h => h) (Or.inl ⟨by rfl, ?_⟩) ⟨_, rfl⟩ ?_
    rotate_left
    · rintro wS ⟨yS, rfl⟩
      go_simp
      try (with_reducible rfl)
    try simp only [Act.put, List.setIfInBounds_toArray, List.set_cons_zero, List.set_cons_succ]
    refine wpAnyG_take (i := 6) (v := ?_) (by kernel_rfl) rfl (by kernel_rfl) (by kernel_rfl) (by kernel_rfl) (fun _ _ _ h => h) (Or.inl ⟨by rfl, ?_⟩) ⟨_, rfl⟩ ?_
    rotate_left
    · rintro wS ⟨yS, rfl⟩
      go_simp
      try (with_reducible rfl)
    try simp only [Act.put, List.setIfInBounds_toArray, List.set_cons_zero, List.set_cons_succ]
    refine wpAnyG_take (i := 7) (v := ?_) (by kernel_rfl) rfl (by kernel_rfl) (by kernel_rfl) (by kernel_rfl) (fun _ _ _ h => h) (Or.inl ⟨by rfl, ?_⟩) ⟨_, rfl⟩ ?_
    rotate_left
    · rintro wS ⟨yS, rfl⟩
      go_simp
      try (with_reducible rfl)
    try simp only [Act.put, List.setIfInBounds_toArray, List.set_cons_zero, List.set_cons_succ]
    refine wpAnyG_take (i := 8) (v := ?_) (by kernel_rfl) rfl (by kernel_rfl) (by kernel_rfl) (by kernel_rfl) (fun _ _ _ h => h) (Or.inl ⟨by rfl, ?_⟩) ⟨_, rfl⟩ ?_
    rotate_left
    · rintro wS ⟨yS, rfl⟩
      go_simp
      try (with_reducible rfl)
    try simp only [Act.put, List.setIfInBounds_toArray, List.set_cons_zero, List.set_cons_succ]
    refine wpAnyG_take (i := 9) (v := ?_) (by kernel_rfl) rfl (by kernel_rfl) (by kernel_rfl) (by kernel_rfl) (fun _ _ _ h => h) (Or.inl ⟨by rfl, ?_⟩) ⟨_, rfl⟩ ?_
    rotate_left
    · rintro wS ⟨yS, rfl⟩
      go_simp
      try (with_reducible rfl)
    try simp only [Act.put, List.setIfInBounds_toArray, List.set_cons_zero, List.set_cons_succ]
    refine wpAnyG_take (i := 10) (v := ?_) (by kernel_rfl) rfl (by kernel_rfl) (by kernel_rfl) (by kernel_rfl) (fun _ _ _ h => h) (Or.inl ⟨by rfl, ?_⟩) ⟨_, rfl⟩ ?_
    rotate_left
    · rintro wS ⟨yS, rfl⟩
      go_simp
      try (with_reducible rfl)
    try simp only [Act.put, List.setIfInBounds_toArray, List.set_cons_zero, List.set_cons_succ]
    refine wpAnyG_take (i := 11) (v := ?_) (by kernel_rfl) rfl (by kernel_rfl) (by kernel_rfl) (by kernel_rfl) (fun _ _ _ h => h) (Or.inl ⟨by rfl, ?_⟩) ⟨_, rfl⟩ ?_
    rotate_left
    · rintro wS ⟨yS, rfl⟩
      go_simp
      try (with_reducible rfl)
    try simp only [Act.put, List.setIfInBounds_toArray, List.set_cons_zero, List.set_cons_succ]
    refine wpAnyG_take (i := 12) (v := ?_) (by kernel_rfl) rfl (by kernel_rfl) (by kernel_rfl) (by kernel_rfl) (fun _ _ _ h => h) (Or.inl ⟨by rfl, ?_⟩) ⟨_, rfl⟩ ?_
    rotate_left
    · rintro wS ⟨yS, rfl⟩
      go_simp
      try (with_reducible rfl)
    try simp only [Act.put, List.setIfInBounds_toArray, List.set_cons_zero, List.set_cons_succ]
    refine wpAnyG_take (i := 13) (v := ?_) (by kernel_rfl) rfl (by kernel_rfl) (by kernel_rfl) (by kernel_rfl) (fun _ _ _ h => h) (Or.inl ⟨by rfl, ?_⟩) ⟨_, rfl⟩ ?_
    rotate_left
    · rintro wS ⟨yS, rfl⟩
      go_simp
      try (with_reducible rfl)
    try simp only [Act.put, List.setIfInBounds_toArray, List.set_cons_zero, List.set_cons_succ]
    refine wpAnyG_take (i := 14) (v := ?_) (by kernel_rfl) rfl (by kernel_rfl) (by kernel_rfl) (by kernel_rfl) (fun _ _ _ h => h) (Or.inl ⟨by rfl, ?_⟩) ⟨_, rfl⟩ ?_
    rotate_left
    · rintro wS ⟨yS, rfl⟩
      go_simp
      try (with_reducible rfl)
    try simp only [Act.put, List.setIfInBounds_toArray, List.set_cons_zero, List.set_cons_succ]
    refine wpAnyG_one (i := 15) (by kernel_rfl) (by decide) (wpOp_plain rfl rfl ?_)
    go_simp
    go_at_call 61
    refine (quiet_s (within_any _ _ _ _)).mono ?_
    rintro e w' ⟨rfl, y1, rfl⟩
    refine ⟨⟨y1, rfl⟩, ?_⟩
    try simp only [Act.put, List.setIfInBounds_toArray, List.set_cons_zero, List.set_cons_succ]
    refine wpAnyG_take (i := 16) (v := ?_) (by kernel_rfl) rfl (by kernel_rfl) (by kernel_rfl) (by kernel_rfl) (fun _ _ _ h => h) (Or.inl ⟨by rfl, ?_⟩) ⟨_, rfl⟩ ?_
    rotate_left
    · rintro wS ⟨yS, rfl⟩
      go_simp
      try (with_reducible rfl)
    try simp only [Act.put, List.setIfInBounds_toArray, List.set_cons_zero, List.set_cons_succ]
    refine wpAnyG_take (i := 17) (v := ?_) (by kernel_rfl) rfl (by kernel_rfl) (by kernel_rfl) (by kernel_rfl) (fun _ _ _ h => h) (Or.inl ⟨by rfl, ?_⟩) ⟨_, rfl⟩ ?_
    rotate_left
    · rintro wS ⟨yS, rfl⟩
      go_simp
      try (with_reducible rfl)
    try simp only [Act.put, List.setIfInBounds_toArray, List.set_cons_zero, List.set_cons_succ]
    refine wpAnyG_take (i := 18) (v := ?_) (by kernel_rfl) rfl (by kernel_rfl) (by kernel_rfl) (by kernel_rfl) (fun _ _ _ h => h) (Or.inl ⟨by rfl, ?_⟩) ⟨_, rfl⟩ ?_
    rotate_left
    · rintro wS ⟨yS, rfl⟩
      go_simp
      try (with_reducible rfl)
    try simp only [Act.put, List.setIfInBounds_toArray, List.set_cons_zero, List.set_cons_succ]
    refine wpAnyG_take (i := 19) (v := ?_) (by kernel_rfl) rfl (by kernel_rfl) (by kernel_rfl) (by kernel_rfl) (fun _ _ _ h => h) (Or.inl ⟨by rfl, ?_⟩) ⟨_, rfl⟩ ?_
    rotate_left
    · rintro wS ⟨yS, rfl⟩
      go_simp
      try (with_reducible rfl)
    try simp only [Act.put, List.setIfInBounds_toArray, List.set_cons_zero, List.set_cons_succ]
    refine wpAnyG_one (i := 20) (by kernel_rfl) (by decide) (wpOp_want rfl (by rfl) ?_)
    go_simp
    go_at_call 88
    refine (set_any D (some ⟨pb, po, none⟩) q c d k v _ hn hm HK.out (HI.out _)).mono ?_
    rintro e w' ⟨p', c', q', d', rfl, hb, hn'⟩
    obtain ⟨y2, rfl⟩ : ∃ z : Ext w1, w' = z.v := ⟨⟨w', bT (Ext.b _) hb⟩, rfl⟩
    have HN := Lib.hid hn'
    clear hb hn'
    refine ⟨⟨y2, rfl⟩, ?_⟩
    try simp only [Act.put, List.setIfInBounds_toArray, List.set_cons_zero, List.set_cons_succ]
    refine wpAnyG_one (i := 21) (by kernel_rfl) (by decide) (wpOp_want rfl (by rfl) ?_)
    go_simp
    go_at_call 26
    refine (quiet_x (one_any (nar D k v v) p' q' c' d' _ hn hm HN.out)).mono ?_
    rintro e w' ⟨rfl, y3, rfl⟩
    refine ⟨⟨y3, rfl⟩, ?_⟩
    try simp only [Act.put, List.setIfInBounds_toArray, List.set_cons_zero, List.set_cons_succ]
    refine wpAnyG_take (i := 22) (v := ?_) (by kernel_rfl) rfl (by kernel_rfl) (by kernel_rfl) (by kernel_rfl) (fun _ _ _ h => h) (Or.inl ⟨by rfl, ?_⟩) ⟨_, rfl⟩ ?_
    rotate_left
    · rintro wS ⟨yS, rfl⟩
      go_simp
      try (with_reducible rfl)
    try simp only [Act.put, List.setIfInBounds_toArray, List.set_cons_zero, List.set_cons_succ]
    refine wpAnyG_done (by kernel_rfl) (by kernel_rfl) (wpOp_plain rfl rfl ?_)
    go_simp
    go_wp2
    go_ret
    exact ⟨ret_b HR.out.symm, bT HB.out (Ext.b _)⟩
end Go.Proofs.Ytkdlppekjjbgoaa
