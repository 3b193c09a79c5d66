/- Boxes of mouths: a copy, in new memory. -/
import Derived.Test.YthbicbmlbblflaaC5

set_option linter.unusedSimpArgs false

set_option linter.unusedVariables false

namespace Go.Proofs.Ythbicbmlbblflaa

open Go.RowKit

/-- a copy of a box, in new memory -/
structure Cop (w w' : World) (D : Bx) (p' q' : Option Addr) : Prop where
  below : Below w.heap.size w w'
  s : 0 < D.n → ∃ b, p' = some ⟨b, 0, none⟩ ∧ w.heap.size ≤ b ∧ RowN w' b D.n D.sh
  o : 0 < D.m → ∃ b, q' = some ⟨b, 0, none⟩ ∧ w.heap.size ≤ b ∧ RowN w' b D.m D.mo
  ne : ∀ b b', 0 < D.n → 0 < D.m → p' = some ⟨b, 0, none⟩ → q' = some ⟨b', 0, none⟩ → b ≠ b'
theorem Cop.inn {w w' : World} {D : Bx} {p' q' : Option Addr} (h : Cop w w' D p' q') : BxIn w' w'.heap.size D p' q' :=
  ⟨fun h0 => by obtain ⟨b, e, _, r⟩ := h.s h0; exact e ▸ r.num h0, fun h0 => by obtain ⟨b, e, _, r⟩ := h.o h0; exact e ▸ r.num h0⟩
theorem cop_row {w0 w w' wf : World} {K l : Nat} {f : Nat → Int} {q y : Option Addr} (h : NumIn w K l f q) (hb : w0.heap.size ≤ w.heap.size) (hc : CopiedF w w' q (l * 1) y) (hf : ∀ b, w.heap.size ≤ b → b < w'.heap.size → wf.heap[b]? = w'.heap[b]?) (h0 : 0 < l) :
    ∃ b, y = some ⟨b, 0, none⟩ ∧ w.heap.size ≤ b ∧ b < w'.heap.size ∧ RowN wf b l f := by
  obtain ⟨b, o, e, _, hn⟩ := h h0
  obtain ⟨g, e2, h1, h2, h3⟩ := hc.here (by omega)
  refine ⟨g, e2, h1, h2, RowN.blk ⟨h2, fun k hk => ?_, hc.open' (by omega) g e2⟩ (hf g h1 h2)⟩
  rw [h3 _ e k (by omega), add_at'']
  exact hn k hk
theorem cop_fin {w w2 wa wp wo wo' wl : World} {bx : Nat} {D : Bx} {p q yP yO : Option Addr} {K K' : Nat} {u v : Value} (hs : NumIn wa K D.n D.sh p) (ho : NumIn wo K' D.m D.mo q) (hP : CopiedF wa wp p (D.n * 1) yP) (hpo : Below wp.heap.size wp wo) (hO : CopiedF wo wo' q (D.m * 1) yO)
    (hB : Below w.heap.size w w2) (ha : Below w2.heap.size w2 wa) (hl : Below wo'.heap.size wo' wl) (hz : w.heap.size ≤ bx ∧ bx < w2.heap.size) : Cop w ((wl.setCell ⟨bx, 0, none⟩ u).setCell ⟨bx, 1, none⟩ v) D yP yO := by
  have s1 := hB.size; have s2 := ha.size; have s3 := hP.below.size; have s4 := hpo.size; have s5 := hO.below.size; have s6 := hl.size
  have hk : ∀ b, w2.heap.size ≤ b → ((wl.setCell ⟨bx, 0, none⟩ u).setCell ⟨bx, 1, none⟩ v).heap[b]? = wl.heap[b]? := fun b hb => by
    rw [setCell_block (by simp; omega), setCell_block (by simp; omega)]
  have hPr : 0 < D.n → _ := cop_row hs s2 hP (wf := (wl.setCell ⟨bx, 0, none⟩ u).setCell ⟨bx, 1, none⟩ v) (w0 := w2) (fun b h1 h2 => by
    rw [hk b (by omega), (bT hpo (bT hO.below hl)).block b h2])
  have hOr : 0 < D.m → _ := cop_row ho (Nat.le_refl _) hO (wf := (wl.setCell ⟨bx, 0, none⟩ u).setCell ⟨bx, 1, none⟩ v) (w0 := wo) (fun b h1 h2 => by
    rw [hk b (by omega), hl.block b h2])
  refine ⟨?_, fun h0 => ?_, fun h0 => ?_, fun b b' h0 h0' e e' => ?_⟩
  · exact bS (bS (bT hB (bT ha (bT hP.below (bT hpo (bT hO.below hl))))) hz.1 _) hz.1 _
  · obtain ⟨b, e, h1, h2, h3⟩ := hPr h0
    exact ⟨b, e, by omega, h3⟩
  · obtain ⟨b, e, h1, h2, h3⟩ := hOr h0
    exact ⟨b, e, by omega, h3⟩
  · obtain ⟨c, e1, h1, h2, h3⟩ := hPr h0
    obtain ⟨c', e1', h1', h2', h3'⟩ := hOr h0'
    rw [e] at e1; rw [e'] at e1'
    simp only [Option.some.injEq, Addr.mk.injEq] at e1 e1'
    omega
theorem box_nil (w : World) :
    ∃ (w1 : World) (x : Ext w1), w.alloc (Obj.cells #[Value.slice none 0 0, Value.slice none 0 0] 24) = x.v ∧ Below w.heap.size w w1 ∧ w1.heap.size = w.heap.size + 1 ∧
      (∀ x : Ext w1, x.v.cell? ⟨w.heap.size, 0, none⟩ = some (.slice none 0 0)) ∧ (∀ x : Ext w1, x.v.cell? ⟨w.heap.size, 1, none⟩ = some (.slice none 0 0)) ∧ (∀ (x : Ext w1) i, x.v.frozen? ⟨w.heap.size, i, none⟩ = false) := by
  have h0 : (w.alloc (Obj.cells #[Value.slice none 0 0, Value.slice none 0 0] 24)).cell? ⟨w.heap.size, 0, none⟩ = some (.slice none 0 0) := by go_simp
  have h1 : (w.alloc (Obj.cells #[Value.slice none 0 0, Value.slice none 0 0] 24)).cell? ⟨w.heap.size, 1, none⟩ = some (.slice none 0 0) := by go_simp
  have h2 : ∀ i, (w.alloc (Obj.cells #[Value.slice none 0 0, Value.slice none 0 0] 24)).frozen? ⟨w.heap.size, i, none⟩ = false := fun i => by go_simp
  exact ⟨_, ⟨_, Below.refl _ _⟩, rfl, bA (Below.refl _ _) _, by simp, fun x => (x.b.cell (p := ⟨w.heap.size, 0, none⟩) (by simp)).trans h0, fun x => (x.b.cell (p := ⟨w.heap.size, 1, none⟩) (by simp)).trans h1, fun x i => (x.b.frozen (p := ⟨w.heap.size, i, none⟩) (by simp)).trans (h2 i)⟩
set_option maxRecDepth 100000 in
set_option maxHeartbeats 4000000 in
theorem copy_any (D : Bx) (p q : Option Addr) (c d : Nat) (w : World) (hn : D.n ≤ 40) (hm : D.m ≤ 40) (hi : BxIn w w.heap.size D p q) :
    Calls Try.prog 17 #[.agg #[.slice p D.n c, .slice q D.m d]] w fun e w' => ∃ p' c' q' d', e = .returned (.agg #[.slice p' D.n c', .slice q' D.m d']) ∧ Cop w w' D p' q' := by
  obtain ⟨i3, hi3, hz3, hz3', hz3''⟩ := info_parts infoI
  have S1 := Lib.hid (show D.n ≤ maxLen by unfold maxLen; omega); have S2 := Lib.hid (show D.m ≤ maxLen by unfold maxLen; omega)
  have I3 := Lib.hid hi3; have Z3 := Lib.hid hz3; have Z3' := Lib.hid hz3'; have Z3'' := Lib.hid hz3''; clear hi3 hz3 hz3' hz3''
  obtain ⟨w1, x1, hw1, hb1, hz1, F0, F1⟩ := box_bx w p q D.n D.m c d
  obtain ⟨w2, x2, hw2, hb2, hz2, G0, G1, Gz⟩ := box_nil x1.v
  have HB := Lib.hid (bT (bT hb1 x1.b) hb2)
  have HI : Hid (∀ x : Ext w2, BxIn x.v x.v.heap.size D p q) := fun x => (hi.bel (bT hb1 x1.b)).bel (bT hb2 x.b)
  have HZ : Hid (w.heap.size ≤ x1.v.heap.size ∧ x1.v.heap.size < w2.heap.size) := by have := hb1.size; have := x1.b.size; exact ⟨by omega, by omega⟩
  replace F0 : ∀ y : Ext w2, y.v.cell? ⟨w.heap.size, 0, none⟩ = some (.slice p D.n c) := fun y => F0 (y.up (bT x1.b hb2))
  replace F1 : ∀ y : Ext w2, y.v.cell? ⟨w.heap.size, 1, none⟩ = some (.slice q D.m d) := fun y => F1 (y.up (bT x1.b hb2))
  clear hb1 hz1 hi hb2 hz2
  go_enter Try.func17, Try.ntmps17
  go_wp2
  refine wp_region_lastE 9 (by kernel_rfl) rfl (fun yr => ?_)
  refine wpAnyG_take (i := 1) (v := ?_) (by kernel_rfl) rfl (by kernel_rfl) (by kernel_rfl) (by kernel_rfl) (fun _ _ _ h => h) (Or.inl ⟨by rfl, ?_⟩) ⟨_, rfl⟩ ?_
  rotate_left
  · rintro wS ⟨yS, rfl⟩
    go_simp
    try (with_reducible rfl)
  try simp only [Act.put, List.setIfInBounds_toArray, List.set_cons_zero, List.set_cons_succ]
  refine wpAnyG_take (i := 2) (v := ?_) (by kernel_rfl) rfl (by kernel_rfl) (by kernel_rfl) (by kernel_rfl) (fun _ _ _ h => h) (Or.inl ⟨by rfl, ?_⟩) ⟨_, rfl⟩ ?_
  rotate_left
  · rintro wS ⟨yS, rfl⟩
    go_simp
    try (with_reducible rfl)
  try simp only [Act.put, List.setIfInBounds_toArray, List.set_cons_zero, List.set_cons_succ]
  refine wpAnyG_take (i := 5) (v := ?_) (by kernel_rfl) rfl (by kernel_rfl) (by kernel_rfl) (by kernel_rfl) (fun _ _ _ h => h) (Or.inl ⟨by rfl, ?_⟩) ⟨_, rfl⟩ ?_
  rotate_left
  · rintro wS ⟨yS, rfl⟩
    go_simp
    try (with_reducible rfl)
  try simp only [Act.put, List.setIfInBounds_toArray, List.set_cons_zero, List.set_cons_succ]
  refine wpAnyG_take (i := 6) (v := ?_) (by kernel_rfl) rfl (by kernel_rfl) (by kernel_rfl) (by kernel_rfl) (fun _ _ _ h => h) (Or.inl ⟨by rfl, ?_⟩) ⟨_, rfl⟩ ?_
  rotate_left
  · rintro wS ⟨yS, rfl⟩
    go_simp
    try (with_reducible rfl)
  try simp only [Act.put, List.setIfInBounds_toArray, List.set_cons_zero, List.set_cons_succ]
  refine wpAnyG_two (i := 0) (j := 4) (by kernel_rfl) (by decide) (by decide) ?_ ?_
  · refine wpOp_plain rfl rfl ?_
    go_simp
    obtain ⟨ya, hya⟩ : ∃ zz : Ext w2, yr.v.alloc (Obj.cells #[] 3) = zz.v := ⟨⟨_, bA yr.b _⟩, rfl⟩
    rw [hya]
    clear hya
    refine ⟨⟨_, rfl⟩, ?_⟩
    try simp only [Act.put, List.setIfInBounds_toArray, List.set_cons_zero, List.set_cons_succ]
    refine wpAnyG_two (i := 3) (j := 4) (by kernel_rfl) (by decide) (by decide) ?_ ?_
    · refine wpOp_plain rfl rfl ?_
      refine append_copyE (ops := #[]) rfl (.tmp 3) (.tmp 5) 22 rfl 3 i3 _ 1 8 Try.underlying22 I3.out Z3.out Z3'.out Z3''.out rfl (by decide) _ (by simp [Act.eval, Act.put]; rfl) p D.n c (by simp [Act.eval, Act.put]) (srcN (HI.out ya).s) S1.out (by omega) ?_
      intro yP cP w' hcP
      obtain ⟨yb, rfl⟩ : ∃ zz : Ext w2, w' = zz.v := ⟨⟨_, bT ya.b hcP.below⟩, rfl⟩
      have HP := Lib.hid hcP
      clear hcP
      refine ⟨⟨_, rfl⟩, ?_⟩
      try simp only [Act.put, List.setIfInBounds_toArray, List.set_cons_zero, List.set_cons_succ]
      refine wpAnyG_one (i := 4) (by kernel_rfl) (by decide) ?_
      refine wpOp_plain rfl rfl ?_
      go_simp
      obtain ⟨yc, hyc, hPO⟩ : ∃ zz : Ext w2, yb.v.alloc (Obj.cells #[] 3) = zz.v ∧ Below yb.v.heap.size yb.v zz.v := ⟨⟨_, bA yb.b _⟩, rfl, bA (Below.refl _ _) _⟩
      have HPO := Lib.hid hPO
      clear hPO
      rw [hyc]
      clear hyc
      refine ⟨⟨_, rfl⟩, ?_⟩
      try simp only [Act.put, List.setIfInBounds_toArray, List.set_cons_zero, List.set_cons_succ]
      refine wpAnyG_one (i := 7) (by kernel_rfl) (by decide) ?_
      refine wpOp_plain rfl rfl ?_
      refine append_copyE (ops := #[]) rfl (.tmp 7) (.tmp 9) 22 rfl 3 i3 _ 1 8 Try.underlying22 I3.out Z3.out Z3'.out Z3''.out rfl (by decide) _ (by simp [Act.eval, Act.put]; rfl) q D.m d (by simp [Act.eval, Act.put]) (srcN (HI.out yc).o) S2.out (by omega) ?_
      intro yO cO w' hcO
      obtain ⟨yd, rfl⟩ : ∃ zz : Ext w2, w' = zz.v := ⟨⟨_, bT yc.b hcO.below⟩, rfl⟩
      have HO := Lib.hid hcO
      clear hcO
      refine ⟨⟨_, rfl⟩, ?_⟩
      try simp only [Act.put, List.setIfInBounds_toArray, List.set_cons_zero, List.set_cons_succ]
      refine wpAnyG_take (i := 8) (v := ?_) (by kernel_rfl) rfl (by kernel_rfl) (by kernel_rfl) (by kernel_rfl) (fun _ _ _ h => h) (Or.inl ⟨by rfl, ?_⟩) ⟨_, rfl⟩ ?_
      rotate_left
      · rintro wS ⟨yS, rfl⟩
        go_simp
        try (with_reducible rfl)
      try simp only [Act.put, List.setIfInBounds_toArray, List.set_cons_zero, List.set_cons_succ]
      refine wpAnyG_done (by kernel_rfl) (by kernel_rfl) (wpOp_plain rfl rfl ?_)
      go_simp
      go_wp2
      refine bodyPost_ret (v := .agg #[.slice yP D.n cP, .slice yO D.m cO]) (by simp [results, Try.f17, go_sem, G0, G1, Gz]) rfl ?_
      exact ⟨_, _, _, _, rfl, cop_fin (HI.out ya).s (HI.out yc).o HP.out HPO.out HO.out HB.out ya.b (Below.refl _ _) HZ.out⟩
    · refine wpOp_plain rfl rfl ?_
      go_simp
      obtain ⟨yb, hyb⟩ : ∃ zz : Ext w2, ya.v.alloc (Obj.cells #[] 3) = zz.v := ⟨⟨_, bA ya.b _⟩, rfl⟩
      rw [hyb]
      clear hyb
      refine ⟨⟨_, rfl⟩, ?_⟩
      try simp only [Act.put, List.setIfInBounds_toArray, List.set_cons_zero, List.set_cons_succ]
      refine wpAnyG_one (i := 3) (by kernel_rfl) (by decide) ?_
      refine wpOp_plain rfl rfl ?_
      refine append_copyE (ops := #[]) rfl (.tmp 3) (.tmp 5) 22 rfl 3 i3 _ 1 8 Try.underlying22 I3.out Z3.out Z3'.out Z3''.out rfl (by decide) _ (by simp [Act.eval, Act.put]; rfl) p D.n c (by simp [Act.eval, Act.put]) (srcN (HI.out yb).s) S1.out (by omega) ?_
      intro yP cP w' hcP
      obtain ⟨yc, rfl⟩ : ∃ zz : Ext w2, w' = zz.v := ⟨⟨_, bT yb.b hcP.below⟩, rfl⟩
      have HP := Lib.hid hcP
      clear hcP
      refine ⟨⟨_, rfl⟩, ?_⟩
      try simp only [Act.put, List.setIfInBounds_toArray, List.set_cons_zero, List.set_cons_succ]
      refine wpAnyG_one (i := 7) (by kernel_rfl) (by decide) ?_
      refine wpOp_plain rfl rfl ?_
      refine append_copyE (ops := #[]) rfl (.tmp 7) (.tmp 9) 22 rfl 3 i3 _ 1 8 Try.underlying22 I3.out Z3.out Z3'.out Z3''.out rfl (by decide) _ (by simp [Act.eval, Act.put]; rfl) q D.m d (by simp [Act.eval, Act.put]) (srcN (HI.out yc).o) S2.out (by omega) ?_
      intro yO cO w' hcO
      obtain ⟨yd, rfl⟩ : ∃ zz : Ext w2, w' = zz.v := ⟨⟨_, bT yc.b hcO.below⟩, rfl⟩
      have HO := Lib.hid hcO
      clear hcO
      refine ⟨⟨_, rfl⟩, ?_⟩
      try simp only [Act.put, List.setIfInBounds_toArray, List.set_cons_zero, List.set_cons_succ]
      have HPO := Lib.hid (Below.refl yc.v.heap.size yc.v)
      refine wpAnyG_take (i := 8) (v := ?_) (by kernel_rfl) rfl (by kernel_rfl) (by kernel_rfl) (by kernel_rfl) (fun _ _ _ h => h) (Or.inl ⟨by rfl, ?_⟩) ⟨_, rfl⟩ ?_
      rotate_left
      · rintro wS ⟨yS, rfl⟩
        go_simp
        try (with_reducible rfl)
      try simp only [Act.put, List.setIfInBounds_toArray, List.set_cons_zero, List.set_cons_succ]
      refine wpAnyG_done (by kernel_rfl) (by kernel_rfl) (wpOp_plain rfl rfl ?_)
      go_simp
      go_wp2
      refine bodyPost_ret (v := .agg #[.slice yP D.n cP, .slice yO D.m cO]) (by simp [results, Try.f17, go_sem, G0, G1, Gz]) rfl ?_
      exact ⟨_, _, _, _, rfl, cop_fin (HI.out yb).s (HI.out yc).o HP.out HPO.out HO.out HB.out yb.b (Below.refl _ _) HZ.out⟩
  · refine wpOp_plain rfl rfl ?_
    go_simp
    obtain ⟨ya, hya⟩ : ∃ zz : Ext w2, yr.v.alloc (Obj.cells #[] 3) = zz.v := ⟨⟨_, bA yr.b _⟩, rfl⟩
    rw [hya]
    clear hya
    refine ⟨⟨_, rfl⟩, ?_⟩
    try simp only [Act.put, List.setIfInBounds_toArray, List.set_cons_zero, List.set_cons_succ]
    refine wpAnyG_one (i := 0) (by kernel_rfl) (by decide) ?_
    refine wpOp_plain rfl rfl ?_
    go_simp
    obtain ⟨yb, hyb⟩ : ∃ zz : Ext w2, ya.v.alloc (Obj.cells #[] 3) = zz.v := ⟨⟨_, bA ya.b _⟩, rfl⟩
    rw [hyb]
    clear hyb
    refine ⟨⟨_, rfl⟩, ?_⟩
    try simp only [Act.put, List.setIfInBounds_toArray, List.set_cons_zero, List.set_cons_succ]
    refine wpAnyG_one (i := 3) (by kernel_rfl) (by decide) ?_
    refine wpOp_plain rfl rfl ?_
    refine append_copyE (ops := #[]) rfl (.tmp 3) (.tmp 5) 22 rfl 3 i3 _ 1 8 Try.underlying22 I3.out Z3.out Z3'.out Z3''.out rfl (by decide) _ (by simp [Act.eval, Act.put]; rfl) p D.n c (by simp [Act.eval, Act.put]) (srcN (HI.out yb).s) S1.out (by omega) ?_
    intro yP cP w' hcP
    obtain ⟨yc, rfl⟩ : ∃ zz : Ext w2, w' = zz.v := ⟨⟨_, bT yb.b hcP.below⟩, rfl⟩
    have HP := Lib.hid hcP
    clear hcP
    refine ⟨⟨_, rfl⟩, ?_⟩
    try simp only [Act.put, List.setIfInBounds_toArray, List.set_cons_zero, List.set_cons_succ]
    refine wpAnyG_one (i := 7) (by kernel_rfl) (by decide) ?_
    refine wpOp_plain rfl rfl ?_
    refine append_copyE (ops := #[]) rfl (.tmp 7) (.tmp 9) 22 rfl 3 i3 _ 1 8 Try.underlying22 I3.out Z3.out Z3'.out Z3''.out rfl (by decide) _ (by simp [Act.eval, Act.put]; rfl) q D.m d (by simp [Act.eval, Act.put]) (srcN (HI.out yc).o) S2.out (by omega) ?_
    intro yO cO w' hcO
    obtain ⟨yd, rfl⟩ : ∃ zz : Ext w2, w' = zz.v := ⟨⟨_, bT yc.b hcO.below⟩, rfl⟩
    have HO := Lib.hid hcO
    clear hcO
    refine ⟨⟨_, rfl⟩, ?_⟩
    try simp only [Act.put, List.setIfInBounds_toArray, List.set_cons_zero, List.set_cons_succ]
    have HPO := Lib.hid (Below.refl yc.v.heap.size yc.v)
    refine wpAnyG_take (i := 8) (v := ?_) (by kernel_rfl) rfl (by kernel_rfl) (by kernel_rfl) (by kernel_rfl) (fun _ _ _ h => h) (Or.inl ⟨by rfl, ?_⟩) ⟨_, rfl⟩ ?_
    rotate_left
    · rintro wS ⟨yS, rfl⟩
      go_simp
      try (with_reducible rfl)
    try simp only [Act.put, List.setIfInBounds_toArray, List.set_cons_zero, List.set_cons_succ]
    refine wpAnyG_done (by kernel_rfl) (by kernel_rfl) (wpOp_plain rfl rfl ?_)
    go_simp
    go_wp2
    refine bodyPost_ret (v := .agg #[.slice yP D.n cP, .slice yO D.m cO]) (by simp [results, Try.f17, go_sem, G0, G1, Gz]) rfl ?_
    exact ⟨_, _, _, _, rfl, cop_fin (HI.out yb).s (HI.out yc).o HP.out HPO.out HO.out HB.out yb.b (Below.refl _ _) HZ.out⟩
end Go.Proofs.Ythbicbmlbblflaa
