/- Towns with worlds: Between and Harms of the specification. -/
import Derived.Test.YtdjkbpenppdnlaaDoorH1

set_option linter.unusedSimpArgs false

set_option linter.unusedVariables false

namespace Go.Proofs.YtdjkbpenppdnlaaDoor

open Go.RowKit

theorem isLawR_is {k : Int} {b : Bool} (hb : within k 0 99 = b) (w : World) : Calls Tryd.prog 48 #[.int .i64 k] w fun e w' => e = .returned (.bool b) ∧ w = w' := by subst hb; exact isLawR_any k w
def Tn.wellW (T : Tn) (k : Int) : Bool := within k 0 (IntKind.i64.wrap (T.wn - 1))
theorem wellW_ok {T : Tn} (h : T.ok = true) (k : Int) : T.wellW k = T.well k := by
  have := (T.ok_parts h).1
  unfold Tn.wellW Tn.well
  rw [show IntKind.i64.wrap (T.wn - 1) = T.wn - 1 from IntWalk.i64_in _ (by omega)]
theorem wkE_bad {T : Tn} (h : T.ok = false) (b : Bool) : T.wkE b = 50 := by
  unfold Tn.wkE askE; rw [h]; rfl
theorem wkE_2 {T : Tn} (i k : Int) : T.wkE (T.is2 i k) = T.wkE (T.wellW i && T.wellW k) := by
  cases h : T.ok with
  | false => rw [wkE_bad h, wkE_bad h]
  | true => rw [wellW_ok h, wellW_ok h]; rfl
theorem wkE_3 {T : Tn} (i k law : Int) : T.wkE (T.is3 i k law) = T.wkE ((T.wellW i && T.wellW k) && within law 0 99) := by
  cases h : T.ok with
  | false => rw [wkE_bad h, wkE_bad h]
  | true => rw [wellW_ok h, wellW_ok h]; rfl
theorem isWellRW_is {T : Tn} {A : Adr} {k : Int} {b : Bool} (h : T.wellW k = b) (w : World) :
    Calls Tryd.prog 47 #[.agg #[.int .i64 T.wn, .slice A.wp T.nw A.wc, .slice A.fp T.nf A.fc], .int .i64 k] w fun e w' => e = .returned (.bool b) ∧ Below w.heap.size w w' := by
  obtain ⟨w1, x, hw1, hb1, hz1, F0, F1, F2, _⟩ := box_tn w T.wn A.wp A.fp T.nw A.wc T.nf A.fc
  have HB := Lib.hid hb1
  unfold Tn.wellW at h
  obtain ⟨u, hu⟩ : ∃ u, IntKind.i64.wrap (T.wn - 1) = u := ⟨_, rfl⟩
  rw [hu] at h
  have HH := Lib.hid h
  clear hb1 hz1 h
  go_enter Tryd.func47, Tryd.ntmps47
  go_wp2_with (go_at_call 69; refine (within_any _ _ _ _).mono ?_; rintro e w' ⟨rfl, rfl⟩)
  go_ret
  exact ⟨by first | rfl | (rw [HH.out]; rfl), bT HB.out x.b⟩
theorem box_s2 (w : World) (a b : Int) :
    ∃ (w1 : World), w.alloc (Obj.cells #[Value.int .i64 a, Value.int .i64 b] 41) = w1 ∧ Below w.heap.size w w1 ∧ w.heap.size < w1.heap.size ∧
      w1.cell? ⟨w.heap.size, 0, none⟩ = some (.int .i64 a) ∧ w1.cell? ⟨w.heap.size, 1, none⟩ = some (.int .i64 b) ∧ (∀ i, w1.frozen? ⟨w.heap.size, i, none⟩ = false) :=
  ⟨_, rfl, bA (Below.refl _ _) _, by simp, by go_simp, by go_simp, fun i => by go_simp⟩
/-- a span's box at work -/
structure SpAt (w : World) (b : Nat) (lo hi : Int) : Prop where
  lt : b < w.heap.size
  c0 : w.cell? ⟨b, 0, none⟩ = some (.int .i64 lo)
  c1 : w.cell? ⟨b, 1, none⟩ = some (.int .i64 hi)
  fz : ∀ i, w.frozen? ⟨b, i, none⟩ = false
theorem SpAt.bel {w w' : World} {b : Nat} {lo hi : Int} (h : SpAt w b lo hi) (hb : Below w.heap.size w w') : SpAt w' b lo hi :=
  ⟨Nat.lt_of_lt_of_le h.lt hb.size, (hb.cell (p := ⟨b, 0, none⟩) h.lt).trans h.c0, (hb.cell (p := ⟨b, 1, none⟩) h.lt).trans h.c1, fun i => (hb.frozen (p := ⟨b, i, none⟩) h.lt).trans (h.fz i)⟩
theorem SpAt.set {w : World} {b : Nat} {lo hi : Int} (h : SpAt w b lo hi) (u v : Int) : SpAt ((w.setCell ⟨b, 0, none⟩ (.int .i64 u)).setCell ⟨b, 1, none⟩ (.int .i64 v)) b u v := by
  have c0 := h.c0; have c1 := h.c1; have f0 := h.fz 0; have f1 := h.fz 1; have lt := h.lt
  exact ⟨by simpa using h.lt, by go_simp, by go_simp, fun i => by have := h.fz i; go_simp⟩
set_option maxRecDepth 100000 in
set_option maxHeartbeats 8000000 in
theorem betwR_no (T : Tn) (A : Adr) (i k : Int) (er : Int) (w : World) (hs : T.sized) (hi : TnIn w w.heap.size T A) (he : T.wkE (T.is2 i k) = er) (h0 : er ≠ 0) :
    SpanC 27 #[.agg #[.int .i64 T.wn, .slice A.wp T.nw A.wc, .slice A.fp T.nf A.fc], .int .i64 i, .int .i64 k] 0 0 er w := by
  unfold SpanC
  obtain ⟨w1, x, hw1, hb1, hz1, F0, F1, F2, _⟩ := box_tn w T.wn A.wp A.fp T.nw A.wc T.nf A.fc
  obtain ⟨w2, x2, hw2, hb2, hz2, R0, R1, Rf⟩ := box_sp x.v
  have q1 : ∀ z : Ext w2, Below w1.heap.size w1 z.v := fun z => bT x.b (bT hb2 z.b)
  have HI : Hid (∀ z : Ext w2, TnIn z.v z.v.heap.size T A) := fun z => (hi.bel hb1).bel (q1 z)
  have HB : Hid (∀ z : Ext w2, Below w.heap.size w z.v) := fun z => bT hb1 (q1 z)
  have HS := Lib.hid hs
  have HGE := Lib.hid (show w.heap.size ≤ x.v.heap.size ∧ x.v.heap.size < w2.heap.size by have a1 := hb1.size; have a2 := x.b.size; exact ⟨by omega, by omega⟩)
  have f0 : ∀ z : Ext w2, z.v.cell? ⟨w.heap.size, 0, none⟩ = some (.int .i64 T.wn) := fun z => F0 ⟨z.v, q1 z⟩
  have f1 : ∀ z : Ext w2, z.v.cell? ⟨w.heap.size, 1, none⟩ = some (.slice A.wp T.nw A.wc) := fun z => F1 ⟨z.v, q1 z⟩
  have f2 : ∀ z : Ext w2, z.v.cell? ⟨w.heap.size, 2, none⟩ = some (.slice A.fp T.nf A.fc) := fun z => F2 ⟨z.v, q1 z⟩
  obtain ⟨gr, hgr⟩ : ∃ g, x.v.heap.size = g := ⟨_, rfl⟩
  rw [hgr] at R0 R1 Rf HGE
  clear F0 F1 F2 q1 hb1 hz1 hb2 hz2 hi hs
  have H0 := Lib.hid h0
  have je : (er != 0) = true := by simpa using h0
  clear h0
  rw [wkE_2] at he
  cases h1 : T.wellW i with
  | false =>
    have HA1 := Lib.hid h1
    have HE := Lib.hid (show T.wkE false = er by rw [← he]; rw [h1]; rfl)
    clear h1 he
    go_enter Tryd.func27, Tryd.ntmps27
    go_wp2
    try rw [hgr]
    refine wp_region_lastE 14 (by kernel_rfl) rfl (fun yr => ?_)
    clear hw1 hw2 hgr
    refine wpAnyG_take (i := 0) (v := ?_) (by kernel_rfl) rfl (by kernel_rfl) (by kernel_rfl) (by kernel_rfl) (fun _ _ _ h => h) (Or.inl ⟨by rfl, ?_⟩) ⟨_, rfl⟩ ?_
    rotate_left
    · rintro wS ⟨yS, rfl⟩
      go_simp
      try (with_reducible rfl)
    try simp only [Act.put, List.setIfInBounds_toArray, List.set_cons_zero, List.set_cons_succ]
    refine wpAnyG_take (i := 1) (v := ?_) (by kernel_rfl) rfl (by kernel_rfl) (by kernel_rfl) (by kernel_rfl) (fun _ _ _ h => h) (Or.inl ⟨by rfl, ?_⟩) ⟨_, rfl⟩ ?_
    rotate_left
    · rintro wS ⟨yS, rfl⟩
      go_simp
      try (with_reducible rfl)
    try simp only [Act.put, List.setIfInBounds_toArray, List.set_cons_zero, List.set_cons_succ]
    refine wpAnyG_take (i := 2) (v := ?_) (by kernel_rfl) rfl (by kernel_rfl) (by kernel_rfl) (by kernel_rfl) (fun _ _ _ h => h) (Or.inl ⟨by rfl, ?_⟩) ⟨_, rfl⟩ ?_
    rotate_left
    · rintro wS ⟨yS, rfl⟩
      go_simp
      try (with_reducible rfl)
    try simp only [Act.put, List.setIfInBounds_toArray, List.set_cons_zero, List.set_cons_succ]
    refine wpAnyG_one (i := 3) (by kernel_rfl) (by decide) (wpOp_plain rfl rfl ?_)
    go_simp
    go_at_call 47
    refine (quiet_x (isWellRW_is (A := A) HA1.out yr.v)).mono ?_
    rintro e w5 ⟨rfl, ya, rfl⟩
    refine ⟨⟨_, rfl⟩, ?_⟩
    try simp only [Act.put, List.setIfInBounds_toArray, List.set_cons_zero, List.set_cons_succ]
    refine wpAnyG_take (i := 4) (v := ?_) (by kernel_rfl) rfl (by kernel_rfl) (by kernel_rfl) (by kernel_rfl) (fun _ _ _ h => h) (Or.inl ⟨by rfl, ?_⟩) ⟨_, rfl⟩ ?_
    rotate_left
    · rintro wS ⟨yS, rfl⟩
      go_simp
      try (with_reducible rfl)
    try simp only [Act.put, List.setIfInBounds_toArray, List.set_cons_zero, List.set_cons_succ]
    refine wpAnyG_take (i := 5) (v := undef) (by kernel_rfl) rfl (by kernel_rfl) (by kernel_rfl) (by kernel_rfl) (fun _ _ _ h => h) (Or.inr ⟨by rfl, rfl⟩) ⟨_, rfl⟩ ?_
    try simp only [Act.put, List.setIfInBounds_toArray, List.set_cons_zero, List.set_cons_succ]
    refine wpAnyG_take (i := 6) (v := undef) (by kernel_rfl) rfl (by kernel_rfl) (by kernel_rfl) (by kernel_rfl) (fun _ _ _ h => h) (Or.inr ⟨by rfl, rfl⟩) ⟨_, rfl⟩ ?_
    try simp only [Act.put, List.setIfInBounds_toArray, List.set_cons_zero, List.set_cons_succ]
    refine wpAnyG_take (i := 7) (v := undef) (by kernel_rfl) rfl (by kernel_rfl) (by kernel_rfl) (by kernel_rfl) (fun _ _ _ h => h) (Or.inr ⟨by rfl, rfl⟩) ⟨_, rfl⟩ ?_
    try simp only [Act.put, List.setIfInBounds_toArray, List.set_cons_zero, List.set_cons_succ]
    refine wpAnyG_take (i := 8) (v := ?_) (by kernel_rfl) rfl (by kernel_rfl) (by kernel_rfl) (by kernel_rfl) (fun _ _ _ h => h) (Or.inl ⟨by rfl, ?_⟩) ⟨_, rfl⟩ ?_
    rotate_left
    · rintro wS ⟨yS, rfl⟩
      go_simp
      try (with_reducible rfl)
    try simp only [Act.put, List.setIfInBounds_toArray, List.set_cons_zero, List.set_cons_succ]
    refine wpAnyG_one (i := 9) (by kernel_rfl) (by decide) (wpOp_plain rfl rfl ?_)
    go_simp
    go_at_call 81
    refine (quiet_x (known_no T A false er ya.v HS.out (HI.out ya) HE.out H0.out)).mono ?_
    rintro e w8 ⟨rfl, yc, rfl⟩
    refine ⟨⟨_, rfl⟩, ?_⟩
    try simp only [Act.put, List.setIfInBounds_toArray, List.set_cons_zero, List.set_cons_succ]
    refine wpAnyG_take (i := 10) (v := ?_) (by kernel_rfl) rfl (by kernel_rfl) (by kernel_rfl) (by kernel_rfl) (fun _ _ _ h => h) (Or.inl ⟨by rfl, ?_⟩) ⟨_, rfl⟩ ?_
    rotate_left
    · rintro wS ⟨yS, rfl⟩
      go_simp
      try (with_reducible rfl)
    try simp only [Act.put, List.setIfInBounds_toArray, List.set_cons_zero, List.set_cons_succ]
    refine wpAnyG_take (i := 11) (v := ?_) (by kernel_rfl) rfl (by kernel_rfl) (by kernel_rfl) (by kernel_rfl) (fun _ _ _ h => h) (Or.inl ⟨by rfl, ?_⟩) ⟨_, rfl⟩ ?_
    rotate_left
    · rintro wS ⟨yS, rfl⟩
      go_simp
      try (with_reducible rfl)
    try simp only [Act.put, List.setIfInBounds_toArray, List.set_cons_zero, List.set_cons_succ]
    refine wpAnyG_take (i := 13) (v := ?_) (by kernel_rfl) rfl (by kernel_rfl) (by kernel_rfl) (by kernel_rfl) (fun _ _ _ h => h) (Or.inl ⟨by rfl, ?_⟩) ⟨_, rfl⟩ ?_
    rotate_left
    · rintro wS ⟨yS, rfl⟩
      go_simp
      try (with_reducible rfl)
    try simp only [Act.put, List.setIfInBounds_toArray, List.set_cons_zero, List.set_cons_succ]
    refine wpAnyG_take (i := 12) (v := ?_) (by kernel_rfl) rfl (by kernel_rfl) (by kernel_rfl) (by kernel_rfl) (fun _ _ _ h => h) (Or.inl ⟨by rfl, ?_⟩) ⟨_, rfl⟩ ?_
    rotate_left
    · rintro wS ⟨yS, rfl⟩
      go_simp
      try (with_reducible rfl)
    try simp only [Act.put, List.setIfInBounds_toArray, List.set_cons_zero, List.set_cons_succ]
    refine wpAnyG_done (by kernel_rfl) (by kernel_rfl) (wpOp_plain rfl rfl ?_)
    go_simp
    have r0 := R0 yc; have r1 := R1 yc; have rf0 := Rf yc 0; have rf1 := Rf yc 1
    obtain ⟨h1, h2, h3⟩ := set_sp (w := w) 0 0 HGE.out.1 r0 r1 (Rf yc) (HB.out yc)
    have H1 := Lib.hid h1
    clear h1 f0 f1 f2 R0 R1 Rf
    go_wp2
    exact bodyPost_ret (v := .tuple #[.agg #[.int .i64 0, .int .i64 0], .int .i64 er]) (by simp [results, Tryd.f27, go_sem, h2, h3]) rfl ⟨rfl, H1.out⟩
  | true =>
    have HA1 := Lib.hid h1
    obtain ⟨b2, hb2⟩ : ∃ b, T.wellW k = b := ⟨_, rfl⟩
    have HA2 := Lib.hid hb2
    have HE := Lib.hid (show T.wkE b2 = er by rw [← he]; rw [h1, hb2]; rfl)
    clear h1 he hb2
    go_enter Tryd.func27, Tryd.ntmps27
    go_wp2
    try rw [hgr]
    refine wp_region_lastE 14 (by kernel_rfl) rfl (fun yr => ?_)
    clear hw1 hw2 hgr
    refine wpAnyG_take (i := 0) (v := ?_) (by kernel_rfl) rfl (by kernel_rfl) (by kernel_rfl) (by kernel_rfl) (fun _ _ _ h => h) (Or.inl ⟨by rfl, ?_⟩) ⟨_, rfl⟩ ?_
    rotate_left
    · rintro wS ⟨yS, rfl⟩
      go_simp
      try (with_reducible rfl)
    try simp only [Act.put, List.setIfInBounds_toArray, List.set_cons_zero, List.set_cons_succ]
    refine wpAnyG_take (i := 1) (v := ?_) (by kernel_rfl) rfl (by kernel_rfl) (by kernel_rfl) (by kernel_rfl) (fun _ _ _ h => h) (Or.inl ⟨by rfl, ?_⟩) ⟨_, rfl⟩ ?_
    rotate_left
    · rintro wS ⟨yS, rfl⟩
      go_simp
      try (with_reducible rfl)
    try simp only [Act.put, List.setIfInBounds_toArray, List.set_cons_zero, List.set_cons_succ]
    refine wpAnyG_take (i := 2) (v := ?_) (by kernel_rfl) rfl (by kernel_rfl) (by kernel_rfl) (by kernel_rfl) (fun _ _ _ h => h) (Or.inl ⟨by rfl, ?_⟩) ⟨_, rfl⟩ ?_
    rotate_left
    · rintro wS ⟨yS, rfl⟩
      go_simp
      try (with_reducible rfl)
    try simp only [Act.put, List.setIfInBounds_toArray, List.set_cons_zero, List.set_cons_succ]
    refine wpAnyG_one (i := 3) (by kernel_rfl) (by decide) (wpOp_plain rfl rfl ?_)
    go_simp
    go_at_call 47
    refine (quiet_x (isWellRW_is (A := A) HA1.out yr.v)).mono ?_
    rintro e w5 ⟨rfl, ya, rfl⟩
    refine ⟨⟨_, rfl⟩, ?_⟩
    try simp only [Act.put, List.setIfInBounds_toArray, List.set_cons_zero, List.set_cons_succ]
    refine wpAnyG_take (i := 4) (v := ?_) (by kernel_rfl) rfl (by kernel_rfl) (by kernel_rfl) (by kernel_rfl) (fun _ _ _ h => h) (Or.inl ⟨by rfl, ?_⟩) ⟨_, rfl⟩ ?_
    rotate_left
    · rintro wS ⟨yS, rfl⟩
      go_simp
      try (with_reducible rfl)
    try simp only [Act.put, List.setIfInBounds_toArray, List.set_cons_zero, List.set_cons_succ]
    refine wpAnyG_take (i := 5) (v := ?_) (by kernel_rfl) rfl (by kernel_rfl) (by kernel_rfl) (by kernel_rfl) (fun _ _ _ h => h) (Or.inl ⟨by rfl, ?_⟩) ⟨_, rfl⟩ ?_
    rotate_left
    · rintro wS ⟨yS, rfl⟩
      go_simp
      try (with_reducible rfl)
    try simp only [Act.put, List.setIfInBounds_toArray, List.set_cons_zero, List.set_cons_succ]
    refine wpAnyG_take (i := 6) (v := ?_) (by kernel_rfl) rfl (by kernel_rfl) (by kernel_rfl) (by kernel_rfl) (fun _ _ _ h => h) (Or.inl ⟨by rfl, ?_⟩) ⟨_, rfl⟩ ?_
    rotate_left
    · rintro wS ⟨yS, rfl⟩
      go_simp
      try (with_reducible rfl)
    try simp only [Act.put, List.setIfInBounds_toArray, List.set_cons_zero, List.set_cons_succ]
    refine wpAnyG_one (i := 7) (by kernel_rfl) (by decide) (wpOp_want rfl (by rfl) ?_)
    go_simp
    go_at_call 47
    refine (quiet_x (isWellRW_is (A := A) HA2.out ya.v)).mono ?_
    rintro e w6 ⟨rfl, yb, rfl⟩
    refine ⟨⟨_, rfl⟩, ?_⟩
    try simp only [Act.put, List.setIfInBounds_toArray, List.set_cons_zero, List.set_cons_succ]
    refine wpAnyG_take (i := 8) (v := ?_) (by kernel_rfl) rfl (by kernel_rfl) (by kernel_rfl) (by kernel_rfl) (fun _ _ _ h => h) (Or.inl ⟨by rfl, ?_⟩) ⟨_, rfl⟩ ?_
    rotate_left
    · rintro wS ⟨yS, rfl⟩
      go_simp
      try (with_reducible rfl)
    try simp only [Act.put, List.setIfInBounds_toArray, List.set_cons_zero, List.set_cons_succ]
    refine wpAnyG_one (i := 9) (by kernel_rfl) (by decide) (wpOp_plain rfl rfl ?_)
    go_simp
    go_at_call 81
    refine (quiet_x (known_no T A b2 er yb.v HS.out (HI.out yb) HE.out H0.out)).mono ?_
    rintro e w8 ⟨rfl, yc, rfl⟩
    refine ⟨⟨_, rfl⟩, ?_⟩
    try simp only [Act.put, List.setIfInBounds_toArray, List.set_cons_zero, List.set_cons_succ]
    refine wpAnyG_take (i := 10) (v := ?_) (by kernel_rfl) rfl (by kernel_rfl) (by kernel_rfl) (by kernel_rfl) (fun _ _ _ h => h) (Or.inl ⟨by rfl, ?_⟩) ⟨_, rfl⟩ ?_
    rotate_left
    · rintro wS ⟨yS, rfl⟩
      go_simp
      try (with_reducible rfl)
    try simp only [Act.put, List.setIfInBounds_toArray, List.set_cons_zero, List.set_cons_succ]
    refine wpAnyG_take (i := 11) (v := ?_) (by kernel_rfl) rfl (by kernel_rfl) (by kernel_rfl) (by kernel_rfl) (fun _ _ _ h => h) (Or.inl ⟨by rfl, ?_⟩) ⟨_, rfl⟩ ?_
    rotate_left
    · rintro wS ⟨yS, rfl⟩
      go_simp
      try (with_reducible rfl)
    try simp only [Act.put, List.setIfInBounds_toArray, List.set_cons_zero, List.set_cons_succ]
    refine wpAnyG_take (i := 13) (v := ?_) (by kernel_rfl) rfl (by kernel_rfl) (by kernel_rfl) (by kernel_rfl) (fun _ _ _ h => h) (Or.inl ⟨by rfl, ?_⟩) ⟨_, rfl⟩ ?_
    rotate_left
    · rintro wS ⟨yS, rfl⟩
      go_simp
      try (with_reducible rfl)
    try simp only [Act.put, List.setIfInBounds_toArray, List.set_cons_zero, List.set_cons_succ]
    refine wpAnyG_take (i := 12) (v := ?_) (by kernel_rfl) rfl (by kernel_rfl) (by kernel_rfl) (by kernel_rfl) (fun _ _ _ h => h) (Or.inl ⟨by rfl, ?_⟩) ⟨_, rfl⟩ ?_
    rotate_left
    · rintro wS ⟨yS, rfl⟩
      go_simp
      try (with_reducible rfl)
    try simp only [Act.put, List.setIfInBounds_toArray, List.set_cons_zero, List.set_cons_succ]
    refine wpAnyG_done (by kernel_rfl) (by kernel_rfl) (wpOp_plain rfl rfl ?_)
    go_simp
    have r0 := R0 yc; have r1 := R1 yc; have rf0 := Rf yc 0; have rf1 := Rf yc 1
    obtain ⟨h1, h2, h3⟩ := set_sp (w := w) 0 0 HGE.out.1 r0 r1 (Rf yc) (HB.out yc)
    have H1 := Lib.hid h1
    clear h1 f0 f1 f2 R0 R1 Rf
    go_wp2
    exact bodyPost_ret (v := .tuple #[.agg #[.int .i64 0, .int .i64 0], .int .i64 er]) (by simp [results, Tryd.f27, go_sem, h2, h3]) rfl ⟨rfl, H1.out⟩
set_option maxRecDepth 100000 in
set_option maxHeartbeats 8000000 in
theorem betwR_ok (T : Tn) (A : Adr) (i k : Int) (w : World) (hs : T.sized) (hi : TnIn w w.heap.size T A) (he : T.wkE (T.is2 i k) = 0) :
    SpanC 27 #[.agg #[.int .i64 T.wn, .slice A.wp T.nw A.wc, .slice A.fp T.nf A.fc], .int .i64 i, .int .i64 k] (mnL (T.fl2 i k) T.LL) (mxL (T.fl2 i k) T.LL) 0 w := by
  unfold SpanC
  obtain ⟨w1, x, hw1, hb1, hz1, F0, F1, F2, _⟩ := box_tn w T.wn A.wp A.fp T.nw A.wc T.nf A.fc
  obtain ⟨w2, x2, hw2, hb2, hz2, R0, R1, Rf⟩ := box_sp x.v
  have q1 : ∀ z : Ext w2, Below w1.heap.size w1 z.v := fun z => bT x.b (bT hb2 z.b)
  have HI : Hid (∀ z : Ext w2, TnIn z.v z.v.heap.size T A) := fun z => (hi.bel hb1).bel (q1 z)
  have HB : Hid (∀ z : Ext w2, Below w.heap.size w z.v) := fun z => bT hb1 (q1 z)
  have HS := Lib.hid hs
  have HGE := Lib.hid (show w.heap.size ≤ x.v.heap.size ∧ x.v.heap.size < w2.heap.size by have a1 := hb1.size; have a2 := x.b.size; exact ⟨by omega, by omega⟩)
  have f0 : ∀ z : Ext w2, z.v.cell? ⟨w.heap.size, 0, none⟩ = some (.int .i64 T.wn) := fun z => F0 ⟨z.v, q1 z⟩
  have f1 : ∀ z : Ext w2, z.v.cell? ⟨w.heap.size, 1, none⟩ = some (.slice A.wp T.nw A.wc) := fun z => F1 ⟨z.v, q1 z⟩
  have f2 : ∀ z : Ext w2, z.v.cell? ⟨w.heap.size, 2, none⟩ = some (.slice A.fp T.nf A.fc) := fun z => F2 ⟨z.v, q1 z⟩
  obtain ⟨gr, hgr⟩ : ∃ g, x.v.heap.size = g := ⟨_, rfl⟩
  rw [hgr] at R0 R1 Rf HGE
  clear F0 F1 F2 q1 hb1 hz1 hb2 hz2 hi hs
  obtain ⟨hok, his, hl⟩ := wkE_zero he
  obtain ⟨⟨a, rfl, ha⟩, ⟨b, rfl, hb⟩⟩ := is2_nat his
  have hw12 : T.well (a : Int) = true ∧ T.well (b : Int) = true := by simpa [Tn.is2] using his
  have HA1 := Lib.hid ((wellW_ok hok _).trans hw12.1); have HA2 := Lib.hid ((wellW_ok hok _).trans hw12.2)
  have HE := Lib.hid (show T.wkE true = 0 by rw [his] at he; exact he)
  have HOK := Lib.hid hok
  have HL := Lib.hid hl
  have HLB := Lib.hid (show T.LL.length ≤ 6 from Nat.le_trans pick_len (T.ok_parts hok).2.1)
  have HFL : Hid (∀ (x : Nat) (v : Int), T.fl2 a b x = v → x < T.nw → ∀ z : Ext w2, Calls Tryd.prog 52 #[.agg #[.int .i64 T.wn, .slice A.wp T.nw A.wc, .slice A.fp T.nf A.fc], .int .i64 (x : Int), .int .i64 (a : Int), .int .i64 (b : Int)] z.v fun e w' => e = .returned (.int .i64 v) ∧ Below z.v.heap.size z.v w') := fun x v hv hx z => fallR_is hv hok hx ha hb z.v (HI.out z)
  have HMEM : Hid (∀ k, k < T.LL.length → T.LL.getD k 0 < T.nw) := fun k hk => (pick_mem.1 (getD_mem hk)).1
  obtain ⟨n, hn⟩ : ∃ n, T.LL.length = n := ⟨_, rfl⟩
  have HN := Lib.hid hn
  have hn0 : 0 < n := by rw [← hn]; exact List.length_pos_iff.2 hl
  have hn6 : n ≤ 6 := by rw [← hn]; exact HLB.out
  have HMN := Lib.hid (show ∀ x, x ∈ T.LL → fdL min (T.fl2 a b) (T.fl2 a b x) T.LL = mnL (T.fl2 a b) T.LL from fun x hx => fd_min_first hx)
  have HMX := Lib.hid (show ∀ x, x ∈ T.LL → fdL max (T.fl2 a b) (T.fl2 a b x) T.LL = mxL (T.fl2 a b) T.LL from fun x hx => fd_max_first hx)
  obtain ⟨lo0, hlo0⟩ : ∃ v, mnL (T.fl2 a b) T.LL = v := ⟨_, rfl⟩
  obtain ⟨hi0, hhi0⟩ : ∃ v, mxL (T.fl2 a b) T.LL = v := ⟨_, rfl⟩
  rw [hlo0] at HMN ⊢
  rw [hhi0] at HMX ⊢
  clear his he hok hl ha hb hw12 hn hlo0 hhi0
  go_enter Tryd.func27, Tryd.ntmps27
  go_wp2
  try rw [hgr]
  refine wp_region_lastE 14 (by kernel_rfl) rfl (fun yr => ?_)
  clear hw1 hw2 hgr
  refine wpAnyG_take (i := 0) (v := ?_) (by kernel_rfl) rfl (by kernel_rfl) (by kernel_rfl) (by kernel_rfl) (fun _ _ _ h => h) (Or.inl ⟨by rfl, ?_⟩) ⟨_, rfl⟩ ?_
  rotate_left
  · rintro wS ⟨yS, rfl⟩
    go_simp
    try (with_reducible rfl)
  try simp only [Act.put, List.setIfInBounds_toArray, List.set_cons_zero, List.set_cons_succ]
  refine wpAnyG_take (i := 1) (v := ?_) (by kernel_rfl) rfl (by kernel_rfl) (by kernel_rfl) (by kernel_rfl) (fun _ _ _ h => h) (Or.inl ⟨by rfl, ?_⟩) ⟨_, rfl⟩ ?_
  rotate_left
  · rintro wS ⟨yS, rfl⟩
    go_simp
    try (with_reducible rfl)
  try simp only [Act.put, List.setIfInBounds_toArray, List.set_cons_zero, List.set_cons_succ]
  refine wpAnyG_take (i := 2) (v := ?_) (by kernel_rfl) rfl (by kernel_rfl) (by kernel_rfl) (by kernel_rfl) (fun _ _ _ h => h) (Or.inl ⟨by rfl, ?_⟩) ⟨_, rfl⟩ ?_
  rotate_left
  · rintro wS ⟨yS, rfl⟩
    go_simp
    try (with_reducible rfl)
  try simp only [Act.put, List.setIfInBounds_toArray, List.set_cons_zero, List.set_cons_succ]
  refine wpAnyG_one (i := 3) (by kernel_rfl) (by decide) (wpOp_plain rfl rfl ?_)
  go_simp
  go_at_call 47
  refine (quiet_x (isWellRW_is (A := A) HA1.out yr.v)).mono ?_
  rintro e w5 ⟨rfl, ya, rfl⟩
  refine ⟨⟨_, rfl⟩, ?_⟩
  try simp only [Act.put, List.setIfInBounds_toArray, List.set_cons_zero, List.set_cons_succ]
  refine wpAnyG_take (i := 4) (v := ?_) (by kernel_rfl) rfl (by kernel_rfl) (by kernel_rfl) (by kernel_rfl) (fun _ _ _ h => h) (Or.inl ⟨by rfl, ?_⟩) ⟨_, rfl⟩ ?_
  rotate_left
  · rintro wS ⟨yS, rfl⟩
    go_simp
    try (with_reducible rfl)
  try simp only [Act.put, List.setIfInBounds_toArray, List.set_cons_zero, List.set_cons_succ]
  refine wpAnyG_take (i := 5) (v := ?_) (by kernel_rfl) rfl (by kernel_rfl) (by kernel_rfl) (by kernel_rfl) (fun _ _ _ h => h) (Or.inl ⟨by rfl, ?_⟩) ⟨_, rfl⟩ ?_
  rotate_left
  · rintro wS ⟨yS, rfl⟩
    go_simp
    try (with_reducible rfl)
  try simp only [Act.put, List.setIfInBounds_toArray, List.set_cons_zero, List.set_cons_succ]
  refine wpAnyG_take (i := 6) (v := ?_) (by kernel_rfl) rfl (by kernel_rfl) (by kernel_rfl) (by kernel_rfl) (fun _ _ _ h => h) (Or.inl ⟨by rfl, ?_⟩) ⟨_, rfl⟩ ?_
  rotate_left
  · rintro wS ⟨yS, rfl⟩
    go_simp
    try (with_reducible rfl)
  try simp only [Act.put, List.setIfInBounds_toArray, List.set_cons_zero, List.set_cons_succ]
  refine wpAnyG_one (i := 7) (by kernel_rfl) (by decide) (wpOp_want rfl (by rfl) ?_)
  go_simp
  go_at_call 47
  refine (quiet_x (isWellRW_is (A := A) HA2.out ya.v)).mono ?_
  rintro e w6 ⟨rfl, yb, rfl⟩
  refine ⟨⟨_, rfl⟩, ?_⟩
  try simp only [Act.put, List.setIfInBounds_toArray, List.set_cons_zero, List.set_cons_succ]
  refine wpAnyG_take (i := 8) (v := ?_) (by kernel_rfl) rfl (by kernel_rfl) (by kernel_rfl) (by kernel_rfl) (fun _ _ _ h => h) (Or.inl ⟨by rfl, ?_⟩) ⟨_, rfl⟩ ?_
  rotate_left
  · rintro wS ⟨yS, rfl⟩
    go_simp
    try (with_reducible rfl)
  try simp only [Act.put, List.setIfInBounds_toArray, List.set_cons_zero, List.set_cons_succ]
  refine wpAnyG_one (i := 9) (by kernel_rfl) (by decide) (wpOp_plain rfl rfl ?_)
  go_simp
  go_at_call 81
  refine (known_ok T A true yb.v HS.out (HI.out yb) HE.out).mono ?_
  rintro e w8 ⟨p, c, rfl, hat, hb⟩
  obtain ⟨yc, rfl⟩ : ∃ z : Ext w2, w8 = z.v := ⟨⟨w8, bT yb.b hb⟩, rfl⟩
  have HAT := Lib.hid hat
  clear hat hb
  refine ⟨⟨_, rfl⟩, ?_⟩
  try simp only [Act.put, List.setIfInBounds_toArray, List.set_cons_zero, List.set_cons_succ]
  refine wpAnyG_take (i := 10) (v := ?_) (by kernel_rfl) rfl (by kernel_rfl) (by kernel_rfl) (by kernel_rfl) (fun _ _ _ h => h) (Or.inl ⟨by rfl, ?_⟩) ⟨_, rfl⟩ ?_
  rotate_left
  · rintro wS ⟨yS, rfl⟩
    go_simp
    try (with_reducible rfl)
  try simp only [Act.put, List.setIfInBounds_toArray, List.set_cons_zero, List.set_cons_succ]
  refine wpAnyG_take (i := 11) (v := ?_) (by kernel_rfl) rfl (by kernel_rfl) (by kernel_rfl) (by kernel_rfl) (fun _ _ _ h => h) (Or.inl ⟨by rfl, ?_⟩) ⟨_, rfl⟩ ?_
  rotate_left
  · rintro wS ⟨yS, rfl⟩
    go_simp
    try (with_reducible rfl)
  try simp only [Act.put, List.setIfInBounds_toArray, List.set_cons_zero, List.set_cons_succ]
  refine wpAnyG_take (i := 13) (v := ?_) (by kernel_rfl) rfl (by kernel_rfl) (by kernel_rfl) (by kernel_rfl) (fun _ _ _ h => h) (Or.inl ⟨by rfl, ?_⟩) ⟨_, rfl⟩ ?_
  rotate_left
  · rintro wS ⟨yS, rfl⟩
    go_simp
    try (with_reducible rfl)
  try simp only [Act.put, List.setIfInBounds_toArray, List.set_cons_zero, List.set_cons_succ]
  refine wpAnyG_take (i := 12) (v := ?_) (by kernel_rfl) rfl (by kernel_rfl) (by kernel_rfl) (by kernel_rfl) (fun _ _ _ h => h) (Or.inl ⟨by rfl, ?_⟩) ⟨_, rfl⟩ ?_
  rotate_left
  · rintro wS ⟨yS, rfl⟩
    go_simp
    try (with_reducible rfl)
  try simp only [Act.put, List.setIfInBounds_toArray, List.set_cons_zero, List.set_cons_succ]
  refine wpAnyG_done (by kernel_rfl) (by kernel_rfl) (wpOp_plain rfl rfl ?_)
  go_simp
  rw [HN.out] at HAT ⊢
  obtain ⟨b3, o3, hp3, _, _⟩ := HAT.out hn0
  have HP3 := Lib.hid hp3
  subst hp3
  have e0 : ∀ z : Ext yc.v, z.v.cell? ⟨b3, o3, none⟩ = some (.int .i64 (nats T.LL 0)) := fun z => by have := At.cell (k := 0) (HAT.out.bel z.b) (by omega); simpa using this
  obtain ⟨x0, hx0⟩ : ∃ x, T.LL.getD 0 0 = x := ⟨_, rfl⟩
  have hx0n : nats T.LL 0 = (x0 : Int) := by unfold nats; rw [hx0]
  rw [hx0n] at e0
  obtain ⟨v0, hv0⟩ : ∃ v, T.fl2 a b x0 = v := ⟨_, rfl⟩
  have HX0 := Lib.hid (show x0 ∈ T.LL by rw [← hx0]; exact getD_mem (by rw [HN.out]; exact hn0))
  have HV0 := Lib.hid hv0
  have HF0 := Lib.hid (HFL.out x0 v0 hv0 (by rw [← hx0]; exact HMEM.out 0 (by rw [HN.out]; exact hn0)))
  have g0 : ∀ z : Ext yc.v, z.v.cell? ⟨w.heap.size, 0, none⟩ = some (.int .i64 T.wn) := fun z => f0 ⟨z.v, bT yc.b z.b⟩
  have g1 : ∀ z : Ext yc.v, z.v.cell? ⟨w.heap.size, 1, none⟩ = some (.slice A.wp T.nw A.wc) := fun z => f1 ⟨z.v, bT yc.b z.b⟩
  have g2 : ∀ z : Ext yc.v, z.v.cell? ⟨w.heap.size, 2, none⟩ = some (.slice A.fp T.nf A.fc) := fun z => f2 ⟨z.v, bT yc.b z.b⟩
  have hn0i : 0 < (n : Int) := by omega
  obtain ⟨zz, hzz⟩ := rebase yc.v
  clear hx0 hx0n hv0 f0 f1 f2
  go_wp2
  try rw [hzz]
  clear hzz
  refine quiet_e (by kernel_rfl) (by kernel_rfl) ?_
  repeat (first | go_big_quiet_step ((first | (go_at_call 52; exact quiet_x (HF0.out ⟨Ext.v _, bT yc.b (Ext.b _)⟩)))) | quiet_step ((first | (go_at_call 52; exact quiet_x (HF0.out ⟨Ext.v _, bT yc.b (Ext.b _)⟩)))))
  refine wpQuiet_nil ?_
  intro w6 hw6
  obtain ⟨z1, rfl⟩ := hw6
  obtain ⟨ws, hws, hbs, hls, s0, s1, sf⟩ := box_s2 z1.v v0 v0
  have HSP0 : Hid (SpAt ws z1.v.heap.size v0 v0) := ⟨hls, s0, s1, sf⟩
  obtain ⟨gs, hgs⟩ : ∃ g, z1.v.heap.size = g := ⟨_, rfl⟩
  have HGS := Lib.hid (show yc.v.heap.size ≤ gs by rw [← hgs]; exact z1.b.size)
  rw [hgs] at HSP0
  obtain ⟨y0, hy0⟩ : ∃ z : Ext yc.v, ws = z.v := ⟨⟨ws, bT z1.b hbs⟩, rfl⟩
  rw [hy0] at HSP0 hws
  clear hbs hls s0 s1 sf hy0
  go_wp2
  try rw [hgs]
  clear hws hgs e0
  go_loopw [12] (fun i wr => ∃ q : Nat, i = .int .i64 q ∧ q ≤ n ∧ ∃ y : Ext yc.v, wr = y.v ∧ SpAt y.v gs (fdL min (T.fl2 a b) v0 (T.LL.take q)) (fdL max (T.fl2 a b) v0 (T.LL.take q))) (fun i _ => n - (intOf i).toNat)
  case atStart => exact ⟨0, rfl, Nat.zero_le _, y0, rfl, HSP0.out⟩
  case round =>
    clear y0 HSP0
    obtain ⟨q, rfl, hq, y, rfl, hsp⟩ := hrel
    have HSP := Lib.hid hsp
    clear hsp
    by_cases hlt : q < n
    · have j : decide ((q : Int) < (n : Int)) = true := by simp; omega
      have hlti : (q : Int) < (n : Int) := by omega
      obtain ⟨x, hx⟩ : ∃ x, T.LL.getD q 0 = x := ⟨_, rfl⟩
      have hxn : nats T.LL q = (x : Int) := by unfold nats; rw [hx]
      have e1 : ∀ z : Ext y.v, z.v.cell? ⟨b3, o3 + q, none⟩ = some (.int .i64 (x : Int)) := fun z => by have := At.cell (k := q) ((HAT.out.bel y.b).bel z.b) (by omega); rw [← hxn]; simpa using this
      obtain ⟨v, hv⟩ : ∃ v, T.fl2 a b x = v := ⟨_, rfl⟩
      have HFX := Lib.hid (HFL.out x v hv (by rw [← hx]; exact HMEM.out q (by rw [HN.out]; exact hlt)))
      have HTK := Lib.hid (show T.LL.take (q + 1) = T.LL.take q ++ [x] by rw [take_snoc (by rw [HN.out]; exact hlt), hx])
      have k0 : ∀ z : Ext y.v, z.v.cell? ⟨w.heap.size, 0, none⟩ = some (.int .i64 T.wn) := fun z => g0 ⟨z.v, bT y.b z.b⟩
      have k1 : ∀ z : Ext y.v, z.v.cell? ⟨w.heap.size, 1, none⟩ = some (.slice A.wp T.nw A.wc) := fun z => g1 ⟨z.v, bT y.b z.b⟩
      have k2 : ∀ z : Ext y.v, z.v.cell? ⟨w.heap.size, 2, none⟩ = some (.slice A.fp T.nf A.fc) := fun z => g2 ⟨z.v, bT y.b z.b⟩
      obtain ⟨lo, hlo⟩ : ∃ v, fdL min (T.fl2 a b) v0 (T.LL.take q) = v := ⟨_, rfl⟩
      obtain ⟨hi', hhi⟩ : ∃ v, fdL max (T.fl2 a b) v0 (T.LL.take q) = v := ⟨_, rfl⟩
      rw [hlo, hhi] at HSP
      obtain ⟨lo', hlo'⟩ : ∃ u, min lo v = u := ⟨_, rfl⟩
      obtain ⟨hi2, hhi2⟩ : ∃ u, max hi' v = u := ⟨_, rfl⟩
      have HL1 := Lib.hid (show fdL min (T.fl2 a b) v0 (T.LL.take (q + 1)) = lo' by rw [HTK.out, fd_snoc, hlo, hv]; exact hlo')
      have HH1 := Lib.hid (show fdL max (T.fl2 a b) v0 (T.LL.take (q + 1)) = hi2 by rw [HTK.out, fd_snoc, hhi, hv]; exact hhi2)
      have t1 : (if v < lo then v else lo) = lo' := by rw [← hlo']; split <;> omega
      have t2 : (if lo < v then lo else v) = lo' := by rw [← hlo']; split <;> omega
      have t3 : (if hi' < v then v else hi') = hi2 := by rw [← hhi2]; split <;> omega
      have t4 : (if v < hi' then hi' else v) = hi2 := by rw [← hhi2]; split <;> omega
      obtain ⟨zz, hzz⟩ := rebase y.v
      have HTS := Lib.hid (And.intro t1 (And.intro t2 (And.intro t3 t4)))
      clear hx hxn hv hlo hhi hlo' hhi2 g0 g1 g2 t1 t2 t3 t4
      go_wp2
      try rw [hzz]
      clear hzz
      refine quiet_e (by kernel_rfl) (by kernel_rfl) ?_
      repeat (first | go_big_quiet_step ((first | (go_at_call 52; exact quiet_x (HFX.out ⟨Ext.v _, bT yc.b (bT y.b (Ext.b _))⟩)))) | quiet_step ((first | (go_at_call 52; exact quiet_x (HFX.out ⟨Ext.v _, bT yc.b (bT y.b (Ext.b _))⟩)))))
      refine wpQuiet_nil ?_
      intro w6 hw6
      obtain ⟨z2, rfl⟩ := hw6
      have HSP2 := Lib.hid (HSP.out.bel z2.b)
      have s0 := HSP2.out.c0; have s1 := HSP2.out.c1; have sf0 := HSP2.out.fz 0; have sf1 := HSP2.out.fz 1
      obtain ⟨t1, t2, t3, t4⟩ := HTS.out
      have HNX := Lib.hid (HSP2.out.set lo' hi2)
      have HBN := Lib.hid (bS (bS (bT y.b z2.b) HGS.out (p := ⟨gs, 0, none⟩) (.int .i64 lo')) HGS.out (p := ⟨gs, 1, none⟩) (.int .i64 hi2))
      go_wp2
      go_roundw
      case rel => exact ⟨q + 1, by go_num, hlt, ⟨_, HBN.out⟩, rfl, by rw [HL1.out, HH1.out]; exact HNX.out⟩
      case measure => first | (simp [intOf]; done) | (simp [intOf]; omega)
    · have HQN := Lib.hid (show T.LL.take q = T.LL by rw [show q = n by omega, ← HN.out, List.take_length])
      have j : decide ((q : Int) < (n : Int)) = false := by simp; omega
      rw [HQN.out, ← HV0.out, HMN.out x0 HX0.out, HMX.out x0 HX0.out] at HSP
      have s0 := HSP.out.c0; have s1 := HSP.out.c1
      have hrr : Below w2.heap.size w2 y.v := bT yc.b y.b
      have r0 := R0 ⟨y.v, hrr⟩; have r1 := R1 ⟨y.v, hrr⟩; have rf0 := Rf ⟨y.v, hrr⟩ 0; have rf1 := Rf ⟨y.v, hrr⟩ 1
      obtain ⟨h1, h2, h3⟩ := set_sp (w := w) lo0 hi0 HGE.out.1 r0 r1 (Rf ⟨y.v, hrr⟩) (HB.out ⟨y.v, hrr⟩)
      have H1 := Lib.hid h1
      dsimp only at r0 r1 rf0 rf1 h2 h3 H1
      clear h1 g0 g1 g2 R0 R1 Rf hrr
      go_wp2
      exact bodyPost_ret (v := .tuple #[.agg #[.int .i64 lo0, .int .i64 hi0], .int .i64 0]) (by simp [results, Tryd.f27, go_sem, h2, h3]) rfl ⟨rfl, H1.out⟩
end Go.Proofs.YtdjkbpenppdnlaaDoor
