/- Towns with worlds: a town's copy, in the specification's words. -/
import Derived.Test.YtdjkbpenppdnlaaDoorC1

import Derived.Deep.CutRange

import Derived.Deep.DeepCutAuto

set_option linter.unusedSimpArgs false

set_option linter.unusedVariables false

namespace Go.Proofs.YtdjkbpenppdnlaaDoor

open Go.RowKit

instance : Inhabited Wad := ⟨⟨none, 0, fun _ => none, fun _ => 0⟩⟩
/-- where the copy of a town stands after so many worlds -/
structure CT (wr : World) (T : Tn) (go gr lo n : Nat) (v : Value) (fp : Option Addr) (fc : Nat) (u : Nat → Wad) : Prop where
  o0 : wr.cell? ⟨go, 0, none⟩ = some (.int .i64 T.wn)
  o1 : wr.cell? ⟨go, 1, none⟩ = some v
  o2 : wr.cell? ⟨go, 2, none⟩ = some (.slice fp T.nf fc)
  of : ∀ i, wr.frozen? ⟨go, i, none⟩ = false
  og : go < lo
  r0 : wr.cell? ⟨gr, 0, none⟩ = some (.int .i64 0)
  r1 : wr.cell? ⟨gr, 1, none⟩ = some (.slice none 0 0)
  r2 : wr.cell? ⟨gr, 2, none⟩ = some (.slice none 0 0)
  rf : ∀ i, wr.frozen? ⟨gr, i, none⟩ = false
  rg : gr < go
  lw : lo ≤ wr.heap.size
  own : wr.ownsRow lo 83 1 v n (rowG (fun i => .slice (u i).p (T.rl i) (u i).c) n)
  fre : Fre wr lo v.ownBlock (fun W => ∀ i, i < n → WIn W T i (u i))
  fa : 0 < T.nf → ∃ g, fp = some ⟨g, 0, none⟩ ∧ gr < g ∧ g ≠ go ∧ g < lo ∧ ∀ j, j < T.nf * 5 → wr.cell? ⟨g, 0 + j, none⟩ = some (T.fact j)
theorem CT.bel {wr w' : World} {T : Tn} {go gr lo n fc : Nat} {v : Value} {fp : Option Addr} {u : Nat → Wad} (h : CT wr T go gr lo n v fp fc u) (hb : Below wr.heap.size wr w') : CT w' T go gr lo n v fp fc u := by
  have h1 := h.og; have h2 := h.rg; have h3 := h.lw
  have co : ∀ i, w'.cell? ⟨go, i, none⟩ = wr.cell? ⟨go, i, none⟩ := fun i => hb.cell (p := ⟨go, i, none⟩) (by show go < _; omega)
  have cr : ∀ i, w'.cell? ⟨gr, i, none⟩ = wr.cell? ⟨gr, i, none⟩ := fun i => hb.cell (p := ⟨gr, i, none⟩) (by show gr < _; omega)
  exact ⟨(co 0).trans h.o0, (co 1).trans h.o1, (co 2).trans h.o2, fun i => (hb.frozen (p := ⟨go, i, none⟩) (by show go < _; omega)).trans (h.of i), h1, (cr 0).trans h.r0, (cr 1).trans h.r1, (cr 2).trans h.r2, fun i => (hb.frozen (p := ⟨gr, i, none⟩) (by show gr < _; omega)).trans (h.rf i), h2, Nat.le_trans h3 hb.size, own_below h.own hb, h.fre.bel hb,
    fun h0 => by obtain ⟨g, a, b, c, d, e⟩ := h.fa h0; exact ⟨g, a, b, c, d, fun j hj => (hb.cell (p := ⟨g, 0 + j, none⟩) (by show g < _; omega)).trans (e j hj)⟩⟩
theorem copied_cells {w w' : World} {n sz : Nat} {q y : Option Addr} {f : Nat → Value} (hsz : 0 < sz) (h : At w w.heap.size q n sz f) (hc : CopiedF w w' q (n * sz) y) (h0 : 0 < n) : ∃ g, y = some ⟨g, 0, none⟩ ∧ w.heap.size ≤ g ∧ g < w'.heap.size ∧ ∀ j, j < n * sz → w'.cell? ⟨g, 0 + j, none⟩ = some (f j) := by
  obtain ⟨b, o, rfl, hb, hx⟩ := h h0
  obtain ⟨g, rfl, h1, h2, h3⟩ := hc.here (Nat.mul_pos h0 hsz)
  exact ⟨g, rfl, h1, h2, fun k hk => by rw [Nat.zero_add, h3 _ rfl k hk, add_at5]; exact hx k hk⟩
theorem CT.start {wz : World} {T : Tn} {go gr fc : Nat} {fp : Option Addr} (c0 : wz.cell? ⟨go, 0, none⟩ = some (.int .i64 0)) (c1 : wz.cell? ⟨go, 1, none⟩ = some (.slice none 0 0)) (c2 : wz.cell? ⟨go, 2, none⟩ = some (.slice none 0 0)) (f : ∀ i, wz.frozen? ⟨go, i, none⟩ = false)
    (r0 : wz.cell? ⟨gr, 0, none⟩ = some (.int .i64 0)) (r1 : wz.cell? ⟨gr, 1, none⟩ = some (.slice none 0 0)) (r2 : wz.cell? ⟨gr, 2, none⟩ = some (.slice none 0 0)) (rf : ∀ i, wz.frozen? ⟨gr, i, none⟩ = false) (hgo : go < wz.heap.size) (hrg : gr < go)
    (fa : 0 < T.nf → ∃ g, fp = some ⟨g, 0, none⟩ ∧ gr < g ∧ g ≠ go ∧ g < wz.heap.size ∧ ∀ j, j < T.nf * 5 → wz.cell? ⟨g, 0 + j, none⟩ = some (T.fact j)) :
    CT (((wz.setCell ⟨go, 0, none⟩ (.int .i64 T.wn)).setCell ⟨go, 1, none⟩ (.slice none 0 0)).setCell ⟨go, 2, none⟩ (.slice fp T.nf fc)) T go gr wz.heap.size 0 (.slice none 0 0) fp fc (fun _ => default) := by
  have hne : ∀ b, b ≠ go → (((wz.setCell ⟨go, 0, none⟩ (.int .i64 T.wn)).setCell ⟨go, 1, none⟩ (.slice none 0 0)).setCell ⟨go, 2, none⟩ (.slice fp T.nf fc)).heap[b]? = wz.heap[b]? := fun b hb => by
    rw [setCell_block hb, setCell_block hb, setCell_block hb]
  have f0 := f 0; have f1 := f 1; have f2 := f 2
  refine ⟨by go_simp, by go_simp, by go_simp, fun i => by have := f i; go_simp, hgo, (World.cell?_of_block (a := ⟨gr, 0, none⟩) (hne gr (by omega))).trans r0, (World.cell?_of_block (a := ⟨gr, 1, none⟩) (hne gr (by omega))).trans r1, (World.cell?_of_block (a := ⟨gr, 2, none⟩) (hne gr (by omega))).trans r2,
    fun i => (World.frozen?_of_block (a := ⟨gr, i, none⟩) (hne gr (by omega))).trans (rf i), hrg, by simp, ⟨by rfl, .inl ⟨by rfl, by rfl⟩⟩, Fre.triv fun W i h => absurd h (Nat.not_lt_zero _), fun h0 => ?_⟩
  obtain ⟨g, a, b, c, d, e⟩ := fa h0
  exact ⟨g, a, b, c, d, fun j hj => (World.cell?_of_block (a := ⟨g, 0 + j, none⟩) (hne g c)).trans (e j hj)⟩
theorem CT.next {wa w' wb w2 : World} {T : Tn} {go gr lo q fc : Nat} {v v' : Value} {fp : Option Addr} {u : Nat → Wad} {x : Wad} (h : CT wa T go gr lo q v fp fc u) (hc : Below wa.heap.size wa w') (hf : Fre w' wa.heap.size none (fun W => WIn W T q x)) (hb2 : Below w'.heap.size w' wb)
    (ho : w2.ownsRow lo 83 1 v' (q + 1) (rowG (fun i => .slice (u i).p (T.rl i) (u i).c) q ++ [.slice x.p (T.rl q) x.c]))
    (hg : wb.grownBy w2 v.ownBlock) (hn : ∀ g, v'.ownBlock = some g → v.ownBlock = some g ∨ wb.heap.size ≤ g) : CT (w2.setCell ⟨go, 1, none⟩ v') T go gr lo (q + 1) v' fp fc (upd u q x) := by
  have hb := h.bel (bT hc hb2)
  have h1 := hb.og; have h2 := hb.rg; have h3 := hb.lw
  have hlt : ∀ g, v.ownBlock = some g → lo ≤ g ∧ g < wa.heap.size := fun g e => h.own.lt g e
  have hne : ∀ b, b < lo → w2.heap[b]? = wb.heap[b]? := fun b hb' => hg.block b (by omega) (fun e => by have := (hlt b e.symm).1; omega)
  have c0 : w2.cell? ⟨go, 0, none⟩ = some (.int .i64 T.wn) := (World.cell?_of_block (a := ⟨go, 0, none⟩) (hne go h1)).trans hb.o0
  have c1 : w2.cell? ⟨go, 1, none⟩ = some v := (World.cell?_of_block (a := ⟨go, 1, none⟩) (hne go h1)).trans hb.o1
  have c2 : w2.cell? ⟨go, 2, none⟩ = some (.slice fp T.nf fc) := (World.cell?_of_block (a := ⟨go, 2, none⟩) (hne go h1)).trans hb.o2
  have f : ∀ i, w2.frozen? ⟨go, i, none⟩ = false := fun i => (World.frozen?_of_block (a := ⟨go, i, none⟩) (hne go h1)).trans (hb.of i)
  have f1 := f 1
  have hs : ∀ b, b ≠ go → b < lo → (w2.setCell ⟨go, 1, none⟩ v').heap[b]? = wb.heap[b]? := fun b hb1 hb2 => (setCell_block hb1).trans (hne b hb2)
  have hsz := hg.size
  refine ⟨by rw [World.cell?_setCell_other _ _ _ _ (by simp)]; exact c0, by go_simp, by rw [World.cell?_setCell_other _ _ _ _ (by simp)]; exact c2, fun i => by have := f i; go_simp, h1, (World.cell?_of_block (a := ⟨gr, 0, none⟩) (hs gr (by omega) (by omega))).trans hb.r0, (World.cell?_of_block (a := ⟨gr, 1, none⟩) (hs gr (by omega) (by omega))).trans hb.r1, (World.cell?_of_block (a := ⟨gr, 2, none⟩) (hs gr (by omega) (by omega))).trans hb.r2,
    fun i => (World.frozen?_of_block (a := ⟨gr, i, none⟩) (hs gr (by omega) (by omega))).trans (hb.rf i), h2, by simpa using Nat.le_trans h3 hsz, ?_, ?_, fun h0 => ?_⟩
  · rw [show rowG (fun i => Value.slice (upd u q x i).p (T.rl i) (upd u q x i).c) (q + 1) = rowG (fun i => .slice (u i).p (T.rl i) (u i).c) q ++ [.slice x.p (T.rl q) x.c] from rowG_upd (F := fun i (a : Wad) => Value.slice a.p (T.rl i) a.c)]
    exact own_set ho _ _ h1
  · refine Fre.set ?_ _ _ h1
    refine Fre.step (P := fun i (a : Wad) W => WIn W T i a) (hb.fre.grown hg hn) ?_
    exact (((hf.bel hb2).row (row' := v.ownBlock) fun g e => (hlt g e).2).lo h.lw).grown hg hn
  · obtain ⟨g, a, b, c, d, e⟩ := hb.fa h0
    exact ⟨g, a, b, c, d, fun j hj => (World.cell?_of_block (a := ⟨g, 0 + j, none⟩) (hs g c d)).trans (e j hj)⟩
set_option maxRecDepth 100000 in
set_option maxHeartbeats 8000000 in
theorem copy_any (T : Tn) (A : Adr) (w : World) (hs : T.sized) (hi : TnIn w w.heap.size T A) :
    Calls Tryd.prog 17 #[A.val T] w fun e w' => ∃ A' : Adr, e = .returned (A'.val T) ∧ Below w.heap.size w w' ∧ Fre w' w.heap.size none (fun W => TnIn W W.heap.size T A') := by
  obtain ⟨w1, x, hw1, hb1, hz1, F0, F1, F2, _⟩ := box_tn w T.wn A.wp A.fp T.nw A.wc T.nf A.fc
  obtain ⟨w2, x2, hw2, hb2, hz2, R0, R1, R2, Rf⟩ := box_tn x.v 0 none none 0 0 0 0
  have HI : Hid (∀ z : Ext w1, TnIn z.v z.v.heap.size T A) := fun z => (hi.bel hb1).bel z.b
  have HB := Lib.hid hb1
  have HS := Lib.hid hs
  have hnw := hs.w; have hnf := hs.f
  obtain ⟨gr, hgr⟩ : ∃ g, x.v.heap.size = g := ⟨_, rfl⟩
  have HB2 := Lib.hid hb2
  have HGR : Hid (w1.heap.size ≤ gr ∧ w.heap.size < gr ∧ gr < w2.heap.size) := by
    have h1 := hb2.size; have h4 := x.b.size; have h5 := hb1.size
    exact ⟨by omega, by omega, by omega⟩
  have hb12 : ∀ z : Ext w2, Below w1.heap.size w1 z.v := fun z => bT x.b (bT hb2 z.b)
  have HB12 := Lib.hid hb12
  rw [hgr] at R0 R1 R2 Rf
  have RR0 := Lib.hid R0; have RR1 := Lib.hid R1; have RR2 := Lib.hid R2; have RRf := Lib.hid Rf
  obtain ⟨i4, hi4, hz4, hz4', hz4''⟩ := info_parts infoF
  have I4 := Lib.hid hi4; have Z4 := Lib.hid hz4; have Z4' := Lib.hid hz4'; have Z4'' := Lib.hid hz4''
  obtain ⟨i5, hi5, hz5, hz5', hz5''⟩ := info_parts infoW
  have I5 := Lib.hid hi5; have Z5 := Lib.hid hz5; have Z5' := Lib.hid hz5'; have Z5'' := Lib.hid hz5''
  clear hb1 hz1 hi hs hb2 hz2 hb12 R0 R1 R2 Rf hi4 hz4 hz4' hz4'' hi5 hz5 hz5' hz5''
  unfold Adr.val
  go_enter Tryd.func17, Tryd.ntmps17
  go_wp2
  try rw [hgr]
  go_cut [3] from 5 to 11 (fun s3 wx => ∃ go fp fc lo, s3 = .pointer (some ⟨go, 0, none⟩) ∧ (∃ y : Ext w1, wx = y.v) ∧ CT wx T go gr lo 0 (.slice none 0 0) fp fc (fun _ => default))
  case first =>
    obtain ⟨x3, hx3⟩ : ∃ z : Ext w2, x2.v.drew = z.v := ⟨⟨_, bd x2.b⟩, rfl⟩
    refine wp_region_last (fun W => ∃ z : Ext w1, W = z.v) 8 (by kernel_rfl) rfl ⟨⟨x2.v.drew, bd (HB12.out x2)⟩, rfl⟩ (fun _ => ?_)
    obtain ⟨yr, hyr⟩ : ∃ z : Ext w1, x3.v = z.v := ⟨⟨_, HB12.out x3⟩, rfl⟩
    have HYR := Lib.hid (show Below w2.heap.size w2 yr.v by rw [← hyr]; exact x3.b)
    have HS2 := Lib.hid HYR.out.size
    rw [hx3, hyr]
    clear hx3 hyr
    refine wpAnyG_take (i := 0) (v := ?_) (by kernel_rfl) rfl (by kernel_rfl) (by kernel_rfl) (by kernel_rfl) (fun _ _ _ h => h) (Or.inl ⟨by rfl, ?_⟩) ⟨_, rfl⟩ ?_
    rotate_left
    · rintro wS ⟨yS, rfl⟩
      go_simp
      try (with_reducible rfl)
    try simp only [Act.put, List.setIfInBounds_toArray, List.set_cons_zero, List.set_cons_succ]
    refine wpAnyG_take (i := 1) (v := ?_) (by kernel_rfl) rfl (by kernel_rfl) (by kernel_rfl) (by kernel_rfl) (fun _ _ _ h => h) (Or.inl ⟨by rfl, ?_⟩) ⟨_, rfl⟩ ?_
    rotate_left
    · rintro wS ⟨yS, rfl⟩
      go_simp
      try (with_reducible rfl)
    try simp only [Act.put, List.setIfInBounds_toArray, List.set_cons_zero, List.set_cons_succ]
    refine wpAnyG_take (i := 3) (v := ?_) (by kernel_rfl) rfl (by kernel_rfl) (by kernel_rfl) (by kernel_rfl) (fun _ _ _ h => h) (Or.inl ⟨by rfl, ?_⟩) ⟨_, rfl⟩ ?_
    rotate_left
    · rintro wS ⟨yS, rfl⟩
      go_simp
      try (with_reducible rfl)
    try simp only [Act.put, List.setIfInBounds_toArray, List.set_cons_zero, List.set_cons_succ]
    refine wpAnyG_take (i := 4) (v := ?_) (by kernel_rfl) rfl (by kernel_rfl) (by kernel_rfl) (by kernel_rfl) (fun _ _ _ h => h) (Or.inl ⟨by rfl, ?_⟩) ⟨_, rfl⟩ ?_
    rotate_left
    · rintro wS ⟨yS, rfl⟩
      go_simp
      try (with_reducible rfl)
    try simp only [Act.put, List.setIfInBounds_toArray, List.set_cons_zero, List.set_cons_succ]
    refine wpAnyG_two (i := 2) (j := 7) (by kernel_rfl) (by decide) (by decide) (wpOp_plain rfl rfl ?_) (wpOp_plain rfl rfl ?_)
    · go_simp
      obtain ⟨y1, hy1⟩ : ∃ z : Ext w1, yr.v.alloc (Obj.cells #[] 72) = z.v := ⟨⟨_, bA yr.b _⟩, rfl⟩
      have B1 := Lib.hid (show Below yr.v.heap.size yr.v y1.v by rw [← hy1]; exact bA (Below.refl _ _) _)
      rw [hy1]
      clear hy1
      refine ⟨⟨_, rfl⟩, ?_⟩
      try simp only [Act.put, List.setIfInBounds_toArray, List.set_cons_zero, List.set_cons_succ]
      refine wpAnyG_two (i := 5) (j := 7) (by kernel_rfl) (by decide) (by decide) (wpOp_plain rfl rfl ?_) (wpOp_plain rfl rfl ?_)
      · refine append_copyE (ops := #[]) rfl (.tmp 7) (.tmp 9) 23 rfl 72 i4 _ 5 40 Tryd.underlying23 I4.out Z4.out Z4'.out Z4''.out rfl (by decide) _ (by simp [Act.eval, Act.put]; rfl) A.fp T.nf A.fc (by simp [Act.eval, Act.put]) ((HI.out y1).fs.src (fun _ _ => rfl)) (by unfold maxLen; omega) (by omega) ?_
        intro yP cP w' hcP
        obtain ⟨y2, rfl⟩ : ∃ z : Ext w1, w' = z.v := ⟨⟨_, bT y1.b hcP.below⟩, rfl⟩
        have HP := Lib.hid hcP
        have B2 := Lib.hid hcP.below
        clear hcP
        refine ⟨⟨_, rfl⟩, ?_⟩
        try simp only [Act.put, List.setIfInBounds_toArray, List.set_cons_zero, List.set_cons_succ]
        refine wpAnyG_take (i := 6) (v := ?_) (by kernel_rfl) rfl (by kernel_rfl) (by kernel_rfl) (by kernel_rfl) (fun _ _ _ h => h) (Or.inl ⟨by rfl, ?_⟩) ⟨_, rfl⟩ ?_
        rotate_left
        · rintro wS ⟨yS, rfl⟩
          go_simp
          try (with_reducible rfl)
        try simp only [Act.put, List.setIfInBounds_toArray, List.set_cons_zero, List.set_cons_succ]
        refine wpAnyG_one (i := 7) (by kernel_rfl) (by decide) (wpOp_plain rfl rfl ?_)
        go_simp
        obtain ⟨wo, xo, hwo, hbo, hzo, O0, O1, O2, Of⟩ := box_tn y2.v 0 none none 0 0 0 0
        obtain ⟨y3, hy3⟩ : ∃ z : Ext w1, xo.v = z.v := ⟨⟨_, bT y2.b (bT hbo xo.b)⟩, rfl⟩
        have B3 := Lib.hid (show Below y2.v.heap.size y2.v y3.v by rw [← hy3]; exact bT hbo xo.b)
        have HO : Hid (∀ z : Ext y3.v, z.v.cell? ⟨y2.v.heap.size, 0, none⟩ = some (.int .i64 0) ∧ z.v.cell? ⟨y2.v.heap.size, 1, none⟩ = some (.slice none 0 0) ∧ z.v.cell? ⟨y2.v.heap.size, 2, none⟩ = some (.slice none 0 0) ∧ (∀ i, z.v.frozen? ⟨y2.v.heap.size, i, none⟩ = false) ∧ y2.v.heap.size < y3.v.heap.size) := fun z => by
          have hz : Below wo.heap.size wo z.v := bT xo.b (by rw [hy3]; exact z.b)
          exact ⟨O0 ⟨z.v, hz⟩, O1 ⟨z.v, hz⟩, O2 ⟨z.v, hz⟩, Of ⟨z.v, hz⟩, by have := xo.b.size; rw [← hy3]; omega⟩
        rw [hwo, hy3]
        clear hwo hy3 hbo hzo O0 O1 O2 Of
        refine ⟨⟨_, rfl⟩, ?_⟩
        try simp only [Act.put, List.setIfInBounds_toArray, List.set_cons_zero, List.set_cons_succ]
        have a0 := HYR.out.size; have a1 := B1.out.size; have a2 := B2.out.size; have a3 := B3.out.size; have a4 := HGR.out
        obtain ⟨g0, hg0⟩ : ∃ g, y2.v.heap.size = g := ⟨_, rfl⟩
        have hoo := HO.out ⟨y3.v, Below.refl _ _⟩
        rw [hg0] at hoo
        dsimp only at hoo
        obtain ⟨c0, c1, c2, cf, cl⟩ := hoo
        have f0 := cf 0; have f1 := cf 1; have f2 := cf 2
        have hrr : Below w2.heap.size w2 y3.v := bT HYR.out (bT B1.out (bT B2.out B3.out))
        have HCT := Lib.hid (CT.start (T := T) (fp := yP) (fc := cP) c0 c1 c2 cf (RR0.out ⟨_, hrr⟩) (RR1.out ⟨_, hrr⟩) (RR2.out ⟨_, hrr⟩) (RRf.out ⟨_, hrr⟩) (by omega) (show gr < g0 by omega) (fun h0 => by
          obtain ⟨g, a, b, c, d⟩ := copied_cells (by decide) (HI.out y1).fs HP.out h0
          exact ⟨g, a, by omega, by omega, by omega, fun j hj => (by first | exact d j hj | exact (B3.out.cell (p := ⟨g, 0 + j, none⟩) c).trans (d j hj))⟩))
        have HWG := Lib.hid (show w1.heap.size ≤ g0 by omega)
        clear hrr cf cl a0 a1 a2 a3 a4
        try rw [hg0]
        refine wpAnyG_done (by kernel_rfl) (by kernel_rfl) (wpOp_plain rfl rfl ?_)
        go_simp
        go_wp2_with fail
        go_meet
        case rel => exact ⟨_, _, _, _, rfl, ⟨⟨_, bS (bS (bS y3.b HWG.out _) HWG.out _) HWG.out _⟩, rfl⟩, HCT.out⟩
      · go_simp
        obtain ⟨wo, xo, hwo, hbo, hzo, O0, O1, O2, Of⟩ := box_tn y1.v 0 none none 0 0 0 0
        obtain ⟨y2, hy2⟩ : ∃ z : Ext w1, xo.v = z.v := ⟨⟨_, bT y1.b (bT hbo xo.b)⟩, rfl⟩
        have B2 := Lib.hid (show Below y1.v.heap.size y1.v y2.v by rw [← hy2]; exact bT hbo xo.b)
        have HO : Hid (∀ z : Ext y2.v, z.v.cell? ⟨y1.v.heap.size, 0, none⟩ = some (.int .i64 0) ∧ z.v.cell? ⟨y1.v.heap.size, 1, none⟩ = some (.slice none 0 0) ∧ z.v.cell? ⟨y1.v.heap.size, 2, none⟩ = some (.slice none 0 0) ∧ (∀ i, z.v.frozen? ⟨y1.v.heap.size, i, none⟩ = false) ∧ y1.v.heap.size < y2.v.heap.size) := fun z => by
          have hz : Below wo.heap.size wo z.v := bT xo.b (by rw [hy2]; exact z.b)
          exact ⟨O0 ⟨z.v, hz⟩, O1 ⟨z.v, hz⟩, O2 ⟨z.v, hz⟩, Of ⟨z.v, hz⟩, by have := xo.b.size; rw [← hy2]; omega⟩
        rw [hwo, hy2]
        clear hwo hy2 hbo hzo O0 O1 O2 Of
        refine ⟨⟨_, rfl⟩, ?_⟩
        try simp only [Act.put, List.setIfInBounds_toArray, List.set_cons_zero, List.set_cons_succ]
        refine wpAnyG_one (i := 5) (by kernel_rfl) (by decide) (wpOp_plain rfl rfl ?_)
        refine append_copyE (ops := #[]) rfl (.tmp 7) (.tmp 9) 23 rfl 72 i4 _ 5 40 Tryd.underlying23 I4.out Z4.out Z4'.out Z4''.out rfl (by decide) _ (by simp [Act.eval, Act.put]; rfl) A.fp T.nf A.fc (by simp [Act.eval, Act.put]) ((HI.out y2).fs.src (fun _ _ => rfl)) (by unfold maxLen; omega) (by omega) ?_
        intro yP cP w' hcP
        obtain ⟨y3, rfl⟩ : ∃ z : Ext w1, w' = z.v := ⟨⟨_, bT y2.b hcP.below⟩, rfl⟩
        have HP := Lib.hid hcP
        have B3 := Lib.hid hcP.below
        clear hcP
        refine ⟨⟨_, rfl⟩, ?_⟩
        try simp only [Act.put, List.setIfInBounds_toArray, List.set_cons_zero, List.set_cons_succ]
        refine wpAnyG_take (i := 6) (v := ?_) (by kernel_rfl) rfl (by kernel_rfl) (by kernel_rfl) (by kernel_rfl) (fun _ _ _ h => h) (Or.inl ⟨by rfl, ?_⟩) ⟨_, rfl⟩ ?_
        rotate_left
        · rintro wS ⟨yS, rfl⟩
          go_simp
          try (with_reducible rfl)
        try simp only [Act.put, List.setIfInBounds_toArray, List.set_cons_zero, List.set_cons_succ]
        have a0 := HYR.out.size; have a1 := B1.out.size; have a2 := B2.out.size; have a3 := B3.out.size; have a4 := HGR.out
        obtain ⟨g0, hg0⟩ : ∃ g, y1.v.heap.size = g := ⟨_, rfl⟩
        have hoo := HO.out ⟨y3.v, B3.out⟩
        rw [hg0] at hoo
        dsimp only at hoo
        obtain ⟨c0, c1, c2, cf, cl⟩ := hoo
        have f0 := cf 0; have f1 := cf 1; have f2 := cf 2
        have hrr : Below w2.heap.size w2 y3.v := bT HYR.out (bT B1.out (bT B2.out B3.out))
        have HCT := Lib.hid (CT.start (T := T) (fp := yP) (fc := cP) c0 c1 c2 cf (RR0.out ⟨_, hrr⟩) (RR1.out ⟨_, hrr⟩) (RR2.out ⟨_, hrr⟩) (RRf.out ⟨_, hrr⟩) (by omega) (show gr < g0 by omega) (fun h0 => by
          obtain ⟨g, a, b, c, d⟩ := copied_cells (by decide) (HI.out y2).fs HP.out h0
          exact ⟨g, a, by omega, by omega, by omega, fun j hj => (by first | exact d j hj | exact (B3.out.cell (p := ⟨g, 0 + j, none⟩) c).trans (d j hj))⟩))
        have HWG := Lib.hid (show w1.heap.size ≤ g0 by omega)
        clear hrr cf cl a0 a1 a2 a3 a4
        try rw [hg0]
        refine wpAnyG_done (by kernel_rfl) (by kernel_rfl) (wpOp_plain rfl rfl ?_)
        go_simp
        go_wp2_with fail
        go_meet
        case rel => exact ⟨_, _, _, _, rfl, ⟨⟨_, bS (bS (bS y3.b HWG.out _) HWG.out _) HWG.out _⟩, rfl⟩, HCT.out⟩
    · go_simp
      obtain ⟨wo, xo, hwo, hbo, hzo, O0, O1, O2, Of⟩ := box_tn yr.v 0 none none 0 0 0 0
      obtain ⟨y1, hy1⟩ : ∃ z : Ext w1, xo.v = z.v := ⟨⟨_, bT yr.b (bT hbo xo.b)⟩, rfl⟩
      have B1 := Lib.hid (show Below yr.v.heap.size yr.v y1.v by rw [← hy1]; exact bT hbo xo.b)
      have HO : Hid (∀ z : Ext y1.v, z.v.cell? ⟨yr.v.heap.size, 0, none⟩ = some (.int .i64 0) ∧ z.v.cell? ⟨yr.v.heap.size, 1, none⟩ = some (.slice none 0 0) ∧ z.v.cell? ⟨yr.v.heap.size, 2, none⟩ = some (.slice none 0 0) ∧ (∀ i, z.v.frozen? ⟨yr.v.heap.size, i, none⟩ = false) ∧ yr.v.heap.size < y1.v.heap.size) := fun z => by
        have hz : Below wo.heap.size wo z.v := bT xo.b (by rw [hy1]; exact z.b)
        exact ⟨O0 ⟨z.v, hz⟩, O1 ⟨z.v, hz⟩, O2 ⟨z.v, hz⟩, Of ⟨z.v, hz⟩, by have := xo.b.size; rw [← hy1]; omega⟩
      rw [hwo, hy1]
      clear hwo hy1 hbo hzo O0 O1 O2 Of
      refine ⟨⟨_, rfl⟩, ?_⟩
      try simp only [Act.put, List.setIfInBounds_toArray, List.set_cons_zero, List.set_cons_succ]
      refine wpAnyG_one (i := 2) (by kernel_rfl) (by decide) (wpOp_plain rfl rfl ?_)
      go_simp
      obtain ⟨y2, hy2⟩ : ∃ z : Ext w1, y1.v.alloc (Obj.cells #[] 72) = z.v := ⟨⟨_, bA y1.b _⟩, rfl⟩
      have B2 := Lib.hid (show Below y1.v.heap.size y1.v y2.v by rw [← hy2]; exact bA (Below.refl _ _) _)
      rw [hy2]
      clear hy2
      refine ⟨⟨_, rfl⟩, ?_⟩
      try simp only [Act.put, List.setIfInBounds_toArray, List.set_cons_zero, List.set_cons_succ]
      refine wpAnyG_one (i := 5) (by kernel_rfl) (by decide) (wpOp_plain rfl rfl ?_)
      refine append_copyE (ops := #[]) rfl (.tmp 7) (.tmp 9) 23 rfl 72 i4 _ 5 40 Tryd.underlying23 I4.out Z4.out Z4'.out Z4''.out rfl (by decide) _ (by simp [Act.eval, Act.put]; rfl) A.fp T.nf A.fc (by simp [Act.eval, Act.put]) ((HI.out y2).fs.src (fun _ _ => rfl)) (by unfold maxLen; omega) (by omega) ?_
      intro yP cP w' hcP
      obtain ⟨y3, rfl⟩ : ∃ z : Ext w1, w' = z.v := ⟨⟨_, bT y2.b hcP.below⟩, rfl⟩
      have HP := Lib.hid hcP
      have B3 := Lib.hid hcP.below
      clear hcP
      refine ⟨⟨_, rfl⟩, ?_⟩
      try simp only [Act.put, List.setIfInBounds_toArray, List.set_cons_zero, List.set_cons_succ]
      refine wpAnyG_take (i := 6) (v := ?_) (by kernel_rfl) rfl (by kernel_rfl) (by kernel_rfl) (by kernel_rfl) (fun _ _ _ h => h) (Or.inl ⟨by rfl, ?_⟩) ⟨_, rfl⟩ ?_
      rotate_left
      · rintro wS ⟨yS, rfl⟩
        go_simp
        try (with_reducible rfl)
      try simp only [Act.put, List.setIfInBounds_toArray, List.set_cons_zero, List.set_cons_succ]
      have a0 := HYR.out.size; have a1 := B1.out.size; have a2 := B2.out.size; have a3 := B3.out.size; have a4 := HGR.out
      obtain ⟨g0, hg0⟩ : ∃ g, yr.v.heap.size = g := ⟨_, rfl⟩
      have hoo := HO.out ⟨y3.v, bT B2.out B3.out⟩
      rw [hg0] at hoo
      dsimp only at hoo
      obtain ⟨c0, c1, c2, cf, cl⟩ := hoo
      have f0 := cf 0; have f1 := cf 1; have f2 := cf 2
      have hrr : Below w2.heap.size w2 y3.v := bT HYR.out (bT B1.out (bT B2.out B3.out))
      have HCT := Lib.hid (CT.start (T := T) (fp := yP) (fc := cP) c0 c1 c2 cf (RR0.out ⟨_, hrr⟩) (RR1.out ⟨_, hrr⟩) (RR2.out ⟨_, hrr⟩) (RRf.out ⟨_, hrr⟩) (by omega) (show gr < g0 by omega) (fun h0 => by
        obtain ⟨g, a, b, c, d⟩ := copied_cells (by decide) (HI.out y2).fs HP.out h0
        exact ⟨g, a, by omega, by omega, by omega, fun j hj => (by first | exact d j hj | exact (B3.out.cell (p := ⟨g, 0 + j, none⟩) c).trans (d j hj))⟩))
      have HWG := Lib.hid (show w1.heap.size ≤ g0 by omega)
      clear hrr cf cl a0 a1 a2 a3 a4
      try rw [hg0]
      refine wpAnyG_done (by kernel_rfl) (by kernel_rfl) (wpOp_plain rfl rfl ?_)
      go_simp
      go_wp2_with fail
      go_meet
      case rel => exact ⟨_, _, _, _, rfl, ⟨⟨_, bS (bS (bS y3.b HWG.out _) HWG.out _) HWG.out _⟩, rfl⟩, HCT.out⟩
  case rest =>
    obtain ⟨go, fp, fc, lo, rfl, ⟨y0, rfl⟩, hC⟩ := hcut
    have HC0 := Lib.hid hC
    have HGO : Hid (w1.heap.size ≤ go ∧ w.heap.size ≤ lo) := by have h1 := hC.og; have h2 := hC.rg; have h3 := HGR.out; exact ⟨by omega, by omega⟩
    clear hC hgr hw1 hw2 F0 F2
    have f1 := F1 y0
    go_wp2
    clear f1
    go_loopw [4] (fun i wr => ∃ q : Nat, i = .int .i64 q ∧ q ≤ T.nw ∧ ∃ y : Ext w1, wr = y.v ∧ ∃ v u, CT wr T go gr lo q v fp fc u) (fun i _ => T.nw - (intOf i).toNat)
    case atStart => exact ⟨0, rfl, Nat.zero_le _, y0, rfl, _, _, HC0.out⟩
    case round =>
      clear HC0 y0
      obtain ⟨q, rfl, hq, y, rfl, v, u, hS⟩ := hrel
      have f1 := F1 y
      have HS1 := Lib.hid hS
      by_cases hlt : q < T.nw
      · have j : decide ((q : Int) < (T.nw : Int)) = true := by simp; omega
        obtain ⟨b1, o1, hr1, _, hc1⟩ := (HI.out y).ws (by omega)
        rw [hr1] at F1 f1
        have c0 : ∀ z : Ext w1, z.v.cell? ⟨b1, o1 + q, none⟩ = some (.slice (A.rp q) (T.rl q) (A.rc q)) := fun z => At.cell (f := fun i => .slice (A.rp i) (T.rl i) (A.rc i)) (by have := (HI.out z).ws; rwa [hr1] at this) (by omega)
        have HA : Hid (∀ z : Ext w1, WIn z.v T q ⟨A.rp q, A.rc q, A.ip q, A.ic q⟩) := fun z => ⟨(HI.out z).rs q hlt, fun i hi => (HI.out z).is q hlt i hi⟩
        have HM := Lib.hid (HS.out.r q hlt)
        have HQ := Lib.hid hlt
        clear hr1 hc1
        have hc0 : y.v.drew.cell? ⟨go, 1, none⟩ = some v := hS.o1
        clear hS
        go_wp2
        refine wp_region_last (fun W => (∃ z : Ext w1, W = z.v) ∧ W.cell? ⟨go, 1, none⟩ = some v) 11 (by kernel_rfl) rfl ⟨⟨⟨y.v.drew, bd y.b⟩, rfl⟩, hc0⟩ (fun hSw => ?_)
        obtain ⟨yd, hyd⟩ : ∃ z : Ext w1, y.v.drew = z.v := ⟨⟨_, bd y.b⟩, rfl⟩
        have HSS := Lib.hid (HS1.out.bel (bd (Below.refl _ _)))
        rw [hyd] at HSS hSw ⊢
        clear hyd hc0 f1
        refine wpAnyG_take (i := 0) (v := ?_) (by kernel_rfl) rfl (by kernel_rfl) (by kernel_rfl) (by kernel_rfl) (fun _ _ _ h => h) (Or.inl ⟨by rfl, ?_⟩) (by assumption) ?_
        rotate_left
        · rintro wS ⟨⟨yS, rfl⟩, hcS⟩
          go_simp
          try (with_reducible rfl)
        try simp only [Act.put, List.setIfInBounds_toArray, List.set_cons_zero, List.set_cons_succ]
        refine wpAnyG_take (i := 1) (v := ?_) (by kernel_rfl) rfl (by kernel_rfl) (by kernel_rfl) (by kernel_rfl) (fun _ _ _ h => h) (Or.inl ⟨by rfl, ?_⟩) (by assumption) ?_
        rotate_left
        · rintro wS ⟨⟨yS, rfl⟩, hcS⟩
          go_simp
          try (with_reducible rfl)
        try simp only [Act.put, List.setIfInBounds_toArray, List.set_cons_zero, List.set_cons_succ]
        refine wpAnyG_take (i := 2) (v := ?_) (by kernel_rfl) rfl (by kernel_rfl) (by kernel_rfl) (by kernel_rfl) (fun _ _ _ h => h) (Or.inl ⟨by rfl, ?_⟩) (by assumption) ?_
        rotate_left
        · rintro wS ⟨⟨yS, rfl⟩, hcS⟩
          go_simp
          try (with_reducible rfl)
        try simp only [Act.put, List.setIfInBounds_toArray, List.set_cons_zero, List.set_cons_succ]
        refine wpAnyG_take (i := 3) (v := ?_) (by kernel_rfl) rfl (by kernel_rfl) (by kernel_rfl) (by kernel_rfl) (fun _ _ _ h => h) (Or.inl ⟨by rfl, ?_⟩) (by assumption) ?_
        rotate_left
        · rintro wS ⟨⟨yS, rfl⟩, hcS⟩
          go_simp
          try (with_reducible rfl)
        try simp only [Act.put, List.setIfInBounds_toArray, List.set_cons_zero, List.set_cons_succ]
        refine wpAnyG_take (i := 4) (v := ?_) (by kernel_rfl) rfl (by kernel_rfl) (by kernel_rfl) (by kernel_rfl) (fun _ _ _ h => h) (Or.inl ⟨by rfl, ?_⟩) (by assumption) ?_
        rotate_left
        · rintro wS ⟨⟨yS, rfl⟩, hcS⟩
          go_simp
          try (with_reducible rfl)
        try simp only [Act.put, List.setIfInBounds_toArray, List.set_cons_zero, List.set_cons_succ]
        refine wpAnyG_take (i := 5) (v := ?_) (by kernel_rfl) rfl (by kernel_rfl) (by kernel_rfl) (by kernel_rfl) (fun _ _ _ h => h) (Or.inl ⟨by rfl, ?_⟩) (by assumption) ?_
        rotate_left
        · rintro wS ⟨⟨yS, rfl⟩, hcS⟩
          go_simp
          try (with_reducible rfl)
        try simp only [Act.put, List.setIfInBounds_toArray, List.set_cons_zero, List.set_cons_succ]
        refine wpAnyG_take (i := 6) (v := ?_) (by kernel_rfl) rfl (by kernel_rfl) (by kernel_rfl) (by kernel_rfl) (fun _ _ _ h => h) (Or.inl ⟨by rfl, ?_⟩) (by assumption) ?_
        rotate_left
        · rintro wS ⟨⟨yS, rfl⟩, hcS⟩
          go_simp
          try (with_reducible rfl)
        try simp only [Act.put, List.setIfInBounds_toArray, List.set_cons_zero, List.set_cons_succ]
        refine wpAnyG_one (i := 7) (by kernel_rfl) (by decide) (wpOp_plain rfl rfl ?_)
        go_simp
        go_at_call 65
        refine (copyWorld_any T q ⟨A.rp q, A.rc q, A.ip q, A.ic q⟩ yd.v HM.out (HS.out.c q HQ.out) (HA.out yd)).mono ?_
        rintro e w' ⟨x, rfl, hb, hf⟩
        obtain ⟨yb, rfl⟩ : ∃ z : Ext w1, w' = z.v := ⟨⟨_, bT yd.b hb⟩, rfl⟩
        have HBb := Lib.hid hb; have HF := Lib.hid hf
        clear hb hf hSw
        have hSw : (∃ z : Ext w1, yb.v = z.v) ∧ yb.v.cell? ⟨go, 1, none⟩ = some v := ⟨⟨_, rfl⟩, (HSS.out.bel HBb.out).o1⟩
        refine ⟨hSw, ?_⟩
        try simp only [Act.put, List.setIfInBounds_toArray, List.set_cons_zero, List.set_cons_succ]
        refine wpAnyG_one (i := 8) (by kernel_rfl) (by decide) (wpOp_plain rfl rfl ?_)
        go_simp
        obtain ⟨yc, hyc⟩ : ∃ z : Ext w1, yb.v.alloc (Obj.cells #[.slice x.p (T.rl q) x.c] 83) = z.v := ⟨⟨_, bA yb.b _⟩, rfl⟩
        have HBC := Lib.hid (show Below yb.v.heap.size yb.v yc.v by rw [← hyc]; exact bA (Below.refl _ _) _)
        have HL := Lib.hid (show ∀ (j : Nat) (w : Value), [Value.slice x.p (T.rl q) x.c][j]? = some w → yc.v.cell? ((⟨yb.v.heap.size, 0, none⟩ : Addr).add j) = some w by rw [← hyc]; exact lit_cells1 _ _ _)
        have HSc := Lib.hid ((HSS.out.bel HBb.out).bel HBC.out)
        rw [hyc]
        clear hyc hSw
        have hSw : (∃ z : Ext w1, yc.v = z.v) ∧ yc.v.cell? ⟨go, 1, none⟩ = some v := ⟨⟨_, rfl⟩, HSc.out.o1⟩
        refine ⟨hSw, ?_⟩
        try simp only [Act.put, List.setIfInBounds_toArray, List.set_cons_zero, List.set_cons_succ]
        refine wpAnyG_one (i := 9) (by kernel_rfl) (by decide) (wpOp_plain rfl rfl ?_)
        refine wp_append_one rfl (.tmp 20) (.tmp 27) 22 rfl lo 83 i5 _ 1 24 Tryd.underlying22 I5.out Z5.out Z5'.out Z5''.out rfl (by decide) v q _ (by simp [Act.eval, Act.put]) HSc.out.own ⟨yb.v.heap.size, 0, none⟩ 1 1 [.slice x.p (T.rl q) x.c] (by simp [Act.eval, Act.put]) rfl HL.out (by simp [Value.oneCell']) (by decide) (by unfold maxLen; omega) (by omega) HSc.out.lw ?_
        intro v' w2 hown hgrow hnew
        obtain ⟨p', cp', hv', _⟩ := own_form hown
        subst hv'
        have hb2 := below_grown (a := w1) yc.b HSc.out.own (by have := HGO.out; have := HSc.out.og; omega) hgrow
        obtain ⟨ye, rfl⟩ : ∃ z : Ext w1, w2 = z.v := ⟨⟨_, hb2⟩, rfl⟩
        have HNX := Lib.hid (CT.next HSS.out HBb.out HF.out HBC.out hown hgrow hnew)
        have hne : ∀ b, b < lo → ye.v.heap[b]? = yc.v.heap[b]? := fun b hb' => hgrow.block b (Nat.lt_of_lt_of_le hb' HSc.out.lw) (fun e => by have := (HSc.out.own.lt b e.symm).1; omega)
        have c : ye.v.cell? ⟨go, 1, none⟩ = some v := (World.cell?_of_block (a := ⟨go, 1, none⟩) (hne go HSc.out.og)).trans HSc.out.o1
        have f : ye.v.frozen? ⟨go, 1, none⟩ = false := (World.frozen?_of_block (a := ⟨go, 1, none⟩) (hne go HSc.out.og)).trans (HSc.out.of 1)
        clear hown hgrow hnew hb2 hne hSw
        refine ⟨⟨⟨_, rfl⟩, c⟩, ?_⟩
        have hSw : (∃ z : Ext w1, ye.v = z.v) ∧ ye.v.cell? ⟨go, 1, none⟩ = some v := ⟨⟨_, rfl⟩, c⟩
        try simp only [Act.put, List.setIfInBounds_toArray, List.set_cons_zero, List.set_cons_succ]
        refine wpAnyG_take (i := 10) (v := ?_) (by kernel_rfl) rfl (by kernel_rfl) (by kernel_rfl) (by kernel_rfl) (fun _ _ _ h => h) (Or.inl ⟨by rfl, ?_⟩) (by assumption) ?_
        rotate_left
        · rintro wS ⟨⟨yS, rfl⟩, hcS⟩
          go_simp
          try (with_reducible rfl)
        try simp only [Act.put, List.setIfInBounds_toArray, List.set_cons_zero, List.set_cons_succ]
        refine wpAnyG_done (by kernel_rfl) (by kernel_rfl) (wpOp_plain rfl rfl ?_)
        go_simp
        go_wp2
        go_roundw
        case rel => exact ⟨q + 1, by go_num, HQ.out, ⟨_, bS ye.b HGO.out.1 _⟩, rfl, _, _, HNX.out⟩
        case measure => first | (simp [intOf]; done) | (simp [intOf]; omega)
      · have j : decide ((q : Int) < (T.nw : Int)) = false := by simp; omega
        have HQN := Lib.hid (show q = T.nw by omega)
        obtain ⟨p, c, hv, hf⟩ := own_form HS1.out.own
        subst hv
        have c0 := HS1.out.o0; have c1 := HS1.out.o1; have c2 := HS1.out.o2
        have r0 := HS1.out.r0; have r1 := HS1.out.r1; have r2 := HS1.out.r2
        have rf0 := HS1.out.rf 0; have rf1 := HS1.out.rf 1; have rf2 := HS1.out.rf 2
        have h1 := HS1.out.og; have h2 := HS1.out.rg; have h3 := HS1.out.lw
        have HBY := Lib.hid (bT HB.out y.b)
        have HG := Lib.hid (show w.heap.size ≤ gr by have := HGR.out; omega)
        have HW : Hid (Fre y.v (gr + 1) none (fun W => TnIn W W.heap.size T ⟨p, c, fp, fc, fun k => (u k).p, fun k => (u k).c, fun k => (u k).ip, fun k => (u k).ic⟩)) := by
          have e1 := HS1.out.own
          have a1 : At y.v y.v.heap.size p q 1 (fun i => .slice (u i).p (T.rl i) (u i).c) := by
            obtain ⟨p', c', e, ha⟩ := row_own e1
            cases e; exact ha
          have f1 : Fre y.v (gr + 1) none (fun W => At W W.heap.size p q 1 (fun i => .slice (u i).p (T.rl i) (u i).c)) := Fre.at a1 fun h0 b o e => by
            obtain ⟨g, e2, hg, _⟩ := hf h0
            rw [e] at e2; cases e2
            exact ⟨by omega, by simp⟩
          have f2 : Fre y.v (gr + 1) none (fun W => At W W.heap.size fp T.nf 5 T.fact) := by
            refine Fre.at (fun h0 => ?_) fun h0 b o e => ?_
            · obtain ⟨g, a, b, c, d, e⟩ := HS1.out.fa h0
              exact ⟨g, 0, a, by omega, e⟩
            · obtain ⟨g, a, b', _⟩ := HS1.out.fa h0
              rw [e] at a; cases a
              exact ⟨by omega, by simp⟩
          refine ((f1.and ((HS1.out.fre.nil).lo (by omega))).and f2).imp fun W ⟨⟨a, b⟩, d⟩ => ⟨by rw [← HQN.out]; exact a, fun k hk => (b k (by rw [HQN.out]; exact hk)).rs, fun k hk i hi => (b k (by rw [HQN.out]; exact hk)).is i hi, d⟩
        clear hS hf
        go_wp2
        have k0 : (((y.v.setCell ⟨gr, 0, none⟩ (.int .i64 T.wn)).setCell ⟨gr, 1, none⟩ (.slice p q c)).setCell ⟨gr, 2, none⟩ (.slice fp T.nf fc)).cell? ⟨gr, 0, none⟩ = some (.int .i64 T.wn) := by go_simp
        have k1 : (((y.v.setCell ⟨gr, 0, none⟩ (.int .i64 T.wn)).setCell ⟨gr, 1, none⟩ (.slice p q c)).setCell ⟨gr, 2, none⟩ (.slice fp T.nf fc)).cell? ⟨gr, 1, none⟩ = some (.slice p q c) := by go_simp
        have k2 : (((y.v.setCell ⟨gr, 0, none⟩ (.int .i64 T.wn)).setCell ⟨gr, 1, none⟩ (.slice p q c)).setCell ⟨gr, 2, none⟩ (.slice fp T.nf fc)).cell? ⟨gr, 2, none⟩ = some (.slice fp T.nf fc) := by go_simp
        obtain ⟨wf, hwf⟩ : ∃ W, ((y.v.setCell ⟨gr, 0, none⟩ (.int .i64 T.wn)).setCell ⟨gr, 1, none⟩ (.slice p q c)).setCell ⟨gr, 2, none⟩ (.slice fp T.nf fc) = W := ⟨_, rfl⟩
        rw [hwf] at k0 k1 k2
        have hfin : Below w.heap.size w wf ∧ Fre wf w.heap.size none (fun W => TnIn W W.heap.size T ⟨p, c, fp, fc, fun k => (u k).p, fun k => (u k).c, fun k => (u k).ip, fun k => (u k).ic⟩) := by
          rw [← hwf]
          exact ⟨bS (bS (bS HBY.out HG.out _) HG.out _) HG.out _, ((((HW.out.set _ _ (Nat.lt_succ_self _)).set _ _ (Nat.lt_succ_self _)).set _ _ (Nat.lt_succ_self _)).lo (by have := HG.out; omega))⟩
        rw [hwf]
        exact bodyPost_ret (v := .agg #[.int .i64 T.wn, .slice p q c, .slice fp T.nf fc]) (by simp [results, Tryd.f17, go_sem, k0, k1, k2]) rfl ⟨⟨p, c, fp, fc, fun k => (u k).p, fun k => (u k).c, fun k => (u k).ip, fun k => (u k).ic⟩, by dsimp only; rw [HQN.out], hfin.1, hfin.2⟩
end Go.Proofs.YtdjkbpenppdnlaaDoor
