/- Rosters of hours: a wider roster; a list in new memory. -/
import Derived.Test.YtegkgfiaegpihaaM6

set_option linter.unusedSimpArgs false

set_option linter.unusedVariables false

namespace Go.Proofs.Ytegkgfiaegpihaa

open Go.RowKit

/-- a roster with more room, and streets that can have more hours -/
structure Wid (D E : Ro) : Prop where
  n : E.n = D.n
  m : E.m = D.m
  hs : E.hs = D.hs
  co : E.co = D.co
  rm : ∀ k, D.rm k ≤ E.rm k
  fr : ∀ k, E.fr k ≤ D.fr k
  t2 : ∀ k, D.to k ≤ E.to k
theorem Wid.nr {D E : Ro} (h : Wid D E) {f : Nat → Int} (hf : NR D f) : NR E f := by
  refine ⟨fun k hk => ?_, fun x hx => ?_⟩
  · rw [h.m] at hk; have := hf.h k hk; have := h.fr k; have := h.t2 k; omega
  · rw [h.n] at hx; rw [h.m]; have := hf.c x hx; have := h.rm x; omega
theorem Wid.mv {D E : Ro} (h : Wid D E) (k : Nat) (x : Int) : mv E k x = mv D k x := by unfold Proofs.Ytegkgfiaegpihaa.mv; rw [h.hs]
theorem Wid.cost {D E : Ro} (h : Wid D E) (f : Nat → Int) : costF E f E.m = costF D f D.m := by
  unfold costF; rw [h.m]; exact sumN_congr fun k hk => by rw [h.mv, h.co]
theorem Wid.moved {D E : Ro} (h : Wid D E) (f : Nat → Int) : ∀ k, movedL E f k = movedL D f k
  | 0 => rfl
  | k + 1 => by simp only [movedL]; rw [h.moved f k, h.mv]
theorem Wid.far {D E : Ro} (h : Wid D E) (f : Nat → Int) : ∀ k, farF E f k = farF D f k
  | 0 => rfl
  | k + 1 => by simp only [farF]; rw [h.far f k, h.mv]
theorem Wid.ex {D E : Ro} (h : Wid D E) (hx : Ex D) : Ex E := hx.elim fun f hf => ⟨f, h.nr hf⟩
theorem Wid.least {D E : Ro} (h : Wid D E) (hD : OkP D) (hE : OkP E) (hx : Ex D) : lsC E ≤ lsC D := by
  obtain ⟨f, h1, h2⟩ := ls_ex hD hx
  have := ls_le hE (h.nr h1)
  rw [h.cost] at this; omega
theorem Wid.fewest {D E : Ro} (h : Wid D E) (hD : OkP D) (hE : OkP E) (hx : Ex D) : fwC E ≤ fwC D := by
  obtain ⟨f, h1, h2⟩ := fw_ex hD hx
  have := fw_le hE (h.nr h1)
  have e : cntM E f E.m = cntM D f D.m := by unfold cntM; rw [h.moved, h.m]
  omega
theorem Wid.farthest {D E : Ro} (h : Wid D E) (hD : OkP D) (hE : OkP E) (hx : Ex D) : frC E ≤ frC D := by
  obtain ⟨_, ⟨f, h1, h2⟩, _⟩ := fr_spec hD hx
  have := (fr_spec hE (h.ex hx)).2.2 f (h.nr h1)
  rw [h.far, h.m] at this; omega
theorem Wid.room (D : Ro) {h : Nat} {v : Int} (hv : 0 ≤ v) : Wid D (rmD D h v) :=
  ⟨rfl, rfl, rfl, rfl, fun k => by show D.rm k ≤ (if k = h then D.rm k + v else D.rm k); split <;> omega, fun _ => Int.le_refl _, fun _ => Int.le_refl _⟩
/-- a street that can have more hours before and behind -/
def wdD (D : Ro) (k : Nat) (a b : Int) : Ro := { D with fr := fun i => if i = k then D.fr i - a else D.fr i, «to» := fun i => if i = k then D.to i + b else D.to i }
theorem Wid.street (D : Ro) {h k : Nat} {v a b : Int} (hv : 0 ≤ v) (ha : 0 ≤ a) (hb : 0 ≤ b) : Wid D (wdD (rmD D h v) k a b) :=
  ⟨rfl, rfl, rfl, rfl, (Wid.room D hv).rm, fun i => by show (if i = k then D.fr i - a else D.fr i) ≤ D.fr i; split <;> omega, fun i => by show D.to i ≤ (if i = k then D.to i + b else D.to i); split <;> omega⟩
/-- what the law asks of a wider roster -/
theorem wid_three {D E : Ro} (h : Wid D E) (hD : OkP D) (hE : OkP E) (hx : exB D = true) : exB E = true ∧ tL E ≤ tL D ∧ tM E ≤ tM D ∧ tN E ≤ tN D := by
  have hx1 := (exB_iff hD).1 hx
  have h2 := (exB_iff hE).2 (h.ex hx1)
  refine ⟨h2, ?_⟩
  unfold tL tM tN
  rw [hx, h2]
  exact ⟨h.least hD hE hx1, h.farthest hD hE hx1, h.fewest hD hE hx1⟩
theorem wid_new {D E : Ro} (h : Wid D E) (hD : OkP D) (hE : OkP E) {l : Nat} {f : Nat → Int} (hn : isNw D l f = true) : isNw E l f = true := by
  obtain ⟨h1, h2⟩ := (isNw_iff hD).1 hn
  exact (isNw_iff hE).2 ⟨h1.trans h.m.symm, h.nr h2⟩
theorem nw_ex {D : Ro} (hD : OkP D) {l : Nat} {f : Nat → Int} (hn : isNw D l f = true) : exB D = true := (exB_iff hD).2 ⟨f, ((isNw_iff hD).1 hn).2⟩
theorem gd_nw {D : Ro} (hD : OkP D) (l : Nat) (f : Nat → Int) : gdV D l f = isNw D l f := by unfold gdV; rw [Ro.ok_iff.2 hD]; rfl
theorem box_more (w : World) (a b c : Int) (x y : Bool) :
    ∃ (w1 : World) (z : Ext w1), w.alloc (Obj.cells #[.int .i64 a, .int .i64 b, .int .i64 c, .bool x, .bool y] 45) = z.v ∧ Below w.heap.size w w1 ∧ w1.heap.size = w.heap.size + 1 ∧
      (∀ z : Ext w1, z.v.cell? ⟨w.heap.size, 0, none⟩ = some (.int .i64 a)) ∧ (∀ z : Ext w1, z.v.cell? ⟨w.heap.size, 1, none⟩ = some (.int .i64 b)) ∧ (∀ z : Ext w1, z.v.cell? ⟨w.heap.size, 2, none⟩ = some (.int .i64 c)) ∧
      (∀ z : Ext w1, z.v.cell? ⟨w.heap.size, 3, none⟩ = some (.bool x)) ∧ (∀ z : Ext w1, z.v.cell? ⟨w.heap.size, 4, none⟩ = some (.bool y)) := by
  have h0 : (w.alloc (Obj.cells #[.int .i64 a, .int .i64 b, .int .i64 c, .bool x, .bool y] 45)).cell? ⟨w.heap.size, 0, none⟩ = some (.int .i64 a) := by go_simp
  have h1 : (w.alloc (Obj.cells #[.int .i64 a, .int .i64 b, .int .i64 c, .bool x, .bool y] 45)).cell? ⟨w.heap.size, 1, none⟩ = some (.int .i64 b) := by go_simp
  have h2 : (w.alloc (Obj.cells #[.int .i64 a, .int .i64 b, .int .i64 c, .bool x, .bool y] 45)).cell? ⟨w.heap.size, 2, none⟩ = some (.int .i64 c) := by go_simp
  have h3 : (w.alloc (Obj.cells #[.int .i64 a, .int .i64 b, .int .i64 c, .bool x, .bool y] 45)).cell? ⟨w.heap.size, 3, none⟩ = some (.bool x) := by go_simp
  have h4 : (w.alloc (Obj.cells #[.int .i64 a, .int .i64 b, .int .i64 c, .bool x, .bool y] 45)).cell? ⟨w.heap.size, 4, none⟩ = some (.bool y) := by go_simp
  exact ⟨_, ⟨_, Below.refl _ _⟩, rfl, bA (Below.refl _ _) _, by simp, fun z => (z.b.cell (p := ⟨w.heap.size, 0, none⟩) (by simp)).trans h0, fun z => (z.b.cell (p := ⟨w.heap.size, 1, none⟩) (by simp)).trans h1, fun z => (z.b.cell (p := ⟨w.heap.size, 2, none⟩) (by simp)).trans h2, fun z => (z.b.cell (p := ⟨w.heap.size, 3, none⟩) (by simp)).trans h3, fun z => (z.b.cell (p := ⟨w.heap.size, 4, none⟩) (by simp)).trans h4⟩
set_option maxRecDepth 100000 in
set_option maxHeartbeats 2000000 in
theorem copied_any (l c : Nat) (f : Nat → Int) (p : Option Addr) (w : World) (hl : l ≤ 1000) (h : NumIn w w.heap.size l f p) :
    Calls Try.prog 31 #[.slice p l c] w fun e w' => ∃ y c', e = .returned (.slice y l c') ∧ New w w' l f y := by
  obtain ⟨i3, hi3, hz3, hz3', hz3''⟩ := info_parts infoI
  have I3 := Lib.hid hi3; have Z3 := Lib.hid hz3; have Z3' := Lib.hid hz3'; have Z3'' := Lib.hid hz3''; clear hi3 hz3 hz3' hz3''
  have H := Lib.hid h; clear h
  have S1 := Lib.hid (show l ≤ maxLen by unfold maxLen; omega)
  obtain ⟨w1, hw1⟩ : ∃ w1, w.alloc (Obj.cells #[] 3) = w1 := ⟨_, rfl⟩
  have hb1 : Below w.heap.size w w1 := by rw [← hw1]; exact bA (Below.refl _ _) _
  have HB := Lib.hid hb1; clear hb1
  go_enter Try.func31, Try.ntmps31
  go_wp2_with (at_builtin; refine wpList_append_copy rfl (.tmp 3) (.tmp 4) 22 rfl 3 i3 _ 1 8 Try.underlying22 I3.out Z3.out Z3'.out Z3''.out rfl (by decide) _ (by simp [Act.eval, Act.put]; rfl) p l c (by simp [Act.eval, Act.put]) (srcN (H.out.bel HB.out)) S1.out (by omega) ?_)
  intro y c' w' hc
  have HC := Lib.hid (copied_new (H.out.bel HB.out) HB.out (by simpa using hc)); clear hc
  go_wp2
  go_ret
  exact ⟨_, _, rfl, HC.out⟩
set_option maxRecDepth 100000 in
set_option maxHeartbeats 8000000 in
theorem roomier2_any (D : Ro) (p q : Option Addr) (c d h : Nat) (v : Int) (w : World) (hD : OkP D) (hh : h < D.n) (hv : 0 ≤ v ∧ v ≤ 6) (hI : RoIn w w.heap.size D p q) :
    Calls Try.prog 28 #[.agg #[.slice p D.n c, .slice q D.m d], .int .i64 (h : Int), .int .i64 v] w fun e w' => ∃ p' c' q' d', e = .returned (.agg #[.slice p' D.n c', .slice q' D.m d']) ∧ MadeIn w w' (rmD D h v) p' q' ∧ ∃ g, p' = some ⟨g, 0, none⟩ ∧ ∀ g2 o2, 0 < D.m → q' = some ⟨g2, o2, none⟩ → g ≠ g2 := by
  obtain ⟨w1, x1, hw1, hb1, hz1, F0, F1, _⟩ := box_ro w p q D.n D.m c d
  obtain ⟨w2, x2, hw2, hb2, hz2, G0, G1, Gf⟩ := box_nilr x1.v
  have hb12 := bT (bT hb1 x1.b) hb2
  have HB := Lib.hid hb12
  have HI2 := Lib.hid ((hI.bel (bT hb1 x1.b)).bel (bT hb2 x2.b))
  replace F0 : x2.v.cell? ⟨w.heap.size, 0, none⟩ = some (.slice p D.n c) := F0 (x2.up (bT x1.b hb2)); replace F1 : x2.v.cell? ⟨w.heap.size, 1, none⟩ = some (.slice q D.m d) := F1 (x2.up (bT x1.b hb2))
  have HG0 := Lib.hid G0; have HG1 := Lib.hid G1; have HGf := Lib.hid Gf
  have HD := Lib.hid hD
  have hrb := hD.rm h hh
  have hn8 := hD.n; have hm6 := hD.m
  have hhi : (h : Int) < (D.n : Int) := by omega
  have HZ : Hid (w.heap.size ≤ x1.v.heap.size ∧ x1.v.heap.size < w2.heap.size) := by have := hb1.size; have := x1.b.size; exact ⟨by omega, by omega⟩
  clear hb1 hz1 hb2 hz2 hb12 hI hD G0 G1 Gf
  go_enter Try.func28, Try.ntmps28
  go_wp2_with fail
  refine (copy_any D p q c d _ (by omega) (by omega) HI2.out).mono ?_
  rintro e w3 ⟨p', c', q', d', rfl, hcp⟩
  obtain ⟨g, hpg, hg1, hg2, hgf⟩ := hcp.rm (by omega)
  subst hpg
  obtain ⟨ob, hob⟩ : ∃ ob, w3.heap.size = ob := ⟨_, rfl⟩
  obtain ⟨w4, x4, hw4, hb4, hz4, O0, O1, Of⟩ := box_ro w3 (some ⟨g, 0, none⟩) q' D.n D.m c' d'
  have e4 : x4.v.cell? ⟨g, h, none⟩ = some (.int .i64 (D.rm h)) := by
    have := (hcp.here.rm.cell hh).2
    rw [Nat.zero_add] at this
    exact ((bT hb4 x4.b).cell (p := ⟨g, h, none⟩) hg2).trans this
  have f4 : x4.v.frozen? ⟨g, h, none⟩ = false := ((bT hb4 x4.b).frozen (p := ⟨g, h, none⟩) hg2).trans (hgf h)
  have ew : IntKind.i64.wrap (D.rm h + v) = D.rm h + v := IntWalk.i64_in _ (by omega)
  have o0 := O0 x4; have o1 := O1 x4
  rw [hob] at o0 o1
  have hcb := hcp.below
  obtain ⟨w5, hw5⟩ : ∃ w5, x4.v.setCell ⟨g, h, none⟩ (.int .i64 (D.rm h + v)) = w5 := ⟨_, rfl⟩
  have k5 : ∀ k, k ≠ g → w5.heap[k]? = x4.v.heap[k]? := fun k hk => by rw [← hw5]; exact setCell_block hk
  have b24 : Below w2.heap.size w2 x4.v := bT (bT x2.b hcb) (bT hb4 x4.b)
  have hg0 : w2.heap.size ≤ g := Nat.le_trans x2.b.size hg1
  have b5 : Below w2.heap.size w2 w5 := by rw [← hw5]; exact b24.setCell (by simpa using hg0) _
  have r0 : w5.cell? ⟨x1.v.heap.size, 0, none⟩ = some (.slice none 0 0) := HG0.out ⟨w5, b5⟩; have r1 : w5.cell? ⟨x1.v.heap.size, 1, none⟩ = some (.slice none 0 0) := HG1.out ⟨w5, b5⟩
  have rf0 : w5.frozen? ⟨x1.v.heap.size, 0, none⟩ = false := HGf.out ⟨w5, b5⟩ 0; have rf1 : w5.frozen? ⟨x1.v.heap.size, 1, none⟩ = false := HGf.out ⟨w5, b5⟩ 1
  have o0' := (World.cell?_of_block (a := ⟨ob, 0, none⟩) (k5 ob (by omega))).trans o0
  have o1' := (World.cell?_of_block (a := ⟨ob, 1, none⟩) (k5 ob (by omega))).trans o1
  have hsz : w5.heap.size = x4.v.heap.size := by rw [← hw5]; simp
  have HIN : Hid (RoIn w5 w5.heap.size (rmD D h v) (some ⟨g, 0, none⟩) q') := by
    have hin4 := (hcp.here.bel hb4).bel x4.b
    refine ⟨fun h0 => ⟨g, 0, rfl, by rw [hsz]; exact Nat.lt_of_lt_of_le hg2 (bT hb4 x4.b).size, fun k hk => ?_⟩, fun h0 => ?_⟩
    · rw [Nat.zero_add]
      show World.cell? _ _ = some (Value.int .i64 (if k = h then D.rm k + v else D.rm k))
      by_cases ek : k = h
      · subst ek
        rw [if_pos rfl, ← hw5]
        clear hw5
        go_simp
      · rw [if_neg ek, ← hw5, World.cell?_setCell_other _ _ _ _ (by simp [ek])]
        have := (hin4.rm.cell hk).2
        rwa [Nat.zero_add] at this
    · obtain ⟨b, o, e, l, hc⟩ := hin4.st h0
      obtain ⟨g2, e2, l1, l2, _⟩ := hcp.st h0
      have hne : g ≠ b := hcp.ne (by omega) h0 g b 0 o rfl e
      have kb := k5 b (Ne.symm hne)
      exact ⟨b, o, e, by rw [hsz]; exact l, fun k hk => (World.cell?_of_block (a := ⟨b, o + k * 4, none⟩) kb).trans (hc.c0 k hk), fun k hk => (World.cell?_of_block (a := ⟨b, o + k * 4 + 1, none⟩) kb).trans (hc.c1 k hk), fun k hk => (World.cell?_of_block (a := ⟨b, o + k * 4 + 2, none⟩) kb).trans (hc.c2 k hk), fun k hk => (World.cell?_of_block (a := ⟨b, o + k * 4 + 3, none⟩) kb).trans (hc.c3 k hk)⟩
  have HST : Hid (0 < D.m → ∃ g2, q' = some ⟨g2, 0, none⟩ ∧ w2.heap.size ≤ g2 ∧ g2 < w5.heap.size ∧ ∀ i, w5.frozen? ⟨g2, i, none⟩ = false) := fun h0 => by
    obtain ⟨g2, e2, l1, l2, hf2⟩ := hcp.st h0
    have hne : g ≠ g2 := hcp.ne (by omega) h0 g g2 0 0 rfl e2
    exact ⟨g2, e2, Nat.le_trans x2.b.size l1, by rw [hsz]; exact Nat.lt_of_lt_of_le l2 (bT hb4 x4.b).size, fun i => (World.frozen?_of_block (a := ⟨g2, i, none⟩) (k5 g2 (Ne.symm hne))).trans (((bT hb4 x4.b).frozen (p := ⟨g2, i, none⟩) l2).trans (hf2 i))⟩
  obtain ⟨w9, hw9⟩ : ∃ w9, (w5.setCell ⟨x1.v.heap.size, 0, none⟩ (.slice (some ⟨g, 0, none⟩) D.n c')).setCell ⟨x1.v.heap.size, 1, none⟩ (.slice q' D.m d') = w9 := ⟨_, rfl⟩
  obtain ⟨q0, q1⟩ := set_two (p' := some ⟨g, 0, none⟩) (n' := D.n) (c' := c') (q' := q') (m' := D.m) (d' := d') r0 r1 (HGf.out ⟨w5, b5⟩)
  rw [hw9] at q0 q1
  have k9 : ∀ k, k ≠ x1.v.heap.size → w9.heap[k]? = w5.heap[k]? := fun k hk => by rw [← hw9]; rw [setCell_block hk, setCell_block hk]
  have s9 : w9.heap.size = w5.heap.size := by rw [← hw9]; simp
  have HM : Hid (MadeIn w w9 (rmD D h v) (some ⟨g, 0, none⟩) q') := by
    have hz := HZ.out
    refine ⟨by rw [← hw9]; exact bS (bS (bT HB.out b5) hz.1 _) hz.1 _, ⟨fun h0 => ?_, fun h0 => ?_⟩, fun h0 => ?_⟩
    · obtain ⟨b, o, e, l, hc⟩ := HIN.out.rm h0
      cases e
      exact ⟨g, 0, rfl, by rw [s9]; exact l, fun k hk => (World.cell?_of_block (a := ⟨g, 0 + k, none⟩) (k9 g (by omega))).trans (hc k hk)⟩
    · obtain ⟨b, o, e, l, hc⟩ := HIN.out.st h0
      obtain ⟨g2, e2, l1, l2, _⟩ := HST.out h0
      rw [e] at e2; cases e2
      have kb := k9 b (by omega)
      exact ⟨b, 0, e, by rw [s9]; exact l, fun k hk => (World.cell?_of_block (a := ⟨b, 0 + k * 4, none⟩) kb).trans (hc.c0 k hk), fun k hk => (World.cell?_of_block (a := ⟨b, 0 + k * 4 + 1, none⟩) kb).trans (hc.c1 k hk), fun k hk => (World.cell?_of_block (a := ⟨b, 0 + k * 4 + 2, none⟩) kb).trans (hc.c2 k hk), fun k hk => (World.cell?_of_block (a := ⟨b, 0 + k * 4 + 3, none⟩) kb).trans (hc.c3 k hk)⟩
    · obtain ⟨g2, e2, l1, l2, hf2⟩ := HST.out h0
      exact ⟨g2, e2, by omega, by rw [s9]; exact l2, fun i => (World.frozen?_of_block (a := ⟨g2, i, none⟩) (k9 g2 (by omega))).trans (hf2 i)⟩
  have HNE : Hid (∀ g2 o2, 0 < D.m → q' = some ⟨g2, o2, none⟩ → g ≠ g2) := fun g2 o2 h0 e => hcp.ne (by omega) h0 g g2 0 o2 rfl e
  clear hcp hg1 hg2 hgf hcb b24 k5 k9 s9 hsz b5 O0 O1 Of hb4 hz4 hrb hg0
  go_wp2
  try rw [hw9]
  exact bodyPost_ret (v := .agg #[.slice (some ⟨g, 0, none⟩) D.n c', .slice q' D.m d']) (by simp [results, Try.f28, go_sem, q0, q1]) rfl ⟨_, _, _, _, rfl, HM.out, g, rfl, HNE.out⟩
end Go.Proofs.Ytegkgfiaegpihaa
