/- Rosters of hours: more room, of both; Give of the program. -/
import Derived.Test.YtegkgfiaegpihaaD0

set_option linter.unusedSimpArgs false

set_option linter.unusedVariables false

namespace Go.Proofs.Ytegkgfiaegpihaa

open Go.RowKit

/-- more room in an hour -/
def rmD (D : Ro) (h : Nat) (v : Int) : Ro := { D with rm := fun i => if i = h then D.rm i + v else D.rm i }
theorem rmD_in {w : World} {K : Nat} {D : Ro} {p q p' : Option Addr} {h : Nat} {v : Int} (hI : RoIn w K D p q) (hr : NumIn w K D.n (rmD D h v).rm p') : RoIn w K (rmD D h v) p' q :=
  ⟨hr, fun h0 => by obtain ⟨b, o, e, l, c⟩ := hI.st h0; exact ⟨b, o, e, l, c.c0, c.c1, c.c2, c.c3⟩⟩
theorem rmD_ok {D : Ro} (hD : OkP D) {h : Nat} {v : Int} (hv : 0 ≤ D.rm h + v ∧ D.rm h + v ≤ 6) : OkP (rmD D h v) :=
  ⟨hD.n, hD.m, fun k hk => by
    show 0 ≤ (if k = h then D.rm k + v else D.rm k) ∧ (if k = h then D.rm k + v else D.rm k) ≤ 6
    split
    · rename_i e; rw [e]; exact hv
    · exact hD.rm k hk, fun k hk => ⟨(hD.st k hk).hs, (hD.st k hk).fr, (hD.st k hk).to, (hD.st k hk).ft, (hD.st k hk).co⟩⟩
/-- what a roster with more room in new memory is -/
structure MadeIn (w w' : World) (D : Ro) (p' q' : Option Addr) : Prop where
  below : Below w.heap.size w w'
  here : RoIn w' w'.heap.size D p' q'
  st : 0 < D.m → ∃ g, q' = some ⟨g, 0, none⟩ ∧ w.heap.size ≤ g ∧ g < w'.heap.size ∧ ∀ i, w'.frozen? ⟨g, i, none⟩ = false
theorem set_two {w : World} {b : Nat} {p q p' q' : Option Addr} {n n' m m' c c' d d' : Nat} (h0 : w.cell? ⟨b, 0, none⟩ = some (.slice p n c)) (h1 : w.cell? ⟨b, 1, none⟩ = some (.slice q m d)) (hf : ∀ i, w.frozen? ⟨b, i, none⟩ = false) :
    ((w.setCell ⟨b, 0, none⟩ (.slice p' n' c')).setCell ⟨b, 1, none⟩ (.slice q' m' d')).cell? ⟨b, 0, none⟩ = some (.slice p' n' c') ∧ ((w.setCell ⟨b, 0, none⟩ (.slice p' n' c')).setCell ⟨b, 1, none⟩ (.slice q' m' d')).cell? ⟨b, 1, none⟩ = some (.slice q' m' d') := ⟨by go_simp, by go_simp⟩
set_option maxRecDepth 100000 in
set_option maxHeartbeats 8000000 in
theorem roomier_any (D : Ro) (p q : Option Addr) (c d h : Nat) (v : Int) (w : World) (hD : OkP D) (hh : h < D.n) (hv : 0 ≤ v ∧ v ≤ 6) (hI : RoIn w w.heap.size D p q) :
    Calls Try.prog 28 #[.agg #[.slice p D.n c, .slice q D.m d], .int .i64 (h : Int), .int .i64 v] w fun e w' => ∃ p' c' q' d', e = .returned (.agg #[.slice p' D.n c', .slice q' D.m d']) ∧ MadeIn w w' (rmD D h v) p' q' := by
  obtain ⟨w1, x1, hw1, hb1, hz1, F0, F1, _⟩ := box_ro w p q D.n D.m c d
  obtain ⟨w2, x2, hw2, hb2, hz2, G0, G1, Gf⟩ := box_nilr x1.v
  have hb12 := bT (bT hb1 x1.b) hb2
  have HB := Lib.hid hb12
  have HI2 := Lib.hid ((hI.bel (bT hb1 x1.b)).bel (bT hb2 x2.b))
  replace F0 : x2.v.cell? ⟨w.heap.size, 0, none⟩ = some (.slice p D.n c) := F0 (x2.up (bT x1.b hb2)); replace F1 : x2.v.cell? ⟨w.heap.size, 1, none⟩ = some (.slice q D.m d) := F1 (x2.up (bT x1.b hb2))
  have HG0 := Lib.hid G0; have HG1 := Lib.hid G1; have HGf := Lib.hid Gf
  have HD := Lib.hid hD
  have hrb := hD.rm h hh
  have hn8 := hD.n; have hm6 := hD.m
  have hhi : (h : Int) < (D.n : Int) := by omega
  have HZ : Hid (w.heap.size ≤ x1.v.heap.size ∧ x1.v.heap.size < w2.heap.size) := by have := hb1.size; have := x1.b.size; exact ⟨by omega, by omega⟩
  clear hb1 hz1 hb2 hz2 hb12 hI hD G0 G1 Gf
  go_enter Try.func28, Try.ntmps28
  go_wp2_with fail
  refine (copy_any D p q c d _ (by omega) (by omega) HI2.out).mono ?_
  rintro e w3 ⟨p', c', q', d', rfl, hcp⟩
  obtain ⟨g, hpg, hg1, hg2, hgf⟩ := hcp.rm (by omega)
  subst hpg
  obtain ⟨ob, hob⟩ : ∃ ob, w3.heap.size = ob := ⟨_, rfl⟩
  obtain ⟨w4, x4, hw4, hb4, hz4, O0, O1, Of⟩ := box_ro w3 (some ⟨g, 0, none⟩) q' D.n D.m c' d'
  have e4 : x4.v.cell? ⟨g, h, none⟩ = some (.int .i64 (D.rm h)) := by
    have := (hcp.here.rm.cell hh).2
    rw [Nat.zero_add] at this
    exact ((bT hb4 x4.b).cell (p := ⟨g, h, none⟩) hg2).trans this
  have f4 : x4.v.frozen? ⟨g, h, none⟩ = false := ((bT hb4 x4.b).frozen (p := ⟨g, h, none⟩) hg2).trans (hgf h)
  have ew : IntKind.i64.wrap (D.rm h + v) = D.rm h + v := IntWalk.i64_in _ (by omega)
  have o0 := O0 x4; have o1 := O1 x4
  rw [hob] at o0 o1
  have hcb := hcp.below
  obtain ⟨w5, hw5⟩ : ∃ w5, x4.v.setCell ⟨g, h, none⟩ (.int .i64 (D.rm h + v)) = w5 := ⟨_, rfl⟩
  have k5 : ∀ k, k ≠ g → w5.heap[k]? = x4.v.heap[k]? := fun k hk => by rw [← hw5]; exact setCell_block hk
  have b24 : Below w2.heap.size w2 x4.v := bT (bT x2.b hcb) (bT hb4 x4.b)
  have hg0 : w2.heap.size ≤ g := Nat.le_trans x2.b.size hg1
  have b5 : Below w2.heap.size w2 w5 := by rw [← hw5]; exact b24.setCell (by simpa using hg0) _
  have r0 : w5.cell? ⟨x1.v.heap.size, 0, none⟩ = some (.slice none 0 0) := HG0.out ⟨w5, b5⟩; have r1 : w5.cell? ⟨x1.v.heap.size, 1, none⟩ = some (.slice none 0 0) := HG1.out ⟨w5, b5⟩
  have rf0 : w5.frozen? ⟨x1.v.heap.size, 0, none⟩ = false := HGf.out ⟨w5, b5⟩ 0; have rf1 : w5.frozen? ⟨x1.v.heap.size, 1, none⟩ = false := HGf.out ⟨w5, b5⟩ 1
  have o0' := (World.cell?_of_block (a := ⟨ob, 0, none⟩) (k5 ob (by omega))).trans o0
  have o1' := (World.cell?_of_block (a := ⟨ob, 1, none⟩) (k5 ob (by omega))).trans o1
  have hsz : w5.heap.size = x4.v.heap.size := by rw [← hw5]; simp
  have HIN : Hid (RoIn w5 w5.heap.size (rmD D h v) (some ⟨g, 0, none⟩) q') := by
    have hin4 := (hcp.here.bel hb4).bel x4.b
    refine ⟨fun h0 => ⟨g, 0, rfl, by rw [hsz]; exact Nat.lt_of_lt_of_le hg2 (bT hb4 x4.b).size, fun k hk => ?_⟩, fun h0 => ?_⟩
    · rw [Nat.zero_add]
      show World.cell? _ _ = some (Value.int .i64 (if k = h then D.rm k + v else D.rm k))
      by_cases ek : k = h
      · subst ek
        rw [if_pos rfl, ← hw5]
        clear hw5
        go_simp
      · rw [if_neg ek, ← hw5, World.cell?_setCell_other _ _ _ _ (by simp [ek])]
        have := (hin4.rm.cell hk).2
        rwa [Nat.zero_add] at this
    · obtain ⟨b, o, e, l, hc⟩ := hin4.st h0
      obtain ⟨g2, e2, l1, l2, _⟩ := hcp.st h0
      have hne : g ≠ b := hcp.ne (by omega) h0 g b 0 o rfl e
      have kb := k5 b (Ne.symm hne)
      exact ⟨b, o, e, by rw [hsz]; exact l, fun k hk => (World.cell?_of_block (a := ⟨b, o + k * 4, none⟩) kb).trans (hc.c0 k hk), fun k hk => (World.cell?_of_block (a := ⟨b, o + k * 4 + 1, none⟩) kb).trans (hc.c1 k hk), fun k hk => (World.cell?_of_block (a := ⟨b, o + k * 4 + 2, none⟩) kb).trans (hc.c2 k hk), fun k hk => (World.cell?_of_block (a := ⟨b, o + k * 4 + 3, none⟩) kb).trans (hc.c3 k hk)⟩
  have HST : Hid (0 < D.m → ∃ g2, q' = some ⟨g2, 0, none⟩ ∧ w2.heap.size ≤ g2 ∧ g2 < w5.heap.size ∧ ∀ i, w5.frozen? ⟨g2, i, none⟩ = false) := fun h0 => by
    obtain ⟨g2, e2, l1, l2, hf2⟩ := hcp.st h0
    have hne : g ≠ g2 := hcp.ne (by omega) h0 g g2 0 0 rfl e2
    exact ⟨g2, e2, Nat.le_trans x2.b.size l1, by rw [hsz]; exact Nat.lt_of_lt_of_le l2 (bT hb4 x4.b).size, fun i => (World.frozen?_of_block (a := ⟨g2, i, none⟩) (k5 g2 (Ne.symm hne))).trans (((bT hb4 x4.b).frozen (p := ⟨g2, i, none⟩) l2).trans (hf2 i))⟩
  obtain ⟨w9, hw9⟩ : ∃ w9, (w5.setCell ⟨x1.v.heap.size, 0, none⟩ (.slice (some ⟨g, 0, none⟩) D.n c')).setCell ⟨x1.v.heap.size, 1, none⟩ (.slice q' D.m d') = w9 := ⟨_, rfl⟩
  obtain ⟨q0, q1⟩ := set_two (p' := some ⟨g, 0, none⟩) (n' := D.n) (c' := c') (q' := q') (m' := D.m) (d' := d') r0 r1 (HGf.out ⟨w5, b5⟩)
  rw [hw9] at q0 q1
  have k9 : ∀ k, k ≠ x1.v.heap.size → w9.heap[k]? = w5.heap[k]? := fun k hk => by rw [← hw9]; rw [setCell_block hk, setCell_block hk]
  have s9 : w9.heap.size = w5.heap.size := by rw [← hw9]; simp
  have HM : Hid (MadeIn w w9 (rmD D h v) (some ⟨g, 0, none⟩) q') := by
    have hz := HZ.out
    refine ⟨by rw [← hw9]; exact bS (bS (bT HB.out b5) hz.1 _) hz.1 _, ⟨fun h0 => ?_, fun h0 => ?_⟩, fun h0 => ?_⟩
    · obtain ⟨b, o, e, l, hc⟩ := HIN.out.rm h0
      cases e
      exact ⟨g, 0, rfl, by rw [s9]; exact l, fun k hk => (World.cell?_of_block (a := ⟨g, 0 + k, none⟩) (k9 g (by omega))).trans (hc k hk)⟩
    · obtain ⟨b, o, e, l, hc⟩ := HIN.out.st h0
      obtain ⟨g2, e2, l1, l2, _⟩ := HST.out h0
      rw [e] at e2; cases e2
      have kb := k9 b (by omega)
      exact ⟨b, 0, e, by rw [s9]; exact l, fun k hk => (World.cell?_of_block (a := ⟨b, 0 + k * 4, none⟩) kb).trans (hc.c0 k hk), fun k hk => (World.cell?_of_block (a := ⟨b, 0 + k * 4 + 1, none⟩) kb).trans (hc.c1 k hk), fun k hk => (World.cell?_of_block (a := ⟨b, 0 + k * 4 + 2, none⟩) kb).trans (hc.c2 k hk), fun k hk => (World.cell?_of_block (a := ⟨b, 0 + k * 4 + 3, none⟩) kb).trans (hc.c3 k hk)⟩
    · obtain ⟨g2, e2, l1, l2, hf2⟩ := HST.out h0
      exact ⟨g2, e2, by omega, by rw [s9]; exact l2, fun i => (World.frozen?_of_block (a := ⟨g2, i, none⟩) (k9 g2 (by omega))).trans (hf2 i)⟩
  clear hcp hg1 hg2 hgf hcb b24 k5 k9 s9 hsz b5 O0 O1 Of hb4 hz4 hrb hg0
  go_wp2
  try rw [hw9]
  exact bodyPost_ret (v := .agg #[.slice (some ⟨g, 0, none⟩) D.n c', .slice q' D.m d']) (by simp [results, Try.f28, go_sem, q0, q1]) rfl ⟨_, _, _, _, rfl, HM.out⟩
set_option maxRecDepth 100000 in
set_option maxHeartbeats 8000000 in
theorem withRoom_any (D : Ro) (p q : Option Addr) (c d h : Nat) (w : World) (hD : OkP D) (hh : h < D.n) (hI : RoIn w w.heap.size D p q) :
    Calls Try.prog 105 #[.agg #[.slice p D.n c, .slice q D.m d], .int .i64 (h : Int)] w fun e w' => ∃ p' c', e = .returned (.agg #[.slice p' D.n c', .slice q D.m d]) ∧ Below w.heap.size w w' ∧ RoIn w' w'.heap.size (rmD D h 1) p' q := by
  obtain ⟨w1, x1, hw1, hb1, hz1, F0, F1, Ff⟩ := box_ro w p q D.n D.m c d
  obtain ⟨w2, x2, hw2, hb2, hz2, G0, G1, Gf⟩ := box_nilr x1.v
  have hb12 := bT (bT hb1 x1.b) hb2
  have HB := Lib.hid hb12
  have HI2 := Lib.hid ((hI.bel (bT hb1 x1.b)).bel (bT hb2 x2.b))
  have HF0 : Hid (∀ y : Ext w2, y.v.cell? ⟨w.heap.size, 0, none⟩ = some (.slice p D.n c)) := fun y : Ext w2 => F0 (y.up (bT x1.b hb2)); have HF1 : Hid (∀ y : Ext w2, y.v.cell? ⟨w.heap.size, 1, none⟩ = some (.slice q D.m d)) := fun y : Ext w2 => F1 (y.up (bT x1.b hb2)); have HFf : Hid (∀ (y : Ext w2) i, y.v.frozen? ⟨w.heap.size, i, none⟩ = false) := fun (y : Ext w2) i => Ff (y.up (bT x1.b hb2)) i
  replace F0 : x2.v.cell? ⟨w.heap.size, 0, none⟩ = some (.slice p D.n c) := F0 (x2.up (bT x1.b hb2)); replace F1 : x2.v.cell? ⟨w.heap.size, 1, none⟩ = some (.slice q D.m d) := F1 (x2.up (bT x1.b hb2))
  have HG0 := Lib.hid G0; have HG1 := Lib.hid G1; have HGf := Lib.hid Gf
  have HIW := Lib.hid hI
  have hrb := hD.rm h hh
  have hn8 := hD.n; have hm6 := hD.m
  have hhi : (h : Int) < (D.n : Int) := by omega
  have HZ : Hid (w.heap.size < x1.v.heap.size ∧ x1.v.heap.size < w2.heap.size) := by have := hb1.size; have := x1.b.size; exact ⟨by omega, by omega⟩
  clear hb1 hz1 hb2 hz2 hb12 hI hD G0 G1 Gf Ff
  go_enter Try.func105, Try.ntmps105
  go_wp2_with fail
  refine (clone_p D.n c D.rm p _ (by omega) HI2.out.rm).mono ?_
  rintro e wc ⟨y, c', rfl, hc⟩
  obtain ⟨g, hyg, hg1, hg2, hgn, hgf⟩ := hc.here (by omega)
  subst hyg
  have hcb := hc.below
  have bc : Below w2.heap.size w2 wc := bT x2.b hcb
  have c0 : wc.cell? ⟨w.heap.size, 0, none⟩ = some (.slice p D.n c) := HF0.out ⟨wc, bc⟩; have c1 : wc.cell? ⟨w.heap.size, 1, none⟩ = some (.slice q D.m d) := HF1.out ⟨wc, bc⟩; have cf0 : wc.frozen? ⟨w.heap.size, 0, none⟩ = false := HFf.out ⟨wc, bc⟩ 0
  have hg0 : w2.heap.size ≤ g := Nat.le_trans x2.b.size hg1
  have hz := HZ.out
  obtain ⟨w4, hw4⟩ : ∃ w4, wc.setCell ⟨w.heap.size, 0, none⟩ (.slice (some ⟨g, 0, none⟩) D.n c') = w4 := ⟨_, rfl⟩
  have k4 : ∀ k, k ≠ w.heap.size → w4.heap[k]? = wc.heap[k]? := fun k hk => by rw [← hw4]; exact setCell_block hk
  have s4 : w4.heap.size = wc.heap.size := by rw [← hw4]; simp
  have d0 : w4.cell? ⟨w.heap.size, 0, none⟩ = some (.slice (some ⟨g, 0, none⟩) D.n c') := by rw [← hw4]; clear hw4; go_simp
  have d1 : w4.cell? ⟨w.heap.size, 1, none⟩ = some (.slice q D.m d) := by rw [← hw4, World.cell?_setCell_other _ _ _ _ (by simp)]; exact c1
  have e4 : w4.cell? ⟨g, h, none⟩ = some (.int .i64 (D.rm h)) := by
    have := hgn h hh
    rw [Nat.zero_add] at this
    exact (World.cell?_of_block (a := ⟨g, h, none⟩) (k4 g (by omega))).trans this
  have f4 : w4.frozen? ⟨g, h, none⟩ = false := (World.frozen?_of_block (a := ⟨g, h, none⟩) (k4 g (by omega))).trans (hgf h)
  have ew : IntKind.i64.wrap (D.rm h + 1) = D.rm h + 1 := IntWalk.i64_in _ (by omega)
  obtain ⟨w5, hw5⟩ : ∃ w5, w4.setCell ⟨g, h, none⟩ (.int .i64 (D.rm h + 1)) = w5 := ⟨_, rfl⟩
  have k5 : ∀ k, k ≠ g → w5.heap[k]? = w4.heap[k]? := fun k hk => by rw [← hw5]; exact setCell_block hk
  have s5 : w5.heap.size = w4.heap.size := by rw [← hw5]; simp
  have d0' := (World.cell?_of_block (a := ⟨w.heap.size, 0, none⟩) (k5 w.heap.size (by omega))).trans d0
  have d1' := (World.cell?_of_block (a := ⟨w.heap.size, 1, none⟩) (k5 w.heap.size (by omega))).trans d1
  have r0 := (World.cell?_of_block (a := ⟨x1.v.heap.size, 0, none⟩) ((k5 x1.v.heap.size (by omega)).trans (k4 x1.v.heap.size (by omega)))).trans (HG0.out ⟨wc, bc⟩)
  have r1 := (World.cell?_of_block (a := ⟨x1.v.heap.size, 1, none⟩) ((k5 x1.v.heap.size (by omega)).trans (k4 x1.v.heap.size (by omega)))).trans (HG1.out ⟨wc, bc⟩)
  have rf : ∀ i, w5.frozen? ⟨x1.v.heap.size, i, none⟩ = false := fun i => (World.frozen?_of_block (a := ⟨x1.v.heap.size, i, none⟩) ((k5 x1.v.heap.size (by omega)).trans (k4 x1.v.heap.size (by omega)))).trans (HGf.out ⟨wc, bc⟩ i)
  have rf0 := rf 0; have rf1 := rf 1
  obtain ⟨w9, hw9⟩ : ∃ w9, (w5.setCell ⟨x1.v.heap.size, 0, none⟩ (.slice (some ⟨g, 0, none⟩) D.n c')).setCell ⟨x1.v.heap.size, 1, none⟩ (.slice q D.m d) = w9 := ⟨_, rfl⟩
  obtain ⟨q0, q1⟩ := set_two (p' := some ⟨g, 0, none⟩) (n' := D.n) (c' := c') (q' := q) (m' := D.m) (d' := d) r0 r1 rf
  rw [hw9] at q0 q1
  have k9 : ∀ k, k ≠ x1.v.heap.size → w9.heap[k]? = w5.heap[k]? := fun k hk => by rw [← hw9]; rw [setCell_block hk, setCell_block hk]
  have s9 : w9.heap.size = w5.heap.size := by rw [← hw9]; simp
  have HBB : Hid (Below w.heap.size w w9) := by
    rw [← hw9, ← hw5, ← hw4]
    exact bS (bS (bS (bS (bT HB.out bc) (Nat.le_refl _) _) (by show w.heap.size ≤ g; omega) _) (by show w.heap.size ≤ x1.v.heap.size; omega) _) (by show w.heap.size ≤ x1.v.heap.size; omega) _
  have HR : Hid (RoIn w9 w9.heap.size (rmD D h 1) (some ⟨g, 0, none⟩) q) := by
    refine rmD_in (HIW.out.bel HBB.out) fun h0 => ⟨g, 0, rfl, by rw [s9, s5, s4]; exact hg2, fun k hk => ?_⟩
    rw [Nat.zero_add]
    show World.cell? _ _ = some (Value.int .i64 (if k = h then D.rm k + 1 else D.rm k))
    rw [World.cell?_of_block (a := ⟨g, k, none⟩) (k9 g (by omega))]
    by_cases ek : k = h
    · subst ek
      rw [if_pos rfl, ← hw5]
      clear hw5
      go_simp
    · rw [if_neg ek, ← hw5, World.cell?_setCell_other _ _ _ _ (by simp [ek]), World.cell?_of_block (a := ⟨g, k, none⟩) (k4 g (by omega))]
      have := hgn k hk
      rwa [Nat.zero_add] at this
  clear hc hg1 hg2 hgn hgf hcb bc k4 s4 k5 s5 k9 s9 rf hrb hz hg0
  go_wp2
  try rw [hw9]
  exact bodyPost_ret (v := .agg #[.slice (some ⟨g, 0, none⟩) D.n c', .slice q D.m d]) (by simp [results, Try.f105, go_sem, q0, q1]) rfl ⟨_, _, rfl, HBB.out, HR.out⟩
theorem leastOf_is {D : Ro} {n : Nat} {p q : Option Addr} {c d : Nat} (hn : D.n = n) (hD : OkP D) (w : World) (hI : RoIn w w.heap.size D p q) : Calls Try.prog 76 #[.agg #[.slice p n c, .slice q D.m d]] w fun e w' => e = .returned (.tuple #[.int .i64 (lsC D), .bool (exB D)]) ∧ Below w.heap.size w w' := by
  subst hn; exact leastOf_any D p q c d hD w hI
/-- what Give says -/
def gvV (D : Ro) (h : Nat) : Int := if exB D then lsC D - lsC (rmD D h 1) else 0
set_option maxRecDepth 100000 in
set_option maxHeartbeats 8000000 in
theorem givenBy_any (D : Ro) (p q : Option Addr) (c d h : Nat) (w : World) (hD : OkP D) (hh : h < D.n) (h6 : D.rm h ≠ 6) (hI : RoIn w w.heap.size D p q) :
    Calls Try.prog 81 #[.agg #[.slice p D.n c, .slice q D.m d], .int .i64 (h : Int)] w fun e w' => e = .returned (.tuple #[.int .i64 (gvV D h), .bool (exB D)]) ∧ Below w.heap.size w w' := by
  obtain ⟨w1, x1, hw1, hb1, hz1, F0, F1, _⟩ := box_ro w p q D.n D.m c d
  have HB := Lib.hid hb1
  have HI : Hid (∀ x : Ext w1, RoIn x.v x.v.heap.size D p q) := fun x => (hI.bel hb1).bel x.b
  have HD := Lib.hid hD
  have hrb := hD.rm h hh
  have HD2 := Lib.hid (rmD_ok hD (h := h) (v := 1) (by omega))
  have HLS := Lib.hid (fun y : Ext w1 => leastOf_any D p q c d hD y.v (HI.out y))
  have hl1 := ls_bd hD; have hl2 := ls_bd HD2.out
  have ew : IntKind.i64.wrap (lsC D - lsC (rmD D h 1)) = lsC D - lsC (rmD D h 1) := IntWalk.i64_in _ (by omega)
  have HX : Hid ((!(best D (prC D)).no) = exB D) := rfl
  rw [HX.out] at HLS
  clear hb1 hz1 hI hD hl1 hl2
  cases hx : exB D with
  | false =>
    have HG := Lib.hid (show gvV D h = 0 by simp [gvV, hx])
    rw [hx] at HLS HX
    rw [HG.out]
    clear hx
    go_enter Try.func81, Try.ntmps81
    go_wp2_with fail
    refine (quiet_x (HLS.out _)).mono ?_
    rintro e w' ⟨rfl, y, rfl⟩
    go_wp2
    go_ret2
    exact ⟨rfl, bT HB.out y.b⟩
  | true =>
    have HG := Lib.hid (show gvV D h = lsC D - lsC (rmD D h 1) by simp [gvV, hx])
    rw [hx] at HLS HX
    rw [HG.out]
    clear hx
    obtain ⟨ls, hls⟩ : ∃ v, lsC D = v := ⟨_, rfl⟩
    obtain ⟨ls2, hls2⟩ : ∃ v, lsC (rmD D h 1) = v := ⟨_, rfl⟩
    rw [hls] at HLS
    rw [hls, hls2] at ew ⊢
    have HL2 := Lib.hid hls2
    clear hls hls2
    go_enter Try.func81, Try.ntmps81
    go_wp2_with fail
    refine (quiet_x (HLS.out _)).mono ?_
    rintro e w' ⟨rfl, y, rfl⟩
    go_wp2_with fail
    refine (withRoom_any D p q c d h _ HD.out hh (HI.out _)).mono ?_
    rintro e w2 ⟨p', c', rfl, hb2, hi2⟩
    go_wp2_with fail
    refine (leastOf_is (D := rmD D h 1) (n := D.n) rfl HD2.out _ hi2).mono ?_
    rintro e w3 ⟨rfl, hb3⟩
    rw [HL2.out]
    have HB3 := Lib.hid (bT (bT y.b hb2) hb3)
    clear hb2 hi2 hb3
    go_wp2
    go_ret2
    exact ⟨rfl, bT HB.out HB3.out⟩
def gvE (D : Ro) (h : Nat) : Int := if D.rm h = 6 then 2 else exE D
def gvR (D : Ro) (h : Nat) : Int := if D.rm h = 6 then 0 else gvV D h
set_option maxRecDepth 100000 in
set_option maxHeartbeats 8000000 in
theorem giveP_any (D : Ro) (p q : Option Addr) (c d h : Nat) (w : World) (hD : OkP D) (hh : h < D.n) (hI : RoIn w w.heap.size D p q) :
    Calls Try.prog 38 #[.agg #[.slice p D.n c, .slice q D.m d], .int .i64 (h : Int)] w fun e w' => e = .returned (.tuple #[.int .i64 (gvR D h), .int .i64 (gvE D h)]) ∧ Below w.heap.size w w' := by
  obtain ⟨w1, x1, hw1, hb1, hz1, F0, F1, _⟩ := box_ro w p q D.n D.m c d
  have HB := Lib.hid hb1
  have HI : Hid (∀ x : Ext w1, RoIn x.v x.v.heap.size D p q) := fun x => (hI.bel hb1).bel x.b
  have HO := Lib.hid (Ro.ok_iff.2 hD)
  have HH := Lib.hid (show within (h : Int) 0 ((D.n : Int) - 1) = true from within_tt (by omega) (by omega))
  have hn8 := hD.n; have hm6 := hD.m
  have hhi : (h : Int) < (D.n : Int) := by omega
  have j0 : ((0 : Int) != 0) = false := by decide
  obtain ⟨b, o, rfl, _, _⟩ := (HI.out x1).rm (by omega)
  have R0 : ∀ y : Ext w1, y.v.cell? ⟨b, o + h, none⟩ = some (.int .i64 (D.rm h)) := fun y => ((HI.out y).rm.cell hh).2
  by_cases h6 : D.rm h = 6
  · have e1 : gvR D h = 0 := if_pos h6
    have e2 : gvE D h = 2 := if_pos h6
    rw [e1, e2]
    have j6 : (D.rm h == 6) = true := by simpa using h6
    rw [h6] at R0
    clear hb1 hz1 hI hD h6 e1 e2 j6
    go_enter Try.func38, Try.ntmps38
    go_wp2
    refine quiet_e (by kernel_rfl) (by kernel_rfl) ?_
    repeat (first | go_big_quiet_step ((first | (go_at_call 80; exact quiet_x (isHour_is HH.out _)) | (go_at_call 77; exact quiet_x (check_is (chk_ok HO.out) _ (by unfold maxLen; omega) (by unfold maxLen; omega) (HI.out _))))) | quiet_step ((first | (go_at_call 80; exact quiet_x (isHour_is HH.out _)) | (go_at_call 77; exact quiet_x (check_is (chk_ok HO.out) _ (by unfold maxLen; omega) (by unfold maxLen; omega) (HI.out _))))))
    refine wpQuiet_nil ?_
    intro w6 hw6
    obtain ⟨y, rfl⟩ := hw6
    go_wp2
    go_ret2
    exact ⟨rfl, bT HB.out y.b⟩
  · have HGB := Lib.hid (fun y : Ext w1 => givenBy_any D (some ⟨b, o, none⟩) q c d h y.v hD hh h6 (HI.out y))
    have HR1 : Hid (gvR D h = gvV D h) := if_neg h6
    have HR2 : Hid (gvE D h = exE D) := if_neg h6
    rw [HR1.out, HR2.out]
    have HON := Lib.hid (fun w => orNone_int (gvV D h) (exB D) w)
    have e3 : (if exB D then gvV D h else 0) = gvV D h := by unfold gvV; cases exB D <;> rfl
    have e4 : (if exB D then 0 else 3) = exE D := rfl
    rw [e3, e4] at HON
    obtain ⟨v, hv⟩ : ∃ v, gvV D h = v := ⟨_, rfl⟩
    obtain ⟨ee, hee⟩ : ∃ v, exE D = v := ⟨_, rfl⟩
    obtain ⟨bb, hbb⟩ : ∃ v, exB D = v := ⟨_, rfl⟩
    rw [hv, hbb] at HGB; rw [hv, hee, hbb] at HON
    rw [hv, hee]
    have j6 : (D.rm h == 6) = false := by simpa using h6
    clear hb1 hz1 hI hD h6 e3 e4 hv hee hbb
    go_enter Try.func38, Try.ntmps38
    go_wp2
    refine quiet_e (by kernel_rfl) (by kernel_rfl) ?_
    repeat (first | go_big_quiet_step ((first | (go_at_call 80; exact quiet_x (isHour_is HH.out _)) | (go_at_call 77; exact quiet_x (check_is (chk_ok HO.out) _ (by unfold maxLen; omega) (by unfold maxLen; omega) (HI.out _))))) | quiet_step ((first | (go_at_call 80; exact quiet_x (isHour_is HH.out _)) | (go_at_call 77; exact quiet_x (check_is (chk_ok HO.out) _ (by unfold maxLen; omega) (by unfold maxLen; omega) (HI.out _))))))
    refine wpQuiet_nil ?_
    intro w6 hw6
    obtain ⟨y, rfl⟩ := hw6
    go_wp2_with fail
    refine (quiet_x (HGB.out _)).mono ?_
    rintro e w' ⟨rfl, y2, rfl⟩
    go_wp2_with fail
    refine (HON.out _).mono ?_
    rintro e w' ⟨rfl, rfl⟩
    go_wp2
    go_ret2
    exact ⟨rfl, bT HB.out y2.b⟩
end Go.Proofs.Ytegkgfiaegpihaa
