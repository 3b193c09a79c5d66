/- DowsersLess, the main way. -/
import Derived.Test.YtaaocomgmacjnaaB4

set_option linter.unusedSimpArgs false

set_option linter.unusedVariables false

namespace Go.Proofs.Ytaaocomgmacjnaa

open Go.RowKit

theorem resay_in {w2 wd : World} {B : Book} {b1 b2 j : Nat} {s : Say} (h : BookIn w2 w2.heap.size B (some ⟨b1, 0, none⟩) (some ⟨b2, 0, none⟩)) (hj : j < B.S.length) (h0 : wd.cell? ⟨b2, j * 4, none⟩ = some (.int .i64 s.d)) (h1 : wd.cell? ⟨b2, j * 4 + 1, none⟩ = some (.int .i64 s.p)) (h2 : wd.cell? ⟨b2, j * 4 + 2, none⟩ = some (.int .i64 s.l)) (h3 : wd.cell? ⟨b2, j * 4 + 3, none⟩ = some (.int .i64 s.h))
    (ho : ∀ i, i ≠ j * 4 + 2 → i ≠ j * 4 + 3 → wd.cell? ⟨b2, i, none⟩ = w2.cell? ⟨b2, i, none⟩) (hf : ∀ i, wd.cell? ⟨b1, i, none⟩ = w2.cell? ⟨b1, i, none⟩) (hs : w2.heap.size ≤ wd.heap.size) : BookIn wd wd.heap.size (B.resay j s) (some ⟨b1, 0, none⟩) (some ⟨b2, 0, none⟩) := by
  refine ⟨fun hF => ?_, fun _ => ?_⟩
  · obtain ⟨b, o, e, hi⟩ := h.f hF
    simp only [Option.some.injEq, Addr.mk.injEq] at e
    obtain ⟨rfl, rfl, _⟩ := e
    exact ⟨b1, 0, rfl, ⟨by have := hi.lt; omega, fun k hk => (hf _).trans (hi.cell k hk)⟩⟩
  · obtain ⟨b, o, e, hl, hi⟩ := h.s (by omega)
    simp only [Option.some.injEq, Addr.mk.injEq] at e
    obtain ⟨rfl, rfl, _⟩ := e
    have hlen : (B.resay j s).S.length = B.S.length := by simp [Book.resay]
    have hat : ∀ k, (hk : k < (B.resay j s).S.length) → (B.resay j s).S[k] = if j = k then s else B.S[k]'(by omega) := fun k hk => by simp [Book.resay, List.getElem_set]
    refine ⟨b2, 0, rfl, by omega, ⟨fun k hk => ?_, fun k hk => ?_, fun k hk => ?_, fun k hk => ?_⟩⟩ <;> rw [hat k hk, Nat.zero_add] <;> by_cases e : j = k
    · subst e; rw [if_pos rfl]; exact h0
    · rw [if_neg e, ho _ (by omega) (by omega)]; have := hi.c0 k (by omega); rwa [Nat.zero_add] at this
    · subst e; rw [if_pos rfl]; exact h1
    · rw [if_neg e, ho _ (by omega) (by omega)]; have := hi.c1 k (by omega); rwa [Nat.zero_add] at this
    · subst e; rw [if_pos rfl]; exact h2
    · rw [if_neg e, ho _ (by omega) (by omega)]; have := hi.c2 k (by omega); rwa [Nat.zero_add] at this
    · subst e; rw [if_pos rfl]; exact h3
    · rw [if_neg e, ho _ (by omega) (by omega)]; have := hi.c3 k (by omega); rwa [Nat.zero_add] at this

theorem say_vals {B : Book} {j : Nat} (h : B.ok = true) (hj : j < B.S.length) : hitV B j = hit B B.S[j] ∧ askErr B.ok (B.isSay j) = 0 ∧ scV B B.S[j].d = scTo B B.F.length B.S[j].d.toNat ∧ askErr B.ok (B.isDow B.S[j].d) = 0 ∧
    (B.at B.S[j].p ≠ 0 → ptsV B j = pts B B.S[j] (B.at B.S[j].p) ∧ ptsErr B j = 0) := by
  have his : B.isSay j = true := within_iff.2 ⟨by omega, by omega⟩
  have hsay : B.say j = B.S[j] := B.say_eq hj
  obtain ⟨⟨d0, d1⟩, _⟩ := B.ok_say h hj
  have hdw : B.isDow B.S[j].d = true := within_iff.2 ⟨d0, d1⟩
  refine ⟨?_, ?_, ?_, ?_, fun h0 => ⟨?_, ?_⟩⟩
  · unfold hitV; rw [h, his, hsay]; rfl
  · rw [h, his]; rfl
  · unfold scV; rw [h, hdw]; rfl
  · rw [h, hdw]; rfl
  · have hop : ptsOpen B j = false := by unfold ptsOpen; rw [hsay]; simp [h0]
    unfold ptsV; rw [h, his, hop, hsay]; rfl
  · have hop : ptsOpen B j = false := by unfold ptsOpen; rw [hsay]; simp [h0]
    unfold ptsErr; rw [h, his, hop]; rfl
/-- what both books say of the saying -/
theorem both {B B' : Book} {j : Nat} {x : Say} {u v : Int} (h1 : B.ok = true) (h2 : B'.ok = true) (hS : B.S.length ≤ 40) (hj : j < B.S.length) (hx : B.S[j] = x) (e : B.resay j ⟨x.d, x.p, x.l + u, x.h - v⟩ = B') (hu : 0 ≤ u) (hv : 0 ≤ v) :
    askErr B.ok (B.isSay j) = 0 ∧ askErr B'.ok (B'.isSay j) = 0 ∧ askErr B.ok (B.isDow x.d) = 0 ∧ askErr B'.ok (B'.isDow x.d) = 0 ∧
    ((hitV B j = 3 ∧ hitV B' j = 3) ∨ (hitV B j = 1 ∧ hitV B' j = 2) ∨
     (((hitV B j = 1 ∧ hitV B' j = 1) ∨ (hitV B j = 2 ∧ hitV B' j = 2)) ∧ ptsErr B j = 0 ∧ ptsErr B' j = 0 ∧ ptsV B' j = ptsV B j + u + v ∧ -12 ≤ ptsV B j ∧ ptsV B j ≤ 12 ∧
      scV B' x.d = scV B x.d + u + v ∧ -480 ≤ scV B x.d ∧ scV B x.d ≤ 480)) := by
  subst hx
  have hj' : j < B'.S.length := by rw [← e]; simpa [Book.resay] using hj
  have hx' : B'.S[j] = ⟨B.S[j].d, B.S[j].p, B.S[j].l + u, B.S[j].h - v⟩ := by subst e; simp [Book.resay]
  obtain ⟨a0, a1, a2, a3, a4⟩ := say_vals h1 hj
  obtain ⟨c0, c1, c2, c3, c4⟩ := say_vals h2 hj'
  rw [hx'] at c0 c2 c3 c4
  have hat : B'.at B.S[j].p = B.at B.S[j].p := by subst e; rfl
  have hlen : B'.F.length = B.F.length := by subst e; rfl
  have hpt : ∀ s f, pts B' s f = pts B s f := fun s f => by subst e; rfl
  simp only [hat, hlen, hpt] at c0 c2 c3 c4
  refine ⟨a1, c1, a3, c3, ?_⟩
  have hh : hit B' ⟨B.S[j].d, B.S[j].p, B.S[j].l + u, B.S[j].h - v⟩ = if B.at B.S[j].p = 0 then 3 else if within (B.at B.S[j].p) (B.S[j].l + u) (B.S[j].h - v) then 1 else 2 := by unfold hit; simp only [hat]
  rw [hh] at c0
  unfold hit at a0
  by_cases h0 : B.at B.S[j].p = 0
  · rw [if_pos h0] at a0 c0; exact .inl ⟨a0, c0⟩
  · rw [if_neg h0] at a0 c0
    have go : within (B.at B.S[j].p) B.S[j].l B.S[j].h = within (B.at B.S[j].p) (B.S[j].l + u) (B.S[j].h - v) → ptsErr B j = 0 ∧ ptsErr B' j = 0 ∧ ptsV B' j = ptsV B j + u + v ∧ -12 ≤ ptsV B j ∧ ptsV B j ≤ 12 ∧ scV B' B.S[j].d = scV B B.S[j].d + u + v ∧ -480 ≤ scV B B.S[j].d ∧ scV B B.S[j].d ≤ 480 := fun hw => by
      have hb := pts_bd h1 hj (B.at B.S[j].p)
      have hsm := sc_small h1 hS B.S[j].d.toNat
      have hns := narrow_score h1 hj (by rw [e]; exact h2) hu hv h0 hw
      rw [e] at hns
      refine ⟨(a4 h0).2, (c4 h0).2, ?_, ?_, ?_, ?_, ?_, ?_⟩
      · rw [(c4 h0).1, (a4 h0).1]; exact narrow_pts hu hv hw
      · rw [(a4 h0).1]; exact hb.1
      · rw [(a4 h0).1]; exact hb.2
      · rw [c2, a2]; exact hns
      · rw [a2]; exact hsm.1
      · rw [a2]; exact hsm.2
    cases g1 : within (B.at B.S[j].p) B.S[j].l B.S[j].h with
    | true =>
      rw [g1] at a0
      cases g2 : within (B.at B.S[j].p) (B.S[j].l + u) (B.S[j].h - v) with
      | true => rw [g2] at c0; exact .inr (.inr ⟨.inl ⟨a0, c0⟩, go (g1.trans g2.symm)⟩)
      | false => rw [g2] at c0; exact .inr (.inl ⟨a0, c0⟩)
    | false =>
      have g2 : within (B.at B.S[j].p) (B.S[j].l + u) (B.S[j].h - v) = false := by
        rw [within_tf] at g1 ⊢; simp at g1 ⊢; omega
      rw [g1] at a0; rw [g2] at c0
      exact .inr (.inr ⟨.inr ⟨a0, c0⟩, go (g1.trans g2.symm)⟩)

set_option maxRecDepth 100000 in
set_option maxHeartbeats 8000000 in
theorem less_main (B : Book) (p q : Option Addr) (c d j : Nat) (u v : Int) (w : World) (hF : B.F.length ≤ 40) (hS : B.S.length ≤ 40) (ht : BookIn w w.heap.size B p q) (hr : (!hugeB B && B.ok) = true) (hj : j < B.S.length) (hu : 0 ≤ u ∧ u ≤ 12) (hv : 0 ≤ v ∧ v ≤ 12) :
    Calls Try.prog 3 #[.agg #[.int .i64 B.D, .slice p B.F.length c, .int .i64 B.N, .slice q B.S.length d, .int .i64 B.P], .int .i64 (j : Int), .agg #[.int .i64 u, .int .i64 v]] w fun e w' => e = .returned (.bool true) ∧ Below w.heap.size w w' := by
  obtain ⟨w1, hw1, hb1, hz1, hx1, y0, y1⟩ := two_boxes w B p q c d u v
  have hok : B.ok = true := by simp only [Bool.and_eq_true] at hr; exact hr.2
  have hn : within (j : Int) 0 ((B.S.length : Int) - 1) = true := within_iff.2 ⟨by omega, by omega⟩
  have hh := ready_any B p q c d w1 (by unfold maxLen; omega) (by unfold maxLen; omega) (ht.bel hb1)
  rw [hr] at hh
  obtain ⟨⟨s0, s1⟩, ⟨s2, s3⟩, ⟨s4, s5⟩, s6, s7⟩ := B.ok_say hok hj
  obtain ⟨⟨t0, t1⟩, _⟩ := B.ok_parts hok
  have hc := fun (V : World) (hV : Below w.heap.size w V) => copy_open B p q c d V (by omega) (by omega) (ht.bel hV) (by omega) (by omega)
  have HC := Lib.hid hc
  have HX1 := Lib.hid hx1; have Y1 := Lib.hid (And.intro y0 y1); have HL1 := Lib.hid (show w.heap.size + 1 < w1.heap.size by omega); have HB1 := Lib.hid hb1; have HR := Lib.hid hh
  have j0 := hx1.c0; have j1 := hx1.c1; have j2 := hx1.c2; have j3 := hx1.c3; have j4 := hx1.c4
  have HS := Lib.hid (show B.S.length ≤ 1000000 by omega)
  obtain ⟨x, hx⟩ : ∃ x, B.S[j] = x := ⟨_, rfl⟩
  rw [hx] at s0 s1 s2 s3 s4 s5 s6 s7
  have HXX := Lib.hid hx; have HLN := Lib.hid (And.intro hF hS)
  have HT := Lib.hid ht
  have HOK := Lib.hid hok
  have jb : decide ((j : Int) < (B.S.length : Int)) = true := by simp; omega
  have i0 : (0 : Int) ≤ (j : Int) := by omega
  have i1 : (j : Int) < (B.S.length : Int) := by omega
  have wl : IntKind.i64.wrap (x.l + u) = x.l + u := IntWalk.i64_in _ (by omega)
  have wh : IntKind.i64.wrap (x.h - v) = x.h - v := IntWalk.i64_in _ (by omega)
  have wl' := IntWalk.wrap64_in (x.l + u) (by omega)
  have wh' := IntWalk.wrap64_in (x.h - v) (by omega)
  clear hb1 hz1 hh hr hF hS ht hx1 hok hc hx
  obtain ⟨mn, hmn, hm1⟩ : ∃ mn, (if v < u then v else u) = mn ∧ decide (mn < 0) = false := ⟨_, rfl, by simp; split <;> omega⟩
  obtain ⟨mx, hmx, hm2⟩ : ∃ mx, (if u < v then v else u) = mx ∧ decide (12 < mx) = false := ⟨_, rfl, by simp; split <;> omega⟩
  go_enter Try.func3, Try.ntmps3
  go_wp2_with (first
    | (go_at_call 9; refine HR.out.mono ?_; rintro e w2 ⟨rfl, hb2⟩; go_must (have hx2 := HX1.out.below hb2; clear j0 j1 j2 j3 j4 y0 y1; have j0 := hx2.c0; have j1 := hx2.c1; have j2 := hx2.c2; have j3 := hx2.c3; have j4 := hx2.c4; have y0 := (hb2.cell HL1.out).trans Y1.out.1; have y1 := (hb2.cell HL1.out).trans Y1.out.2; have HX2 := Lib.hid hx2; have Y2 := Lib.hid (And.intro y0 y1); have HL2 := Lib.hid (Nat.lt_of_lt_of_le HL1.out hb2.size); have HB2 := Lib.hid (bT HB1.out hb2); clear hx2 hb2))
    | (go_at_call 10; refine (isSayingR_any _ _ _ _ _ _ _ _ _ HS.out).mono ?_; rintro e w3 ⟨rfl, hb3⟩; go_must (have hx3 := HX2.out.below hb3; clear j0 j1 j2 j3 j4 y0 y1; have j0 := hx3.c0; have j1 := hx3.c1; have j2 := hx3.c2; have j3 := hx3.c3; have j4 := hx3.c4; have y0 := (hb3.cell HL2.out).trans Y2.out.1; have y1 := (hb3.cell HL2.out).trans Y2.out.2; have HX3 := Lib.hid hx3; have Y3 := Lib.hid (And.intro y0 y1); have HL3 := Lib.hid (Nat.lt_of_lt_of_le HL2.out hb3.size); have HB3 := Lib.hid (bT HB2.out hb3); clear hx3 hb3))
    | (go_at_call 12; refine (HC.out _ HB3.out).mono ?_; rintro e w4 ⟨p', c', q', d', rfl, hb4, hk4, b1, b2, rfl, rfl, l1, l2, l3, fz1, l4, fz2⟩; go_must (have hx4 := HX3.out.below hb4; clear j0 j1 j2 j3 j4 y0 y1; have j0 := hx4.c0; have j1 := hx4.c1; have j2 := hx4.c2; have j3 := hx4.c3; have j4 := hx4.c4; have y0 := (hb4.cell HL3.out).trans Y3.out.1; have y1 := (hb4.cell HL3.out).trans Y3.out.2; have HX4 := Lib.hid hx4; have Y4 := Lib.hid (And.intro y0 y1); have HL4 := Lib.hid (Nat.lt_of_lt_of_le HL3.out hb4.size); have HB4 := Lib.hid (bT HB3.out hb4); have HW4 := Lib.hid hb4.size; have HK4 := Lib.hid hk4; clear hx4 hb4 hk4)))
  obtain ⟨w5, hw5, hb5, hz5, hx5⟩ := box_book w4 B (some ⟨b1, 0, none⟩) (some ⟨b2, 0, none⟩) c' d'
  try rw [hw5]
  clear hmn hmx hm1 hm2 j0 j1 j2 j3 j4
  obtain ⟨b0', o0', ee, hbl, hsn⟩ := HK4.out.s (by omega)
  simp only [Option.some.injEq, Addr.mk.injEq] at ee
  obtain ⟨rfl, rfl, _⟩ := ee
  have e0 := hsn.c0 j hj
  have e1 := hsn.c1 j hj
  have e2 := hsn.c2 j hj
  have e3 := hsn.c3 j hj
  rw [HXX.out, Nat.zero_add] at e0 e1 e2 e3
  have q0 := (hb5.cell l4).trans e0
  have q1 := (hb5.cell l4).trans e1
  have q2 := (hb5.cell l4).trans e2
  have q3 := (hb5.cell l4).trans e3
  have n0 := (hb5.cell HL4.out).trans Y4.out.1
  have n1 := (hb5.cell HL4.out).trans Y4.out.2
  have z3 := hx5.c3
  have z4 := hx5.lt
  have fz : ∀ i, w5.frozen? ⟨b2, i, none⟩ = false := fun i => (hb5.frozen l4).trans (fz2 i)
  have zb : b2 < w5.heap.size := by omega
  have g1 : w.heap.size + 1 ≠ b2 := by have := HB3.out.size; have := HB2.out; have := HL3.out; omega
  have g2 : w4.heap.size ≠ b2 := by omega
  clear hsn e0 e1 e2 e3 fz1 fz2 y0 y1
  refine wp_region_last (fun w' => w'.cell? ⟨w4.heap.size, 3, none⟩ = some (.slice (some ⟨b2, 0, none⟩) B.S.length d') ∧ w'.cell? ⟨b2, j * 4 + 2, none⟩ = some (.int .i64 x.l) ∧ w'.cell? ⟨w.heap.size + 1, 0, none⟩ = some (.int .i64 u)) 11 (by kernel_rfl) rfl (⟨z3, q2, n0⟩) (fun hHeld => ?_)
  refine wpAnyG_take (i := 0) (v := ?_) (by kernel_rfl) rfl (by kernel_rfl) (by kernel_rfl) (by kernel_rfl) (fun _ _ _ h => h) (Or.inl ⟨by rfl, ?_⟩) (by assumption) ?_
  rotate_left
  · intro wS hSw
    (try dsimp only at hSw)
    go_simp
    try (with_reducible rfl)
  try simp only [Act.put, List.setIfInBounds_toArray, List.set_cons_zero, List.set_cons_succ]
  refine wpAnyG_take (i := 1) (v := ?_) (by kernel_rfl) rfl (by kernel_rfl) (by kernel_rfl) (by kernel_rfl) (fun _ _ _ h => h) (Or.inl ⟨by rfl, ?_⟩) (by assumption) ?_
  rotate_left
  · intro wS hSw
    (try dsimp only at hSw)
    go_simp
    try (with_reducible rfl)
  try simp only [Act.put, List.setIfInBounds_toArray, List.set_cons_zero, List.set_cons_succ]
  refine wpAnyG_take (i := 2) (v := ?_) (by kernel_rfl) rfl (by kernel_rfl) (by kernel_rfl) (by kernel_rfl) (fun _ _ _ h => h) (Or.inl ⟨by rfl, ?_⟩) (by assumption) ?_
  rotate_left
  · intro wS hSw
    (try dsimp only at hSw)
    go_simp
    try (with_reducible rfl)
  try simp only [Act.put, List.setIfInBounds_toArray, List.set_cons_zero, List.set_cons_succ]
  refine wpAnyG_take (i := 3) (v := ?_) (by kernel_rfl) rfl (by kernel_rfl) (by kernel_rfl) (by kernel_rfl) (fun _ _ _ h => h) (Or.inl ⟨by rfl, ?_⟩) (by assumption) ?_
  rotate_left
  · intro wS hSw
    (try dsimp only at hSw)
    go_simp
    try (with_reducible rfl)
  try simp only [Act.put, List.setIfInBounds_toArray, List.set_cons_zero, List.set_cons_succ]
  refine wpAnyG_take (i := 4) (v := ?_) (by kernel_rfl) rfl (by kernel_rfl) (by kernel_rfl) (by kernel_rfl) (fun _ _ _ h => h) (Or.inl ⟨by rfl, ?_⟩) (by assumption) ?_
  rotate_left
  · intro wS hSw
    (try dsimp only at hSw)
    go_simp
    try (with_reducible rfl)
  try simp only [Act.put, List.setIfInBounds_toArray, List.set_cons_zero, List.set_cons_succ]
  refine wpAnyG_take (i := 5) (v := ?_) (by kernel_rfl) rfl (by kernel_rfl) (by kernel_rfl) (by kernel_rfl) (fun _ _ _ h => h) (Or.inl ⟨by rfl, ?_⟩) (by assumption) ?_
  rotate_left
  · intro wS hSw
    (try dsimp only at hSw)
    go_simp
    try (with_reducible rfl)
  try simp only [Act.put, List.setIfInBounds_toArray, List.set_cons_zero, List.set_cons_succ]
  refine wpAnyG_take (i := 6) (v := ?_) (by kernel_rfl) rfl (by kernel_rfl) (by kernel_rfl) (by kernel_rfl) (fun _ _ _ h => h) (Or.inl ⟨by rfl, ?_⟩) (by assumption) ?_
  rotate_left
  · intro wS hSw
    (try dsimp only at hSw)
    go_simp
    try (with_reducible rfl)
  try simp only [Act.put, List.setIfInBounds_toArray, List.set_cons_zero, List.set_cons_succ]
  refine wpAnyG_take (i := 7) (v := ?_) (by kernel_rfl) rfl (by kernel_rfl) (by kernel_rfl) (by kernel_rfl) (fun _ _ _ h => h) (Or.inl ⟨by rfl, ?_⟩) (by assumption) ?_
  rotate_left
  · intro wS hSw
    (try dsimp only at hSw)
    go_simp
    try (with_reducible rfl)
  try simp only [Act.put, List.setIfInBounds_toArray, List.set_cons_zero, List.set_cons_succ]
  refine wpAnyG_take (i := 8) (v := ?_) (by kernel_rfl) rfl (by kernel_rfl) (by kernel_rfl) (by kernel_rfl) (fun _ _ _ h => h) (Or.inl ⟨by rfl, ?_⟩) (by assumption) ?_
  rotate_left
  · intro wS hSw
    (try dsimp only at hSw)
    go_simp
    try (with_reducible rfl)
  try simp only [Act.put, List.setIfInBounds_toArray, List.set_cons_zero, List.set_cons_succ]
  refine wpAnyG_take (i := 9) (v := ?_) (by kernel_rfl) rfl (by kernel_rfl) (by kernel_rfl) (by kernel_rfl) (fun _ _ _ h => h) (Or.inl ⟨by rfl, ?_⟩) (by assumption) ?_
  rotate_left
  · intro wS hSw
    (try dsimp only at hSw)
    go_simp
    try (with_reducible rfl)
  try simp only [Act.put, List.setIfInBounds_toArray, List.set_cons_zero, List.set_cons_succ]
  refine wpAnyG_take (i := 10) (v := ?_) (by kernel_rfl) rfl (by kernel_rfl) (by kernel_rfl) (by kernel_rfl) (fun _ _ _ h => h) (Or.inl ⟨by rfl, ?_⟩) (by assumption) ?_
  rotate_left
  · intro wS hSw
    (try dsimp only at hSw)
    go_simp
    try (with_reducible rfl)
  try simp only [Act.put, List.setIfInBounds_toArray, List.set_cons_zero, List.set_cons_succ]
  refine wpAnyG_done (by kernel_rfl) (by kernel_rfl) (wpOp_plain rfl rfl ?_)
  go_simp
  go_wp2
  obtain ⟨w6, hw6⟩ : ∃ w6, (w5.setCell ⟨b2, j * 4 + 2, none⟩ (.int .i64 (x.l + u))).drew = w6 := ⟨_, rfl⟩
  rw [hw6]
  have o6 : ∀ b i, ¬ (b = b2 ∧ i = j * 4 + 2) → w6.cell? ⟨b, i, none⟩ = w5.cell? ⟨b, i, none⟩ := fun b i h => by rw [← hw6]; exact World.cell?_setCell_other _ _ _ _ (by intro e; simp only [Addr.mk.injEq] at e; exact h ⟨e.1.symm, e.2.1.symm⟩)
  have v2 : w6.cell? ⟨b2, j * 4 + 2, none⟩ = some (.int .i64 (x.l + u)) := by rw [← hw6]; exact World.cell?_setCell_same _ _ _ q2
  have zz6 : w6.heap.size = w5.heap.size := by rw [← hw6]; simp
  have fz6 : ∀ i, w6.frozen? ⟨b2, i, none⟩ = false := fun i => by rw [← hw6]; simpa using fz i
  have v0 := (o6 b2 (j * 4) (by omega)).trans q0
  have v1 := (o6 b2 (j * 4 + 1) (by omega)).trans q1
  have v3 := (o6 b2 (j * 4 + 3) (by omega)).trans q3
  have u3 := (o6 w4.heap.size 3 (by omega)).trans z3
  have m1 := (o6 (w.heap.size + 1) 1 (by omega)).trans n1
  have zb6 : b2 < w6.heap.size := by omega
  have HB5 := Lib.hid (bT HB4.out hb5)
  have HB6 := Lib.hid (show Below w.heap.size w w6 from hw6 ▸ bd (bS HB5.out (by have := HB3.out.size; simp; omega) _))
  clear z3 q0 q1 q2 q3 n0 fz
  refine wp_region_last (fun w' => w'.cell? ⟨w4.heap.size, 3, none⟩ = some (.slice (some ⟨b2, 0, none⟩) B.S.length d') ∧ w'.cell? ⟨b2, j * 4 + 3, none⟩ = some (.int .i64 x.h) ∧ w'.cell? ⟨w.heap.size + 1, 1, none⟩ = some (.int .i64 v)) 11 (by kernel_rfl) rfl (⟨u3, v3, m1⟩) (fun hHeld => ?_)
  refine wpAnyG_take (i := 0) (v := ?_) (by kernel_rfl) rfl (by kernel_rfl) (by kernel_rfl) (by kernel_rfl) (fun _ _ _ h => h) (Or.inl ⟨by rfl, ?_⟩) (by assumption) ?_
  rotate_left
  · intro wS hSw
    (try dsimp only at hSw)
    go_simp
    try (with_reducible rfl)
  try simp only [Act.put, List.setIfInBounds_toArray, List.set_cons_zero, List.set_cons_succ]
  refine wpAnyG_take (i := 1) (v := ?_) (by kernel_rfl) rfl (by kernel_rfl) (by kernel_rfl) (by kernel_rfl) (fun _ _ _ h => h) (Or.inl ⟨by rfl, ?_⟩) (by assumption) ?_
  rotate_left
  · intro wS hSw
    (try dsimp only at hSw)
    go_simp
    try (with_reducible rfl)
  try simp only [Act.put, List.setIfInBounds_toArray, List.set_cons_zero, List.set_cons_succ]
  refine wpAnyG_take (i := 2) (v := ?_) (by kernel_rfl) rfl (by kernel_rfl) (by kernel_rfl) (by kernel_rfl) (fun _ _ _ h => h) (Or.inl ⟨by rfl, ?_⟩) (by assumption) ?_
  rotate_left
  · intro wS hSw
    (try dsimp only at hSw)
    go_simp
    try (with_reducible rfl)
  try simp only [Act.put, List.setIfInBounds_toArray, List.set_cons_zero, List.set_cons_succ]
  refine wpAnyG_take (i := 3) (v := ?_) (by kernel_rfl) rfl (by kernel_rfl) (by kernel_rfl) (by kernel_rfl) (fun _ _ _ h => h) (Or.inl ⟨by rfl, ?_⟩) (by assumption) ?_
  rotate_left
  · intro wS hSw
    (try dsimp only at hSw)
    go_simp
    try (with_reducible rfl)
  try simp only [Act.put, List.setIfInBounds_toArray, List.set_cons_zero, List.set_cons_succ]
  refine wpAnyG_take (i := 4) (v := ?_) (by kernel_rfl) rfl (by kernel_rfl) (by kernel_rfl) (by kernel_rfl) (fun _ _ _ h => h) (Or.inl ⟨by rfl, ?_⟩) (by assumption) ?_
  rotate_left
  · intro wS hSw
    (try dsimp only at hSw)
    go_simp
    try (with_reducible rfl)
  try simp only [Act.put, List.setIfInBounds_toArray, List.set_cons_zero, List.set_cons_succ]
  refine wpAnyG_take (i := 5) (v := ?_) (by kernel_rfl) rfl (by kernel_rfl) (by kernel_rfl) (by kernel_rfl) (fun _ _ _ h => h) (Or.inl ⟨by rfl, ?_⟩) (by assumption) ?_
  rotate_left
  · intro wS hSw
    (try dsimp only at hSw)
    go_simp
    try (with_reducible rfl)
  try simp only [Act.put, List.setIfInBounds_toArray, List.set_cons_zero, List.set_cons_succ]
  refine wpAnyG_take (i := 6) (v := ?_) (by kernel_rfl) rfl (by kernel_rfl) (by kernel_rfl) (by kernel_rfl) (fun _ _ _ h => h) (Or.inl ⟨by rfl, ?_⟩) (by assumption) ?_
  rotate_left
  · intro wS hSw
    (try dsimp only at hSw)
    go_simp
    try (with_reducible rfl)
  try simp only [Act.put, List.setIfInBounds_toArray, List.set_cons_zero, List.set_cons_succ]
  refine wpAnyG_take (i := 7) (v := ?_) (by kernel_rfl) rfl (by kernel_rfl) (by kernel_rfl) (by kernel_rfl) (fun _ _ _ h => h) (Or.inl ⟨by rfl, ?_⟩) (by assumption) ?_
  rotate_left
  · intro wS hSw
    (try dsimp only at hSw)
    go_simp
    try (with_reducible rfl)
  try simp only [Act.put, List.setIfInBounds_toArray, List.set_cons_zero, List.set_cons_succ]
  refine wpAnyG_take (i := 8) (v := ?_) (by kernel_rfl) rfl (by kernel_rfl) (by kernel_rfl) (by kernel_rfl) (fun _ _ _ h => h) (Or.inl ⟨by rfl, ?_⟩) (by assumption) ?_
  rotate_left
  · intro wS hSw
    (try dsimp only at hSw)
    go_simp
    try (with_reducible rfl)
  try simp only [Act.put, List.setIfInBounds_toArray, List.set_cons_zero, List.set_cons_succ]
  refine wpAnyG_take (i := 9) (v := ?_) (by kernel_rfl) rfl (by kernel_rfl) (by kernel_rfl) (by kernel_rfl) (fun _ _ _ h => h) (Or.inl ⟨by rfl, ?_⟩) (by assumption) ?_
  rotate_left
  · intro wS hSw
    (try dsimp only at hSw)
    go_simp
    try (with_reducible rfl)
  try simp only [Act.put, List.setIfInBounds_toArray, List.set_cons_zero, List.set_cons_succ]
  refine wpAnyG_take (i := 10) (v := ?_) (by kernel_rfl) rfl (by kernel_rfl) (by kernel_rfl) (by kernel_rfl) (fun _ _ _ h => h) (Or.inl ⟨by rfl, ?_⟩) (by assumption) ?_
  rotate_left
  · intro wS hSw
    (try dsimp only at hSw)
    go_simp
    try (with_reducible rfl)
  try simp only [Act.put, List.setIfInBounds_toArray, List.set_cons_zero, List.set_cons_succ]
  refine wpAnyG_done (by kernel_rfl) (by kernel_rfl) (wpOp_plain rfl rfl ?_)
  go_simp
  obtain ⟨w7, hw7⟩ : ∃ w7, (w6.setCell ⟨b2, j * 4 + 3, none⟩ (.int .i64 (x.h - v))).drew = w7 := ⟨_, rfl⟩
  rw [hw7]
  have o7 : ∀ b i, ¬ (b = b2 ∧ i = j * 4 + 3) → w7.cell? ⟨b, i, none⟩ = w6.cell? ⟨b, i, none⟩ := fun b i h => by rw [← hw7]; exact World.cell?_setCell_other _ _ _ _ (by intro e; simp only [Addr.mk.injEq] at e; exact h ⟨e.1.symm, e.2.1.symm⟩)
  have y3 : w7.cell? ⟨b2, j * 4 + 3, none⟩ = some (.int .i64 (x.h - v)) := by rw [← hw7]; exact World.cell?_setCell_same _ _ _ v3
  have zz7 : w7.heap.size = w6.heap.size := by rw [← hw7]; simp
  have hB7 : Below w.heap.size w w7 := hw7 ▸ bd (bS HB6.out (by have := HB3.out.size; simp; omega) _)
  have oo : ∀ b i, b ≠ b2 → w7.cell? ⟨b, i, none⟩ = w5.cell? ⟨b, i, none⟩ := fun b i h => (o7 b i (by omega)).trans (o6 b i (by omega))
  have hbook5 := HK4.out.bel hb5
  have hU7 : BookIn w7 w7.heap.size (B.resay j ⟨x.d, x.p, x.l + u, x.h - v⟩) (some ⟨b1, 0, none⟩) (some ⟨b2, 0, none⟩) :=
    resay_in hbook5 hj ((o7 b2 (j * 4) (by omega)).trans v0) ((o7 b2 (j * 4 + 1) (by omega)).trans v1) ((o7 b2 (j * 4 + 2) (by omega)).trans v2) y3
      (fun i h1 h2 => (o7 b2 i (by omega)).trans (o6 b2 i (by omega))) (fun i => oo b1 i (by omega)) (by omega)
  have h7 : TwoB w.heap.size w4.heap.size B p q (some ⟨b1, 0, none⟩) (some ⟨b2, 0, none⟩) c d c' d' w7 := by
    have h := HX4.out.below hb5
    have l0 : w.heap.size ≠ b2 := by have := HL3.out; have := HB3.out; omega
    exact ⟨(oo _ 0 l0).trans h.c0, (oo _ 1 l0).trans h.c1, (oo _ 2 l0).trans h.c2, (oo _ 3 l0).trans h.c3, (oo _ 4 l0).trans h.c4,
      (oo _ 0 g2).trans hx5.c0, (oo _ 1 g2).trans hx5.c1, (oo _ 2 g2).trans hx5.c2, (oo _ 3 g2).trans hx5.c3, (oo _ 4 g2).trans hx5.c4, by have := h.lt; omega, by omega⟩
  have nn0 := (oo (w.heap.size + 1) 0 g1).trans ((hb5.cell HL4.out).trans Y4.out.1)
  have nn1 := (oo (w.heap.size + 1) 1 g1).trans ((hb5.cell HL4.out).trans Y4.out.2)
  have hF := HLN.out.1
  have hS := HLN.out.2
  obtain ⟨B', hB', hD', hFl', hN', hSl', hP'⟩ : ∃ B', B.resay j ⟨x.d, x.p, x.l + u, x.h - v⟩ = B' ∧ B'.D = B.D ∧ B'.F.length = B.F.length ∧ B'.N = B.N ∧ B'.S.length = B.S.length ∧ B'.P = B.P := ⟨_, rfl, rfl, rfl, rfl, by simp [Book.resay], rfl⟩
  rw [hB'] at hU7
  have HU7 := Lib.hid hU7; have H7 := Lib.hid h7; have HB7 := Lib.hid hB7; have NN := Lib.hid (And.intro nn0 nn1)
  have hRD : ∀ (V : World) (p' q' : Option Addr) (c' d' : Nat), BookIn V V.heap.size B' p' q' → Calls Try.prog 9 #[.agg #[.int .i64 B.D, .slice p' B.F.length c', .int .i64 B.N, .slice q' B.S.length d', .int .i64 B.P]] V fun e w' => e = .returned (.bool (!hugeB B' && B'.ok)) ∧ Below V.heap.size V w' := fun V p' q' c' d' hb => by
    have t := ready_any B' p' q' c' d' V (by unfold maxLen; omega) (by unfold maxLen; omega) hb
    rw [hD', hFl', hN', hSl', hP'] at t
    exact t
  have HRD := Lib.hid hRD
  have j0 := h7.t0; have j1 := h7.t1; have j2 := h7.t2; have j3 := h7.t3; have j4 := h7.t4; have mm0 := h7.q0; have mm1 := h7.q1; have mm2 := h7.q2; have mm3 := h7.q3; have mm4 := h7.q4; have HT7 := Lib.hid (HT.out.bel hB7); have LN7 := Lib.hid (show w.heap.size + 1 < w7.heap.size by have := HL4.out; have := hb5.size; omega); have y0 := nn0; have y1 := nn1; have NN7 := Lib.hid (And.intro nn0 nn1)
  clear hRD hU7 h7 hB7 nn0 nn1 oo o6 o7 v0 v1 v2 v3 u3 m1 y3 zz6 zz7 zb6 fz6 hbook5 hx5 z4 zb g1 g2
  cases hr2 : (!hugeB B' && B'.ok) with
  | false =>
    rw [hr2] at HRD
    go_wp2_with (first
      | (go_at_call 9; refine (HRD.out _ _ _ _ _ HU7.out).mono ?_; rintro e w8 ⟨rfl, hb8⟩; go_must (have HB8 := Lib.hid (bT HB7.out hb8); clear hb8))
      | (go_at_call 11; refine (works_ex _).mono ?_; rintro e w9 ⟨rfl, hb9⟩; go_must (have HBW := Lib.hid (bT HB8.out hb9); clear hb9)))
    go_ret
    exact ⟨rfl, HBW.out⟩
  | true =>
    rw [hr2] at HRD
    have h2ok : B'.ok = true := by simp only [Bool.and_eq_true] at hr2; exact hr2.2
    obtain ⟨v1, v2, v3, v4, hcase⟩ := both HOK.out h2ok hS hj HXX.out hB' hu.1 hv.1
    have hHB := fun (V : World) (p q : Option Addr) (c d : Nat) (hb : BookIn V V.heap.size B p q) => hitP_any B p q c d j V (by omega) (by omega) hb
    have hPB := fun (V : World) (p q : Option Addr) (c d : Nat) (hb : BookIn V V.heap.size B p q) => pointsP_any B p q c d j V (by omega) (by omega) hb
    have hSB := fun (V : World) (p q : Option Addr) (c d : Nat) (hb : BookIn V V.heap.size B p q) => scoreP_any B p q c d x.d V (by omega) (by omega) hb
    have hHO : ∀ (V : World) (p' q' : Option Addr) (c' d' : Nat), BookIn V V.heap.size B' p' q' → Calls Try.prog 13 #[.agg #[.int .i64 B.D, .slice p' B.F.length c', .int .i64 B.N, .slice q' B.S.length d', .int .i64 B.P], .int .i64 (j : Int)] V fun e w' => e = .returned (.tuple #[.int .i64 (hitV B' j), .int .i64 (askErr B'.ok (B'.isSay j))]) ∧ Below V.heap.size V w' := fun V p' q' c' d' hb => by
      have t := hitP_any B' p' q' c' d' j V (by omega) (by omega) hb
      rw [hD', hFl', hN', hSl', hP'] at t
      exact t
    have hPO : ∀ (V : World) (p' q' : Option Addr) (c' d' : Nat), BookIn V V.heap.size B' p' q' → Calls Try.prog 14 #[.agg #[.int .i64 B.D, .slice p' B.F.length c', .int .i64 B.N, .slice q' B.S.length d', .int .i64 B.P], .int .i64 (j : Int)] V fun e w' => e = .returned (.tuple #[.int .i64 (ptsV B' j), .int .i64 (ptsErr B' j)]) ∧ Below V.heap.size V w' := fun V p' q' c' d' hb => by
      have t := pointsP_any B' p' q' c' d' j V (by omega) (by omega) hb
      rw [hD', hFl', hN', hSl', hP'] at t
      exact t
    have hSO : ∀ (V : World) (p' q' : Option Addr) (c' d' : Nat), BookIn V V.heap.size B' p' q' → Calls Try.prog 15 #[.agg #[.int .i64 B.D, .slice p' B.F.length c', .int .i64 B.N, .slice q' B.S.length d', .int .i64 B.P], .int .i64 x.d] V fun e w' => e = .returned (.tuple #[.int .i64 (scV B' x.d), .int .i64 (askErr B'.ok (B'.isDow x.d))]) ∧ Below V.heap.size V w' := fun V p' q' c' d' hb => by
      have t := scoreP_any B' p' q' c' d' x.d V (by omega) (by omega) hb
      rw [hD', hFl', hN', hSl', hP'] at t
      exact t
    rw [v1] at hHB; rw [v2] at hHO; rw [v3] at hSB; rw [v4] at hSO
    clear v1 v2 v3 v4
    rcases hcase with ⟨ka, kb⟩ | ⟨ka, kb⟩ | ⟨hab, k1, k2, k3, k4, k5, k6, k7, k8⟩
    · rw [ka] at hHB; rw [kb] at hHO
      have HHB := Lib.hid hHB; have HHO := Lib.hid hHO
      clear hHB hHO hPB hPO hSB hSO ka kb
      go_wp2_with fail
      refine (HRD.out _ _ _ _ _ HU7.out).mono ?_; rintro e w8 ⟨rfl, hb8⟩
      have h8 := H7.out.below hb8; clear j0 j1 j2 j3 j4 mm0 mm1 mm2 mm3 mm4 y0 y1; have j0 := h8.t0; have j1 := h8.t1; have j2 := h8.t2; have j3 := h8.t3; have j4 := h8.t4; have mm0 := h8.q0; have mm1 := h8.q1; have mm2 := h8.q2; have mm3 := h8.q3; have mm4 := h8.q4; have y0 := (hb8.cell LN7.out).trans NN7.out.1; have y1 := (hb8.cell LN7.out).trans NN7.out.2; have NN8 := Lib.hid (And.intro y0 y1); have LN8 := Lib.hid (Nat.lt_of_lt_of_le LN7.out hb8.size); have H8 := Lib.hid h8; have HB8 := Lib.hid (bT HB7.out hb8); have HT8 := Lib.hid (HT7.out.bel hb8); have HU8 := Lib.hid (HU7.out.bel hb8); clear hb8 h8
      go_wp2_with fail
      refine (HHB.out _ _ _ _ _ HT8.out).mono ?_; rintro e w9 ⟨rfl, hb9⟩
      have h9 := H8.out.below hb9; clear j0 j1 j2 j3 j4 mm0 mm1 mm2 mm3 mm4 y0 y1; have j0 := h9.t0; have j1 := h9.t1; have j2 := h9.t2; have j3 := h9.t3; have j4 := h9.t4; have mm0 := h9.q0; have mm1 := h9.q1; have mm2 := h9.q2; have mm3 := h9.q3; have mm4 := h9.q4; have y0 := (hb9.cell LN8.out).trans NN8.out.1; have y1 := (hb9.cell LN8.out).trans NN8.out.2; have NN9 := Lib.hid (And.intro y0 y1); have LN9 := Lib.hid (Nat.lt_of_lt_of_le LN8.out hb9.size); have H9 := Lib.hid h9; have HB9 := Lib.hid (bT HB8.out hb9); have HT9 := Lib.hid (HT8.out.bel hb9); have HU9 := Lib.hid (HU8.out.bel hb9); clear hb9 h9
      go_wp2_with fail
      refine (HHO.out _ _ _ _ _ HU9.out).mono ?_; rintro e w10 ⟨rfl, hb10⟩
      have h10 := H9.out.below hb10; clear j0 j1 j2 j3 j4 mm0 mm1 mm2 mm3 mm4 y0 y1; have j0 := h10.t0; have j1 := h10.t1; have j2 := h10.t2; have j3 := h10.t3; have j4 := h10.t4; have mm0 := h10.q0; have mm1 := h10.q1; have mm2 := h10.q2; have mm3 := h10.q3; have mm4 := h10.q4; have y0 := (hb10.cell LN9.out).trans NN9.out.1; have y1 := (hb10.cell LN9.out).trans NN9.out.2; have NN10 := Lib.hid (And.intro y0 y1); have LN10 := Lib.hid (Nat.lt_of_lt_of_le LN9.out hb10.size); have H10 := Lib.hid h10; have HB10 := Lib.hid (bT HB9.out hb10); have HT10 := Lib.hid (HT9.out.bel hb10); have HU10 := Lib.hid (HU9.out.bel hb10); clear hb10 h10
      go_wp2_with fail
      refine (works_ex _).mono ?_; rintro e w19 ⟨rfl, hb19⟩
      have HBW := Lib.hid (bT HB10.out hb19); clear hb19
      go_wp2_with fail
      go_ret
      exact ⟨rfl, HBW.out⟩
    · rw [ka] at hHB; rw [kb] at hHO
      have HHB := Lib.hid hHB; have HHO := Lib.hid hHO
      clear hHB hHO hPB hPO hSB hSO ka kb
      go_wp2_with fail
      refine (HRD.out _ _ _ _ _ HU7.out).mono ?_; rintro e w8 ⟨rfl, hb8⟩
      have h8 := H7.out.below hb8; clear j0 j1 j2 j3 j4 mm0 mm1 mm2 mm3 mm4 y0 y1; have j0 := h8.t0; have j1 := h8.t1; have j2 := h8.t2; have j3 := h8.t3; have j4 := h8.t4; have mm0 := h8.q0; have mm1 := h8.q1; have mm2 := h8.q2; have mm3 := h8.q3; have mm4 := h8.q4; have y0 := (hb8.cell LN7.out).trans NN7.out.1; have y1 := (hb8.cell LN7.out).trans NN7.out.2; have NN8 := Lib.hid (And.intro y0 y1); have LN8 := Lib.hid (Nat.lt_of_lt_of_le LN7.out hb8.size); have H8 := Lib.hid h8; have HB8 := Lib.hid (bT HB7.out hb8); have HT8 := Lib.hid (HT7.out.bel hb8); have HU8 := Lib.hid (HU7.out.bel hb8); clear hb8 h8
      go_wp2_with fail
      refine (HHB.out _ _ _ _ _ HT8.out).mono ?_; rintro e w9 ⟨rfl, hb9⟩
      have h9 := H8.out.below hb9; clear j0 j1 j2 j3 j4 mm0 mm1 mm2 mm3 mm4 y0 y1; have j0 := h9.t0; have j1 := h9.t1; have j2 := h9.t2; have j3 := h9.t3; have j4 := h9.t4; have mm0 := h9.q0; have mm1 := h9.q1; have mm2 := h9.q2; have mm3 := h9.q3; have mm4 := h9.q4; have y0 := (hb9.cell LN8.out).trans NN8.out.1; have y1 := (hb9.cell LN8.out).trans NN8.out.2; have NN9 := Lib.hid (And.intro y0 y1); have LN9 := Lib.hid (Nat.lt_of_lt_of_le LN8.out hb9.size); have H9 := Lib.hid h9; have HB9 := Lib.hid (bT HB8.out hb9); have HT9 := Lib.hid (HT8.out.bel hb9); have HU9 := Lib.hid (HU8.out.bel hb9); clear hb9 h9
      go_wp2_with fail
      refine (HHO.out _ _ _ _ _ HU9.out).mono ?_; rintro e w10 ⟨rfl, hb10⟩
      have h10 := H9.out.below hb10; clear j0 j1 j2 j3 j4 mm0 mm1 mm2 mm3 mm4 y0 y1; have j0 := h10.t0; have j1 := h10.t1; have j2 := h10.t2; have j3 := h10.t3; have j4 := h10.t4; have mm0 := h10.q0; have mm1 := h10.q1; have mm2 := h10.q2; have mm3 := h10.q3; have mm4 := h10.q4; have y0 := (hb10.cell LN9.out).trans NN9.out.1; have y1 := (hb10.cell LN9.out).trans NN9.out.2; have NN10 := Lib.hid (And.intro y0 y1); have LN10 := Lib.hid (Nat.lt_of_lt_of_le LN9.out hb10.size); have H10 := Lib.hid h10; have HB10 := Lib.hid (bT HB9.out hb10); have HT10 := Lib.hid (HT9.out.bel hb10); have HU10 := Lib.hid (HU9.out.bel hb10); clear hb10 h10
      go_wp2_with fail
      refine (works_ex _).mono ?_; rintro e w19 ⟨rfl, hb19⟩
      have HBW := Lib.hid (bT HB10.out hb19); clear hb19
      go_wp2_with fail
      go_ret
      exact ⟨rfl, HBW.out⟩
    · rw [k1] at hPB; rw [k2, k3] at hPO; rw [k6] at hSO
      obtain ⟨M, hM⟩ : ∃ M, ptsV B j = M := ⟨_, rfl⟩
      obtain ⟨Sc, hSc⟩ : ∃ M, scV B x.d = M := ⟨_, rfl⟩
      rw [hM] at hPB hPO k4 k5
      rw [hSc] at hSB hSO k7 k8
      clear hM hSc k1 k2 k3 k6
      have HPB := Lib.hid hPB; have HPO := Lib.hid hPO; have HSB := Lib.hid hSB; have HSO := Lib.hid hSO
      clear hPB hPO hSB hSO
      have M1 : IntKind.i64.wrap (M + u) = M + u := IntWalk.i64_in _ (by omega)
      have M2 : IntKind.i64.wrap (M + u + v) = M + u + v := IntWalk.i64_in _ (by omega)
      have S1 : IntKind.i64.wrap (Sc + u) = Sc + u := IntWalk.i64_in _ (by omega)
      have S2 : IntKind.i64.wrap (Sc + u + v) = Sc + u + v := IntWalk.i64_in _ (by omega)
      have jm1 : decide (-100 < M) = true := by simp; omega
      have jm2 : decide (M < 100) = true := by simp; omega
      have jp1 : decide (-1000 < Sc) = true := by simp; omega
      have jp2 : decide (Sc < 1000) = true := by simp; omega
      rcases hab with ⟨ka, kb⟩ | ⟨ka, kb⟩
      all_goals
        rw [ka] at hHB; rw [kb] at hHO
        have HHB := Lib.hid hHB; have HHO := Lib.hid hHO
        clear hHB hHO ka kb
        go_wp2_with fail
        refine (HRD.out _ _ _ _ _ HU7.out).mono ?_; rintro e w8 ⟨rfl, hb8⟩
        have h8 := H7.out.below hb8; clear j0 j1 j2 j3 j4 mm0 mm1 mm2 mm3 mm4 y0 y1; have j0 := h8.t0; have j1 := h8.t1; have j2 := h8.t2; have j3 := h8.t3; have j4 := h8.t4; have mm0 := h8.q0; have mm1 := h8.q1; have mm2 := h8.q2; have mm3 := h8.q3; have mm4 := h8.q4; have y0 := (hb8.cell LN7.out).trans NN7.out.1; have y1 := (hb8.cell LN7.out).trans NN7.out.2; have NN8 := Lib.hid (And.intro y0 y1); have LN8 := Lib.hid (Nat.lt_of_lt_of_le LN7.out hb8.size); have H8 := Lib.hid h8; have HB8 := Lib.hid (bT HB7.out hb8); have HT8 := Lib.hid (HT7.out.bel hb8); have HU8 := Lib.hid (HU7.out.bel hb8); clear hb8 h8
        go_wp2_with fail
        refine (HHB.out _ _ _ _ _ HT8.out).mono ?_; rintro e w9 ⟨rfl, hb9⟩
        have h9 := H8.out.below hb9; clear j0 j1 j2 j3 j4 mm0 mm1 mm2 mm3 mm4 y0 y1; have j0 := h9.t0; have j1 := h9.t1; have j2 := h9.t2; have j3 := h9.t3; have j4 := h9.t4; have mm0 := h9.q0; have mm1 := h9.q1; have mm2 := h9.q2; have mm3 := h9.q3; have mm4 := h9.q4; have y0 := (hb9.cell LN8.out).trans NN8.out.1; have y1 := (hb9.cell LN8.out).trans NN8.out.2; have NN9 := Lib.hid (And.intro y0 y1); have LN9 := Lib.hid (Nat.lt_of_lt_of_le LN8.out hb9.size); have H9 := Lib.hid h9; have HB9 := Lib.hid (bT HB8.out hb9); have HT9 := Lib.hid (HT8.out.bel hb9); have HU9 := Lib.hid (HU8.out.bel hb9); clear hb9 h9
        go_wp2_with fail
        refine (HHO.out _ _ _ _ _ HU9.out).mono ?_; rintro e w10 ⟨rfl, hb10⟩
        have h10 := H9.out.below hb10; clear j0 j1 j2 j3 j4 mm0 mm1 mm2 mm3 mm4 y0 y1; have j0 := h10.t0; have j1 := h10.t1; have j2 := h10.t2; have j3 := h10.t3; have j4 := h10.t4; have mm0 := h10.q0; have mm1 := h10.q1; have mm2 := h10.q2; have mm3 := h10.q3; have mm4 := h10.q4; have y0 := (hb10.cell LN9.out).trans NN9.out.1; have y1 := (hb10.cell LN9.out).trans NN9.out.2; have NN10 := Lib.hid (And.intro y0 y1); have LN10 := Lib.hid (Nat.lt_of_lt_of_le LN9.out hb10.size); have H10 := Lib.hid h10; have HB10 := Lib.hid (bT HB9.out hb10); have HT10 := Lib.hid (HT9.out.bel hb10); have HU10 := Lib.hid (HU9.out.bel hb10); clear hb10 h10
        go_wp2_with fail
        refine (HPB.out _ _ _ _ _ HT10.out).mono ?_; rintro e w11 ⟨rfl, hb11⟩
        have h11 := H10.out.below hb11; clear j0 j1 j2 j3 j4 mm0 mm1 mm2 mm3 mm4 y0 y1; have j0 := h11.t0; have j1 := h11.t1; have j2 := h11.t2; have j3 := h11.t3; have j4 := h11.t4; have mm0 := h11.q0; have mm1 := h11.q1; have mm2 := h11.q2; have mm3 := h11.q3; have mm4 := h11.q4; have y0 := (hb11.cell LN10.out).trans NN10.out.1; have y1 := (hb11.cell LN10.out).trans NN10.out.2; have NN11 := Lib.hid (And.intro y0 y1); have LN11 := Lib.hid (Nat.lt_of_lt_of_le LN10.out hb11.size); have H11 := Lib.hid h11; have HB11 := Lib.hid (bT HB10.out hb11); have HT11 := Lib.hid (HT10.out.bel hb11); have HU11 := Lib.hid (HU10.out.bel hb11); clear hb11 h11
        go_wp2_with fail
        refine (HPO.out _ _ _ _ _ HU11.out).mono ?_; rintro e w12 ⟨rfl, hb12⟩
        have h12 := H11.out.below hb12; clear j0 j1 j2 j3 j4 mm0 mm1 mm2 mm3 mm4 y0 y1; have j0 := h12.t0; have j1 := h12.t1; have j2 := h12.t2; have j3 := h12.t3; have j4 := h12.t4; have mm0 := h12.q0; have mm1 := h12.q1; have mm2 := h12.q2; have mm3 := h12.q3; have mm4 := h12.q4; have y0 := (hb12.cell LN11.out).trans NN11.out.1; have y1 := (hb12.cell LN11.out).trans NN11.out.2; have NN12 := Lib.hid (And.intro y0 y1); have LN12 := Lib.hid (Nat.lt_of_lt_of_le LN11.out hb12.size); have H12 := Lib.hid h12; have HB12 := Lib.hid (bT HB11.out hb12); have HT12 := Lib.hid (HT11.out.bel hb12); have HU12 := Lib.hid (HU11.out.bel hb12); clear hb12 h12
        go_wp2_with fail
        obtain ⟨bq, oq, rfl, hbq, hi⟩ := HT12.out.s (by omega)
        have e0 := hi.c0 j hj
        rw [HXX.out] at e0
        clear hi
        have F0 : ∀ y : Ext w12, y.v.cell? ⟨w.heap.size, 0, none⟩ = some (.int .i64 B.D) := fun y => (H12.out.below y.b).t0
        have G0 : ∀ y : Ext w12, y.v.cell? ⟨w4.heap.size, 0, none⟩ = some (.int .i64 B.D) := fun y => (H12.out.below y.b).q0
        have F1 : ∀ y : Ext w12, y.v.cell? ⟨w.heap.size, 1, none⟩ = some (.slice p B.F.length c) := fun y => (H12.out.below y.b).t1
        have G1 : ∀ y : Ext w12, y.v.cell? ⟨w4.heap.size, 1, none⟩ = some (.slice (some ⟨b1, 0, none⟩) B.F.length c') := fun y => (H12.out.below y.b).q1
        have F2 : ∀ y : Ext w12, y.v.cell? ⟨w.heap.size, 2, none⟩ = some (.int .i64 B.N) := fun y => (H12.out.below y.b).t2
        have G2 : ∀ y : Ext w12, y.v.cell? ⟨w4.heap.size, 2, none⟩ = some (.int .i64 B.N) := fun y => (H12.out.below y.b).q2
        have F3 : ∀ y : Ext w12, y.v.cell? ⟨w.heap.size, 3, none⟩ = some (.slice (some ⟨bq, oq, none⟩) B.S.length d) := fun y => (H12.out.below y.b).t3
        have G3 : ∀ y : Ext w12, y.v.cell? ⟨w4.heap.size, 3, none⟩ = some (.slice (some ⟨b2, 0, none⟩) B.S.length d') := fun y => (H12.out.below y.b).q3
        have F4 : ∀ y : Ext w12, y.v.cell? ⟨w.heap.size, 4, none⟩ = some (.int .i64 B.P) := fun y => (H12.out.below y.b).t4
        have G4 : ∀ y : Ext w12, y.v.cell? ⟨w4.heap.size, 4, none⟩ = some (.int .i64 B.P) := fun y => (H12.out.below y.b).q4
        have FE : ∀ y : Ext w12, y.v.cell? ⟨bq, oq + j * 4, none⟩ = some (.int .i64 x.d) := fun y => (y.b.cell hbq).trans e0
        refine quiet_lit (by kernel_rfl) (by kernel_rfl) ?_
        repeat (first | go_big_quiet_step (first | (go_at_call 15; exact quiet_x (HSB.out _ _ _ _ _ (HT12.out.bel (by rename_i y; exact y.b))))) | quiet_step (first | (go_at_call 15; exact quiet_x (HSB.out _ _ _ _ _ (HT12.out.bel (by rename_i y; exact y.b))))))
        refine wpQuiet_nil ?_
        intro w13 hw13
        obtain ⟨⟨w13, hw13⟩, rfl⟩ := hw13
        have HW13 := Lib.hid hw13
        have HU13 := Lib.hid (HU12.out.bel hw13)
        clear hw13
        go_wp2
        have f0 : ∀ y : Ext w13, y.v.cell? ⟨w.heap.size, 0, none⟩ = some (.int .i64 B.D) := fun y => F0 (y.up HW13.out)
        have g0 : ∀ y : Ext w13, y.v.cell? ⟨w4.heap.size, 0, none⟩ = some (.int .i64 B.D) := fun y => G0 (y.up HW13.out)
        have f1 : ∀ y : Ext w13, y.v.cell? ⟨w.heap.size, 1, none⟩ = some (.slice p B.F.length c) := fun y => F1 (y.up HW13.out)
        have g1 : ∀ y : Ext w13, y.v.cell? ⟨w4.heap.size, 1, none⟩ = some (.slice (some ⟨b1, 0, none⟩) B.F.length c') := fun y => G1 (y.up HW13.out)
        have f2 : ∀ y : Ext w13, y.v.cell? ⟨w.heap.size, 2, none⟩ = some (.int .i64 B.N) := fun y => F2 (y.up HW13.out)
        have g2 : ∀ y : Ext w13, y.v.cell? ⟨w4.heap.size, 2, none⟩ = some (.int .i64 B.N) := fun y => G2 (y.up HW13.out)
        have f3 : ∀ y : Ext w13, y.v.cell? ⟨w.heap.size, 3, none⟩ = some (.slice (some ⟨bq, oq, none⟩) B.S.length d) := fun y => F3 (y.up HW13.out)
        have g3 : ∀ y : Ext w13, y.v.cell? ⟨w4.heap.size, 3, none⟩ = some (.slice (some ⟨b2, 0, none⟩) B.S.length d') := fun y => G3 (y.up HW13.out)
        have f4 : ∀ y : Ext w13, y.v.cell? ⟨w.heap.size, 4, none⟩ = some (.int .i64 B.P) := fun y => F4 (y.up HW13.out)
        have g4 : ∀ y : Ext w13, y.v.cell? ⟨w4.heap.size, 4, none⟩ = some (.int .i64 B.P) := fun y => G4 (y.up HW13.out)
        have fE : ∀ y : Ext w13, y.v.cell? ⟨bq, oq + j * 4, none⟩ = some (.int .i64 x.d) := fun y => FE (y.up HW13.out)
        clear F0 F1 F2 F3 F4 G0 G1 G2 G3 G4 FE
        refine quiet_lit (by kernel_rfl) (by kernel_rfl) ?_
        repeat (first | go_big_quiet_step (first | (go_at_call 15; exact quiet_x (HSO.out _ _ _ _ _ (HU13.out.bel (by rename_i y; exact y.b))))) | quiet_step (first | (go_at_call 15; exact quiet_x (HSO.out _ _ _ _ _ (HU13.out.bel (by rename_i y; exact y.b))))))
        refine wpQuiet_nil ?_
        intro w14 hw14
        obtain ⟨⟨w14, hw14⟩, rfl⟩ := hw14
        have hl14 := bT HW13.out hw14
        have yy0 := (hl14.cell LN12.out).trans NN12.out.1
        have yy1 := (hl14.cell LN12.out).trans NN12.out.2
        have HB14 := Lib.hid (bT HB12.out hl14)
        clear hw14 hl14
        go_wp2_with fail
        refine (works_ex _).mono ?_; rintro e w19 ⟨rfl, hb19⟩
        have HBW := Lib.hid (bT HB14.out hb19); clear hb19
        go_wp2_with fail
        go_ret
        exact ⟨rfl, HBW.out⟩
end Go.Proofs.Ytaaocomgmacjnaa
