/- The path of gaugings to a stretch, of the program and of the specification. -/
import Derived.Test.YtkdlppekjjbgoaaG14

import Derived.Test.YtkdlppekjjbgoaaC3

set_option linter.unusedSimpArgs false

set_option linter.unusedVariables false

namespace Go.Proofs.Ytkdlppekjjbgoaa

open Go.RowKit

theorem path_len {D : Duct} {s : Nat} (hm : D.m ≤ 7) : (path D s).length ≤ 6 := by
  have := pL_len (D := D) (s := s) (n := D.m) (f := 0) (t := D.m)
  unfold path; omega
theorem numL_ownC {w : World} {base : Nat} {v : Value} {l : List Nat} {n : Nat} (h : w.ownsRow base 3 1 v n (rowL l)) (hn : n = l.length) : ∃ p c, v = .slice p n c ∧ NumIn w w.heap.size n (atL l) p ∧ n ≤ c := by
  obtain ⟨p, c, rfl, hnum⟩ := numL_own h hn
  refine ⟨p, c, rfl, hnum, ?_⟩
  rcases h.2 with ⟨_, h0⟩ | ⟨g, cap, cur, hv, _, _, hnc, _⟩
  · omega
  · cases hv; exact hnc
/-- the same list of numbers, with one more -/
theorem rowL_more {done : List Nat} {x : Nat} : rowL done ++ [.int .i64 (x : Int)] = rowL (done ++ [x]) := rowL_snoc done x
theorem pL_next {D : Duct} {s f t p : Nat} {done : List Nat} {all : List Nat} (h : f + 1 < t) (hp : NX D f t = (p : Int)) (hd : done ++ pL D s (t - f) f t = all) (p1 : f < p) (p2 : p < t) :
    (s < p → (done ++ [p]) ++ pL D s (p - f) f p = all) ∧ (¬ s < p → (done ++ [p]) ++ pL D s (t - p) p t = all) := by
  obtain ⟨n, hn⟩ : ∃ n, t - f = n + 1 := ⟨t - f - 1, by omega⟩
  rw [hn, pL_step h hp] at hd
  refine ⟨fun hs => ?_, fun hs => ?_⟩
  · rw [if_pos hs] at hd
    rw [List.append_assoc, List.singleton_append, pL_fuel (n := p - f) (m := n) (f := f) (t := p) (by omega) (by omega)]
    exact hd
  · rw [if_neg hs] at hd
    rw [List.append_assoc, List.singleton_append, pL_fuel (n := t - p) (m := n) (f := p) (t := t) (by omega) (by omega)]
    exact hd
set_option maxRecDepth 100000 in
set_option maxHeartbeats 4000000 in
theorem pathC_any (D : Duct) (cb s : Nat) (w : World) (hs : s < D.m) (hm7 : D.m ≤ 7) (hT : TabIn w cb (PV D 0)) :
    Calls Try.prog 85 #[.pointer (some ⟨cb, 0, none⟩), .int .i64 (s : Int), .int .i64 (D.m : Int)] w fun e w' => ∃ y c', e = .returned (.slice y (path D s).length c') ∧ Below w.heap.size w w' ∧ NumIn w' w'.heap.size (path D s).length (atL (path D s)) y ∧ (path D s).length ≤ c' := by
  obtain ⟨i0, hi0, hz0, hz1, hz2⟩ := info_parts infoI
  have I1 := Lib.hid hi0; have I2 := Lib.hid hz0; have I3 := Lib.hid hz1; have I4 := Lib.hid hz2; clear hi0 hz0 hz1 hz2
  have HT := Lib.hid hT; have HM := Lib.hid hm7; have HS := Lib.hid hs
  have HLEN := Lib.hid (path_len (s := s) hm7)
  have hm8 : (D.m : Int) < 8 := by omega
  obtain ⟨zw, hzw⟩ := rebase w
  clear hT hm7 hs
  go_enter Try.func85, Try.ntmps85
  have HZW := Lib.hid hzw
  rw [hzw]; clear hzw
  go_wp2
  go_loopw [7, 8, 9] (fun v a b wr => ∃ (f t : Nat) (done : List Nat), a = .int .i64 (f : Int) ∧ b = .int .i64 (t : Int) ∧ f < t ∧ t ≤ D.m ∧ done ++ pL D s (t - f) f t = path D s ∧ ∃ z : Ext w, wr = z.v ∧ z.v.ownsRow w.heap.size 3 1 v done.length (rowL done)) (fun _ a b _ => (intOf b).toNat - (intOf a).toNat)
  case atStart => exact ⟨0, D.m, [], rfl, rfl, by have := HS.out; omega, Nat.le_refl _, rfl, zw, rfl, World.ownsRow_nil _ _ _ _⟩
  case round =>
    obtain ⟨f, t, done, rfl, rfl, hft, htm, hd, z, rfl, ho⟩ := hrel
    have HO := Lib.hid ho; have HD := Lib.hid hd; have HTM := Lib.hid htm
    have t7 : t ≤ 7 := by have := HM.out; omega
    clear ho hd htm
    have hw1 : IntKind.i64.wrap ((t : Int) - (f : Int)) = (t : Int) - (f : Int) := IntWalk.i64_in _ (by omega)
    by_cases hlt : f + 1 < t
    · have d1 : decide (1 < (t : Int) - (f : Int)) = true := by simp; omega
      obtain ⟨p, hp, p1, p2⟩ := NX_in (D := D) hlt
      have hnx := pL_next hlt hp HD.out p1 p2
      have HNX := Lib.hid hnx
      have j1 : (f : Int) < 7 := by omega
      have j2 : (t : Int) < 8 := by omega
      have C0 : ∀ z : Ext w, z.v.cell? ⟨cb, f * 16 + t * 2, none⟩ = some (.int .i64 (p : Int)) := fun z => by
        have := (HT.out.bel z.b).c0 f t (by omega) (by omega)
        rw [this, PV_tt HTM.out]
        show some (Value.int .i64 (NX D f t)) = _
        rw [hp]
      have hdl : done.length ≤ 6 := by
        have h1 := congrArg List.length HD.out
        rw [List.length_append] at h1
        have := HLEN.out; omega
      have HDL := Lib.hid hdl
      have HLT := Lib.hid hlt; have HP := Lib.hid (And.intro p1 p2)
      clear hnx hp hdl hlt
      by_cases hsp : s < p
      · have d2 : decide ((s : Int) < (p : Int)) = true := by simp; omega
        go_wp2_with (at_builtin; refine wpList_append_own _ rfl _ _ 23 rfl w.heap.size 3 i0 _ 1 8 Try.underlying23 I1.out I2.out I3.out I4.out rfl (by decide) _ _ _ rfl (HO.out.alloc _) ⟨z.v.heap.size, 0, none⟩ 1 1 [.int .i64 (p : Int)] rfl rfl (lit_cells1 _ _ _) ?c2 ?c3 ?c4 ?c5 ?_)
        case c2 => simp [Value.oneCell']
        case c3 => have := HDL.out; unfold maxLen; omega
        case c4 => have := HDL.out; omega
        case c5 => have := z.b.size; first | omega | (simp; omega)
        intro v' w4 hown hgrow _
        have HB4 := Lib.hid (below_grown (bA z.b _) (HO.out.alloc _) (Nat.le_refl _) hgrow)
        have HOW := Lib.hid hown
        clear hown hgrow
        go_wp2
        go_roundw
        case rel => exact ⟨f, p, done ++ [p], rfl, rfl, p1, by have := HTM.out; omega, HNX.out.1 hsp, ⟨w4, HB4.out⟩, rfl, by rw [List.length_append]; rw [← rowL_more]; exact HOW.out⟩
        case measure => have := HP.out; first | (simp [intOf]; done) | (simp [intOf]; omega)
      · have d2 : decide ((s : Int) < (p : Int)) = false := by simp; omega
        go_wp2_with (at_builtin; refine wpList_append_own _ rfl _ _ 23 rfl w.heap.size 3 i0 _ 1 8 Try.underlying23 I1.out I2.out I3.out I4.out rfl (by decide) _ _ _ rfl (HO.out.alloc _) ⟨z.v.heap.size, 0, none⟩ 1 1 [.int .i64 (p : Int)] rfl rfl (lit_cells1 _ _ _) ?c2 ?c3 ?c4 ?c5 ?_)
        case c2 => simp [Value.oneCell']
        case c3 => have := HDL.out; unfold maxLen; omega
        case c4 => have := HDL.out; omega
        case c5 => have := z.b.size; first | omega | (simp; omega)
        intro v' w4 hown hgrow _
        have HB4 := Lib.hid (below_grown (bA z.b _) (HO.out.alloc _) (Nat.le_refl _) hgrow)
        have HOW := Lib.hid hown
        clear hown hgrow
        go_wp2
        go_roundw
        case rel => exact ⟨p, t, done ++ [p], rfl, rfl, p2, HTM.out, HNX.out.2 hsp, ⟨w4, HB4.out⟩, rfl, by rw [List.length_append]; rw [← rowL_more]; exact HOW.out⟩
        case measure => have := HP.out; first | (simp [intOf]; done) | (simp [intOf]; omega)
    · have d1 : decide (1 < (t : Int) - (f : Int)) = false := by simp; omega
      have hall : done = path D s := by
        have := HD.out
        rw [pL_one (by omega), List.append_nil] at this; exact this
      obtain ⟨pr, cr, rfl, hnum, hcap⟩ := numL_ownC HO.out rfl
      have HN := Lib.hid hnum; have HA := Lib.hid hall; have HCAP := Lib.hid hcap
      clear hnum hall hlt hcap
      go_wp2
      go_ret
      exact ⟨pr, cr, by rw [← HA.out]; rfl, by rw [← HZW.out]; exact z.b, by rw [← HA.out]; exact HN.out, by rw [← HA.out]; exact HCAP.out⟩
set_option maxRecDepth 100000 in
set_option maxHeartbeats 4000000 in
theorem pathTo_any (D : Duct) (p q : Option Addr) (c d s : Nat) (w : World) (hs : s < D.m) (hok : D.ok = true) (hi : DuctIn w w.heap.size D p q) :
    Calls Try.prog 67 #[.agg #[.slice p D.n c, .slice q D.m d], .int .i64 (s : Int)] w fun e w' => ∃ y c', e = .returned (.slice y (path D s).length c') ∧ Below w.heap.size w w' ∧ NumIn w' w'.heap.size (path D s).length (atL (path D s)) y ∧ (path D s).length ≤ c' := by
  have hm7 := (D.ok_parts hok).1
  have hnm := (D.ok_parts hok).2.1
  have HCO := Lib.hid (co_bd hok); have HNM := Lib.hid hnm; have HS := Lib.hid hs
  have hn : D.n ≤ 40 := by omega
  obtain ⟨w1, x1, hw1, hb1, hz1, F0, F1⟩ := box_line w p q D.n D.m c d
  have HB := Lib.hid hb1
  have HI : Hid (∀ x : Ext w1, DuctIn x.v x.v.heap.size D p q) := fun x => (hi.bel hb1).bel x.b
  clear hb1 hz1 hi hok hnm hs
  go_enter Try.func67, Try.ntmps67
  go_wp2
  refine wp_region_lastE 7 (by kernel_rfl) rfl (fun yr => ?_)
  refine wpAnyG_take (i := 0) (v := ?_) (by kernel_rfl) rfl (by kernel_rfl) (by kernel_rfl) (by kernel_rfl) (fun _ _ _ h => h) (Or.inl ⟨by rfl, ?_⟩) ⟨_, rfl⟩ ?_
  rotate_left
  · rintro wS ⟨yS, rfl⟩
    go_simp
    try (with_reducible rfl)
  try simp only [Act.put, List.setIfInBounds_toArray, List.set_cons_zero, List.set_cons_succ]
  refine wpAnyG_take (i := 2) (v := ?_) (by kernel_rfl) rfl (by kernel_rfl) (by kernel_rfl) (by kernel_rfl) (fun _ _ _ h => h) (Or.inl ⟨by rfl, ?_⟩) ⟨_, rfl⟩ ?_
  rotate_left
  · rintro wS ⟨yS, rfl⟩
    go_simp
    try (with_reducible rfl)
  try simp only [Act.put, List.setIfInBounds_toArray, List.set_cons_zero, List.set_cons_succ]
  refine wpAnyG_take (i := 3) (v := ?_) (by kernel_rfl) rfl (by kernel_rfl) (by kernel_rfl) (by kernel_rfl) (fun _ _ _ h => h) (Or.inl ⟨by rfl, ?_⟩) ⟨_, rfl⟩ ?_
  rotate_left
  · rintro wS ⟨yS, rfl⟩
    go_simp
    try (with_reducible rfl)
  try simp only [Act.put, List.setIfInBounds_toArray, List.set_cons_zero, List.set_cons_succ]
  refine wpAnyG_take (i := 4) (v := ?_) (by kernel_rfl) rfl (by kernel_rfl) (by kernel_rfl) (by kernel_rfl) (fun _ _ _ h => h) (Or.inl ⟨by rfl, ?_⟩) ⟨_, rfl⟩ ?_
  rotate_left
  · rintro wS ⟨yS, rfl⟩
    go_simp
    try (with_reducible rfl)
  try simp only [Act.put, List.setIfInBounds_toArray, List.set_cons_zero, List.set_cons_succ]
  refine wpAnyG_take (i := 5) (v := ?_) (by kernel_rfl) rfl (by kernel_rfl) (by kernel_rfl) (by kernel_rfl) (fun _ _ _ h => h) (Or.inl ⟨by rfl, ?_⟩) ⟨_, rfl⟩ ?_
  rotate_left
  · rintro wS ⟨yS, rfl⟩
    go_simp
    try (with_reducible rfl)
  try simp only [Act.put, List.setIfInBounds_toArray, List.set_cons_zero, List.set_cons_succ]
  refine wpAnyG_one (i := 1) (by kernel_rfl) (by decide) (wpOp_plain rfl rfl ?_)
  go_simp
  go_at_call 66
  refine (atWorst_any D p q c d _ hn hm7 HNM.out HCO.out (HI.out _)).mono ?_
  rintro e w' ⟨cb, rfl, hb, ht⟩
  have HT := Lib.hid ht
  obtain ⟨y3, rfl⟩ : ∃ z : Ext w1, w' = z.v := ⟨⟨w', bT (Ext.b _) hb⟩, rfl⟩
  clear hb ht
  refine ⟨⟨_, rfl⟩, ?_⟩
  try simp only [Act.put, List.setIfInBounds_toArray, List.set_cons_zero, List.set_cons_succ]
  refine wpAnyG_one (i := 6) (by kernel_rfl) (by decide) (wpOp_plain rfl rfl ?_)
  go_simp
  go_at_call 85
  refine (pathC_any D cb s _ HS.out hm7 HT.out).mono ?_
  rintro e w' ⟨yl, cl, rfl, hb, hnum, hcap⟩
  have HN := Lib.hid hnum; have HCAP := Lib.hid hcap
  obtain ⟨y4, rfl⟩ : ∃ z : Ext w1, w' = z.v := ⟨⟨w', bT (Ext.b _) hb⟩, rfl⟩
  clear hb hnum hcap
  refine ⟨⟨_, rfl⟩, ?_⟩
  try simp only [Act.put, List.setIfInBounds_toArray, List.set_cons_zero, List.set_cons_succ]
  refine wpAnyG_done (by kernel_rfl) (by kernel_rfl) (wpOp_plain rfl rfl ?_)
  go_simp
  go_wp2
  go_ret
  exact ⟨yl, cl, rfl, bT HB.out y4.b, HN.out, HCAP.out⟩
end Go.Proofs.Ytkdlppekjjbgoaa
