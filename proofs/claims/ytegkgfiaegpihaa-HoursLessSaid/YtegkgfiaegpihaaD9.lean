/- HoursLess returns true in every walk. -/
import Derived.Test.YtegkgfiaegpihaaF8

import Derived.Test.YtegkgfiaegpihaaC7

import Derived.Test.YtegkgfiaegpihaaK4

set_option linter.unusedSimpArgs false

set_option linter.unusedVariables false

namespace Go.Proofs.Ytegkgfiaegpihaa

open Go.RowKit

theorem isStr4_is {D : Ro} {p q : Option Addr} {c d : Nat} {k : Int} {b : Bool} (h : within k 0 ((D.m : Int) - 1) = b) (hn : D.m ≤ maxLen) (w : World) :
    Calls Try.prog 29 #[.agg #[.slice p D.n c, .slice q D.m d], .int .i64 k] w fun e w' => e = .returned (.bool b) ∧ Below w.heap.size w w' := by
  subst h; exact isStreetR_any D p q c d k w hn
theorem rows_less {D : Ro} {s : Nat} (hs : s < D.m) : rowsS D (fun k => 0 + k) s ++ rowsS D (fun k => s + 1 + k) (D.m - 1 - s) = rowsS D (skp s) (D.m - 1) := by
  rw [rowsS_app, show s + (D.m - 1 - s) = D.m - 1 by omega]
  exact rowsS_congr fun k hk => by
    unfold skp
    split
    · omega
    · omega
set_option maxRecDepth 100000 in
set_option maxHeartbeats 4000000 in
theorem less_o1 (D : Ro) (p q : Option Addr) (c d : Nat) (st : Int) (w : World) (hn : D.n ≤ maxLen) (hm : D.m ≤ maxLen) (hr : rdy D = false) (hi : RoIn w w.heap.size D p q) :
    Calls Try.prog 6 #[.agg #[.slice p D.n c, .slice q D.m d], .int .i64 st] w fun e w' => e = .returned (.bool true) ∧ Below w.heap.size w w' := by
  obtain ⟨w1, x1, hw1, hb1, hz1, F0i, F1i, _⟩ := box_ro w p q D.n D.m c d
  have HW_0 : Hid (∀ z : Ext w1, Below w.heap.size w z.v) := fun z => bT hb1 z.b
  have HI_0 : Hid (∀ z : Ext w1, RoIn z.v z.v.heap.size D p q) := fun z => (hi.bel hb1).bel z.b
  clear hb1 hz1 hi
  have F0_0 : ∀ z : Ext w1, z.v.cell? ⟨w.heap.size, 0, none⟩ = some (.slice p D.n c) := fun z => F0i z
  have F1_0 : ∀ z : Ext w1, z.v.cell? ⟨w.heap.size, 1, none⟩ = some (.slice q D.m d) := fun z => F1i z
  have HR := Lib.hid hr; clear hr
  go_enter Try.func6, Try.ntmps6
  go_wp2_with fail
  refine (quiet_x (ready_is HR.out _ hn hm (HI_0.out _))).mono ?_
  rintro e w' ⟨rfl, y, rfl⟩
  go_wp2_with fail
  refine (quiet_x (works_ex _)).mono ?_
  rintro e w' ⟨rfl, y2, rfl⟩
  go_wp2
  go_ret
  exact ⟨rfl, HW_0.out y2⟩
set_option maxRecDepth 100000 in
set_option maxHeartbeats 4000000 in
theorem less_o2 (D : Ro) (p q : Option Addr) (c d : Nat) (st : Int) (w : World) (hn : D.n ≤ maxLen) (hm : D.m ≤ maxLen) (hr : rdy D = true) (hs : within st 0 ((D.m : Int) - 1) = false) (hi : RoIn w w.heap.size D p q) :
    Calls Try.prog 6 #[.agg #[.slice p D.n c, .slice q D.m d], .int .i64 st] w fun e w' => e = .returned (.bool true) ∧ Below w.heap.size w w' := by
  obtain ⟨w1, x1, hw1, hb1, hz1, F0i, F1i, _⟩ := box_ro w p q D.n D.m c d
  have HW_0 : Hid (∀ z : Ext w1, Below w.heap.size w z.v) := fun z => bT hb1 z.b
  have HI_0 : Hid (∀ z : Ext w1, RoIn z.v z.v.heap.size D p q) := fun z => (hi.bel hb1).bel z.b
  clear hb1 hz1 hi
  have F0_0 : ∀ z : Ext w1, z.v.cell? ⟨w.heap.size, 0, none⟩ = some (.slice p D.n c) := fun z => F0i z
  have F1_0 : ∀ z : Ext w1, z.v.cell? ⟨w.heap.size, 1, none⟩ = some (.slice q D.m d) := fun z => F1i z
  have HR := Lib.hid hr; clear hr
  have HS := Lib.hid hs; clear hs
  go_enter Try.func6, Try.ntmps6
  go_wp2_with fail
  refine (quiet_x (ready_is HR.out _ hn hm (HI_0.out _))).mono ?_
  rintro e w' ⟨rfl, y, rfl⟩
  go_wp2_with fail
  refine (quiet_x (isStr4_is HS.out hm _)).mono ?_
  rintro e w' ⟨rfl, y1, rfl⟩
  go_wp2_with fail
  refine (quiet_x (works_ex _)).mono ?_
  rintro e w' ⟨rfl, y2, rfl⟩
  go_wp2
  go_ret
  exact ⟨rfl, HW_0.out y2⟩
set_option maxRecDepth 100000 in
set_option maxHeartbeats 16000000 in
theorem less_in (D : Ro) (p q : Option Addr) (c d : Nat) (st : Nat) (w : World) (hr : rdy D = true) (hs : st < D.m) (hcap : D.m ≤ d) (hi : RoIn w w.heap.size D p q) :
    Calls Try.prog 6 #[.agg #[.slice p D.n c, .slice q D.m d], .int .i64 (st : Int)] w fun e w' => e = .returned (.bool true) ∧ Below w.heap.size w w' := by
  obtain ⟨w1, x1, hw1, hb1, hz1, F0i, F1i, _⟩ := box_ro w p q D.n D.m c d
  have HW_0 : Hid (∀ z : Ext w1, Below w.heap.size w z.v) := fun z => bT hb1 z.b
  have HI_0 : Hid (∀ z : Ext w1, RoIn z.v z.v.heap.size D p q) := fun z => (hi.bel hb1).bel z.b
  clear hb1 hz1 hi
  have F0_0 : ∀ z : Ext w1, z.v.cell? ⟨w.heap.size, 0, none⟩ = some (.slice p D.n c) := fun z => F0i z
  have F1_0 : ∀ z : Ext w1, z.v.cell? ⟨w.heap.size, 1, none⟩ = some (.slice q D.m d) := fun z => F1i z
  obtain ⟨hn8, hm6, hD, _⟩ := rdy_parts hr
  have HR := Lib.hid hr; have HD := Lib.hid hD
  have hn : D.n ≤ maxLen := by unfold maxLen; omega
  have hm : D.m ≤ maxLen := by unfold maxLen; omega
  have HS := Lib.hid (show within (st : Int) 0 ((D.m : Int) - 1) = true from within_tt (by omega) (by omega))
  have HCP := Lib.hid (fun V hV => copyC_any D p q c d V (by omega) (by omega) hV)
  obtain ⟨i4, hi4, hz4, hz4', hz4''⟩ := info_parts infoS
  have I4 := Lib.hid hi4; have Z4 := Lib.hid hz4; have Z4' := Lib.hid hz4'; have Z4'' := Lib.hid hz4''; clear hi4 hz4 hz4' hz4''
  obtain ⟨b, o, rfl, _, _⟩ := (HI_0.out x1).st (by omega)
  clear hr hD
  go_enter Try.func6, Try.ntmps6
  go_wp2_with fail
  refine (quiet_x (ready_is HR.out _ hn hm (HI_0.out _))).mono ?_
  rintro e w' ⟨rfl, y, rfl⟩
  go_wp2_with fail
  refine (quiet_x (isStr4_is HS.out hm _)).mono ?_
  rintro e w' ⟨rfl, y1, rfl⟩
  go_wp2_with fail
  refine (HCP.out _ (HI_0.out _)).mono ?_
  rintro e w5 ⟨p', c', q', d', rfl, hcp, hcc⟩
  obtain ⟨wo, xo, hwo, hbo, hzo, O0, O1, Of⟩ := box_ro w5 p' q' D.n D.m c' d'
  obtain ⟨ob, hob⟩ : ∃ ob, w5.heap.size = ob := ⟨_, rfl⟩
  rw [hob] at O0 O1 Of
  have hb5 : Below w1.heap.size w1 w5 := bT y1.b hcp.below
  have HXo := Lib.hid (bT hb5 hbo)
  have HOB : Hid (w1.heap.size ≤ ob ∧ ob < wo.heap.size) := by have := hb5.size; exact ⟨by omega, by omega⟩
  have HRM : Hid (∀ y : Ext wo, NumIn y.v y.v.heap.size D.n D.rm p') := fun y => (hcp.here.rm.bel hbo).bel y.b
  have HRB : Hid (∀ g o, 0 < D.n → p' = some ⟨g, o, none⟩ → g ≠ ob) := fun g o h0 e => by
    obtain ⟨g', e', _, l2, _⟩ := hcp.rm h0
    rw [e'] at e; cases e; omega
  have FX0 : ∀ y : Ext wo, y.v.cell? ⟨w.heap.size, 0, none⟩ = some (.slice p D.n c) := fun y => F0_0 (y.up HXo.out)
  have FX1 : ∀ y : Ext wo, y.v.cell? ⟨w.heap.size, 1, none⟩ = some (.slice (some ⟨b, o, none⟩) D.m d) := fun y => F1_0 (y.up HXo.out)
  have HIX : Hid (∀ y : Ext wo, RoIn y.v y.v.heap.size D p (some ⟨b, o, none⟩)) := fun y => HI_0.out (y.up HXo.out)
  clear hcp hcc hbo hb5
  have e1 : IntKind.i64.wrap ((st : Int) + 1) = ((st + 1 : Nat) : Int) := by rw [IntWalk.i64_in _ (by omega)]; omega
  have s1 : st ≤ d := by omega
  have s2 : st + 1 ≤ D.m := by omega
  have s3 : (st : Int) ≤ (d : Int) := by omega
  have s4 : ((st + 1 : Nat) : Int) ≤ (D.m : Int) := by omega
  have s5 : D.m ≤ d := hcap
  have s6 : 0 ≤ (st : Int) + 1 ∧ (st : Int) + 1 ≤ (D.m : Int) := ⟨by omega, by omega⟩
  obtain ⟨ad, had⟩ : ∃ ad, (if d = st + 1 then some (⟨b, o, none⟩ : Addr) else some ⟨b, o + (st + 1) * 4, none⟩) = ad := ⟨_, rfl⟩
  have HAD := Lib.hid (show 0 < D.m - (st + 1) → ad = some ⟨b, o + (st + 1) * 4, none⟩ from fun h => by rw [← had, if_neg (by omega)])
  go_wp2
  try rw [hob]
  clear hwo hob hzo
  refine wp_region_lastE 13 (by kernel_rfl) rfl (fun y0 => ?_)
  refine wpAnyG_take (i := 1) (v := ?_) (by kernel_rfl) rfl (by kernel_rfl) (by kernel_rfl) (by kernel_rfl) (fun _ _ _ h => h) (Or.inl ⟨by rfl, ?_⟩) ⟨_, rfl⟩ ?_
  rotate_left
  · rintro wS ⟨yS, rfl⟩
    go_simp
    try (with_reducible rfl)
  try simp only [Act.put, List.setIfInBounds_toArray, List.set_cons_zero, List.set_cons_succ]
  refine wpAnyG_take (i := 2) (v := ?_) (by kernel_rfl) rfl (by kernel_rfl) (by kernel_rfl) (by kernel_rfl) (fun _ _ _ h => h) (Or.inl ⟨by rfl, ?_⟩) ⟨_, rfl⟩ ?_
  rotate_left
  · rintro wS ⟨yS, rfl⟩
    go_simp
    try (with_reducible rfl)
  try simp only [Act.put, List.setIfInBounds_toArray, List.set_cons_zero, List.set_cons_succ]
  refine wpAnyG_take (i := 3) (v := ?_) (by kernel_rfl) rfl (by kernel_rfl) (by kernel_rfl) (by kernel_rfl) (fun _ _ _ h => h) (Or.inl ⟨by rfl, ?_⟩) ⟨_, rfl⟩ ?_
  rotate_left
  · rintro wS ⟨yS, rfl⟩
    go_simp
    try (with_reducible rfl)
  try simp only [Act.put, List.setIfInBounds_toArray, List.set_cons_zero, List.set_cons_succ]
  refine wpAnyG_take (i := 4) (v := ?_) (by kernel_rfl) rfl (by kernel_rfl) (by kernel_rfl) (by kernel_rfl) (fun _ _ _ h => h) (Or.inl ⟨by rfl, ?_⟩) ⟨_, rfl⟩ ?_
  rotate_left
  · rintro wS ⟨yS, rfl⟩
    go_simp
    try (with_reducible rfl)
  try simp only [Act.put, List.setIfInBounds_toArray, List.set_cons_zero, List.set_cons_succ]
  refine wpAnyG_take (i := 6) (v := ?_) (by kernel_rfl) rfl (by kernel_rfl) (by kernel_rfl) (by kernel_rfl) (fun _ _ _ h => h) (Or.inl ⟨by rfl, ?_⟩) ⟨_, rfl⟩ ?_
  rotate_left
  · rintro wS ⟨yS, rfl⟩
    go_simp
    try (with_reducible rfl)
  try simp only [Act.put, List.setIfInBounds_toArray, List.set_cons_zero, List.set_cons_succ]
  refine wpAnyG_take (i := 7) (v := ?_) (by kernel_rfl) rfl (by kernel_rfl) (by kernel_rfl) (by kernel_rfl) (fun _ _ _ h => h) (Or.inl ⟨by rfl, ?_⟩) ⟨_, rfl⟩ ?_
  rotate_left
  · rintro wS ⟨yS, rfl⟩
    go_simp
    try (with_reducible rfl)
  try simp only [Act.put, List.setIfInBounds_toArray, List.set_cons_zero, List.set_cons_succ]
  refine wpAnyG_take (i := 8) (v := ?_) (by kernel_rfl) rfl (by kernel_rfl) (by kernel_rfl) (by kernel_rfl) (fun _ _ _ h => h) (Or.inl ⟨by rfl, ?_⟩) ⟨_, rfl⟩ ?_
  rotate_left
  · rintro wS ⟨yS, rfl⟩
    go_simp
    try (with_reducible rfl)
  try simp only [Act.put, List.setIfInBounds_toArray, List.set_cons_zero, List.set_cons_succ]
  refine wpAnyG_take (i := 9) (v := ?_) (by kernel_rfl) rfl (by kernel_rfl) (by kernel_rfl) (by kernel_rfl) (fun _ _ _ h => h) (Or.inl ⟨by rfl, ?_⟩) ⟨_, rfl⟩ ?_
  rotate_left
  · rintro wS ⟨yS, rfl⟩
    go_simp
    try (with_reducible rfl)
  try simp only [Act.put, List.setIfInBounds_toArray, List.set_cons_zero, List.set_cons_succ]
  refine wpAnyG_take (i := 10) (v := ?_) (by kernel_rfl) rfl (by kernel_rfl) (by kernel_rfl) (by kernel_rfl) (fun _ _ _ h => h) (Or.inl ⟨by rfl, ?_⟩) ⟨_, rfl⟩ ?_
  rotate_left
  · rintro wS ⟨yS, rfl⟩
    go_simp
    try (with_reducible rfl)
  try simp only [Act.put, List.setIfInBounds_toArray, List.set_cons_zero, List.set_cons_succ]
  clear had
  refine wpAnyG_one (i := 0) (by kernel_rfl) (by decide) (wpOp_plain rfl rfl ?_)
  go_simp
  obtain ⟨g0, hg0⟩ : ∃ g, y0.v.heap.size = g := ⟨_, rfl⟩
  have hown0 := own_lit y0.v wo.heap.size 43 4 y0.b.size
  obtain ⟨y1, hy1, hB1⟩ : ∃ zz : Ext wo, y0.v.alloc (Obj.cells #[] 43) = zz.v ∧ Below y0.v.heap.size y0.v zz.v := ⟨⟨_, bA y0.b _⟩, rfl, bA (Below.refl _ _) _⟩
  rw [hy1, hg0] at hown0
  try rw [hg0]
  try rw [hy1]
  have HO0 := Lib.hid hown0
  clear hown0 hy1 hB1 hg0
  refine ⟨⟨_, rfl⟩, ?_⟩
  try simp only [Act.put, List.setIfInBounds_toArray, List.set_cons_zero, List.set_cons_succ]
  refine wpAnyG_one (i := 5) (by kernel_rfl) (by decide) (wpOp_plain rfl rfl ?_)
  refine wp_append_any rfl (.tmp 30) (.tmp 34) 23 rfl wo.heap.size 43 i4 _ 4 32 Try.underlying23 I4.out Z4.out Z4'.out Z4''.out rfl (by decide) _ 0 [] (by first | (simp [Act.eval, Act.put]; done) | (simp [Act.eval, Act.put]; rfl)) HO0.out (some ⟨b, o, none⟩) st _ (rowsS D (fun k => 0 + k) st) (by first | (simp [Act.eval, Act.put]; done) | (simp [Act.eval, Act.put]; rfl)) (rowsS_len D _ st) (fun _ => ⟨_, rfl, by
    obtain ⟨b', o', e', _, hst⟩ := (HIX.out y1).st (by omega)
    cases e'
    have := rows_src hst (a := 0) (n := st) (by omega)
    rw [Nat.zero_mul, Nat.add_zero] at this
    exact this⟩) rowsS_one (by omega) (by omega) y1.b.size ?_
  intro v5 w6 hown5 hgr5 hnew5
  have hbz := below_grown y1.b HO0.out (Nat.le_refl _) hgr5
  obtain ⟨y2, rfl⟩ : ∃ zz : Ext wo, w6 = zz.v := ⟨⟨w6, hbz⟩, rfl⟩
  rw [List.nil_append, Nat.zero_add] at hown5
  have HO5 := Lib.hid hown5
  clear hown5 hgr5 hnew5 hbz
  refine ⟨⟨_, rfl⟩, ?_⟩
  try simp only [Act.put, List.setIfInBounds_toArray, List.set_cons_zero, List.set_cons_succ]
  refine wpAnyG_one (i := 11) (by kernel_rfl) (by decide) (wpOp_plain rfl rfl ?_)
  refine wp_append_any rfl (.tmp 35) (.tmp 40) 23 rfl wo.heap.size 43 i4 _ 4 32 Try.underlying23 I4.out Z4.out Z4'.out Z4''.out rfl (by decide) v5 st _ (by simp [Act.eval, Act.put]) HO5.out ad (D.m - (st + 1)) _ (rowsS D (fun k => st + 1 + k) (D.m - (st + 1))) (by first | (simp [Act.eval, Act.put]; done) | (simp [Act.eval, Act.put]; rfl)) (rowsS_len D _ _) (fun h0 => ⟨_, HAD.out h0, by
    obtain ⟨b', o', e', _, hst⟩ := (HIX.out y2).st (by omega)
    cases e'
    exact rows_src hst (a := st + 1) (n := D.m - (st + 1)) (by omega)⟩) rowsS_one (by unfold maxLen; omega) (by omega) y2.b.size ?_
  intro v7 w8 hown7 hgr7 hnew7
  have hbz := below_grown y2.b HO5.out (Nat.le_refl _) hgr7
  obtain ⟨y3, rfl⟩ : ∃ zz : Ext wo, w8 = zz.v := ⟨⟨w8, hbz⟩, rfl⟩
  rw [show D.m - (st + 1) = D.m - 1 - st by omega, rows_less hs, show st + (D.m - 1 - st) = D.m - 1 by omega] at hown7
  obtain ⟨q8, c8, rfl, hrow⟩ := rows_own hown7
  have HROW := Lib.hid hrow
  have HLT7 := Lib.hid (fun g (h : (Value.slice q8 (D.m - 1) c8).ownBlock = some g) => (hown7.lt g h).1)
  clear hown7 hgr7 hnew7 hbz hrow
  refine ⟨⟨_, rfl⟩, ?_⟩
  try simp only [Act.put, List.setIfInBounds_toArray, List.set_cons_zero, List.set_cons_succ]
  refine wpAnyG_take (i := 12) (v := ?_) (by kernel_rfl) rfl (by kernel_rfl) (by kernel_rfl) (by kernel_rfl) (fun _ _ _ h => h) (Or.inl ⟨by rfl, ?_⟩) ⟨_, rfl⟩ ?_
  rotate_left
  · rintro wS ⟨yS, rfl⟩
    go_simp
    try (with_reducible rfl)
  try simp only [Act.put, List.setIfInBounds_toArray, List.set_cons_zero, List.set_cons_succ]
  have k0 := O0 y3; have k1 := O1 y3; have kf := Of y3
  refine wpAnyG_done (by kernel_rfl) (by kernel_rfl) (wpOp_plain rfl rfl ?_)
  go_simp
  obtain ⟨wz, hwz⟩ : ∃ wz, y3.v.setCell ⟨ob, 1, none⟩ (.slice q8 (D.m - 1) c8) = wz := ⟨_, rfl⟩
  have HBz : Hid (Below w1.heap.size w1 wz) := by rw [← hwz]; exact bS (bT HXo.out y3.b) HOB.out.1 _
  have hcz : ∀ bb j, bb ≠ ob → wz.cell? ⟨bb, j, none⟩ = y3.v.cell? ⟨bb, j, none⟩ := fun bb j hne => by rw [← hwz]; exact World.cell?_of_block (a := ⟨bb, j, none⟩) (setCell_block hne)
  have hsz : wz.heap.size = y3.v.heap.size := by rw [← hwz]; simp
  have hoz : ob < wz.heap.size := by rw [hsz]; exact Nat.lt_of_lt_of_le HOB.out.2 y3.b.size
  have kz0 : wz.cell? ⟨ob, 0, none⟩ = some (.slice p' D.n c') := by rw [← hwz, World.cell?_setCell_other _ _ _ _ (by simp)]; exact k0
  have kz1 : wz.cell? ⟨ob, 1, none⟩ = some (.slice q8 (D.m - 1) c8) := by rw [← hwz]; clear hwz; go_simp
  have hEz : RoIn wz wz.heap.size (lsD D st) p' q8 := by
    refine ⟨fun h0 => ?_, fun h0 => ?_⟩
    · obtain ⟨b9, o9, e9, l9, n9⟩ := HRM.out y3 h0
      exact ⟨b9, o9, e9, by rw [hsz]; exact l9, fun k hk => (hcz b9 _ (HRB.out b9 o9 h0 e9)).trans (n9 k hk)⟩
    · obtain ⟨g9, e9, l9, n9⟩ := HROW.out h0
      have hne : g9 ≠ ob := by
        have h7 := HLT7.out g9 (by rw [e9]; rfl)
        have := HOB.out.2
        omega
      exact ⟨g9, 0, e9, by rw [hsz]; exact l9, ⟨fun k hk => by rw [Nat.zero_add, hcz _ _ hne]; exact (n9 k hk).1, fun k hk => by rw [Nat.zero_add, hcz _ _ hne]; exact (n9 k hk).2.1, fun k hk => by rw [Nat.zero_add, hcz _ _ hne]; exact (n9 k hk).2.2.1, fun k hk => by rw [Nat.zero_add, hcz _ _ hne]; exact (n9 k hk).2.2.2⟩⟩
  rw [hwz]
  have HIz : Hid (∀ z : Ext wz, RoIn z.v z.v.heap.size D p (some ⟨b, o, none⟩)) := fun z => HI_0.out (z.up HBz.out)
  have HWz : Hid (∀ z : Ext wz, Below w.heap.size w z.v) := fun z => HW_0.out (z.up HBz.out)
  have HEz : Hid (∀ z : Ext wz, RoIn z.v z.v.heap.size (lsD D st) p' q8) := fun z => hEz.bel z.b
  have F0z : ∀ z : Ext wz, z.v.cell? ⟨w.heap.size, 0, none⟩ = some (.slice p D.n c) := fun z => F0_0 (z.up HBz.out)
  have F1z : ∀ z : Ext wz, z.v.cell? ⟨w.heap.size, 1, none⟩ = some (.slice (some ⟨b, o, none⟩) D.m d) := fun z => F1_0 (z.up HBz.out)
  have O0z : ∀ z : Ext wz, z.v.cell? ⟨ob, 0, none⟩ = some (.slice p' D.n c') := fun z => (z.b.cell (p := ⟨ob, 0, none⟩) hoz).trans kz0
  have O1z : ∀ z : Ext wz, z.v.cell? ⟨ob, 1, none⟩ = some (.slice q8 (D.m - 1) c8) := fun z => (z.b.cell (p := ⟨ob, 1, none⟩) hoz).trans kz1
  clear hcz hsz hoz kz0 kz1 hEz hwz k0 k1 kf O0 O1 Of FX0 FX1 HIX HRM HRB F0_0 F1_0 HI_0 HW_0 HBz HXo HOB HROW HLT7 HO0 HO5 HAD s1 s2 s3 s4 s5 s6 e1 hw1
  have HT1 := Lib.hid (fun (V : World) hV => three_any D p (some ⟨b, o, none⟩) c d HD.out V hV)
  have HT2 := Lib.hid (show ∀ V, RoIn V V.heap.size (lsD D st) p' q8 → Calls Try.prog 17 #[.agg #[.slice p' D.n c', .slice q8 (D.m - 1) c8]] V fun e w' => e = .returned (.tuple #[.int .i64 (tL (lsD D st)), .int .i64 (tM (lsD D st)), .int .i64 (tN (lsD D st)), .bool (exB (lsD D st)), .bool false]) ∧ Below V.heap.size V w' from fun V hV => three_any (lsD D st) _ _ c' c8 (less_ok HD.out st) V hV)
  have hll := fun hx => less_all HD.out hs hx
  obtain ⟨a1, h1⟩ : ∃ x, tL D = x := ⟨_, rfl⟩
  obtain ⟨a2, h2⟩ : ∃ x, tM D = x := ⟨_, rfl⟩
  obtain ⟨a3, h3⟩ : ∃ x, tN D = x := ⟨_, rfl⟩
  obtain ⟨b1, g1⟩ : ∃ x, tL (lsD D st) = x := ⟨_, rfl⟩
  obtain ⟨b2, g2⟩ : ∃ x, tM (lsD D st) = x := ⟨_, rfl⟩
  obtain ⟨b3, g3⟩ : ∃ x, tN (lsD D st) = x := ⟨_, rfl⟩
  obtain ⟨so, g4⟩ : ∃ x, exB (lsD D st) = x := ⟨_, rfl⟩
  rw [h1, h2, h3] at HT1 hll
  rw [g1, g2, g3, g4] at HT2 hll
  have hbd := t_bd HD.out
  have hbe := t_bd (less_ok HD.out st)
  rw [h1, h2, h3] at hbd
  rw [g1, g2, g3] at hbe
  have HH1 := Lib.hid h1
  clear h1 h2 h3 g1 g2 g3 g4
  obtain ⟨z0, hz0⟩ := rebase wz
  rw [hz0]
  clear hz0
  cases hx : exB D with
  | false =>
    rw [hx] at HT1
    clear hll hx hbd hbe
    go_wp2_with fail
    refine (quiet_x (HT1.out _ (HIz.out _))).mono ?_
    rintro e w' ⟨rfl, u1, rfl⟩
    go_wp2_with fail
    refine (quiet_x (HT2.out _ (HEz.out _))).mono ?_
    rintro e w' ⟨rfl, u2, rfl⟩
    go_wp2_with fail
    refine (quiet_x (works_ex _)).mono ?_
    rintro e w' ⟨rfl, y9, rfl⟩
    go_wp2
    go_ret
    exact ⟨rfl, HWz.out y9⟩
  | true =>
    rw [hx] at HT1
    obtain ⟨rfl, l2, l3, l4⟩ := hll hx
    obtain ⟨r1, r2⟩ := rs_new HD.out hx
    have el : tL D = lsC D := by unfold tL; rw [hx]; rfl
    obtain ⟨l5, l6⟩ := l4 _ r1 (by rw [r2, ← el]; exact HH1.out)
    have HRO := Lib.hid (fun (V : World) hV => roster_ok D p (some ⟨b, o, none⟩) c d HD.out V hV hx)
    have HNK := Lib.hid (show isNw D D.m (rsF D) = true from (isNw_iff HD.out).2 ⟨rfl, r1⟩)
    have hcs := cost1_bd HD.out hs (r1.hr HD.out hs)
    have hrh := r1.hr HD.out hs
    obtain ⟨rs, hrs⟩ : ∃ x, rsF D = x := ⟨_, rfl⟩
    rw [hrs] at HRO HNK hcs hrh l5 l6
    have HQ1 := Lib.hid (hs_bd HD.out hs)
    have HQ4 := Lib.hid (show -100 ≤ rs st ∧ rs st ≤ 100 by omega)
    have hmv : mv D st (rs st) = mvP (D.hs st) (rs st) := rfl
    rw [hmv] at hcs l5 l6
    have t1 : IntKind.i64.wrap (mvP (D.hs st) (rs st) * D.co st) = mvP (D.hs st) (rs st) * D.co st := IntWalk.i64_in _ (by omega)
    have t2 : IntKind.i64.wrap (a1 - b1) = a1 - b1 := IntWalk.i64_in _ (by omega)
    obtain ⟨cs, hcs2⟩ : ∃ x, mvP (D.hs st) (rs st) * D.co st = x := ⟨_, rfl⟩
    rw [hcs2] at l5 l6 hcs
    have j1 : decide (b1 ≤ a1) = true := by simp; omega
    have j2 : decide (b2 ≤ a2) = true := by simp; omega
    have j3 : decide (b3 ≤ a3) = true := by simp; omega
    have j4 : decide (cs ≤ a1 - b1) = true := by simp; omega
    have j5 : decide (mvP (D.hs st) (rs st) * D.co st ≤ a1 - b1) = true := by rw [hcs2]; exact j4
    have n1 : b1 ≤ a1 := by omega
    have n2 : b2 ≤ a2 := l2
    have n3 : b3 ≤ a3 := l3
    have i03 : ((0 : Int) != 0) = false := by decide
    have hsm : (st : Int) < (D.m : Int) := by omega
    clear hll hx hbd hbe l2 l3 l4 r1 r2 el l5 l6 hcs hrh hrs hmv hcs2
    go_wp2_with fail
    refine (quiet_x (HT1.out _ (HIz.out _))).mono ?_
    rintro e w' ⟨rfl, u1, rfl⟩
    go_wp2_with fail
    refine (quiet_x (HT2.out _ (HEz.out _))).mono ?_
    rintro e w' ⟨rfl, u2, rfl⟩
    go_wp2_with fail
    refine (HRO.out _ (HIz.out _)).mono ?_
    rintro e w9 ⟨yk, yc, rfl, hbk, hnk⟩
    have HX9 := Lib.hid (bT u2.b hbk); have HNk0 := Lib.hid hnk
    obtain ⟨zw, hzw⟩ := rebase w9
    clear hbk hnk
    have HI9 : Hid (∀ z : Ext w9, RoIn z.v z.v.heap.size D p (some ⟨b, o, none⟩)) := fun z => HIz.out (z.up HX9.out)
    have HW9 : Hid (∀ z : Ext w9, Below w.heap.size w z.v) := fun z => HWz.out (z.up HX9.out)
    have F09 : ∀ z : Ext w9, z.v.cell? ⟨w.heap.size, 0, none⟩ = some (.slice p D.n c) := fun z => F0z (z.up HX9.out)
    have F19 : ∀ z : Ext w9, z.v.cell? ⟨w.heap.size, 1, none⟩ = some (.slice (some ⟨b, o, none⟩) D.m d) := fun z => F1z (z.up HX9.out)
    have HN9 : Hid (∀ z : Ext w9, NumIn z.v z.v.heap.size D.m rs yk) := fun z => HNk0.out.bel z.b
    obtain ⟨bk, ok, rfl, _, _⟩ := HN9.out zw (by omega)
    have K9 : ∀ z : Ext w9, z.v.cell? ⟨bk, ok + st, none⟩ = some (.int .i64 (rs st)) := fun z => ((HN9.out z).cell hs).2
    have C0 : ∀ z : Ext w9, z.v.cell? ⟨b, o + st * 4, none⟩ = some (.int .i64 (D.hs st)) := fun z => (HI9.out z).c0 hs
    have C1 : ∀ z : Ext w9, z.v.cell? ⟨b, o + st * 4 + 1, none⟩ = some (.int .i64 (D.fr st)) := fun z => (HI9.out z).c1 hs
    have C2 : ∀ z : Ext w9, z.v.cell? ⟨b, o + st * 4 + 2, none⟩ = some (.int .i64 (D.to st)) := fun z => (HI9.out z).c2 hs
    have C3 : ∀ z : Ext w9, z.v.cell? ⟨b, o + st * 4 + 3, none⟩ = some (.int .i64 (D.co st)) := fun z => (HI9.out z).c3 hs
    rw [hzw]; clear hzw HIz HWz HEz F0z F1z O0z O1z HNk0
    go_wp2_with fail
    refine (quiet_x (isNewR_is HNK.out _ HD.out (HI9.out _) (HN9.out _))).mono ?_
    rintro e w' ⟨rfl, u3, rfl⟩
    go_wp2_with fail
    refine quiet_e (by kernel_rfl) (by kernel_rfl) ?_
    repeat (first | go_big_quiet_step ((first | (go_at_call 33; exact quiet_x (moveOfR_any _ _ _ _ _ _ HQ1.out HQ4.out)) | (go_at_call 16; exact quiet_x (works_ex _)))) | quiet_step ((first | (go_at_call 33; exact quiet_x (moveOfR_any _ _ _ _ _ _ HQ1.out HQ4.out)) | (go_at_call 16; exact quiet_x (works_ex _)))))
    refine wpQuiet_nil ?_
    intro w6 hw6
    obtain ⟨y8, rfl⟩ := hw6
    go_wp2
    go_ret
    exact ⟨rfl, HW9.out y8⟩

theorem less_law (D : Ro) (p q : Option Addr) (c d : Nat) (st : Int) (w : World) (hn : D.n ≤ maxLen) (hm : D.m ≤ maxLen) (hcap : D.m ≤ d) (hi : RoIn w w.heap.size D p q) :
    Calls Try.prog 6 #[.agg #[.slice p D.n c, .slice q D.m d], .int .i64 st] w fun e w' => e = .returned (.bool true) ∧ Below w.heap.size w w' := by
  cases hr : rdy D with
  | false => exact less_o1 D p q c d st w hn hm hr hi
  | true =>
    cases hs : within st 0 ((D.m : Int) - 1) with
    | false => exact less_o2 D p q c d st w hn hm hr hs hi
    | true =>
      have h6 := within_iff.1 hs
      obtain ⟨s, rfl⟩ : ∃ s : Nat, st = (s : Int) := ⟨st.toNat, by omega⟩
      exact less_in D p q c d s w hr (by omega) hcap hi
end Go.Proofs.Ytegkgfiaegpihaa
