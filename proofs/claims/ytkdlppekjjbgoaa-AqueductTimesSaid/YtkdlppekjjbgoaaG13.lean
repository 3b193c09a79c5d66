/- Lines of an aqueduct: Freed, Free of both; Worst and Next of the specification. -/
import Derived.Test.YtkdlppekjjbgoaaG12

set_option linter.unusedSimpArgs false

set_option linter.unusedVariables false

namespace Go.Proofs.Ytkdlppekjjbgoaa

open Go.RowKit

set_option maxRecDepth 100000 in
set_option maxHeartbeats 4000000 in
theorem freed_any (D : Duct) (p q : Option Addr) (c d : Nat) (k : Nat) (w : World) (hn : D.n ≤ 40) (hm : D.m ≤ 40) (hk : k < D.n) (hi : DuctIn w w.heap.size D p q) :
    Calls Try.prog 39 #[.agg #[.slice p D.n c, .slice q D.m d], .int .i64 k] w fun e w' => ∃ p' c' q' d', e = .returned (.agg #[.slice p' D.n c', .slice q' D.m d']) ∧ Below w.heap.size w w' ∧ DuctIn w' w'.heap.size (frD D k) p' q' := by
  obtain ⟨w1, x1, hw1, hb1, hz1, F0, F1⟩ := box_line w p q D.n D.m c d
  obtain ⟨w2, x2, hw2, hb2, hz2, G0, G1, Gz⟩ := box_nil x1.v
  have HB := Lib.hid (bT (bT hb1 x1.b) hb2)
  have HI : Hid (∀ x : Ext w2, DuctIn x.v x.v.heap.size D p q) := fun x => (hi.bel (bT hb1 x1.b)).bel (bT hb2 x.b)
  have HZ : Hid (w.heap.size ≤ x1.v.heap.size ∧ x1.v.heap.size < w2.heap.size) := by have := hb1.size; have := x1.b.size; exact ⟨by omega, by omega⟩
  replace F0 : ∀ y : Ext w2, y.v.cell? ⟨w.heap.size, 0, none⟩ = some (.slice p D.n c) := fun y => F0 (y.up (bT x1.b hb2))
  replace F1 : ∀ y : Ext w2, y.v.cell? ⟨w.heap.size, 1, none⟩ = some (.slice q D.m d) := fun y => F1 (y.up (bT x1.b hb2))
  have j2 : (k : Int) < (D.n : Int) := by omega
  have HK := Lib.hid hk
  clear hb1 hz1 hi hb2 hz2 hk
  go_enter Try.func39, Try.ntmps39
  go_wp2_with fail
  refine (copy2_any D p q c d _ hn hm (HI.out _)).mono ?_
  rintro e w' ⟨p', c', q', d', rfl, hcp, hap⟩
  obtain ⟨g, go, rfl, hg1, hfz, hne⟩ := hcp.own (by have := HK.out; omega)
  have hcb := hcp.below; have hch := hcp.here
  clear hcp
  obtain ⟨y3, rfl⟩ : ∃ z : Ext w2, w' = z.v := ⟨⟨w', bT x2.b hcb⟩, rfl⟩
  have HG : Hid (w2.heap.size ≤ g) := Nat.le_trans x2.b.size hg1
  have HAP : Hid (0 < D.m → ∀ g2 o2, q' = some ⟨g2, o2, none⟩ → w2.heap.size ≤ g2) := fun h g2 o2 e => Nat.le_trans x2.b.size (hap h g2 o2 e)
  have HGL : Hid (g < y3.v.heap.size) := by
    obtain ⟨b, o, e, hl, _⟩ := hch.pt (by have := HK.out; omega)
    cases e; exact hl
  have HNE := Lib.hid hne; have HFZ := Lib.hid hfz; have HCH := Lib.hid hch
  clear hg1 hfz hne hcb hch hap hw1 hw2
  obtain ⟨w5, x5, e5, b5, l5⟩ := mk_line y3.v (some ⟨g, go, none⟩) q' D.n D.m c' d'
  have HBx5 := Lib.hid b5; have HLx5 := Lib.hid l5
  clear b5 l5
  have L0 : ∀ z : Ext w5, z.v.cell? ⟨y3.v.heap.size, 0, none⟩ = some (.slice (some ⟨g, go, none⟩) D.n c') := fun z => (HLx5.out.bel z.b).c0
  have FZ : ∀ (z : Ext w5) i, z.v.frozen? ⟨g, i, none⟩ = false := fun z i => ((bT HBx5.out z.b).frozen (p := ⟨g, i, none⟩) HGL.out).trans (HFZ.out i)
  have E2 : ∀ z : Ext w5, z.v.cell? ⟨g, go + k * 3 + 2, none⟩ = some (.int .i64 (D.co k)) := fun z => (HCH.out.bel (bT HBx5.out z.b)).co' HK.out
  obtain ⟨w6, x6, e6, hw6⟩ : ∃ (w6 : World) (x6 : Ext w6), x5.v.setCell ⟨g, go + k * 3 + 2, none⟩ (.int .i64 0) = x6.v ∧ w6 = x5.v.setCell ⟨g, go + k * 3 + 2, none⟩ (.int .i64 0) := ⟨_, ⟨_, Below.refl _ _⟩, rfl, rfl⟩
  have HBx26 : Hid (Below w2.heap.size w2 w6) := by rw [hw6]; exact bS (bT (bT y3.b HBx5.out) x5.b) HG.out _
  have HLx6 : Hid (LineBox w6 y3.v.heap.size (some ⟨g, go, none⟩) D.n c' q' D.m d') := by rw [hw6]; exact (HLx5.out.bel x5.b).set1 (by have := HGL.out; omega)
  have HNx6 : Hid (DuctIn w6 w6.heap.size (frD D k) (some ⟨g, go, none⟩) q') := by
    rw [hw6]
    have := (HCH.out.bel (bT HBx5.out x5.b)).setCo (v := 0) HK.out HNE.out
    show DuctIn _ _ (setCo D k 0) _ _
    simpa using this
  clear hw6
  have M0 : ∀ z : Ext w6, z.v.cell? ⟨y3.v.heap.size, 0, none⟩ = some (.slice (some ⟨g, go, none⟩) D.n c') := fun z => (HLx6.out.bel z.b).c0
  have M1 : ∀ z : Ext w6, z.v.cell? ⟨y3.v.heap.size, 1, none⟩ = some (.slice q' D.m d') := fun z => (HLx6.out.bel z.b).c1
  have R0 : ∀ z : Ext w6, z.v.cell? ⟨x1.v.heap.size, 0, none⟩ = some (.slice none 0 0) := fun z => G0 (z.up HBx26.out)
  have R1 : ∀ z : Ext w6, z.v.cell? ⟨x1.v.heap.size, 1, none⟩ = some (.slice none 0 0) := fun z => G1 (z.up HBx26.out)
  have Rz : ∀ (z : Ext w6) i, z.v.frozen? ⟨x1.v.heap.size, i, none⟩ = false := fun z => Gz (z.up HBx26.out)
  clear G0 G1 Gz
  go_wp2
  refine bodyPost_ret (v := .agg #[.slice (some ⟨g, go, none⟩) D.n c', .slice q' D.m d']) (by simp [results, Try.f39, go_sem, R0, R1, Rz]) rfl ⟨_, _, _, _, rfl, ?_, ?_⟩
  · exact bS (bS (bT (bT HB.out HBx26.out) x6.b) HZ.out.1 _) HZ.out.1 _
  · have h := HNx6.out.bel x6.b
    have hz := HZ.out.2
    have hg := HG.out
    refine ⟨fun h0 => ?_, fun h0 => ?_⟩
    · obtain ⟨b, o, e, hl, hc⟩ := h.pt h0
      cases e
      refine ⟨g, go, rfl, by simpa using hl, fun i hi => ?_, fun i hi => ?_, fun i hi => ?_⟩
      · rw [setTwo_else (o := 0) (by simp; try omega) (by simp; try omega)]; exact hc.c0 i hi
      · rw [setTwo_else (o := 0) (by simp; try omega) (by simp; try omega)]; exact hc.c1 i hi
      · rw [setTwo_else (o := 0) (by simp; try omega) (by simp; try omega)]; exact hc.c2 i hi
    · obtain ⟨b, o, e, hl, hc⟩ := h.od h0
      have := HAP.out h0 b o e
      exact ⟨b, o, e, by simpa using hl, fun i hi => by rw [setTwo_else (o := 0) (by simp; try omega) (by simp; try omega)]; exact hc i hi⟩
theorem freed_is {D : Duct} {p q : Option Addr} {c d : Nat} (k : Int) (i : Nat) (hk : k = (i : Int)) (w : World) (hn : D.n ≤ 40) (hm : D.m ≤ 40) (hi' : i < D.n) (hi : DuctIn w w.heap.size D p q) :
    Calls Try.prog 39 #[.agg #[.slice p D.n c, .slice q D.m d], .int .i64 k] w fun e w' => ∃ p' c' q' d', e = .returned (.agg #[.slice p' D.n c', .slice q' D.m d']) ∧ Below w.heap.size w w' ∧ DuctIn w' w'.heap.size (frD D i) p' q' := by subst hk; exact freed_any D p q c d i w hn hm hi' hi
theorem frD_ok {D : Duct} {x : Nat} (hok : D.ok = true) : (frD D x).ok = true := by
  obtain ⟨h1, h2, h3, h4⟩ := D.ok_parts hok
  refine Duct.ok_mk h1 h2 (allN_iff.2 fun k hk => within_iff.2 (h3 k hk)) (allN_iff.2 fun k hk => ptOk_iff.2 ?_)
  have := h4 k hk
  refine ⟨this.1, this.2.1, ?_⟩
  show 0 ≤ (if k = x then 0 else D.co k) ∧ (if k = x then 0 else D.co k) ≤ 20
  split <;> omega
set_option maxRecDepth 100000 in
set_option maxHeartbeats 4000000 in
theorem worstAll_any (D : Duct) (p q : Option Addr) (c d : Nat) (w : World) (hm0 : 0 < D.m) (hok : D.ok = true) (hi : DuctIn w w.heap.size D p q) :
    Calls Try.prog 71 #[.agg #[.slice p D.n c, .slice q D.m d]] w fun e w' => e = .returned (.int .i64 (WW D 0 D.m)) ∧ Below w.heap.size w w' := by
  have hm7 := (D.ok_parts hok).1
  have hnm := (D.ok_parts hok).2.1
  have HCO := Lib.hid (co_bd hok); have HNM := Lib.hid hnm
  have hn : D.n ≤ 40 := by omega
  obtain ⟨w1, x1, hw1, hb1, hz1, F0, F1⟩ := box_line w p q D.n D.m c d
  have HB := Lib.hid hb1
  have HI : Hid (∀ x : Ext w1, DuctIn x.v x.v.heap.size D p q) := fun x => (hi.bel hb1).bel x.b
  clear hb1 hz1 hi
  have j2 : (D.m : Int) < 8 := by omega
  have ht8 : D.m < 8 := by omega
  clear hok hnm
  go_enter Try.func71, Try.ntmps71
  go_wp2
  refine wp_region_lastE 10 (by kernel_rfl) rfl (fun yr => ?_)
  refine wpAnyG_take (i := 0) (v := ?_) (by kernel_rfl) rfl (by kernel_rfl) (by kernel_rfl) (by kernel_rfl) (fun _ _ _ h => h) (Or.inl ⟨by rfl, ?_⟩) ⟨_, rfl⟩ ?_
  rotate_left
  · rintro wS ⟨yS, rfl⟩
    go_simp
    try (with_reducible rfl)
  try simp only [Act.put, List.setIfInBounds_toArray, List.set_cons_zero, List.set_cons_succ]
  refine wpAnyG_take (i := 2) (v := ?_) (by kernel_rfl) rfl (by kernel_rfl) (by kernel_rfl) (by kernel_rfl) (fun _ _ _ h => h) (Or.inl ⟨by rfl, ?_⟩) ⟨_, rfl⟩ ?_
  rotate_left
  · rintro wS ⟨yS, rfl⟩
    go_simp
    try (with_reducible rfl)
  try simp only [Act.put, List.setIfInBounds_toArray, List.set_cons_zero, List.set_cons_succ]
  refine wpAnyG_take (i := 3) (v := ?_) (by kernel_rfl) rfl (by kernel_rfl) (by kernel_rfl) (by kernel_rfl) (fun _ _ _ h => h) (Or.inl ⟨by rfl, ?_⟩) ⟨_, rfl⟩ ?_
  rotate_left
  · rintro wS ⟨yS, rfl⟩
    go_simp
    try (with_reducible rfl)
  try simp only [Act.put, List.setIfInBounds_toArray, List.set_cons_zero, List.set_cons_succ]
  refine wpAnyG_take (i := 4) (v := ?_) (by kernel_rfl) rfl (by kernel_rfl) (by kernel_rfl) (by kernel_rfl) (fun _ _ _ h => h) (Or.inl ⟨by rfl, ?_⟩) ⟨_, rfl⟩ ?_
  rotate_left
  · rintro wS ⟨yS, rfl⟩
    go_simp
    try (with_reducible rfl)
  try simp only [Act.put, List.setIfInBounds_toArray, List.set_cons_zero, List.set_cons_succ]
  refine wpAnyG_one (i := 1) (by kernel_rfl) (by decide) (wpOp_plain rfl rfl ?_)
  go_simp
  go_at_call 66
  refine (atWorst_any D p q c d _ hn hm7 HNM.out HCO.out (HI.out _)).mono ?_
  rintro e w' ⟨cb, rfl, hb, ht⟩
  have C0 : w'.cell? ⟨cb, 0 * 16 + D.m * 2 + 1, none⟩ = some (.int .i64 (WW D 0 D.m)) := (ht.c1 0 D.m (by omega) ht8).trans (by rw [PV_tt (Nat.le_refl _)]; rfl)
  have C0' : w'.cell? ⟨cb, D.m * 2 + 1, none⟩ = some (.int .i64 (WW D 0 D.m)) := by simpa using C0
  obtain ⟨y3, rfl⟩ : ∃ z : Ext w1, w' = z.v := ⟨⟨w', bT (Ext.b _) hb⟩, rfl⟩
  clear hb ht
  refine ⟨⟨_, rfl⟩, ?_⟩
  try simp only [Act.put, List.setIfInBounds_toArray, List.set_cons_zero, List.set_cons_succ]
  refine wpAnyG_take (i := 5) (v := ?_) (by kernel_rfl) rfl (by kernel_rfl) (by kernel_rfl) (by kernel_rfl) (fun _ _ _ h => h) (Or.inl ⟨by rfl, ?_⟩) ⟨_, rfl⟩ ?_
  rotate_left
  · rintro wS ⟨yS, rfl⟩
    go_simp
    try (with_reducible rfl)
  try simp only [Act.put, List.setIfInBounds_toArray, List.set_cons_zero, List.set_cons_succ]
  refine wpAnyG_take (i := 6) (v := ?_) (by kernel_rfl) rfl (by kernel_rfl) (by kernel_rfl) (by kernel_rfl) (fun _ _ _ h => h) (Or.inl ⟨by rfl, ?_⟩) ⟨_, rfl⟩ ?_
  rotate_left
  · rintro wS ⟨yS, rfl⟩
    go_simp
    try (with_reducible rfl)
  try simp only [Act.put, List.setIfInBounds_toArray, List.set_cons_zero, List.set_cons_succ]
  refine wpAnyG_take (i := 7) (v := ?_) (by kernel_rfl) rfl (by kernel_rfl) (by kernel_rfl) (by kernel_rfl) (fun _ _ _ h => h) (Or.inl ⟨by rfl, ?_⟩) ⟨_, rfl⟩ ?_
  rotate_left
  · rintro wS ⟨yS, rfl⟩
    go_simp
    try (with_reducible rfl)
  try simp only [Act.put, List.setIfInBounds_toArray, List.set_cons_zero, List.set_cons_succ]
  refine wpAnyG_take (i := 8) (v := ?_) (by kernel_rfl) rfl (by kernel_rfl) (by kernel_rfl) (by kernel_rfl) (fun _ _ _ h => h) (Or.inl ⟨by rfl, ?_⟩) ⟨_, rfl⟩ ?_
  rotate_left
  · rintro wS ⟨yS, rfl⟩
    go_simp
    try (with_reducible rfl)
  try simp only [Act.put, List.setIfInBounds_toArray, List.set_cons_zero, List.set_cons_succ]
  refine wpAnyG_one (i := 9) (by kernel_rfl) (by decide) (wpOp_plain rfl rfl ?_)
  go_simp
  refine ⟨⟨_, rfl⟩, ?_⟩
  try simp only [Act.put, List.setIfInBounds_toArray, List.set_cons_zero, List.set_cons_succ]
  refine wpAnyG_done (by kernel_rfl) (by kernel_rfl) (wpOp_plain rfl rfl ?_)
  go_simp
  go_wp2
  go_ret
  exact ⟨rfl, bT HB.out y3.b⟩
set_option maxRecDepth 100000 in
set_option maxHeartbeats 4000000 in
theorem freeP_ok (D : Duct) (p q : Option Addr) (c d : Nat) (k : Nat) (w : World) (hk : k < D.n) (hm0 : 0 < D.m) (hok : D.ok = true) (hi : DuctIn w w.heap.size D p q) :
    Calls Try.prog 37 #[.agg #[.slice p D.n c, .slice q D.m d], .int .i64 k] w fun e w' => e = .returned (.tuple #[.int .i64 (FR D k), .int .i64 0]) ∧ Below w.heap.size w w' := by
  have hm7 := (D.ok_parts hok).1
  have hnm := (D.ok_parts hok).2.1
  have hn : D.n ≤ 40 := by omega
  have hip : isPt D (k : Int) = true := within_tt (by omega) (by omega)
  obtain ⟨w1, x1, hw1, hb1, hz1, F0, F1⟩ := box_line w p q D.n D.m c d
  have HB := Lib.hid hb1
  have HI : Hid (∀ x : Ext w1, DuctIn x.v x.v.heap.size D p q) := fun x => (hi.bel hb1).bel x.b
  clear hb1 hz1 hi
  obtain ⟨X, hX⟩ : ∃ e, WW D 0 D.m = e := ⟨_, rfl⟩
  obtain ⟨Y, hY⟩ : ∃ e, WW (frD D k) 0 D.m = e := ⟨_, rfl⟩
  have hXb := W_bd (co_bd hok) (n := 7) (f := 0) (t := D.m) (by omega) (by omega)
  have hYb := W_bd (D := frD D k) (co_bd (frD_ok hok)) (n := 7) (f := 0) (t := D.m) (by omega) (by show D.m < D.n; omega)
  rw [hX] at hXb; rw [hY] at hYb
  have hfr : FR D k = X - Y := by unfold FR; rw [hX, hY]
  rw [hfr]
  have HW := Lib.hid (show ∀ V : World, DuctIn V V.heap.size D p q → Calls Try.prog 71 #[.agg #[.slice p D.n c, .slice q D.m d]] V fun e w' => e = .returned (.int .i64 X) ∧ Below V.heap.size V w' from fun V h => by
    have := worstAll_any D p q c d V hm0 hok h
    rw [hX] at this; exact this)
  have HF := Lib.hid (show ∀ (V : World) p2 c2, DuctIn V V.heap.size (frD D k) p2 q → Calls Try.prog 71 #[.agg #[.slice p2 D.n c2, .slice q D.m d]] V fun e w' => e = .returned (.int .i64 Y) ∧ Below V.heap.size V w' from fun V p2 c2 h => by
    have := worstAll_any (frD D k) p2 q c2 d V hm0 (frD_ok hok) h
    rw [show (frD D k).m = D.m from rfl, hY] at this; exact this)
  have HS := Lib.hid (show ∀ V : World, Calls Try.prog 62 #[.agg #[.slice p D.n c, .slice q D.m d], .int .i64 k] V fun e w' => e = .returned (.bool true) ∧ Below V.heap.size V w' from fun V => by
    have := isPoint_any D p q c d k V
    rw [hip] at this
    exact this)
  have HC := Lib.hid (show ∀ V : World, DuctIn V V.heap.size D p q → Calls Try.prog 57 #[.agg #[.slice p D.n c, .slice q D.m d], .bool true] V fun e w' => e = .returned (.int .i64 0) ∧ Below V.heap.size V w' from fun V h => by
    have := check_any D p q c d true V hn (by omega) h
    rw [hok] at this
    exact this)
  have hwr : IntKind.i64.wrap (X - Y) = X - Y := IntWalk.i64_in _ (by omega)
  have jm : ((D.m : Int) == 0) = false := by simp; omega
  have jm2 : ¬ D.m = 0 := by omega
  clear hok hX hY hXb hYb hfr hip hnm
  go_enter Try.func37, Try.ntmps37
  go_wp2
  refine quiet_e (by kernel_rfl) (by kernel_rfl) ?_
  repeat (first | go_big_quiet_step ((first | (go_at_call 62; exact quiet_x (HS.out _)) | (go_at_call 57; exact quiet_x (HC.out _ (HI.out _))))) | quiet_step ((first | (go_at_call 62; exact quiet_x (HS.out _)) | (go_at_call 57; exact quiet_x (HC.out _ (HI.out _))))))
  refine wpQuiet_nil ?_
  intro w6 hw6
  obtain ⟨y, rfl⟩ := hw6
  go_wp2
  refine wp_region_tailE 7 2 (by kernel_rfl) rfl (fun yr => ?_)
  refine wpAnyG2_take (i := 0) (v := ?_) (by kernel_rfl) rfl (by kernel_rfl) (by kernel_rfl) (by kernel_rfl) (fun _ _ _ h => h) (Or.inl ⟨by rfl, ?_⟩) ⟨_, rfl⟩ ?_
  rotate_left
  · rintro wS ⟨yS, rfl⟩
    go_simp
    try (with_reducible rfl)
  try simp only [Act.put, List.setIfInBounds_toArray, List.set_cons_zero, List.set_cons_succ]
  refine wpAnyG2_take (i := 2) (v := ?_) (by kernel_rfl) rfl (by kernel_rfl) (by kernel_rfl) (by kernel_rfl) (fun _ _ _ h => h) (Or.inl ⟨by rfl, ?_⟩) ⟨_, rfl⟩ ?_
  rotate_left
  · rintro wS ⟨yS, rfl⟩
    go_simp
    try (with_reducible rfl)
  try simp only [Act.put, List.setIfInBounds_toArray, List.set_cons_zero, List.set_cons_succ]
  refine wpAnyG2_take (i := 3) (v := ?_) (by kernel_rfl) rfl (by kernel_rfl) (by kernel_rfl) (by kernel_rfl) (fun _ _ _ h => h) (Or.inl ⟨by rfl, ?_⟩) ⟨_, rfl⟩ ?_
  rotate_left
  · rintro wS ⟨yS, rfl⟩
    go_simp
    try (with_reducible rfl)
  try simp only [Act.put, List.setIfInBounds_toArray, List.set_cons_zero, List.set_cons_succ]
  refine wpAnyG2_one (i := 1) (by kernel_rfl) (by decide) (wpOp_plain rfl rfl ?_)
  go_simp
  go_at_call 71
  refine (quiet_x (HW.out _ (HI.out _))).mono ?_
  rintro e w' ⟨rfl, y3, rfl⟩
  refine ⟨⟨_, rfl⟩, ?_⟩
  try simp only [Act.put, List.setIfInBounds_toArray, List.set_cons_zero, List.set_cons_succ]
  refine wpAnyG2_one (i := 4) (by kernel_rfl) (by decide) (wpOp_plain rfl rfl ?_)
  go_simp
  go_at_call 72
  refine (withFree_any D p q c d k _ hn (by omega) hk (HI.out _)).mono ?_
  rintro e w' ⟨p2, c2, rfl, hb, hd2⟩
  have HD2 := Lib.hid hd2
  obtain ⟨y4, rfl⟩ : ∃ z : Ext w1, w' = z.v := ⟨⟨w', bT (Ext.b _) hb⟩, rfl⟩
  clear hb hd2
  refine ⟨⟨_, rfl⟩, ?_⟩
  try simp only [Act.put, List.setIfInBounds_toArray, List.set_cons_zero, List.set_cons_succ]
  refine wpAnyG2_one (i := 5) (by kernel_rfl) (by decide) (wpOp_plain rfl rfl ?_)
  go_simp
  go_at_call 71
  refine (quiet_x (HF.out _ p2 c2 HD2.out)).mono ?_
  rintro e w' ⟨rfl, y5, rfl⟩
  refine ⟨⟨_, rfl⟩, ?_⟩
  try simp only [Act.put, List.setIfInBounds_toArray, List.set_cons_zero, List.set_cons_succ]
  refine wpAnyG2_take (i := 6) (v := ?_) (by kernel_rfl) rfl (by kernel_rfl) (by kernel_rfl) (by kernel_rfl) (fun _ _ _ h => h) (Or.inl ⟨by rfl, ?_⟩) ⟨_, rfl⟩ ?_
  rotate_left
  · rintro wS ⟨yS, rfl⟩
    go_simp
    try (with_reducible rfl)
  try simp only [Act.put, List.setIfInBounds_toArray, List.set_cons_zero, List.set_cons_succ]
  refine wpAnyG2_done (by kernel_rfl) ?_
  refine wpAny_one (i := 7) (by kernel_rfl) (wpOp_plain rfl rfl ?_)
  go_simp
  try simp only [Act.put, List.setIfInBounds_toArray, List.set_cons_zero, List.set_cons_succ]
  refine wpAny_one (i := 8) (by kernel_rfl) (wpOp_plain rfl rfl ?_)
  go_simp
  try simp only [Act.put, List.setIfInBounds_toArray, List.set_cons_zero, List.set_cons_succ]
  refine wpAny_end (by kernel_rfl) ?_
  go_wp2
  refine bodyPost_ret (v := .tuple #[.int .i64 (X - Y), .int .i64 0]) (by simp [results, Try.f37, go_sem]) rfl ⟨rfl, ?_⟩
  exact bT HB.out y5.b
set_option maxRecDepth 100000 in
set_option maxHeartbeats 4000000 in
theorem freeP_none (D : Duct) (p q : Option Addr) (c d : Nat) (k : Int) (w : World) (hip : isPt D k = true) (hm0 : D.m = 0) (hok : D.ok = true) (hi : DuctIn w w.heap.size D p q) :
    Calls Try.prog 37 #[.agg #[.slice p D.n c, .slice q D.m d], .int .i64 k] w fun e w' => e = .returned (.tuple #[.int .i64 0, .int .i64 3]) ∧ Below w.heap.size w w' := by
  have hnm := (D.ok_parts hok).2.1
  have hn : D.n ≤ 40 := by omega
  obtain ⟨w1, x1, hw1, hb1, hz1, F0, F1⟩ := box_line w p q D.n D.m c d
  have HB := Lib.hid hb1
  have HI : Hid (∀ x : Ext w1, DuctIn x.v x.v.heap.size D p q) := fun x => (hi.bel hb1).bel x.b
  clear hb1 hz1 hi
  have HS := Lib.hid (show ∀ V : World, Calls Try.prog 62 #[.agg #[.slice p D.n c, .slice q D.m d], .int .i64 k] V fun e w' => e = .returned (.bool true) ∧ Below V.heap.size V w' from fun V => by
    have := isPoint_any D p q c d k V
    rw [hip] at this
    exact this)
  have HC := Lib.hid (show ∀ V : World, DuctIn V V.heap.size D p q → Calls Try.prog 57 #[.agg #[.slice p D.n c, .slice q D.m d], .bool true] V fun e w' => e = .returned (.int .i64 0) ∧ Below V.heap.size V w' from fun V h => by
    have := check_any D p q c d true V hn (by omega) h
    rw [hok] at this
    exact this)
  have jm : ((D.m : Int) == 0) = true := by simp [hm0]
  clear hok hip hnm hm0
  go_enter Try.func37, Try.ntmps37
  go_wp2
  refine quiet_e (by kernel_rfl) (by kernel_rfl) ?_
  repeat (first | go_big_quiet_step ((first | (go_at_call 62; exact quiet_x (HS.out _)) | (go_at_call 57; exact quiet_x (HC.out _ (HI.out _))))) | quiet_step ((first | (go_at_call 62; exact quiet_x (HS.out _)) | (go_at_call 57; exact quiet_x (HC.out _ (HI.out _))))))
  refine wpQuiet_nil ?_
  intro w6 hw6
  obtain ⟨y, rfl⟩ := hw6
  go_wp2
  refine bodyPost_ret (v := .tuple #[.int .i64 0, .int .i64 3]) (by simp [results, Try.f37, go_sem]) rfl ⟨rfl, ?_⟩
  exact bT HB.out y.b
set_option maxRecDepth 100000 in
set_option maxHeartbeats 4000000 in
theorem freeP_er (D : Duct) (p q : Option Addr) (c d : Nat) (k er : Int) (w : World) (hn : D.n ≤ 40) (hm : D.m ≤ 40) (he : chkE D.ok (isPt D k) = er) (h0 : er ≠ 0) (hi : DuctIn w w.heap.size D p q) :
    Calls Try.prog 37 #[.agg #[.slice p D.n c, .slice q D.m d], .int .i64 k] w fun e w' => e = .returned (.tuple #[.int .i64 0, .int .i64 er]) ∧ Below w.heap.size w w' := by
  obtain ⟨w1, x1, hw1, hb1, hz1, F0, F1⟩ := box_line w p q D.n D.m c d
  have HB := Lib.hid hb1
  have HI : Hid (∀ x : Ext w1, DuctIn x.v x.v.heap.size D p q) := fun x => (hi.bel hb1).bel x.b
  clear hb1 hz1 hi
  obtain ⟨is, his⟩ : ∃ z, isPt D k = z := ⟨_, rfl⟩
  rw [his] at he
  have HS := Lib.hid (show ∀ V : World, Calls Try.prog 62 #[.agg #[.slice p D.n c, .slice q D.m d], .int .i64 k] V fun e w' => e = .returned (.bool is) ∧ Below V.heap.size V w' from fun V => by
    have := isPoint_any D p q c d k V
    rw [his] at this
    exact this)
  have HC := Lib.hid (show ∀ V : World, DuctIn V V.heap.size D p q → Calls Try.prog 57 #[.agg #[.slice p D.n c, .slice q D.m d], .bool is] V fun e w' => e = .returned (.int .i64 er) ∧ Below V.heap.size V w' from fun V h => by
    have := check_any D p q c d is V hn hm h
    rw [he] at this
    exact this)
  clear he his
  go_enter Try.func37, Try.ntmps37
  go_wp2
  refine quiet_e (by kernel_rfl) (by kernel_rfl) ?_
  repeat (first | go_big_quiet_step ((first | (go_at_call 62; exact quiet_x (HS.out _)) | (go_at_call 57; exact quiet_x (HC.out _ (HI.out _))))) | quiet_step ((first | (go_at_call 62; exact quiet_x (HS.out _)) | (go_at_call 57; exact quiet_x (HC.out _ (HI.out _))))))
  refine wpQuiet_nil ?_
  intro w6 hw6
  obtain ⟨y, rfl⟩ := hw6
  go_wp2
  refine bodyPost_ret (v := .tuple #[.int .i64 0, .int .i64 er]) (by simp [results, Try.f37, go_sem]) rfl ⟨rfl, ?_⟩
  exact bT HB.out y.b
set_option maxRecDepth 100000 in
set_option maxHeartbeats 4000000 in
theorem freeR_ok (D : Duct) (p q : Option Addr) (c d : Nat) (k : Nat) (w : World) (hk : k < D.n) (hm0 : 0 < D.m) (hok : D.ok = true) (hi : DuctIn w w.heap.size D p q) :
    Calls Try.prog 54 #[.agg #[.slice p D.n c, .slice q D.m d], .int .i64 k] w fun e w' => e = .returned (.tuple #[.int .i64 (FR D k), .int .i64 0]) ∧ Below w.heap.size w w' := by
  have hm7 := (D.ok_parts hok).1
  have hnm := (D.ok_parts hok).2.1
  have hn : D.n ≤ 40 := by omega
  have hip : isPt D (k : Int) = true := within_tt (by omega) (by omega)
  obtain ⟨w1, x1, hw1, hb1, hz1, F0, F1⟩ := box_line w p q D.n D.m c d
  have HB := Lib.hid hb1
  have HI : Hid (∀ x : Ext w1, DuctIn x.v x.v.heap.size D p q) := fun x => (hi.bel hb1).bel x.b
  clear hb1 hz1 hi
  obtain ⟨X, hX⟩ : ∃ e, WW D 0 D.m = e := ⟨_, rfl⟩
  obtain ⟨Y, hY⟩ : ∃ e, WW (frD D k) 0 D.m = e := ⟨_, rfl⟩
  have hXb := W_bd (co_bd hok) (n := 7) (f := 0) (t := D.m) (by omega) (by omega)
  have hYb := W_bd (D := frD D k) (co_bd (frD_ok hok)) (n := 7) (f := 0) (t := D.m) (by omega) (by show D.m < D.n; omega)
  rw [hX] at hXb; rw [hY] at hYb
  have hfr : FR D k = X - Y := by unfold FR; rw [hX, hY]
  rw [hfr]
  have HW := Lib.hid (show ∀ V : World, DuctIn V V.heap.size D p q → Calls Try.prog 77 #[.agg #[.slice p D.n c, .slice q D.m d], .int .i64 0, .int .i64 D.m] V fun e w' => e = .returned (.int .i64 X) ∧ Below V.heap.size V w' from fun V h => worst_is (f := 0) (t := D.m) hX V hok (by omega) (Nat.le_refl _) h)
  have HF := Lib.hid (show ∀ (V : World) p2 c2 q2 d2, DuctIn V V.heap.size (frD D k) p2 q2 → Calls Try.prog 77 #[.agg #[.slice p2 D.n c2, .slice q2 D.m d2], .int .i64 0, .int .i64 D.m] V fun e w' => e = .returned (.int .i64 Y) ∧ Below V.heap.size V w' from fun V p2 c2 q2 d2 h => worst_is (D := frD D k) (f := 0) (t := D.m) hY V (frD_ok hok) (by omega) (Nat.le_refl _) h)
  have HS := Lib.hid (show ∀ V : World, Calls Try.prog 19 #[.agg #[.slice p D.n c, .slice q D.m d], .int .i64 k] V fun e w' => e = .returned (.bool true) ∧ Below V.heap.size V w' from fun V => by
    have := isPointR_any D p q c d k V (by omega)
    rw [hip] at this
    exact this)
  have HC := Lib.hid (show ∀ V : World, DuctIn V V.heap.size D p q → Calls Try.prog 76 #[.agg #[.slice p D.n c, .slice q D.m d], .bool true] V fun e w' => e = .returned (.int .i64 0) ∧ Below V.heap.size V w' from fun V h => by
    have := ask_any D p q c d true V hn (by omega) h
    rw [hok] at this
    exact this)
  have hwr : IntKind.i64.wrap (X - Y) = X - Y := IntWalk.i64_in _ (by omega)
  have jm : ((D.m : Int) == 0) = false := by simp; omega
  have jm2 : ¬ D.m = 0 := by omega
  clear hok hX hY hXb hYb hfr hip hnm
  go_enter Try.func54, Try.ntmps54
  go_wp2
  refine quiet_e (by kernel_rfl) (by kernel_rfl) ?_
  repeat (first | go_big_quiet_step ((first | (go_at_call 19; exact quiet_x (HS.out _)) | (go_at_call 76; exact quiet_x (HC.out _ (HI.out _))))) | quiet_step ((first | (go_at_call 19; exact quiet_x (HS.out _)) | (go_at_call 76; exact quiet_x (HC.out _ (HI.out _))))))
  refine wpQuiet_nil ?_
  intro w6 hw6
  obtain ⟨y, rfl⟩ := hw6
  go_wp2
  refine wp_region_tailE 13 2 (by kernel_rfl) rfl (fun yr => ?_)
  refine wpAnyG2_take (i := 0) (v := ?_) (by kernel_rfl) rfl (by kernel_rfl) (by kernel_rfl) (by kernel_rfl) (fun _ _ _ h => h) (Or.inl ⟨by rfl, ?_⟩) ⟨_, rfl⟩ ?_
  rotate_left
  · rintro wS ⟨yS, rfl⟩
    go_simp
    try (with_reducible rfl)
  try simp only [Act.put, List.setIfInBounds_toArray, List.set_cons_zero, List.set_cons_succ]
  refine wpAnyG2_take (i := 1) (v := ?_) (by kernel_rfl) rfl (by kernel_rfl) (by kernel_rfl) (by kernel_rfl) (fun _ _ _ h => h) (Or.inl ⟨by rfl, ?_⟩) ⟨_, rfl⟩ ?_
  rotate_left
  · rintro wS ⟨yS, rfl⟩
    go_simp
    try (with_reducible rfl)
  try simp only [Act.put, List.setIfInBounds_toArray, List.set_cons_zero, List.set_cons_succ]
  refine wpAnyG2_take (i := 2) (v := ?_) (by kernel_rfl) rfl (by kernel_rfl) (by kernel_rfl) (by kernel_rfl) (fun _ _ _ h => h) (Or.inl ⟨by rfl, ?_⟩) ⟨_, rfl⟩ ?_
  rotate_left
  · rintro wS ⟨yS, rfl⟩
    go_simp
    try (with_reducible rfl)
  try simp only [Act.put, List.setIfInBounds_toArray, List.set_cons_zero, List.set_cons_succ]
  refine wpAnyG2_take (i := 3) (v := ?_) (by kernel_rfl) rfl (by kernel_rfl) (by kernel_rfl) (by kernel_rfl) (fun _ _ _ h => h) (Or.inl ⟨by rfl, ?_⟩) ⟨_, rfl⟩ ?_
  rotate_left
  · rintro wS ⟨yS, rfl⟩
    go_simp
    try (with_reducible rfl)
  try simp only [Act.put, List.setIfInBounds_toArray, List.set_cons_zero, List.set_cons_succ]
  refine wpAnyG2_take (i := 5) (v := ?_) (by kernel_rfl) rfl (by kernel_rfl) (by kernel_rfl) (by kernel_rfl) (fun _ _ _ h => h) (Or.inl ⟨by rfl, ?_⟩) ⟨_, rfl⟩ ?_
  rotate_left
  · rintro wS ⟨yS, rfl⟩
    go_simp
    try (with_reducible rfl)
  try simp only [Act.put, List.setIfInBounds_toArray, List.set_cons_zero, List.set_cons_succ]
  refine wpAnyG2_take (i := 6) (v := ?_) (by kernel_rfl) rfl (by kernel_rfl) (by kernel_rfl) (by kernel_rfl) (fun _ _ _ h => h) (Or.inl ⟨by rfl, ?_⟩) ⟨_, rfl⟩ ?_
  rotate_left
  · rintro wS ⟨yS, rfl⟩
    go_simp
    try (with_reducible rfl)
  try simp only [Act.put, List.setIfInBounds_toArray, List.set_cons_zero, List.set_cons_succ]
  refine wpAnyG2_take (i := 8) (v := ?_) (by kernel_rfl) rfl (by kernel_rfl) (by kernel_rfl) (by kernel_rfl) (fun _ _ _ h => h) (Or.inl ⟨by rfl, ?_⟩) ⟨_, rfl⟩ ?_
  rotate_left
  · rintro wS ⟨yS, rfl⟩
    go_simp
    try (with_reducible rfl)
  try simp only [Act.put, List.setIfInBounds_toArray, List.set_cons_zero, List.set_cons_succ]
  refine wpAnyG2_take (i := 9) (v := ?_) (by kernel_rfl) rfl (by kernel_rfl) (by kernel_rfl) (by kernel_rfl) (fun _ _ _ h => h) (Or.inl ⟨by rfl, ?_⟩) ⟨_, rfl⟩ ?_
  rotate_left
  · rintro wS ⟨yS, rfl⟩
    go_simp
    try (with_reducible rfl)
  try simp only [Act.put, List.setIfInBounds_toArray, List.set_cons_zero, List.set_cons_succ]
  refine wpAnyG2_take (i := 10) (v := ?_) (by kernel_rfl) rfl (by kernel_rfl) (by kernel_rfl) (by kernel_rfl) (fun _ _ _ h => h) (Or.inl ⟨by rfl, ?_⟩) ⟨_, rfl⟩ ?_
  rotate_left
  · rintro wS ⟨yS, rfl⟩
    go_simp
    try (with_reducible rfl)
  try simp only [Act.put, List.setIfInBounds_toArray, List.set_cons_zero, List.set_cons_succ]
  refine wpAnyG2_one (i := 4) (by kernel_rfl) (by decide) (wpOp_plain rfl rfl ?_)
  go_simp
  go_at_call 77
  refine (quiet_x (HW.out _ (HI.out _))).mono ?_
  rintro e w' ⟨rfl, y3, rfl⟩
  refine ⟨⟨_, rfl⟩, ?_⟩
  try simp only [Act.put, List.setIfInBounds_toArray, List.set_cons_zero, List.set_cons_succ]
  refine wpAnyG2_one (i := 7) (by kernel_rfl) (by decide) (wpOp_plain rfl rfl ?_)
  go_simp
  go_at_call 39
  refine (freed_any D p q c d k _ hn (by omega) hk (HI.out _)).mono ?_
  rintro e w' ⟨p2, c2, q2, d2, rfl, hb, hd2⟩
  have HD2 := Lib.hid hd2
  obtain ⟨y4, rfl⟩ : ∃ z : Ext w1, w' = z.v := ⟨⟨w', bT (Ext.b _) hb⟩, rfl⟩
  clear hb hd2
  refine ⟨⟨_, rfl⟩, ?_⟩
  try simp only [Act.put, List.setIfInBounds_toArray, List.set_cons_zero, List.set_cons_succ]
  refine wpAnyG2_one (i := 11) (by kernel_rfl) (by decide) (wpOp_plain rfl rfl ?_)
  go_simp
  go_at_call 77
  refine (quiet_x (HF.out _ p2 c2 q2 d2 HD2.out)).mono ?_
  rintro e w' ⟨rfl, y5, rfl⟩
  refine ⟨⟨_, rfl⟩, ?_⟩
  try simp only [Act.put, List.setIfInBounds_toArray, List.set_cons_zero, List.set_cons_succ]
  refine wpAnyG2_take (i := 12) (v := ?_) (by kernel_rfl) rfl (by kernel_rfl) (by kernel_rfl) (by kernel_rfl) (fun _ _ _ h => h) (Or.inl ⟨by rfl, ?_⟩) ⟨_, rfl⟩ ?_
  rotate_left
  · rintro wS ⟨yS, rfl⟩
    go_simp
    try (with_reducible rfl)
  try simp only [Act.put, List.setIfInBounds_toArray, List.set_cons_zero, List.set_cons_succ]
  refine wpAnyG2_done (by kernel_rfl) ?_
  refine wpAny_one (i := 13) (by kernel_rfl) (wpOp_plain rfl rfl ?_)
  go_simp
  try simp only [Act.put, List.setIfInBounds_toArray, List.set_cons_zero, List.set_cons_succ]
  refine wpAny_one (i := 14) (by kernel_rfl) (wpOp_plain rfl rfl ?_)
  go_simp
  try simp only [Act.put, List.setIfInBounds_toArray, List.set_cons_zero, List.set_cons_succ]
  refine wpAny_end (by kernel_rfl) ?_
  go_wp2
  refine bodyPost_ret (v := .tuple #[.int .i64 (X - Y), .int .i64 0]) (by simp [results, Try.f54, go_sem]) rfl ⟨rfl, ?_⟩
  exact bT HB.out y5.b
set_option maxRecDepth 100000 in
set_option maxHeartbeats 4000000 in
theorem freeR_none (D : Duct) (p q : Option Addr) (c d : Nat) (k : Int) (w : World) (hip : isPt D k = true) (hm0 : D.m = 0) (hok : D.ok = true) (hi : DuctIn w w.heap.size D p q) :
    Calls Try.prog 54 #[.agg #[.slice p D.n c, .slice q D.m d], .int .i64 k] w fun e w' => e = .returned (.tuple #[.int .i64 0, .int .i64 3]) ∧ Below w.heap.size w w' := by
  have hnm := (D.ok_parts hok).2.1
  have hn : D.n ≤ 40 := by omega
  obtain ⟨w1, x1, hw1, hb1, hz1, F0, F1⟩ := box_line w p q D.n D.m c d
  have HB := Lib.hid hb1
  have HI : Hid (∀ x : Ext w1, DuctIn x.v x.v.heap.size D p q) := fun x => (hi.bel hb1).bel x.b
  clear hb1 hz1 hi
  have HS := Lib.hid (show ∀ V : World, Calls Try.prog 19 #[.agg #[.slice p D.n c, .slice q D.m d], .int .i64 k] V fun e w' => e = .returned (.bool true) ∧ Below V.heap.size V w' from fun V => by
    have := isPointR_any D p q c d k V (by omega)
    rw [hip] at this
    exact this)
  have HC := Lib.hid (show ∀ V : World, DuctIn V V.heap.size D p q → Calls Try.prog 76 #[.agg #[.slice p D.n c, .slice q D.m d], .bool true] V fun e w' => e = .returned (.int .i64 0) ∧ Below V.heap.size V w' from fun V h => by
    have := ask_any D p q c d true V hn (by omega) h
    rw [hok] at this
    exact this)
  have jm : ((D.m : Int) == 0) = true := by simp [hm0]
  clear hok hip hnm hm0
  go_enter Try.func54, Try.ntmps54
  go_wp2
  refine quiet_e (by kernel_rfl) (by kernel_rfl) ?_
  repeat (first | go_big_quiet_step ((first | (go_at_call 19; exact quiet_x (HS.out _)) | (go_at_call 76; exact quiet_x (HC.out _ (HI.out _))))) | quiet_step ((first | (go_at_call 19; exact quiet_x (HS.out _)) | (go_at_call 76; exact quiet_x (HC.out _ (HI.out _))))))
  refine wpQuiet_nil ?_
  intro w6 hw6
  obtain ⟨y, rfl⟩ := hw6
  go_wp2
  refine bodyPost_ret (v := .tuple #[.int .i64 0, .int .i64 3]) (by simp [results, Try.f54, go_sem]) rfl ⟨rfl, ?_⟩
  exact bT HB.out y.b
set_option maxRecDepth 100000 in
set_option maxHeartbeats 4000000 in
theorem freeR_er (D : Duct) (p q : Option Addr) (c d : Nat) (k er : Int) (w : World) (hn : D.n ≤ 40) (hm : D.m ≤ 40) (he : chkE D.ok (isPt D k) = er) (h0 : er ≠ 0) (hi : DuctIn w w.heap.size D p q) :
    Calls Try.prog 54 #[.agg #[.slice p D.n c, .slice q D.m d], .int .i64 k] w fun e w' => e = .returned (.tuple #[.int .i64 0, .int .i64 er]) ∧ Below w.heap.size w w' := by
  obtain ⟨w1, x1, hw1, hb1, hz1, F0, F1⟩ := box_line w p q D.n D.m c d
  have HB := Lib.hid hb1
  have HI : Hid (∀ x : Ext w1, DuctIn x.v x.v.heap.size D p q) := fun x => (hi.bel hb1).bel x.b
  clear hb1 hz1 hi
  obtain ⟨is, his⟩ : ∃ z, isPt D k = z := ⟨_, rfl⟩
  rw [his] at he
  have HS := Lib.hid (show ∀ V : World, Calls Try.prog 19 #[.agg #[.slice p D.n c, .slice q D.m d], .int .i64 k] V fun e w' => e = .returned (.bool is) ∧ Below V.heap.size V w' from fun V => by
    have := isPointR_any D p q c d k V (by omega)
    rw [his] at this
    exact this)
  have HC := Lib.hid (show ∀ V : World, DuctIn V V.heap.size D p q → Calls Try.prog 76 #[.agg #[.slice p D.n c, .slice q D.m d], .bool is] V fun e w' => e = .returned (.int .i64 er) ∧ Below V.heap.size V w' from fun V h => by
    have := ask_any D p q c d is V hn hm h
    rw [he] at this
    exact this)
  clear he his
  go_enter Try.func54, Try.ntmps54
  go_wp2
  refine quiet_e (by kernel_rfl) (by kernel_rfl) ?_
  repeat (first | go_big_quiet_step ((first | (go_at_call 19; exact quiet_x (HS.out _)) | (go_at_call 76; exact quiet_x (HC.out _ (HI.out _))))) | quiet_step ((first | (go_at_call 19; exact quiet_x (HS.out _)) | (go_at_call 76; exact quiet_x (HC.out _ (HI.out _))))))
  refine wpQuiet_nil ?_
  intro w6 hw6
  obtain ⟨y, rfl⟩ := hw6
  go_wp2
  refine bodyPost_ret (v := .tuple #[.int .i64 0, .int .i64 er]) (by simp [results, Try.f54, go_sem]) rfl ⟨rfl, ?_⟩
  exact bT HB.out y.b
end Go.Proofs.Ytkdlppekjjbgoaa
