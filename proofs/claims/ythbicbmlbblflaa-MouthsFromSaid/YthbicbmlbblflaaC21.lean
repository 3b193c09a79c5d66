/- Boxes of mouths: Between of the program. -/
import Derived.Test.YthbicbmlbblflaaC20

set_option linter.unusedSimpArgs false

set_option linter.unusedVariables false

namespace Go.Proofs.Ythbicbmlbblflaa

open Go.RowKit Go.Shelf
attribute [local go_sem] Oper.semAt_some

theorem infoSp : (Try.prog.info? 67).map (fun i => (i.zero, i.size, i.bytes)) = some (some (.agg #[.int .i64 0, .int .i64 0]), 2, 16) := by kernel_rfl
theorem allW_two (a b : Int) {F G : Nat} (ha : a = (F : Int)) (hb : b = (G : Int)) (h1 : F ≤ 40) (h2 : G ≤ 40) : allW (fun i => if i = 0 then a else b) 0 40 2 = true := allW_iff.2 fun k _ => by
  show 0 ≤ (if k = 0 then a else b) ∧ (if k = 0 then a else b) ≤ 40
  split <;> omega
theorem two_flows {w : World} {x : Ext w} {a b : Int} {t : TypeId} : ∃ y : Ext w, x.v.alloc (Obj.cells #[.int .i64 a, .int .i64 b] t) = y.v ∧ NumIn y.v y.v.heap.size 2 (fun i => if i = 0 then a else b) (some ⟨x.v.heap.size, 0, none⟩) := by
  have h0 : (x.v.alloc (Obj.cells #[.int .i64 a, .int .i64 b] t)).cell? ⟨x.v.heap.size, 0, none⟩ = some (.int .i64 a) := by go_simp
  have h1 : (x.v.alloc (Obj.cells #[.int .i64 a, .int .i64 b] t)).cell? ⟨x.v.heap.size, 1, none⟩ = some (.int .i64 b) := by go_simp
  refine ⟨⟨x.v.alloc (Obj.cells #[.int .i64 a, .int .i64 b] t), bA x.b _⟩, rfl, fun _ => ⟨x.v.heap.size, 0, rfl, by simp, fun k hk => ?_⟩⟩
  rcases (show k = 0 ∨ k = 1 by omega) with rfl | rfl
  · exact h0
  · exact h1
set_option maxRecDepth 100000 in
set_option maxHeartbeats 16000000 in
theorem betweenP_ok (D : Bx) (p q : Option Addr) (c d F G : Nat) (w : World) (hok : D.ok = true) (hF : F ≤ G) (hG40 : G ≤ 40) (hi : BxIn w w.heap.size D p q) :
    Calls Try.prog 30 #[.agg #[.slice p D.n c, .slice q D.m d], .int .i64 (F : Int), .int .i64 (G : Int)] w fun e w' => ∃ y c', e = .returned (.tuple #[.slice y D.n c', .int .i64 0]) ∧ Below w.heap.size w w' ∧ PairIn w' w'.heap.size D.n (gv D F) (gv D G) y := by
  obtain ⟨i0, hi0, hz0, hz1, hz2⟩ := info_parts infoSp
  have I1 := Lib.hid hi0; have I2 := Lib.hid hz0; have I3 := Lib.hid hz1; have I4 := Lib.hid hz2; clear hi0 hz0 hz1 hz2
  obtain ⟨w1, x, hw1, hb1, hz1, F0, F1⟩ := box_bx w p q D.n D.m c d
  have HB := Lib.hid hb1
  have hn5 := (Bx.ok_parts hok).1
  have hm5 : D.m ≤ 5 := by have := (Bx.ok_parts hok).2.1; omega
  have HI : Hid (∀ x : Ext w1, BxIn x.v x.v.heap.size D p q) := fun x => (hi.bel hb1).bel x.b
  have HV := Lib.hid (allW_two (F : Int) (G : Int) (F := F) (G := G) rfl rfl (by omega) hG40)
  have HCE := Lib.hid (chkE_ok.2 ⟨hok, rfl⟩)
  have HOK := Lib.hid hok
  have jfg : decide ((F : Int) ≤ (G : Int)) = true := by simp; omega
  have jfg2 : F ≤ G := hF
  clear hb1 hz1 hi hok
  go_enter Try.func30, Try.ntmps30
  go_wp2
  refine wp_region_lastE 11 (by kernel_rfl) rfl (fun yr => ?_)
  refine wpAnyG_take (i := 0) (v := ?_) (by kernel_rfl) rfl (by kernel_rfl) (by kernel_rfl) (by kernel_rfl) (fun _ _ _ h => h) (Or.inl ⟨by rfl, ?_⟩) ⟨_, rfl⟩ ?_
  rotate_left
  · rintro wS ⟨yS, rfl⟩
    go_simp
    try (with_reducible rfl)
  try simp only [Act.put, List.setIfInBounds_toArray, List.set_cons_zero, List.set_cons_succ]
  refine wpAnyG_take (i := 1) (v := ?_) (by kernel_rfl) rfl (by kernel_rfl) (by kernel_rfl) (by kernel_rfl) (fun _ _ _ h => h) (Or.inl ⟨by rfl, ?_⟩) ⟨_, rfl⟩ ?_
  rotate_left
  · rintro wS ⟨yS, rfl⟩
    go_simp
    try (with_reducible rfl)
  try simp only [Act.put, List.setIfInBounds_toArray, List.set_cons_zero, List.set_cons_succ]
  refine wpAnyG_take (i := 2) (v := ?_) (by kernel_rfl) rfl (by kernel_rfl) (by kernel_rfl) (by kernel_rfl) (fun _ _ _ h => h) (Or.inl ⟨by rfl, ?_⟩) ⟨_, rfl⟩ ?_
  rotate_left
  · rintro wS ⟨yS, rfl⟩
    go_simp
    try (with_reducible rfl)
  try simp only [Act.put, List.setIfInBounds_toArray, List.set_cons_zero, List.set_cons_succ]
  refine wpAnyG_one (i := 3) (by kernel_rfl) (by decide) (wpOp_plain rfl rfl ?_)
  go_simp
  obtain ⟨ya, hya, hna⟩ := two_flows (x := yr) (a := (F : Int)) (b := (G : Int)) (t := 3)
  have HN := Lib.hid hna; clear hna
  rw [hya]; clear hya
  refine ⟨⟨_, rfl⟩, ?_⟩
  try simp only [Act.put, List.setIfInBounds_toArray, List.set_cons_zero, List.set_cons_succ]
  refine wpAnyG_one (i := 4) (by kernel_rfl) (by decide) (wpOp_plain rfl rfl ?_)
  go_simp
  go_at_call 62
  refine (areFlows_any 2 2 _ _ _ (by omega) HN.out).mono ?_
  rintro e w' ⟨rfl, rfl⟩
  rw [HV.out]
  refine ⟨⟨_, rfl⟩, ?_⟩
  try simp only [Act.put, List.setIfInBounds_toArray, List.set_cons_zero, List.set_cons_succ]
  refine wpAnyG_take (i := 5) (v := ?_) (by kernel_rfl) rfl (by kernel_rfl) (by kernel_rfl) (by kernel_rfl) (fun _ _ _ h => h) (Or.inl ⟨by rfl, ?_⟩) ⟨_, rfl⟩ ?_
  rotate_left
  · rintro wS ⟨yS, rfl⟩
    go_simp
    try (with_reducible rfl)
  try simp only [Act.put, List.setIfInBounds_toArray, List.set_cons_zero, List.set_cons_succ]
  refine wpAnyG_take (i := 6) (v := ?_) (by kernel_rfl) rfl (by kernel_rfl) (by kernel_rfl) (by kernel_rfl) (fun _ _ _ h => h) (Or.inl ⟨by rfl, ?_⟩) ⟨_, rfl⟩ ?_
  rotate_left
  · rintro wS ⟨yS, rfl⟩
    go_simp
    try (with_reducible rfl)
  try simp only [Act.put, List.setIfInBounds_toArray, List.set_cons_zero, List.set_cons_succ]
  refine wpAnyG_take (i := 7) (v := ?_) (by kernel_rfl) rfl (by kernel_rfl) (by kernel_rfl) (by kernel_rfl) (fun _ _ _ h => h) (Or.inl ⟨by rfl, ?_⟩) ⟨_, rfl⟩ ?_
  rotate_left
  · rintro wS ⟨yS, rfl⟩
    go_simp
    try (with_reducible rfl)
  try simp only [Act.put, List.setIfInBounds_toArray, List.set_cons_zero, List.set_cons_succ]
  refine wpAnyG_take (i := 8) (v := ?_) (by kernel_rfl) rfl (by kernel_rfl) (by kernel_rfl) (by kernel_rfl) (fun _ _ _ h => h) (Or.inl ⟨by rfl, ?_⟩) ⟨_, rfl⟩ ?_
  rotate_left
  · rintro wS ⟨yS, rfl⟩
    go_simp
    try (with_reducible rfl)
  try simp only [Act.put, List.setIfInBounds_toArray, List.set_cons_zero, List.set_cons_succ]
  refine wpAnyG_take (i := 9) (v := ?_) (by kernel_rfl) rfl (by kernel_rfl) (by kernel_rfl) (by kernel_rfl) (fun _ _ _ h => h) (Or.inl ⟨by rfl, ?_⟩) ⟨_, rfl⟩ ?_
  rotate_left
  · rintro wS ⟨yS, rfl⟩
    go_simp
    try (with_reducible rfl)
  try simp only [Act.put, List.setIfInBounds_toArray, List.set_cons_zero, List.set_cons_succ]
  refine wpAnyG_one (i := 10) (by kernel_rfl) (by decide) (wpOp_plain rfl rfl ?_)
  go_simp
  go_at_call 60
  refine (quiet_x (check_is HCE.out (by omega) (by omega) (HI.out _))).mono ?_
  rintro e w' ⟨rfl, yc, rfl⟩
  refine ⟨⟨_, rfl⟩, ?_⟩
  try simp only [Act.put, List.setIfInBounds_toArray, List.set_cons_zero, List.set_cons_succ]
  refine wpAnyG_done (by kernel_rfl) (by kernel_rfl) (wpOp_plain rfl rfl ?_)
  go_simp
  go_wp2
  go_cut [9, 10] (fun s5 s6 wc => ∃ a b : Nat, s5 = .pointer (some ⟨a, 0, none⟩) ∧ s6 = .pointer (some ⟨b, 0, none⟩) ∧ Below w1.heap.size w1 wc ∧ DvAt wc a (gv D F) ∧ DvAt wc b (gv D G))
  case first =>
    refine wp_region_tailE 8 2 (by kernel_rfl) rfl (fun y0 => ?_)
    refine wpAnyG2_take (i := 0) (v := ?_) (by kernel_rfl) rfl (by kernel_rfl) (by kernel_rfl) (by kernel_rfl) (fun _ _ _ h => h) (Or.inl ⟨by rfl, ?_⟩) ⟨_, rfl⟩ ?_
    rotate_left
    · rintro wS ⟨yS, rfl⟩
      go_simp
      try (with_reducible rfl)
    try simp only [Act.put, List.setIfInBounds_toArray, List.set_cons_zero, List.set_cons_succ]
    refine wpAnyG2_take (i := 1) (v := ?_) (by kernel_rfl) rfl (by kernel_rfl) (by kernel_rfl) (by kernel_rfl) (fun _ _ _ h => h) (Or.inl ⟨by rfl, ?_⟩) ⟨_, rfl⟩ ?_
    rotate_left
    · rintro wS ⟨yS, rfl⟩
      go_simp
      try (with_reducible rfl)
    try simp only [Act.put, List.setIfInBounds_toArray, List.set_cons_zero, List.set_cons_succ]
    refine wpAnyG2_take (i := 3) (v := ?_) (by kernel_rfl) rfl (by kernel_rfl) (by kernel_rfl) (by kernel_rfl) (fun _ _ _ h => h) (Or.inl ⟨by rfl, ?_⟩) ⟨_, rfl⟩ ?_
    rotate_left
    · rintro wS ⟨yS, rfl⟩
      go_simp
      try (with_reducible rfl)
    try simp only [Act.put, List.setIfInBounds_toArray, List.set_cons_zero, List.set_cons_succ]
    refine wpAnyG2_take (i := 4) (v := ?_) (by kernel_rfl) rfl (by kernel_rfl) (by kernel_rfl) (by kernel_rfl) (fun _ _ _ h => h) (Or.inl ⟨by rfl, ?_⟩) ⟨_, rfl⟩ ?_
    rotate_left
    · rintro wS ⟨yS, rfl⟩
      go_simp
      try (with_reducible rfl)
    try simp only [Act.put, List.setIfInBounds_toArray, List.set_cons_zero, List.set_cons_succ]
    refine wpAnyG2_three (i := 2) (j := 6) (k := 7) (by kernel_rfl) (by decide) (by decide) (by decide) ?_ ?_ ?_
    ·
      refine wpOp_plain rfl rfl ?_
      go_simp
      go_at_call 63
      refine (divide_any D p q c d F _ HOK.out (by omega) (HI.out _)).mono ?_
      rintro e w' ⟨rfl, hb1⟩
      obtain ⟨y1, rfl⟩ : ∃ zz : Ext w1, w' = zz.v := ⟨⟨_, bT y0.b hb1⟩, rfl⟩
      clear hb1
      refine ⟨⟨_, rfl⟩, ?_⟩
      try simp only [Act.put, List.setIfInBounds_toArray, List.set_cons_zero, List.set_cons_succ]
      refine wpAnyG2_three (i := 5) (j := 6) (k := 7) (by kernel_rfl) (by decide) (by decide) (by decide) ?_ ?_ ?_
      ·
        refine wpOp_plain rfl rfl ?_
        go_simp
        go_at_call 63
        refine (divide_any D p q c d G _ HOK.out (by omega) (HI.out _)).mono ?_
        rintro e w' ⟨rfl, hb2⟩
        obtain ⟨y2, rfl⟩ : ∃ zz : Ext w1, w' = zz.v := ⟨⟨_, bT y1.b hb2⟩, rfl⟩
        clear hb2
        refine ⟨⟨_, rfl⟩, ?_⟩
        try simp only [Act.put, List.setIfInBounds_toArray, List.set_cons_zero, List.set_cons_succ]
        refine wpAnyG2_two (i := 6) (j := 7) (by kernel_rfl) (by decide) (by decide) ?_ ?_
        ·
          refine wpOp_plain rfl rfl ?_
          go_simp
          have hb3 : Below y2.v.heap.size y2.v (y2.v.alloc (Obj.cells #[Value.int .i64 0, Value.int .i64 0, Value.int .i64 0, Value.int .i64 0, Value.int .i64 0] 73)) := bA (Below.refl _ _) _
          have hd3 := dv_new y2.v 73
          have hl3 : w1.heap.size ≤ y2.v.heap.size := y2.b.size
          obtain ⟨y3, hy3⟩ : ∃ zz : Ext w1, y2.v.alloc (Obj.cells #[Value.int .i64 0, Value.int .i64 0, Value.int .i64 0, Value.int .i64 0, Value.int .i64 0] 73) = zz.v := ⟨⟨_, bT y2.b hb3⟩, rfl⟩
          obtain ⟨A3, hA3⟩ : ∃ A, y2.v.heap.size = A := ⟨_, rfl⟩
          rw [hy3] at hd3 ⊢
          rw [hA3] at hd3 hl3 ⊢
          have HD3 := Lib.hid hd3; have HLE3 := Lib.hid hl3
          clear hb3 hd3 hl3 hy3 hA3
          refine ⟨⟨_, rfl⟩, ?_⟩
          try simp only [Act.put, List.setIfInBounds_toArray, List.set_cons_zero, List.set_cons_succ]
          refine wpAnyG2_one (i := 7) (by kernel_rfl) (by decide) ?_
          refine wpOp_plain rfl rfl ?_
          go_simp
          have hb4 : Below y3.v.heap.size y3.v (y3.v.alloc (Obj.cells #[Value.int .i64 0, Value.int .i64 0, Value.int .i64 0, Value.int .i64 0, Value.int .i64 0] 73)) := bA (Below.refl _ _) _
          have hd4 := dv_new y3.v 73
          have hl4 : w1.heap.size ≤ y3.v.heap.size := y3.b.size
          have hne4 : A3 ≠ y3.v.heap.size := by have := HD3.out.lt; omega
          have hdo4 := HD3.out.blk (hb4.block _ HD3.out.lt)
          obtain ⟨y4, hy4⟩ : ∃ zz : Ext w1, y3.v.alloc (Obj.cells #[Value.int .i64 0, Value.int .i64 0, Value.int .i64 0, Value.int .i64 0, Value.int .i64 0] 73) = zz.v := ⟨⟨_, bT y3.b hb4⟩, rfl⟩
          obtain ⟨A4, hA4⟩ : ∃ A, y3.v.heap.size = A := ⟨_, rfl⟩
          rw [hy4] at hd4 hdo4 ⊢
          rw [hA4] at hd4 hl4 hne4 ⊢
          have HD4 := Lib.hid hd4; have HLE4 := Lib.hid hl4
          have HNE4 := Lib.hid hne4; have HDO4 := Lib.hid hdo4
          clear hdo4 hne4
          clear hb4 hd4 hl4 hy4 hA4
          refine ⟨⟨_, rfl⟩, ?_⟩
          try simp only [Act.put, List.setIfInBounds_toArray, List.set_cons_zero, List.set_cons_succ]
          refine wpAnyG2_done (by kernel_rfl) ?_
          refine wpAny_one (i := 8) (by kernel_rfl) ?_
          refine wpOp_plain rfl rfl ?_
          have k0 := HDO4.out.c 0 (by omega)
          have k1 := HDO4.out.c 1 (by omega)
          have k2 := HDO4.out.c 2 (by omega)
          have k3 := HDO4.out.c 3 (by omega)
          have k4 := HDO4.out.c 4 (by omega)
          have kf := HDO4.out.fz
          go_simp
          obtain ⟨WA, hWA, hdA, hkA, hbA⟩ := set_five y4.v (gv D F) HDO4.out
          rw [hWA]
          have HDA := Lib.hid hdA; have HDB := Lib.hid (HD4.out.blk (hkA _ (Ne.symm HNE4.out))); have HBA := Lib.hid (Below.trans y4.b (hbA.mono HLE3.out))
          clear hWA hdA hkA hbA k0 k1 k2 k3 k4 kf
          try simp only [Act.put, List.setIfInBounds_toArray, List.set_cons_zero, List.set_cons_succ]
          refine wpAny_one (i := 9) (by kernel_rfl) ?_
          refine wpOp_plain rfl rfl ?_
          have k0 := HDB.out.c 0 (by omega)
          have k1 := HDB.out.c 1 (by omega)
          have k2 := HDB.out.c 2 (by omega)
          have k3 := HDB.out.c 3 (by omega)
          have k4 := HDB.out.c 4 (by omega)
          have kf := HDB.out.fz
          go_simp
          obtain ⟨WB, hWB, hdB, hkB, hbB⟩ := set_five WA (gv D G) HDB.out
          rw [hWB]
          have HDB2 := Lib.hid hdB; have HDA2 := Lib.hid (HDA.out.blk (hkB _ HNE4.out)); have HBB := Lib.hid (HBA.out.trans (hbB.mono HLE4.out))
          clear hWB hdB hkB hbB k0 k1 k2 k3 k4 kf
          refine wpAny_end (by kernel_rfl) ?_
          go_wp2_with fail
          go_meet
          exact ⟨A3, A4, rfl, rfl, HBB.out, HDA2.out, HDB2.out⟩

        ·
          refine wpOp_plain rfl rfl ?_
          go_simp
          have hb5 : Below y2.v.heap.size y2.v (y2.v.alloc (Obj.cells #[Value.int .i64 0, Value.int .i64 0, Value.int .i64 0, Value.int .i64 0, Value.int .i64 0] 73)) := bA (Below.refl _ _) _
          have hd5 := dv_new y2.v 73
          have hl5 : w1.heap.size ≤ y2.v.heap.size := y2.b.size
          obtain ⟨y5, hy5⟩ : ∃ zz : Ext w1, y2.v.alloc (Obj.cells #[Value.int .i64 0, Value.int .i64 0, Value.int .i64 0, Value.int .i64 0, Value.int .i64 0] 73) = zz.v := ⟨⟨_, bT y2.b hb5⟩, rfl⟩
          obtain ⟨A5, hA5⟩ : ∃ A, y2.v.heap.size = A := ⟨_, rfl⟩
          rw [hy5] at hd5 ⊢
          rw [hA5] at hd5 hl5 ⊢
          have HD5 := Lib.hid hd5; have HLE5 := Lib.hid hl5
          clear hb5 hd5 hl5 hy5 hA5
          refine ⟨⟨_, rfl⟩, ?_⟩
          try simp only [Act.put, List.setIfInBounds_toArray, List.set_cons_zero, List.set_cons_succ]
          refine wpAnyG2_one (i := 6) (by kernel_rfl) (by decide) ?_
          refine wpOp_plain rfl rfl ?_
          go_simp
          have hb6 : Below y5.v.heap.size y5.v (y5.v.alloc (Obj.cells #[Value.int .i64 0, Value.int .i64 0, Value.int .i64 0, Value.int .i64 0, Value.int .i64 0] 73)) := bA (Below.refl _ _) _
          have hd6 := dv_new y5.v 73
          have hl6 : w1.heap.size ≤ y5.v.heap.size := y5.b.size
          have hne6 : A5 ≠ y5.v.heap.size := by have := HD5.out.lt; omega
          have hdo6 := HD5.out.blk (hb6.block _ HD5.out.lt)
          obtain ⟨y6, hy6⟩ : ∃ zz : Ext w1, y5.v.alloc (Obj.cells #[Value.int .i64 0, Value.int .i64 0, Value.int .i64 0, Value.int .i64 0, Value.int .i64 0] 73) = zz.v := ⟨⟨_, bT y5.b hb6⟩, rfl⟩
          obtain ⟨A6, hA6⟩ : ∃ A, y5.v.heap.size = A := ⟨_, rfl⟩
          rw [hy6] at hd6 hdo6 ⊢
          rw [hA6] at hd6 hl6 hne6 ⊢
          have HD6 := Lib.hid hd6; have HLE6 := Lib.hid hl6
          have HNE6 := Lib.hid hne6; have HDO6 := Lib.hid hdo6
          clear hdo6 hne6
          clear hb6 hd6 hl6 hy6 hA6
          refine ⟨⟨_, rfl⟩, ?_⟩
          try simp only [Act.put, List.setIfInBounds_toArray, List.set_cons_zero, List.set_cons_succ]
          refine wpAnyG2_done (by kernel_rfl) ?_
          refine wpAny_one (i := 8) (by kernel_rfl) ?_
          refine wpOp_plain rfl rfl ?_
          have k0 := HD6.out.c 0 (by omega)
          have k1 := HD6.out.c 1 (by omega)
          have k2 := HD6.out.c 2 (by omega)
          have k3 := HD6.out.c 3 (by omega)
          have k4 := HD6.out.c 4 (by omega)
          have kf := HD6.out.fz
          go_simp
          obtain ⟨WA, hWA, hdA, hkA, hbA⟩ := set_five y6.v (gv D F) HD6.out
          rw [hWA]
          have HDA := Lib.hid hdA; have HDB := Lib.hid (HDO6.out.blk (hkA _ HNE6.out)); have HBA := Lib.hid (Below.trans y6.b (hbA.mono HLE6.out))
          clear hWA hdA hkA hbA k0 k1 k2 k3 k4 kf
          try simp only [Act.put, List.setIfInBounds_toArray, List.set_cons_zero, List.set_cons_succ]
          refine wpAny_one (i := 9) (by kernel_rfl) ?_
          refine wpOp_plain rfl rfl ?_
          have k0 := HDB.out.c 0 (by omega)
          have k1 := HDB.out.c 1 (by omega)
          have k2 := HDB.out.c 2 (by omega)
          have k3 := HDB.out.c 3 (by omega)
          have k4 := HDB.out.c 4 (by omega)
          have kf := HDB.out.fz
          go_simp
          obtain ⟨WB, hWB, hdB, hkB, hbB⟩ := set_five WA (gv D G) HDB.out
          rw [hWB]
          have HDB2 := Lib.hid hdB; have HDA2 := Lib.hid (HDA.out.blk (hkB _ (Ne.symm HNE6.out))); have HBB := Lib.hid (HBA.out.trans (hbB.mono HLE5.out))
          clear hWB hdB hkB hbB k0 k1 k2 k3 k4 kf
          refine wpAny_end (by kernel_rfl) ?_
          go_wp2_with fail
          go_meet
          exact ⟨A6, A5, rfl, rfl, HBB.out, HDA2.out, HDB2.out⟩


      ·
        refine wpOp_plain rfl rfl ?_
        go_simp
        have hb7 : Below y1.v.heap.size y1.v (y1.v.alloc (Obj.cells #[Value.int .i64 0, Value.int .i64 0, Value.int .i64 0, Value.int .i64 0, Value.int .i64 0] 73)) := bA (Below.refl _ _) _
        have hd7 := dv_new y1.v 73
        have hl7 : w1.heap.size ≤ y1.v.heap.size := y1.b.size
        obtain ⟨y7, hy7⟩ : ∃ zz : Ext w1, y1.v.alloc (Obj.cells #[Value.int .i64 0, Value.int .i64 0, Value.int .i64 0, Value.int .i64 0, Value.int .i64 0] 73) = zz.v := ⟨⟨_, bT y1.b hb7⟩, rfl⟩
        obtain ⟨A7, hA7⟩ : ∃ A, y1.v.heap.size = A := ⟨_, rfl⟩
        rw [hy7] at hd7 ⊢
        rw [hA7] at hd7 hl7 ⊢
        have HD7 := Lib.hid hd7; have HLE7 := Lib.hid hl7
        clear hb7 hd7 hl7 hy7 hA7
        refine ⟨⟨_, rfl⟩, ?_⟩
        try simp only [Act.put, List.setIfInBounds_toArray, List.set_cons_zero, List.set_cons_succ]
        refine wpAnyG2_two (i := 5) (j := 7) (by kernel_rfl) (by decide) (by decide) ?_ ?_
        ·
          refine wpOp_plain rfl rfl ?_
          go_simp
          go_at_call 63
          refine (divide_any D p q c d G _ HOK.out (by omega) (HI.out _)).mono ?_
          rintro e w' ⟨rfl, hb8⟩
          obtain ⟨y8, rfl⟩ : ∃ zz : Ext w1, w' = zz.v := ⟨⟨_, bT y7.b hb8⟩, rfl⟩
          have HD8_6 := Lib.hid (HD7.out.blk (hb8.block _ HD7.out.lt))
          clear hb8
          refine ⟨⟨_, rfl⟩, ?_⟩
          try simp only [Act.put, List.setIfInBounds_toArray, List.set_cons_zero, List.set_cons_succ]
          refine wpAnyG2_one (i := 7) (by kernel_rfl) (by decide) ?_
          refine wpOp_plain rfl rfl ?_
          go_simp
          have hb9 : Below y8.v.heap.size y8.v (y8.v.alloc (Obj.cells #[Value.int .i64 0, Value.int .i64 0, Value.int .i64 0, Value.int .i64 0, Value.int .i64 0] 73)) := bA (Below.refl _ _) _
          have hd9 := dv_new y8.v 73
          have hl9 : w1.heap.size ≤ y8.v.heap.size := y8.b.size
          have hne9 : A7 ≠ y8.v.heap.size := by have := HD8_6.out.lt; omega
          have hdo9 := HD8_6.out.blk (hb9.block _ HD8_6.out.lt)
          obtain ⟨y9, hy9⟩ : ∃ zz : Ext w1, y8.v.alloc (Obj.cells #[Value.int .i64 0, Value.int .i64 0, Value.int .i64 0, Value.int .i64 0, Value.int .i64 0] 73) = zz.v := ⟨⟨_, bT y8.b hb9⟩, rfl⟩
          obtain ⟨A9, hA9⟩ : ∃ A, y8.v.heap.size = A := ⟨_, rfl⟩
          rw [hy9] at hd9 hdo9 ⊢
          rw [hA9] at hd9 hl9 hne9 ⊢
          have HD9 := Lib.hid hd9; have HLE9 := Lib.hid hl9
          have HNE9 := Lib.hid hne9; have HDO9 := Lib.hid hdo9
          clear hdo9 hne9
          clear hb9 hd9 hl9 hy9 hA9
          refine ⟨⟨_, rfl⟩, ?_⟩
          try simp only [Act.put, List.setIfInBounds_toArray, List.set_cons_zero, List.set_cons_succ]
          refine wpAnyG2_done (by kernel_rfl) ?_
          refine wpAny_one (i := 8) (by kernel_rfl) ?_
          refine wpOp_plain rfl rfl ?_
          have k0 := HDO9.out.c 0 (by omega)
          have k1 := HDO9.out.c 1 (by omega)
          have k2 := HDO9.out.c 2 (by omega)
          have k3 := HDO9.out.c 3 (by omega)
          have k4 := HDO9.out.c 4 (by omega)
          have kf := HDO9.out.fz
          go_simp
          obtain ⟨WA, hWA, hdA, hkA, hbA⟩ := set_five y9.v (gv D F) HDO9.out
          rw [hWA]
          have HDA := Lib.hid hdA; have HDB := Lib.hid (HD9.out.blk (hkA _ (Ne.symm HNE9.out))); have HBA := Lib.hid (Below.trans y9.b (hbA.mono HLE7.out))
          clear hWA hdA hkA hbA k0 k1 k2 k3 k4 kf
          try simp only [Act.put, List.setIfInBounds_toArray, List.set_cons_zero, List.set_cons_succ]
          refine wpAny_one (i := 9) (by kernel_rfl) ?_
          refine wpOp_plain rfl rfl ?_
          have k0 := HDB.out.c 0 (by omega)
          have k1 := HDB.out.c 1 (by omega)
          have k2 := HDB.out.c 2 (by omega)
          have k3 := HDB.out.c 3 (by omega)
          have k4 := HDB.out.c 4 (by omega)
          have kf := HDB.out.fz
          go_simp
          obtain ⟨WB, hWB, hdB, hkB, hbB⟩ := set_five WA (gv D G) HDB.out
          rw [hWB]
          have HDB2 := Lib.hid hdB; have HDA2 := Lib.hid (HDA.out.blk (hkB _ HNE9.out)); have HBB := Lib.hid (HBA.out.trans (hbB.mono HLE9.out))
          clear hWB hdB hkB hbB k0 k1 k2 k3 k4 kf
          refine wpAny_end (by kernel_rfl) ?_
          go_wp2_with fail
          go_meet
          exact ⟨A7, A9, rfl, rfl, HBB.out, HDA2.out, HDB2.out⟩

        ·
          refine wpOp_plain rfl rfl ?_
          go_simp
          have hb10 : Below y7.v.heap.size y7.v (y7.v.alloc (Obj.cells #[Value.int .i64 0, Value.int .i64 0, Value.int .i64 0, Value.int .i64 0, Value.int .i64 0] 73)) := bA (Below.refl _ _) _
          have hd10 := dv_new y7.v 73
          have hl10 : w1.heap.size ≤ y7.v.heap.size := y7.b.size
          have hne10 : A7 ≠ y7.v.heap.size := by have := HD7.out.lt; omega
          have hdo10 := HD7.out.blk (hb10.block _ HD7.out.lt)
          obtain ⟨y10, hy10⟩ : ∃ zz : Ext w1, y7.v.alloc (Obj.cells #[Value.int .i64 0, Value.int .i64 0, Value.int .i64 0, Value.int .i64 0, Value.int .i64 0] 73) = zz.v := ⟨⟨_, bT y7.b hb10⟩, rfl⟩
          obtain ⟨A10, hA10⟩ : ∃ A, y7.v.heap.size = A := ⟨_, rfl⟩
          rw [hy10] at hd10 hdo10 ⊢
          rw [hA10] at hd10 hl10 hne10 ⊢
          have HD10 := Lib.hid hd10; have HLE10 := Lib.hid hl10
          have HNE10 := Lib.hid hne10; have HDO10 := Lib.hid hdo10
          clear hdo10 hne10
          clear hb10 hd10 hl10 hy10 hA10
          refine ⟨⟨_, rfl⟩, ?_⟩
          try simp only [Act.put, List.setIfInBounds_toArray, List.set_cons_zero, List.set_cons_succ]
          refine wpAnyG2_one (i := 5) (by kernel_rfl) (by decide) ?_
          refine wpOp_plain rfl rfl ?_
          go_simp
          go_at_call 63
          refine (divide_any D p q c d G _ HOK.out (by omega) (HI.out _)).mono ?_
          rintro e w' ⟨rfl, hb11⟩
          obtain ⟨y11, rfl⟩ : ∃ zz : Ext w1, w' = zz.v := ⟨⟨_, bT y10.b hb11⟩, rfl⟩
          have HD11_6 := Lib.hid (HDO10.out.blk (hb11.block _ HDO10.out.lt))
          have HD11_7 := Lib.hid (HD10.out.blk (hb11.block _ HD10.out.lt))
          clear hb11
          refine ⟨⟨_, rfl⟩, ?_⟩
          try simp only [Act.put, List.setIfInBounds_toArray, List.set_cons_zero, List.set_cons_succ]
          refine wpAnyG2_done (by kernel_rfl) ?_
          refine wpAny_one (i := 8) (by kernel_rfl) ?_
          refine wpOp_plain rfl rfl ?_
          have k0 := HD11_6.out.c 0 (by omega)
          have k1 := HD11_6.out.c 1 (by omega)
          have k2 := HD11_6.out.c 2 (by omega)
          have k3 := HD11_6.out.c 3 (by omega)
          have k4 := HD11_6.out.c 4 (by omega)
          have kf := HD11_6.out.fz
          go_simp
          obtain ⟨WA, hWA, hdA, hkA, hbA⟩ := set_five y11.v (gv D F) HD11_6.out
          rw [hWA]
          have HDA := Lib.hid hdA; have HDB := Lib.hid (HD11_7.out.blk (hkA _ (Ne.symm HNE10.out))); have HBA := Lib.hid (Below.trans y11.b (hbA.mono HLE7.out))
          clear hWA hdA hkA hbA k0 k1 k2 k3 k4 kf
          try simp only [Act.put, List.setIfInBounds_toArray, List.set_cons_zero, List.set_cons_succ]
          refine wpAny_one (i := 9) (by kernel_rfl) ?_
          refine wpOp_plain rfl rfl ?_
          have k0 := HDB.out.c 0 (by omega)
          have k1 := HDB.out.c 1 (by omega)
          have k2 := HDB.out.c 2 (by omega)
          have k3 := HDB.out.c 3 (by omega)
          have k4 := HDB.out.c 4 (by omega)
          have kf := HDB.out.fz
          go_simp
          obtain ⟨WB, hWB, hdB, hkB, hbB⟩ := set_five WA (gv D G) HDB.out
          rw [hWB]
          have HDB2 := Lib.hid hdB; have HDA2 := Lib.hid (HDA.out.blk (hkB _ HNE10.out)); have HBB := Lib.hid (HBA.out.trans (hbB.mono HLE10.out))
          clear hWB hdB hkB hbB k0 k1 k2 k3 k4 kf
          refine wpAny_end (by kernel_rfl) ?_
          go_wp2_with fail
          go_meet
          exact ⟨A7, A10, rfl, rfl, HBB.out, HDA2.out, HDB2.out⟩


      ·
        refine wpOp_plain rfl rfl ?_
        go_simp
        have hb12 : Below y1.v.heap.size y1.v (y1.v.alloc (Obj.cells #[Value.int .i64 0, Value.int .i64 0, Value.int .i64 0, Value.int .i64 0, Value.int .i64 0] 73)) := bA (Below.refl _ _) _
        have hd12 := dv_new y1.v 73
        have hl12 : w1.heap.size ≤ y1.v.heap.size := y1.b.size
        obtain ⟨y12, hy12⟩ : ∃ zz : Ext w1, y1.v.alloc (Obj.cells #[Value.int .i64 0, Value.int .i64 0, Value.int .i64 0, Value.int .i64 0, Value.int .i64 0] 73) = zz.v := ⟨⟨_, bT y1.b hb12⟩, rfl⟩
        obtain ⟨A12, hA12⟩ : ∃ A, y1.v.heap.size = A := ⟨_, rfl⟩
        rw [hy12] at hd12 ⊢
        rw [hA12] at hd12 hl12 ⊢
        have HD12 := Lib.hid hd12; have HLE12 := Lib.hid hl12
        clear hb12 hd12 hl12 hy12 hA12
        refine ⟨⟨_, rfl⟩, ?_⟩
        try simp only [Act.put, List.setIfInBounds_toArray, List.set_cons_zero, List.set_cons_succ]
        refine wpAnyG2_two (i := 5) (j := 6) (by kernel_rfl) (by decide) (by decide) ?_ ?_
        ·
          refine wpOp_plain rfl rfl ?_
          go_simp
          go_at_call 63
          refine (divide_any D p q c d G _ HOK.out (by omega) (HI.out _)).mono ?_
          rintro e w' ⟨rfl, hb13⟩
          obtain ⟨y13, rfl⟩ : ∃ zz : Ext w1, w' = zz.v := ⟨⟨_, bT y12.b hb13⟩, rfl⟩
          have HD13_7 := Lib.hid (HD12.out.blk (hb13.block _ HD12.out.lt))
          clear hb13
          refine ⟨⟨_, rfl⟩, ?_⟩
          try simp only [Act.put, List.setIfInBounds_toArray, List.set_cons_zero, List.set_cons_succ]
          refine wpAnyG2_one (i := 6) (by kernel_rfl) (by decide) ?_
          refine wpOp_plain rfl rfl ?_
          go_simp
          have hb14 : Below y13.v.heap.size y13.v (y13.v.alloc (Obj.cells #[Value.int .i64 0, Value.int .i64 0, Value.int .i64 0, Value.int .i64 0, Value.int .i64 0] 73)) := bA (Below.refl _ _) _
          have hd14 := dv_new y13.v 73
          have hl14 : w1.heap.size ≤ y13.v.heap.size := y13.b.size
          have hne14 : A12 ≠ y13.v.heap.size := by have := HD13_7.out.lt; omega
          have hdo14 := HD13_7.out.blk (hb14.block _ HD13_7.out.lt)
          obtain ⟨y14, hy14⟩ : ∃ zz : Ext w1, y13.v.alloc (Obj.cells #[Value.int .i64 0, Value.int .i64 0, Value.int .i64 0, Value.int .i64 0, Value.int .i64 0] 73) = zz.v := ⟨⟨_, bT y13.b hb14⟩, rfl⟩
          obtain ⟨A14, hA14⟩ : ∃ A, y13.v.heap.size = A := ⟨_, rfl⟩
          rw [hy14] at hd14 hdo14 ⊢
          rw [hA14] at hd14 hl14 hne14 ⊢
          have HD14 := Lib.hid hd14; have HLE14 := Lib.hid hl14
          have HNE14 := Lib.hid hne14; have HDO14 := Lib.hid hdo14
          clear hdo14 hne14
          clear hb14 hd14 hl14 hy14 hA14
          refine ⟨⟨_, rfl⟩, ?_⟩
          try simp only [Act.put, List.setIfInBounds_toArray, List.set_cons_zero, List.set_cons_succ]
          refine wpAnyG2_done (by kernel_rfl) ?_
          refine wpAny_one (i := 8) (by kernel_rfl) ?_
          refine wpOp_plain rfl rfl ?_
          have k0 := HD14.out.c 0 (by omega)
          have k1 := HD14.out.c 1 (by omega)
          have k2 := HD14.out.c 2 (by omega)
          have k3 := HD14.out.c 3 (by omega)
          have k4 := HD14.out.c 4 (by omega)
          have kf := HD14.out.fz
          go_simp
          obtain ⟨WA, hWA, hdA, hkA, hbA⟩ := set_five y14.v (gv D F) HD14.out
          rw [hWA]
          have HDA := Lib.hid hdA; have HDB := Lib.hid (HDO14.out.blk (hkA _ HNE14.out)); have HBA := Lib.hid (Below.trans y14.b (hbA.mono HLE14.out))
          clear hWA hdA hkA hbA k0 k1 k2 k3 k4 kf
          try simp only [Act.put, List.setIfInBounds_toArray, List.set_cons_zero, List.set_cons_succ]
          refine wpAny_one (i := 9) (by kernel_rfl) ?_
          refine wpOp_plain rfl rfl ?_
          have k0 := HDB.out.c 0 (by omega)
          have k1 := HDB.out.c 1 (by omega)
          have k2 := HDB.out.c 2 (by omega)
          have k3 := HDB.out.c 3 (by omega)
          have k4 := HDB.out.c 4 (by omega)
          have kf := HDB.out.fz
          go_simp
          obtain ⟨WB, hWB, hdB, hkB, hbB⟩ := set_five WA (gv D G) HDB.out
          rw [hWB]
          have HDB2 := Lib.hid hdB; have HDA2 := Lib.hid (HDA.out.blk (hkB _ (Ne.symm HNE14.out))); have HBB := Lib.hid (HBA.out.trans (hbB.mono HLE12.out))
          clear hWB hdB hkB hbB k0 k1 k2 k3 k4 kf
          refine wpAny_end (by kernel_rfl) ?_
          go_wp2_with fail
          go_meet
          exact ⟨A14, A12, rfl, rfl, HBB.out, HDA2.out, HDB2.out⟩

        ·
          refine wpOp_plain rfl rfl ?_
          go_simp
          have hb15 : Below y12.v.heap.size y12.v (y12.v.alloc (Obj.cells #[Value.int .i64 0, Value.int .i64 0, Value.int .i64 0, Value.int .i64 0, Value.int .i64 0] 73)) := bA (Below.refl _ _) _
          have hd15 := dv_new y12.v 73
          have hl15 : w1.heap.size ≤ y12.v.heap.size := y12.b.size
          have hne15 : A12 ≠ y12.v.heap.size := by have := HD12.out.lt; omega
          have hdo15 := HD12.out.blk (hb15.block _ HD12.out.lt)
          obtain ⟨y15, hy15⟩ : ∃ zz : Ext w1, y12.v.alloc (Obj.cells #[Value.int .i64 0, Value.int .i64 0, Value.int .i64 0, Value.int .i64 0, Value.int .i64 0] 73) = zz.v := ⟨⟨_, bT y12.b hb15⟩, rfl⟩
          obtain ⟨A15, hA15⟩ : ∃ A, y12.v.heap.size = A := ⟨_, rfl⟩
          rw [hy15] at hd15 hdo15 ⊢
          rw [hA15] at hd15 hl15 hne15 ⊢
          have HD15 := Lib.hid hd15; have HLE15 := Lib.hid hl15
          have HNE15 := Lib.hid hne15; have HDO15 := Lib.hid hdo15
          clear hdo15 hne15
          clear hb15 hd15 hl15 hy15 hA15
          refine ⟨⟨_, rfl⟩, ?_⟩
          try simp only [Act.put, List.setIfInBounds_toArray, List.set_cons_zero, List.set_cons_succ]
          refine wpAnyG2_one (i := 5) (by kernel_rfl) (by decide) ?_
          refine wpOp_plain rfl rfl ?_
          go_simp
          go_at_call 63
          refine (divide_any D p q c d G _ HOK.out (by omega) (HI.out _)).mono ?_
          rintro e w' ⟨rfl, hb16⟩
          obtain ⟨y16, rfl⟩ : ∃ zz : Ext w1, w' = zz.v := ⟨⟨_, bT y15.b hb16⟩, rfl⟩
          have HD16_7 := Lib.hid (HDO15.out.blk (hb16.block _ HDO15.out.lt))
          have HD16_6 := Lib.hid (HD15.out.blk (hb16.block _ HD15.out.lt))
          clear hb16
          refine ⟨⟨_, rfl⟩, ?_⟩
          try simp only [Act.put, List.setIfInBounds_toArray, List.set_cons_zero, List.set_cons_succ]
          refine wpAnyG2_done (by kernel_rfl) ?_
          refine wpAny_one (i := 8) (by kernel_rfl) ?_
          refine wpOp_plain rfl rfl ?_
          have k0 := HD16_6.out.c 0 (by omega)
          have k1 := HD16_6.out.c 1 (by omega)
          have k2 := HD16_6.out.c 2 (by omega)
          have k3 := HD16_6.out.c 3 (by omega)
          have k4 := HD16_6.out.c 4 (by omega)
          have kf := HD16_6.out.fz
          go_simp
          obtain ⟨WA, hWA, hdA, hkA, hbA⟩ := set_five y16.v (gv D F) HD16_6.out
          rw [hWA]
          have HDA := Lib.hid hdA; have HDB := Lib.hid (HD16_7.out.blk (hkA _ HNE15.out)); have HBA := Lib.hid (Below.trans y16.b (hbA.mono HLE15.out))
          clear hWA hdA hkA hbA k0 k1 k2 k3 k4 kf
          try simp only [Act.put, List.setIfInBounds_toArray, List.set_cons_zero, List.set_cons_succ]
          refine wpAny_one (i := 9) (by kernel_rfl) ?_
          refine wpOp_plain rfl rfl ?_
          have k0 := HDB.out.c 0 (by omega)
          have k1 := HDB.out.c 1 (by omega)
          have k2 := HDB.out.c 2 (by omega)
          have k3 := HDB.out.c 3 (by omega)
          have k4 := HDB.out.c 4 (by omega)
          have kf := HDB.out.fz
          go_simp
          obtain ⟨WB, hWB, hdB, hkB, hbB⟩ := set_five WA (gv D G) HDB.out
          rw [hWB]
          have HDB2 := Lib.hid hdB; have HDA2 := Lib.hid (HDA.out.blk (hkB _ (Ne.symm HNE15.out))); have HBB := Lib.hid (HBA.out.trans (hbB.mono HLE12.out))
          clear hWB hdB hkB hbB k0 k1 k2 k3 k4 kf
          refine wpAny_end (by kernel_rfl) ?_
          go_wp2_with fail
          go_meet
          exact ⟨A15, A12, rfl, rfl, HBB.out, HDA2.out, HDB2.out⟩



    ·
      refine wpOp_plain rfl rfl ?_
      go_simp
      have hb17 : Below y0.v.heap.size y0.v (y0.v.alloc (Obj.cells #[Value.int .i64 0, Value.int .i64 0, Value.int .i64 0, Value.int .i64 0, Value.int .i64 0] 73)) := bA (Below.refl _ _) _
      have hd17 := dv_new y0.v 73
      have hl17 : w1.heap.size ≤ y0.v.heap.size := y0.b.size
      obtain ⟨y17, hy17⟩ : ∃ zz : Ext w1, y0.v.alloc (Obj.cells #[Value.int .i64 0, Value.int .i64 0, Value.int .i64 0, Value.int .i64 0, Value.int .i64 0] 73) = zz.v := ⟨⟨_, bT y0.b hb17⟩, rfl⟩
      obtain ⟨A17, hA17⟩ : ∃ A, y0.v.heap.size = A := ⟨_, rfl⟩
      rw [hy17] at hd17 ⊢
      rw [hA17] at hd17 hl17 ⊢
      have HD17 := Lib.hid hd17; have HLE17 := Lib.hid hl17
      clear hb17 hd17 hl17 hy17 hA17
      refine ⟨⟨_, rfl⟩, ?_⟩
      try simp only [Act.put, List.setIfInBounds_toArray, List.set_cons_zero, List.set_cons_succ]
      refine wpAnyG2_two (i := 2) (j := 7) (by kernel_rfl) (by decide) (by decide) ?_ ?_
      ·
        refine wpOp_plain rfl rfl ?_
        go_simp
        go_at_call 63
        refine (divide_any D p q c d F _ HOK.out (by omega) (HI.out _)).mono ?_
        rintro e w' ⟨rfl, hb18⟩
        obtain ⟨y18, rfl⟩ : ∃ zz : Ext w1, w' = zz.v := ⟨⟨_, bT y17.b hb18⟩, rfl⟩
        have HD18_6 := Lib.hid (HD17.out.blk (hb18.block _ HD17.out.lt))
        clear hb18
        refine ⟨⟨_, rfl⟩, ?_⟩
        try simp only [Act.put, List.setIfInBounds_toArray, List.set_cons_zero, List.set_cons_succ]
        refine wpAnyG2_two (i := 5) (j := 7) (by kernel_rfl) (by decide) (by decide) ?_ ?_
        ·
          refine wpOp_plain rfl rfl ?_
          go_simp
          go_at_call 63
          refine (divide_any D p q c d G _ HOK.out (by omega) (HI.out _)).mono ?_
          rintro e w' ⟨rfl, hb19⟩
          obtain ⟨y19, rfl⟩ : ∃ zz : Ext w1, w' = zz.v := ⟨⟨_, bT y18.b hb19⟩, rfl⟩
          have HD19_6 := Lib.hid (HD18_6.out.blk (hb19.block _ HD18_6.out.lt))
          clear hb19
          refine ⟨⟨_, rfl⟩, ?_⟩
          try simp only [Act.put, List.setIfInBounds_toArray, List.set_cons_zero, List.set_cons_succ]
          refine wpAnyG2_one (i := 7) (by kernel_rfl) (by decide) ?_
          refine wpOp_plain rfl rfl ?_
          go_simp
          have hb20 : Below y19.v.heap.size y19.v (y19.v.alloc (Obj.cells #[Value.int .i64 0, Value.int .i64 0, Value.int .i64 0, Value.int .i64 0, Value.int .i64 0] 73)) := bA (Below.refl _ _) _
          have hd20 := dv_new y19.v 73
          have hl20 : w1.heap.size ≤ y19.v.heap.size := y19.b.size
          have hne20 : A17 ≠ y19.v.heap.size := by have := HD19_6.out.lt; omega
          have hdo20 := HD19_6.out.blk (hb20.block _ HD19_6.out.lt)
          obtain ⟨y20, hy20⟩ : ∃ zz : Ext w1, y19.v.alloc (Obj.cells #[Value.int .i64 0, Value.int .i64 0, Value.int .i64 0, Value.int .i64 0, Value.int .i64 0] 73) = zz.v := ⟨⟨_, bT y19.b hb20⟩, rfl⟩
          obtain ⟨A20, hA20⟩ : ∃ A, y19.v.heap.size = A := ⟨_, rfl⟩
          rw [hy20] at hd20 hdo20 ⊢
          rw [hA20] at hd20 hl20 hne20 ⊢
          have HD20 := Lib.hid hd20; have HLE20 := Lib.hid hl20
          have HNE20 := Lib.hid hne20; have HDO20 := Lib.hid hdo20
          clear hdo20 hne20
          clear hb20 hd20 hl20 hy20 hA20
          refine ⟨⟨_, rfl⟩, ?_⟩
          try simp only [Act.put, List.setIfInBounds_toArray, List.set_cons_zero, List.set_cons_succ]
          refine wpAnyG2_done (by kernel_rfl) ?_
          refine wpAny_one (i := 8) (by kernel_rfl) ?_
          refine wpOp_plain rfl rfl ?_
          have k0 := HDO20.out.c 0 (by omega)
          have k1 := HDO20.out.c 1 (by omega)
          have k2 := HDO20.out.c 2 (by omega)
          have k3 := HDO20.out.c 3 (by omega)
          have k4 := HDO20.out.c 4 (by omega)
          have kf := HDO20.out.fz
          go_simp
          obtain ⟨WA, hWA, hdA, hkA, hbA⟩ := set_five y20.v (gv D F) HDO20.out
          rw [hWA]
          have HDA := Lib.hid hdA; have HDB := Lib.hid (HD20.out.blk (hkA _ (Ne.symm HNE20.out))); have HBA := Lib.hid (Below.trans y20.b (hbA.mono HLE17.out))
          clear hWA hdA hkA hbA k0 k1 k2 k3 k4 kf
          try simp only [Act.put, List.setIfInBounds_toArray, List.set_cons_zero, List.set_cons_succ]
          refine wpAny_one (i := 9) (by kernel_rfl) ?_
          refine wpOp_plain rfl rfl ?_
          have k0 := HDB.out.c 0 (by omega)
          have k1 := HDB.out.c 1 (by omega)
          have k2 := HDB.out.c 2 (by omega)
          have k3 := HDB.out.c 3 (by omega)
          have k4 := HDB.out.c 4 (by omega)
          have kf := HDB.out.fz
          go_simp
          obtain ⟨WB, hWB, hdB, hkB, hbB⟩ := set_five WA (gv D G) HDB.out
          rw [hWB]
          have HDB2 := Lib.hid hdB; have HDA2 := Lib.hid (HDA.out.blk (hkB _ HNE20.out)); have HBB := Lib.hid (HBA.out.trans (hbB.mono HLE20.out))
          clear hWB hdB hkB hbB k0 k1 k2 k3 k4 kf
          refine wpAny_end (by kernel_rfl) ?_
          go_wp2_with fail
          go_meet
          exact ⟨A17, A20, rfl, rfl, HBB.out, HDA2.out, HDB2.out⟩

        ·
          refine wpOp_plain rfl rfl ?_
          go_simp
          have hb21 : Below y18.v.heap.size y18.v (y18.v.alloc (Obj.cells #[Value.int .i64 0, Value.int .i64 0, Value.int .i64 0, Value.int .i64 0, Value.int .i64 0] 73)) := bA (Below.refl _ _) _
          have hd21 := dv_new y18.v 73
          have hl21 : w1.heap.size ≤ y18.v.heap.size := y18.b.size
          have hne21 : A17 ≠ y18.v.heap.size := by have := HD18_6.out.lt; omega
          have hdo21 := HD18_6.out.blk (hb21.block _ HD18_6.out.lt)
          obtain ⟨y21, hy21⟩ : ∃ zz : Ext w1, y18.v.alloc (Obj.cells #[Value.int .i64 0, Value.int .i64 0, Value.int .i64 0, Value.int .i64 0, Value.int .i64 0] 73) = zz.v := ⟨⟨_, bT y18.b hb21⟩, rfl⟩
          obtain ⟨A21, hA21⟩ : ∃ A, y18.v.heap.size = A := ⟨_, rfl⟩
          rw [hy21] at hd21 hdo21 ⊢
          rw [hA21] at hd21 hl21 hne21 ⊢
          have HD21 := Lib.hid hd21; have HLE21 := Lib.hid hl21
          have HNE21 := Lib.hid hne21; have HDO21 := Lib.hid hdo21
          clear hdo21 hne21
          clear hb21 hd21 hl21 hy21 hA21
          refine ⟨⟨_, rfl⟩, ?_⟩
          try simp only [Act.put, List.setIfInBounds_toArray, List.set_cons_zero, List.set_cons_succ]
          refine wpAnyG2_one (i := 5) (by kernel_rfl) (by decide) ?_
          refine wpOp_plain rfl rfl ?_
          go_simp
          go_at_call 63
          refine (divide_any D p q c d G _ HOK.out (by omega) (HI.out _)).mono ?_
          rintro e w' ⟨rfl, hb22⟩
          obtain ⟨y22, rfl⟩ : ∃ zz : Ext w1, w' = zz.v := ⟨⟨_, bT y21.b hb22⟩, rfl⟩
          have HD22_6 := Lib.hid (HDO21.out.blk (hb22.block _ HDO21.out.lt))
          have HD22_7 := Lib.hid (HD21.out.blk (hb22.block _ HD21.out.lt))
          clear hb22
          refine ⟨⟨_, rfl⟩, ?_⟩
          try simp only [Act.put, List.setIfInBounds_toArray, List.set_cons_zero, List.set_cons_succ]
          refine wpAnyG2_done (by kernel_rfl) ?_
          refine wpAny_one (i := 8) (by kernel_rfl) ?_
          refine wpOp_plain rfl rfl ?_
          have k0 := HD22_6.out.c 0 (by omega)
          have k1 := HD22_6.out.c 1 (by omega)
          have k2 := HD22_6.out.c 2 (by omega)
          have k3 := HD22_6.out.c 3 (by omega)
          have k4 := HD22_6.out.c 4 (by omega)
          have kf := HD22_6.out.fz
          go_simp
          obtain ⟨WA, hWA, hdA, hkA, hbA⟩ := set_five y22.v (gv D F) HD22_6.out
          rw [hWA]
          have HDA := Lib.hid hdA; have HDB := Lib.hid (HD22_7.out.blk (hkA _ (Ne.symm HNE21.out))); have HBA := Lib.hid (Below.trans y22.b (hbA.mono HLE17.out))
          clear hWA hdA hkA hbA k0 k1 k2 k3 k4 kf
          try simp only [Act.put, List.setIfInBounds_toArray, List.set_cons_zero, List.set_cons_succ]
          refine wpAny_one (i := 9) (by kernel_rfl) ?_
          refine wpOp_plain rfl rfl ?_
          have k0 := HDB.out.c 0 (by omega)
          have k1 := HDB.out.c 1 (by omega)
          have k2 := HDB.out.c 2 (by omega)
          have k3 := HDB.out.c 3 (by omega)
          have k4 := HDB.out.c 4 (by omega)
          have kf := HDB.out.fz
          go_simp
          obtain ⟨WB, hWB, hdB, hkB, hbB⟩ := set_five WA (gv D G) HDB.out
          rw [hWB]
          have HDB2 := Lib.hid hdB; have HDA2 := Lib.hid (HDA.out.blk (hkB _ HNE21.out)); have HBB := Lib.hid (HBA.out.trans (hbB.mono HLE21.out))
          clear hWB hdB hkB hbB k0 k1 k2 k3 k4 kf
          refine wpAny_end (by kernel_rfl) ?_
          go_wp2_with fail
          go_meet
          exact ⟨A17, A21, rfl, rfl, HBB.out, HDA2.out, HDB2.out⟩


      ·
        refine wpOp_plain rfl rfl ?_
        go_simp
        have hb23 : Below y17.v.heap.size y17.v (y17.v.alloc (Obj.cells #[Value.int .i64 0, Value.int .i64 0, Value.int .i64 0, Value.int .i64 0, Value.int .i64 0] 73)) := bA (Below.refl _ _) _
        have hd23 := dv_new y17.v 73
        have hl23 : w1.heap.size ≤ y17.v.heap.size := y17.b.size
        have hne23 : A17 ≠ y17.v.heap.size := by have := HD17.out.lt; omega
        have hdo23 := HD17.out.blk (hb23.block _ HD17.out.lt)
        obtain ⟨y23, hy23⟩ : ∃ zz : Ext w1, y17.v.alloc (Obj.cells #[Value.int .i64 0, Value.int .i64 0, Value.int .i64 0, Value.int .i64 0, Value.int .i64 0] 73) = zz.v := ⟨⟨_, bT y17.b hb23⟩, rfl⟩
        obtain ⟨A23, hA23⟩ : ∃ A, y17.v.heap.size = A := ⟨_, rfl⟩
        rw [hy23] at hd23 hdo23 ⊢
        rw [hA23] at hd23 hl23 hne23 ⊢
        have HD23 := Lib.hid hd23; have HLE23 := Lib.hid hl23
        have HNE23 := Lib.hid hne23; have HDO23 := Lib.hid hdo23
        clear hdo23 hne23
        clear hb23 hd23 hl23 hy23 hA23
        refine ⟨⟨_, rfl⟩, ?_⟩
        try simp only [Act.put, List.setIfInBounds_toArray, List.set_cons_zero, List.set_cons_succ]
        refine wpAnyG2_one (i := 2) (by kernel_rfl) (by decide) ?_
        refine wpOp_plain rfl rfl ?_
        go_simp
        go_at_call 63
        refine (divide_any D p q c d F _ HOK.out (by omega) (HI.out _)).mono ?_
        rintro e w' ⟨rfl, hb24⟩
        obtain ⟨y24, rfl⟩ : ∃ zz : Ext w1, w' = zz.v := ⟨⟨_, bT y23.b hb24⟩, rfl⟩
        have HD24_6 := Lib.hid (HDO23.out.blk (hb24.block _ HDO23.out.lt))
        have HD24_7 := Lib.hid (HD23.out.blk (hb24.block _ HD23.out.lt))
        clear hb24
        refine ⟨⟨_, rfl⟩, ?_⟩
        try simp only [Act.put, List.setIfInBounds_toArray, List.set_cons_zero, List.set_cons_succ]
        refine wpAnyG2_one (i := 5) (by kernel_rfl) (by decide) ?_
        refine wpOp_plain rfl rfl ?_
        go_simp
        go_at_call 63
        refine (divide_any D p q c d G _ HOK.out (by omega) (HI.out _)).mono ?_
        rintro e w' ⟨rfl, hb25⟩
        obtain ⟨y25, rfl⟩ : ∃ zz : Ext w1, w' = zz.v := ⟨⟨_, bT y24.b hb25⟩, rfl⟩
        have HD25_6 := Lib.hid (HD24_6.out.blk (hb25.block _ HD24_6.out.lt))
        have HD25_7 := Lib.hid (HD24_7.out.blk (hb25.block _ HD24_7.out.lt))
        clear hb25
        refine ⟨⟨_, rfl⟩, ?_⟩
        try simp only [Act.put, List.setIfInBounds_toArray, List.set_cons_zero, List.set_cons_succ]
        refine wpAnyG2_done (by kernel_rfl) ?_
        refine wpAny_one (i := 8) (by kernel_rfl) ?_
        refine wpOp_plain rfl rfl ?_
        have k0 := HD25_6.out.c 0 (by omega)
        have k1 := HD25_6.out.c 1 (by omega)
        have k2 := HD25_6.out.c 2 (by omega)
        have k3 := HD25_6.out.c 3 (by omega)
        have k4 := HD25_6.out.c 4 (by omega)
        have kf := HD25_6.out.fz
        go_simp
        obtain ⟨WA, hWA, hdA, hkA, hbA⟩ := set_five y25.v (gv D F) HD25_6.out
        rw [hWA]
        have HDA := Lib.hid hdA; have HDB := Lib.hid (HD25_7.out.blk (hkA _ (Ne.symm HNE23.out))); have HBA := Lib.hid (Below.trans y25.b (hbA.mono HLE17.out))
        clear hWA hdA hkA hbA k0 k1 k2 k3 k4 kf
        try simp only [Act.put, List.setIfInBounds_toArray, List.set_cons_zero, List.set_cons_succ]
        refine wpAny_one (i := 9) (by kernel_rfl) ?_
        refine wpOp_plain rfl rfl ?_
        have k0 := HDB.out.c 0 (by omega)
        have k1 := HDB.out.c 1 (by omega)
        have k2 := HDB.out.c 2 (by omega)
        have k3 := HDB.out.c 3 (by omega)
        have k4 := HDB.out.c 4 (by omega)
        have kf := HDB.out.fz
        go_simp
        obtain ⟨WB, hWB, hdB, hkB, hbB⟩ := set_five WA (gv D G) HDB.out
        rw [hWB]
        have HDB2 := Lib.hid hdB; have HDA2 := Lib.hid (HDA.out.blk (hkB _ HNE23.out)); have HBB := Lib.hid (HBA.out.trans (hbB.mono HLE23.out))
        clear hWB hdB hkB hbB k0 k1 k2 k3 k4 kf
        refine wpAny_end (by kernel_rfl) ?_
        go_wp2_with fail
        go_meet
        exact ⟨A17, A23, rfl, rfl, HBB.out, HDA2.out, HDB2.out⟩


    ·
      refine wpOp_plain rfl rfl ?_
      go_simp
      have hb26 : Below y0.v.heap.size y0.v (y0.v.alloc (Obj.cells #[Value.int .i64 0, Value.int .i64 0, Value.int .i64 0, Value.int .i64 0, Value.int .i64 0] 73)) := bA (Below.refl _ _) _
      have hd26 := dv_new y0.v 73
      have hl26 : w1.heap.size ≤ y0.v.heap.size := y0.b.size
      obtain ⟨y26, hy26⟩ : ∃ zz : Ext w1, y0.v.alloc (Obj.cells #[Value.int .i64 0, Value.int .i64 0, Value.int .i64 0, Value.int .i64 0, Value.int .i64 0] 73) = zz.v := ⟨⟨_, bT y0.b hb26⟩, rfl⟩
      obtain ⟨A26, hA26⟩ : ∃ A, y0.v.heap.size = A := ⟨_, rfl⟩
      rw [hy26] at hd26 ⊢
      rw [hA26] at hd26 hl26 ⊢
      have HD26 := Lib.hid hd26; have HLE26 := Lib.hid hl26
      clear hb26 hd26 hl26 hy26 hA26
      refine ⟨⟨_, rfl⟩, ?_⟩
      try simp only [Act.put, List.setIfInBounds_toArray, List.set_cons_zero, List.set_cons_succ]
      refine wpAnyG2_two (i := 2) (j := 6) (by kernel_rfl) (by decide) (by decide) ?_ ?_
      ·
        refine wpOp_plain rfl rfl ?_
        go_simp
        go_at_call 63
        refine (divide_any D p q c d F _ HOK.out (by omega) (HI.out _)).mono ?_
        rintro e w' ⟨rfl, hb27⟩
        obtain ⟨y27, rfl⟩ : ∃ zz : Ext w1, w' = zz.v := ⟨⟨_, bT y26.b hb27⟩, rfl⟩
        have HD27_7 := Lib.hid (HD26.out.blk (hb27.block _ HD26.out.lt))
        clear hb27
        refine ⟨⟨_, rfl⟩, ?_⟩
        try simp only [Act.put, List.setIfInBounds_toArray, List.set_cons_zero, List.set_cons_succ]
        refine wpAnyG2_two (i := 5) (j := 6) (by kernel_rfl) (by decide) (by decide) ?_ ?_
        ·
          refine wpOp_plain rfl rfl ?_
          go_simp
          go_at_call 63
          refine (divide_any D p q c d G _ HOK.out (by omega) (HI.out _)).mono ?_
          rintro e w' ⟨rfl, hb28⟩
          obtain ⟨y28, rfl⟩ : ∃ zz : Ext w1, w' = zz.v := ⟨⟨_, bT y27.b hb28⟩, rfl⟩
          have HD28_7 := Lib.hid (HD27_7.out.blk (hb28.block _ HD27_7.out.lt))
          clear hb28
          refine ⟨⟨_, rfl⟩, ?_⟩
          try simp only [Act.put, List.setIfInBounds_toArray, List.set_cons_zero, List.set_cons_succ]
          refine wpAnyG2_one (i := 6) (by kernel_rfl) (by decide) ?_
          refine wpOp_plain rfl rfl ?_
          go_simp
          have hb29 : Below y28.v.heap.size y28.v (y28.v.alloc (Obj.cells #[Value.int .i64 0, Value.int .i64 0, Value.int .i64 0, Value.int .i64 0, Value.int .i64 0] 73)) := bA (Below.refl _ _) _
          have hd29 := dv_new y28.v 73
          have hl29 : w1.heap.size ≤ y28.v.heap.size := y28.b.size
          have hne29 : A26 ≠ y28.v.heap.size := by have := HD28_7.out.lt; omega
          have hdo29 := HD28_7.out.blk (hb29.block _ HD28_7.out.lt)
          obtain ⟨y29, hy29⟩ : ∃ zz : Ext w1, y28.v.alloc (Obj.cells #[Value.int .i64 0, Value.int .i64 0, Value.int .i64 0, Value.int .i64 0, Value.int .i64 0] 73) = zz.v := ⟨⟨_, bT y28.b hb29⟩, rfl⟩
          obtain ⟨A29, hA29⟩ : ∃ A, y28.v.heap.size = A := ⟨_, rfl⟩
          rw [hy29] at hd29 hdo29 ⊢
          rw [hA29] at hd29 hl29 hne29 ⊢
          have HD29 := Lib.hid hd29; have HLE29 := Lib.hid hl29
          have HNE29 := Lib.hid hne29; have HDO29 := Lib.hid hdo29
          clear hdo29 hne29
          clear hb29 hd29 hl29 hy29 hA29
          refine ⟨⟨_, rfl⟩, ?_⟩
          try simp only [Act.put, List.setIfInBounds_toArray, List.set_cons_zero, List.set_cons_succ]
          refine wpAnyG2_done (by kernel_rfl) ?_
          refine wpAny_one (i := 8) (by kernel_rfl) ?_
          refine wpOp_plain rfl rfl ?_
          have k0 := HD29.out.c 0 (by omega)
          have k1 := HD29.out.c 1 (by omega)
          have k2 := HD29.out.c 2 (by omega)
          have k3 := HD29.out.c 3 (by omega)
          have k4 := HD29.out.c 4 (by omega)
          have kf := HD29.out.fz
          go_simp
          obtain ⟨WA, hWA, hdA, hkA, hbA⟩ := set_five y29.v (gv D F) HD29.out
          rw [hWA]
          have HDA := Lib.hid hdA; have HDB := Lib.hid (HDO29.out.blk (hkA _ HNE29.out)); have HBA := Lib.hid (Below.trans y29.b (hbA.mono HLE29.out))
          clear hWA hdA hkA hbA k0 k1 k2 k3 k4 kf
          try simp only [Act.put, List.setIfInBounds_toArray, List.set_cons_zero, List.set_cons_succ]
          refine wpAny_one (i := 9) (by kernel_rfl) ?_
          refine wpOp_plain rfl rfl ?_
          have k0 := HDB.out.c 0 (by omega)
          have k1 := HDB.out.c 1 (by omega)
          have k2 := HDB.out.c 2 (by omega)
          have k3 := HDB.out.c 3 (by omega)
          have k4 := HDB.out.c 4 (by omega)
          have kf := HDB.out.fz
          go_simp
          obtain ⟨WB, hWB, hdB, hkB, hbB⟩ := set_five WA (gv D G) HDB.out
          rw [hWB]
          have HDB2 := Lib.hid hdB; have HDA2 := Lib.hid (HDA.out.blk (hkB _ (Ne.symm HNE29.out))); have HBB := Lib.hid (HBA.out.trans (hbB.mono HLE26.out))
          clear hWB hdB hkB hbB k0 k1 k2 k3 k4 kf
          refine wpAny_end (by kernel_rfl) ?_
          go_wp2_with fail
          go_meet
          exact ⟨A29, A26, rfl, rfl, HBB.out, HDA2.out, HDB2.out⟩

        ·
          refine wpOp_plain rfl rfl ?_
          go_simp
          have hb30 : Below y27.v.heap.size y27.v (y27.v.alloc (Obj.cells #[Value.int .i64 0, Value.int .i64 0, Value.int .i64 0, Value.int .i64 0, Value.int .i64 0] 73)) := bA (Below.refl _ _) _
          have hd30 := dv_new y27.v 73
          have hl30 : w1.heap.size ≤ y27.v.heap.size := y27.b.size
          have hne30 : A26 ≠ y27.v.heap.size := by have := HD27_7.out.lt; omega
          have hdo30 := HD27_7.out.blk (hb30.block _ HD27_7.out.lt)
          obtain ⟨y30, hy30⟩ : ∃ zz : Ext w1, y27.v.alloc (Obj.cells #[Value.int .i64 0, Value.int .i64 0, Value.int .i64 0, Value.int .i64 0, Value.int .i64 0] 73) = zz.v := ⟨⟨_, bT y27.b hb30⟩, rfl⟩
          obtain ⟨A30, hA30⟩ : ∃ A, y27.v.heap.size = A := ⟨_, rfl⟩
          rw [hy30] at hd30 hdo30 ⊢
          rw [hA30] at hd30 hl30 hne30 ⊢
          have HD30 := Lib.hid hd30; have HLE30 := Lib.hid hl30
          have HNE30 := Lib.hid hne30; have HDO30 := Lib.hid hdo30
          clear hdo30 hne30
          clear hb30 hd30 hl30 hy30 hA30
          refine ⟨⟨_, rfl⟩, ?_⟩
          try simp only [Act.put, List.setIfInBounds_toArray, List.set_cons_zero, List.set_cons_succ]
          refine wpAnyG2_one (i := 5) (by kernel_rfl) (by decide) ?_
          refine wpOp_plain rfl rfl ?_
          go_simp
          go_at_call 63
          refine (divide_any D p q c d G _ HOK.out (by omega) (HI.out _)).mono ?_
          rintro e w' ⟨rfl, hb31⟩
          obtain ⟨y31, rfl⟩ : ∃ zz : Ext w1, w' = zz.v := ⟨⟨_, bT y30.b hb31⟩, rfl⟩
          have HD31_7 := Lib.hid (HDO30.out.blk (hb31.block _ HDO30.out.lt))
          have HD31_6 := Lib.hid (HD30.out.blk (hb31.block _ HD30.out.lt))
          clear hb31
          refine ⟨⟨_, rfl⟩, ?_⟩
          try simp only [Act.put, List.setIfInBounds_toArray, List.set_cons_zero, List.set_cons_succ]
          refine wpAnyG2_done (by kernel_rfl) ?_
          refine wpAny_one (i := 8) (by kernel_rfl) ?_
          refine wpOp_plain rfl rfl ?_
          have k0 := HD31_6.out.c 0 (by omega)
          have k1 := HD31_6.out.c 1 (by omega)
          have k2 := HD31_6.out.c 2 (by omega)
          have k3 := HD31_6.out.c 3 (by omega)
          have k4 := HD31_6.out.c 4 (by omega)
          have kf := HD31_6.out.fz
          go_simp
          obtain ⟨WA, hWA, hdA, hkA, hbA⟩ := set_five y31.v (gv D F) HD31_6.out
          rw [hWA]
          have HDA := Lib.hid hdA; have HDB := Lib.hid (HD31_7.out.blk (hkA _ HNE30.out)); have HBA := Lib.hid (Below.trans y31.b (hbA.mono HLE30.out))
          clear hWA hdA hkA hbA k0 k1 k2 k3 k4 kf
          try simp only [Act.put, List.setIfInBounds_toArray, List.set_cons_zero, List.set_cons_succ]
          refine wpAny_one (i := 9) (by kernel_rfl) ?_
          refine wpOp_plain rfl rfl ?_
          have k0 := HDB.out.c 0 (by omega)
          have k1 := HDB.out.c 1 (by omega)
          have k2 := HDB.out.c 2 (by omega)
          have k3 := HDB.out.c 3 (by omega)
          have k4 := HDB.out.c 4 (by omega)
          have kf := HDB.out.fz
          go_simp
          obtain ⟨WB, hWB, hdB, hkB, hbB⟩ := set_five WA (gv D G) HDB.out
          rw [hWB]
          have HDB2 := Lib.hid hdB; have HDA2 := Lib.hid (HDA.out.blk (hkB _ (Ne.symm HNE30.out))); have HBB := Lib.hid (HBA.out.trans (hbB.mono HLE26.out))
          clear hWB hdB hkB hbB k0 k1 k2 k3 k4 kf
          refine wpAny_end (by kernel_rfl) ?_
          go_wp2_with fail
          go_meet
          exact ⟨A30, A26, rfl, rfl, HBB.out, HDA2.out, HDB2.out⟩


      ·
        refine wpOp_plain rfl rfl ?_
        go_simp
        have hb32 : Below y26.v.heap.size y26.v (y26.v.alloc (Obj.cells #[Value.int .i64 0, Value.int .i64 0, Value.int .i64 0, Value.int .i64 0, Value.int .i64 0] 73)) := bA (Below.refl _ _) _
        have hd32 := dv_new y26.v 73
        have hl32 : w1.heap.size ≤ y26.v.heap.size := y26.b.size
        have hne32 : A26 ≠ y26.v.heap.size := by have := HD26.out.lt; omega
        have hdo32 := HD26.out.blk (hb32.block _ HD26.out.lt)
        obtain ⟨y32, hy32⟩ : ∃ zz : Ext w1, y26.v.alloc (Obj.cells #[Value.int .i64 0, Value.int .i64 0, Value.int .i64 0, Value.int .i64 0, Value.int .i64 0] 73) = zz.v := ⟨⟨_, bT y26.b hb32⟩, rfl⟩
        obtain ⟨A32, hA32⟩ : ∃ A, y26.v.heap.size = A := ⟨_, rfl⟩
        rw [hy32] at hd32 hdo32 ⊢
        rw [hA32] at hd32 hl32 hne32 ⊢
        have HD32 := Lib.hid hd32; have HLE32 := Lib.hid hl32
        have HNE32 := Lib.hid hne32; have HDO32 := Lib.hid hdo32
        clear hdo32 hne32
        clear hb32 hd32 hl32 hy32 hA32
        refine ⟨⟨_, rfl⟩, ?_⟩
        try simp only [Act.put, List.setIfInBounds_toArray, List.set_cons_zero, List.set_cons_succ]
        refine wpAnyG2_one (i := 2) (by kernel_rfl) (by decide) ?_
        refine wpOp_plain rfl rfl ?_
        go_simp
        go_at_call 63
        refine (divide_any D p q c d F _ HOK.out (by omega) (HI.out _)).mono ?_
        rintro e w' ⟨rfl, hb33⟩
        obtain ⟨y33, rfl⟩ : ∃ zz : Ext w1, w' = zz.v := ⟨⟨_, bT y32.b hb33⟩, rfl⟩
        have HD33_7 := Lib.hid (HDO32.out.blk (hb33.block _ HDO32.out.lt))
        have HD33_6 := Lib.hid (HD32.out.blk (hb33.block _ HD32.out.lt))
        clear hb33
        refine ⟨⟨_, rfl⟩, ?_⟩
        try simp only [Act.put, List.setIfInBounds_toArray, List.set_cons_zero, List.set_cons_succ]
        refine wpAnyG2_one (i := 5) (by kernel_rfl) (by decide) ?_
        refine wpOp_plain rfl rfl ?_
        go_simp
        go_at_call 63
        refine (divide_any D p q c d G _ HOK.out (by omega) (HI.out _)).mono ?_
        rintro e w' ⟨rfl, hb34⟩
        obtain ⟨y34, rfl⟩ : ∃ zz : Ext w1, w' = zz.v := ⟨⟨_, bT y33.b hb34⟩, rfl⟩
        have HD34_7 := Lib.hid (HD33_7.out.blk (hb34.block _ HD33_7.out.lt))
        have HD34_6 := Lib.hid (HD33_6.out.blk (hb34.block _ HD33_6.out.lt))
        clear hb34
        refine ⟨⟨_, rfl⟩, ?_⟩
        try simp only [Act.put, List.setIfInBounds_toArray, List.set_cons_zero, List.set_cons_succ]
        refine wpAnyG2_done (by kernel_rfl) ?_
        refine wpAny_one (i := 8) (by kernel_rfl) ?_
        refine wpOp_plain rfl rfl ?_
        have k0 := HD34_6.out.c 0 (by omega)
        have k1 := HD34_6.out.c 1 (by omega)
        have k2 := HD34_6.out.c 2 (by omega)
        have k3 := HD34_6.out.c 3 (by omega)
        have k4 := HD34_6.out.c 4 (by omega)
        have kf := HD34_6.out.fz
        go_simp
        obtain ⟨WA, hWA, hdA, hkA, hbA⟩ := set_five y34.v (gv D F) HD34_6.out
        rw [hWA]
        have HDA := Lib.hid hdA; have HDB := Lib.hid (HD34_7.out.blk (hkA _ HNE32.out)); have HBA := Lib.hid (Below.trans y34.b (hbA.mono HLE32.out))
        clear hWA hdA hkA hbA k0 k1 k2 k3 k4 kf
        try simp only [Act.put, List.setIfInBounds_toArray, List.set_cons_zero, List.set_cons_succ]
        refine wpAny_one (i := 9) (by kernel_rfl) ?_
        refine wpOp_plain rfl rfl ?_
        have k0 := HDB.out.c 0 (by omega)
        have k1 := HDB.out.c 1 (by omega)
        have k2 := HDB.out.c 2 (by omega)
        have k3 := HDB.out.c 3 (by omega)
        have k4 := HDB.out.c 4 (by omega)
        have kf := HDB.out.fz
        go_simp
        obtain ⟨WB, hWB, hdB, hkB, hbB⟩ := set_five WA (gv D G) HDB.out
        rw [hWB]
        have HDB2 := Lib.hid hdB; have HDA2 := Lib.hid (HDA.out.blk (hkB _ (Ne.symm HNE32.out))); have HBB := Lib.hid (HBA.out.trans (hbB.mono HLE26.out))
        clear hWB hdB hkB hbB k0 k1 k2 k3 k4 kf
        refine wpAny_end (by kernel_rfl) ?_
        go_wp2_with fail
        go_meet
        exact ⟨A32, A26, rfl, rfl, HBB.out, HDA2.out, HDB2.out⟩



  case rest =>
    obtain ⟨a, b, rfl, rfl, hbc, hda, hdb⟩ := hcut
    have HBC := Lib.hid (bT HB.out hbc)
    have HDA : Hid (∀ z : Ext wc, DvAt z.v a (gv D F)) := fun z => hda.blk (z.b.block _ hda.lt)
    have HDB : Hid (∀ z : Ext wc, DvAt z.v b (gv D G)) := fun z => hdb.blk (z.b.block _ hdb.lt)
    have B0 : ∀ z : Ext wc, z.v.cell? ⟨w.heap.size, 0, none⟩ = some (.slice p D.n c) := fun z => F0 (z.up hbc)
    have B1 : ∀ z : Ext wc, z.v.cell? ⟨w.heap.size, 1, none⟩ = some (.slice q D.m d) := fun z => F1 (z.up hbc)
    obtain ⟨z0, hz0⟩ := rebase wc
    clear hbc hda hdb F0 F1
    rw [hz0]
    clear hz0
    go_wp2
    go_loopw [11, 36] (fun v i wr => ∃ k : Nat, i = .int .i64 (k : Int) ∧ k ≤ D.n ∧ ∃ z : Ext wc, wr = z.v ∧ z.v.ownsRow wc.heap.size 67 2 v k (row2 (gv D F) (gv D G) k)) (fun _ i _ => D.n - (intOf i).toNat)
    case atStart => exact ⟨0, rfl, Nat.zero_le _, z0, rfl, World.ownsRow_nil _ _ _ _⟩
    case round =>
      obtain ⟨k, rfl, hk, z, rfl, ho⟩ := hrel
      have HO := Lib.hid ho; clear ho
      by_cases hlt : k < D.n
      · have E0 : ∀ z : Ext wc, z.v.cell? ⟨a, k, none⟩ = some (.int .i64 (gv D F k)) := fun z => (HDA.out z).c k (by omega)
        have E1 : ∀ z : Ext wc, z.v.cell? ⟨b, k, none⟩ = some (.int .i64 (gv D G k)) := fun z => (HDB.out z).c k (by omega)
        have hkm : (k : Int) < (D.n : Int) := by omega
        have hk5 : (k : Int) < 5 := by omega
        obtain ⟨pr, cr, rfl, _⟩ := own_form HO.out
        go_wp2
        refine wp_region_last (fun W => ∃ z : Ext wc, W = z.v) 10 (by kernel_rfl) rfl ⟨⟨_, bd z.b⟩, rfl⟩ (fun _ => ?_)
        have HO2 := Lib.hid (own_below HO.out (bd (Below.refl _ _)))
        obtain ⟨y3, hys⟩ : ∃ zz : Ext wc, z.v.drew = zz.v := ⟨⟨_, bd z.b⟩, rfl⟩
        rw [hys] at HO2 ⊢
        clear hys
        refine wpAnyG_take (i := 0) (v := ?_) (by kernel_rfl) rfl (by kernel_rfl) (by kernel_rfl) (by kernel_rfl) (fun _ _ _ h => h) (Or.inl ⟨by rfl, ?_⟩) ⟨_, rfl⟩ ?_
        rotate_left
        · rintro wS ⟨yS, rfl⟩
          go_simp
          try (with_reducible rfl)
        try simp only [Act.put, List.setIfInBounds_toArray, List.set_cons_zero, List.set_cons_succ]
        refine wpAnyG_take (i := 1) (v := ?_) (by kernel_rfl) rfl (by kernel_rfl) (by kernel_rfl) (by kernel_rfl) (fun _ _ _ h => h) (Or.inl ⟨by rfl, ?_⟩) ⟨_, rfl⟩ ?_
        rotate_left
        · rintro wS ⟨yS, rfl⟩
          go_simp
          try (with_reducible rfl)
        try simp only [Act.put, List.setIfInBounds_toArray, List.set_cons_zero, List.set_cons_succ]
        refine wpAnyG_take (i := 2) (v := ?_) (by kernel_rfl) rfl (by kernel_rfl) (by kernel_rfl) (by kernel_rfl) (fun _ _ _ h => h) (Or.inl ⟨by rfl, ?_⟩) ⟨_, rfl⟩ ?_
        rotate_left
        · rintro wS ⟨yS, rfl⟩
          go_simp
          try (with_reducible rfl)
        try simp only [Act.put, List.setIfInBounds_toArray, List.set_cons_zero, List.set_cons_succ]
        refine wpAnyG_take (i := 3) (v := ?_) (by kernel_rfl) rfl (by kernel_rfl) (by kernel_rfl) (by kernel_rfl) (fun _ _ _ h => h) (Or.inl ⟨by rfl, ?_⟩) ⟨_, rfl⟩ ?_
        rotate_left
        · rintro wS ⟨yS, rfl⟩
          go_simp
          try (with_reducible rfl)
        try simp only [Act.put, List.setIfInBounds_toArray, List.set_cons_zero, List.set_cons_succ]
        refine wpAnyG_take (i := 4) (v := ?_) (by kernel_rfl) rfl (by kernel_rfl) (by kernel_rfl) (by kernel_rfl) (fun _ _ _ h => h) (Or.inl ⟨by rfl, ?_⟩) ⟨_, rfl⟩ ?_
        rotate_left
        · rintro wS ⟨yS, rfl⟩
          go_simp
          try (with_reducible rfl)
        try simp only [Act.put, List.setIfInBounds_toArray, List.set_cons_zero, List.set_cons_succ]
        refine wpAnyG_take (i := 5) (v := ?_) (by kernel_rfl) rfl (by kernel_rfl) (by kernel_rfl) (by kernel_rfl) (fun _ _ _ h => h) (Or.inl ⟨by rfl, ?_⟩) ⟨_, rfl⟩ ?_
        rotate_left
        · rintro wS ⟨yS, rfl⟩
          go_simp
          try (with_reducible rfl)
        try simp only [Act.put, List.setIfInBounds_toArray, List.set_cons_zero, List.set_cons_succ]
        refine wpAnyG_take (i := 6) (v := ?_) (by kernel_rfl) rfl (by kernel_rfl) (by kernel_rfl) (by kernel_rfl) (fun _ _ _ h => h) (Or.inl ⟨by rfl, ?_⟩) ⟨_, rfl⟩ ?_
        rotate_left
        · rintro wS ⟨yS, rfl⟩
          go_simp
          try (with_reducible rfl)
        try simp only [Act.put, List.setIfInBounds_toArray, List.set_cons_zero, List.set_cons_succ]
        refine wpAnyG_take (i := 7) (v := ?_) (by kernel_rfl) rfl (by kernel_rfl) (by kernel_rfl) (by kernel_rfl) (fun _ _ _ h => h) (Or.inl ⟨by rfl, ?_⟩) ⟨_, rfl⟩ ?_
        rotate_left
        · rintro wS ⟨yS, rfl⟩
          go_simp
          try (with_reducible rfl)
        try simp only [Act.put, List.setIfInBounds_toArray, List.set_cons_zero, List.set_cons_succ]
        refine wpAnyG_one (i := 8) (by kernel_rfl) (by decide) (wpOp_plain rfl rfl ?_)
        go_simp
        have hnw : (y3.v.alloc (Obj.cells #[.int .i64 (gv D F k), .int .i64 (gv D G k)] 67)).heap[y3.v.heap.size]? = some (Obj.cells #[.int .i64 (gv D F k), .int .i64 (gv D G k)] 67) := heap_alloc_new _
        have ho3 := HO2.out.alloc (Obj.cells #[.int .i64 (gv D F k), .int .i64 (gv D G k)] 67)
        obtain ⟨y4, hy4⟩ : ∃ zz : Ext wc, y3.v.alloc (Obj.cells #[.int .i64 (gv D F k), .int .i64 (gv D G k)] 67) = zz.v := ⟨⟨_, bA y3.b _⟩, rfl⟩
        obtain ⟨B4, hB4⟩ : ∃ B, y3.v.heap.size = B := ⟨_, rfl⟩
        rw [hy4] at hnw ho3 ⊢
        rw [hB4] at hnw ⊢
        have HNW := Lib.hid hnw; have HO3 := Lib.hid ho3
        clear hnw ho3 hy4 hB4
        refine ⟨⟨_, rfl⟩, ?_⟩
        try simp only [Act.put, List.setIfInBounds_toArray, List.set_cons_zero, List.set_cons_succ]
        refine wpAnyG_one (i := 9) (by kernel_rfl) (by decide) (wpOp_plain rfl rfl ?_)
        refine wp_append_own (w := y4.v) (.tmp 39) (.tmp 47) 40 rfl wc.heap.size 67 i0 _ 2 16 Try.underlying40 I1.out I2.out I3.out I4.out rfl (by decide) (.slice pr k cr) k _ (by simp [Act.eval, Act.put]) HO3.out ⟨B4, 0, none⟩ 1 1 [.int .i64 (gv D F k), .int .i64 (gv D G k)] (by simp [Act.eval, Act.put]) rfl (World.news_of_block HNW.out) (by simp [Value.oneCell']) (by unfold maxLen; omega) (by omega) y4.b.size ?_
        intro v' w4 hown hgrow _
        have HB4 := Lib.hid (below_grown y4.b HO3.out (Nat.le_refl _) hgrow)
        have HOW := Lib.hid hown
        clear hown hgrow
        refine ⟨⟨⟨w4, HB4.out⟩, rfl⟩, ?_⟩
        try simp only [Act.put, List.setIfInBounds_toArray, List.set_cons_zero, List.set_cons_succ]
        refine wpAnyG_done (by kernel_rfl) (by kernel_rfl) (wpOp_plain rfl rfl ?_)
        go_simp
        go_wp2
        go_roundw
        case rel => exact ⟨k + 1, by go_num, hlt, ⟨w4, HB4.out⟩, rfl, HOW.out⟩
        case measure => first | (simp [intOf]; done) | (simp [intOf]; omega)
      · obtain rfl : k = D.n := by omega
        obtain ⟨pr, cr, rfl, hnum⟩ := pair_own HO.out
        have HN := Lib.hid hnum
        have j : decide ((D.n : Int) < (D.n : Int)) = false := by simp
        clear hnum hlt
        go_wp2
        go_ret2
        exact ⟨_, _, rfl, bT HBC.out z.b, HN.out⟩
end Go.Proofs.Ythbicbmlbblflaa
