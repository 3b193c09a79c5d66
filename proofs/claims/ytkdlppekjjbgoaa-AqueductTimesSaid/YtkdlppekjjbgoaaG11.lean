/- Average, of the program and of the specification. -/
import Derived.Test.YtkdlppekjjbgoaaG10

import Derived.Test.YtkdlppekjjbgoaaG6

import Derived.Test.YtkdlppekjjbgoaaX2

import Derived.Test.YtkdlppekjjbgoaaS5

set_option linter.unusedSimpArgs false

set_option linter.unusedVariables false

namespace Go.Proofs.Ytkdlppekjjbgoaa

open Go.RowKit

theorem wp_region_tailE {P : Program} {ops : Array Oper} {Q : Exit → Act → World → Prop} {w : World} {x : Ext w} (n r : Nat) {id : Nat} {a : Act} (hm : P.follows .mixedOrders = true) (hn : ops.size = n + r)
    (h : ∀ y : Ext w, wpAnyG2 P .any ops Q (fun w' => ∃ y : Ext w, w' = y.v) n r n (Array.replicate ops.size false) a y.v) : (Code.region id ops true).wp P Q a x.v :=
  wp_region_tail (fun w' => ∃ y : Ext w, w' = y.v) n r hm hn ⟨⟨x.v.drew, bd x.b⟩, rfl⟩ (fun _ => h ⟨x.v.drew, bd x.b⟩)
/-- the average of some stretches, in lowest terms -/
def avN (D : Duct) (f t : Nat) : Int := rN (AW D f t).toNat (oS D f t).toNat
def avD (D : Duct) (f t : Nat) : Int := rD (AW D f t).toNat (oS D f t).toNat
theorem od_bd {D : Duct} (hok : D.ok = true) : ∀ k, k < D.m → 1 ≤ D.od k ∧ D.od k ≤ 9 := (D.ok_parts hok).2.2.1
theorem PVS_tt {D : Duct} {f t : Nat} (h : t ≤ D.m) : PVS D 0 f t = CH (gS D) f t := if_pos ⟨Nat.zero_le _, h⟩
theorem av_vals {D : Duct} (hok : D.ok = true) {f t : Nat} (hft : f < t) (htm : t ≤ D.m) : ∃ A O : Nat, AW D f t = (A : Int) ∧ oS D f t = (O : Int) ∧ A ≤ 10000 ∧ 0 < O ∧ O ≤ 63 ∧ avN D f t = rN A O ∧ avD D f t = rD A O := by
  obtain ⟨hm7, hnm, hod, _⟩ := D.ok_parts hok
  have a := AW_10k (co_bd hok) hod hnm hm7 hft htm
  have o := oS_bd hod (f := f) (t := t) (by omega) htm
  exact ⟨(AW D f t).toNat, (oS D f t).toNat, by omega, by omega, by omega, by omega, by omega, rfl, rfl⟩
set_option maxRecDepth 100000 in
set_option maxHeartbeats 4000000 in
theorem averageP_ok (D : Duct) (p q : Option Addr) (c d : Nat) (f t : Nat) (w : World) (hft : f < t) (htm : t ≤ D.m) (hn : D.n ≤ 40) (hok : D.ok = true) (hd : D.m ≤ d) (hi : DuctIn w w.heap.size D p q) :
    Calls Try.prog 36 #[.agg #[.slice p D.n c, .slice q D.m d], .int .i64 f, .int .i64 t] w fun e w' => e = .returned (.tuple #[.agg #[.int .i64 (avN D f t), .int .i64 (avD D f t)], .int .i64 0]) ∧ Below w.heap.size w w' := by
  obtain ⟨w1, x1, hw1, hb1, hz1, F0, F1⟩ := box_line w p q D.n D.m c d
  obtain ⟨w2, x2, hw2, hb2, hz2, G0, G1, Gz⟩ := box_two x1.v 60 0 0
  have hB2 : Below x1.v.heap.size x1.v w2 := hb2
  have HB := Lib.hid (bT (bT hb1 x1.b) hb2)
  have HI : Hid (∀ x : Ext w2, DuctIn x.v x.v.heap.size D p q) := fun x => (hi.bel (bT hb1 x1.b)).bel (bT hb2 x.b)
  have HZ : Hid (w.heap.size ≤ x1.v.heap.size) := by have := hb1.size; have := x1.b.size; show _ ≤ _; omega
  replace F0 : ∀ y : Ext w2, y.v.cell? ⟨w.heap.size, 0, none⟩ = some (.slice p D.n c) := fun y => F0 (y.up (bT x1.b hb2))
  replace F1 : ∀ y : Ext w2, y.v.cell? ⟨w.heap.size, 1, none⟩ = some (.slice q D.m d) := fun y => F1 (y.up (bT x1.b hb2))
  clear hb1 hz1 hi hb2 hz2 hB2
  have hm7 := (D.ok_parts hok).1
  have HNM := Lib.hid (D.ok_parts hok).2.1
  have HCO := Lib.hid (co_bd hok); have HOD := Lib.hid (od_bd hok); have HOK := Lib.hid hok
  obtain ⟨A, O, hA, hO, hA1, hO1, hO2, hvN, hvD⟩ := av_vals hok hft htm
  rw [hvN, hvD]
  have HS := Lib.hid (show ∀ V : World, Calls Try.prog 65 #[.agg #[.slice p D.n c, .slice q D.m d], .int .i64 f, .int .i64 t] V fun e w' => e = .returned (.bool true) ∧ Below V.heap.size V w' from fun V => by
    have := areSome_any D p q c d f t V
    rw [areS_tt hft htm] at this
    exact this)
  have HC := Lib.hid (show ∀ V : World, DuctIn V V.heap.size D p q → Calls Try.prog 57 #[.agg #[.slice p D.n c, .slice q D.m d], .bool true] V fun e w' => e = .returned (.int .i64 0) ∧ Below V.heap.size V w' from fun V h => by
    have := check_any D p q c d true V hn (by omega) h
    rw [hok] at this
    exact this)
  have HO := Lib.hid (show ∀ V : World, DuctIn V V.heap.size D p q → Calls Try.prog 70 #[.agg #[.slice p D.n c, .slice q D.m d], .int .i64 (f : Int), .int .i64 (t : Int)] V fun e w' => e = .returned (.int .i64 (O : Int)) ∧ Below V.heap.size V w' from fun V h => oddsOf_is hO V hm7 hft htm HOD.out hd h)
  have HLO := Lib.hid (show ∀ V : World, Calls Try.prog 68 #[.int .i64 (A : Int), .int .i64 (O : Int)] V fun e w' => e = .returned (.agg #[.int .i64 (rN A O), .int .i64 (rD A O)]) ∧ Below V.heap.size V w' from fun V => lowest_any A O V (by omega) hO1 (by omega))
  have HA := Lib.hid hA
  have j1 : (f : Int) < 7 := by omega
  have j2 : (t : Int) < 8 := by omega
  have hf7 : f < 7 := by omega
  have ht8 : t < 8 := by omega
  have HFT := Lib.hid hft
  clear hok hA hO hvN hvD
  go_enter Try.func36, Try.ntmps36
  go_wp2
  refine quiet_e (by kernel_rfl) (by kernel_rfl) ?_
  repeat (first | go_big_quiet_step ((first | (go_at_call 65; exact quiet_x (HS.out _)) | (go_at_call 57; exact quiet_x (HC.out _ (HI.out _))))) | quiet_step ((first | (go_at_call 65; exact quiet_x (HS.out _)) | (go_at_call 57; exact quiet_x (HC.out _ (HI.out _))))))
  refine wpQuiet_nil ?_
  intro w6 hw6
  obtain ⟨y, rfl⟩ := hw6
  go_wp2
  refine wp_region_tailE 14 2 (by kernel_rfl) rfl (fun yr => ?_)
  refine wpAnyG2_take (i := 0) (v := ?_) (by kernel_rfl) rfl (by kernel_rfl) (by kernel_rfl) (by kernel_rfl) (fun _ _ _ h => h) (Or.inl ⟨by rfl, ?_⟩) ⟨_, rfl⟩ ?_
  rotate_left
  · rintro wS ⟨yS, rfl⟩
    go_simp
    try (with_reducible rfl)
  try simp only [Act.put, List.setIfInBounds_toArray, List.set_cons_zero, List.set_cons_succ]
  refine wpAnyG2_take (i := 2) (v := ?_) (by kernel_rfl) rfl (by kernel_rfl) (by kernel_rfl) (by kernel_rfl) (fun _ _ _ h => h) (Or.inl ⟨by rfl, ?_⟩) ⟨_, rfl⟩ ?_
  rotate_left
  · rintro wS ⟨yS, rfl⟩
    go_simp
    try (with_reducible rfl)
  try simp only [Act.put, List.setIfInBounds_toArray, List.set_cons_zero, List.set_cons_succ]
  refine wpAnyG2_take (i := 3) (v := ?_) (by kernel_rfl) rfl (by kernel_rfl) (by kernel_rfl) (by kernel_rfl) (fun _ _ _ h => h) (Or.inl ⟨by rfl, ?_⟩) ⟨_, rfl⟩ ?_
  rotate_left
  · rintro wS ⟨yS, rfl⟩
    go_simp
    try (with_reducible rfl)
  try simp only [Act.put, List.setIfInBounds_toArray, List.set_cons_zero, List.set_cons_succ]
  refine wpAnyG2_take (i := 9) (v := ?_) (by kernel_rfl) rfl (by kernel_rfl) (by kernel_rfl) (by kernel_rfl) (fun _ _ _ h => h) (Or.inl ⟨by rfl, ?_⟩) ⟨_, rfl⟩ ?_
  rotate_left
  · rintro wS ⟨yS, rfl⟩
    go_simp
    try (with_reducible rfl)
  try simp only [Act.put, List.setIfInBounds_toArray, List.set_cons_zero, List.set_cons_succ]
  refine wpAnyG2_take (i := 10) (v := ?_) (by kernel_rfl) rfl (by kernel_rfl) (by kernel_rfl) (by kernel_rfl) (fun _ _ _ h => h) (Or.inl ⟨by rfl, ?_⟩) ⟨_, rfl⟩ ?_
  rotate_left
  · rintro wS ⟨yS, rfl⟩
    go_simp
    try (with_reducible rfl)
  try simp only [Act.put, List.setIfInBounds_toArray, List.set_cons_zero, List.set_cons_succ]
  refine wpAnyG2_take (i := 11) (v := ?_) (by kernel_rfl) rfl (by kernel_rfl) (by kernel_rfl) (by kernel_rfl) (fun _ _ _ h => h) (Or.inl ⟨by rfl, ?_⟩) ⟨_, rfl⟩ ?_
  rotate_left
  · rintro wS ⟨yS, rfl⟩
    go_simp
    try (with_reducible rfl)
  try simp only [Act.put, List.setIfInBounds_toArray, List.set_cons_zero, List.set_cons_succ]
  refine wpAnyG2_one (i := 1) (by kernel_rfl) (by decide) (wpOp_plain rfl rfl ?_)
  go_simp
  go_at_call 69
  refine (onAverage_any D p q c d _ hn hm7 HNM.out HCO.out HOD.out hd (HI.out _)).mono ?_
  rintro e w' ⟨cb, rfl, hb, ht⟩
  obtain ⟨y3, rfl⟩ : ∃ z : Ext w2, w' = z.v := ⟨⟨w', bT (Ext.b _) hb⟩, rfl⟩
  have HT := Lib.hid ht; clear hb ht
  refine ⟨⟨_, rfl⟩, ?_⟩
  try simp only [Act.put, List.setIfInBounds_toArray, List.set_cons_zero, List.set_cons_succ]
  refine wpAnyG2_take (i := 4) (v := ?_) (by kernel_rfl) rfl (by kernel_rfl) (by kernel_rfl) (by kernel_rfl) (fun _ _ _ h => h) (Or.inl ⟨by rfl, ?_⟩) ⟨_, rfl⟩ ?_
  rotate_left
  · rintro wS ⟨yS, rfl⟩
    go_simp
    try (with_reducible rfl)
  try simp only [Act.put, List.setIfInBounds_toArray, List.set_cons_zero, List.set_cons_succ]
  refine wpAnyG2_take (i := 5) (v := ?_) (by kernel_rfl) rfl (by kernel_rfl) (by kernel_rfl) (by kernel_rfl) (fun _ _ _ h => h) (Or.inl ⟨by rfl, ?_⟩) ⟨_, rfl⟩ ?_
  rotate_left
  · rintro wS ⟨yS, rfl⟩
    go_simp
    try (with_reducible rfl)
  try simp only [Act.put, List.setIfInBounds_toArray, List.set_cons_zero, List.set_cons_succ]
  refine wpAnyG2_take (i := 6) (v := ?_) (by kernel_rfl) rfl (by kernel_rfl) (by kernel_rfl) (by kernel_rfl) (fun _ _ _ h => h) (Or.inl ⟨by rfl, ?_⟩) ⟨_, rfl⟩ ?_
  rotate_left
  · rintro wS ⟨yS, rfl⟩
    go_simp
    try (with_reducible rfl)
  try simp only [Act.put, List.setIfInBounds_toArray, List.set_cons_zero, List.set_cons_succ]
  refine wpAnyG2_take (i := 7) (v := ?_) (by kernel_rfl) rfl (by kernel_rfl) (by kernel_rfl) (by kernel_rfl) (fun _ _ _ h => h) (Or.inl ⟨by rfl, ?_⟩) ⟨_, rfl⟩ ?_
  rotate_left
  · rintro wS ⟨yS, rfl⟩
    go_simp
    try (with_reducible rfl)
  try simp only [Act.put, List.setIfInBounds_toArray, List.set_cons_zero, List.set_cons_succ]
  refine wpAnyG2_two (i := 8) (j := 12) (by kernel_rfl) (by decide) (by decide) ?_ ?_
  · refine wpOp_plain rfl rfl ?_
    have C0 : y3.v.cell? ⟨cb, f * 16 + t * 2 + 1, none⟩ = some (.int .i64 (A : Int)) := (HT.out.c1 f t hf7 ht8).trans (by rw [PVS_tt htm]; show some (Value.int .i64 (AW D f t)) = _; rw [HA.out])
    go_simp
    refine ⟨⟨_, rfl⟩, ?_⟩
    try simp only [Act.put, List.setIfInBounds_toArray, List.set_cons_zero, List.set_cons_succ]
    refine wpAnyG2_one (i := 12) (by kernel_rfl) (by decide) (wpOp_plain rfl rfl ?_)
    go_simp
    go_at_call 70
    refine (quiet_x (HO.out _ (HI.out _))).mono ?_
    rintro e w' ⟨rfl, y4, rfl⟩
    refine ⟨⟨_, rfl⟩, ?_⟩
    try simp only [Act.put, List.setIfInBounds_toArray, List.set_cons_zero, List.set_cons_succ]
    refine wpAnyG2_one (i := 13) (by kernel_rfl) (by decide) (wpOp_plain rfl rfl ?_)
    go_simp
    go_at_call 68
    refine (quiet_x (HLO.out _)).mono ?_
    rintro e w' ⟨rfl, y5, rfl⟩
    refine ⟨⟨_, rfl⟩, ?_⟩
    try simp only [Act.put, List.setIfInBounds_toArray, List.set_cons_zero, List.set_cons_succ]
    refine wpAnyG2_done (by kernel_rfl) ?_
    refine wpAny_one (i := 14) (by kernel_rfl) (wpOp_plain rfl rfl ?_)
    go_simp
    try simp only [Act.put, List.setIfInBounds_toArray, List.set_cons_zero, List.set_cons_succ]
    refine wpAny_one (i := 15) (by kernel_rfl) (wpOp_plain rfl rfl ?_)
    go_simp
    try simp only [Act.put, List.setIfInBounds_toArray, List.set_cons_zero, List.set_cons_succ]
    refine wpAny_end (by kernel_rfl) ?_
    go_wp2
    refine bodyPost_ret (v := .tuple #[.agg #[.int .i64 (rN A O), .int .i64 (rD A O)], .int .i64 0]) (by simp [results, Try.f36, go_sem, G0, G1, Gz]) rfl ⟨rfl, ?_⟩
    exact bS (bS (bT HB.out y5.b) HZ.out _) HZ.out _
  · refine wpOp_plain rfl rfl ?_
    go_simp
    go_at_call 70
    refine ((HO.out _ (HI.out _))).mono ?_
    rintro e w' ⟨rfl, hb4⟩
    have HT4 := Lib.hid (HT.out.bel hb4)
    obtain ⟨y4, rfl⟩ : ∃ z : Ext w2, w' = z.v := ⟨⟨w', bT (Ext.b _) hb4⟩, rfl⟩
    clear hb4
    refine ⟨⟨_, rfl⟩, ?_⟩
    try simp only [Act.put, List.setIfInBounds_toArray, List.set_cons_zero, List.set_cons_succ]
    have C0 : y4.v.cell? ⟨cb, f * 16 + t * 2 + 1, none⟩ = some (.int .i64 (A : Int)) := (HT4.out.c1 f t hf7 ht8).trans (by rw [PVS_tt htm]; show some (Value.int .i64 (AW D f t)) = _; rw [HA.out])
    refine wpAnyG2_one (i := 8) (by kernel_rfl) (by decide) (wpOp_plain rfl rfl ?_)
    go_simp
    refine ⟨⟨_, rfl⟩, ?_⟩
    try simp only [Act.put, List.setIfInBounds_toArray, List.set_cons_zero, List.set_cons_succ]
    refine wpAnyG2_one (i := 13) (by kernel_rfl) (by decide) (wpOp_plain rfl rfl ?_)
    go_simp
    go_at_call 68
    refine (quiet_x (HLO.out _)).mono ?_
    rintro e w' ⟨rfl, y5, rfl⟩
    refine ⟨⟨_, rfl⟩, ?_⟩
    try simp only [Act.put, List.setIfInBounds_toArray, List.set_cons_zero, List.set_cons_succ]
    refine wpAnyG2_done (by kernel_rfl) ?_
    refine wpAny_one (i := 14) (by kernel_rfl) (wpOp_plain rfl rfl ?_)
    go_simp
    try simp only [Act.put, List.setIfInBounds_toArray, List.set_cons_zero, List.set_cons_succ]
    refine wpAny_one (i := 15) (by kernel_rfl) (wpOp_plain rfl rfl ?_)
    go_simp
    try simp only [Act.put, List.setIfInBounds_toArray, List.set_cons_zero, List.set_cons_succ]
    refine wpAny_end (by kernel_rfl) ?_
    go_wp2
    refine bodyPost_ret (v := .tuple #[.agg #[.int .i64 (rN A O), .int .i64 (rD A O)], .int .i64 0]) (by simp [results, Try.f36, go_sem, G0, G1, Gz]) rfl ⟨rfl, ?_⟩
    exact bS (bS (bT HB.out y5.b) HZ.out _) HZ.out _
set_option maxRecDepth 100000 in
set_option maxHeartbeats 4000000 in
theorem averageP_er (D : Duct) (p q : Option Addr) (c d : Nat) (f t er : Int) (w : World) (hn : D.n ≤ 40) (hm : D.m ≤ 40) (he : chkE D.ok (areS D f t) = er) (h0 : er ≠ 0) (hi : DuctIn w w.heap.size D p q) :
    Calls Try.prog 36 #[.agg #[.slice p D.n c, .slice q D.m d], .int .i64 f, .int .i64 t] w fun e w' => e = .returned (.tuple #[.agg #[.int .i64 (0), .int .i64 (0)], .int .i64 er]) ∧ Below w.heap.size w w' := by
  obtain ⟨w1, x1, hw1, hb1, hz1, F0, F1⟩ := box_line w p q D.n D.m c d
  obtain ⟨w2, x2, hw2, hb2, hz2, G0, G1, Gz⟩ := box_two x1.v 60 0 0
  have hB2 : Below x1.v.heap.size x1.v w2 := hb2
  have HB := Lib.hid (bT (bT hb1 x1.b) hb2)
  have HI : Hid (∀ x : Ext w2, DuctIn x.v x.v.heap.size D p q) := fun x => (hi.bel (bT hb1 x1.b)).bel (bT hb2 x.b)
  have HZ : Hid (w.heap.size ≤ x1.v.heap.size) := by have := hb1.size; have := x1.b.size; show _ ≤ _; omega
  replace F0 : ∀ y : Ext w2, y.v.cell? ⟨w.heap.size, 0, none⟩ = some (.slice p D.n c) := fun y => F0 (y.up (bT x1.b hb2))
  replace F1 : ∀ y : Ext w2, y.v.cell? ⟨w.heap.size, 1, none⟩ = some (.slice q D.m d) := fun y => F1 (y.up (bT x1.b hb2))
  clear hb1 hz1 hi hb2 hz2 hB2
  obtain ⟨is, his⟩ : ∃ z, areS D f t = z := ⟨_, rfl⟩
  rw [his] at he
  have HS := Lib.hid (show ∀ V : World, Calls Try.prog 65 #[.agg #[.slice p D.n c, .slice q D.m d], .int .i64 f, .int .i64 t] V fun e w' => e = .returned (.bool is) ∧ Below V.heap.size V w' from fun V => by
    have := areSome_any D p q c d f t V
    rw [his] at this
    exact this)
  have HC := Lib.hid (show ∀ V : World, DuctIn V V.heap.size D p q → Calls Try.prog 57 #[.agg #[.slice p D.n c, .slice q D.m d], .bool is] V fun e w' => e = .returned (.int .i64 er) ∧ Below V.heap.size V w' from fun V h => by
    have := check_any D p q c d is V hn hm h
    rw [he] at this
    exact this)
  clear he his
  go_enter Try.func36, Try.ntmps36
  go_wp2
  refine quiet_e (by kernel_rfl) (by kernel_rfl) ?_
  repeat (first | go_big_quiet_step ((first | (go_at_call 65; exact quiet_x (HS.out _)) | (go_at_call 57; exact quiet_x (HC.out _ (HI.out _))))) | quiet_step ((first | (go_at_call 65; exact quiet_x (HS.out _)) | (go_at_call 57; exact quiet_x (HC.out _ (HI.out _))))))
  refine wpQuiet_nil ?_
  intro w6 hw6
  obtain ⟨y, rfl⟩ := hw6
  go_wp2
  refine bodyPost_ret (v := .tuple #[.agg #[.int .i64 0, .int .i64 0], .int .i64 er]) (by simp [results, Try.f36, go_sem, G0, G1, Gz]) rfl ⟨rfl, ?_⟩
  exact bS (bS (bT HB.out y.b) HZ.out _) HZ.out _
set_option maxRecDepth 100000 in
set_option maxHeartbeats 4000000 in
theorem averageR_ok (D : Duct) (p q : Option Addr) (c d : Nat) (f t : Nat) (w : World) (hft : f < t) (htm : t ≤ D.m) (hn : D.n ≤ 40) (hok : D.ok = true) (hi : DuctIn w w.heap.size D p q) :
    Calls Try.prog 51 #[.agg #[.slice p D.n c, .slice q D.m d], .int .i64 f, .int .i64 t] w fun e w' => e = .returned (.tuple #[.agg #[.int .i64 (avN D f t), .int .i64 (avD D f t)], .int .i64 0]) ∧ Below w.heap.size w w' := by
  obtain ⟨w1, x1, hw1, hb1, hz1, F0, F1⟩ := box_line w p q D.n D.m c d
  obtain ⟨w2, x2, hw2, hb2, hz2, G0, G1, Gz⟩ := box_two x1.v 60 0 0
  have hB2 : Below x1.v.heap.size x1.v w2 := hb2
  have HB := Lib.hid (bT (bT hb1 x1.b) hb2)
  have HI : Hid (∀ x : Ext w2, DuctIn x.v x.v.heap.size D p q) := fun x => (hi.bel (bT hb1 x1.b)).bel (bT hb2 x.b)
  have HZ : Hid (w.heap.size ≤ x1.v.heap.size) := by have := hb1.size; have := x1.b.size; show _ ≤ _; omega
  replace F0 : ∀ y : Ext w2, y.v.cell? ⟨w.heap.size, 0, none⟩ = some (.slice p D.n c) := fun y => F0 (y.up (bT x1.b hb2))
  replace F1 : ∀ y : Ext w2, y.v.cell? ⟨w.heap.size, 1, none⟩ = some (.slice q D.m d) := fun y => F1 (y.up (bT x1.b hb2))
  clear hb1 hz1 hi hb2 hz2 hB2
  have hm7 := (D.ok_parts hok).1
  have HNM := Lib.hid (D.ok_parts hok).2.1
  have HCO := Lib.hid (co_bd hok); have HOD := Lib.hid (od_bd hok); have HOK := Lib.hid hok
  obtain ⟨A, O, hA, hO, hA1, hO1, hO2, hvN, hvD⟩ := av_vals hok hft htm
  rw [hvN, hvD]
  have HS := Lib.hid (show ∀ V : World, Calls Try.prog 35 #[.agg #[.slice p D.n c, .slice q D.m d], .int .i64 f, .int .i64 t] V fun e w' => e = .returned (.bool true) ∧ Below V.heap.size V w' from fun V => by
    have := areSomeR_any D p q c d f t V (by omega)
    rw [areS_tt hft htm] at this
    exact this)
  have HC := Lib.hid (show ∀ V : World, DuctIn V V.heap.size D p q → Calls Try.prog 76 #[.agg #[.slice p D.n c, .slice q D.m d], .bool true] V fun e w' => e = .returned (.int .i64 0) ∧ Below V.heap.size V w' from fun V h => by
    have := ask_any D p q c d true V hn (by omega) h
    rw [hok] at this
    exact this)
  have HAV := Lib.hid (show ∀ V : World, DuctIn V V.heap.size D p q → Calls Try.prog 79 #[.agg #[.slice p D.n c, .slice q D.m d], .int .i64 (f : Int), .int .i64 (t : Int)] V fun e w' => e = .returned (.int .i64 (A : Int)) ∧ Below V.heap.size V w' from fun V h => average_is hA V HOK.out (by omega) htm h)
  have HO := Lib.hid (show ∀ V : World, DuctIn V V.heap.size D p q → Calls Try.prog 80 #[.agg #[.slice p D.n c, .slice q D.m d], .int .i64 (f : Int), .int .i64 (t : Int)] V fun e w' => e = .returned (.int .i64 (O : Int)) ∧ Below V.heap.size V w' from fun V h => oddsR_is hO V hm7 (by omega) htm HOD.out h)
  have HLO := Lib.hid (show ∀ V : World, Calls Try.prog 38 #[.int .i64 (A : Int), .int .i64 (O : Int)] V fun e w' => e = .returned (.agg #[.int .i64 (rN A O), .int .i64 (rD A O)]) ∧ Below V.heap.size V w' from fun V => reduced_any A O V (by omega) hO1 (by omega))
  have HA := Lib.hid hA
  have j1 : (f : Int) < 7 := by omega
  have j2 : (t : Int) < 8 := by omega
  have hf7 : f < 7 := by omega
  have ht8 : t < 8 := by omega
  have HFT := Lib.hid hft
  clear hok hA hO hvN hvD
  go_enter Try.func51, Try.ntmps51
  go_wp2
  refine quiet_e (by kernel_rfl) (by kernel_rfl) ?_
  repeat (first | go_big_quiet_step ((first | (go_at_call 35; exact quiet_x (HS.out _)) | (go_at_call 76; exact quiet_x (HC.out _ (HI.out _))))) | quiet_step ((first | (go_at_call 35; exact quiet_x (HS.out _)) | (go_at_call 76; exact quiet_x (HC.out _ (HI.out _))))))
  refine wpQuiet_nil ?_
  intro w6 hw6
  obtain ⟨y, rfl⟩ := hw6
  go_wp2
  refine wp_region_tailE 9 2 (by kernel_rfl) rfl (fun yr => ?_)
  refine wpAnyG2_take (i := 0) (v := ?_) (by kernel_rfl) rfl (by kernel_rfl) (by kernel_rfl) (by kernel_rfl) (fun _ _ _ h => h) (Or.inl ⟨by rfl, ?_⟩) ⟨_, rfl⟩ ?_
  rotate_left
  · rintro wS ⟨yS, rfl⟩
    go_simp
    try (with_reducible rfl)
  try simp only [Act.put, List.setIfInBounds_toArray, List.set_cons_zero, List.set_cons_succ]
  refine wpAnyG2_take (i := 1) (v := ?_) (by kernel_rfl) rfl (by kernel_rfl) (by kernel_rfl) (by kernel_rfl) (fun _ _ _ h => h) (Or.inl ⟨by rfl, ?_⟩) ⟨_, rfl⟩ ?_
  rotate_left
  · rintro wS ⟨yS, rfl⟩
    go_simp
    try (with_reducible rfl)
  try simp only [Act.put, List.setIfInBounds_toArray, List.set_cons_zero, List.set_cons_succ]
  refine wpAnyG2_take (i := 2) (v := ?_) (by kernel_rfl) rfl (by kernel_rfl) (by kernel_rfl) (by kernel_rfl) (fun _ _ _ h => h) (Or.inl ⟨by rfl, ?_⟩) ⟨_, rfl⟩ ?_
  rotate_left
  · rintro wS ⟨yS, rfl⟩
    go_simp
    try (with_reducible rfl)
  try simp only [Act.put, List.setIfInBounds_toArray, List.set_cons_zero, List.set_cons_succ]
  refine wpAnyG2_take (i := 4) (v := ?_) (by kernel_rfl) rfl (by kernel_rfl) (by kernel_rfl) (by kernel_rfl) (fun _ _ _ h => h) (Or.inl ⟨by rfl, ?_⟩) ⟨_, rfl⟩ ?_
  rotate_left
  · rintro wS ⟨yS, rfl⟩
    go_simp
    try (with_reducible rfl)
  try simp only [Act.put, List.setIfInBounds_toArray, List.set_cons_zero, List.set_cons_succ]
  refine wpAnyG2_take (i := 5) (v := ?_) (by kernel_rfl) rfl (by kernel_rfl) (by kernel_rfl) (by kernel_rfl) (fun _ _ _ h => h) (Or.inl ⟨by rfl, ?_⟩) ⟨_, rfl⟩ ?_
  rotate_left
  · rintro wS ⟨yS, rfl⟩
    go_simp
    try (with_reducible rfl)
  try simp only [Act.put, List.setIfInBounds_toArray, List.set_cons_zero, List.set_cons_succ]
  refine wpAnyG2_take (i := 6) (v := ?_) (by kernel_rfl) rfl (by kernel_rfl) (by kernel_rfl) (by kernel_rfl) (fun _ _ _ h => h) (Or.inl ⟨by rfl, ?_⟩) ⟨_, rfl⟩ ?_
  rotate_left
  · rintro wS ⟨yS, rfl⟩
    go_simp
    try (with_reducible rfl)
  try simp only [Act.put, List.setIfInBounds_toArray, List.set_cons_zero, List.set_cons_succ]
  refine wpAnyG2_one (i := 3) (by kernel_rfl) (by decide) (wpOp_plain rfl rfl ?_)
  go_simp
  go_at_call 79
  refine (quiet_x (HAV.out _ (HI.out _))).mono ?_
  rintro e w' ⟨rfl, y3, rfl⟩
  refine ⟨⟨_, rfl⟩, ?_⟩
  try simp only [Act.put, List.setIfInBounds_toArray, List.set_cons_zero, List.set_cons_succ]
  refine wpAnyG2_one (i := 7) (by kernel_rfl) (by decide) (wpOp_plain rfl rfl ?_)
  go_simp
  go_at_call 80
  refine (quiet_x (HO.out _ (HI.out _))).mono ?_
  rintro e w' ⟨rfl, y4, rfl⟩
  refine ⟨⟨_, rfl⟩, ?_⟩
  try simp only [Act.put, List.setIfInBounds_toArray, List.set_cons_zero, List.set_cons_succ]
  refine wpAnyG2_one (i := 8) (by kernel_rfl) (by decide) (wpOp_plain rfl rfl ?_)
  go_simp
  go_at_call 38
  refine (quiet_x (HLO.out _)).mono ?_
  rintro e w' ⟨rfl, y5, rfl⟩
  refine ⟨⟨_, rfl⟩, ?_⟩
  try simp only [Act.put, List.setIfInBounds_toArray, List.set_cons_zero, List.set_cons_succ]
  refine wpAnyG2_done (by kernel_rfl) ?_
  refine wpAny_one (i := 9) (by kernel_rfl) (wpOp_plain rfl rfl ?_)
  go_simp
  try simp only [Act.put, List.setIfInBounds_toArray, List.set_cons_zero, List.set_cons_succ]
  refine wpAny_one (i := 10) (by kernel_rfl) (wpOp_plain rfl rfl ?_)
  go_simp
  try simp only [Act.put, List.setIfInBounds_toArray, List.set_cons_zero, List.set_cons_succ]
  refine wpAny_end (by kernel_rfl) ?_
  go_wp2
  refine bodyPost_ret (v := .tuple #[.agg #[.int .i64 (rN A O), .int .i64 (rD A O)], .int .i64 0]) (by simp [results, Try.f51, go_sem, G0, G1, Gz]) rfl ⟨rfl, ?_⟩
  exact bS (bS (bT HB.out y5.b) HZ.out _) HZ.out _
set_option maxRecDepth 100000 in
set_option maxHeartbeats 4000000 in
theorem averageR_er (D : Duct) (p q : Option Addr) (c d : Nat) (f t er : Int) (w : World) (hn : D.n ≤ 40) (hm : D.m ≤ 40) (he : chkE D.ok (areS D f t) = er) (h0 : er ≠ 0) (hi : DuctIn w w.heap.size D p q) :
    Calls Try.prog 51 #[.agg #[.slice p D.n c, .slice q D.m d], .int .i64 f, .int .i64 t] w fun e w' => e = .returned (.tuple #[.agg #[.int .i64 (0), .int .i64 (0)], .int .i64 er]) ∧ Below w.heap.size w w' := by
  obtain ⟨w1, x1, hw1, hb1, hz1, F0, F1⟩ := box_line w p q D.n D.m c d
  obtain ⟨w2, x2, hw2, hb2, hz2, G0, G1, Gz⟩ := box_two x1.v 60 0 0
  have hB2 : Below x1.v.heap.size x1.v w2 := hb2
  have HB := Lib.hid (bT (bT hb1 x1.b) hb2)
  have HI : Hid (∀ x : Ext w2, DuctIn x.v x.v.heap.size D p q) := fun x => (hi.bel (bT hb1 x1.b)).bel (bT hb2 x.b)
  have HZ : Hid (w.heap.size ≤ x1.v.heap.size) := by have := hb1.size; have := x1.b.size; show _ ≤ _; omega
  replace F0 : ∀ y : Ext w2, y.v.cell? ⟨w.heap.size, 0, none⟩ = some (.slice p D.n c) := fun y => F0 (y.up (bT x1.b hb2))
  replace F1 : ∀ y : Ext w2, y.v.cell? ⟨w.heap.size, 1, none⟩ = some (.slice q D.m d) := fun y => F1 (y.up (bT x1.b hb2))
  clear hb1 hz1 hi hb2 hz2 hB2
  obtain ⟨is, his⟩ : ∃ z, areS D f t = z := ⟨_, rfl⟩
  rw [his] at he
  have HS := Lib.hid (show ∀ V : World, Calls Try.prog 35 #[.agg #[.slice p D.n c, .slice q D.m d], .int .i64 f, .int .i64 t] V fun e w' => e = .returned (.bool is) ∧ Below V.heap.size V w' from fun V => by
    have := areSomeR_any D p q c d f t V (by omega)
    rw [his] at this
    exact this)
  have HC := Lib.hid (show ∀ V : World, DuctIn V V.heap.size D p q → Calls Try.prog 76 #[.agg #[.slice p D.n c, .slice q D.m d], .bool is] V fun e w' => e = .returned (.int .i64 er) ∧ Below V.heap.size V w' from fun V h => by
    have := ask_any D p q c d is V hn hm h
    rw [he] at this
    exact this)
  clear he his
  go_enter Try.func51, Try.ntmps51
  go_wp2
  refine quiet_e (by kernel_rfl) (by kernel_rfl) ?_
  repeat (first | go_big_quiet_step ((first | (go_at_call 35; exact quiet_x (HS.out _)) | (go_at_call 76; exact quiet_x (HC.out _ (HI.out _))))) | quiet_step ((first | (go_at_call 35; exact quiet_x (HS.out _)) | (go_at_call 76; exact quiet_x (HC.out _ (HI.out _))))))
  refine wpQuiet_nil ?_
  intro w6 hw6
  obtain ⟨y, rfl⟩ := hw6
  go_wp2
  refine bodyPost_ret (v := .tuple #[.agg #[.int .i64 0, .int .i64 0], .int .i64 er]) (by simp [results, Try.f51, go_sem, G0, G1, Gz]) rfl ⟨rfl, ?_⟩
  exact bS (bS (bT HB.out y.b) HZ.out _) HZ.out _
end Go.Proofs.Ytkdlppekjjbgoaa
