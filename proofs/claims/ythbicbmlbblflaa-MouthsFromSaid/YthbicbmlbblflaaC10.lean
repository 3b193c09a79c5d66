/- Boxes of mouths: boxes with another share, or another most; Remainders of the program. -/
import Derived.Test.YthbicbmlbblflaaC9

import Derived.Test.YthbicbmlbblflaaM5

set_option linter.unusedSimpArgs false

set_option linter.unusedVariables false

namespace Go.Proofs.Ythbicbmlbblflaa

open Go.RowKit

set_option maxRecDepth 100000 in
set_option maxHeartbeats 4000000 in
theorem shared_any (D : Bx) (p q : Option Addr) (c d k : Nat) (v : Int) (w : World) (hn : D.n ≤ 40) (hmn : D.m = D.n) (hk : k < D.n) (hi : BxIn w w.heap.size D p q) :
    Calls Try.prog 53 #[.agg #[.slice p D.n c, .slice q D.m d], .int .i64 (k : Int), .int .i64 v] w fun e w' => ∃ p' c' q' d', e = .returned (.agg #[.slice p' D.n c', .slice q' D.m d']) ∧ Below w.heap.size w w' ∧ BxIn w' w'.heap.size (Bx.setSh D k v) p' q' := by
  obtain ⟨w1, x1, hw1, hb1, hz1, F0, F1⟩ := box_bx w p q D.n D.m c d
  obtain ⟨w2, x2, hw2, hb2, hz2, G0, G1, Gf⟩ := box_nil x1.v
  have hb12 := bT x1.b hb2
  have HB := Lib.hid (bT hb1 hb12)
  have HI : Hid (∀ x : Ext w2, BxIn x.v x.v.heap.size D p q) := fun x => (hi.bel hb1).bel (bT hb12 x.b)
  replace F0 : ∀ y : Ext w2, y.v.cell? ⟨w.heap.size, 0, none⟩ = some (.slice p D.n c) := fun y => F0 (y.up hb12)
  replace F1 : ∀ y : Ext w2, y.v.cell? ⟨w.heap.size, 1, none⟩ = some (.slice q D.m d) := fun y => F1 (y.up hb12)
  have HZ := Lib.hid (Nat.le_trans hb1.size x1.b.size)
  have HZ2 : Hid (x1.v.heap.size < w2.heap.size) := by show _ < _; omega
  have HMN := Lib.hid hmn
  have HG0 := Lib.hid G0; have HG1 := Lib.hid G1; have HGf := Lib.hid Gf
  clear hb1 hz1 hi hb2 hz2 hb12 hmn G0 G1 Gf
  go_enter Try.func53, Try.ntmps53
  go_wp2_with fail
  refine (copy_any D p q c d _ (by omega) (by have := HMN.out; omega) (HI.out _)).mono ?_
  rintro e wc ⟨p', c', q', d', rfl, hcp⟩
  have hkl : k < D.n := by have := HMN.out; omega
  obtain ⟨g, e1, hgl, hrow⟩ := hcp.s (by omega)
  obtain ⟨g2, e2, hgl2, hrow2⟩ := hcp.o (by have := HMN.out; omega)
  have hne := hcp.ne g g2 (by omega) (by have := HMN.out; omega) e1 e2
  subst e1; subst e2
  obtain ⟨w7, x7, hw7, hb7, hz7, K0, K1⟩ := box_bx wc (some ⟨g, 0, none⟩) (some ⟨g2, 0, none⟩) D.n D.m c' d'
  have hr7 := (hrow.bel hb7).bel x7.b
  have hr7' := (hrow2.bel hb7).bel x7.b
  have gk := hr7.c k hkl
  have fk := hr7.fz k
  have HR7 := Lib.hid (hr7.set hkl v)
  have HR7' : Hid (RowN (x7.v.setCell ⟨g, k, none⟩ (.int .i64 v)) g2 D.m D.mo) := hr7'.blk (setCell_block (by simp; omega))
  have hX : Below x2.v.heap.size x2.v x7.v := bT (bT hcp.below hb7) x7.b
  have HX := Lib.hid hX
  have hc1 := hcp.below.size; have hx2 := x2.b.size
  have hz22 := HZ2.out
  have hgw : g < wc.heap.size := hrow.lt
  have hb78 : ∀ b : Nat, b ≠ g → b < x7.v.heap.size → (x7.v.setCell ⟨g, k, none⟩ (.int .i64 v)).heap[b]? = x7.v.heap[b]? := fun b h _ => setCell_block h
  have M0 : (x7.v.setCell ⟨g, k, none⟩ (.int .i64 v)).cell? ⟨wc.heap.size, 0, none⟩ = _ := (World.cell?_of_block (a := ⟨wc.heap.size, 0, none⟩) (setCell_block (by simp; omega))).trans (K0 x7)
  have M1 : (x7.v.setCell ⟨g, k, none⟩ (.int .i64 v)).cell? ⟨wc.heap.size, 1, none⟩ = _ := (World.cell?_of_block (a := ⟨wc.heap.size, 1, none⟩) (setCell_block (by simp; omega))).trans (K1 x7)
  have hgx : g ≠ x1.v.heap.size := by omega
  have hx7 : Below w2.heap.size w2 x7.v := bT x2.b hX
  have N0 : (x7.v.setCell ⟨g, k, none⟩ (.int .i64 v)).cell? ⟨x1.v.heap.size, 0, none⟩ = _ := (World.cell?_of_block (a := ⟨x1.v.heap.size, 0, none⟩) (setCell_block (by simp; omega))).trans (HG0.out ⟨x7.v, hx7⟩)
  have N1 : (x7.v.setCell ⟨g, k, none⟩ (.int .i64 v)).cell? ⟨x1.v.heap.size, 1, none⟩ = _ := (World.cell?_of_block (a := ⟨x1.v.heap.size, 1, none⟩) (setCell_block (by simp; omega))).trans (HG1.out ⟨x7.v, hx7⟩)
  have Nf : ∀ i, (x7.v.setCell ⟨g, k, none⟩ (.int .i64 v)).frozen? ⟨x1.v.heap.size, i, none⟩ = false := fun i => (World.frozen?_of_block (a := ⟨x1.v.heap.size, i, none⟩) (setCell_block (by simp; omega))).trans (HGf.out ⟨x7.v, hx7⟩ i)
  have HBL : Hid (Below w.heap.size w (x7.v.setCell ⟨g, k, none⟩ (.int .i64 v))) := bS (bT HB.out hx7) (by have := HB.out.size; simp; omega) _
  obtain ⟨w8, hw8⟩ : ∃ w8, x7.v.setCell ⟨g, k, none⟩ (.int .i64 v) = w8 := ⟨_, rfl⟩
  rw [hw8] at M0 M1 N0 N1 Nf HR7 HR7' HBL
  have hki : (k : Int) < (D.n : Int) := by omega
  have L0 := K0 x7; have L1 := K1 x7
  have HGX : Hid (g ≠ x1.v.heap.size ∧ g2 ≠ x1.v.heap.size) := ⟨by omega, by omega⟩
  clear hcp hrow hrow2 hr7 hr7' hb7 hz7 K0 K1 hX hc1 hx2 hz22 hgw hb78 hgx hx7 hgl hgl2 hne F0 F1 hw1 hw2
  go_wp2
  refine bodyPost_ret (v := .agg #[.slice (some ⟨g, 0, none⟩) D.n c', .slice (some ⟨g2, 0, none⟩) D.m d']) (by simp [results, Try.f53, go_sem, N0, N1, Nf]) rfl ?_
  refine ⟨_, _, _, _, rfl, bS (bS HBL.out HZ.out _) HZ.out _, ?_, ?_⟩
  · exact RowN.num (RowN.blk HR7.out (by rw [setCell_block (by have := HGX.out; simp; omega), setCell_block (by have := HGX.out; simp; omega)]))
  · exact RowN.num (RowN.blk HR7'.out (by rw [setCell_block (by have := HGX.out; simp; omega), setCell_block (by have := HGX.out; simp; omega)]))
set_option maxRecDepth 100000 in
set_option maxHeartbeats 4000000 in
theorem wider_any (D : Bx) (p q : Option Addr) (c d k : Nat) (v : Int) (w : World) (hn : D.n ≤ 40) (hmn : D.m = D.n) (hk : k < D.n) (hi : BxIn w w.heap.size D p q) :
    Calls Try.prog 54 #[.agg #[.slice p D.n c, .slice q D.m d], .int .i64 (k : Int), .int .i64 v] w fun e w' => ∃ p' c' q' d', e = .returned (.agg #[.slice p' D.n c', .slice q' D.m d']) ∧ Below w.heap.size w w' ∧ BxIn w' w'.heap.size (Bx.setMo D k v) p' q' := by
  obtain ⟨w1, x1, hw1, hb1, hz1, F0, F1⟩ := box_bx w p q D.n D.m c d
  obtain ⟨w2, x2, hw2, hb2, hz2, G0, G1, Gf⟩ := box_nil x1.v
  have hb12 := bT x1.b hb2
  have HB := Lib.hid (bT hb1 hb12)
  have HI : Hid (∀ x : Ext w2, BxIn x.v x.v.heap.size D p q) := fun x => (hi.bel hb1).bel (bT hb12 x.b)
  replace F0 : ∀ y : Ext w2, y.v.cell? ⟨w.heap.size, 0, none⟩ = some (.slice p D.n c) := fun y => F0 (y.up hb12)
  replace F1 : ∀ y : Ext w2, y.v.cell? ⟨w.heap.size, 1, none⟩ = some (.slice q D.m d) := fun y => F1 (y.up hb12)
  have HZ := Lib.hid (Nat.le_trans hb1.size x1.b.size)
  have HZ2 : Hid (x1.v.heap.size < w2.heap.size) := by show _ < _; omega
  have HMN := Lib.hid hmn
  have HG0 := Lib.hid G0; have HG1 := Lib.hid G1; have HGf := Lib.hid Gf
  clear hb1 hz1 hi hb2 hz2 hb12 hmn G0 G1 Gf
  go_enter Try.func54, Try.ntmps54
  go_wp2_with fail
  refine (copy_any D p q c d _ (by omega) (by have := HMN.out; omega) (HI.out _)).mono ?_
  rintro e wc ⟨p', c', q', d', rfl, hcp⟩
  have hkl : k < D.m := by have := HMN.out; omega
  obtain ⟨g, e1, hgl, hrow⟩ := hcp.o (by omega)
  obtain ⟨g2, e2, hgl2, hrow2⟩ := hcp.s (by have := HMN.out; omega)
  have hne := hcp.ne g2 g (by omega) (by have := HMN.out; omega) e2 e1
  subst e1; subst e2
  obtain ⟨w7, x7, hw7, hb7, hz7, K0, K1⟩ := box_bx wc (some ⟨g2, 0, none⟩) (some ⟨g, 0, none⟩) D.n D.m c' d'
  have hr7 := (hrow.bel hb7).bel x7.b
  have hr7' := (hrow2.bel hb7).bel x7.b
  have gk := hr7.c k hkl
  have fk := hr7.fz k
  have HR7 := Lib.hid (hr7.set hkl v)
  have HR7' : Hid (RowN (x7.v.setCell ⟨g, k, none⟩ (.int .i64 v)) g2 D.n D.sh) := hr7'.blk (setCell_block (by simp; omega))
  have hX : Below x2.v.heap.size x2.v x7.v := bT (bT hcp.below hb7) x7.b
  have HX := Lib.hid hX
  have hc1 := hcp.below.size; have hx2 := x2.b.size
  have hz22 := HZ2.out
  have hgw : g < wc.heap.size := hrow.lt
  have hb78 : ∀ b : Nat, b ≠ g → b < x7.v.heap.size → (x7.v.setCell ⟨g, k, none⟩ (.int .i64 v)).heap[b]? = x7.v.heap[b]? := fun b h _ => setCell_block h
  have M0 : (x7.v.setCell ⟨g, k, none⟩ (.int .i64 v)).cell? ⟨wc.heap.size, 0, none⟩ = _ := (World.cell?_of_block (a := ⟨wc.heap.size, 0, none⟩) (setCell_block (by simp; omega))).trans (K0 x7)
  have M1 : (x7.v.setCell ⟨g, k, none⟩ (.int .i64 v)).cell? ⟨wc.heap.size, 1, none⟩ = _ := (World.cell?_of_block (a := ⟨wc.heap.size, 1, none⟩) (setCell_block (by simp; omega))).trans (K1 x7)
  have hgx : g ≠ x1.v.heap.size := by omega
  have hx7 : Below w2.heap.size w2 x7.v := bT x2.b hX
  have N0 : (x7.v.setCell ⟨g, k, none⟩ (.int .i64 v)).cell? ⟨x1.v.heap.size, 0, none⟩ = _ := (World.cell?_of_block (a := ⟨x1.v.heap.size, 0, none⟩) (setCell_block (by simp; omega))).trans (HG0.out ⟨x7.v, hx7⟩)
  have N1 : (x7.v.setCell ⟨g, k, none⟩ (.int .i64 v)).cell? ⟨x1.v.heap.size, 1, none⟩ = _ := (World.cell?_of_block (a := ⟨x1.v.heap.size, 1, none⟩) (setCell_block (by simp; omega))).trans (HG1.out ⟨x7.v, hx7⟩)
  have Nf : ∀ i, (x7.v.setCell ⟨g, k, none⟩ (.int .i64 v)).frozen? ⟨x1.v.heap.size, i, none⟩ = false := fun i => (World.frozen?_of_block (a := ⟨x1.v.heap.size, i, none⟩) (setCell_block (by simp; omega))).trans (HGf.out ⟨x7.v, hx7⟩ i)
  have HBL : Hid (Below w.heap.size w (x7.v.setCell ⟨g, k, none⟩ (.int .i64 v))) := bS (bT HB.out hx7) (by have := HB.out.size; simp; omega) _
  obtain ⟨w8, hw8⟩ : ∃ w8, x7.v.setCell ⟨g, k, none⟩ (.int .i64 v) = w8 := ⟨_, rfl⟩
  rw [hw8] at M0 M1 N0 N1 Nf HR7 HR7' HBL
  have hki : (k : Int) < (D.m : Int) := by omega
  have L0 := K0 x7; have L1 := K1 x7
  have HGX : Hid (g ≠ x1.v.heap.size ∧ g2 ≠ x1.v.heap.size) := ⟨by omega, by omega⟩
  clear hcp hrow hrow2 hr7 hr7' hb7 hz7 K0 K1 hX hc1 hx2 hz22 hgw hb78 hgx hx7 hgl hgl2 hne F0 F1 hw1 hw2
  go_wp2
  refine bodyPost_ret (v := .agg #[.slice (some ⟨g2, 0, none⟩) D.n c', .slice (some ⟨g, 0, none⟩) D.m d']) (by simp [results, Try.f54, go_sem, N0, N1, Nf]) rfl ?_
  refine ⟨_, _, _, _, rfl, bS (bS HBL.out HZ.out _) HZ.out _, ?_, ?_⟩
  · exact RowN.num (RowN.blk HR7'.out (by rw [setCell_block (by have := HGX.out; simp; omega), setCell_block (by have := HGX.out; simp; omega)]))
  · exact RowN.num (RowN.blk HR7.out (by rw [setCell_block (by have := HGX.out; simp; omega), setCell_block (by have := HGX.out; simp; omega)]))
set_option maxRecDepth 100000 in
set_option maxHeartbeats 4000000 in
theorem remP_ok (D : Bx) (p q : Option Addr) (c d F : Nat) (w : World) (hok : D.ok = true) (hF : F ≤ 40) (hi : BxIn w w.heap.size D p q) :
    Calls Try.prog 37 #[.agg #[.slice p D.n c, .slice q D.m d], .int .i64 (F : Int)] w fun e w' => ∃ y c', e = .returned (.tuple #[.slice y D.n c', .int .i64 0]) ∧ New w w' D.n (RM D F) y := by
  obtain ⟨w1, x, hw1, hb1, hz1, F0, F1⟩ := box_bx w p q D.n D.m c d
  have hn5 := (Bx.ok_parts hok).1
  have hm5 : D.m ≤ 5 := by have := (Bx.ok_parts hok).2.1; omega
  have HB := Lib.hid hb1
  have HI : Hid (∀ x : Ext w1, BxIn x.v x.v.heap.size D p q) := fun x => (hi.bel hb1).bel x.b
  have hw : within (F : Int) 0 40 = true := within_tt (by omega) (by omega)
  have HV := Lib.hid ((allW_one (F : Int) 0 40).trans hw)
  have HCE := Lib.hid (chkE_ok.2 ⟨hok, rfl⟩)
  have HOK := Lib.hid hok
  clear hb1 hz1 hi hw hok
  go_enter Try.func37, Try.ntmps37
  go_wp2
  refine wp_region_lastE 5 (by kernel_rfl) rfl (fun yr => ?_)
  refine wpAnyG_take (i := 0) (v := ?_) (by kernel_rfl) rfl (by kernel_rfl) (by kernel_rfl) (by kernel_rfl) (fun _ _ _ h => h) (Or.inl ⟨by rfl, ?_⟩) ⟨_, rfl⟩ ?_
  rotate_left
  · rintro wS ⟨yS, rfl⟩
    go_simp
    try (with_reducible rfl)
  try simp only [Act.put, List.setIfInBounds_toArray, List.set_cons_zero, List.set_cons_succ]
  refine wpAnyG_take (i := 1) (v := ?_) (by kernel_rfl) rfl (by kernel_rfl) (by kernel_rfl) (by kernel_rfl) (fun _ _ _ h => h) (Or.inl ⟨by rfl, ?_⟩) ⟨_, rfl⟩ ?_
  rotate_left
  · rintro wS ⟨yS, rfl⟩
    go_simp
    try (with_reducible rfl)
  try simp only [Act.put, List.setIfInBounds_toArray, List.set_cons_zero, List.set_cons_succ]
  refine wpAnyG_one (i := 2) (by kernel_rfl) (by decide) (wpOp_plain rfl rfl ?_)
  go_simp
  obtain ⟨ya, hya, hna⟩ := one_flow (x := yr) (fl := (F : Int)) (t := 3)
  have HN := Lib.hid hna; clear hna
  rw [hya]; clear hya
  refine ⟨⟨_, rfl⟩, ?_⟩
  try simp only [Act.put, List.setIfInBounds_toArray, List.set_cons_zero, List.set_cons_succ]
  refine wpAnyG_one (i := 3) (by kernel_rfl) (by decide) (wpOp_plain rfl rfl ?_)
  go_simp
  go_at_call 62
  refine (areFlows_any 1 1 (fun _ => (F : Int)) _ _ (by omega) HN.out).mono ?_
  rintro e w' ⟨rfl, rfl⟩
  rw [HV.out]
  refine ⟨⟨_, rfl⟩, ?_⟩
  try simp only [Act.put, List.setIfInBounds_toArray, List.set_cons_zero, List.set_cons_succ]
  refine wpAnyG_one (i := 4) (by kernel_rfl) (by decide) (wpOp_plain rfl rfl ?_)
  go_simp
  go_at_call 60
  refine (quiet_x (check_is HCE.out (by omega) (by omega) (HI.out _))).mono ?_
  rintro e w' ⟨rfl, yc, rfl⟩
  refine ⟨⟨_, rfl⟩, ?_⟩
  try simp only [Act.put, List.setIfInBounds_toArray, List.set_cons_zero, List.set_cons_succ]
  refine wpAnyG_done (by kernel_rfl) (by kernel_rfl) (wpOp_plain rfl rfl ?_)
  go_simp
  go_wp2
  refine wp_region_lastE 8 (by kernel_rfl) rfl (fun ys => ?_)
  refine wpAnyG_take (i := 0) (v := ?_) (by kernel_rfl) rfl (by kernel_rfl) (by kernel_rfl) (by kernel_rfl) (fun _ _ _ h => h) (Or.inl ⟨by rfl, ?_⟩) ⟨_, rfl⟩ ?_
  rotate_left
  · rintro wS ⟨yS, rfl⟩
    go_simp
    try (with_reducible rfl)
  try simp only [Act.put, List.setIfInBounds_toArray, List.set_cons_zero, List.set_cons_succ]
  refine wpAnyG_take (i := 1) (v := ?_) (by kernel_rfl) rfl (by kernel_rfl) (by kernel_rfl) (by kernel_rfl) (fun _ _ _ h => h) (Or.inl ⟨by rfl, ?_⟩) ⟨_, rfl⟩ ?_
  rotate_left
  · rintro wS ⟨yS, rfl⟩
    go_simp
    try (with_reducible rfl)
  try simp only [Act.put, List.setIfInBounds_toArray, List.set_cons_zero, List.set_cons_succ]
  refine wpAnyG_take (i := 3) (v := ?_) (by kernel_rfl) rfl (by kernel_rfl) (by kernel_rfl) (by kernel_rfl) (fun _ _ _ h => h) (Or.inl ⟨by rfl, ?_⟩) ⟨_, rfl⟩ ?_
  rotate_left
  · rintro wS ⟨yS, rfl⟩
    go_simp
    try (with_reducible rfl)
  try simp only [Act.put, List.setIfInBounds_toArray, List.set_cons_zero, List.set_cons_succ]
  refine wpAnyG_take (i := 4) (v := ?_) (by kernel_rfl) rfl (by kernel_rfl) (by kernel_rfl) (by kernel_rfl) (fun _ _ _ h => h) (Or.inl ⟨by rfl, ?_⟩) ⟨_, rfl⟩ ?_
  rotate_left
  · rintro wS ⟨yS, rfl⟩
    go_simp
    try (with_reducible rfl)
  try simp only [Act.put, List.setIfInBounds_toArray, List.set_cons_zero, List.set_cons_succ]
  refine wpAnyG_take (i := 5) (v := ?_) (by kernel_rfl) rfl (by kernel_rfl) (by kernel_rfl) (by kernel_rfl) (fun _ _ _ h => h) (Or.inl ⟨by rfl, ?_⟩) ⟨_, rfl⟩ ?_
  rotate_left
  · rintro wS ⟨yS, rfl⟩
    go_simp
    try (with_reducible rfl)
  try simp only [Act.put, List.setIfInBounds_toArray, List.set_cons_zero, List.set_cons_succ]
  refine wpAnyG_one (i := 2) (by kernel_rfl) (by decide) (wpOp_plain rfl rfl ?_)
  go_simp
  go_at_call 78
  refine (quiet_x (byRem_any D p q c d F _ HOK.out hF (HI.out _))).mono ?_
  rintro e w' ⟨rfl, yd, rfl⟩
  refine ⟨⟨_, rfl⟩, ?_⟩
  try simp only [Act.put, List.setIfInBounds_toArray, List.set_cons_zero, List.set_cons_succ]
  refine wpAnyG_one (i := 6) (by kernel_rfl) (by decide) (wpOp_plain rfl rfl ?_)
  go_simp
  go_at_call 64
  refine (list_any (RM D F) D.n _ hn5).mono ?_
  rintro e w' ⟨y, c', rfl, hc⟩
  have HC : Hid (New w w' D.n (RM D F) y) := ⟨bT HB.out (bT yd.b hc.below), fun h0 => by obtain ⟨g', e, h1, h2⟩ := hc.here h0; exact ⟨g', e, Nat.le_trans (bT HB.out yd.b).size h1, h2⟩⟩
  obtain ⟨ye, rfl⟩ : ∃ zz : Ext w1, w' = zz.v := ⟨⟨_, bT yd.b hc.below⟩, rfl⟩
  clear hc
  refine ⟨⟨_, rfl⟩, ?_⟩
  try simp only [Act.put, List.setIfInBounds_toArray, List.set_cons_zero, List.set_cons_succ]
  refine wpAnyG_take (i := 7) (v := ?_) (by kernel_rfl) rfl (by kernel_rfl) (by kernel_rfl) (by kernel_rfl) (fun _ _ _ h => h) (Or.inl ⟨by rfl, ?_⟩) ⟨_, rfl⟩ ?_
  rotate_left
  · rintro wS ⟨yS, rfl⟩
    go_simp
    try (with_reducible rfl)
  try simp only [Act.put, List.setIfInBounds_toArray, List.set_cons_zero, List.set_cons_succ]
  refine wpAnyG_done (by kernel_rfl) (by kernel_rfl) (wpOp_plain rfl rfl ?_)
  go_simp
  go_wp2
  go_ret2
  exact ⟨_, _, rfl, HC.out⟩
set_option maxRecDepth 100000 in
set_option maxHeartbeats 4000000 in
theorem remP_err (D : Bx) (p q : Option Addr) (c d : Nat) (fl : Int) (w : World) (hn : D.n ≤ 40) (hm : D.m ≤ 40) (hi : BxIn w w.heap.size D p q) (he : gE D fl ≠ 0) :
    Calls Try.prog 37 #[.agg #[.slice p D.n c, .slice q D.m d], .int .i64 fl] w fun e w' => e = .returned (.tuple #[.slice none 0 0, .int .i64 (gE D fl)]) ∧ Below w.heap.size w w' := by
  obtain ⟨w1, x, hw1, hb1, hz1, F0, F1⟩ := box_bx w p q D.n D.m c d
  have HB := Lib.hid hb1
  have HI : Hid (∀ x : Ext w1, BxIn x.v x.v.heap.size D p q) := fun x => (hi.bel hb1).bel x.b
  have HV := Lib.hid (allW_one fl 0 40)
  have j0 := askF_err he
  have HA := Lib.hid (show ∀ V : World, BxIn V V.heap.size D p q → Calls Try.prog 60 #[.agg #[.slice p D.n c, .slice q D.m d], .bool (within fl 0 40)] V fun e w' => e = .returned (.int .i64 (gE D fl)) ∧ Below V.heap.size V w' from fun V h => check_is rfl hn hm h)
  clear hb1 hz1 hi he
  go_enter Try.func37, Try.ntmps37
  go_wp2
  refine wp_region_lastE 5 (by kernel_rfl) rfl (fun yr => ?_)
  refine wpAnyG_take (i := 0) (v := ?_) (by kernel_rfl) rfl (by kernel_rfl) (by kernel_rfl) (by kernel_rfl) (fun _ _ _ h => h) (Or.inl ⟨by rfl, ?_⟩) ⟨_, rfl⟩ ?_
  rotate_left
  · rintro wS ⟨yS, rfl⟩
    go_simp
    try (with_reducible rfl)
  try simp only [Act.put, List.setIfInBounds_toArray, List.set_cons_zero, List.set_cons_succ]
  refine wpAnyG_take (i := 1) (v := ?_) (by kernel_rfl) rfl (by kernel_rfl) (by kernel_rfl) (by kernel_rfl) (fun _ _ _ h => h) (Or.inl ⟨by rfl, ?_⟩) ⟨_, rfl⟩ ?_
  rotate_left
  · rintro wS ⟨yS, rfl⟩
    go_simp
    try (with_reducible rfl)
  try simp only [Act.put, List.setIfInBounds_toArray, List.set_cons_zero, List.set_cons_succ]
  refine wpAnyG_one (i := 2) (by kernel_rfl) (by decide) (wpOp_plain rfl rfl ?_)
  go_simp
  obtain ⟨ya, hya, hna⟩ := one_flow (x := yr) (fl := fl) (t := 3)
  have HN := Lib.hid hna; clear hna
  rw [hya]; clear hya
  refine ⟨⟨_, rfl⟩, ?_⟩
  try simp only [Act.put, List.setIfInBounds_toArray, List.set_cons_zero, List.set_cons_succ]
  refine wpAnyG_one (i := 3) (by kernel_rfl) (by decide) (wpOp_plain rfl rfl ?_)
  go_simp
  go_at_call 62
  refine (areFlows_any 1 1 (fun _ => fl) _ _ (by omega) HN.out).mono ?_
  rintro e w' ⟨rfl, rfl⟩
  rw [HV.out]
  refine ⟨⟨_, rfl⟩, ?_⟩
  try simp only [Act.put, List.setIfInBounds_toArray, List.set_cons_zero, List.set_cons_succ]
  refine wpAnyG_one (i := 4) (by kernel_rfl) (by decide) (wpOp_plain rfl rfl ?_)
  go_simp
  go_at_call 60
  refine (quiet_x (HA.out _ (HI.out _))).mono ?_
  rintro e w' ⟨rfl, yc, rfl⟩
  refine ⟨⟨_, rfl⟩, ?_⟩
  try simp only [Act.put, List.setIfInBounds_toArray, List.set_cons_zero, List.set_cons_succ]
  refine wpAnyG_done (by kernel_rfl) (by kernel_rfl) (wpOp_plain rfl rfl ?_)
  go_simp
  go_wp2
  go_ret2
  exact ⟨rfl, bT HB.out yc.b⟩
theorem remP_any (D : Bx) (p q : Option Addr) (c d : Nat) (fl : Int) (w : World) (hn : D.n ≤ 40) (hm : D.m ≤ 40) (hi : BxIn w w.heap.size D p q) :
    Calls Try.prog 37 #[.agg #[.slice p D.n c, .slice q D.m d], .int .i64 fl] w fun e w' => ∃ y c', e = .returned (.tuple #[.slice y (gN D fl) c', .int .i64 (gE D fl)]) ∧ New w w' (gN D fl) (RM D fl) y := by
  by_cases h : gE D fl = 0
  · obtain ⟨hok, F, rfl, hF⟩ := gE_parts h
    refine (remP_ok D p q c d F w hok hF hi).mono ?_
    rintro e w' ⟨y, c', rfl, hc⟩
    refine ⟨y, c', by rw [h, show gN D (F : Int) = D.n from if_pos h], ?_⟩
    rw [show gN D (F : Int) = D.n from if_pos h]
    exact hc
  · refine (remP_err D p q c d fl w hn hm hi h).mono ?_
    rintro e w' ⟨rfl, hb⟩
    rw [show gN D fl = 0 from if_neg h]
    exact ⟨none, 0, rfl, New.none hb⟩
end Go.Proofs.Ythbicbmlbblflaa
