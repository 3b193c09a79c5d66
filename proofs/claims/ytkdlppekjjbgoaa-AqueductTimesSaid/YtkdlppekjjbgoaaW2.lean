/- The cheapest gaugings, of the program: what a first gauging is worth, and the best one. -/
import Derived.Test.YtkdlppekjjbgoaaS3

import Derived.Test.YtkdlppekjjbgoaaW1

set_option linter.unusedSimpArgs false

set_option linter.unusedVariables false

namespace Go.Proofs.Ytkdlppekjjbgoaa

open Go.RowKit

theorem mk_lineT (w : World) (t : TypeId) (p q : Option Addr) (n m c d : Nat) :
    ∃ (w1 : World) (x : Ext w1), w.alloc (Obj.cells #[Value.slice p n c, Value.slice q m d] t) = x.v ∧ Below w.heap.size w w1 ∧ LineBox w1 w.heap.size p n c q m d :=
  ⟨_, ⟨_, Below.refl _ _⟩, rfl, bA (Below.refl _ _) _, by simp, by go_simp, by go_simp⟩
/-- the table of choices lies in block cb -/
structure TabIn (w : World) (cb : Nat) (V : Nat → Nat → Int × Int) : Prop where
  lt : cb < w.heap.size
  c0 : ∀ f t, f < 7 → t < 8 → w.cell? ⟨cb, f * 16 + t * 2, none⟩ = some (.int .i64 (V f t).1)
  c1 : ∀ f t, f < 7 → t < 8 → w.cell? ⟨cb, f * 16 + t * 2 + 1, none⟩ = some (.int .i64 (V f t).2)
  fz : ∀ i, w.frozen? ⟨cb, i, none⟩ = false
theorem TabIn.bel {w w' : World} {cb : Nat} {V : Nat → Nat → Int × Int} (h : TabIn w cb V) (hb : Below w.heap.size w w') : TabIn w' cb V :=
  ⟨Nat.lt_of_lt_of_le h.lt hb.size, fun f t hf ht => (hb.cell h.lt).trans (h.c0 f t hf ht), fun f t hf ht => (hb.cell h.lt).trans (h.c1 f t hf ht), fun i => (hb.frozen (p := ⟨cb, i, none⟩) h.lt).trans (h.fz i)⟩
theorem bst_step {D : Duct} {f t pt : Nat} (h : f < pt) : bst (gW D) (CH (gW D)) f t (pt + 1 - f - 1) = if pt = f + 1 ∨ vW D f t pt < (bst (gW D) (CH (gW D)) f t (pt - f - 1)).2 then ((pt : Int), vW D f t pt) else bst (gW D) (CH (gW D)) f t (pt - f - 1) := by
  obtain ⟨k, hk⟩ : ∃ k, pt = f + 1 + k := ⟨pt - f - 1, by omega⟩
  rw [show pt + 1 - f - 1 = k + 1 by omega, show pt - f - 1 = k by omega]
  subst hk
  show (if k = 0 ∨ vW D f t (f + 1 + k) < _ then _ else _) = _
  by_cases h0 : k = 0
  · rw [if_pos (Or.inl h0), if_pos (Or.inl (by omega))]; rfl
  · by_cases h1 : vW D f t (f + 1 + k) < (bst (gW D) (CH (gW D)) f t k).2
    · rw [if_pos (Or.inr h1), if_pos (Or.inr h1)]; rfl
    · rw [if_neg (by rintro (h | h); exact h0 h; exact h1 h), if_neg (by rintro (h | h); omega; exact h1 h)]
set_option maxRecDepth 100000 in
set_option maxHeartbeats 2000000 in
theorem gauged_any (D : Duct) (p q : Option Addr) (c d : Nat) (f t : Int) (pt : Nat) (x y : Int) (w : World) (hn : D.n ≤ 40) (hp : pt < D.n) (hc : 0 ≤ D.co pt ∧ D.co pt ≤ 20) (hx : 0 ≤ x ∧ x ≤ 1000) (hy : 0 ≤ y ∧ y ≤ 1000) (hi : DuctIn w w.heap.size D p q) :
    Calls Try.prog 107 #[.agg #[.slice p D.n c, .slice q D.m d], .int .i64 f, .int .i64 pt, .int .i64 t, .int .i64 x, .int .i64 y] w fun e w' => e = .returned (.int .i64 (D.co pt + max x y)) ∧ Below w.heap.size w w' := by
  obtain ⟨pb, po, rfl, _, _⟩ := hi.pt (by omega)
  obtain ⟨w1, x1, e1, hb1, hl1⟩ := mk_lineT w 96 (some ⟨pb, po, none⟩) q D.n D.m c d
  have HB := Lib.hid hb1
  have HI := Lib.hid (hi.bel hb1)
  have HL := Lib.hid hl1
  have L0 : ∀ z : Ext w1, z.v.cell? ⟨w.heap.size, 0, none⟩ = some (.slice (some ⟨pb, po, none⟩) D.n c) := fun z => (HL.out.bel z.b).c0
  have C2 : ∀ z : Ext w1, z.v.cell? ⟨pb, po + pt * 3 + 2, none⟩ = some (.int .i64 (D.co pt)) := fun z => (HI.out.bel z.b).co' hp
  have hm : (if x < y then y else x) = max x y := by rw [Int.max_def]; split <;> split <;> omega
  have hw : IntKind.i64.wrap (D.co pt + max x y) = D.co pt + max x y := IntWalk.i64_in _ (by omega)
  have j : (pt : Int) < (D.n : Int) := by omega
  clear hb1 hl1 hi
  go_enter Try.func107, Try.ntmps107
  go_wp2
  go_ret
  exact ⟨rfl, bT HB.out x1.b⟩
theorem val_meth : valMethod Try.prog 96 "steening/aqueduct.gauged" = some 107 := by kernel_rfl
theorem meth_any (v : Value) (w : World) (n : Nat) : (method (n + 1) 96 v "steening/aqueduct.gauged").run Try.prog w = .ok (107, v) w := run_valMethod val_meth n v
theorem nil_any (v : Value) (w : World) (n : Nat) : (nilAhead (n + 1) 96 v "steening/aqueduct.gauged").run Try.prog w = .ok (some false) w := run_nilAhead val_meth n v
set_option maxRecDepth 100000 in
set_option maxHeartbeats 4000000 in
theorem best_any (D : Duct) (p q : Option Addr) (c d : Nat) (cb f t : Nat) (V : Nat → Nat → Int × Int) (w : World) (hn : D.n ≤ 40) (hm : D.m ≤ 7) (htm : t ≤ D.m) (hnm : D.n = D.m + 1) (hft : f + 2 ≤ t) (hco : ∀ k, k < D.n → 0 ≤ D.co k ∧ D.co k ≤ 20)
    (hV : ∀ pt, f < pt → pt < t → V f pt = CH (gW D) f pt ∧ V pt t = CH (gW D) pt t) (hi : DuctIn w w.heap.size D p q) (hT : TabIn w cb V) :
    Calls Try.prog 91 #[.pointer (some ⟨cb, 0, none⟩), .iface 96 (.agg #[.slice p D.n c, .slice q D.m d]), .int .i64 f, .int .i64 t] w fun e w' => e = .returned (.agg #[.int .i64 (NX D f t), .int .i64 (WW D f t)]) ∧ Below w.heap.size w w' := by
  obtain ⟨w1, x1, e1, b1, t1⟩ := mk_two' w 83 0 0
  obtain ⟨w2, x2, e2, b2, t2⟩ := mk_two' x1.v 83 0 0
  have HB1 := Lib.hid b1
  have HR := Lib.hid t1
  have HTW := Lib.hid (hT.bel b1)
  have HI := Lib.hid (hi.bel b1)
  have HV := Lib.hid hV
  have HCO := Lib.hid hco
  have HT2 := Lib.hid t2
  have HB2 := Lib.hid (bT x1.b b2)
  have HBB : Hid (w1.heap.size ≤ x1.v.heap.size) := x1.b.size
  have HFT := Lib.hid hft; have HTM := Lib.hid htm; have HNM := Lib.hid hnm
  have hf7 : f < 7 := by omega
  have ht8 : t < 8 := by omega
  have j1 : (f : Int) < 7 := by omega
  have j2 : (t : Int) < 8 := by omega
  clear b1 t1 b2 t2 hi hT hV hco hnm hft htm
  go_enter Try.func91, Try.ntmps91
  go_wp2
  go_loopw [10] (fun i wr => ∃ pt : Nat, i = .int .i64 (pt : Int) ∧ f < pt ∧ pt ≤ t ∧ TwoBox wr x1.v.heap.size (bst (gW D) (CH (gW D)) f t (pt - f - 1)).1 (bst (gW D) (CH (gW D)) f t (pt - f - 1)).2 ∧ Below w1.heap.size w1 wr) (fun i _ => t - (intOf i).toNat)
  case atStart => exact ⟨f + 1, by go_num, by omega, by have := HFT.out; omega, by rw [show f + 1 - f - 1 = 0 by omega]; exact HT2.out.bel x2.b, bT HB2.out x2.b⟩
  case round =>
    obtain ⟨pt, rfl, hp1, hp2, htb, hbb⟩ := hrel
    have HTB := Lib.hid htb; have HBR := Lib.hid hbb
    clear htb hbb
    obtain ⟨z0, hz0⟩ := rebase wr
    rw [hz0]; clear hz0 e1 e2
    by_cases hlt : pt < t
    · obtain ⟨vf, vt⟩ := HV.out pt hp1 hlt
      obtain ⟨b0, hb0⟩ : ∃ e, (bst (gW D) (CH (gW D)) f t (pt - f - 1)).1 = e := ⟨_, rfl⟩
      obtain ⟨b1, hb1⟩ : ∃ e, (bst (gW D) (CH (gW D)) f t (pt - f - 1)).2 = e := ⟨_, rfl⟩
      rw [hb0, hb1] at HTB
      obtain ⟨X, hX⟩ : ∃ e, WW D f pt = e := ⟨_, rfl⟩
      obtain ⟨Y, hY⟩ : ∃ e, WW D pt t = e := ⟨_, rfl⟩
      have hXb := W_bd HCO.out (n := 7) (f := f) (t := pt) (by omega) (by have := HNM.out; have := HTM.out; omega)
      have hYb := W_bd HCO.out (n := 7) (f := pt) (t := t) (by omega) (by have := HNM.out; have := HTM.out; omega)
      rw [hX] at hXb; rw [hY] at hYb
      have C0 : ∀ z : Ext wr, z.v.cell? ⟨cb, f * 16 + pt * 2 + 1, none⟩ = some (.int .i64 X) := fun z => (((HTW.out.bel (bT HBR.out z.b)).c1 f pt hf7 (by omega))).trans (by rw [vf, ← hX]; rfl)
      have C1 : ∀ z : Ext wr, z.v.cell? ⟨cb, pt * 16 + t * 2 + 1, none⟩ = some (.int .i64 Y) := fun z => (((HTW.out.bel (bT HBR.out z.b)).c1 pt t (by omega) ht8)).trans (by rw [vt, ← hY]; rfl)
      have hwv : D.co pt + max X Y = vW D f t pt := by unfold vW; rw [hX, hY]
      have hst := bst_step (D := D) (t := t) hp1
      rw [hb1] at hst
      have HST := Lib.hid hst; have HWV := Lib.hid hwv
      have HB01 : Hid (bst (gW D) (CH (gW D)) f t (pt - f - 1) = (b0, b1)) := by show _ = _; rw [← hb0, ← hb1]
      have HGA := Lib.hid (show ∀ V, DuctIn V V.heap.size D p q → Calls Try.prog 107 #[.agg #[.slice p D.n c, .slice q D.m d], .int .i64 f, .int .i64 pt, .int .i64 t, .int .i64 X, .int .i64 Y] V fun e w' => e = .returned (.int .i64 (D.co pt + max X Y)) ∧ Below V.heap.size V w' from fun V h => gauged_any D p q c d f t pt X Y V hn (by have := HNM.out; have := HTM.out; omega) (HCO.out pt (by have := HNM.out; have := HTM.out; omega)) (by omega) (by omega) h)
      obtain ⟨wv, hwve⟩ : ∃ e, D.co pt + max X Y = e := ⟨_, rfl⟩
      rw [hwve] at HGA HWV
      have j3 : (pt : Int) < 7 := by omega
      have j4 : (pt : Int) < 8 := by omega
      have j5 : (pt : Int) < (t : Int) := by omega
      clear hwve hst hwv hb0 hb1 hX hY hXb hYb vf vt
      have hme := meth_any
      have hni := nil_any
      go_wp2
      refine wp_region_lastE 24 (by kernel_rfl) rfl (fun yr => ?_)
      refine wpAnyG_take (i := 0) (v := ?_) (by kernel_rfl) rfl (by kernel_rfl) (by kernel_rfl) (by kernel_rfl) (fun _ _ _ h => h) (Or.inl ⟨by rfl, ?_⟩) ⟨_, rfl⟩ ?_
      rotate_left
      · rintro wS ⟨yS, rfl⟩
        go_simp
        try (with_reducible rfl)
      try simp only [Act.put, List.setIfInBounds_toArray, List.set_cons_zero, List.set_cons_succ]
      refine wpAnyG_take (i := 1) (v := ?_) (by kernel_rfl) rfl (by kernel_rfl) (by kernel_rfl) (by kernel_rfl) (fun _ _ _ h => h) (Or.inl ⟨by rfl, ?_⟩) ⟨_, rfl⟩ ?_
      rotate_left
      · rintro wS ⟨yS, rfl⟩
        go_simp
        try (with_reducible rfl)
      try simp only [Act.put, List.setIfInBounds_toArray, List.set_cons_zero, List.set_cons_succ]
      refine wpAnyG_take (i := 2) (v := ?_) (by kernel_rfl) rfl (by kernel_rfl) (by kernel_rfl) (by kernel_rfl) (fun _ _ _ h => h) (Or.inl ⟨by rfl, ?_⟩) ⟨_, rfl⟩ ?_
      rotate_left
      · rintro wS ⟨yS, rfl⟩
        go_simp
        try (with_reducible rfl)
      try simp only [Act.put, List.setIfInBounds_toArray, List.set_cons_zero, List.set_cons_succ]
      refine wpAnyG_take (i := 3) (v := ?_) (by kernel_rfl) rfl (by kernel_rfl) (by kernel_rfl) (by kernel_rfl) (fun _ _ _ h => h) (Or.inl ⟨by rfl, ?_⟩) ⟨_, rfl⟩ ?_
      rotate_left
      · rintro wS ⟨yS, rfl⟩
        go_simp
        try (with_reducible rfl)
      try simp only [Act.put, List.setIfInBounds_toArray, List.set_cons_zero, List.set_cons_succ]
      refine wpAnyG_take (i := 4) (v := ?_) (by kernel_rfl) rfl (by kernel_rfl) (by kernel_rfl) (by kernel_rfl) (fun _ _ _ h => h) (Or.inl ⟨by rfl, ?_⟩) ⟨_, rfl⟩ ?_
      rotate_left
      · rintro wS ⟨yS, rfl⟩
        go_simp
        try (with_reducible rfl)
      try simp only [Act.put, List.setIfInBounds_toArray, List.set_cons_zero, List.set_cons_succ]
      refine wpAnyG_take (i := 5) (v := ?_) (by kernel_rfl) rfl (by kernel_rfl) (by kernel_rfl) (by kernel_rfl) (fun _ _ _ h => h) (Or.inl ⟨by rfl, ?_⟩) ⟨_, rfl⟩ ?_
      rotate_left
      · rintro wS ⟨yS, rfl⟩
        go_simp
        try (with_reducible rfl)
      try simp only [Act.put, List.setIfInBounds_toArray, List.set_cons_zero, List.set_cons_succ]
      refine wpAnyG_take (i := 6) (v := ?_) (by kernel_rfl) rfl (by kernel_rfl) (by kernel_rfl) (by kernel_rfl) (fun _ _ _ h => h) (Or.inl ⟨by rfl, ?_⟩) ⟨_, rfl⟩ ?_
      rotate_left
      · rintro wS ⟨yS, rfl⟩
        go_simp
        try (with_reducible rfl)
      try simp only [Act.put, List.setIfInBounds_toArray, List.set_cons_zero, List.set_cons_succ]
      refine wpAnyG_take (i := 7) (v := ?_) (by kernel_rfl) rfl (by kernel_rfl) (by kernel_rfl) (by kernel_rfl) (fun _ _ _ h => h) (Or.inl ⟨by rfl, ?_⟩) ⟨_, rfl⟩ ?_
      rotate_left
      · rintro wS ⟨yS, rfl⟩
        go_simp
        try (with_reducible rfl)
      try simp only [Act.put, List.setIfInBounds_toArray, List.set_cons_zero, List.set_cons_succ]
      refine wpAnyG_take (i := 8) (v := ?_) (by kernel_rfl) rfl (by kernel_rfl) (by kernel_rfl) (by kernel_rfl) (fun _ _ _ h => h) (Or.inl ⟨by rfl, ?_⟩) ⟨_, rfl⟩ ?_
      rotate_left
      · rintro wS ⟨yS, rfl⟩
        go_simp
        try (with_reducible rfl)
      try simp only [Act.put, List.setIfInBounds_toArray, List.set_cons_zero, List.set_cons_succ]
      refine wpAnyG_take (i := 9) (v := ?_) (by kernel_rfl) rfl (by kernel_rfl) (by kernel_rfl) (by kernel_rfl) (fun _ _ _ h => h) (Or.inl ⟨by rfl, ?_⟩) ⟨_, rfl⟩ ?_
      rotate_left
      · rintro wS ⟨yS, rfl⟩
        go_simp
        try (with_reducible rfl)
      try simp only [Act.put, List.setIfInBounds_toArray, List.set_cons_zero, List.set_cons_succ]
      refine wpAnyG_take (i := 10) (v := ?_) (by kernel_rfl) rfl (by kernel_rfl) (by kernel_rfl) (by kernel_rfl) (fun _ _ _ h => h) (Or.inl ⟨by rfl, ?_⟩) ⟨_, rfl⟩ ?_
      rotate_left
      · rintro wS ⟨yS, rfl⟩
        go_simp
        try (with_reducible rfl)
      try simp only [Act.put, List.setIfInBounds_toArray, List.set_cons_zero, List.set_cons_succ]
      refine wpAnyG_take (i := 11) (v := ?_) (by kernel_rfl) rfl (by kernel_rfl) (by kernel_rfl) (by kernel_rfl) (fun _ _ _ h => h) (Or.inl ⟨by rfl, ?_⟩) ⟨_, rfl⟩ ?_
      rotate_left
      · rintro wS ⟨yS, rfl⟩
        go_simp
        try (with_reducible rfl)
      try simp only [Act.put, List.setIfInBounds_toArray, List.set_cons_zero, List.set_cons_succ]
      refine wpAnyG_take (i := 12) (v := ?_) (by kernel_rfl) rfl (by kernel_rfl) (by kernel_rfl) (by kernel_rfl) (fun _ _ _ h => h) (Or.inl ⟨by rfl, ?_⟩) ⟨_, rfl⟩ ?_
      rotate_left
      · rintro wS ⟨yS, rfl⟩
        go_simp
        try (with_reducible rfl)
      try simp only [Act.put, List.setIfInBounds_toArray, List.set_cons_zero, List.set_cons_succ]
      refine wpAnyG_take (i := 13) (v := ?_) (by kernel_rfl) rfl (by kernel_rfl) (by kernel_rfl) (by kernel_rfl) (fun _ _ _ h => h) (Or.inl ⟨by rfl, ?_⟩) ⟨_, rfl⟩ ?_
      rotate_left
      · rintro wS ⟨yS, rfl⟩
        go_simp
        try (with_reducible rfl)
      try simp only [Act.put, List.setIfInBounds_toArray, List.set_cons_zero, List.set_cons_succ]
      refine wpAnyG_take (i := 14) (v := ?_) (by kernel_rfl) rfl (by kernel_rfl) (by kernel_rfl) (by kernel_rfl) (fun _ _ _ h => h) (Or.inl ⟨by rfl, ?_⟩) ⟨_, rfl⟩ ?_
      rotate_left
      · rintro wS ⟨yS, rfl⟩
        go_simp
        try (with_reducible rfl)
      try simp only [Act.put, List.setIfInBounds_toArray, List.set_cons_zero, List.set_cons_succ]
      refine wpAnyG_take (i := 15) (v := ?_) (by kernel_rfl) rfl (by kernel_rfl) (by kernel_rfl) (by kernel_rfl) (fun _ _ _ h => h) (Or.inl ⟨by rfl, ?_⟩) ⟨_, rfl⟩ ?_
      rotate_left
      · rintro wS ⟨yS, rfl⟩
        go_simp
        try (with_reducible rfl)
      try simp only [Act.put, List.setIfInBounds_toArray, List.set_cons_zero, List.set_cons_succ]
      refine wpAnyG_take (i := 16) (v := ?_) (by kernel_rfl) rfl (by kernel_rfl) (by kernel_rfl) (by kernel_rfl) (fun _ _ _ h => h) (Or.inl ⟨by rfl, ?_⟩) ⟨_, rfl⟩ ?_
      rotate_left
      · rintro wS ⟨yS, rfl⟩
        go_simp
        try (with_reducible rfl)
      try simp only [Act.put, List.setIfInBounds_toArray, List.set_cons_zero, List.set_cons_succ]
      refine wpAnyG_take (i := 17) (v := ?_) (by kernel_rfl) rfl (by kernel_rfl) (by kernel_rfl) (by kernel_rfl) (fun _ _ _ h => h) (Or.inl ⟨by rfl, ?_⟩) ⟨_, rfl⟩ ?_
      rotate_left
      · rintro wS ⟨yS, rfl⟩
        go_simp
        try (with_reducible rfl)
      try simp only [Act.put, List.setIfInBounds_toArray, List.set_cons_zero, List.set_cons_succ]
      refine wpAnyG_take (i := 18) (v := ?_) (by kernel_rfl) rfl (by kernel_rfl) (by kernel_rfl) (by kernel_rfl) (fun _ _ _ h => h) (Or.inl ⟨by rfl, ?_⟩) ⟨_, rfl⟩ ?_
      rotate_left
      · rintro wS ⟨yS, rfl⟩
        go_simp
        try (with_reducible rfl)
      try simp only [Act.put, List.setIfInBounds_toArray, List.set_cons_zero, List.set_cons_succ]
      refine wpAnyG_take (i := 19) (v := ?_) (by kernel_rfl) rfl (by kernel_rfl) (by kernel_rfl) (by kernel_rfl) (fun _ _ _ h => h) (Or.inl ⟨by rfl, ?_⟩) ⟨_, rfl⟩ ?_
      rotate_left
      · rintro wS ⟨yS, rfl⟩
        go_simp
        try (with_reducible rfl)
      try simp only [Act.put, List.setIfInBounds_toArray, List.set_cons_zero, List.set_cons_succ]
      refine wpAnyG_take (i := 20) (v := ?_) (by kernel_rfl) rfl (by kernel_rfl) (by kernel_rfl) (by kernel_rfl) (fun _ _ _ h => h) (Or.inl ⟨by rfl, ?_⟩) ⟨_, rfl⟩ ?_
      rotate_left
      · rintro wS ⟨yS, rfl⟩
        go_simp
        try (with_reducible rfl)
      try simp only [Act.put, List.setIfInBounds_toArray, List.set_cons_zero, List.set_cons_succ]
      refine wpAnyG_take (i := 21) (v := ?_) (by kernel_rfl) rfl (by kernel_rfl) (by kernel_rfl) (by kernel_rfl) (fun _ _ _ h => h) (Or.inl ⟨by rfl, ?_⟩) ⟨_, rfl⟩ ?_
      rotate_left
      · rintro wS ⟨yS, rfl⟩
        go_simp
        try (with_reducible rfl)
      try simp only [Act.put, List.setIfInBounds_toArray, List.set_cons_zero, List.set_cons_succ]
      refine wpAnyG_take (i := 22) (v := ?_) (by kernel_rfl) rfl (by kernel_rfl) (by kernel_rfl) (by kernel_rfl) (fun _ _ _ h => h) (Or.inl ⟨by rfl, ?_⟩) ⟨_, rfl⟩ ?_
      rotate_left
      · rintro wS ⟨yS, rfl⟩
        go_simp
        try (with_reducible rfl)
      try simp only [Act.put, List.setIfInBounds_toArray, List.set_cons_zero, List.set_cons_succ]
      refine wpAnyG_one (i := 23) (by kernel_rfl) (by decide) (wpOp_plain rfl rfl ?_)
      go_simp
      go_at_call 107
      refine (quiet_x (HGA.out _ (HI.out.bel (bT HBR.out (Ext.b _))))).mono ?_
      rintro e w' ⟨rfl, y, rfl⟩
      refine ⟨⟨y, rfl⟩, ?_⟩
      try simp only [Act.put, List.setIfInBounds_toArray, List.set_cons_zero, List.set_cons_succ]
      refine wpAnyG_done (by kernel_rfl) (by kernel_rfl) (wpOp_plain rfl rfl ?_)
      go_simp
      clear hme hni
      have HBY := Lib.hid (bT HBR.out y.b); have HTY := Lib.hid (HTB.out.bel y.b)
      have T0 : ∀ z : Ext wr, z.v.cell? ⟨x1.v.heap.size, 0, none⟩ = some (.int .i64 b0) := fun z => (HTB.out.bel z.b).c0
      have T1 : ∀ z : Ext wr, z.v.cell? ⟨x1.v.heap.size, 1, none⟩ = some (.int .i64 b1) := fun z => (HTB.out.bel z.b).c1
      have Tf : ∀ (z : Ext wr) i, z.v.frozen? ⟨x1.v.heap.size, i, none⟩ = false := fun z => (HTB.out.bel z.b).fz
      clear C0 C1
      rw [HWV.out.symm] at HST
      by_cases hfirst : pt = f + 1
      · have d1 : ((pt : Int) == (f : Int) + 1) = true := by simp; omega
        have HR2 := Lib.hid (HST.out.trans (if_pos (Or.inl hfirst)))
        clear hfirst
        go_wp2
        go_roundw
        case rel => exact ⟨pt + 1, by go_num, by omega, hlt, by rw [HR2.out]; exact HTY.out.set _ _, bS (bS HBY.out HBB.out _) HBB.out _⟩
        case measure => first | (simp [intOf]; done) | (simp [intOf]; omega)
      · have d1 : ((pt : Int) == (f : Int) + 1) = false := by simp; omega
        by_cases hless : wv < b1
        · have d2 : decide (wv < b1) = true := by simpa using hless
          have HR2 := Lib.hid (HST.out.trans (if_pos (Or.inr hless)))
          clear hfirst hless
          go_wp2
          go_roundw
          case rel => exact ⟨pt + 1, by go_num, by omega, hlt, by rw [HR2.out]; exact HTY.out.set _ _, bS (bS HBY.out HBB.out _) HBB.out _⟩
          case measure => first | (simp [intOf]; done) | (simp [intOf]; omega)
        · have d2 : decide (wv < b1) = false := by simpa using hless
          have HR2 := Lib.hid ((HST.out.trans (if_neg (by rintro (h | h); exact hfirst h; exact hless h))).trans HB01.out)
          clear hfirst hless
          go_wp2
          go_roundw
          case rel => exact ⟨pt + 1, by go_num, by omega, hlt, by rw [HR2.out]; exact HTY.out, HBY.out⟩
          case measure => first | (simp [intOf]; done) | (simp [intOf]; omega)
    · have hpe : pt = t := by omega
      subst hpe
      have he : bst (gW D) (CH (gW D)) f pt (pt - f - 1) = (NX D f pt, WW D f pt) := by rw [← CH_eq]; rfl
      rw [he] at HTB
      have d1 : decide ((pt : Int) < (pt : Int)) = false := by simp
      have T0 : ∀ z : Ext wr, z.v.cell? ⟨x1.v.heap.size, 0, none⟩ = some (.int .i64 (NX D f pt)) := fun z => (HTB.out.bel z.b).c0
      have T1 : ∀ z : Ext wr, z.v.cell? ⟨x1.v.heap.size, 1, none⟩ = some (.int .i64 (WW D f pt)) := fun z => (HTB.out.bel z.b).c1
      have R0 : ∀ z : Ext wr, z.v.cell? ⟨w.heap.size, 0, none⟩ = some (.int .i64 0) := fun z => (HR.out.bel (bT HBR.out z.b)).c0
      have R1 : ∀ z : Ext wr, z.v.cell? ⟨w.heap.size, 1, none⟩ = some (.int .i64 0) := fun z => (HR.out.bel (bT HBR.out z.b)).c1
      have Rf : ∀ (z : Ext wr) i, z.v.frozen? ⟨w.heap.size, i, none⟩ = false := fun z => (HR.out.bel (bT HBR.out z.b)).fz
      clear he hlt
      go_wp2
      refine bodyPost_ret (v := .agg #[.int .i64 (NX D f pt), .int .i64 (WW D f pt)]) (by simp [results, Try.f91, go_sem, R0, R1, Rf]) rfl ⟨rfl, ?_⟩
      exact bS (bS (bT HB1.out (bT HBR.out z0.b)) (Nat.le_refl _) _) (Nat.le_refl _) _
end Go.Proofs.Ytkdlppekjjbgoaa
