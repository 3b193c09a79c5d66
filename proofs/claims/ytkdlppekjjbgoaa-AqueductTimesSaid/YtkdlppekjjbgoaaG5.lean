/- The cheapest gaugings on the average, of the program: what a first gauging is worth, and the best one. -/
import Derived.Test.YtkdlppekjjbgoaaG4

set_option linter.unusedSimpArgs false

set_option linter.unusedVariables false

namespace Go.Proofs.Ytkdlppekjjbgoaa

open Go.RowKit

def NS (D : Duct) (f t : Nat) : Int := (CH (gS D) f t).1
theorem AW_10k {D : Duct} (hc : ∀ k, k < D.n → 0 ≤ D.co k ∧ D.co k ≤ 20) (ho : ∀ k, k < D.m → 1 ≤ D.od k ∧ D.od k ≤ 9) (hnm : D.n = D.m + 1) (hm : D.m ≤ 7) {f t : Nat} (h : f < t) (ht : t ≤ D.m) : 0 ≤ AW D f t ∧ AW D f t ≤ 10000 := by
  have := AW_bd hc ho hnm hm (n := t - f) (Nat.le_refl _) h ht
  omega
theorem bstS_step {D : Duct} {f t pt : Nat} (h : f < pt) : bst (gS D) (CH (gS D)) f t (pt + 1 - f - 1) = if pt = f + 1 ∨ vS D f t pt < (bst (gS D) (CH (gS D)) f t (pt - f - 1)).2 then ((pt : Int), vS D f t pt) else bst (gS D) (CH (gS D)) f t (pt - f - 1) := bstG_step h
theorem oN_step {D : Duct} {f i : Nat} : oN D f (i + 1) = oN D f i + D.od (f + i) := rfl
set_option maxRecDepth 100000 in
set_option maxHeartbeats 2000000 in
theorem oddsOf_any (D : Duct) (p q : Option Addr) (c d f t : Nat) (w : World) (hm : D.m ≤ 7) (hft : f < t) (htm : t ≤ D.m) (hod : ∀ k, k < D.m → 1 ≤ D.od k ∧ D.od k ≤ 9) (hd : D.m ≤ d) (hi : DuctIn w w.heap.size D p q) :
    Calls Try.prog 70 #[.agg #[.slice p D.n c, .slice q D.m d], .int .i64 f, .int .i64 t] w fun e w' => e = .returned (.int .i64 (oS D f t)) ∧ Below w.heap.size w w' := by
  obtain ⟨b, o, rfl, _, _⟩ := hi.od (by omega)
  obtain ⟨w1, x1, hw1, hb1, hz1, F0, F1⟩ := box_line w p (some ⟨b, o, none⟩) D.n D.m c d
  have HB := Lib.hid hb1
  have HI := Lib.hid (hi.bel hb1)
  have HOD := Lib.hid hod
  have HFT := Lib.hid hft; have HTM := Lib.hid htm
  have j1 : (f : Int) ≤ (t : Int) := by omega
  have j2 : (t : Int) ≤ (d : Int) := by omega
  have j1n : f ≤ t := by omega
  have j2n : t ≤ d := by omega
  have jd : ¬ d = f := by omega
  have jd2 : ¬ f = d := by omega
  clear hb1 hz1 hi hod hft htm
  go_enter Try.func70, Try.ntmps70
  go_wp2
  obtain ⟨N, hN⟩ : ∃ N, t - f = N := ⟨_, rfl⟩
  have HNE := Lib.hid hN
  rw [hN]
  clear hN
  go_loopw [7, 16] (fun s i wr => ∃ k : Nat, i = .int .i64 (k : Int) ∧ s = .int .i64 (oN D f k) ∧ k ≤ N ∧ ∃ z : Ext w1, wr = z.v) (fun _ i _ => N - (intOf i).toNat)
  case atStart => exact ⟨0, rfl, rfl, Nat.zero_le _, x1, rfl⟩
  case round =>
    obtain ⟨k, rfl, rfl, hk, z, rfl⟩ := hrel
    clear x1 hw1
    have hNb : N ≤ 7 := by have := HNE.out; have := HTM.out; omega
    have hNm : f + N = t := by have := HNE.out; have := HFT.out; omega
    by_cases hlt : k < N
    · have d1 : decide ((k : Int) < (N : Int)) = true := by simp; omega
      have jk : (k : Int) < (N : Int) := by omega
      have C : ∀ z : Ext w1, z.v.cell? ⟨b, o + f + k, none⟩ = some (.int .i64 (D.od (f + k))) := fun z => by
        have := (HI.out.bel z.b).od.cell (k := f + k) (by have := HTM.out; omega)
        rw [Nat.add_assoc]; exact this.2
      have hb1 := oN_bd HOD.out (f := f) (n := k) (by have := HTM.out; omega)
      have hb2 := HOD.out (f + k) (by have := HTM.out; omega)
      obtain ⟨S, hS⟩ : ∃ e, oN D f k = e := ⟨_, rfl⟩
      obtain ⟨S2, hS2⟩ : ∃ e, oN D f (k + 1) = e := ⟨_, rfl⟩
      have hwr : IntKind.i64.wrap (S + D.od (f + k)) = S2 := by
        have := oN_step (D := D) (f := f) (i := k)
        rw [hS, hS2] at this
        rw [← this]; exact IntWalk.i64_in _ (by omega)
      rw [hS]
      have HS2 := Lib.hid hS2
      clear hS hS2 hb1 hb2 hNm
      go_wp2
      go_roundw
      case rel => exact ⟨k + 1, by go_num, by rw [HS2.out], hlt, z, rfl⟩
      case measure => first | (simp [intOf]; done) | (simp [intOf]; omega)
    · obtain rfl : k = N := by omega
      have d1 : decide ((k : Int) < (k : Int)) = false := by simp
      have HR := Lib.hid (show oN D f k = oS D f t by unfold oS; rw [HNE.out])
      clear hlt hk hNb hNm
      go_wp2
      go_ret
      exact ⟨ret_i HR.out, bT HB.out z.b⟩
theorem oddsOf_is {D : Duct} {p q : Option Addr} {c d f t : Nat} {v : Int} (hv : oS D f t = v) (w : World) (hm : D.m ≤ 7) (hft : f < t) (htm : t ≤ D.m) (hod : ∀ k, k < D.m → 1 ≤ D.od k ∧ D.od k ≤ 9) (hd : D.m ≤ d) (hi : DuctIn w w.heap.size D p q) :
    Calls Try.prog 70 #[.agg #[.slice p D.n c, .slice q D.m d], .int .i64 f, .int .i64 t] w fun e w' => e = .returned (.int .i64 v) ∧ Below w.heap.size w w' := by subst hv; exact oddsOf_any D p q c d f t w hm hft htm hod hd hi
set_option maxRecDepth 100000 in
set_option maxHeartbeats 4000000 in
theorem gaugedS_any (D : Duct) (p q : Option Addr) (c d f t pt : Nat) (x y : Int) (w : World) (hn : D.n ≤ 40) (hm : D.m ≤ 7) (hnm : D.n = D.m + 1) (hft : f < t) (htm : t ≤ D.m) (hp : pt < D.n) (hco : ∀ k, k < D.n → 0 ≤ D.co k ∧ D.co k ≤ 20) (hod : ∀ k, k < D.m → 1 ≤ D.od k ∧ D.od k ≤ 9) (hd : D.m ≤ d) (hx : 0 ≤ x ∧ x ≤ 10000) (hy : 0 ≤ y ∧ y ≤ 10000) (hi : DuctIn w w.heap.size D p q) :
    Calls Try.prog 108 #[.agg #[.slice p D.n c, .slice q D.m d], .int .i64 (f : Int), .int .i64 (pt : Int), .int .i64 (t : Int), .int .i64 x, .int .i64 y] w fun e w' => e = .returned (.int .i64 (D.co pt * oS D f t + x + y)) ∧ Below w.heap.size w w' := by
  obtain ⟨pb, po, rfl, _, _⟩ := hi.pt (by omega)
  obtain ⟨w1, x1, e1, hb1, hl1⟩ := mk_lineT w 98 (some ⟨pb, po, none⟩) q D.n D.m c d
  have HB := Lib.hid hb1
  have HI := Lib.hid (hi.bel hb1)
  have HL := Lib.hid hl1
  have L0 : ∀ z : Ext w1, z.v.cell? ⟨w.heap.size, 0, none⟩ = some (.slice (some ⟨pb, po, none⟩) D.n c) := fun z => (HL.out.bel z.b).c0
  have L1 : ∀ z : Ext w1, z.v.cell? ⟨w.heap.size, 1, none⟩ = some (.slice q D.m d) := fun z => (HL.out.bel z.b).c1
  have C2 : ∀ z : Ext w1, z.v.cell? ⟨pb, po + pt * 3 + 2, none⟩ = some (.int .i64 (D.co pt)) := fun z => (HI.out.bel z.b).co' hp
  obtain ⟨O, hO⟩ : ∃ e, oS D f t = e := ⟨_, rfl⟩
  have hob := oS_bd hod (f := f) (t := t) (by omega) htm
  rw [hO] at hob
  have hmb := mul_in (a := D.co pt) (A := 20) (hco pt hp) (b := O) (B := 63) ⟨by omega, by omega⟩
  have HO := Lib.hid (show ∀ V : World, DuctIn V V.heap.size D (some ⟨pb, po, none⟩) q → Calls Try.prog 70 #[.agg #[.slice (some ⟨pb, po, none⟩) D.n c, .slice q D.m d], .int .i64 (f : Int), .int .i64 (t : Int)] V fun e w' => e = .returned (.int .i64 O) ∧ Below V.heap.size V w' from fun V h => oddsOf_is hO V hm hft htm hod hd h)
  rw [hO]
  obtain ⟨M, hM⟩ : ∃ e, D.co pt * O = e := ⟨_, rfl⟩
  rw [hM] at hmb ⊢
  have hw1 : IntKind.i64.wrap (D.co pt * O) = M := by rw [hM]; exact IntWalk.i64_in _ (by omega)
  have hw2 : IntKind.i64.wrap (M + x) = M + x := IntWalk.i64_in _ (by omega)
  have hw3 : IntKind.i64.wrap (M + x + y) = M + x + y := IntWalk.i64_in _ (by omega)
  have j : (pt : Int) < (D.n : Int) := by omega
  clear hb1 hl1 hi hco hod hO hob hmb hM hx hy hnm
  go_enter Try.func108, Try.ntmps108
  go_wp2
  refine wp_region_lastE 17 (by kernel_rfl) rfl (fun yr => ?_)
  refine wpAnyG_take (i := 0) (v := ?_) (by kernel_rfl) rfl (by kernel_rfl) (by kernel_rfl) (by kernel_rfl) (fun _ _ _ h => h) (Or.inl ⟨by rfl, ?_⟩) ⟨_, rfl⟩ ?_
  rotate_left
  · rintro wS ⟨yS, rfl⟩
    go_simp
    try (with_reducible rfl)
  try simp only [Act.put, List.setIfInBounds_toArray, List.set_cons_zero, List.set_cons_succ]
  refine wpAnyG_take (i := 1) (v := ?_) (by kernel_rfl) rfl (by kernel_rfl) (by kernel_rfl) (by kernel_rfl) (fun _ _ _ h => h) (Or.inl ⟨by rfl, ?_⟩) ⟨_, rfl⟩ ?_
  rotate_left
  · rintro wS ⟨yS, rfl⟩
    go_simp
    try (with_reducible rfl)
  try simp only [Act.put, List.setIfInBounds_toArray, List.set_cons_zero, List.set_cons_succ]
  refine wpAnyG_take (i := 2) (v := ?_) (by kernel_rfl) rfl (by kernel_rfl) (by kernel_rfl) (by kernel_rfl) (fun _ _ _ h => h) (Or.inl ⟨by rfl, ?_⟩) ⟨_, rfl⟩ ?_
  rotate_left
  · rintro wS ⟨yS, rfl⟩
    go_simp
    try (with_reducible rfl)
  try simp only [Act.put, List.setIfInBounds_toArray, List.set_cons_zero, List.set_cons_succ]
  refine wpAnyG_take (i := 3) (v := ?_) (by kernel_rfl) rfl (by kernel_rfl) (by kernel_rfl) (by kernel_rfl) (fun _ _ _ h => h) (Or.inl ⟨by rfl, ?_⟩) ⟨_, rfl⟩ ?_
  rotate_left
  · rintro wS ⟨yS, rfl⟩
    go_simp
    try (with_reducible rfl)
  try simp only [Act.put, List.setIfInBounds_toArray, List.set_cons_zero, List.set_cons_succ]
  refine wpAnyG_take (i := 4) (v := ?_) (by kernel_rfl) rfl (by kernel_rfl) (by kernel_rfl) (by kernel_rfl) (fun _ _ _ h => h) (Or.inl ⟨by rfl, ?_⟩) ⟨_, rfl⟩ ?_
  rotate_left
  · rintro wS ⟨yS, rfl⟩
    go_simp
    try (with_reducible rfl)
  try simp only [Act.put, List.setIfInBounds_toArray, List.set_cons_zero, List.set_cons_succ]
  refine wpAnyG_take (i := 5) (v := ?_) (by kernel_rfl) rfl (by kernel_rfl) (by kernel_rfl) (by kernel_rfl) (fun _ _ _ h => h) (Or.inl ⟨by rfl, ?_⟩) ⟨_, rfl⟩ ?_
  rotate_left
  · rintro wS ⟨yS, rfl⟩
    go_simp
    try (with_reducible rfl)
  try simp only [Act.put, List.setIfInBounds_toArray, List.set_cons_zero, List.set_cons_succ]
  refine wpAnyG_take (i := 6) (v := ?_) (by kernel_rfl) rfl (by kernel_rfl) (by kernel_rfl) (by kernel_rfl) (fun _ _ _ h => h) (Or.inl ⟨by rfl, ?_⟩) ⟨_, rfl⟩ ?_
  rotate_left
  · rintro wS ⟨yS, rfl⟩
    go_simp
    try (with_reducible rfl)
  try simp only [Act.put, List.setIfInBounds_toArray, List.set_cons_zero, List.set_cons_succ]
  refine wpAnyG_take (i := 7) (v := ?_) (by kernel_rfl) rfl (by kernel_rfl) (by kernel_rfl) (by kernel_rfl) (fun _ _ _ h => h) (Or.inl ⟨by rfl, ?_⟩) ⟨_, rfl⟩ ?_
  rotate_left
  · rintro wS ⟨yS, rfl⟩
    go_simp
    try (with_reducible rfl)
  try simp only [Act.put, List.setIfInBounds_toArray, List.set_cons_zero, List.set_cons_succ]
  refine wpAnyG_take (i := 8) (v := ?_) (by kernel_rfl) rfl (by kernel_rfl) (by kernel_rfl) (by kernel_rfl) (fun _ _ _ h => h) (Or.inl ⟨by rfl, ?_⟩) ⟨_, rfl⟩ ?_
  rotate_left
  · rintro wS ⟨yS, rfl⟩
    go_simp
    try (with_reducible rfl)
  try simp only [Act.put, List.setIfInBounds_toArray, List.set_cons_zero, List.set_cons_succ]
  refine wpAnyG_take (i := 9) (v := ?_) (by kernel_rfl) rfl (by kernel_rfl) (by kernel_rfl) (by kernel_rfl) (fun _ _ _ h => h) (Or.inl ⟨by rfl, ?_⟩) ⟨_, rfl⟩ ?_
  rotate_left
  · rintro wS ⟨yS, rfl⟩
    go_simp
    try (with_reducible rfl)
  try simp only [Act.put, List.setIfInBounds_toArray, List.set_cons_zero, List.set_cons_succ]
  refine wpAnyG_take (i := 10) (v := ?_) (by kernel_rfl) rfl (by kernel_rfl) (by kernel_rfl) (by kernel_rfl) (fun _ _ _ h => h) (Or.inl ⟨by rfl, ?_⟩) ⟨_, rfl⟩ ?_
  rotate_left
  · rintro wS ⟨yS, rfl⟩
    go_simp
    try (with_reducible rfl)
  try simp only [Act.put, List.setIfInBounds_toArray, List.set_cons_zero, List.set_cons_succ]
  refine wpAnyG_take (i := 13) (v := ?_) (by kernel_rfl) rfl (by kernel_rfl) (by kernel_rfl) (by kernel_rfl) (fun _ _ _ h => h) (Or.inl ⟨by rfl, ?_⟩) ⟨_, rfl⟩ ?_
  rotate_left
  · rintro wS ⟨yS, rfl⟩
    go_simp
    try (with_reducible rfl)
  try simp only [Act.put, List.setIfInBounds_toArray, List.set_cons_zero, List.set_cons_succ]
  refine wpAnyG_take (i := 15) (v := ?_) (by kernel_rfl) rfl (by kernel_rfl) (by kernel_rfl) (by kernel_rfl) (fun _ _ _ h => h) (Or.inl ⟨by rfl, ?_⟩) ⟨_, rfl⟩ ?_
  rotate_left
  · rintro wS ⟨yS, rfl⟩
    go_simp
    try (with_reducible rfl)
  try simp only [Act.put, List.setIfInBounds_toArray, List.set_cons_zero, List.set_cons_succ]
  refine wpAnyG_one (i := 11) (by kernel_rfl) (by decide) (wpOp_plain rfl rfl ?_)
  go_simp
  go_at_call 70
  refine (quiet_x (HO.out _ (HI.out.bel (Ext.b _)))).mono ?_
  rintro e w' ⟨rfl, ya, rfl⟩
  refine ⟨⟨_, rfl⟩, ?_⟩
  try simp only [Act.put, List.setIfInBounds_toArray, List.set_cons_zero, List.set_cons_succ]
  refine wpAnyG_take (i := 12) (v := ?_) (by kernel_rfl) rfl (by kernel_rfl) (by kernel_rfl) (by kernel_rfl) (fun _ _ _ h => h) (Or.inl ⟨by rfl, ?_⟩) ⟨_, rfl⟩ ?_
  rotate_left
  · rintro wS ⟨yS, rfl⟩
    go_simp
    try (with_reducible rfl)
  try simp only [Act.put, List.setIfInBounds_toArray, List.set_cons_zero, List.set_cons_succ]
  refine wpAnyG_take (i := 14) (v := ?_) (by kernel_rfl) rfl (by kernel_rfl) (by kernel_rfl) (by kernel_rfl) (fun _ _ _ h => h) (Or.inl ⟨by rfl, ?_⟩) ⟨_, rfl⟩ ?_
  rotate_left
  · rintro wS ⟨yS, rfl⟩
    go_simp
    try (with_reducible rfl)
  try simp only [Act.put, List.setIfInBounds_toArray, List.set_cons_zero, List.set_cons_succ]
  refine wpAnyG_take (i := 16) (v := ?_) (by kernel_rfl) rfl (by kernel_rfl) (by kernel_rfl) (by kernel_rfl) (fun _ _ _ h => h) (Or.inl ⟨by rfl, ?_⟩) ⟨_, rfl⟩ ?_
  rotate_left
  · rintro wS ⟨yS, rfl⟩
    go_simp
    try (with_reducible rfl)
  try simp only [Act.put, List.setIfInBounds_toArray, List.set_cons_zero, List.set_cons_succ]
  refine wpAnyG_done (by kernel_rfl) (by kernel_rfl) (wpOp_plain rfl rfl ?_)
  go_simp
  go_wp2
  go_ret
  exact ⟨rfl, bT HB.out ya.b⟩
theorem val_methS : valMethod Try.prog 98 "steening/aqueduct.gauged" = some 108 := by kernel_rfl
theorem methS_any (v : Value) (w : World) (n : Nat) : (method (n + 1) 98 v "steening/aqueduct.gauged").run Try.prog w = .ok (108, v) w := run_valMethod val_methS n v
theorem nilS_any (v : Value) (w : World) (n : Nat) : (nilAhead (n + 1) 98 v "steening/aqueduct.gauged").run Try.prog w = .ok (some false) w := run_nilAhead val_methS n v
set_option maxRecDepth 100000 in
set_option maxHeartbeats 4000000 in
theorem bestS_any (D : Duct) (p q : Option Addr) (c d : Nat) (cb f t : Nat) (V : Nat → Nat → Int × Int) (w : World) (hn : D.n ≤ 40) (hm : D.m ≤ 7) (htm : t ≤ D.m) (hnm : D.n = D.m + 1) (hft : f + 2 ≤ t) (hco : ∀ k, k < D.n → 0 ≤ D.co k ∧ D.co k ≤ 20) (hod : ∀ k, k < D.m → 1 ≤ D.od k ∧ D.od k ≤ 9) (hd : D.m ≤ d)
    (hV : ∀ pt, f < pt → pt < t → V f pt = CH (gS D) f pt ∧ V pt t = CH (gS D) pt t) (hi : DuctIn w w.heap.size D p q) (hT : TabIn w cb V) :
    Calls Try.prog 91 #[.pointer (some ⟨cb, 0, none⟩), .iface 98 (.agg #[.slice p D.n c, .slice q D.m d]), .int .i64 f, .int .i64 t] w fun e w' => e = .returned (.agg #[.int .i64 (NS D f t), .int .i64 (AW D f t)]) ∧ Below w.heap.size w w' := by
  obtain ⟨w1, x1, e1, b1, t1⟩ := mk_two' w 83 0 0
  obtain ⟨w2, x2, e2, b2, t2⟩ := mk_two' x1.v 83 0 0
  have HB1 := Lib.hid b1
  have HR := Lib.hid t1
  have HTW := Lib.hid (hT.bel b1)
  have HI := Lib.hid (hi.bel b1)
  have HV := Lib.hid hV
  have HCO := Lib.hid hco
  have HOD := Lib.hid hod
  have HT2 := Lib.hid t2
  have HB2 := Lib.hid (bT x1.b b2)
  have HBB : Hid (w1.heap.size ≤ x1.v.heap.size) := x1.b.size
  have HFT := Lib.hid hft; have HTM := Lib.hid htm; have HNM := Lib.hid hnm
  have hf7 : f < 7 := by omega
  have ht8 : t < 8 := by omega
  have j1 : (f : Int) < 7 := by omega
  have j2 : (t : Int) < 8 := by omega
  clear b1 t1 b2 t2 hi hT hV hco hod hnm hft htm
  go_enter Try.func91, Try.ntmps91
  go_wp2
  go_loopw [10] (fun i wr => ∃ pt : Nat, i = .int .i64 (pt : Int) ∧ f < pt ∧ pt ≤ t ∧ TwoBox wr x1.v.heap.size (bst (gS D) (CH (gS D)) f t (pt - f - 1)).1 (bst (gS D) (CH (gS D)) f t (pt - f - 1)).2 ∧ Below w1.heap.size w1 wr) (fun i _ => t - (intOf i).toNat)
  case atStart => exact ⟨f + 1, by go_num, by omega, by have := HFT.out; omega, by rw [show f + 1 - f - 1 = 0 by omega]; exact HT2.out.bel x2.b, bT HB2.out x2.b⟩
  case round =>
    obtain ⟨pt, rfl, hp1, hp2, htb, hbb⟩ := hrel
    have HTB := Lib.hid htb; have HBR := Lib.hid hbb
    clear htb hbb
    obtain ⟨z0, hz0⟩ := rebase wr
    rw [hz0]; clear hz0 e1 e2
    by_cases hlt : pt < t
    · obtain ⟨vf, vt⟩ := HV.out pt hp1 hlt
      obtain ⟨b0, hb0⟩ : ∃ e, (bst (gS D) (CH (gS D)) f t (pt - f - 1)).1 = e := ⟨_, rfl⟩
      obtain ⟨b1, hb1⟩ : ∃ e, (bst (gS D) (CH (gS D)) f t (pt - f - 1)).2 = e := ⟨_, rfl⟩
      rw [hb0, hb1] at HTB
      obtain ⟨X, hX⟩ : ∃ e, AW D f pt = e := ⟨_, rfl⟩
      obtain ⟨Y, hY⟩ : ∃ e, AW D pt t = e := ⟨_, rfl⟩
      have hXb := AW_10k HCO.out HOD.out HNM.out hm (f := f) (t := pt) hp1 (by have := HTM.out; omega)
      have hYb := AW_10k HCO.out HOD.out HNM.out hm (f := pt) (t := t) hlt HTM.out
      rw [hX] at hXb; rw [hY] at hYb
      have C0 : ∀ z : Ext wr, z.v.cell? ⟨cb, f * 16 + pt * 2 + 1, none⟩ = some (.int .i64 X) := fun z => (((HTW.out.bel (bT HBR.out z.b)).c1 f pt hf7 (by omega))).trans (by rw [vf, ← hX]; rfl)
      have C1 : ∀ z : Ext wr, z.v.cell? ⟨cb, pt * 16 + t * 2 + 1, none⟩ = some (.int .i64 Y) := fun z => (((HTW.out.bel (bT HBR.out z.b)).c1 pt t (by omega) ht8)).trans (by rw [vt, ← hY]; rfl)
      have hwv : D.co pt * oS D f t + X + Y = vS D f t pt := by unfold vS; rw [hX, hY]
      have hst := bstS_step (D := D) (t := t) hp1
      rw [hb1] at hst
      have HST := Lib.hid hst; have HWV := Lib.hid hwv
      have HB01 : Hid (bst (gS D) (CH (gS D)) f t (pt - f - 1) = (b0, b1)) := by show _ = _; rw [← hb0, ← hb1]
      have HGA := Lib.hid (show ∀ V, DuctIn V V.heap.size D p q → Calls Try.prog 108 #[.agg #[.slice p D.n c, .slice q D.m d], .int .i64 f, .int .i64 pt, .int .i64 t, .int .i64 X, .int .i64 Y] V fun e w' => e = .returned (.int .i64 (D.co pt * oS D f t + X + Y)) ∧ Below V.heap.size V w' from fun V h => gaugedS_any D p q c d f t pt X Y V hn hm HNM.out (by omega) HTM.out (by have := HNM.out; have := HTM.out; omega) HCO.out HOD.out hd (by omega) (by omega) h)
      obtain ⟨wv, hwve⟩ : ∃ e, D.co pt * oS D f t + X + Y = e := ⟨_, rfl⟩
      rw [hwve] at HGA HWV
      have j3 : (pt : Int) < 7 := by omega
      have j4 : (pt : Int) < 8 := by omega
      have j5 : (pt : Int) < (t : Int) := by omega
      clear hwve hst hwv hb0 hb1 hX hY hXb hYb vf vt
      have hme := methS_any
      have hni := nilS_any
      go_wp2
      refine wp_region_lastE 24 (by kernel_rfl) rfl (fun yr => ?_)
      refine wpAnyG_take (i := 0) (v := ?_) (by kernel_rfl) rfl (by kernel_rfl) (by kernel_rfl) (by kernel_rfl) (fun _ _ _ h => h) (Or.inl ⟨by rfl, ?_⟩) ⟨_, rfl⟩ ?_
      rotate_left
      · rintro wS ⟨yS, rfl⟩
        go_simp
        try (with_reducible rfl)
      try simp only [Act.put, List.setIfInBounds_toArray, List.set_cons_zero, List.set_cons_succ]
      refine wpAnyG_take (i := 1) (v := ?_) (by kernel_rfl) rfl (by kernel_rfl) (by kernel_rfl) (by kernel_rfl) (fun _ _ _ h => h) (Or.inl ⟨by rfl, ?_⟩) ⟨_, rfl⟩ ?_
      rotate_left
      · rintro wS ⟨yS, rfl⟩
        go_simp
        try (with_reducible rfl)
      try simp only [Act.put, List.setIfInBounds_toArray, List.set_cons_zero, List.set_cons_succ]
      refine wpAnyG_take (i := 2) (v := ?_) (by kernel_rfl) rfl (by kernel_rfl) (by kernel_rfl) (by kernel_rfl) (fun _ _ _ h => h) (Or.inl ⟨by rfl, ?_⟩) ⟨_, rfl⟩ ?_
      rotate_left
      · rintro wS ⟨yS, rfl⟩
        go_simp
        try (with_reducible rfl)
      try simp only [Act.put, List.setIfInBounds_toArray, List.set_cons_zero, List.set_cons_succ]
      refine wpAnyG_take (i := 3) (v := ?_) (by kernel_rfl) rfl (by kernel_rfl) (by kernel_rfl) (by kernel_rfl) (fun _ _ _ h => h) (Or.inl ⟨by rfl, ?_⟩) ⟨_, rfl⟩ ?_
      rotate_left
      · rintro wS ⟨yS, rfl⟩
        go_simp
        try (with_reducible rfl)
      try simp only [Act.put, List.setIfInBounds_toArray, List.set_cons_zero, List.set_cons_succ]
      refine wpAnyG_take (i := 4) (v := ?_) (by kernel_rfl) rfl (by kernel_rfl) (by kernel_rfl) (by kernel_rfl) (fun _ _ _ h => h) (Or.inl ⟨by rfl, ?_⟩) ⟨_, rfl⟩ ?_
      rotate_left
      · rintro wS ⟨yS, rfl⟩
        go_simp
        try (with_reducible rfl)
      try simp only [Act.put, List.setIfInBounds_toArray, List.set_cons_zero, List.set_cons_succ]
      refine wpAnyG_take (i := 5) (v := ?_) (by kernel_rfl) rfl (by kernel_rfl) (by kernel_rfl) (by kernel_rfl) (fun _ _ _ h => h) (Or.inl ⟨by rfl, ?_⟩) ⟨_, rfl⟩ ?_
      rotate_left
      · rintro wS ⟨yS, rfl⟩
        go_simp
        try (with_reducible rfl)
      try simp only [Act.put, List.setIfInBounds_toArray, List.set_cons_zero, List.set_cons_succ]
      refine wpAnyG_take (i := 6) (v := ?_) (by kernel_rfl) rfl (by kernel_rfl) (by kernel_rfl) (by kernel_rfl) (fun _ _ _ h => h) (Or.inl ⟨by rfl, ?_⟩) ⟨_, rfl⟩ ?_
      rotate_left
      · rintro wS ⟨yS, rfl⟩
        go_simp
        try (with_reducible rfl)
      try simp only [Act.put, List.setIfInBounds_toArray, List.set_cons_zero, List.set_cons_succ]
      refine wpAnyG_take (i := 7) (v := ?_) (by kernel_rfl) rfl (by kernel_rfl) (by kernel_rfl) (by kernel_rfl) (fun _ _ _ h => h) (Or.inl ⟨by rfl, ?_⟩) ⟨_, rfl⟩ ?_
      rotate_left
      · rintro wS ⟨yS, rfl⟩
        go_simp
        try (with_reducible rfl)
      try simp only [Act.put, List.setIfInBounds_toArray, List.set_cons_zero, List.set_cons_succ]
      refine wpAnyG_take (i := 8) (v := ?_) (by kernel_rfl) rfl (by kernel_rfl) (by kernel_rfl) (by kernel_rfl) (fun _ _ _ h => h) (Or.inl ⟨by rfl, ?_⟩) ⟨_, rfl⟩ ?_
      rotate_left
      · rintro wS ⟨yS, rfl⟩
        go_simp
        try (with_reducible rfl)
      try simp only [Act.put, List.setIfInBounds_toArray, List.set_cons_zero, List.set_cons_succ]
      refine wpAnyG_take (i := 9) (v := ?_) (by kernel_rfl) rfl (by kernel_rfl) (by kernel_rfl) (by kernel_rfl) (fun _ _ _ h => h) (Or.inl ⟨by rfl, ?_⟩) ⟨_, rfl⟩ ?_
      rotate_left
      · rintro wS ⟨yS, rfl⟩
        go_simp
        try (with_reducible rfl)
      try simp only [Act.put, List.setIfInBounds_toArray, List.set_cons_zero, List.set_cons_succ]
      refine wpAnyG_take (i := 10) (v := ?_) (by kernel_rfl) rfl (by kernel_rfl) (by kernel_rfl) (by kernel_rfl) (fun _ _ _ h => h) (Or.inl ⟨by rfl, ?_⟩) ⟨_, rfl⟩ ?_
      rotate_left
      · rintro wS ⟨yS, rfl⟩
        go_simp
        try (with_reducible rfl)
      try simp only [Act.put, List.setIfInBounds_toArray, List.set_cons_zero, List.set_cons_succ]
      refine wpAnyG_take (i := 11) (v := ?_) (by kernel_rfl) rfl (by kernel_rfl) (by kernel_rfl) (by kernel_rfl) (fun _ _ _ h => h) (Or.inl ⟨by rfl, ?_⟩) ⟨_, rfl⟩ ?_
      rotate_left
      · rintro wS ⟨yS, rfl⟩
        go_simp
        try (with_reducible rfl)
      try simp only [Act.put, List.setIfInBounds_toArray, List.set_cons_zero, List.set_cons_succ]
      refine wpAnyG_take (i := 12) (v := ?_) (by kernel_rfl) rfl (by kernel_rfl) (by kernel_rfl) (by kernel_rfl) (fun _ _ _ h => h) (Or.inl ⟨by rfl, ?_⟩) ⟨_, rfl⟩ ?_
      rotate_left
      · rintro wS ⟨yS, rfl⟩
        go_simp
        try (with_reducible rfl)
      try simp only [Act.put, List.setIfInBounds_toArray, List.set_cons_zero, List.set_cons_succ]
      refine wpAnyG_take (i := 13) (v := ?_) (by kernel_rfl) rfl (by kernel_rfl) (by kernel_rfl) (by kernel_rfl) (fun _ _ _ h => h) (Or.inl ⟨by rfl, ?_⟩) ⟨_, rfl⟩ ?_
      rotate_left
      · rintro wS ⟨yS, rfl⟩
        go_simp
        try (with_reducible rfl)
      try simp only [Act.put, List.setIfInBounds_toArray, List.set_cons_zero, List.set_cons_succ]
      refine wpAnyG_take (i := 14) (v := ?_) (by kernel_rfl) rfl (by kernel_rfl) (by kernel_rfl) (by kernel_rfl) (fun _ _ _ h => h) (Or.inl ⟨by rfl, ?_⟩) ⟨_, rfl⟩ ?_
      rotate_left
      · rintro wS ⟨yS, rfl⟩
        go_simp
        try (with_reducible rfl)
      try simp only [Act.put, List.setIfInBounds_toArray, List.set_cons_zero, List.set_cons_succ]
      refine wpAnyG_take (i := 15) (v := ?_) (by kernel_rfl) rfl (by kernel_rfl) (by kernel_rfl) (by kernel_rfl) (fun _ _ _ h => h) (Or.inl ⟨by rfl, ?_⟩) ⟨_, rfl⟩ ?_
      rotate_left
      · rintro wS ⟨yS, rfl⟩
        go_simp
        try (with_reducible rfl)
      try simp only [Act.put, List.setIfInBounds_toArray, List.set_cons_zero, List.set_cons_succ]
      refine wpAnyG_take (i := 16) (v := ?_) (by kernel_rfl) rfl (by kernel_rfl) (by kernel_rfl) (by kernel_rfl) (fun _ _ _ h => h) (Or.inl ⟨by rfl, ?_⟩) ⟨_, rfl⟩ ?_
      rotate_left
      · rintro wS ⟨yS, rfl⟩
        go_simp
        try (with_reducible rfl)
      try simp only [Act.put, List.setIfInBounds_toArray, List.set_cons_zero, List.set_cons_succ]
      refine wpAnyG_take (i := 17) (v := ?_) (by kernel_rfl) rfl (by kernel_rfl) (by kernel_rfl) (by kernel_rfl) (fun _ _ _ h => h) (Or.inl ⟨by rfl, ?_⟩) ⟨_, rfl⟩ ?_
      rotate_left
      · rintro wS ⟨yS, rfl⟩
        go_simp
        try (with_reducible rfl)
      try simp only [Act.put, List.setIfInBounds_toArray, List.set_cons_zero, List.set_cons_succ]
      refine wpAnyG_take (i := 18) (v := ?_) (by kernel_rfl) rfl (by kernel_rfl) (by kernel_rfl) (by kernel_rfl) (fun _ _ _ h => h) (Or.inl ⟨by rfl, ?_⟩) ⟨_, rfl⟩ ?_
      rotate_left
      · rintro wS ⟨yS, rfl⟩
        go_simp
        try (with_reducible rfl)
      try simp only [Act.put, List.setIfInBounds_toArray, List.set_cons_zero, List.set_cons_succ]
      refine wpAnyG_take (i := 19) (v := ?_) (by kernel_rfl) rfl (by kernel_rfl) (by kernel_rfl) (by kernel_rfl) (fun _ _ _ h => h) (Or.inl ⟨by rfl, ?_⟩) ⟨_, rfl⟩ ?_
      rotate_left
      · rintro wS ⟨yS, rfl⟩
        go_simp
        try (with_reducible rfl)
      try simp only [Act.put, List.setIfInBounds_toArray, List.set_cons_zero, List.set_cons_succ]
      refine wpAnyG_take (i := 20) (v := ?_) (by kernel_rfl) rfl (by kernel_rfl) (by kernel_rfl) (by kernel_rfl) (fun _ _ _ h => h) (Or.inl ⟨by rfl, ?_⟩) ⟨_, rfl⟩ ?_
      rotate_left
      · rintro wS ⟨yS, rfl⟩
        go_simp
        try (with_reducible rfl)
      try simp only [Act.put, List.setIfInBounds_toArray, List.set_cons_zero, List.set_cons_succ]
      refine wpAnyG_take (i := 21) (v := ?_) (by kernel_rfl) rfl (by kernel_rfl) (by kernel_rfl) (by kernel_rfl) (fun _ _ _ h => h) (Or.inl ⟨by rfl, ?_⟩) ⟨_, rfl⟩ ?_
      rotate_left
      · rintro wS ⟨yS, rfl⟩
        go_simp
        try (with_reducible rfl)
      try simp only [Act.put, List.setIfInBounds_toArray, List.set_cons_zero, List.set_cons_succ]
      refine wpAnyG_take (i := 22) (v := ?_) (by kernel_rfl) rfl (by kernel_rfl) (by kernel_rfl) (by kernel_rfl) (fun _ _ _ h => h) (Or.inl ⟨by rfl, ?_⟩) ⟨_, rfl⟩ ?_
      rotate_left
      · rintro wS ⟨yS, rfl⟩
        go_simp
        try (with_reducible rfl)
      try simp only [Act.put, List.setIfInBounds_toArray, List.set_cons_zero, List.set_cons_succ]
      refine wpAnyG_one (i := 23) (by kernel_rfl) (by decide) (wpOp_plain rfl rfl ?_)
      go_simp
      go_at_call 108
      refine (quiet_x (HGA.out _ (HI.out.bel (bT HBR.out (Ext.b _))))).mono ?_
      rintro e w' ⟨rfl, y, rfl⟩
      refine ⟨⟨y, rfl⟩, ?_⟩
      try simp only [Act.put, List.setIfInBounds_toArray, List.set_cons_zero, List.set_cons_succ]
      refine wpAnyG_done (by kernel_rfl) (by kernel_rfl) (wpOp_plain rfl rfl ?_)
      go_simp
      clear hme hni
      have HBY := Lib.hid (bT HBR.out y.b); have HTY := Lib.hid (HTB.out.bel y.b)
      have T0 : ∀ z : Ext wr, z.v.cell? ⟨x1.v.heap.size, 0, none⟩ = some (.int .i64 b0) := fun z => (HTB.out.bel z.b).c0
      have T1 : ∀ z : Ext wr, z.v.cell? ⟨x1.v.heap.size, 1, none⟩ = some (.int .i64 b1) := fun z => (HTB.out.bel z.b).c1
      have Tf : ∀ (z : Ext wr) i, z.v.frozen? ⟨x1.v.heap.size, i, none⟩ = false := fun z => (HTB.out.bel z.b).fz
      clear C0 C1
      rw [HWV.out.symm] at HST
      by_cases hfirst : pt = f + 1
      · have d1 : ((pt : Int) == (f : Int) + 1) = true := by simp; omega
        have HR2 := Lib.hid (HST.out.trans (if_pos (Or.inl hfirst)))
        clear hfirst
        go_wp2
        go_roundw
        case rel => exact ⟨pt + 1, by go_num, by omega, hlt, by rw [HR2.out]; exact HTY.out.set _ _, bS (bS HBY.out HBB.out _) HBB.out _⟩
        case measure => first | (simp [intOf]; done) | (simp [intOf]; omega)
      · have d1 : ((pt : Int) == (f : Int) + 1) = false := by simp; omega
        by_cases hless : wv < b1
        · have d2 : decide (wv < b1) = true := by simpa using hless
          have HR2 := Lib.hid (HST.out.trans (if_pos (Or.inr hless)))
          clear hfirst hless
          go_wp2
          go_roundw
          case rel => exact ⟨pt + 1, by go_num, by omega, hlt, by rw [HR2.out]; exact HTY.out.set _ _, bS (bS HBY.out HBB.out _) HBB.out _⟩
          case measure => first | (simp [intOf]; done) | (simp [intOf]; omega)
        · have d2 : decide (wv < b1) = false := by simpa using hless
          have HR2 := Lib.hid ((HST.out.trans (if_neg (by rintro (h | h); exact hfirst h; exact hless h))).trans HB01.out)
          clear hfirst hless
          go_wp2
          go_roundw
          case rel => exact ⟨pt + 1, by go_num, by omega, hlt, by rw [HR2.out]; exact HTY.out, HBY.out⟩
          case measure => first | (simp [intOf]; done) | (simp [intOf]; omega)
    · have hpe : pt = t := by omega
      subst hpe
      have he : bst (gS D) (CH (gS D)) f pt (pt - f - 1) = (NS D f pt, AW D f pt) := by rw [← CH_eq]; rfl
      rw [he] at HTB
      have d1 : decide ((pt : Int) < (pt : Int)) = false := by simp
      have T0 : ∀ z : Ext wr, z.v.cell? ⟨x1.v.heap.size, 0, none⟩ = some (.int .i64 (NS D f pt)) := fun z => (HTB.out.bel z.b).c0
      have T1 : ∀ z : Ext wr, z.v.cell? ⟨x1.v.heap.size, 1, none⟩ = some (.int .i64 (AW D f pt)) := fun z => (HTB.out.bel z.b).c1
      have R0 : ∀ z : Ext wr, z.v.cell? ⟨w.heap.size, 0, none⟩ = some (.int .i64 0) := fun z => (HR.out.bel (bT HBR.out z.b)).c0
      have R1 : ∀ z : Ext wr, z.v.cell? ⟨w.heap.size, 1, none⟩ = some (.int .i64 0) := fun z => (HR.out.bel (bT HBR.out z.b)).c1
      have Rf : ∀ (z : Ext wr) i, z.v.frozen? ⟨w.heap.size, i, none⟩ = false := fun z => (HR.out.bel (bT HBR.out z.b)).fz
      clear he hlt
      go_wp2
      refine bodyPost_ret (v := .agg #[.int .i64 (NS D f pt), .int .i64 (AW D f pt)]) (by simp [results, Try.f91, go_sem, R0, R1, Rf]) rfl ⟨rfl, ?_⟩
      exact bS (bS (bT HB1.out (bT HBR.out z0.b)) (Nat.le_refl _) _) (Nat.le_refl _) _
end Go.Proofs.Ytkdlppekjjbgoaa
