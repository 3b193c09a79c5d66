/- The cheapest gaugings on the average, in the specification's words. -/
import Derived.Test.YtkdlppekjjbgoaaG5

set_option linter.unusedSimpArgs false

set_option linter.unusedVariables false

namespace Go.Proofs.Ytkdlppekjjbgoaa

open Go.RowKit

set_option maxRecDepth 100000 in
set_option maxHeartbeats 2000000 in
theorem oddsR_any (D : Duct) (p q : Option Addr) (c d f t : Nat) (w : World) (hm : D.m ≤ 7) (hft : f ≤ t) (htm : t ≤ D.m) (hod : ∀ k, k < D.m → 1 ≤ D.od k ∧ D.od k ≤ 9) (hi : DuctIn w w.heap.size D p q) :
    Calls Try.prog 80 #[.agg #[.slice p D.n c, .slice q D.m d], .int .i64 (f : Int), .int .i64 (t : Int)] w fun e w' => e = .returned (.int .i64 (oS D f t)) ∧ Below w.heap.size w w' := by
  obtain ⟨w1, x1, e1, hb1, hl1⟩ := mk_line w p q D.n D.m c d
  have HB := Lib.hid hb1
  have HI := Lib.hid (hi.bel hb1)
  have HL := Lib.hid hl1
  have HOD := Lib.hid hod
  have HTM := Lib.hid htm
  have hf7 : f ≤ 7 := by omega
  have ht7 : t ≤ 7 := by omega
  clear hb1 hl1 hi hod htm
  go_enter Try.func80, Try.ntmps80
  go_wp2
  go_loopw [7, 8] (fun s i wr => ∃ k : Nat, i = .int .i64 ((f + k : Nat) : Int) ∧ s = .int .i64 (oN D f k) ∧ f + k ≤ t ∧ ∃ z : Ext w1, wr = z.v) (fun _ i _ => t - (intOf i).toNat)
  case atStart => exact ⟨0, rfl, rfl, hft, x1, rfl⟩
  case round =>
    obtain ⟨k, rfl, rfl, hk, z, rfl⟩ := hrel
    clear x1 e1
    obtain ⟨i, hik⟩ : ∃ i, f + k = i := ⟨_, rfl⟩
    rw [hik] at hk ⊢
    by_cases hlt : i < t
    · have jk : (i : Int) < (D.m : Int) := by have := HTM.out; omega
      have hb1 := oN_bd HOD.out (f := f) (n := k) (by have := HTM.out; omega)
      have hb2 := HOD.out (f + k) (by have := HTM.out; omega)
      obtain ⟨ob, oo, rfl, _, hc⟩ := (HI.out.bel z.b).od (by have := HTM.out; omega)
      have L1 : ∀ z : Ext w1, z.v.cell? ⟨w.heap.size, 1, none⟩ = some (.slice (some ⟨ob, oo, none⟩) D.m d) := fun z => (HL.out.bel z.b).c1
      have C : ∀ z : Ext w1, z.v.cell? ⟨ob, oo + i, none⟩ = some (.int .i64 (D.od i)) := fun z => ((HI.out.bel z.b).od.cell (k := i) (by have := HTM.out; omega)).2
      obtain ⟨S, hS⟩ : ∃ e, oN D f k = e := ⟨_, rfl⟩
      obtain ⟨S2, hS2⟩ : ∃ e, oN D f (k + 1) = e := ⟨_, rfl⟩
      have hwr : IntKind.i64.wrap (S + D.od i) = S2 := by
        have := oN_step (D := D) (f := f) (i := k)
        rw [hS, hS2, hik] at this
        rw [hik] at hb2
        rw [← this]; exact IntWalk.i64_in _ (by omega)
      rw [hS]
      have HS2 := Lib.hid hS2; have HIK := Lib.hid hik
      clear hS hS2 hb1 hb2 hc hik
      go_wp2
      go_roundw
      case rel => exact ⟨k + 1, by rw [← Nat.add_assoc, HIK.out]; go_num, by rw [HS2.out], by have := HIK.out; omega, z, rfl⟩
      case measure => first | (simp [intOf]; done) | (simp [intOf]; omega)
    · have HR := Lib.hid (show oN D f k = oS D f t by unfold oS; rw [show t - f = k by omega])
      clear hk hik
      go_wp2
      go_ret
      exact ⟨ret_i HR.out, bT HB.out z.b⟩
theorem oddsR_is {D : Duct} {p q : Option Addr} {c d f t : Nat} {v : Int} (hv : oS D f t = v) (w : World) (hm : D.m ≤ 7) (hft : f ≤ t) (htm : t ≤ D.m) (hod : ∀ k, k < D.m → 1 ≤ D.od k ∧ D.od k ≤ 9) (hi : DuctIn w w.heap.size D p q) :
    Calls Try.prog 80 #[.agg #[.slice p D.n c, .slice q D.m d], .int .i64 (f : Int), .int .i64 (t : Int)] w fun e w' => e = .returned (.int .i64 v) ∧ Below w.heap.size w w' := by subst hv; exact oddsR_any D p q c d f t w hm hft htm hod hi
/-- the specification's average of fewer than k stretches -/
def AvOk (D : Duct) (p q : Option Addr) (c d k : Nat) : Prop := ∀ f t w, t - f < k → f ≤ t → t ≤ D.m → DuctIn w w.heap.size D p q →
    Calls Try.prog 79 #[.agg #[.slice p D.n c, .slice q D.m d], .int .i64 (f : Nat), .int .i64 (t : Nat)] w fun e w' => e = .returned (.int .i64 (AW D f t)) ∧ Below w.heap.size w w'
set_option maxRecDepth 100000 in
set_option maxHeartbeats 4000000 in
theorem av_more (D : Duct) (p q : Option Addr) (c d k : Nat) (hn : D.n ≤ 40) (hnm : D.n = D.m + 1) (hco : ∀ k, k < D.n → 0 ≤ D.co k ∧ D.co k ≤ 20) (hod : ∀ k, k < D.m → 1 ≤ D.od k ∧ D.od k ≤ 9) (hm : D.m ≤ 7) (IH : AvOk D p q c d k) : AvOk D p q c d (k + 1) := by
  intro f t w hft hle htm hi
  have hf7 : f ≤ 7 := by omega
  have ht7 : t ≤ 7 := by omega
  obtain ⟨pb, po, rfl, _, _⟩ := hi.pt (by omega)
  obtain ⟨w1, x1, e1, hb1, hl1⟩ := mk_line w (some ⟨pb, po, none⟩) q D.n D.m c d
  have HB := Lib.hid hb1
  have HI := Lib.hid (hi.bel hb1)
  have HL := Lib.hid hl1
  have HCO := Lib.hid hco
  have HOD := Lib.hid hod
  have HIH := Lib.hid IH
  have HFT := Lib.hid hft; have HTM := Lib.hid htm; have HNM := Lib.hid hnm
  clear hb1 hl1 hi hco hod IH hft htm hnm
  go_enter Try.func79, Try.ntmps79
  go_wp2
  go_loopw [7, 8] (fun b i wr => ∃ pt : Nat, i = .int .i64 (pt : Int) ∧ f < pt ∧ (pt ≤ t ∨ pt = f + 1) ∧ b = .int .i64 (bst (gS D) (CH (gS D)) f t (pt - f - 1)).2 ∧ ∃ z : Ext w1, wr = z.v) (fun _ i _ => t - (intOf i).toNat)
  case atStart => exact ⟨f + 1, by go_num, by omega, Or.inr rfl, by rw [show f + 1 - f - 1 = 0 by omega]; rfl, x1, rfl⟩
  case round =>
    obtain ⟨pt, rfl, hp1, hp2, rfl, z0, rfl⟩ := hrel
    clear x1 e1
    by_cases hlt : pt < t
    · have d0 : decide ((pt : Int) < (t : Int)) = true := by simp; omega
      have L0 : ∀ z : Ext w1, z.v.cell? ⟨w.heap.size, 0, none⟩ = some (.slice (some ⟨pb, po, none⟩) D.n c) := fun z => (HL.out.bel z.b).c0
      have L1 : ∀ z : Ext w1, z.v.cell? ⟨w.heap.size, 1, none⟩ = some (.slice q D.m d) := fun z => (HL.out.bel z.b).c1
      have C2 : ∀ z : Ext w1, z.v.cell? ⟨pb, po + pt * 3 + 2, none⟩ = some (.int .i64 (D.co pt)) := fun z => (HI.out.bel z.b).co' (by have := HNM.out; have := HTM.out; omega)
      have jn : (pt : Int) < (D.n : Int) := by have := HNM.out; have := HTM.out; omega
      obtain ⟨b1, hb1⟩ : ∃ e, (bst (gS D) (CH (gS D)) f t (pt - f - 1)).2 = e := ⟨_, rfl⟩
      have HB1 := Lib.hid hb1
      rw [hb1]
      obtain ⟨X, hX⟩ : ∃ e, AW D f pt = e := ⟨_, rfl⟩
      obtain ⟨Y, hY⟩ : ∃ e, AW D pt t = e := ⟨_, rfl⟩
      have hXb := AW_10k HCO.out HOD.out HNM.out hm (f := f) (t := pt) hp1 (by have := HTM.out; omega)
      have hYb := AW_10k HCO.out HOD.out HNM.out hm (f := pt) (t := t) hlt HTM.out
      rw [hX] at hXb; rw [hY] at hYb
      obtain ⟨O, hO⟩ : ∃ e, oS D f t = e := ⟨_, rfl⟩
      have hob := oS_bd HOD.out (f := f) (t := t) (by omega) HTM.out
      rw [hO] at hob
      have hcb := HCO.out pt (by have := HNM.out; have := HTM.out; omega)
      have hmb := mul_in (a := D.co pt) (A := 20) hcb (b := O) (B := 63) ⟨by omega, by omega⟩
      have HO := Lib.hid (show ∀ V : World, DuctIn V V.heap.size D (some ⟨pb, po, none⟩) q → Calls Try.prog 80 #[.agg #[.slice (some ⟨pb, po, none⟩) D.n c, .slice q D.m d], .int .i64 (f : Int), .int .i64 (t : Int)] V fun e w' => e = .returned (.int .i64 O) ∧ Below V.heap.size V w' from fun V h => oddsR_is hO V hm (by omega) HTM.out HOD.out h)
      obtain ⟨M, hM⟩ : ∃ e, D.co pt * O = e := ⟨_, rfl⟩
      rw [hM] at hmb
      have hwr1 : IntKind.i64.wrap (D.co pt * O) = M := by rw [hM]; exact IntWalk.i64_in _ (by omega)
      have hwr2 : IntKind.i64.wrap (M + X) = M + X := IntWalk.i64_in _ (by omega)
      have hwv : M + X + Y = vS D f t pt := by unfold vS; rw [hX, hY, hO, hM]
      have hst := bstS_step (D := D) (t := t) hp1
      rw [hb1] at hst
      have HST := Lib.hid hst; have HWV := Lib.hid hwv
      have HX := Lib.hid (show ∀ V : World, DuctIn V V.heap.size D (some ⟨pb, po, none⟩) q → Calls Try.prog 79 #[.agg #[.slice (some ⟨pb, po, none⟩) D.n c, .slice q D.m d], .int .i64 (f : Int), .int .i64 (pt : Int)] V fun e w' => e = .returned (.int .i64 X) ∧ Below V.heap.size V w' from fun V h => by
        have := HIH.out f pt V (by have := HFT.out; omega) (by omega) (by have := HTM.out; omega) h
        rw [hX] at this; exact this)
      have HY := Lib.hid (show ∀ V : World, DuctIn V V.heap.size D (some ⟨pb, po, none⟩) q → Calls Try.prog 79 #[.agg #[.slice (some ⟨pb, po, none⟩) D.n c, .slice q D.m d], .int .i64 (pt : Int), .int .i64 (t : Int)] V fun e w' => e = .returned (.int .i64 Y) ∧ Below V.heap.size V w' from fun V h => by
        have := HIH.out pt t V (by have := HFT.out; omega) (by omega) HTM.out h
        rw [hY] at this; exact this)
      obtain ⟨wv, hwve⟩ : ∃ e, M + X + Y = e := ⟨_, rfl⟩
      have hwr : IntKind.i64.wrap (M + X + Y) = wv := by rw [hwve]; exact IntWalk.i64_in _ (by omega)
      rw [hwve] at HWV
      clear hst hwv hb1 hX hY hXb hYb hcb hmb hwve hO hM hob
      go_wp2
      refine wp_region_lastE 21 (by kernel_rfl) rfl (fun yr => ?_)
      refine wpAnyG_take (i := 0) (v := ?_) (by kernel_rfl) rfl (by kernel_rfl) (by kernel_rfl) (by kernel_rfl) (fun _ _ _ h => h) (Or.inl ⟨by rfl, ?_⟩) ⟨_, rfl⟩ ?_
      rotate_left
      · rintro wS ⟨yS, rfl⟩
        go_simp
        try (with_reducible rfl)
      try simp only [Act.put, List.setIfInBounds_toArray, List.set_cons_zero, List.set_cons_succ]
      refine wpAnyG_take (i := 1) (v := ?_) (by kernel_rfl) rfl (by kernel_rfl) (by kernel_rfl) (by kernel_rfl) (fun _ _ _ h => h) (Or.inl ⟨by rfl, ?_⟩) ⟨_, rfl⟩ ?_
      rotate_left
      · rintro wS ⟨yS, rfl⟩
        go_simp
        try (with_reducible rfl)
      try simp only [Act.put, List.setIfInBounds_toArray, List.set_cons_zero, List.set_cons_succ]
      refine wpAnyG_take (i := 2) (v := ?_) (by kernel_rfl) rfl (by kernel_rfl) (by kernel_rfl) (by kernel_rfl) (fun _ _ _ h => h) (Or.inl ⟨by rfl, ?_⟩) ⟨_, rfl⟩ ?_
      rotate_left
      · rintro wS ⟨yS, rfl⟩
        go_simp
        try (with_reducible rfl)
      try simp only [Act.put, List.setIfInBounds_toArray, List.set_cons_zero, List.set_cons_succ]
      refine wpAnyG_take (i := 3) (v := ?_) (by kernel_rfl) rfl (by kernel_rfl) (by kernel_rfl) (by kernel_rfl) (fun _ _ _ h => h) (Or.inl ⟨by rfl, ?_⟩) ⟨_, rfl⟩ ?_
      rotate_left
      · rintro wS ⟨yS, rfl⟩
        go_simp
        try (with_reducible rfl)
      try simp only [Act.put, List.setIfInBounds_toArray, List.set_cons_zero, List.set_cons_succ]
      refine wpAnyG_take (i := 4) (v := ?_) (by kernel_rfl) rfl (by kernel_rfl) (by kernel_rfl) (by kernel_rfl) (fun _ _ _ h => h) (Or.inl ⟨by rfl, ?_⟩) ⟨_, rfl⟩ ?_
      rotate_left
      · rintro wS ⟨yS, rfl⟩
        go_simp
        try (with_reducible rfl)
      try simp only [Act.put, List.setIfInBounds_toArray, List.set_cons_zero, List.set_cons_succ]
      refine wpAnyG_take (i := 5) (v := ?_) (by kernel_rfl) rfl (by kernel_rfl) (by kernel_rfl) (by kernel_rfl) (fun _ _ _ h => h) (Or.inl ⟨by rfl, ?_⟩) ⟨_, rfl⟩ ?_
      rotate_left
      · rintro wS ⟨yS, rfl⟩
        go_simp
        try (with_reducible rfl)
      try simp only [Act.put, List.setIfInBounds_toArray, List.set_cons_zero, List.set_cons_succ]
      refine wpAnyG_take (i := 6) (v := ?_) (by kernel_rfl) rfl (by kernel_rfl) (by kernel_rfl) (by kernel_rfl) (fun _ _ _ h => h) (Or.inl ⟨by rfl, ?_⟩) ⟨_, rfl⟩ ?_
      rotate_left
      · rintro wS ⟨yS, rfl⟩
        go_simp
        try (with_reducible rfl)
      try simp only [Act.put, List.setIfInBounds_toArray, List.set_cons_zero, List.set_cons_succ]
      refine wpAnyG_take (i := 7) (v := ?_) (by kernel_rfl) rfl (by kernel_rfl) (by kernel_rfl) (by kernel_rfl) (fun _ _ _ h => h) (Or.inl ⟨by rfl, ?_⟩) ⟨_, rfl⟩ ?_
      rotate_left
      · rintro wS ⟨yS, rfl⟩
        go_simp
        try (with_reducible rfl)
      try simp only [Act.put, List.setIfInBounds_toArray, List.set_cons_zero, List.set_cons_succ]
      refine wpAnyG_take (i := 8) (v := ?_) (by kernel_rfl) rfl (by kernel_rfl) (by kernel_rfl) (by kernel_rfl) (fun _ _ _ h => h) (Or.inl ⟨by rfl, ?_⟩) ⟨_, rfl⟩ ?_
      rotate_left
      · rintro wS ⟨yS, rfl⟩
        go_simp
        try (with_reducible rfl)
      try simp only [Act.put, List.setIfInBounds_toArray, List.set_cons_zero, List.set_cons_succ]
      refine wpAnyG_take (i := 11) (v := ?_) (by kernel_rfl) rfl (by kernel_rfl) (by kernel_rfl) (by kernel_rfl) (fun _ _ _ h => h) (Or.inl ⟨by rfl, ?_⟩) ⟨_, rfl⟩ ?_
      rotate_left
      · rintro wS ⟨yS, rfl⟩
        go_simp
        try (with_reducible rfl)
      try simp only [Act.put, List.setIfInBounds_toArray, List.set_cons_zero, List.set_cons_succ]
      refine wpAnyG_take (i := 12) (v := ?_) (by kernel_rfl) rfl (by kernel_rfl) (by kernel_rfl) (by kernel_rfl) (fun _ _ _ h => h) (Or.inl ⟨by rfl, ?_⟩) ⟨_, rfl⟩ ?_
      rotate_left
      · rintro wS ⟨yS, rfl⟩
        go_simp
        try (with_reducible rfl)
      try simp only [Act.put, List.setIfInBounds_toArray, List.set_cons_zero, List.set_cons_succ]
      refine wpAnyG_take (i := 13) (v := ?_) (by kernel_rfl) rfl (by kernel_rfl) (by kernel_rfl) (by kernel_rfl) (fun _ _ _ h => h) (Or.inl ⟨by rfl, ?_⟩) ⟨_, rfl⟩ ?_
      rotate_left
      · rintro wS ⟨yS, rfl⟩
        go_simp
        try (with_reducible rfl)
      try simp only [Act.put, List.setIfInBounds_toArray, List.set_cons_zero, List.set_cons_succ]
      refine wpAnyG_take (i := 16) (v := ?_) (by kernel_rfl) rfl (by kernel_rfl) (by kernel_rfl) (by kernel_rfl) (fun _ _ _ h => h) (Or.inl ⟨by rfl, ?_⟩) ⟨_, rfl⟩ ?_
      rotate_left
      · rintro wS ⟨yS, rfl⟩
        go_simp
        try (with_reducible rfl)
      try simp only [Act.put, List.setIfInBounds_toArray, List.set_cons_zero, List.set_cons_succ]
      refine wpAnyG_take (i := 17) (v := ?_) (by kernel_rfl) rfl (by kernel_rfl) (by kernel_rfl) (by kernel_rfl) (fun _ _ _ h => h) (Or.inl ⟨by rfl, ?_⟩) ⟨_, rfl⟩ ?_
      rotate_left
      · rintro wS ⟨yS, rfl⟩
        go_simp
        try (with_reducible rfl)
      try simp only [Act.put, List.setIfInBounds_toArray, List.set_cons_zero, List.set_cons_succ]
      refine wpAnyG_take (i := 18) (v := ?_) (by kernel_rfl) rfl (by kernel_rfl) (by kernel_rfl) (by kernel_rfl) (fun _ _ _ h => h) (Or.inl ⟨by rfl, ?_⟩) ⟨_, rfl⟩ ?_
      rotate_left
      · rintro wS ⟨yS, rfl⟩
        go_simp
        try (with_reducible rfl)
      try simp only [Act.put, List.setIfInBounds_toArray, List.set_cons_zero, List.set_cons_succ]
      refine wpAnyG_one (i := 9) (by kernel_rfl) (by decide) (wpOp_plain rfl rfl ?_)
      go_simp
      go_at_call 80
      refine (quiet_x (HO.out _ (HI.out.bel (Ext.b _)))).mono ?_
      rintro e w' ⟨rfl, yo, rfl⟩
      refine ⟨⟨_, rfl⟩, ?_⟩
      try simp only [Act.put, List.setIfInBounds_toArray, List.set_cons_zero, List.set_cons_succ]
      refine wpAnyG_take (i := 10) (v := ?_) (by kernel_rfl) rfl (by kernel_rfl) (by kernel_rfl) (by kernel_rfl) (fun _ _ _ h => h) (Or.inl ⟨by rfl, ?_⟩) ⟨_, rfl⟩ ?_
      rotate_left
      · rintro wS ⟨yS, rfl⟩
        go_simp
        try (with_reducible rfl)
      try simp only [Act.put, List.setIfInBounds_toArray, List.set_cons_zero, List.set_cons_succ]
      refine wpAnyG_one (i := 14) (by kernel_rfl) (by decide) (wpOp_plain rfl rfl ?_)
      go_simp
      go_at_call 79
      refine (quiet_x (HX.out _ (HI.out.bel (Ext.b _)))).mono ?_
      rintro e w' ⟨rfl, ya, rfl⟩
      refine ⟨⟨_, rfl⟩, ?_⟩
      try simp only [Act.put, List.setIfInBounds_toArray, List.set_cons_zero, List.set_cons_succ]
      refine wpAnyG_take (i := 15) (v := ?_) (by kernel_rfl) rfl (by kernel_rfl) (by kernel_rfl) (by kernel_rfl) (fun _ _ _ h => h) (Or.inl ⟨by rfl, ?_⟩) ⟨_, rfl⟩ ?_
      rotate_left
      · rintro wS ⟨yS, rfl⟩
        go_simp
        try (with_reducible rfl)
      try simp only [Act.put, List.setIfInBounds_toArray, List.set_cons_zero, List.set_cons_succ]
      refine wpAnyG_one (i := 19) (by kernel_rfl) (by decide) (wpOp_plain rfl rfl ?_)
      go_simp
      go_at_call 79
      refine (quiet_x (HY.out _ (HI.out.bel (Ext.b _)))).mono ?_
      rintro e w' ⟨rfl, y1, rfl⟩
      refine ⟨⟨_, rfl⟩, ?_⟩
      try simp only [Act.put, List.setIfInBounds_toArray, List.set_cons_zero, List.set_cons_succ]
      refine wpAnyG_take (i := 20) (v := ?_) (by kernel_rfl) rfl (by kernel_rfl) (by kernel_rfl) (by kernel_rfl) (fun _ _ _ h => h) (Or.inl ⟨by rfl, ?_⟩) ⟨_, rfl⟩ ?_
      rotate_left
      · rintro wS ⟨yS, rfl⟩
        go_simp
        try (with_reducible rfl)
      try simp only [Act.put, List.setIfInBounds_toArray, List.set_cons_zero, List.set_cons_succ]
      refine wpAnyG_done (by kernel_rfl) (by kernel_rfl) (wpOp_plain rfl rfl ?_)
      go_simp
      rw [HWV.out.symm] at HST
      clear L0 L1 C2 hwr hwr1 hwr2
      by_cases hfirst : pt = f + 1
      · have d1 : ((pt : Int) == (f : Int) + 1) = true := by simp; omega
        have HR2 := Lib.hid (HST.out.trans (if_pos (Or.inl hfirst)))
        clear hfirst
        go_wp2
        go_roundw
        case rel => exact ⟨pt + 1, by go_num, by omega, Or.inl hlt, by rw [HR2.out], y1, rfl⟩
        case measure => first | (simp [intOf]; done) | (simp [intOf]; omega)
      · have d1 : ((pt : Int) == (f : Int) + 1) = false := by simp; omega
        by_cases hless : wv < b1
        · have d2 : decide (wv < b1) = true := by simpa using hless
          have HR2 := Lib.hid (HST.out.trans (if_pos (Or.inr hless)))
          clear hfirst hless
          go_wp2
          go_roundw
          case rel => exact ⟨pt + 1, by go_num, by omega, Or.inl hlt, by rw [HR2.out], y1, rfl⟩
          case measure => first | (simp [intOf]; done) | (simp [intOf]; omega)
        · have d2 : decide (wv < b1) = false := by simpa using hless
          have HR2 := Lib.hid (HST.out.trans (if_neg (by rintro (h | h); exact hfirst h; exact hless h)))
          clear hfirst hless
          go_wp2
          go_roundw
          case rel => exact ⟨pt + 1, by go_num, by omega, Or.inl hlt, by rw [HR2.out, HB1.out], y1, rfl⟩
          case measure => first | (simp [intOf]; done) | (simp [intOf]; omega)
    · have d0 : decide ((pt : Int) < (t : Int)) = false := by simp; omega
      have he : (bst (gS D) (CH (gS D)) f t (pt - f - 1)).2 = AW D f t := by
        have e := CH_eq (gS D) f t
        rcases hp2 with h | h
        · obtain rfl : pt = t := by omega
          show _ = (CH (gS D) f pt).2; rw [e]
        · rw [A_one (by omega), show pt - f - 1 = 0 by omega]; rfl
      have HE := Lib.hid he
      clear he hp2
      go_wp2
      go_ret
      exact ⟨ret_i HE.out, bT HB.out z0.b⟩
theorem av_ok (D : Duct) (p q : Option Addr) (c d : Nat) (hn : D.n ≤ 40) (hnm : D.n = D.m + 1) (hco : ∀ k, k < D.n → 0 ≤ D.co k ∧ D.co k ≤ 20) (hod : ∀ k, k < D.m → 1 ≤ D.od k ∧ D.od k ≤ 9) (hm : D.m ≤ 7) : ∀ k, AvOk D p q c d k
  | 0 => fun f t w h => absurd h (Nat.not_lt_zero _)
  | k + 1 => av_more D p q c d k hn hnm hco hod hm (av_ok D p q c d hn hnm hco hod hm k)
/-- average of the specification -/
theorem average_any (D : Duct) (p q : Option Addr) (c d f t : Nat) (w : World) (hok : D.ok = true) (hft : f ≤ t) (htm : t ≤ D.m) (hi : DuctIn w w.heap.size D p q) :
    Calls Try.prog 79 #[.agg #[.slice p D.n c, .slice q D.m d], .int .i64 f, .int .i64 t] w fun e w' => e = .returned (.int .i64 (AW D f t)) ∧ Below w.heap.size w w' := by
  obtain ⟨h1, h2, h3, _⟩ := D.ok_parts hok
  exact av_ok D p q c d (by omega) h2 (co_bd hok) h3 h1 (t - f + 1) f t w (by omega) hft htm hi
theorem average_is {D : Duct} {p q : Option Addr} {c d f t : Nat} {v : Int} (hv : AW D f t = v) (w : World) (hok : D.ok = true) (hft : f ≤ t) (htm : t ≤ D.m) (hi : DuctIn w w.heap.size D p q) :
    Calls Try.prog 79 #[.agg #[.slice p D.n c, .slice q D.m d], .int .i64 f, .int .i64 t] w fun e w' => e = .returned (.int .i64 v) ∧ Below w.heap.size w w' := by subst hv; exact average_any D p q c d f t w hok hft htm hi
end Go.Proofs.Ytkdlppekjjbgoaa
