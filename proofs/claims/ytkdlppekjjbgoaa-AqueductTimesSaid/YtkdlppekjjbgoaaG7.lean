/- The cheapest gaugings, in the specification's words: worst, next. -/
import Derived.Test.YtkdlppekjjbgoaaG4

set_option linter.unusedSimpArgs false

set_option linter.unusedVariables false

namespace Go.Proofs.Ytkdlppekjjbgoaa

open Go.RowKit

/-- the specification's worst of fewer than k stretches -/
def WrOk (D : Duct) (p q : Option Addr) (c d k : Nat) : Prop := ∀ f t w, t - f < k → f ≤ t → t ≤ D.m → DuctIn w w.heap.size D p q →
    Calls Try.prog 77 #[.agg #[.slice p D.n c, .slice q D.m d], .int .i64 (f : Nat), .int .i64 (t : Nat)] w fun e w' => e = .returned (.int .i64 (WW D f t)) ∧ Below w.heap.size w w'
set_option maxRecDepth 100000 in
set_option maxHeartbeats 4000000 in
theorem wr_more (D : Duct) (p q : Option Addr) (c d k : Nat) (hn : D.n ≤ 40) (hnm : D.n = D.m + 1) (hco : ∀ k, k < D.n → 0 ≤ D.co k ∧ D.co k ≤ 20) (hm : D.m ≤ 7) (IH : WrOk D p q c d k) : WrOk D p q c d (k + 1) := by
  intro f t w hft hle htm hi
  have hf7 : f ≤ 7 := by omega
  have ht7 : t ≤ 7 := by omega
  obtain ⟨pb, po, rfl, _, _⟩ := hi.pt (by omega)
  obtain ⟨w1, x1, e1, hb1, hl1⟩ := mk_line w (some ⟨pb, po, none⟩) q D.n D.m c d
  have HB := Lib.hid hb1
  have HI := Lib.hid (hi.bel hb1)
  have HL := Lib.hid hl1
  have HCO := Lib.hid hco
  have HIH := Lib.hid IH
  have HFT := Lib.hid hft; have HTM := Lib.hid htm; have HNM := Lib.hid hnm
  clear hb1 hl1 hi hco IH hft htm hnm
  go_enter Try.func77, Try.ntmps77
  go_wp2
  go_loopw [7, 8] (fun b i wr => ∃ pt : Nat, i = .int .i64 (pt : Int) ∧ f < pt ∧ (pt ≤ t ∨ pt = f + 1) ∧ b = .int .i64 (bst (gW D) (CH (gW D)) f t (pt - f - 1)).2 ∧ ∃ z : Ext w1, wr = z.v) (fun _ i _ => t - (intOf i).toNat)
  case atStart => exact ⟨f + 1, by go_num, by omega, Or.inr rfl, by rw [show f + 1 - f - 1 = 0 by omega]; rfl, x1, rfl⟩
  case round =>
    obtain ⟨pt, rfl, hp1, hp2, rfl, z0, rfl⟩ := hrel
    clear x1 e1
    by_cases hlt : pt < t
    · have d0 : decide ((pt : Int) < (t : Int)) = true := by simp; omega
      have L0 : ∀ z : Ext w1, z.v.cell? ⟨w.heap.size, 0, none⟩ = some (.slice (some ⟨pb, po, none⟩) D.n c) := fun z => (HL.out.bel z.b).c0
      have L1 : ∀ z : Ext w1, z.v.cell? ⟨w.heap.size, 1, none⟩ = some (.slice q D.m d) := fun z => (HL.out.bel z.b).c1
      have C2 : ∀ z : Ext w1, z.v.cell? ⟨pb, po + pt * 3 + 2, none⟩ = some (.int .i64 (D.co pt)) := fun z => (HI.out.bel z.b).co' (by have := HNM.out; have := HTM.out; omega)
      have jn : (pt : Int) < (D.n : Int) := by have := HNM.out; have := HTM.out; omega
      obtain ⟨b1, hb1⟩ : ∃ e, (bst (gW D) (CH (gW D)) f t (pt - f - 1)).2 = e := ⟨_, rfl⟩
      have HB1 := Lib.hid hb1
      rw [hb1]
      obtain ⟨X, hX⟩ : ∃ e, WW D f pt = e := ⟨_, rfl⟩
      obtain ⟨Y, hY⟩ : ∃ e, WW D pt t = e := ⟨_, rfl⟩
      have hXb := W_bd HCO.out (n := 7) (f := f) (t := pt) (by omega) (by have := HNM.out; have := HTM.out; omega)
      have hYb := W_bd HCO.out (n := 7) (f := pt) (t := t) (by omega) (by have := HNM.out; have := HTM.out; omega)
      rw [hX] at hXb; rw [hY] at hYb
      have hwv : D.co pt + max X Y = vW D f t pt := by unfold vW; rw [hX, hY]
      have hst := bst_step (D := D) (t := t) hp1
      rw [hb1] at hst
      have HST := Lib.hid hst; have HWV := Lib.hid hwv
      have HX := Lib.hid (show ∀ V : World, DuctIn V V.heap.size D (some ⟨pb, po, none⟩) q → Calls Try.prog 77 #[.agg #[.slice (some ⟨pb, po, none⟩) D.n c, .slice q D.m d], .int .i64 (f : Int), .int .i64 (pt : Int)] V fun e w' => e = .returned (.int .i64 X) ∧ Below V.heap.size V w' from fun V h => by
        have := HIH.out f pt V (by have := HFT.out; omega) (by omega) (by have := HTM.out; omega) h
        rw [hX] at this; exact this)
      have HY := Lib.hid (show ∀ V : World, DuctIn V V.heap.size D (some ⟨pb, po, none⟩) q → Calls Try.prog 77 #[.agg #[.slice (some ⟨pb, po, none⟩) D.n c, .slice q D.m d], .int .i64 (pt : Int), .int .i64 (t : Int)] V fun e w' => e = .returned (.int .i64 Y) ∧ Below V.heap.size V w' from fun V h => by
        have := HIH.out pt t V (by have := HFT.out; omega) (by omega) HTM.out h
        rw [hY] at this; exact this)
      have hcb := HCO.out pt (by have := HNM.out; have := HTM.out; omega)
      have hmx : (if X < Y then Y else X) = max X Y := by rw [Int.max_def]; split <;> split <;> omega
      obtain ⟨mx, hmxe⟩ : ∃ e, max X Y = e := ⟨_, rfl⟩
      have hmb : 0 ≤ mx ∧ mx ≤ 1000 := by omega
      rw [hmxe] at hmx HWV
      obtain ⟨wv, hwve⟩ : ∃ e, D.co pt + mx = e := ⟨_, rfl⟩
      have hwr : IntKind.i64.wrap (D.co pt + mx) = wv := by rw [hwve]; exact IntWalk.i64_in _ (by omega)
      rw [hwve] at HWV
      clear hst hwv hb1 hX hY hXb hYb hcb hmxe hmb hwve
      go_wp2
      refine wp_region_lastE 16 (by kernel_rfl) rfl (fun yr => ?_)
      refine wpAnyG_take (i := 0) (v := ?_) (by kernel_rfl) rfl (by kernel_rfl) (by kernel_rfl) (by kernel_rfl) (fun _ _ _ h => h) (Or.inl ⟨by rfl, ?_⟩) ⟨_, rfl⟩ ?_
      rotate_left
      · rintro wS ⟨yS, rfl⟩
        go_simp
        try (with_reducible rfl)
      try simp only [Act.put, List.setIfInBounds_toArray, List.set_cons_zero, List.set_cons_succ]
      refine wpAnyG_take (i := 1) (v := ?_) (by kernel_rfl) rfl (by kernel_rfl) (by kernel_rfl) (by kernel_rfl) (fun _ _ _ h => h) (Or.inl ⟨by rfl, ?_⟩) ⟨_, rfl⟩ ?_
      rotate_left
      · rintro wS ⟨yS, rfl⟩
        go_simp
        try (with_reducible rfl)
      try simp only [Act.put, List.setIfInBounds_toArray, List.set_cons_zero, List.set_cons_succ]
      refine wpAnyG_take (i := 2) (v := ?_) (by kernel_rfl) rfl (by kernel_rfl) (by kernel_rfl) (by kernel_rfl) (fun _ _ _ h => h) (Or.inl ⟨by rfl, ?_⟩) ⟨_, rfl⟩ ?_
      rotate_left
      · rintro wS ⟨yS, rfl⟩
        go_simp
        try (with_reducible rfl)
      try simp only [Act.put, List.setIfInBounds_toArray, List.set_cons_zero, List.set_cons_succ]
      refine wpAnyG_take (i := 3) (v := ?_) (by kernel_rfl) rfl (by kernel_rfl) (by kernel_rfl) (by kernel_rfl) (fun _ _ _ h => h) (Or.inl ⟨by rfl, ?_⟩) ⟨_, rfl⟩ ?_
      rotate_left
      · rintro wS ⟨yS, rfl⟩
        go_simp
        try (with_reducible rfl)
      try simp only [Act.put, List.setIfInBounds_toArray, List.set_cons_zero, List.set_cons_succ]
      refine wpAnyG_take (i := 4) (v := ?_) (by kernel_rfl) rfl (by kernel_rfl) (by kernel_rfl) (by kernel_rfl) (fun _ _ _ h => h) (Or.inl ⟨by rfl, ?_⟩) ⟨_, rfl⟩ ?_
      rotate_left
      · rintro wS ⟨yS, rfl⟩
        go_simp
        try (with_reducible rfl)
      try simp only [Act.put, List.setIfInBounds_toArray, List.set_cons_zero, List.set_cons_succ]
      refine wpAnyG_take (i := 5) (v := ?_) (by kernel_rfl) rfl (by kernel_rfl) (by kernel_rfl) (by kernel_rfl) (fun _ _ _ h => h) (Or.inl ⟨by rfl, ?_⟩) ⟨_, rfl⟩ ?_
      rotate_left
      · rintro wS ⟨yS, rfl⟩
        go_simp
        try (with_reducible rfl)
      try simp only [Act.put, List.setIfInBounds_toArray, List.set_cons_zero, List.set_cons_succ]
      refine wpAnyG_take (i := 6) (v := ?_) (by kernel_rfl) rfl (by kernel_rfl) (by kernel_rfl) (by kernel_rfl) (fun _ _ _ h => h) (Or.inl ⟨by rfl, ?_⟩) ⟨_, rfl⟩ ?_
      rotate_left
      · rintro wS ⟨yS, rfl⟩
        go_simp
        try (with_reducible rfl)
      try simp only [Act.put, List.setIfInBounds_toArray, List.set_cons_zero, List.set_cons_succ]
      refine wpAnyG_take (i := 7) (v := ?_) (by kernel_rfl) rfl (by kernel_rfl) (by kernel_rfl) (by kernel_rfl) (fun _ _ _ h => h) (Or.inl ⟨by rfl, ?_⟩) ⟨_, rfl⟩ ?_
      rotate_left
      · rintro wS ⟨yS, rfl⟩
        go_simp
        try (with_reducible rfl)
      try simp only [Act.put, List.setIfInBounds_toArray, List.set_cons_zero, List.set_cons_succ]
      refine wpAnyG_take (i := 8) (v := ?_) (by kernel_rfl) rfl (by kernel_rfl) (by kernel_rfl) (by kernel_rfl) (fun _ _ _ h => h) (Or.inl ⟨by rfl, ?_⟩) ⟨_, rfl⟩ ?_
      rotate_left
      · rintro wS ⟨yS, rfl⟩
        go_simp
        try (with_reducible rfl)
      try simp only [Act.put, List.setIfInBounds_toArray, List.set_cons_zero, List.set_cons_succ]
      refine wpAnyG_take (i := 10) (v := ?_) (by kernel_rfl) rfl (by kernel_rfl) (by kernel_rfl) (by kernel_rfl) (fun _ _ _ h => h) (Or.inl ⟨by rfl, ?_⟩) ⟨_, rfl⟩ ?_
      rotate_left
      · rintro wS ⟨yS, rfl⟩
        go_simp
        try (with_reducible rfl)
      try simp only [Act.put, List.setIfInBounds_toArray, List.set_cons_zero, List.set_cons_succ]
      refine wpAnyG_take (i := 11) (v := ?_) (by kernel_rfl) rfl (by kernel_rfl) (by kernel_rfl) (by kernel_rfl) (fun _ _ _ h => h) (Or.inl ⟨by rfl, ?_⟩) ⟨_, rfl⟩ ?_
      rotate_left
      · rintro wS ⟨yS, rfl⟩
        go_simp
        try (with_reducible rfl)
      try simp only [Act.put, List.setIfInBounds_toArray, List.set_cons_zero, List.set_cons_succ]
      refine wpAnyG_take (i := 12) (v := ?_) (by kernel_rfl) rfl (by kernel_rfl) (by kernel_rfl) (by kernel_rfl) (fun _ _ _ h => h) (Or.inl ⟨by rfl, ?_⟩) ⟨_, rfl⟩ ?_
      rotate_left
      · rintro wS ⟨yS, rfl⟩
        go_simp
        try (with_reducible rfl)
      try simp only [Act.put, List.setIfInBounds_toArray, List.set_cons_zero, List.set_cons_succ]
      refine wpAnyG_one (i := 9) (by kernel_rfl) (by decide) (wpOp_plain rfl rfl ?_)
      go_simp
      go_at_call 77
      refine (quiet_x (HX.out _ (HI.out.bel (Ext.b _)))).mono ?_
      rintro e w' ⟨rfl, ya, rfl⟩
      refine ⟨⟨_, rfl⟩, ?_⟩
      try simp only [Act.put, List.setIfInBounds_toArray, List.set_cons_zero, List.set_cons_succ]
      refine wpAnyG_one (i := 13) (by kernel_rfl) (by decide) (wpOp_plain rfl rfl ?_)
      go_simp
      go_at_call 77
      refine (quiet_x (HY.out _ (HI.out.bel (Ext.b _)))).mono ?_
      rintro e w' ⟨rfl, y1, rfl⟩
      refine ⟨⟨_, rfl⟩, ?_⟩
      try simp only [Act.put, List.setIfInBounds_toArray, List.set_cons_zero, List.set_cons_succ]
      refine wpAnyG_take (i := 14) (v := ?_) (by kernel_rfl) rfl (by kernel_rfl) (by kernel_rfl) (by kernel_rfl) (fun _ _ _ h => h) (Or.inl ⟨by rfl, ?_⟩) ⟨_, rfl⟩ ?_
      rotate_left
      · rintro wS ⟨yS, rfl⟩
        go_simp
        try (with_reducible rfl)
      try simp only [Act.put, List.setIfInBounds_toArray, List.set_cons_zero, List.set_cons_succ]
      refine wpAnyG_take (i := 15) (v := ?_) (by kernel_rfl) rfl (by kernel_rfl) (by kernel_rfl) (by kernel_rfl) (fun _ _ _ h => h) (Or.inl ⟨by rfl, ?_⟩) ⟨_, rfl⟩ ?_
      rotate_left
      · rintro wS ⟨yS, rfl⟩
        go_simp
        try (with_reducible rfl)
      try simp only [Act.put, List.setIfInBounds_toArray, List.set_cons_zero, List.set_cons_succ]
      refine wpAnyG_done (by kernel_rfl) (by kernel_rfl) (wpOp_plain rfl rfl ?_)
      go_simp
      rw [HWV.out.symm] at HST
      clear L0 L1 C2 hwr hmx
      by_cases hfirst : pt = f + 1
      · have d1 : ((pt : Int) == (f : Int) + 1) = true := by simp; omega
        have HR2 := Lib.hid (HST.out.trans (if_pos (Or.inl hfirst)))
        clear hfirst
        go_wp2
        go_roundw
        case rel => exact ⟨pt + 1, by go_num, by omega, Or.inl hlt, by rw [HR2.out], y1, rfl⟩
        case measure => first | (simp [intOf]; done) | (simp [intOf]; omega)
      · have d1 : ((pt : Int) == (f : Int) + 1) = false := by simp; omega
        by_cases hless : wv < b1
        · have d2 : decide (wv < b1) = true := by simpa using hless
          have HR2 := Lib.hid (HST.out.trans (if_pos (Or.inr hless)))
          clear hfirst hless
          go_wp2
          go_roundw
          case rel => exact ⟨pt + 1, by go_num, by omega, Or.inl hlt, by rw [HR2.out], y1, rfl⟩
          case measure => first | (simp [intOf]; done) | (simp [intOf]; omega)
        · have d2 : decide (wv < b1) = false := by simpa using hless
          have HR2 := Lib.hid (HST.out.trans (if_neg (by rintro (h | h); exact hfirst h; exact hless h)))
          clear hfirst hless
          go_wp2
          go_roundw
          case rel => exact ⟨pt + 1, by go_num, by omega, Or.inl hlt, by rw [HR2.out, HB1.out], y1, rfl⟩
          case measure => first | (simp [intOf]; done) | (simp [intOf]; omega)
    · have d0 : decide ((pt : Int) < (t : Int)) = false := by simp; omega
      have he : (bst (gW D) (CH (gW D)) f t (pt - f - 1)).2 = WW D f t := by
        have e := CH_eq (gW D) f t
        rcases hp2 with h | h
        · obtain rfl : pt = t := by omega
          show _ = (CH (gW D) f pt).2; rw [e]
        · rw [W_one (by omega), show pt - f - 1 = 0 by omega]; rfl
      have HE := Lib.hid he
      clear he hp2
      go_wp2
      go_ret
      exact ⟨ret_i HE.out, bT HB.out z0.b⟩
theorem wr_ok (D : Duct) (p q : Option Addr) (c d : Nat) (hn : D.n ≤ 40) (hnm : D.n = D.m + 1) (hco : ∀ k, k < D.n → 0 ≤ D.co k ∧ D.co k ≤ 20) (hm : D.m ≤ 7) : ∀ k, WrOk D p q c d k
  | 0 => fun f t w h => absurd h (Nat.not_lt_zero _)
  | k + 1 => wr_more D p q c d k hn hnm hco hm (wr_ok D p q c d hn hnm hco hm k)
/-- worst of the specification -/
theorem worst_any (D : Duct) (p q : Option Addr) (c d f t : Nat) (w : World) (hok : D.ok = true) (hft : f ≤ t) (htm : t ≤ D.m) (hi : DuctIn w w.heap.size D p q) :
    Calls Try.prog 77 #[.agg #[.slice p D.n c, .slice q D.m d], .int .i64 f, .int .i64 t] w fun e w' => e = .returned (.int .i64 (WW D f t)) ∧ Below w.heap.size w w' := by
  obtain ⟨h1, h2, _, _⟩ := D.ok_parts hok
  exact wr_ok D p q c d (by omega) h2 (co_bd hok) h1 (t - f + 1) f t w (by omega) hft htm hi
theorem worst_is {D : Duct} {p q : Option Addr} {c d f t : Nat} {v : Int} (hv : WW D f t = v) (w : World) (hok : D.ok = true) (hft : f ≤ t) (htm : t ≤ D.m) (hi : DuctIn w w.heap.size D p q) :
    Calls Try.prog 77 #[.agg #[.slice p D.n c, .slice q D.m d], .int .i64 f, .int .i64 t] w fun e w' => e = .returned (.int .i64 v) ∧ Below w.heap.size w w' := by subst hv; exact worst_any D p q c d f t w hok hft htm hi
set_option maxRecDepth 100000 in
set_option maxHeartbeats 4000000 in
theorem nextR_any (D : Duct) (p q : Option Addr) (c d f t : Nat) (w : World) (hok : D.ok = true) (hft : f + 1 < t) (htm : t ≤ D.m) (hi : DuctIn w w.heap.size D p q) :
    Calls Try.prog 78 #[.agg #[.slice p D.n c, .slice q D.m d], .int .i64 f, .int .i64 t] w fun e w' => e = .returned (.int .i64 (NX D f t)) ∧ Below w.heap.size w w' := by
  obtain ⟨hm7, hnm, _, _⟩ := D.ok_parts hok
  have hco := co_bd hok
  have hf7 : f ≤ 7 := by omega
  have ht7 : t ≤ 7 := by omega
  obtain ⟨nx, n1, n2, n3, n4, n5, n6⟩ := W_spec (D := D) hft
  rw [n3]
  obtain ⟨pb, po, rfl, _, _⟩ := hi.pt (by omega)
  obtain ⟨w1, x1, e1, hb1, hl1⟩ := mk_line w (some ⟨pb, po, none⟩) q D.n D.m c d
  have HB := Lib.hid hb1
  have HI := Lib.hid (hi.bel hb1)
  have HL := Lib.hid hl1
  have HCO := Lib.hid hco
  have HFT := Lib.hid hft; have HTM := Lib.hid htm; have HNM := Lib.hid hnm; have HOK := Lib.hid hok
  have HN := Lib.hid (And.intro n1 (And.intro n2 (And.intro n4 n6)))
  obtain ⟨WV, hWV⟩ : ∃ e, WW D f t = e := ⟨_, rfl⟩
  have HWE := Lib.hid hWV
  have HW := Lib.hid (show ∀ V : World, DuctIn V V.heap.size D (some ⟨pb, po, none⟩) q → Calls Try.prog 77 #[.agg #[.slice (some ⟨pb, po, none⟩) D.n c, .slice q D.m d], .int .i64 (f : Int), .int .i64 (t : Int)] V fun e w' => e = .returned (.int .i64 WV) ∧ Below V.heap.size V w' from fun V h => worst_is hWV V hok (by omega) htm h)
  clear hb1 hl1 hi hco hft htm hnm hok n1 n2 n3 n4 n5 n6 hWV
  go_enter Try.func78, Try.ntmps78
  go_wp2
  go_loopw [7] (fun i wr => ∃ pt : Nat, i = .int .i64 (pt : Int) ∧ f < pt ∧ pt ≤ nx ∧ ∃ z : Ext w1, wr = z.v) (fun i _ => t - (intOf i).toNat)
  case atStart => exact ⟨f + 1, by go_num, by omega, HN.out.1, x1, rfl⟩
  case round =>
    obtain ⟨pt, rfl, hp1, hp2, z0, rfl⟩ := hrel
    clear x1 e1
    have hlt : pt < t := by have := HN.out.2.1; omega
    have d0 : decide ((pt : Int) < (t : Int)) = true := by simp; omega
    have L0 : ∀ z : Ext w1, z.v.cell? ⟨w.heap.size, 0, none⟩ = some (.slice (some ⟨pb, po, none⟩) D.n c) := fun z => (HL.out.bel z.b).c0
    have L1 : ∀ z : Ext w1, z.v.cell? ⟨w.heap.size, 1, none⟩ = some (.slice q D.m d) := fun z => (HL.out.bel z.b).c1
    have C2 : ∀ z : Ext w1, z.v.cell? ⟨pb, po + pt * 3 + 2, none⟩ = some (.int .i64 (D.co pt)) := fun z => (HI.out.bel z.b).co' (by have := HNM.out; have := HTM.out; omega)
    have jn : (pt : Int) < (D.n : Int) := by have := HNM.out; have := HTM.out; omega
    obtain ⟨X, hX⟩ : ∃ e, WW D f pt = e := ⟨_, rfl⟩
    obtain ⟨Y, hY⟩ : ∃ e, WW D pt t = e := ⟨_, rfl⟩
    have hXb := W_bd HCO.out (n := 7) (f := f) (t := pt) (by omega) (by have := HNM.out; have := HTM.out; omega)
    have hYb := W_bd HCO.out (n := 7) (f := pt) (t := t) (by omega) (by have := HNM.out; have := HTM.out; omega)
    rw [hX] at hXb; rw [hY] at hYb
    have hwv : vW D f t pt = D.co pt + max X Y := by unfold vW; rw [hX, hY]
    have HX := Lib.hid (show ∀ V : World, DuctIn V V.heap.size D (some ⟨pb, po, none⟩) q → Calls Try.prog 77 #[.agg #[.slice (some ⟨pb, po, none⟩) D.n c, .slice q D.m d], .int .i64 (f : Int), .int .i64 (pt : Int)] V fun e w' => e = .returned (.int .i64 X) ∧ Below V.heap.size V w' from fun V h => worst_is hX V HOK.out (by omega) (by have := HTM.out; omega) h)
    have HY := Lib.hid (show ∀ V : World, DuctIn V V.heap.size D (some ⟨pb, po, none⟩) q → Calls Try.prog 77 #[.agg #[.slice (some ⟨pb, po, none⟩) D.n c, .slice q D.m d], .int .i64 (pt : Int), .int .i64 (t : Int)] V fun e w' => e = .returned (.int .i64 Y) ∧ Below V.heap.size V w' from fun V h => worst_is hY V HOK.out (by have := HTM.out; omega) HTM.out h)
    have hcb := HCO.out pt (by have := HNM.out; have := HTM.out; omega)
    have hmx : (if X < Y then Y else X) = max X Y := by rw [Int.max_def]; split <;> split <;> omega
    obtain ⟨mx, hmxe⟩ : ∃ e, max X Y = e := ⟨_, rfl⟩
    have hmb : 0 ≤ mx ∧ mx ≤ 1000 := by omega
    rw [hmxe] at hmx hwv
    obtain ⟨wv, hwve⟩ : ∃ e, D.co pt + mx = e := ⟨_, rfl⟩
    have hwr : IntKind.i64.wrap (D.co pt + mx) = wv := by rw [hwve]; exact IntWalk.i64_in _ (by omega)
    rw [hwve] at hwv
    clear hX hY hXb hYb hcb hmxe hmb hwve
    by_cases hlast : pt = nx
    · have d1 : (wv == WV) = true := by rw [← hwv, ← HWE.out, HN.out.2.2.1, hlast]; simp
      have HLA := Lib.hid hlast
      clear hwv hlast
      go_wp2
      refine wp_region_lastE 20 (by kernel_rfl) rfl (fun yr => ?_)
      refine wpAnyG_take (i := 0) (v := ?_) (by kernel_rfl) rfl (by kernel_rfl) (by kernel_rfl) (by kernel_rfl) (fun _ _ _ h => h) (Or.inl ⟨by rfl, ?_⟩) ⟨_, rfl⟩ ?_
      rotate_left
      · rintro wS ⟨yS, rfl⟩
        go_simp
        try (with_reducible rfl)
      try simp only [Act.put, List.setIfInBounds_toArray, List.set_cons_zero, List.set_cons_succ]
      refine wpAnyG_take (i := 1) (v := ?_) (by kernel_rfl) rfl (by kernel_rfl) (by kernel_rfl) (by kernel_rfl) (fun _ _ _ h => h) (Or.inl ⟨by rfl, ?_⟩) ⟨_, rfl⟩ ?_
      rotate_left
      · rintro wS ⟨yS, rfl⟩
        go_simp
        try (with_reducible rfl)
      try simp only [Act.put, List.setIfInBounds_toArray, List.set_cons_zero, List.set_cons_succ]
      refine wpAnyG_take (i := 2) (v := ?_) (by kernel_rfl) rfl (by kernel_rfl) (by kernel_rfl) (by kernel_rfl) (fun _ _ _ h => h) (Or.inl ⟨by rfl, ?_⟩) ⟨_, rfl⟩ ?_
      rotate_left
      · rintro wS ⟨yS, rfl⟩
        go_simp
        try (with_reducible rfl)
      try simp only [Act.put, List.setIfInBounds_toArray, List.set_cons_zero, List.set_cons_succ]
      refine wpAnyG_take (i := 3) (v := ?_) (by kernel_rfl) rfl (by kernel_rfl) (by kernel_rfl) (by kernel_rfl) (fun _ _ _ h => h) (Or.inl ⟨by rfl, ?_⟩) ⟨_, rfl⟩ ?_
      rotate_left
      · rintro wS ⟨yS, rfl⟩
        go_simp
        try (with_reducible rfl)
      try simp only [Act.put, List.setIfInBounds_toArray, List.set_cons_zero, List.set_cons_succ]
      refine wpAnyG_take (i := 4) (v := ?_) (by kernel_rfl) rfl (by kernel_rfl) (by kernel_rfl) (by kernel_rfl) (fun _ _ _ h => h) (Or.inl ⟨by rfl, ?_⟩) ⟨_, rfl⟩ ?_
      rotate_left
      · rintro wS ⟨yS, rfl⟩
        go_simp
        try (with_reducible rfl)
      try simp only [Act.put, List.setIfInBounds_toArray, List.set_cons_zero, List.set_cons_succ]
      refine wpAnyG_take (i := 5) (v := ?_) (by kernel_rfl) rfl (by kernel_rfl) (by kernel_rfl) (by kernel_rfl) (fun _ _ _ h => h) (Or.inl ⟨by rfl, ?_⟩) ⟨_, rfl⟩ ?_
      rotate_left
      · rintro wS ⟨yS, rfl⟩
        go_simp
        try (with_reducible rfl)
      try simp only [Act.put, List.setIfInBounds_toArray, List.set_cons_zero, List.set_cons_succ]
      refine wpAnyG_take (i := 6) (v := ?_) (by kernel_rfl) rfl (by kernel_rfl) (by kernel_rfl) (by kernel_rfl) (fun _ _ _ h => h) (Or.inl ⟨by rfl, ?_⟩) ⟨_, rfl⟩ ?_
      rotate_left
      · rintro wS ⟨yS, rfl⟩
        go_simp
        try (with_reducible rfl)
      try simp only [Act.put, List.setIfInBounds_toArray, List.set_cons_zero, List.set_cons_succ]
      refine wpAnyG_take (i := 7) (v := ?_) (by kernel_rfl) rfl (by kernel_rfl) (by kernel_rfl) (by kernel_rfl) (fun _ _ _ h => h) (Or.inl ⟨by rfl, ?_⟩) ⟨_, rfl⟩ ?_
      rotate_left
      · rintro wS ⟨yS, rfl⟩
        go_simp
        try (with_reducible rfl)
      try simp only [Act.put, List.setIfInBounds_toArray, List.set_cons_zero, List.set_cons_succ]
      refine wpAnyG_take (i := 8) (v := ?_) (by kernel_rfl) rfl (by kernel_rfl) (by kernel_rfl) (by kernel_rfl) (fun _ _ _ h => h) (Or.inl ⟨by rfl, ?_⟩) ⟨_, rfl⟩ ?_
      rotate_left
      · rintro wS ⟨yS, rfl⟩
        go_simp
        try (with_reducible rfl)
      try simp only [Act.put, List.setIfInBounds_toArray, List.set_cons_zero, List.set_cons_succ]
      refine wpAnyG_take (i := 10) (v := ?_) (by kernel_rfl) rfl (by kernel_rfl) (by kernel_rfl) (by kernel_rfl) (fun _ _ _ h => h) (Or.inl ⟨by rfl, ?_⟩) ⟨_, rfl⟩ ?_
      rotate_left
      · rintro wS ⟨yS, rfl⟩
        go_simp
        try (with_reducible rfl)
      try simp only [Act.put, List.setIfInBounds_toArray, List.set_cons_zero, List.set_cons_succ]
      refine wpAnyG_take (i := 11) (v := ?_) (by kernel_rfl) rfl (by kernel_rfl) (by kernel_rfl) (by kernel_rfl) (fun _ _ _ h => h) (Or.inl ⟨by rfl, ?_⟩) ⟨_, rfl⟩ ?_
      rotate_left
      · rintro wS ⟨yS, rfl⟩
        go_simp
        try (with_reducible rfl)
      try simp only [Act.put, List.setIfInBounds_toArray, List.set_cons_zero, List.set_cons_succ]
      refine wpAnyG_take (i := 12) (v := ?_) (by kernel_rfl) rfl (by kernel_rfl) (by kernel_rfl) (by kernel_rfl) (fun _ _ _ h => h) (Or.inl ⟨by rfl, ?_⟩) ⟨_, rfl⟩ ?_
      rotate_left
      · rintro wS ⟨yS, rfl⟩
        go_simp
        try (with_reducible rfl)
      try simp only [Act.put, List.setIfInBounds_toArray, List.set_cons_zero, List.set_cons_succ]
      refine wpAnyG_take (i := 16) (v := ?_) (by kernel_rfl) rfl (by kernel_rfl) (by kernel_rfl) (by kernel_rfl) (fun _ _ _ h => h) (Or.inl ⟨by rfl, ?_⟩) ⟨_, rfl⟩ ?_
      rotate_left
      · rintro wS ⟨yS, rfl⟩
        go_simp
        try (with_reducible rfl)
      try simp only [Act.put, List.setIfInBounds_toArray, List.set_cons_zero, List.set_cons_succ]
      refine wpAnyG_take (i := 17) (v := ?_) (by kernel_rfl) rfl (by kernel_rfl) (by kernel_rfl) (by kernel_rfl) (fun _ _ _ h => h) (Or.inl ⟨by rfl, ?_⟩) ⟨_, rfl⟩ ?_
      rotate_left
      · rintro wS ⟨yS, rfl⟩
        go_simp
        try (with_reducible rfl)
      try simp only [Act.put, List.setIfInBounds_toArray, List.set_cons_zero, List.set_cons_succ]
      refine wpAnyG_take (i := 18) (v := ?_) (by kernel_rfl) rfl (by kernel_rfl) (by kernel_rfl) (by kernel_rfl) (fun _ _ _ h => h) (Or.inl ⟨by rfl, ?_⟩) ⟨_, rfl⟩ ?_
      rotate_left
      · rintro wS ⟨yS, rfl⟩
        go_simp
        try (with_reducible rfl)
      try simp only [Act.put, List.setIfInBounds_toArray, List.set_cons_zero, List.set_cons_succ]
      refine wpAnyG_one (i := 9) (by kernel_rfl) (by decide) (wpOp_plain rfl rfl ?_)
      go_simp
      go_at_call 77
      refine (quiet_x (HX.out _ (HI.out.bel (Ext.b _)))).mono ?_
      rintro e w' ⟨rfl, ya, rfl⟩
      refine ⟨⟨_, rfl⟩, ?_⟩
      try simp only [Act.put, List.setIfInBounds_toArray, List.set_cons_zero, List.set_cons_succ]
      refine wpAnyG_one (i := 13) (by kernel_rfl) (by decide) (wpOp_plain rfl rfl ?_)
      go_simp
      go_at_call 77
      refine (quiet_x (HY.out _ (HI.out.bel (Ext.b _)))).mono ?_
      rintro e w' ⟨rfl, yb, rfl⟩
      refine ⟨⟨_, rfl⟩, ?_⟩
      try simp only [Act.put, List.setIfInBounds_toArray, List.set_cons_zero, List.set_cons_succ]
      refine wpAnyG_take (i := 14) (v := ?_) (by kernel_rfl) rfl (by kernel_rfl) (by kernel_rfl) (by kernel_rfl) (fun _ _ _ h => h) (Or.inl ⟨by rfl, ?_⟩) ⟨_, rfl⟩ ?_
      rotate_left
      · rintro wS ⟨yS, rfl⟩
        go_simp
        try (with_reducible rfl)
      try simp only [Act.put, List.setIfInBounds_toArray, List.set_cons_zero, List.set_cons_succ]
      refine wpAnyG_take (i := 15) (v := ?_) (by kernel_rfl) rfl (by kernel_rfl) (by kernel_rfl) (by kernel_rfl) (fun _ _ _ h => h) (Or.inl ⟨by rfl, ?_⟩) ⟨_, rfl⟩ ?_
      rotate_left
      · rintro wS ⟨yS, rfl⟩
        go_simp
        try (with_reducible rfl)
      try simp only [Act.put, List.setIfInBounds_toArray, List.set_cons_zero, List.set_cons_succ]
      refine wpAnyG_one (i := 19) (by kernel_rfl) (by decide) (wpOp_plain rfl rfl ?_)
      go_simp
      go_at_call 77
      refine (quiet_x (HW.out _ (HI.out.bel (Ext.b _)))).mono ?_
      rintro e w' ⟨rfl, y1, rfl⟩
      refine ⟨⟨_, rfl⟩, ?_⟩
      try simp only [Act.put, List.setIfInBounds_toArray, List.set_cons_zero, List.set_cons_succ]
      refine wpAnyG_done (by kernel_rfl) (by kernel_rfl) (wpOp_plain rfl rfl ?_)
      go_simp
      go_wp2
      go_ret
      exact ⟨by rw [HLA.out]; rfl, bT HB.out y1.b⟩
    · have d1 : (wv == WV) = false := by
        have := HN.out.2.2.2 pt hp1 (by omega)
        rw [← HN.out.2.2.1, HWE.out, hwv] at this
        simp; omega
      have HLA := Lib.hid hlast
      clear hwv hlast
      go_wp2
      refine wp_region_lastE 20 (by kernel_rfl) rfl (fun yr => ?_)
      refine wpAnyG_take (i := 0) (v := ?_) (by kernel_rfl) rfl (by kernel_rfl) (by kernel_rfl) (by kernel_rfl) (fun _ _ _ h => h) (Or.inl ⟨by rfl, ?_⟩) ⟨_, rfl⟩ ?_
      rotate_left
      · rintro wS ⟨yS, rfl⟩
        go_simp
        try (with_reducible rfl)
      try simp only [Act.put, List.setIfInBounds_toArray, List.set_cons_zero, List.set_cons_succ]
      refine wpAnyG_take (i := 1) (v := ?_) (by kernel_rfl) rfl (by kernel_rfl) (by kernel_rfl) (by kernel_rfl) (fun _ _ _ h => h) (Or.inl ⟨by rfl, ?_⟩) ⟨_, rfl⟩ ?_
      rotate_left
      · rintro wS ⟨yS, rfl⟩
        go_simp
        try (with_reducible rfl)
      try simp only [Act.put, List.setIfInBounds_toArray, List.set_cons_zero, List.set_cons_succ]
      refine wpAnyG_take (i := 2) (v := ?_) (by kernel_rfl) rfl (by kernel_rfl) (by kernel_rfl) (by kernel_rfl) (fun _ _ _ h => h) (Or.inl ⟨by rfl, ?_⟩) ⟨_, rfl⟩ ?_
      rotate_left
      · rintro wS ⟨yS, rfl⟩
        go_simp
        try (with_reducible rfl)
      try simp only [Act.put, List.setIfInBounds_toArray, List.set_cons_zero, List.set_cons_succ]
      refine wpAnyG_take (i := 3) (v := ?_) (by kernel_rfl) rfl (by kernel_rfl) (by kernel_rfl) (by kernel_rfl) (fun _ _ _ h => h) (Or.inl ⟨by rfl, ?_⟩) ⟨_, rfl⟩ ?_
      rotate_left
      · rintro wS ⟨yS, rfl⟩
        go_simp
        try (with_reducible rfl)
      try simp only [Act.put, List.setIfInBounds_toArray, List.set_cons_zero, List.set_cons_succ]
      refine wpAnyG_take (i := 4) (v := ?_) (by kernel_rfl) rfl (by kernel_rfl) (by kernel_rfl) (by kernel_rfl) (fun _ _ _ h => h) (Or.inl ⟨by rfl, ?_⟩) ⟨_, rfl⟩ ?_
      rotate_left
      · rintro wS ⟨yS, rfl⟩
        go_simp
        try (with_reducible rfl)
      try simp only [Act.put, List.setIfInBounds_toArray, List.set_cons_zero, List.set_cons_succ]
      refine wpAnyG_take (i := 5) (v := ?_) (by kernel_rfl) rfl (by kernel_rfl) (by kernel_rfl) (by kernel_rfl) (fun _ _ _ h => h) (Or.inl ⟨by rfl, ?_⟩) ⟨_, rfl⟩ ?_
      rotate_left
      · rintro wS ⟨yS, rfl⟩
        go_simp
        try (with_reducible rfl)
      try simp only [Act.put, List.setIfInBounds_toArray, List.set_cons_zero, List.set_cons_succ]
      refine wpAnyG_take (i := 6) (v := ?_) (by kernel_rfl) rfl (by kernel_rfl) (by kernel_rfl) (by kernel_rfl) (fun _ _ _ h => h) (Or.inl ⟨by rfl, ?_⟩) ⟨_, rfl⟩ ?_
      rotate_left
      · rintro wS ⟨yS, rfl⟩
        go_simp
        try (with_reducible rfl)
      try simp only [Act.put, List.setIfInBounds_toArray, List.set_cons_zero, List.set_cons_succ]
      refine wpAnyG_take (i := 7) (v := ?_) (by kernel_rfl) rfl (by kernel_rfl) (by kernel_rfl) (by kernel_rfl) (fun _ _ _ h => h) (Or.inl ⟨by rfl, ?_⟩) ⟨_, rfl⟩ ?_
      rotate_left
      · rintro wS ⟨yS, rfl⟩
        go_simp
        try (with_reducible rfl)
      try simp only [Act.put, List.setIfInBounds_toArray, List.set_cons_zero, List.set_cons_succ]
      refine wpAnyG_take (i := 8) (v := ?_) (by kernel_rfl) rfl (by kernel_rfl) (by kernel_rfl) (by kernel_rfl) (fun _ _ _ h => h) (Or.inl ⟨by rfl, ?_⟩) ⟨_, rfl⟩ ?_
      rotate_left
      · rintro wS ⟨yS, rfl⟩
        go_simp
        try (with_reducible rfl)
      try simp only [Act.put, List.setIfInBounds_toArray, List.set_cons_zero, List.set_cons_succ]
      refine wpAnyG_take (i := 10) (v := ?_) (by kernel_rfl) rfl (by kernel_rfl) (by kernel_rfl) (by kernel_rfl) (fun _ _ _ h => h) (Or.inl ⟨by rfl, ?_⟩) ⟨_, rfl⟩ ?_
      rotate_left
      · rintro wS ⟨yS, rfl⟩
        go_simp
        try (with_reducible rfl)
      try simp only [Act.put, List.setIfInBounds_toArray, List.set_cons_zero, List.set_cons_succ]
      refine wpAnyG_take (i := 11) (v := ?_) (by kernel_rfl) rfl (by kernel_rfl) (by kernel_rfl) (by kernel_rfl) (fun _ _ _ h => h) (Or.inl ⟨by rfl, ?_⟩) ⟨_, rfl⟩ ?_
      rotate_left
      · rintro wS ⟨yS, rfl⟩
        go_simp
        try (with_reducible rfl)
      try simp only [Act.put, List.setIfInBounds_toArray, List.set_cons_zero, List.set_cons_succ]
      refine wpAnyG_take (i := 12) (v := ?_) (by kernel_rfl) rfl (by kernel_rfl) (by kernel_rfl) (by kernel_rfl) (fun _ _ _ h => h) (Or.inl ⟨by rfl, ?_⟩) ⟨_, rfl⟩ ?_
      rotate_left
      · rintro wS ⟨yS, rfl⟩
        go_simp
        try (with_reducible rfl)
      try simp only [Act.put, List.setIfInBounds_toArray, List.set_cons_zero, List.set_cons_succ]
      refine wpAnyG_take (i := 16) (v := ?_) (by kernel_rfl) rfl (by kernel_rfl) (by kernel_rfl) (by kernel_rfl) (fun _ _ _ h => h) (Or.inl ⟨by rfl, ?_⟩) ⟨_, rfl⟩ ?_
      rotate_left
      · rintro wS ⟨yS, rfl⟩
        go_simp
        try (with_reducible rfl)
      try simp only [Act.put, List.setIfInBounds_toArray, List.set_cons_zero, List.set_cons_succ]
      refine wpAnyG_take (i := 17) (v := ?_) (by kernel_rfl) rfl (by kernel_rfl) (by kernel_rfl) (by kernel_rfl) (fun _ _ _ h => h) (Or.inl ⟨by rfl, ?_⟩) ⟨_, rfl⟩ ?_
      rotate_left
      · rintro wS ⟨yS, rfl⟩
        go_simp
        try (with_reducible rfl)
      try simp only [Act.put, List.setIfInBounds_toArray, List.set_cons_zero, List.set_cons_succ]
      refine wpAnyG_take (i := 18) (v := ?_) (by kernel_rfl) rfl (by kernel_rfl) (by kernel_rfl) (by kernel_rfl) (fun _ _ _ h => h) (Or.inl ⟨by rfl, ?_⟩) ⟨_, rfl⟩ ?_
      rotate_left
      · rintro wS ⟨yS, rfl⟩
        go_simp
        try (with_reducible rfl)
      try simp only [Act.put, List.setIfInBounds_toArray, List.set_cons_zero, List.set_cons_succ]
      refine wpAnyG_one (i := 9) (by kernel_rfl) (by decide) (wpOp_plain rfl rfl ?_)
      go_simp
      go_at_call 77
      refine (quiet_x (HX.out _ (HI.out.bel (Ext.b _)))).mono ?_
      rintro e w' ⟨rfl, ya, rfl⟩
      refine ⟨⟨_, rfl⟩, ?_⟩
      try simp only [Act.put, List.setIfInBounds_toArray, List.set_cons_zero, List.set_cons_succ]
      refine wpAnyG_one (i := 13) (by kernel_rfl) (by decide) (wpOp_plain rfl rfl ?_)
      go_simp
      go_at_call 77
      refine (quiet_x (HY.out _ (HI.out.bel (Ext.b _)))).mono ?_
      rintro e w' ⟨rfl, yb, rfl⟩
      refine ⟨⟨_, rfl⟩, ?_⟩
      try simp only [Act.put, List.setIfInBounds_toArray, List.set_cons_zero, List.set_cons_succ]
      refine wpAnyG_take (i := 14) (v := ?_) (by kernel_rfl) rfl (by kernel_rfl) (by kernel_rfl) (by kernel_rfl) (fun _ _ _ h => h) (Or.inl ⟨by rfl, ?_⟩) ⟨_, rfl⟩ ?_
      rotate_left
      · rintro wS ⟨yS, rfl⟩
        go_simp
        try (with_reducible rfl)
      try simp only [Act.put, List.setIfInBounds_toArray, List.set_cons_zero, List.set_cons_succ]
      refine wpAnyG_take (i := 15) (v := ?_) (by kernel_rfl) rfl (by kernel_rfl) (by kernel_rfl) (by kernel_rfl) (fun _ _ _ h => h) (Or.inl ⟨by rfl, ?_⟩) ⟨_, rfl⟩ ?_
      rotate_left
      · rintro wS ⟨yS, rfl⟩
        go_simp
        try (with_reducible rfl)
      try simp only [Act.put, List.setIfInBounds_toArray, List.set_cons_zero, List.set_cons_succ]
      refine wpAnyG_one (i := 19) (by kernel_rfl) (by decide) (wpOp_plain rfl rfl ?_)
      go_simp
      go_at_call 77
      refine (quiet_x (HW.out _ (HI.out.bel (Ext.b _)))).mono ?_
      rintro e w' ⟨rfl, y1, rfl⟩
      refine ⟨⟨_, rfl⟩, ?_⟩
      try simp only [Act.put, List.setIfInBounds_toArray, List.set_cons_zero, List.set_cons_succ]
      refine wpAnyG_done (by kernel_rfl) (by kernel_rfl) (wpOp_plain rfl rfl ?_)
      go_simp
      go_wp2
      go_roundw
      case rel => exact ⟨pt + 1, by go_num, by omega, by have := HLA.out; omega, y1, rfl⟩
      case measure => first | (simp [intOf]; done) | (simp [intOf]; omega)
end Go.Proofs.Ytkdlppekjjbgoaa
