/- HoursSwaps returns true in every walk. -/
import Derived.Test.YtegkgfiaegpihaaF10

set_option linter.unusedSimpArgs false

set_option linter.unusedVariables false

namespace Go.Proofs.Ytegkgfiaegpihaa

open Go.RowKit

theorem isStrR_is {D : Ro} {p q : Option Addr} {c d : Nat} {k : Int} {b : Bool} (h : within k 0 ((D.m : Int) - 1) = b) (hn : D.m ≤ maxLen) (w : World) :
    Calls Try.prog 29 #[.agg #[.slice p D.n c, .slice q D.m d], .int .i64 k] w fun e w' => e = .returned (.bool b) ∧ Below w.heap.size w w' := by
  subst h; exact isStreetR_any D p q c d k w hn
/-- a pair lies in block b -/
structure PairAt (w : World) (b : Nat) (x y : Int) : Prop where
  lt : b < w.heap.size
  c0 : w.cell? ⟨b, 0, none⟩ = some (.int .i64 x)
  c1 : w.cell? ⟨b, 1, none⟩ = some (.int .i64 y)
  fz : ∀ i, w.frozen? ⟨b, i, none⟩ = false
theorem PairAt.bel {w w' : World} {b : Nat} {x y : Int} (h : PairAt w b x y) (hb : Below w.heap.size w w') : PairAt w' b x y :=
  ⟨Nat.lt_of_lt_of_le h.lt hb.size, (hb.cell (p := ⟨b, 0, none⟩) h.lt).trans h.c0, (hb.cell (p := ⟨b, 1, none⟩) h.lt).trans h.c1, fun i => (hb.frozen (p := ⟨b, i, none⟩) h.lt).trans (h.fz i)⟩
theorem alloc_pair {wb : World} (y : Ext wb) : ∃ z : Ext wb, y.v.alloc (Obj.cells #[.int .i64 0, .int .i64 0] 55) = z.v ∧ PairAt z.v y.v.heap.size 0 0 ∧ Below y.v.heap.size y.v z.v :=
  ⟨⟨_, bT y.b (bA (Below.refl _ _) _)⟩, rfl, ⟨by simp, by go_simp, by go_simp, fun i => by go_simp⟩, bA (Below.refl _ _) _⟩
theorem store_pair {wb : World} (y : Ext wb) {b : Nat} {x0 y0 : Int} (h : PairAt y.v b x0 y0) (hb : wb.heap.size ≤ b) (x1 y1 : Int) :
    ∃ z : Ext wb, (y.v.setCell ⟨b, 0, none⟩ (.int .i64 x1)).setCell ⟨b, 1, none⟩ (.int .i64 y1) = z.v ∧ PairAt z.v b x1 y1 := by
  obtain ⟨q0, q1⟩ := set_pair (u := .int .i64 x1) (v := .int .i64 y1) h.c0 h.c1 h.fz
  exact ⟨⟨_, bS (bS y.b hb _) hb _⟩, rfl, ⟨by simpa using h.lt, q0, q1, fun i => by have := h.fz i; simpa using this⟩⟩
/-- the list that a value is -/
def listOf (v : Value) (wr : World) (i : Nat) : Int := match v with
  | .slice (some a) _ _ => (match wr.cell? ⟨a.block, a.off + i, none⟩ with
    | some (.int .i64 x) => x
    | _ => 0)
  | _ => 0
theorem listOf_num {w : World} {K m n c : Nat} {f : Nat → Int} {y : Option Addr} (h : NumIn w K m f y) {i : Nat} (hi : i < m) : listOf (.slice y n c) w i = f i := by
  obtain ⟨b, o, rfl, _, hn⟩ := h (by omega)
  simp only [listOf]
  rw [hn i hi]
theorem listOf_cost {D : Ro} {w : World} {K n c : Nat} {f : Nat → Int} {y : Option Addr} (h : NumIn w K D.m f y) : costF D (listOf (.slice y n c) w) D.m = costF D f D.m := by
  unfold costF
  exact sumN_congr fun k hk => by rw [listOf_num h hk]
theorem rs_noSw {D : Ro} (hD : OkP D) (h : exB D = true) {a b : Nat} (hs : FstSw D (rsF D) a b) : False := by
  have hg := hs.good
  simp only [swB, Bool.and_eq_true, decide_eq_true_eq] at hg
  have h1 := ls_le hD ((isNw_iff hD).1 hg.1).2
  have h2 := (rs_new hD h).2
  omega
set_option maxRecDepth 100000 in
set_option maxHeartbeats 4000000 in
theorem swaps_o1 (D : Ro) (p q : Option Addr) (c d : Nat) (lp : Option Addr) (lc l : Nat) (f : Nat → Int) (w : World) (hn : D.n ≤ maxLen) (hm : D.m ≤ maxLen) (hl : l ≤ maxLen) (hr : rdy D = false) (hi : RoIn w w.heap.size D p q) (hf : NumIn w w.heap.size l f lp) :
    Calls Try.prog 7 #[.agg #[.slice p D.n c, .slice q D.m d], .slice lp l lc] w fun e w' => e = .returned (.bool true) ∧ Below w.heap.size w w' := by
  obtain ⟨w1, x1, hw1, hb1, hz1, F0, F1, _⟩ := box_ro w p q D.n D.m c d
  have HW_0 : Hid (∀ z : Ext w1, Below w.heap.size w z.v) := fun z => bT hb1 z.b
  have HI_0 : Hid (∀ z : Ext w1, RoIn z.v z.v.heap.size D p q) := fun z => (hi.bel hb1).bel z.b
  have HL_0 : Hid (∀ z : Ext w1, NumIn z.v z.v.heap.size l f lp) := fun z => (hf.bel hb1).bel z.b
  clear hb1 hz1 hi hf
  have HR := Lib.hid hr; clear hr
  go_enter Try.func7, Try.ntmps7
  go_wp2_with fail
  refine (quiet_x (ready_is HR.out _ hn hm (HI_0.out _))).mono ?_
  rintro e w' ⟨rfl, y, rfl⟩
  go_wp2_with fail
  refine (quiet_x (works_ex _)).mono ?_
  rintro e w' ⟨rfl, y2, rfl⟩
  go_wp2
  go_ret
  exact ⟨rfl, HW_0.out y2⟩
set_option maxRecDepth 100000 in
set_option maxHeartbeats 4000000 in
theorem swaps_o2 (D : Ro) (p q : Option Addr) (c d : Nat) (lp : Option Addr) (lc l : Nat) (f : Nat → Int) (w : World) (hn : D.n ≤ maxLen) (hm : D.m ≤ maxLen) (hl : l ≤ maxLen) (hr : rdy D = true) (h4 : 40 < l) (hi : RoIn w w.heap.size D p q) (hf : NumIn w w.heap.size l f lp) :
    Calls Try.prog 7 #[.agg #[.slice p D.n c, .slice q D.m d], .slice lp l lc] w fun e w' => e = .returned (.bool true) ∧ Below w.heap.size w w' := by
  obtain ⟨w1, x1, hw1, hb1, hz1, F0, F1, _⟩ := box_ro w p q D.n D.m c d
  have HW_0 : Hid (∀ z : Ext w1, Below w.heap.size w z.v) := fun z => bT hb1 z.b
  have HI_0 : Hid (∀ z : Ext w1, RoIn z.v z.v.heap.size D p q) := fun z => (hi.bel hb1).bel z.b
  have HL_0 : Hid (∀ z : Ext w1, NumIn z.v z.v.heap.size l f lp) := fun z => (hf.bel hb1).bel z.b
  clear hb1 hz1 hi hf
  have HR := Lib.hid hr; clear hr
  have j4 : decide (40 < (l : Int)) = true := by simp; omega
  go_enter Try.func7, Try.ntmps7
  go_wp2_with fail
  refine (quiet_x (ready_is HR.out _ hn hm (HI_0.out _))).mono ?_
  rintro e w' ⟨rfl, y, rfl⟩
  go_wp2_with fail
  refine (quiet_x (works_ex _)).mono ?_
  rintro e w' ⟨rfl, y2, rfl⟩
  go_wp2
  go_ret
  exact ⟨rfl, HW_0.out y2⟩
set_option maxRecDepth 100000 in
set_option maxHeartbeats 4000000 in
theorem swaps_o3 (D : Ro) (p q : Option Addr) (c d : Nat) (lp : Option Addr) (lc l : Nat) (f : Nat → Int) (w : World) (hr : rdy D = true) (hl : l ≤ 40) (hx : exB D = false) (hi : RoIn w w.heap.size D p q) (hf : NumIn w w.heap.size l f lp) :
    Calls Try.prog 7 #[.agg #[.slice p D.n c, .slice q D.m d], .slice lp l lc] w fun e w' => e = .returned (.bool true) ∧ Below w.heap.size w w' := by
  obtain ⟨w1, x1, hw1, hb1, hz1, F0, F1, _⟩ := box_ro w p q D.n D.m c d
  have HW_0 : Hid (∀ z : Ext w1, Below w.heap.size w z.v) := fun z => bT hb1 z.b
  have HI_0 : Hid (∀ z : Ext w1, RoIn z.v z.v.heap.size D p q) := fun z => (hi.bel hb1).bel z.b
  have HL_0 : Hid (∀ z : Ext w1, NumIn z.v z.v.heap.size l f lp) := fun z => (hf.bel hb1).bel z.b
  clear hb1 hz1 hi hf
  obtain ⟨hn8, hm6, hD, _⟩ := rdy_parts hr
  have HR := Lib.hid hr; have HD := Lib.hid hD; clear hr hD
  have hn : D.n ≤ maxLen := by unfold maxLen; omega
  have hm : D.m ≤ maxLen := by unfold maxLen; omega
  have j4 : decide (40 < (l : Int)) = false := by simp; omega
  have h40 : ¬ 40 < l := by omega
  have hnw : isNw D l f = false := by
    cases h : isNw D l f with
    | false => rfl
    | true => rw [nw_ex HD.out h] at hx; cases hx
  have HNW := Lib.hid hnw; clear hnw
  have HRO := Lib.hid (fun (V : World) hV => roster_no D p q c d HD.out V hV hx)
  have i2 : ((3 : Int) == 0) = false := by decide
  clear hx
  go_enter Try.func7, Try.ntmps7
  go_wp2_with fail
  refine (quiet_x (ready_is HR.out _ hn hm (HI_0.out _))).mono ?_
  rintro e w' ⟨rfl, y, rfl⟩
  go_wp2_with fail
  refine (quiet_x (HRO.out _ (HI_0.out _))).mono ?_
  rintro e w' ⟨rfl, y1, rfl⟩
  go_wp2_with fail
  refine (quiet_x (isNewR_is HNW.out _ HD.out (HI_0.out _) (HL_0.out _))).mono ?_
  rintro e w' ⟨rfl, y3, rfl⟩
  go_wp2_with fail
  refine (quiet_x (works_ex _)).mono ?_
  rintro e w' ⟨rfl, y2, rfl⟩
  go_wp2
  go_ret
  exact ⟨rfl, HW_0.out y2⟩
set_option maxRecDepth 100000 in
set_option maxHeartbeats 16000000 in
theorem swaps_in (D : Ro) (p q : Option Addr) (c d : Nat) (lp : Option Addr) (lc l : Nat) (f : Nat → Int) (w : World) (hr : rdy D = true) (hl : l ≤ 40) (hx : exB D = true) (hi : RoIn w w.heap.size D p q) (hf : NumIn w w.heap.size l f lp) :
    Calls Try.prog 7 #[.agg #[.slice p D.n c, .slice q D.m d], .slice lp l lc] w fun e w' => e = .returned (.bool true) ∧ Below w.heap.size w w' := by
  obtain ⟨w1, x1, hw1, hb1, hz1, F0, F1, _⟩ := box_ro w p q D.n D.m c d
  have HW_0 : Hid (∀ z : Ext w1, Below w.heap.size w z.v) := fun z => bT hb1 z.b
  have HI_0 : Hid (∀ z : Ext w1, RoIn z.v z.v.heap.size D p q) := fun z => (hi.bel hb1).bel z.b
  have HL_0 : Hid (∀ z : Ext w1, NumIn z.v z.v.heap.size l f lp) := fun z => (hf.bel hb1).bel z.b
  clear hb1 hz1 hi hf
  obtain ⟨hn8, hm6, hD, _⟩ := rdy_parts hr
  have HR := Lib.hid hr; have HD := Lib.hid hD; clear hr hD
  have hn : D.n ≤ maxLen := by unfold maxLen; omega
  have hm : D.m ≤ maxLen := by unfold maxLen; omega
  have j4 : decide (40 < (l : Int)) = false := by simp; omega
  have h40 : ¬ 40 < l := by omega
  have HX := Lib.hid hx; clear hx
  have HRN := Lib.hid ((isNw_iff HD.out).2 ⟨rfl, (rs_new HD.out HX.out).1⟩)
  have HRNR := Lib.hid (rs_new HD.out HX.out).1
  have i1 : ((0 : Int) == 0) = true := by decide
  have i3 : ((3 : Int) != 3) = false := by decide
  go_enter Try.func7, Try.ntmps7
  go_wp2_with fail
  refine (quiet_x (ready_is HR.out _ hn hm (HI_0.out _))).mono ?_
  rintro e w' ⟨rfl, y, rfl⟩
  go_wp2_with fail
  refine (roster_ok D p q c d HD.out _ (HI_0.out _) HX.out).mono ?_
  rintro e wr ⟨yr, cr, rfl, hbr, hnr⟩
  obtain ⟨y1, rfl⟩ : ∃ z : Ext w1, wr = z.v := ⟨⟨wr, bT y.b hbr⟩, rfl⟩
  have HR1 := Lib.hid hnr; clear hnr hbr
  go_wp2_with fail
  refine (isNewR_is HRN.out _ HD.out (HI_0.out _) HR1.out).mono ?_
  rintro e w2 ⟨rfl, hb2⟩
  obtain ⟨z2, rfl⟩ : ∃ z : Ext w1, w2 = z.v := ⟨⟨w2, bT y1.b hb2⟩, rfl⟩
  have HR2 : Hid (∀ y : Ext z2.v, NumIn y.v y.v.heap.size D.m (rsF D) yr) := fun y => (HR1.out.bel hb2).bel y.b
  clear hb2 hw1
  have HIz2 : Hid (∀ y : Ext z2.v, RoIn y.v y.v.heap.size D p q) := fun y => HI_0.out (y.up z2.b)
  have F0z2 : ∀ y : Ext z2.v, y.v.cell? ⟨w.heap.size, 0, none⟩ = some (.slice p D.n c) := fun y => F0 (y.up z2.b)
  have F1z2 : ∀ y : Ext z2.v, y.v.cell? ⟨w.heap.size, 1, none⟩ = some (.slice q D.m d) := fun y => F1 (y.up z2.b)
  go_upto_region 7 with fail
  go_cut [7, 8] (fun s7 s8 wc => s8 = .int .i64 3 ∧ Below z2.v.heap.size z2.v wc)
  case first =>
    obtain ⟨s0, hs0⟩ : ∃ y : Ext z2.v, z2.v.drew = y.v := ⟨⟨z2.v.drew, bd (Below.refl _ _)⟩, rfl⟩
    refine wp_region_last (fun w' => ∃ y : Ext z2.v, w' = y.v) 9 (by kernel_rfl) rfl ⟨⟨z2.v.drew, bd (Below.refl _ _)⟩, rfl⟩ (fun _ => ?_)
    rw [hs0]
    clear hs0
    refine wpAnyG_take (i := 0) (v := ?_) (by kernel_rfl) rfl (by kernel_rfl) (by kernel_rfl) (by kernel_rfl) (fun _ _ _ h => h) (Or.inl ⟨by rfl, ?_⟩) ⟨_, rfl⟩ ?_
    rotate_left
    · rintro wS ⟨yS, rfl⟩
      go_simp
      try (with_reducible rfl)
    try simp only [Act.put, List.setIfInBounds_toArray, List.set_cons_zero, List.set_cons_succ]
    refine wpAnyG_take (i := 1) (v := ?_) (by kernel_rfl) rfl (by kernel_rfl) (by kernel_rfl) (by kernel_rfl) (fun _ _ _ h => h) (Or.inl ⟨by rfl, ?_⟩) ⟨_, rfl⟩ ?_
    rotate_left
    · rintro wS ⟨yS, rfl⟩
      go_simp
      try (with_reducible rfl)
    try simp only [Act.put, List.setIfInBounds_toArray, List.set_cons_zero, List.set_cons_succ]
    refine wpAnyG_two (i := 2) (j := 7) (by kernel_rfl) (by decide) (by decide) (wpOp_plain rfl rfl ?_) (wpOp_plain rfl rfl ?_)
    · go_simp
      go_at_call 31
      refine (copied_any D.m cr (rsF D) yr _ (by omega) (HR2.out s0)).mono ?_
      rintro e wk ⟨yk, ck, rfl, hnk⟩
      have hbk := hnk.below
      have HNK1 := Lib.hid hnk.num
      obtain ⟨k1, rfl⟩ : ∃ zz : Ext z2.v, wk = zz.v := ⟨⟨wk, bT s0.b hbk⟩, rfl⟩
      clear hnk hbk
      refine ⟨⟨_, rfl⟩, ?_⟩
      try simp only [Act.put, List.setIfInBounds_toArray, List.set_cons_zero, List.set_cons_succ]
      refine wpAnyG_two (i := 3) (j := 7) (by kernel_rfl) (by decide) (by decide) (wpOp_plain rfl rfl ?_) (wpOp_plain rfl rfl ?_)

      · go_simp
        go_at_call 34
        refine (swapP_any D p q yk c d ck (rsF D) _ HD.out HRNR.out (HIz2.out k1) HNK1.out).mono ?_
        rintro e wg ⟨⟨a, b, hfs, rfl⟩ | ⟨hno, rfl⟩, hbg⟩
        · exact absurd hfs (fun h => rs_noSw HD.out HX.out h)
        · have HNO := Lib.hid hno; clear hno
          obtain ⟨k2, rfl⟩ : ∃ zz : Ext z2.v, wg = zz.v := ⟨⟨wg, bT k1.b hbg⟩, rfl⟩
          clear hbg
          refine ⟨⟨_, rfl⟩, ?_⟩
          try simp only [Act.put, List.setIfInBounds_toArray, List.set_cons_zero, List.set_cons_succ]
          refine wpAnyG_take (i := 4) (v := ?_) (by kernel_rfl) rfl (by kernel_rfl) (by kernel_rfl) (by kernel_rfl) (fun _ _ _ h => h) (Or.inl ⟨by rfl, ?_⟩) ⟨_, rfl⟩ ?_
          rotate_left
          · rintro wS ⟨yS, rfl⟩
            go_simp
            try (with_reducible rfl)
          try simp only [Act.put, List.setIfInBounds_toArray, List.set_cons_zero, List.set_cons_succ]
          refine wpAnyG_take (i := 5) (v := ?_) (by kernel_rfl) rfl (by kernel_rfl) (by kernel_rfl) (by kernel_rfl) (fun _ _ _ h => h) (Or.inl ⟨by rfl, ?_⟩) ⟨_, rfl⟩ ?_
          rotate_left
          · rintro wS ⟨yS, rfl⟩
            go_simp
            try (with_reducible rfl)
          try simp only [Act.put, List.setIfInBounds_toArray, List.set_cons_zero, List.set_cons_succ]
          refine wpAnyG_take (i := 6) (v := ?_) (by kernel_rfl) rfl (by kernel_rfl) (by kernel_rfl) (by kernel_rfl) (fun _ _ _ h => h) (Or.inl ⟨by rfl, ?_⟩) ⟨_, rfl⟩ ?_
          rotate_left
          · rintro wS ⟨yS, rfl⟩
            go_simp
            try (with_reducible rfl)
          try simp only [Act.put, List.setIfInBounds_toArray, List.set_cons_zero, List.set_cons_succ]
          obtain ⟨k3, hA3, pA3, bA3⟩ := alloc_pair k2
          obtain ⟨pb, hpb⟩ : ∃ n, k2.v.heap.size = n := ⟨_, rfl⟩
          have HPB : Hid (z2.v.heap.size ≤ pb) := by rw [← hpb]; exact k2.b.size
          rw [hpb] at pA3
          refine wpAnyG_one (i := 7) (by kernel_rfl) (by decide) (wpOp_plain rfl rfl ?_)
          go_simp
          try rw [hpb]
          clear hA3 hpb
          have PB3 := Lib.hid pA3; clear pA3
          refine ⟨⟨_, rfl⟩, ?_⟩
          try simp only [Act.put, List.setIfInBounds_toArray, List.set_cons_zero, List.set_cons_succ]
          obtain ⟨k4, hS4, pS4⟩ := store_pair k3 PB3.out HPB.out 0 0
          have p0 := PB3.out.c0; have p1 := PB3.out.c1; have pf := PB3.out.fz
          have PB4 := Lib.hid pS4; clear pS4
          refine wpAnyG_one (i := 8) (by kernel_rfl) (by decide) (wpOp_plain rfl rfl ?_)
          go_simp
          refine ⟨⟨_, rfl⟩, ?_⟩
          try simp only [Act.put, List.setIfInBounds_toArray, List.set_cons_zero, List.set_cons_succ]
          refine wpAnyG_done (by kernel_rfl) (by kernel_rfl) (wpOp_plain rfl rfl ?_)
          go_simp
          go_wp2_with fail
          go_meet
          case rel => exact ⟨rfl, k4.b⟩

      · obtain ⟨k5, hA5, pA5, bA5⟩ := alloc_pair k1
        obtain ⟨pb, hpb⟩ : ∃ n, k1.v.heap.size = n := ⟨_, rfl⟩
        have HPB : Hid (z2.v.heap.size ≤ pb) := by rw [← hpb]; exact k1.b.size
        rw [hpb] at pA5
        go_simp
        try rw [hpb]
        clear hA5 hpb
        have PB5 := Lib.hid pA5; clear pA5
        refine ⟨⟨_, rfl⟩, ?_⟩
        try simp only [Act.put, List.setIfInBounds_toArray, List.set_cons_zero, List.set_cons_succ]
        replace HNK1 := Lib.hid (HNK1.out.bel bA5)
        refine wpAnyG_one (i := 3) (by kernel_rfl) (by decide) (wpOp_plain rfl rfl ?_)
        go_simp
        go_at_call 34
        refine (swapP_any D p q yk c d ck (rsF D) _ HD.out HRNR.out (HIz2.out k5) HNK1.out).mono ?_
        rintro e wg ⟨⟨a, b, hfs, rfl⟩ | ⟨hno, rfl⟩, hbg⟩
        · exact absurd hfs (fun h => rs_noSw HD.out HX.out h)
        · have HNO := Lib.hid hno; clear hno
          have PB6 := Lib.hid (PB5.out.bel hbg)
          obtain ⟨k6, rfl⟩ : ∃ zz : Ext z2.v, wg = zz.v := ⟨⟨wg, bT k5.b hbg⟩, rfl⟩
          clear hbg
          refine ⟨⟨_, rfl⟩, ?_⟩
          try simp only [Act.put, List.setIfInBounds_toArray, List.set_cons_zero, List.set_cons_succ]
          refine wpAnyG_take (i := 4) (v := ?_) (by kernel_rfl) rfl (by kernel_rfl) (by kernel_rfl) (by kernel_rfl) (fun _ _ _ h => h) (Or.inl ⟨by rfl, ?_⟩) ⟨_, rfl⟩ ?_
          rotate_left
          · rintro wS ⟨yS, rfl⟩
            go_simp
            try (with_reducible rfl)
          try simp only [Act.put, List.setIfInBounds_toArray, List.set_cons_zero, List.set_cons_succ]
          refine wpAnyG_take (i := 5) (v := ?_) (by kernel_rfl) rfl (by kernel_rfl) (by kernel_rfl) (by kernel_rfl) (fun _ _ _ h => h) (Or.inl ⟨by rfl, ?_⟩) ⟨_, rfl⟩ ?_
          rotate_left
          · rintro wS ⟨yS, rfl⟩
            go_simp
            try (with_reducible rfl)
          try simp only [Act.put, List.setIfInBounds_toArray, List.set_cons_zero, List.set_cons_succ]
          refine wpAnyG_take (i := 6) (v := ?_) (by kernel_rfl) rfl (by kernel_rfl) (by kernel_rfl) (by kernel_rfl) (fun _ _ _ h => h) (Or.inl ⟨by rfl, ?_⟩) ⟨_, rfl⟩ ?_
          rotate_left
          · rintro wS ⟨yS, rfl⟩
            go_simp
            try (with_reducible rfl)
          try simp only [Act.put, List.setIfInBounds_toArray, List.set_cons_zero, List.set_cons_succ]
          obtain ⟨k7, hS7, pS7⟩ := store_pair k6 PB6.out HPB.out 0 0
          have p0 := PB6.out.c0; have p1 := PB6.out.c1; have pf := PB6.out.fz
          have PB7 := Lib.hid pS7; clear pS7
          refine wpAnyG_one (i := 8) (by kernel_rfl) (by decide) (wpOp_plain rfl rfl ?_)
          go_simp
          refine ⟨⟨_, rfl⟩, ?_⟩
          try simp only [Act.put, List.setIfInBounds_toArray, List.set_cons_zero, List.set_cons_succ]
          refine wpAnyG_done (by kernel_rfl) (by kernel_rfl) (wpOp_plain rfl rfl ?_)
          go_simp
          go_wp2_with fail
          go_meet
          case rel => exact ⟨rfl, k7.b⟩

    · obtain ⟨k8, hA8, pA8, bA8⟩ := alloc_pair s0
      obtain ⟨pb, hpb⟩ : ∃ n, s0.v.heap.size = n := ⟨_, rfl⟩
      have HPB : Hid (z2.v.heap.size ≤ pb) := by rw [← hpb]; exact s0.b.size
      rw [hpb] at pA8
      go_simp
      try rw [hpb]
      clear hA8 hpb
      have PB8 := Lib.hid pA8; clear pA8
      refine ⟨⟨_, rfl⟩, ?_⟩
      try simp only [Act.put, List.setIfInBounds_toArray, List.set_cons_zero, List.set_cons_succ]
      refine wpAnyG_one (i := 2) (by kernel_rfl) (by decide) (wpOp_plain rfl rfl ?_)
      go_simp
      go_at_call 31
      refine (copied_any D.m cr (rsF D) yr _ (by omega) (HR2.out k8)).mono ?_
      rintro e wk ⟨yk, ck, rfl, hnk⟩
      have hbk := hnk.below
      have HNK9 := Lib.hid hnk.num
      have PB9 := Lib.hid (PB8.out.bel hbk)
      obtain ⟨k9, rfl⟩ : ∃ zz : Ext z2.v, wk = zz.v := ⟨⟨wk, bT k8.b hbk⟩, rfl⟩
      clear hnk hbk
      refine ⟨⟨_, rfl⟩, ?_⟩
      try simp only [Act.put, List.setIfInBounds_toArray, List.set_cons_zero, List.set_cons_succ]
      refine wpAnyG_one (i := 3) (by kernel_rfl) (by decide) (wpOp_plain rfl rfl ?_)
      go_simp
      go_at_call 34
      refine (swapP_any D p q yk c d ck (rsF D) _ HD.out HRNR.out (HIz2.out k9) HNK9.out).mono ?_
      rintro e wg ⟨⟨a, b, hfs, rfl⟩ | ⟨hno, rfl⟩, hbg⟩
      · exact absurd hfs (fun h => rs_noSw HD.out HX.out h)
      · have HNO := Lib.hid hno; clear hno
        have PB10 := Lib.hid (PB9.out.bel hbg)
        obtain ⟨k10, rfl⟩ : ∃ zz : Ext z2.v, wg = zz.v := ⟨⟨wg, bT k9.b hbg⟩, rfl⟩
        clear hbg
        refine ⟨⟨_, rfl⟩, ?_⟩
        try simp only [Act.put, List.setIfInBounds_toArray, List.set_cons_zero, List.set_cons_succ]
        refine wpAnyG_take (i := 4) (v := ?_) (by kernel_rfl) rfl (by kernel_rfl) (by kernel_rfl) (by kernel_rfl) (fun _ _ _ h => h) (Or.inl ⟨by rfl, ?_⟩) ⟨_, rfl⟩ ?_
        rotate_left
        · rintro wS ⟨yS, rfl⟩
          go_simp
          try (with_reducible rfl)
        try simp only [Act.put, List.setIfInBounds_toArray, List.set_cons_zero, List.set_cons_succ]
        refine wpAnyG_take (i := 5) (v := ?_) (by kernel_rfl) rfl (by kernel_rfl) (by kernel_rfl) (by kernel_rfl) (fun _ _ _ h => h) (Or.inl ⟨by rfl, ?_⟩) ⟨_, rfl⟩ ?_
        rotate_left
        · rintro wS ⟨yS, rfl⟩
          go_simp
          try (with_reducible rfl)
        try simp only [Act.put, List.setIfInBounds_toArray, List.set_cons_zero, List.set_cons_succ]
        refine wpAnyG_take (i := 6) (v := ?_) (by kernel_rfl) rfl (by kernel_rfl) (by kernel_rfl) (by kernel_rfl) (fun _ _ _ h => h) (Or.inl ⟨by rfl, ?_⟩) ⟨_, rfl⟩ ?_
        rotate_left
        · rintro wS ⟨yS, rfl⟩
          go_simp
          try (with_reducible rfl)
        try simp only [Act.put, List.setIfInBounds_toArray, List.set_cons_zero, List.set_cons_succ]
        obtain ⟨k11, hS11, pS11⟩ := store_pair k10 PB10.out HPB.out 0 0
        have p0 := PB10.out.c0; have p1 := PB10.out.c1; have pf := PB10.out.fz
        have PB11 := Lib.hid pS11; clear pS11
        refine wpAnyG_one (i := 8) (by kernel_rfl) (by decide) (wpOp_plain rfl rfl ?_)
        go_simp
        refine ⟨⟨_, rfl⟩, ?_⟩
        try simp only [Act.put, List.setIfInBounds_toArray, List.set_cons_zero, List.set_cons_succ]
        refine wpAnyG_done (by kernel_rfl) (by kernel_rfl) (wpOp_plain rfl rfl ?_)
        go_simp
        go_wp2_with fail
        go_meet
        case rel => exact ⟨rfl, k11.b⟩


  case rest =>
    obtain ⟨rfl, hbc⟩ := hcut
    obtain ⟨z3, rfl⟩ : ∃ z : Ext w1, wc = z.v := ⟨⟨wc, bT z2.b hbc⟩, rfl⟩
    clear hbc HR1 HR2 HIz2 F0z2 F1z2 HRN HRNR
    cases hnw : isNw D l f with
    | false =>
      have HNW := Lib.hid hnw; clear hnw
      go_wp2_with fail
      refine (quiet_x (isNewR_is HNW.out _ HD.out (HI_0.out _) (HL_0.out _))).mono ?_
      rintro e w' ⟨rfl, y3, rfl⟩
      go_wp2_with fail
      refine (quiet_x (works_ex _)).mono ?_
      rintro e w' ⟨rfl, y4, rfl⟩
      go_wp2
      go_ret
      exact ⟨rfl, HW_0.out y4⟩
    | true =>
      have HNW := Lib.hid hnw
      obtain ⟨hlm, hnr⟩ := (isNw_iff HD.out).1 hnw
      subst hlm
      have HN0 := Lib.hid hnr
      have HLS := Lib.hid (fun (V : World) hV => least_is (p := p) (q := q) (c := c) (d := d) HD.out V hV)
      rw [show tL D = lsC D by unfold tL; rw [HX.out]; rfl, show exE D = 0 by unfold exE; rw [HX.out]; rfl] at HLS
      have HGE := Lib.hid (fun (g : Nat → Int) (hg : NR D g) => ls_le HD.out hg)
      have HLB := Lib.hid (ls_bd HD.out)
      obtain ⟨ls, hls⟩ : ∃ x, lsC D = x := ⟨_, rfl⟩
      rw [hls] at HLS HGE HLB
      clear hls hnw hnr
      have i4 : ((3 : Int) == 3) = true := by decide
      have i5 : ((0 : Int) == 3) = false := by decide
      have i6 : ((0 : Int) != 0) = false := by decide
      go_wp2_with fail
      refine (quiet_x (isNewR_is HNW.out _ HD.out (HI_0.out _) (HL_0.out _))).mono ?_
      rintro e w' ⟨rfl, y3, rfl⟩
      go_wp2_with fail
      refine (quiet_x (HLS.out _ (HI_0.out _))).mono ?_
      rintro e w' ⟨rfl, y4, rfl⟩
      go_wp2_with fail
      refine (copied_any D.m lc f lp _ (by omega) (HL_0.out _)).mono ?_
      rintro e wn ⟨yn, cn, rfl, hnn⟩
      have HNN := Lib.hid hnn.num
      obtain ⟨z4, rfl⟩ : ∃ z : Ext w1, wn = z.v := ⟨⟨wn, bT y4.b hnn.below⟩, rfl⟩
      clear hnn
      go_wp2
      go_loopw [11] (fun v wr => ∃ (f' : Nat → Int) (y' : Option Addr) (c2 : Nat), v = .slice y' D.m c2 ∧ NR D f' ∧ NumIn wr wr.heap.size D.m f' y' ∧ ∃ z : Ext w1, wr = z.v) (fun v wr => (costF D (listOf v wr) D.m).toNat)
      case atStart => exact ⟨f, yn, cn, rfl, HN0.out, HNN.out, z4, rfl⟩
      case round =>
        obtain ⟨f', y', c2, rfl, hnr, hnum, z, rfl⟩ := hrel
        have HNR5 := Lib.hid hnr; have HNUM := Lib.hid hnum
        have hge := HGE.out f' hnr
        have HBD := Lib.hid (cost_bd HD.out hnr (Nat.le_refl _))
        have HCR := Lib.hid (fun (V : World) hV hY => costR_any D p q y' c d c2 f' V HD.out (hnr.inH HD.out) hV hY)
        obtain ⟨cst, hcst⟩ : ∃ x, costF D f' D.m = x := ⟨_, rfl⟩
        rw [hcst] at HCR hge HBD
        have HCST := Lib.hid hcst
        have jge : decide (ls ≤ cst) = true := by simpa using hge
        clear hnr hnum hcst
        go_wp2_with fail
        refine (HCR.out _ (HI_0.out _) HNUM.out).mono ?_
        rintro e w5 ⟨rfl, hb5⟩
        obtain ⟨z5, hz5⟩ : ∃ z : Ext w1, w5 = z.v := ⟨⟨w5, bT z.b hb5⟩, rfl⟩
        subst hz5
        have HN5 : Hid (∀ y : Ext z5.v, NumIn y.v y.v.heap.size D.m f' y') := fun y => (HNUM.out.bel hb5).bel y.b
        clear hb5
        have HIz5 : Hid (∀ y : Ext z5.v, RoIn y.v y.v.heap.size D p q) := fun y => HI_0.out (y.up z5.b)
        have F0z5 : ∀ y : Ext z5.v, y.v.cell? ⟨w.heap.size, 0, none⟩ = some (.slice p D.n c) := fun y => F0 (y.up z5.b)
        have F1z5 : ∀ y : Ext z5.v, y.v.cell? ⟨w.heap.size, 1, none⟩ = some (.slice q D.m d) := fun y => F1 (y.up z5.b)
        go_upto_region 15 with fail
        go_cut [12, 13] from 56 to 114 (fun s12 s13 wc => ∃ pb, s12 = .pointer (some ⟨pb, 0, none⟩) ∧ Below z5.v.heap.size z5.v wc ∧ ((∃ a b : Nat, FstSw D f' a b ∧ s13 = .int .i64 0 ∧ PairAt wc pb a b) ∨ (NoSw D f' ∧ s13 = .int .i64 3)))
        case first =>
          obtain ⟨s0, hs0⟩ : ∃ y : Ext z5.v, z5.v.drew = y.v := ⟨⟨z5.v.drew, bd (Below.refl _ _)⟩, rfl⟩
          refine wp_region_last (fun w' => ∃ y : Ext z5.v, w' = y.v) 9 (by kernel_rfl) rfl ⟨⟨z5.v.drew, bd (Below.refl _ _)⟩, rfl⟩ (fun _ => ?_)
          rw [hs0]
          clear hs0
          refine wpAnyG_take (i := 0) (v := ?_) (by kernel_rfl) rfl (by kernel_rfl) (by kernel_rfl) (by kernel_rfl) (fun _ _ _ h => h) (Or.inl ⟨by rfl, ?_⟩) ⟨_, rfl⟩ ?_
          rotate_left
          · rintro wS ⟨yS, rfl⟩
            go_simp
            try (with_reducible rfl)
          try simp only [Act.put, List.setIfInBounds_toArray, List.set_cons_zero, List.set_cons_succ]
          refine wpAnyG_take (i := 1) (v := ?_) (by kernel_rfl) rfl (by kernel_rfl) (by kernel_rfl) (by kernel_rfl) (fun _ _ _ h => h) (Or.inl ⟨by rfl, ?_⟩) ⟨_, rfl⟩ ?_
          rotate_left
          · rintro wS ⟨yS, rfl⟩
            go_simp
            try (with_reducible rfl)
          try simp only [Act.put, List.setIfInBounds_toArray, List.set_cons_zero, List.set_cons_succ]
          refine wpAnyG_two (i := 2) (j := 7) (by kernel_rfl) (by decide) (by decide) (wpOp_plain rfl rfl ?_) (wpOp_plain rfl rfl ?_)
          · go_simp
            go_at_call 31
            refine (copied_any D.m c2 f' y' _ (by omega) (HN5.out s0)).mono ?_
            rintro e wk ⟨yk, ck, rfl, hnk⟩
            have hbk := hnk.below
            have HNK1 := Lib.hid hnk.num
            obtain ⟨k1, rfl⟩ : ∃ zz : Ext z5.v, wk = zz.v := ⟨⟨wk, bT s0.b hbk⟩, rfl⟩
            clear hnk hbk
            refine ⟨⟨_, rfl⟩, ?_⟩
            try simp only [Act.put, List.setIfInBounds_toArray, List.set_cons_zero, List.set_cons_succ]
            refine wpAnyG_two (i := 3) (j := 7) (by kernel_rfl) (by decide) (by decide) (wpOp_plain rfl rfl ?_) (wpOp_plain rfl rfl ?_)

            · go_simp
              go_at_call 34
              refine (swapP_any D p q yk c d ck f' _ HD.out HNR5.out (HIz5.out k1) HNK1.out).mono ?_
              rintro e wg ⟨⟨a, b, hfs, rfl⟩ | ⟨hno, rfl⟩, hbg⟩
              · have HFS := Lib.hid hfs; clear hfs
                obtain ⟨k2, rfl⟩ : ∃ zz : Ext z5.v, wg = zz.v := ⟨⟨wg, bT k1.b hbg⟩, rfl⟩
                clear hbg
                refine ⟨⟨_, rfl⟩, ?_⟩
                try simp only [Act.put, List.setIfInBounds_toArray, List.set_cons_zero, List.set_cons_succ]
                refine wpAnyG_take (i := 4) (v := ?_) (by kernel_rfl) rfl (by kernel_rfl) (by kernel_rfl) (by kernel_rfl) (fun _ _ _ h => h) (Or.inl ⟨by rfl, ?_⟩) ⟨_, rfl⟩ ?_
                rotate_left
                · rintro wS ⟨yS, rfl⟩
                  go_simp
                  try (with_reducible rfl)
                try simp only [Act.put, List.setIfInBounds_toArray, List.set_cons_zero, List.set_cons_succ]
                refine wpAnyG_take (i := 5) (v := ?_) (by kernel_rfl) rfl (by kernel_rfl) (by kernel_rfl) (by kernel_rfl) (fun _ _ _ h => h) (Or.inl ⟨by rfl, ?_⟩) ⟨_, rfl⟩ ?_
                rotate_left
                · rintro wS ⟨yS, rfl⟩
                  go_simp
                  try (with_reducible rfl)
                try simp only [Act.put, List.setIfInBounds_toArray, List.set_cons_zero, List.set_cons_succ]
                refine wpAnyG_take (i := 6) (v := ?_) (by kernel_rfl) rfl (by kernel_rfl) (by kernel_rfl) (by kernel_rfl) (fun _ _ _ h => h) (Or.inl ⟨by rfl, ?_⟩) ⟨_, rfl⟩ ?_
                rotate_left
                · rintro wS ⟨yS, rfl⟩
                  go_simp
                  try (with_reducible rfl)
                try simp only [Act.put, List.setIfInBounds_toArray, List.set_cons_zero, List.set_cons_succ]
                obtain ⟨k3, hA3, pA3, bA3⟩ := alloc_pair k2
                obtain ⟨pb, hpb⟩ : ∃ n, k2.v.heap.size = n := ⟨_, rfl⟩
                have HPB : Hid (z5.v.heap.size ≤ pb) := by rw [← hpb]; exact k2.b.size
                rw [hpb] at pA3
                refine wpAnyG_one (i := 7) (by kernel_rfl) (by decide) (wpOp_plain rfl rfl ?_)
                go_simp
                try rw [hpb]
                clear hA3 hpb
                have PB3 := Lib.hid pA3; clear pA3
                refine ⟨⟨_, rfl⟩, ?_⟩
                try simp only [Act.put, List.setIfInBounds_toArray, List.set_cons_zero, List.set_cons_succ]
                obtain ⟨k4, hS4, pS4⟩ := store_pair k3 PB3.out HPB.out (a : Int) (b : Int)
                have p0 := PB3.out.c0; have p1 := PB3.out.c1; have pf := PB3.out.fz
                have PB4 := Lib.hid pS4; clear pS4
                refine wpAnyG_one (i := 8) (by kernel_rfl) (by decide) (wpOp_plain rfl rfl ?_)
                go_simp
                refine ⟨⟨_, rfl⟩, ?_⟩
                try simp only [Act.put, List.setIfInBounds_toArray, List.set_cons_zero, List.set_cons_succ]
                refine wpAnyG_done (by kernel_rfl) (by kernel_rfl) (wpOp_plain rfl rfl ?_)
                go_simp
                go_wp2_with fail
                go_meet
                case rel => exact ⟨pb, rfl, k4.b, .inl ⟨a, b, HFS.out, rfl, PB4.out⟩⟩
              · have HNO := Lib.hid hno; clear hno
                obtain ⟨k2, rfl⟩ : ∃ zz : Ext z5.v, wg = zz.v := ⟨⟨wg, bT k1.b hbg⟩, rfl⟩
                clear hbg
                refine ⟨⟨_, rfl⟩, ?_⟩
                try simp only [Act.put, List.setIfInBounds_toArray, List.set_cons_zero, List.set_cons_succ]
                refine wpAnyG_take (i := 4) (v := ?_) (by kernel_rfl) rfl (by kernel_rfl) (by kernel_rfl) (by kernel_rfl) (fun _ _ _ h => h) (Or.inl ⟨by rfl, ?_⟩) ⟨_, rfl⟩ ?_
                rotate_left
                · rintro wS ⟨yS, rfl⟩
                  go_simp
                  try (with_reducible rfl)
                try simp only [Act.put, List.setIfInBounds_toArray, List.set_cons_zero, List.set_cons_succ]
                refine wpAnyG_take (i := 5) (v := ?_) (by kernel_rfl) rfl (by kernel_rfl) (by kernel_rfl) (by kernel_rfl) (fun _ _ _ h => h) (Or.inl ⟨by rfl, ?_⟩) ⟨_, rfl⟩ ?_
                rotate_left
                · rintro wS ⟨yS, rfl⟩
                  go_simp
                  try (with_reducible rfl)
                try simp only [Act.put, List.setIfInBounds_toArray, List.set_cons_zero, List.set_cons_succ]
                refine wpAnyG_take (i := 6) (v := ?_) (by kernel_rfl) rfl (by kernel_rfl) (by kernel_rfl) (by kernel_rfl) (fun _ _ _ h => h) (Or.inl ⟨by rfl, ?_⟩) ⟨_, rfl⟩ ?_
                rotate_left
                · rintro wS ⟨yS, rfl⟩
                  go_simp
                  try (with_reducible rfl)
                try simp only [Act.put, List.setIfInBounds_toArray, List.set_cons_zero, List.set_cons_succ]
                obtain ⟨k5, hA5, pA5, bA5⟩ := alloc_pair k2
                obtain ⟨pb, hpb⟩ : ∃ n, k2.v.heap.size = n := ⟨_, rfl⟩
                have HPB : Hid (z5.v.heap.size ≤ pb) := by rw [← hpb]; exact k2.b.size
                rw [hpb] at pA5
                refine wpAnyG_one (i := 7) (by kernel_rfl) (by decide) (wpOp_plain rfl rfl ?_)
                go_simp
                try rw [hpb]
                clear hA5 hpb
                have PB5 := Lib.hid pA5; clear pA5
                refine ⟨⟨_, rfl⟩, ?_⟩
                try simp only [Act.put, List.setIfInBounds_toArray, List.set_cons_zero, List.set_cons_succ]
                obtain ⟨k6, hS6, pS6⟩ := store_pair k5 PB5.out HPB.out 0 0
                have p0 := PB5.out.c0; have p1 := PB5.out.c1; have pf := PB5.out.fz
                have PB6 := Lib.hid pS6; clear pS6
                refine wpAnyG_one (i := 8) (by kernel_rfl) (by decide) (wpOp_plain rfl rfl ?_)
                go_simp
                refine ⟨⟨_, rfl⟩, ?_⟩
                try simp only [Act.put, List.setIfInBounds_toArray, List.set_cons_zero, List.set_cons_succ]
                refine wpAnyG_done (by kernel_rfl) (by kernel_rfl) (wpOp_plain rfl rfl ?_)
                go_simp
                go_wp2_with fail
                go_meet
                case rel => exact ⟨pb, rfl, k6.b, .inr ⟨HNO.out, rfl⟩⟩

            · obtain ⟨k7, hA7, pA7, bA7⟩ := alloc_pair k1
              obtain ⟨pb, hpb⟩ : ∃ n, k1.v.heap.size = n := ⟨_, rfl⟩
              have HPB : Hid (z5.v.heap.size ≤ pb) := by rw [← hpb]; exact k1.b.size
              rw [hpb] at pA7
              go_simp
              try rw [hpb]
              clear hA7 hpb
              have PB7 := Lib.hid pA7; clear pA7
              refine ⟨⟨_, rfl⟩, ?_⟩
              try simp only [Act.put, List.setIfInBounds_toArray, List.set_cons_zero, List.set_cons_succ]
              replace HNK1 := Lib.hid (HNK1.out.bel bA7)
              refine wpAnyG_one (i := 3) (by kernel_rfl) (by decide) (wpOp_plain rfl rfl ?_)
              go_simp
              go_at_call 34
              refine (swapP_any D p q yk c d ck f' _ HD.out HNR5.out (HIz5.out k7) HNK1.out).mono ?_
              rintro e wg ⟨⟨a, b, hfs, rfl⟩ | ⟨hno, rfl⟩, hbg⟩
              · have HFS := Lib.hid hfs; clear hfs
                have PB8 := Lib.hid (PB7.out.bel hbg)
                obtain ⟨k8, rfl⟩ : ∃ zz : Ext z5.v, wg = zz.v := ⟨⟨wg, bT k7.b hbg⟩, rfl⟩
                clear hbg
                refine ⟨⟨_, rfl⟩, ?_⟩
                try simp only [Act.put, List.setIfInBounds_toArray, List.set_cons_zero, List.set_cons_succ]
                refine wpAnyG_take (i := 4) (v := ?_) (by kernel_rfl) rfl (by kernel_rfl) (by kernel_rfl) (by kernel_rfl) (fun _ _ _ h => h) (Or.inl ⟨by rfl, ?_⟩) ⟨_, rfl⟩ ?_
                rotate_left
                · rintro wS ⟨yS, rfl⟩
                  go_simp
                  try (with_reducible rfl)
                try simp only [Act.put, List.setIfInBounds_toArray, List.set_cons_zero, List.set_cons_succ]
                refine wpAnyG_take (i := 5) (v := ?_) (by kernel_rfl) rfl (by kernel_rfl) (by kernel_rfl) (by kernel_rfl) (fun _ _ _ h => h) (Or.inl ⟨by rfl, ?_⟩) ⟨_, rfl⟩ ?_
                rotate_left
                · rintro wS ⟨yS, rfl⟩
                  go_simp
                  try (with_reducible rfl)
                try simp only [Act.put, List.setIfInBounds_toArray, List.set_cons_zero, List.set_cons_succ]
                refine wpAnyG_take (i := 6) (v := ?_) (by kernel_rfl) rfl (by kernel_rfl) (by kernel_rfl) (by kernel_rfl) (fun _ _ _ h => h) (Or.inl ⟨by rfl, ?_⟩) ⟨_, rfl⟩ ?_
                rotate_left
                · rintro wS ⟨yS, rfl⟩
                  go_simp
                  try (with_reducible rfl)
                try simp only [Act.put, List.setIfInBounds_toArray, List.set_cons_zero, List.set_cons_succ]
                obtain ⟨k9, hS9, pS9⟩ := store_pair k8 PB8.out HPB.out (a : Int) (b : Int)
                have p0 := PB8.out.c0; have p1 := PB8.out.c1; have pf := PB8.out.fz
                have PB9 := Lib.hid pS9; clear pS9
                refine wpAnyG_one (i := 8) (by kernel_rfl) (by decide) (wpOp_plain rfl rfl ?_)
                go_simp
                refine ⟨⟨_, rfl⟩, ?_⟩
                try simp only [Act.put, List.setIfInBounds_toArray, List.set_cons_zero, List.set_cons_succ]
                refine wpAnyG_done (by kernel_rfl) (by kernel_rfl) (wpOp_plain rfl rfl ?_)
                go_simp
                go_wp2_with fail
                go_meet
                case rel => exact ⟨pb, rfl, k9.b, .inl ⟨a, b, HFS.out, rfl, PB9.out⟩⟩
              · have HNO := Lib.hid hno; clear hno
                have PB8 := Lib.hid (PB7.out.bel hbg)
                obtain ⟨k8, rfl⟩ : ∃ zz : Ext z5.v, wg = zz.v := ⟨⟨wg, bT k7.b hbg⟩, rfl⟩
                clear hbg
                refine ⟨⟨_, rfl⟩, ?_⟩
                try simp only [Act.put, List.setIfInBounds_toArray, List.set_cons_zero, List.set_cons_succ]
                refine wpAnyG_take (i := 4) (v := ?_) (by kernel_rfl) rfl (by kernel_rfl) (by kernel_rfl) (by kernel_rfl) (fun _ _ _ h => h) (Or.inl ⟨by rfl, ?_⟩) ⟨_, rfl⟩ ?_
                rotate_left
                · rintro wS ⟨yS, rfl⟩
                  go_simp
                  try (with_reducible rfl)
                try simp only [Act.put, List.setIfInBounds_toArray, List.set_cons_zero, List.set_cons_succ]
                refine wpAnyG_take (i := 5) (v := ?_) (by kernel_rfl) rfl (by kernel_rfl) (by kernel_rfl) (by kernel_rfl) (fun _ _ _ h => h) (Or.inl ⟨by rfl, ?_⟩) ⟨_, rfl⟩ ?_
                rotate_left
                · rintro wS ⟨yS, rfl⟩
                  go_simp
                  try (with_reducible rfl)
                try simp only [Act.put, List.setIfInBounds_toArray, List.set_cons_zero, List.set_cons_succ]
                refine wpAnyG_take (i := 6) (v := ?_) (by kernel_rfl) rfl (by kernel_rfl) (by kernel_rfl) (by kernel_rfl) (fun _ _ _ h => h) (Or.inl ⟨by rfl, ?_⟩) ⟨_, rfl⟩ ?_
                rotate_left
                · rintro wS ⟨yS, rfl⟩
                  go_simp
                  try (with_reducible rfl)
                try simp only [Act.put, List.setIfInBounds_toArray, List.set_cons_zero, List.set_cons_succ]
                obtain ⟨k10, hS10, pS10⟩ := store_pair k8 PB8.out HPB.out 0 0
                have p0 := PB8.out.c0; have p1 := PB8.out.c1; have pf := PB8.out.fz
                have PB10 := Lib.hid pS10; clear pS10
                refine wpAnyG_one (i := 8) (by kernel_rfl) (by decide) (wpOp_plain rfl rfl ?_)
                go_simp
                refine ⟨⟨_, rfl⟩, ?_⟩
                try simp only [Act.put, List.setIfInBounds_toArray, List.set_cons_zero, List.set_cons_succ]
                refine wpAnyG_done (by kernel_rfl) (by kernel_rfl) (wpOp_plain rfl rfl ?_)
                go_simp
                go_wp2_with fail
                go_meet
                case rel => exact ⟨pb, rfl, k10.b, .inr ⟨HNO.out, rfl⟩⟩

          · obtain ⟨k11, hA11, pA11, bA11⟩ := alloc_pair s0
            obtain ⟨pb, hpb⟩ : ∃ n, s0.v.heap.size = n := ⟨_, rfl⟩
            have HPB : Hid (z5.v.heap.size ≤ pb) := by rw [← hpb]; exact s0.b.size
            rw [hpb] at pA11
            go_simp
            try rw [hpb]
            clear hA11 hpb
            have PB11 := Lib.hid pA11; clear pA11
            refine ⟨⟨_, rfl⟩, ?_⟩
            try simp only [Act.put, List.setIfInBounds_toArray, List.set_cons_zero, List.set_cons_succ]
            refine wpAnyG_one (i := 2) (by kernel_rfl) (by decide) (wpOp_plain rfl rfl ?_)
            go_simp
            go_at_call 31
            refine (copied_any D.m c2 f' y' _ (by omega) (HN5.out k11)).mono ?_
            rintro e wk ⟨yk, ck, rfl, hnk⟩
            have hbk := hnk.below
            have HNK12 := Lib.hid hnk.num
            have PB12 := Lib.hid (PB11.out.bel hbk)
            obtain ⟨k12, rfl⟩ : ∃ zz : Ext z5.v, wk = zz.v := ⟨⟨wk, bT k11.b hbk⟩, rfl⟩
            clear hnk hbk
            refine ⟨⟨_, rfl⟩, ?_⟩
            try simp only [Act.put, List.setIfInBounds_toArray, List.set_cons_zero, List.set_cons_succ]
            refine wpAnyG_one (i := 3) (by kernel_rfl) (by decide) (wpOp_plain rfl rfl ?_)
            go_simp
            go_at_call 34
            refine (swapP_any D p q yk c d ck f' _ HD.out HNR5.out (HIz5.out k12) HNK12.out).mono ?_
            rintro e wg ⟨⟨a, b, hfs, rfl⟩ | ⟨hno, rfl⟩, hbg⟩
            · have HFS := Lib.hid hfs; clear hfs
              have PB13 := Lib.hid (PB12.out.bel hbg)
              obtain ⟨k13, rfl⟩ : ∃ zz : Ext z5.v, wg = zz.v := ⟨⟨wg, bT k12.b hbg⟩, rfl⟩
              clear hbg
              refine ⟨⟨_, rfl⟩, ?_⟩
              try simp only [Act.put, List.setIfInBounds_toArray, List.set_cons_zero, List.set_cons_succ]
              refine wpAnyG_take (i := 4) (v := ?_) (by kernel_rfl) rfl (by kernel_rfl) (by kernel_rfl) (by kernel_rfl) (fun _ _ _ h => h) (Or.inl ⟨by rfl, ?_⟩) ⟨_, rfl⟩ ?_
              rotate_left
              · rintro wS ⟨yS, rfl⟩
                go_simp
                try (with_reducible rfl)
              try simp only [Act.put, List.setIfInBounds_toArray, List.set_cons_zero, List.set_cons_succ]
              refine wpAnyG_take (i := 5) (v := ?_) (by kernel_rfl) rfl (by kernel_rfl) (by kernel_rfl) (by kernel_rfl) (fun _ _ _ h => h) (Or.inl ⟨by rfl, ?_⟩) ⟨_, rfl⟩ ?_
              rotate_left
              · rintro wS ⟨yS, rfl⟩
                go_simp
                try (with_reducible rfl)
              try simp only [Act.put, List.setIfInBounds_toArray, List.set_cons_zero, List.set_cons_succ]
              refine wpAnyG_take (i := 6) (v := ?_) (by kernel_rfl) rfl (by kernel_rfl) (by kernel_rfl) (by kernel_rfl) (fun _ _ _ h => h) (Or.inl ⟨by rfl, ?_⟩) ⟨_, rfl⟩ ?_
              rotate_left
              · rintro wS ⟨yS, rfl⟩
                go_simp
                try (with_reducible rfl)
              try simp only [Act.put, List.setIfInBounds_toArray, List.set_cons_zero, List.set_cons_succ]
              obtain ⟨k14, hS14, pS14⟩ := store_pair k13 PB13.out HPB.out (a : Int) (b : Int)
              have p0 := PB13.out.c0; have p1 := PB13.out.c1; have pf := PB13.out.fz
              have PB14 := Lib.hid pS14; clear pS14
              refine wpAnyG_one (i := 8) (by kernel_rfl) (by decide) (wpOp_plain rfl rfl ?_)
              go_simp
              refine ⟨⟨_, rfl⟩, ?_⟩
              try simp only [Act.put, List.setIfInBounds_toArray, List.set_cons_zero, List.set_cons_succ]
              refine wpAnyG_done (by kernel_rfl) (by kernel_rfl) (wpOp_plain rfl rfl ?_)
              go_simp
              go_wp2_with fail
              go_meet
              case rel => exact ⟨pb, rfl, k14.b, .inl ⟨a, b, HFS.out, rfl, PB14.out⟩⟩
            · have HNO := Lib.hid hno; clear hno
              have PB13 := Lib.hid (PB12.out.bel hbg)
              obtain ⟨k13, rfl⟩ : ∃ zz : Ext z5.v, wg = zz.v := ⟨⟨wg, bT k12.b hbg⟩, rfl⟩
              clear hbg
              refine ⟨⟨_, rfl⟩, ?_⟩
              try simp only [Act.put, List.setIfInBounds_toArray, List.set_cons_zero, List.set_cons_succ]
              refine wpAnyG_take (i := 4) (v := ?_) (by kernel_rfl) rfl (by kernel_rfl) (by kernel_rfl) (by kernel_rfl) (fun _ _ _ h => h) (Or.inl ⟨by rfl, ?_⟩) ⟨_, rfl⟩ ?_
              rotate_left
              · rintro wS ⟨yS, rfl⟩
                go_simp
                try (with_reducible rfl)
              try simp only [Act.put, List.setIfInBounds_toArray, List.set_cons_zero, List.set_cons_succ]
              refine wpAnyG_take (i := 5) (v := ?_) (by kernel_rfl) rfl (by kernel_rfl) (by kernel_rfl) (by kernel_rfl) (fun _ _ _ h => h) (Or.inl ⟨by rfl, ?_⟩) ⟨_, rfl⟩ ?_
              rotate_left
              · rintro wS ⟨yS, rfl⟩
                go_simp
                try (with_reducible rfl)
              try simp only [Act.put, List.setIfInBounds_toArray, List.set_cons_zero, List.set_cons_succ]
              refine wpAnyG_take (i := 6) (v := ?_) (by kernel_rfl) rfl (by kernel_rfl) (by kernel_rfl) (by kernel_rfl) (fun _ _ _ h => h) (Or.inl ⟨by rfl, ?_⟩) ⟨_, rfl⟩ ?_
              rotate_left
              · rintro wS ⟨yS, rfl⟩
                go_simp
                try (with_reducible rfl)
              try simp only [Act.put, List.setIfInBounds_toArray, List.set_cons_zero, List.set_cons_succ]
              obtain ⟨k15, hS15, pS15⟩ := store_pair k13 PB13.out HPB.out 0 0
              have p0 := PB13.out.c0; have p1 := PB13.out.c1; have pf := PB13.out.fz
              have PB15 := Lib.hid pS15; clear pS15
              refine wpAnyG_one (i := 8) (by kernel_rfl) (by decide) (wpOp_plain rfl rfl ?_)
              go_simp
              refine ⟨⟨_, rfl⟩, ?_⟩
              try simp only [Act.put, List.setIfInBounds_toArray, List.set_cons_zero, List.set_cons_succ]
              refine wpAnyG_done (by kernel_rfl) (by kernel_rfl) (wpOp_plain rfl rfl ?_)
              go_simp
              go_wp2_with fail
              go_meet
              case rel => exact ⟨pb, rfl, k15.b, .inr ⟨HNO.out, rfl⟩⟩


        case rest =>
          obtain ⟨pb, rfl, hbc, ⟨a, b, hfs, rfl, hpa⟩ | ⟨hno, rfl⟩⟩ := hcut
          · obtain ⟨z6, rfl⟩ : ∃ z : Ext w1, wc = z.v := ⟨⟨wc, bT z5.b hbc⟩, rfl⟩
            have HN6 : Hid (∀ y : Ext z6.v, NumIn y.v y.v.heap.size D.m f' y') := fun y => HN5.out ⟨y.v, bT hbc y.b⟩
            have pa0 : ∀ y : Ext z6.v, y.v.cell? ⟨pb, 0, none⟩ = some (.int .i64 (a : Int)) := fun y => (hpa.bel y.b).c0
            have pa1 : ∀ y : Ext z6.v, y.v.cell? ⟨pb, 1, none⟩ = some (.int .i64 (b : Int)) := fun y => (hpa.bel y.b).c1
            have hab := hfs.ab; have hbm := hfs.bm
            have hgood := hfs.good
            simp only [swB, Bool.and_eq_true, decide_eq_true_eq] at hgood
            have HEN := Lib.hid hgood.1
            have HENR := Lib.hid ((isNw_iff HD.out).1 hgood.1).2
            have HEB := Lib.hid (cost_bd HD.out HENR.out (Nat.le_refl _))
            have HCE := Lib.hid (fun (V : World) (Y : Option Addr) (Z : Nat) hV hY => costR_any D p q Y c d Z (exch f' a b) V HD.out (HENR.out.inH HD.out) hV hY)
            have hlt := hgood.2
            obtain ⟨ce, hce⟩ : ∃ x, costF D (exch f' a b) D.m = x := ⟨_, rfl⟩
            rw [hce, HCST.out] at hlt
            rw [hce] at HCE HEB
            have HCEE := Lib.hid hce
            have jlt : decide (cst ≤ ce) = false := by simpa using hlt
            have jab : decide ((b : Int) ≤ (a : Int)) = false := by simp; omega
            have HSA := Lib.hid (show within (a : Int) 0 ((D.m : Int) - 1) = true from within_tt (by omega) (by omega))
            have HSB := Lib.hid (show within (b : Int) 0 ((D.m : Int) - 1) = true from within_tt (by omega) (by omega))
            clear hgood hfs hpa hbc hce hge
            have HIz6 : Hid (∀ y : Ext z6.v, RoIn y.v y.v.heap.size D p q) := fun y => HI_0.out (y.up z6.b)
            have F0z6 : ∀ y : Ext z6.v, y.v.cell? ⟨w.heap.size, 0, none⟩ = some (.slice p D.n c) := fun y => F0 (y.up z6.b)
            have F1z6 : ∀ y : Ext z6.v, y.v.cell? ⟨w.heap.size, 1, none⟩ = some (.slice q D.m d) := fun y => F1 (y.up z6.b)
            clear F0z5 F1z5
            obtain ⟨z7, hz7⟩ := rebase z6.v
            rw [hz7]
            clear hz7
            go_wp2_with fail
            refine (quiet_x (isStrR_is HSA.out hm _)).mono ?_
            rintro e w' ⟨rfl, y7, rfl⟩
            go_wp2_with fail
            refine (quiet_x (isStrR_is HSB.out hm _)).mono ?_
            rintro e w' ⟨rfl, y8, rfl⟩
            go_wp2_with fail
            refine (exchR_any D.m y' c2 a b f' _ (by omega) (by omega) hbm hab (HN6.out _)).mono ?_
            rintro e wx ⟨yx, cx, rfl, hbx, hnx⟩
            have hbx2 : Below z6.v.heap.size z6.v wx := bT y8.b hbx
            have HBX := Lib.hid hbx2
            have HNX : Hid (∀ y : Ext wx, NumIn y.v y.v.heap.size D.m (exch f' a b) yx) := fun y => hnx.bel y.b
            have HI9 : Hid (∀ y : Ext wx, RoIn y.v y.v.heap.size D p q) := fun y => HIz6.out (y.up hbx2)
            have HN9 : Hid (∀ y : Ext wx, NumIn y.v y.v.heap.size D.m f' y') := fun y => HN6.out (y.up hbx2)
            have F09 : ∀ y : Ext wx, y.v.cell? ⟨w.heap.size, 0, none⟩ = some (.slice p D.n c) := fun y => F0z6 (y.up hbx2)
            have F19 : ∀ y : Ext wx, y.v.cell? ⟨w.heap.size, 1, none⟩ = some (.slice q D.m d) := fun y => F1z6 (y.up hbx2)
            clear hbx hbx2 hnx F0z6 F1z6 pa0 pa1
            obtain ⟨z9, hz9⟩ := rebase wx
            rw [hz9]
            clear hz9
            go_wp2
            refine quiet_e (by kernel_rfl) (by kernel_rfl) ?_
            repeat (first | go_big_quiet_step ((first | (go_at_call 23; exact quiet_x (isNewR_is HEN.out _ HD.out (HI9.out _) (HNX.out _))) | (go_at_call 24; exact quiet_x (HCE.out _ _ _ (HI9.out _) (HNX.out _))) | (go_at_call 24; exact quiet_x (HCR.out _ (HI9.out _) (HN9.out _))))) | quiet_step ((first | (go_at_call 23; exact quiet_x (isNewR_is HEN.out _ HD.out (HI9.out _) (HNX.out _))) | (go_at_call 24; exact quiet_x (HCE.out _ _ _ (HI9.out _) (HNX.out _))) | (go_at_call 24; exact quiet_x (HCR.out _ (HI9.out _) (HN9.out _))))))
            refine wpQuiet_nil ?_
            intro w6 hw6
            obtain ⟨s3, rfl⟩ := hw6
            go_wp2
            go_roundw
            case rel => exact ⟨exch f' a b, yx, cx, rfl, HENR.out, HNX.out s3, (s3.up HBX.out).up z6.b, rfl⟩
            case measure =>
              have e1 := listOf_cost (n := D.m) (c := cx) (HNX.out s3)
              have e2 := listOf_cost (n := D.m) (c := c2) HNUM.out
              rw [HCEE.out] at e1; rw [HCST.out] at e2
              have h1 := HEB.out; have h2 := HBD.out
              show (costF D (listOf (.slice yx D.m cx) s3.v) D.m).toNat < (costF D (listOf (.slice y' D.m c2) z.v) D.m).toNat
              rw [e1, e2]; omega
          · obtain ⟨z6, rfl⟩ : ∃ z : Ext w1, wc = z.v := ⟨⟨wc, bT z5.b hbc⟩, rfl⟩
            clear hbc
            go_wp2_with fail
            refine (quiet_x (works_ex _)).mono ?_
            rintro e w' ⟨rfl, y9, rfl⟩
            go_wp2
            go_ret
            exact ⟨rfl, HW_0.out y9⟩
theorem swaps_law (D : Ro) (p q : Option Addr) (c d : Nat) (lp : Option Addr) (lc l : Nat) (f : Nat → Int) (w : World) (hn : D.n ≤ maxLen) (hm : D.m ≤ maxLen) (hl : l ≤ maxLen) (hi : RoIn w w.heap.size D p q) (hf : NumIn w w.heap.size l f lp) :
    Calls Try.prog 7 #[.agg #[.slice p D.n c, .slice q D.m d], .slice lp l lc] w fun e w' => e = .returned (.bool true) ∧ Below w.heap.size w w' := by
  cases hr : rdy D with
  | false => exact swaps_o1 D p q c d lp lc l f w hn hm hl hr hi hf
  | true =>
    by_cases h4 : 40 < l
    · exact swaps_o2 D p q c d lp lc l f w hn hm hl hr h4 hi hf
    · cases hx : exB D with
      | false => exact swaps_o3 D p q c d lp lc l f w hr (by omega) hx hi hf
      | true => exact swaps_in D p q c d lp lc l f w hr (by omega) hx hi hf
end Go.Proofs.Ytegkgfiaegpihaa
