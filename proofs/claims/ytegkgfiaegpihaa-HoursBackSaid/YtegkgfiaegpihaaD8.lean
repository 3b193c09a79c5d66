/- HoursBack returns true in every walk. -/
import Derived.Test.YtegkgfiaegpihaaF13

import Derived.Test.YtegkgfiaegpihaaC8

import Derived.Test.YtegkgfiaegpihaaM7

set_option linter.unusedSimpArgs false

set_option linter.unusedVariables false

namespace Go.Proofs.Ytegkgfiaegpihaa

open Go.RowKit

theorem isStr3_is {D : Ro} {p q : Option Addr} {c d : Nat} {k : Int} {b : Bool} (h : within k 0 ((D.m : Int) - 1) = b) (hn : D.m ≤ maxLen) (w : World) :
    Calls Try.prog 29 #[.agg #[.slice p D.n c, .slice q D.m d], .int .i64 k] w fun e w' => e = .returned (.bool b) ∧ Below w.heap.size w w' := by
  subst h; exact isStreetR_any D p q c d k w hn
/-- the roster with the hours turned around -/
def rvD (D : Ro) : Ro := { D with rm := fun h => D.rm (D.n - 1 - h), hs := fun k => if D.hs k = -1 then -1 else (D.n : Int) - 1 - D.hs k, fr := fun k => (D.n : Int) - 1 - D.to k, «to» := fun k => (D.n : Int) - 1 - D.fr k }
theorem rv_rv (D : Ro) : Rv D (rvD D) := ⟨rfl, rfl, fun _ _ => rfl, fun _ _ => rfl, fun _ _ => rfl, fun _ _ => rfl, fun _ _ => rfl⟩
/-- the room while that of the first i hours is laid anew -/
def mixR (D : Ro) (i : Nat) : Nat → Int := fun k => if k < i then D.rm (D.n - 1 - k) else D.rm k
structure RmS (D : Ro) (w1 : World) (ob g g2 : Nat) (c' d' i : Nat) (wr : World) : Prop where
  b : Below w1.heap.size w1 wr
  c0 : wr.cell? ⟨ob, 0, none⟩ = some (.slice (some ⟨g, 0, none⟩) D.n c')
  c1 : wr.cell? ⟨ob, 1, none⟩ = some (.slice (some ⟨g2, 0, none⟩) D.m d')
  rm : ∀ k, k < D.n → wr.cell? ⟨g, k, none⟩ = some (.int .i64 (mixR D i k))
  st : StAt wr g2 0 D
  fg : ∀ i, wr.frozen? ⟨g, i, none⟩ = false
  fz : ∀ i, wr.frozen? ⟨g2, i, none⟩ = false
  l : (w1.heap.size ≤ g ∧ g < wr.heap.size ∧ g ≠ ob) ∧ w1.heap.size ≤ g2 ∧ g2 < wr.heap.size ∧ ob < wr.heap.size ∧ g2 ≠ ob ∧ g ≠ g2
theorem RmS.bel {D : Ro} {w1 : World} {ob g g2 c' d' i : Nat} {wr w' : World} (h : RmS D w1 ob g g2 c' d' i wr) (hb : Below wr.heap.size wr w') : RmS D w1 ob g g2 c' d' i w' :=
  ⟨bT h.b hb, (hb.cell (p := ⟨ob, 0, none⟩) h.l.2.2.2.1).trans h.c0, (hb.cell (p := ⟨ob, 1, none⟩) h.l.2.2.2.1).trans h.c1, fun k hk => (hb.cell (p := ⟨g, k, none⟩) h.l.1.2.1).trans (h.rm k hk), h.st.below hb h.l.2.2.1, fun i => (hb.frozen (p := ⟨g, i, none⟩) h.l.1.2.1).trans (h.fg i), fun i => (hb.frozen (p := ⟨g2, i, none⟩) h.l.2.2.1).trans (h.fz i),
    ⟨⟨h.l.1.1, Nat.lt_of_lt_of_le h.l.1.2.1 hb.size, h.l.1.2.2⟩, h.l.2.1, Nat.lt_of_lt_of_le h.l.2.2.1 hb.size, Nat.lt_of_lt_of_le h.l.2.2.2.1 hb.size, h.l.2.2.2.2⟩⟩
theorem RmS.step {D : Ro} {w1 : World} {ob g g2 c' d' i : Nat} {wr : World} (h : RmS D w1 ob g g2 c' d' i wr) (hi : i < D.n) : RmS D w1 ob g g2 c' d' (i + 1) (wr.setCell ⟨g, i, none⟩ (.int .i64 (D.rm (D.n - 1 - i)))) := by
  obtain ⟨⟨l1, l2, l3⟩, l4, l5, l6, l7, l8⟩ := h.l
  have hb : ∀ b, b ≠ g → (wr.setCell ⟨g, i, none⟩ (.int .i64 (D.rm (D.n - 1 - i)))).heap[b]? = wr.heap[b]? := fun b hb => setCell_block hb
  have hc : ∀ b j, b ≠ g → (wr.setCell ⟨g, i, none⟩ (.int .i64 (D.rm (D.n - 1 - i)))).cell? ⟨b, j, none⟩ = wr.cell? ⟨b, j, none⟩ := fun b j hne => World.cell?_of_block (a := ⟨b, j, none⟩) (hb b hne)
  refine ⟨bS h.b l1 _, (hc _ _ (Ne.symm l3)).trans h.c0, (hc _ _ (Ne.symm l3)).trans h.c1, fun k hk => ?_, ⟨fun k hk => (hc _ _ (Ne.symm l8)).trans (h.st.c0 k hk), fun k hk => (hc _ _ (Ne.symm l8)).trans (h.st.c1 k hk), fun k hk => (hc _ _ (Ne.symm l8)).trans (h.st.c2 k hk), fun k hk => (hc _ _ (Ne.symm l8)).trans (h.st.c3 k hk)⟩, fun j => by have := h.fg j; simpa using this, fun j => by have := h.fz j; simpa using this, ⟨⟨l1, by simpa using l2, l3⟩, l4, by simpa using l5, by simpa using l6, l7, l8⟩⟩
  have hold := h.rm k hk
  have hni := h.rm i hi
  have hfg := h.fg i
  by_cases e : k = i
  · subst e
    have : (wr.setCell ⟨g, k, none⟩ (.int .i64 (D.rm (D.n - 1 - k)))).cell? ⟨g, k, none⟩ = some (.int .i64 (D.rm (D.n - 1 - k))) := by go_simp
    rw [this]; simp [mixR]
  · rw [World.cell?_setCell_other _ _ _ _ (by simp <;> omega), hold]
    unfold mixR
    by_cases e2 : k < i
    · rw [if_pos e2, if_pos (by omega)]
    · rw [if_neg e2, if_neg (by omega)]
theorem RmS.toR {D : Ro} {w1 : World} {ob g g2 c' d' : Nat} {wr : World} (h : RmS D w1 ob g g2 c' d' D.n wr) : RotS D (rvD D) (rvD D).rm w1 ob g2 (some ⟨g, 0, none⟩) c' d' 0 wr := by
  obtain ⟨⟨l1, l2, l3⟩, l4, l5, l6, l7, l8⟩ := h.l
  refine ⟨h.b, h.c0, h.c1, fun _ => ⟨g, 0, rfl, l2, fun k hk => ?_⟩, ⟨fun k hk => (h.st.c0 k hk).trans (by simp [mixD]), fun k hk => (h.st.c1 k hk).trans (by simp [mixD]), fun k hk => (h.st.c2 k hk).trans (by simp [mixD]), fun k hk => (h.st.c3 k hk).trans (by simp [mixD])⟩, h.fz, ⟨l4, l5, l6, l7, fun g' o _ e => by cases e; exact l8⟩⟩
  rw [Nat.zero_add, h.rm k hk]
  unfold mixR
  rw [if_pos hk]; rfl
/-- a street's box, turned around -/
theorem st_turn {wo : World} {b : Nat} {h f t co nl : Int} (y : Ext wo) (hb : wo.heap.size ≤ b) (h0 : y.v.cell? ⟨b, 0, none⟩ = some (.int .i64 h)) (h1 : y.v.cell? ⟨b, 1, none⟩ = some (.int .i64 f)) (h2 : y.v.cell? ⟨b, 2, none⟩ = some (.int .i64 t)) (h3 : y.v.cell? ⟨b, 3, none⟩ = some (.int .i64 co)) (hf : ∀ i, y.v.frozen? ⟨b, i, none⟩ = false) :
    ∃ z : Ext wo, (y.v.setCell ⟨b, 1, none⟩ (.int .i64 (nl - t))).setCell ⟨b, 2, none⟩ (.int .i64 (nl - f)) = z.v ∧ z.v.cell? ⟨b, 0, none⟩ = some (.int .i64 h) ∧ z.v.cell? ⟨b, 1, none⟩ = some (.int .i64 (nl - t)) ∧ z.v.cell? ⟨b, 2, none⟩ = some (.int .i64 (nl - f)) ∧ z.v.cell? ⟨b, 3, none⟩ = some (.int .i64 co) ∧ (∀ i, z.v.frozen? ⟨b, i, none⟩ = false) ∧ z.v.heap.size = y.v.heap.size :=
  ⟨⟨_, bS (bS y.b hb _) hb _⟩, rfl, by go_simp, by go_simp, by go_simp, by go_simp, fun i => by go_simp, by simp⟩
theorem st_has {wo : World} {b : Nat} {h f t co v : Int} (y : Ext wo) (hb : wo.heap.size ≤ b) (h0 : y.v.cell? ⟨b, 0, none⟩ = some (.int .i64 h)) (h1 : y.v.cell? ⟨b, 1, none⟩ = some (.int .i64 f)) (h2 : y.v.cell? ⟨b, 2, none⟩ = some (.int .i64 t)) (h3 : y.v.cell? ⟨b, 3, none⟩ = some (.int .i64 co)) (hf : ∀ i, y.v.frozen? ⟨b, i, none⟩ = false) :
    ∃ z : Ext wo, y.v.setCell ⟨b, 0, none⟩ (.int .i64 v) = z.v ∧ z.v.cell? ⟨b, 0, none⟩ = some (.int .i64 v) ∧ z.v.cell? ⟨b, 1, none⟩ = some (.int .i64 f) ∧ z.v.cell? ⟨b, 2, none⟩ = some (.int .i64 t) ∧ z.v.cell? ⟨b, 3, none⟩ = some (.int .i64 co) ∧ (∀ i, z.v.frozen? ⟨b, i, none⟩ = false) :=
  ⟨⟨_, bS y.b hb _⟩, rfl, by go_simp, by go_simp, by go_simp, by go_simp, fun i => by go_simp⟩
theorem lkE_ex {D : Ro} (hD : OkP D) : lkE D = if exB D then 3 else 0 := by
  unfold lkE
  cases hx : exB D with
  | true => rw [(ex_iff_lack hD).1 ((exB_iff hD).1 hx)]; rfl
  | false =>
    cases hl : lkT D D.n with
    | none => rw [(exB_iff hD).2 ((ex_iff_lack hD).2 hl)] at hx; cases hx
    | some x => rfl
theorem back_give {D E : Ro} (hD : OkP D) (h : Rv D E) {x : Nat} (hx : x < D.n) : gvR E (D.n - 1 - x) = gvR D x ∧ gvE E (D.n - 1 - x) = gvE D x := by
  have hE := h.ok hD
  have he := (h.both hD).eb hD hE
  have hr : E.rm (D.n - 1 - x) = D.rm x := by rw [h.rm _ (by omega), show D.n - 1 - (D.n - 1 - x) = x by omega]
  unfold gvR gvE exE gvV
  rw [hr, ← he]
  refine ⟨?_, rfl⟩
  by_cases h6 : D.rm x = 6
  · rw [if_pos h6, if_pos h6]
  · rw [if_neg h6, if_neg h6]
    cases hb : exB D with
    | false => rfl
    | true =>
      have hex := (exB_iff hD).1 hb
      have hrm := hD.rm x hx
      have hD1 := rmD_ok hD (h := x) (v := 1) (by omega)
      have hr1 := h.room hx 1
      have hex1 : Ex (rmD D x 1) := hex.elim fun f hf => ⟨f, (Wid.room D (h := x) (v := 1) (by omega)).nr hf⟩
      have l0 := ((h.both hD).ls hD hE hex).1
      have l1 := ((hr1.both hD1).ls hD1 (hr1.ok hD1) hex1).1
      simp only [if_true]
      rw [← l0, ← l1]
theorem back_all {D : Ro} (hD : OkP D) {s x : Nat} (hs : s < D.m) (hx : x < D.n) : OkP (rvD D) ∧ exB (rvD D) = exB D ∧ exE (rvD D) = exE D ∧ tL (rvD D) = tL D ∧ tM (rvD D) = tM D ∧ tN (rvD D) = tN D ∧ bnV (rvD D) s = bnV D s ∧ gvR (rvD D) (D.n - 1 - x) = gvR D x ∧ gvE (rvD D) (D.n - 1 - x) = gvE D x ∧ lkE (rvD D) = lkE D := by
  have h := rv_rv D
  have hE := h.ok hD
  obtain ⟨e, a, b, c⟩ := (h.both hD).three hD hE
  refine ⟨hE, e.symm, by unfold exE; rw [← e], a.symm, b.symm, c.symm, ?_, (back_give hD h hx).1, (back_give hD h hx).2, by rw [lkE_ex hD, lkE_ex hE, e]⟩
  unfold bnV
  rw [← e]
  cases hb : exB D with
  | false => rfl
  | true => simp only [if_true]; exact (h.bd hD ((exB_iff hD).1 hb) hs).symm
set_option maxRecDepth 100000 in
set_option maxHeartbeats 4000000 in
theorem back_o1 (D : Ro) (p q : Option Addr) (c d : Nat) (st hr_ : Int) (w : World) (hn : D.n ≤ maxLen) (hm : D.m ≤ maxLen) (hr : rdy D = false) (hi : RoIn w w.heap.size D p q) :
    Calls Try.prog 8 #[.agg #[.slice p D.n c, .slice q D.m d], .int .i64 st, .int .i64 hr_] w fun e w' => e = .returned (.bool true) ∧ Below w.heap.size w w' := by
  obtain ⟨w1, x1, hw1, hb1, hz1, F0i, F1i, _⟩ := box_ro w p q D.n D.m c d
  have HW_0 : Hid (∀ z : Ext w1, Below w.heap.size w z.v) := fun z => bT hb1 z.b
  have HI_0 : Hid (∀ z : Ext w1, RoIn z.v z.v.heap.size D p q) := fun z => (hi.bel hb1).bel z.b
  clear hb1 hz1 hi
  have F0_0 : ∀ z : Ext w1, z.v.cell? ⟨w.heap.size, 0, none⟩ = some (.slice p D.n c) := fun z => F0i z
  have F1_0 : ∀ z : Ext w1, z.v.cell? ⟨w.heap.size, 1, none⟩ = some (.slice q D.m d) := fun z => F1i z
  have HR := Lib.hid hr; clear hr
  go_enter Try.func8, Try.ntmps8
  go_wp2_with fail
  refine (quiet_x (ready_is HR.out _ hn hm (HI_0.out _))).mono ?_
  rintro e w' ⟨rfl, y, rfl⟩
  go_wp2_with fail
  refine (quiet_x (works_ex _)).mono ?_
  rintro e w' ⟨rfl, y2, rfl⟩
  go_wp2
  go_ret
  exact ⟨rfl, HW_0.out y2⟩
set_option maxRecDepth 100000 in
set_option maxHeartbeats 4000000 in
theorem back_o2 (D : Ro) (p q : Option Addr) (c d : Nat) (st hr_ : Int) (w : World) (hn : D.n ≤ maxLen) (hm : D.m ≤ maxLen) (hr : rdy D = true) (hs : within st 0 ((D.m : Int) - 1) = false) (hi : RoIn w w.heap.size D p q) :
    Calls Try.prog 8 #[.agg #[.slice p D.n c, .slice q D.m d], .int .i64 st, .int .i64 hr_] w fun e w' => e = .returned (.bool true) ∧ Below w.heap.size w w' := by
  obtain ⟨w1, x1, hw1, hb1, hz1, F0i, F1i, _⟩ := box_ro w p q D.n D.m c d
  have HW_0 : Hid (∀ z : Ext w1, Below w.heap.size w z.v) := fun z => bT hb1 z.b
  have HI_0 : Hid (∀ z : Ext w1, RoIn z.v z.v.heap.size D p q) := fun z => (hi.bel hb1).bel z.b
  clear hb1 hz1 hi
  have F0_0 : ∀ z : Ext w1, z.v.cell? ⟨w.heap.size, 0, none⟩ = some (.slice p D.n c) := fun z => F0i z
  have F1_0 : ∀ z : Ext w1, z.v.cell? ⟨w.heap.size, 1, none⟩ = some (.slice q D.m d) := fun z => F1i z
  have HR := Lib.hid hr; clear hr
  have HS := Lib.hid hs; clear hs
  go_enter Try.func8, Try.ntmps8
  go_wp2_with fail
  refine (quiet_x (ready_is HR.out _ hn hm (HI_0.out _))).mono ?_
  rintro e w' ⟨rfl, y, rfl⟩
  go_wp2_with fail
  refine (quiet_x (isStr3_is HS.out hm _)).mono ?_
  rintro e w' ⟨rfl, y1, rfl⟩
  go_wp2_with fail
  refine (quiet_x (works_ex _)).mono ?_
  rintro e w' ⟨rfl, y2, rfl⟩
  go_wp2
  go_ret
  exact ⟨rfl, HW_0.out y2⟩
set_option maxRecDepth 100000 in
set_option maxHeartbeats 4000000 in
theorem back_o3 (D : Ro) (p q : Option Addr) (c d : Nat) (st hr_ : Int) (w : World) (hn : D.n ≤ maxLen) (hm : D.m ≤ maxLen) (hr : rdy D = true) (hs : within st 0 ((D.m : Int) - 1) = true) (hh : within hr_ 0 ((D.n : Int) - 1) = false) (hi : RoIn w w.heap.size D p q) :
    Calls Try.prog 8 #[.agg #[.slice p D.n c, .slice q D.m d], .int .i64 st, .int .i64 hr_] w fun e w' => e = .returned (.bool true) ∧ Below w.heap.size w w' := by
  obtain ⟨w1, x1, hw1, hb1, hz1, F0i, F1i, _⟩ := box_ro w p q D.n D.m c d
  have HW_0 : Hid (∀ z : Ext w1, Below w.heap.size w z.v) := fun z => bT hb1 z.b
  have HI_0 : Hid (∀ z : Ext w1, RoIn z.v z.v.heap.size D p q) := fun z => (hi.bel hb1).bel z.b
  clear hb1 hz1 hi
  have F0_0 : ∀ z : Ext w1, z.v.cell? ⟨w.heap.size, 0, none⟩ = some (.slice p D.n c) := fun z => F0i z
  have F1_0 : ∀ z : Ext w1, z.v.cell? ⟨w.heap.size, 1, none⟩ = some (.slice q D.m d) := fun z => F1i z
  have HR := Lib.hid hr; clear hr
  have HS := Lib.hid hs; clear hs
  have HH := Lib.hid hh; clear hh
  go_enter Try.func8, Try.ntmps8
  go_wp2_with fail
  refine (quiet_x (ready_is HR.out _ hn hm (HI_0.out _))).mono ?_
  rintro e w' ⟨rfl, y, rfl⟩
  go_wp2_with fail
  refine (quiet_x (isStr3_is HS.out hm _)).mono ?_
  rintro e w' ⟨rfl, y1, rfl⟩
  go_wp2_with fail
  refine (quiet_x (isHourR_is HH.out hn _)).mono ?_
  rintro e w' ⟨rfl, y3, rfl⟩
  go_wp2_with fail
  refine (quiet_x (works_ex _)).mono ?_
  rintro e w' ⟨rfl, y2, rfl⟩
  go_wp2
  go_ret
  exact ⟨rfl, HW_0.out y2⟩
set_option maxRecDepth 100000 in
set_option maxHeartbeats 16000000 in
theorem back_in (D : Ro) (p q : Option Addr) (c d : Nat) (st hr_ : Nat) (w : World) (hr : rdy D = true) (hs : st < D.m) (hh : hr_ < D.n) (hcap : D.n ≤ c) (hi : RoIn w w.heap.size D p q) :
    Calls Try.prog 8 #[.agg #[.slice p D.n c, .slice q D.m d], .int .i64 (st : Int), .int .i64 (hr_ : Int)] w fun e w' => e = .returned (.bool true) ∧ Below w.heap.size w w' := by
  obtain ⟨w1, x1, hw1, hb1, hz1, F0i, F1i, _⟩ := box_ro w p q D.n D.m c d
  have HW_0 : Hid (∀ z : Ext w1, Below w.heap.size w z.v) := fun z => bT hb1 z.b
  have HI_0 : Hid (∀ z : Ext w1, RoIn z.v z.v.heap.size D p q) := fun z => (hi.bel hb1).bel z.b
  clear hb1 hz1 hi
  have F0_0 : ∀ z : Ext w1, z.v.cell? ⟨w.heap.size, 0, none⟩ = some (.slice p D.n c) := fun z => F0i z
  have F1_0 : ∀ z : Ext w1, z.v.cell? ⟨w.heap.size, 1, none⟩ = some (.slice q D.m d) := fun z => F1i z
  obtain ⟨hn8, hm6, hD, _⟩ := rdy_parts hr
  have HR := Lib.hid hr; have HD := Lib.hid hD
  have hn : D.n ≤ maxLen := by unfold maxLen; omega
  have hm : D.m ≤ maxLen := by unfold maxLen; omega
  have HS := Lib.hid (show within (st : Int) 0 ((D.m : Int) - 1) = true from within_tt (by omega) (by omega))
  have HH := Lib.hid (show within (hr_ : Int) 0 ((D.n : Int) - 1) = true from within_tt (by omega) (by omega))
  have HCP := Lib.hid (fun V hV => copyC_any D p q c d V (by omega) (by omega) hV)
  obtain ⟨nl, hnl⟩ : ∃ x : Int, (D.n : Int) - 1 = x := ⟨_, rfl⟩
  have ewn : IntKind.i64.wrap ((D.n : Int) - 1) = nl := by rw [IntWalk.i64_in _ (by omega)]; exact hnl
  have HNL := Lib.hid hnl
  clear hr hD hnl
  go_enter Try.func8, Try.ntmps8
  go_wp2_with fail
  refine (quiet_x (ready_is HR.out _ hn hm (HI_0.out _))).mono ?_
  rintro e w' ⟨rfl, y, rfl⟩
  go_wp2_with fail
  refine (quiet_x (isStr3_is HS.out hm _)).mono ?_
  rintro e w' ⟨rfl, y1, rfl⟩
  go_wp2_with fail
  refine (quiet_x (isHourR_is HH.out hn _)).mono ?_
  rintro e w' ⟨rfl, y3, rfl⟩
  go_wp2_with fail
  refine (HCP.out _ (HI_0.out _)).mono ?_
  rintro e w5 ⟨p', c', q', d', rfl, hcp, hcc⟩
  obtain ⟨g2, eg2, gl1, gl2, gf⟩ := hcp.st (by omega)
  subst eg2
  obtain ⟨g, eg, gl3, gl4, gf'⟩ := hcp.rm (by omega)
  subst eg
  obtain ⟨wo, xo, hwo, hbo, hzo, O0, O1, Of⟩ := box_ro w5 (some ⟨g, 0, none⟩) (some ⟨g2, 0, none⟩) D.n D.m c' d'
  obtain ⟨ob, hob⟩ : ∃ ob, w5.heap.size = ob := ⟨_, rfl⟩
  rw [hob] at O0 O1 Of
  have hb5 : Below w1.heap.size w1 w5 := bT y3.b hcp.below
  have HS0 : Hid (RmS D w1 ob g g2 c' d' 0 xo.v) := by
    have hin := (hcp.here.bel hbo).bel xo.b
    have z1 := hb5.size; have z2 := (bT hbo xo.b).size; have z3 := y3.b.size; have z4 := xo.b.size
    refine ⟨bT (bT hb5 hbo) xo.b, O0 xo, O1 xo, fun k hk => ?_, ?_, fun i => ((bT hbo xo.b).frozen (p := ⟨g, i, none⟩) gl4).trans (gf' i), fun i => ((bT hbo xo.b).frozen (p := ⟨g2, i, none⟩) gl2).trans (gf i), ⟨⟨by omega, by omega, by omega⟩, by omega, by omega, by omega, by omega, hcp.ne (by omega) (by omega) g g2 0 0 rfl rfl⟩⟩
    · have := (hin.rm.cell hk).2
      rw [Nat.zero_add] at this
      rw [this]; simp [mixR]
    · obtain ⟨b0, o0, e0, l0, c0⟩ := hin.st (by omega)
      cases e0
      exact c0
  have HCC := Lib.hid hcc
  have F0x : xo.v.cell? ⟨w.heap.size, 0, none⟩ = some (.slice p D.n c) := F0_0 ⟨xo.v, bT (bT hb5 hbo) xo.b⟩
  have F1x : xo.v.cell? ⟨w.heap.size, 1, none⟩ = some (.slice q D.m d) := F1_0 ⟨xo.v, bT (bT hb5 hbo) xo.b⟩
  clear hcp hcc gl1 gl2 gl3 gl4 gf gf' hbo hb5 O0 O1 Of
  go_wp2
  try rw [hob]
  clear hwo hw1 hob hzo
  go_loopw [9] (fun v wr => ∃ k : Nat, v = .int .i64 (k : Int) ∧ k ≤ D.n ∧ RmS D w1 ob g g2 c' d' k wr) (fun v _ => D.n - (intOf v).toNat)
  case atStart => exact ⟨0, rfl, Nat.zero_le _, HS0.out⟩
  case round =>
    clear HS0
    obtain ⟨k, rfl, hk, hrs⟩ := hrel
    have HRS := Lib.hid hrs; clear hrs
    have FR0 : ∀ y : Ext wr, y.v.cell? ⟨w.heap.size, 0, none⟩ = some (.slice p D.n c) := fun y => F0_0 (y.up HRS.out.b)
    have FR1 : ∀ y : Ext wr, y.v.cell? ⟨w.heap.size, 1, none⟩ = some (.slice q D.m d) := fun y => F1_0 (y.up HRS.out.b)
    have G0 : ∀ y : Ext wr, y.v.cell? ⟨ob, 0, none⟩ = some (.slice (some ⟨g, 0, none⟩) D.n c') := fun y => (y.b.cell (p := ⟨ob, 0, none⟩) HRS.out.l.2.2.2.1).trans HRS.out.c0
    have G1 : ∀ y : Ext wr, y.v.cell? ⟨ob, 1, none⟩ = some (.slice (some ⟨g2, 0, none⟩) D.m d') := fun y => (y.b.cell (p := ⟨ob, 1, none⟩) HRS.out.l.2.2.2.1).trans HRS.out.c1
    by_cases hlt : k < D.n
    · obtain ⟨x, hx⟩ : ∃ x, D.n - 1 - k = x := ⟨_, rfl⟩
      have hxn : x < D.n := by omega
      obtain ⟨b2, o2, rfl, _, _⟩ := (HI_0.out ⟨wr, HRS.out.b⟩).rm (by omega)
      have C0 : ∀ y : Ext wr, y.v.cell? ⟨b2, o2 + x, none⟩ = some (.int .i64 (D.rm x)) := fun y => ((HI_0.out (y.up HRS.out.b)).rm.cell hxn).2
      have R0 : ∀ y : Ext wr, y.v.cell? ⟨g, k, none⟩ = some (.int .i64 (mixR D k k)) := fun y => (y.b.cell (p := ⟨g, k, none⟩) HRS.out.l.1.2.1).trans (HRS.out.rm k hlt)
      have Rf : ∀ y : Ext wr, y.v.frozen? ⟨g, k, none⟩ = false := fun y => (y.b.frozen (p := ⟨g, k, none⟩) HRS.out.l.1.2.1).trans (HRS.out.fg k)
      have hnl := HNL.out
      have jk : decide ((k : Int) ≤ nl) = true := by simp; omega
      have hkn : (k : Int) < (D.n : Int) := by omega
      have hxi : (x : Int) < (D.n : Int) := by omega
      have ew : IntKind.i64.wrap (nl - (k : Int)) = (x : Int) := by rw [IntWalk.i64_in _ (by omega)]; omega
      have HXX := Lib.hid hx
      clear hx hnl
      obtain ⟨z0, hz0⟩ := rebase wr
      rw [hz0]
      go_wp2
      refine wp_region_lastE 11 (by kernel_rfl) rfl (fun y0 => ?_)
      refine wpAnyG_take (i := 0) (v := ?_) (by kernel_rfl) rfl (by kernel_rfl) (by kernel_rfl) (by kernel_rfl) (fun _ _ _ h => h) (Or.inl ⟨by rfl, ?_⟩) ⟨_, rfl⟩ ?_
      rotate_left
      · rintro wS ⟨yS, rfl⟩
        go_simp
        try (with_reducible rfl)
      try simp only [Act.put, List.setIfInBounds_toArray, List.set_cons_zero, List.set_cons_succ]
      refine wpAnyG_take (i := 1) (v := ?_) (by kernel_rfl) rfl (by kernel_rfl) (by kernel_rfl) (by kernel_rfl) (fun _ _ _ h => h) (Or.inl ⟨by rfl, ?_⟩) ⟨_, rfl⟩ ?_
      rotate_left
      · rintro wS ⟨yS, rfl⟩
        go_simp
        try (with_reducible rfl)
      try simp only [Act.put, List.setIfInBounds_toArray, List.set_cons_zero, List.set_cons_succ]
      refine wpAnyG_take (i := 2) (v := ?_) (by kernel_rfl) rfl (by kernel_rfl) (by kernel_rfl) (by kernel_rfl) (fun _ _ _ h => h) (Or.inl ⟨by rfl, ?_⟩) ⟨_, rfl⟩ ?_
      rotate_left
      · rintro wS ⟨yS, rfl⟩
        go_simp
        try (with_reducible rfl)
      try simp only [Act.put, List.setIfInBounds_toArray, List.set_cons_zero, List.set_cons_succ]
      refine wpAnyG_take (i := 3) (v := ?_) (by kernel_rfl) rfl (by kernel_rfl) (by kernel_rfl) (by kernel_rfl) (fun _ _ _ h => h) (Or.inl ⟨by rfl, ?_⟩) ⟨_, rfl⟩ ?_
      rotate_left
      · rintro wS ⟨yS, rfl⟩
        go_simp
        try (with_reducible rfl)
      try simp only [Act.put, List.setIfInBounds_toArray, List.set_cons_zero, List.set_cons_succ]
      refine wpAnyG_take (i := 4) (v := ?_) (by kernel_rfl) rfl (by kernel_rfl) (by kernel_rfl) (by kernel_rfl) (fun _ _ _ h => h) (Or.inl ⟨by rfl, ?_⟩) ⟨_, rfl⟩ ?_
      rotate_left
      · rintro wS ⟨yS, rfl⟩
        go_simp
        try (with_reducible rfl)
      try simp only [Act.put, List.setIfInBounds_toArray, List.set_cons_zero, List.set_cons_succ]
      refine wpAnyG_take (i := 5) (v := ?_) (by kernel_rfl) rfl (by kernel_rfl) (by kernel_rfl) (by kernel_rfl) (fun _ _ _ h => h) (Or.inl ⟨by rfl, ?_⟩) ⟨_, rfl⟩ ?_
      rotate_left
      · rintro wS ⟨yS, rfl⟩
        go_simp
        try (with_reducible rfl)
      try simp only [Act.put, List.setIfInBounds_toArray, List.set_cons_zero, List.set_cons_succ]
      refine wpAnyG_take (i := 6) (v := ?_) (by kernel_rfl) rfl (by kernel_rfl) (by kernel_rfl) (by kernel_rfl) (fun _ _ _ h => h) (Or.inl ⟨by rfl, ?_⟩) ⟨_, rfl⟩ ?_
      rotate_left
      · rintro wS ⟨yS, rfl⟩
        go_simp
        try (with_reducible rfl)
      try simp only [Act.put, List.setIfInBounds_toArray, List.set_cons_zero, List.set_cons_succ]
      refine wpAnyG_take (i := 7) (v := ?_) (by kernel_rfl) rfl (by kernel_rfl) (by kernel_rfl) (by kernel_rfl) (fun _ _ _ h => h) (Or.inl ⟨by rfl, ?_⟩) ⟨_, rfl⟩ ?_
      rotate_left
      · rintro wS ⟨yS, rfl⟩
        go_simp
        try (with_reducible rfl)
      try simp only [Act.put, List.setIfInBounds_toArray, List.set_cons_zero, List.set_cons_succ]
      refine wpAnyG_take (i := 8) (v := ?_) (by kernel_rfl) rfl (by kernel_rfl) (by kernel_rfl) (by kernel_rfl) (fun _ _ _ h => h) (Or.inl ⟨by rfl, ?_⟩) ⟨_, rfl⟩ ?_
      rotate_left
      · rintro wS ⟨yS, rfl⟩
        go_simp
        try (with_reducible rfl)
      try simp only [Act.put, List.setIfInBounds_toArray, List.set_cons_zero, List.set_cons_succ]
      refine wpAnyG_take (i := 9) (v := ?_) (by kernel_rfl) rfl (by kernel_rfl) (by kernel_rfl) (by kernel_rfl) (fun _ _ _ h => h) (Or.inl ⟨by rfl, ?_⟩) ⟨_, rfl⟩ ?_
      rotate_left
      · rintro wS ⟨yS, rfl⟩
        go_simp
        try (with_reducible rfl)
      try simp only [Act.put, List.setIfInBounds_toArray, List.set_cons_zero, List.set_cons_succ]
      refine wpAnyG_take (i := 10) (v := ?_) (by kernel_rfl) rfl (by kernel_rfl) (by kernel_rfl) (by kernel_rfl) (fun _ _ _ h => h) (Or.inl ⟨by rfl, ?_⟩) ⟨_, rfl⟩ ?_
      rotate_left
      · rintro wS ⟨yS, rfl⟩
        go_simp
        try (with_reducible rfl)
      try simp only [Act.put, List.setIfInBounds_toArray, List.set_cons_zero, List.set_cons_succ]
      refine wpAnyG_done (by kernel_rfl) (by kernel_rfl) (wpOp_plain rfl rfl ?_)
      go_simp
      go_wp2
      go_roundw
      case rel => exact ⟨k + 1, by go_num, hlt, by have := (HRS.out.bel y0.b).step hlt; rw [HXX.out] at this; exact this⟩
      case measure => first | (simp [intOf]; done) | (simp [intOf]; omega)
    · have hke : k = D.n := by omega
      subst hke
      have hnl := HNL.out
      have jk : decide ((D.n : Int) ≤ nl) = false := by simp; omega
      have jk2 : ¬ (D.n : Int) ≤ nl := by omega
      have HS1 : Hid (RotS D (rvD D) (rvD D).rm w1 ob g2 (some ⟨g, 0, none⟩) c' d' 0 wr) := HRS.out.toR
      clear hnl hk hlt HRS FR0 FR1 G0 G1
      go_wp2
      go_loopw [10] (fun v wr => ∃ k : Nat, v = .int .i64 (k : Int) ∧ k ≤ D.m ∧ RotS D (rvD D) (rvD D).rm w1 ob g2 (some ⟨g, 0, none⟩) c' d' k wr) (fun v _ => D.m - (intOf v).toNat)
      case atStart => exact ⟨0, rfl, Nat.zero_le _, HS1.out⟩
      case round =>
        clear HS1 jk jk2
        rename_i wr0
        obtain ⟨k, rfl, hk, hrs⟩ := hrel
        have HRS := Lib.hid hrs; clear hrs
        have FR0 : ∀ y : Ext wr, y.v.cell? ⟨w.heap.size, 0, none⟩ = some (.slice p D.n c) := fun y => F0_0 (y.up HRS.out.b)
        have FR1 : ∀ y : Ext wr, y.v.cell? ⟨w.heap.size, 1, none⟩ = some (.slice q D.m d) := fun y => F1_0 (y.up HRS.out.b)
        have G0 : ∀ y : Ext wr, y.v.cell? ⟨ob, 0, none⟩ = some (.slice (some ⟨g, 0, none⟩) D.n c') := fun y => (y.b.cell (p := ⟨ob, 0, none⟩) HRS.out.l.2.2.1).trans HRS.out.c0
        have G1 : ∀ y : Ext wr, y.v.cell? ⟨ob, 1, none⟩ = some (.slice (some ⟨g2, 0, none⟩) D.m d') := fun y => (y.b.cell (p := ⟨ob, 1, none⟩) HRS.out.l.2.2.1).trans HRS.out.c1
        by_cases hlt : k < D.m
        · obtain ⟨b2, o2, rfl, _, _⟩ := (HI_0.out ⟨wr, HRS.out.b⟩).st (by omega)
          have c0 := (HI_0.out ⟨wr, HRS.out.b⟩).c0 hlt; have c1 := (HI_0.out ⟨wr, HRS.out.b⟩).c1 hlt; have c2 := (HI_0.out ⟨wr, HRS.out.b⟩).c2 hlt; have c3 := (HI_0.out ⟨wr, HRS.out.b⟩).c3 hlt
          have hst := HD.out.st k hlt
          have hnl := HNL.out
          have e1 : IntKind.i64.wrap (nl - D.to k) = nl - D.to k := IntWalk.i64_in _ (by have := hst.to; omega)
          have e2 : IntKind.i64.wrap (nl - D.fr k) = nl - D.fr k := IntWalk.i64_in _ (by have := hst.fr; omega)
          have e3 : IntKind.i64.wrap (nl - D.hs k) = nl - D.hs k := IntWalk.i64_in _ (by have := hst.hs; omega)
          have ef : (rvD D).fr k = nl - D.to k := by rw [← hnl]; rfl
          have et : (rvD D).to k = nl - D.fr k := by rw [← hnl]; rfl
          have eh : (rvD D).hs k = if D.hs k = -1 then -1 else nl - D.hs k := by rw [← hnl]; rfl
          have ec : (rvD D).co k = D.co k := rfl
          have HEQ := Lib.hid (And.intro ef (And.intro et (And.intro eh ec)))
          have jk : decide ((k : Int) < (D.m : Int)) = true := by simp; omega
          have hkm : (k : Int) < (D.m : Int) := by omega
          clear ef et eh ec hst hnl
          have C0 : ∀ y : Ext wr, y.v.cell? ⟨b2, o2 + k * 4, none⟩ = some (.int .i64 (D.hs k)) := fun y => (HI_0.out (y.up HRS.out.b)).c0 hlt
          have C1 : ∀ y : Ext wr, y.v.cell? ⟨b2, o2 + k * 4 + 1, none⟩ = some (.int .i64 (D.fr k)) := fun y => (HI_0.out (y.up HRS.out.b)).c1 hlt
          have C2 : ∀ y : Ext wr, y.v.cell? ⟨b2, o2 + k * 4 + 2, none⟩ = some (.int .i64 (D.to k)) := fun y => (HI_0.out (y.up HRS.out.b)).c2 hlt
          have C3 : ∀ y : Ext wr, y.v.cell? ⟨b2, o2 + k * 4 + 3, none⟩ = some (.int .i64 (D.co k)) := fun y => (HI_0.out (y.up HRS.out.b)).c3 hlt
          clear c0 c1 c2 c3
          obtain ⟨z0, hz0⟩ := rebase wr
          rw [hz0]
          obtain ⟨sb, hsb⟩ : ∃ n, z0.v.heap.size = n := ⟨_, rfl⟩
          obtain ⟨y6, hy6, S0, S1, S2, S3, Sf⟩ : ∃ z : Ext wr, z0.v.alloc (Obj.cells #[.int .i64 (D.hs k), .int .i64 (D.fr k), .int .i64 (D.to k), .int .i64 (D.co k)] 43) = z.v ∧ z.v.cell? ⟨sb, 0, none⟩ = some (.int .i64 (D.hs k)) ∧ z.v.cell? ⟨sb, 1, none⟩ = some (.int .i64 (D.fr k)) ∧ z.v.cell? ⟨sb, 2, none⟩ = some (.int .i64 (D.to k)) ∧ z.v.cell? ⟨sb, 3, none⟩ = some (.int .i64 (D.co k)) ∧ (∀ i, z.v.frozen? ⟨sb, i, none⟩ = false) :=
            ⟨⟨_, bT z0.b (bA (Below.refl _ _) _)⟩, rfl, by rw [← hsb]; clear hsb; go_simp, by rw [← hsb]; clear hsb; go_simp, by rw [← hsb]; clear hsb; go_simp, by rw [← hsb]; clear hsb; go_simp, fun i => by rw [← hsb]; clear hsb; go_simp⟩
          have HSB := Lib.hid (show wr.heap.size ≤ sb by rw [← hsb]; exact z0.b.size)
          obtain ⟨y7, hy7, U0, U1, U2, U3, Uf, _⟩ := st_turn (nl := nl) y6 HSB.out S0 S1 S2 S3 Sf
          have R0 : ∀ y : Ext wr, y.v.cell? ⟨g2, k * 4, none⟩ = some (.int .i64 ((mixD D (rvD D) k).hs k)) := fun y => by have := (HRS.out.bel y.b).st.c0 k hlt; rw [Nat.zero_add] at this; exact this
          have R1 : ∀ y : Ext wr, y.v.cell? ⟨g2, k * 4 + 1, none⟩ = some (.int .i64 ((mixD D (rvD D) k).fr k)) := fun y => by have := (HRS.out.bel y.b).st.c1 k hlt; rw [Nat.zero_add] at this; exact this
          have R2 : ∀ y : Ext wr, y.v.cell? ⟨g2, k * 4 + 2, none⟩ = some (.int .i64 ((mixD D (rvD D) k).to k)) := fun y => by have := (HRS.out.bel y.b).st.c2 k hlt; rw [Nat.zero_add] at this; exact this
          have R3 : ∀ y : Ext wr, y.v.cell? ⟨g2, k * 4 + 3, none⟩ = some (.int .i64 ((mixD D (rvD D) k).co k)) := fun y => by have := (HRS.out.bel y.b).st.c3 k hlt; rw [Nat.zero_add] at this; exact this
          have Rf : ∀ (y : Ext wr) (i : Nat), y.v.frozen? ⟨g2, i, none⟩ = false := fun y => (HRS.out.bel y.b).fz
          have HG2 := Lib.hid (show g2 ≠ sb by have := HRS.out.l.2.1; have := HSB.out; omega)
          by_cases hm1 : D.hs k = -1
          · have HM := Lib.hid hm1
            have jh : (D.hs k != -1) = false := by simp [hm1]
            rw [hm1] at jh S0 U0
            clear hm1
            go_upto_region 13 with fail
            try rw [hsb]
            clear hy6 hsb
            go_wp2_with fail
            go_roundw
            case rel =>
              obtain ⟨w', e, h⟩ := (HRS.out.bel y7.b).step hlt
              rw [HEQ.out.1, HEQ.out.2.1, show (rvD D).hs k = -1 from HEQ.out.2.2.1.trans (by rw [HM.out]; rfl), HEQ.out.2.2.2] at e
              exact ⟨k + 1, by go_num, hlt, by rw [e]; exact h⟩
            case measure => first | (simp [intOf]; done) | (simp [intOf]; omega)
          · have HM := Lib.hid hm1
            have jh : (D.hs k != -1) = true := by simp [hm1]
            clear hm1
            obtain ⟨y8, hy8, V0, V1, V2, V3, Vf⟩ := st_has (v := nl - D.hs k) y7 HSB.out U0 U1 U2 U3 Uf
            go_upto_region 13 with fail
            try rw [hsb]
            clear hy6 hsb
            go_wp2_with fail
            go_roundw
            case rel =>
              obtain ⟨w', e, h⟩ := (HRS.out.bel y8.b).step hlt
              rw [HEQ.out.1, HEQ.out.2.1, show (rvD D).hs k = nl - D.hs k from HEQ.out.2.2.1.trans (if_neg HM.out), HEQ.out.2.2.2] at e
              exact ⟨k + 1, by go_num, hlt, by rw [e]; exact h⟩
            case measure => first | (simp [intOf]; done) | (simp [intOf]; omega)
        · have hke : k = D.m := by omega
          subst hke
          have jk : decide ((D.m : Int) < (D.m : Int)) = false := by simp
          have hin := HRS.out.fin
          have hbw := HRS.out.b
          obtain ⟨k0, k1, k2⟩ := And.intro HRS.out.c0 (And.intro HRS.out.c1 HRS.out.l.2.2.1)
          have HIc : Hid (∀ z : Ext wr, RoIn z.v z.v.heap.size D p q) := fun z => HI_0.out (z.up hbw)
          have HWc : Hid (∀ z : Ext wr, Below w.heap.size w z.v) := fun z => HW_0.out (z.up hbw)
          have HEc : Hid (∀ z : Ext wr, RoIn z.v z.v.heap.size (rvD D) (some ⟨g, 0, none⟩) (some ⟨g2, 0, none⟩)) := fun z => hin.bel z.b
          clear hk hlt FR0 FR1 G0 G1 HRS hin
          have F0c : ∀ z : Ext wr, z.v.cell? ⟨w.heap.size, 0, none⟩ = some (.slice p D.n c) := fun z => F0_0 (z.up hbw)
          have F1c : ∀ z : Ext wr, z.v.cell? ⟨w.heap.size, 1, none⟩ = some (.slice q D.m d) := fun z => F1_0 (z.up hbw)
          have O0c : ∀ z : Ext wr, z.v.cell? ⟨ob, 0, none⟩ = some (.slice (some ⟨g, 0, none⟩) D.n c') := fun z => (z.b.cell (p := ⟨ob, 0, none⟩) k2).trans k0
          have O1c : ∀ z : Ext wr, z.v.cell? ⟨ob, 1, none⟩ = some (.slice (some ⟨g2, 0, none⟩) D.m d') := fun z => (z.b.cell (p := ⟨ob, 1, none⟩) k2).trans k1
          clear hbw k0 k1 k2 F0_0 F1_0 HI_0 HW_0
          obtain ⟨hE, a1, a2, a3, a4, a5, a6, a7, a8, a9⟩ := back_all HD.out hs hh
          have hnl := HNL.out
          obtain ⟨x, hx⟩ : ∃ x, D.n - 1 - hr_ = x := ⟨_, rfl⟩
          have hxn : x < D.n := by omega
          have ewx : IntKind.i64.wrap (nl - (hr_ : Int)) = (x : Int) := by rw [IntWalk.i64_in _ (by omega)]; omega
          rw [hx] at a7 a8
          clear hx hnl
          have HT1 := Lib.hid (fun (V : World) hV => three_any D p q c d HD.out V hV)
          have HT2 := Lib.hid (show ∀ V, RoIn V V.heap.size (rvD D) (some ⟨g, 0, none⟩) (some ⟨g2, 0, none⟩) → Calls Try.prog 17 #[.agg #[.slice (some ⟨g, 0, none⟩) D.n c', .slice (some ⟨g2, 0, none⟩) D.m d']] V fun e w' => e = .returned (.tuple #[.int .i64 (tL (rvD D)), .int .i64 (tM (rvD D)), .int .i64 (tN (rvD D)), .bool (exB (rvD D)), .bool false]) ∧ Below V.heap.size V w' from fun V hV => three_any (rvD D) _ _ c' d' hE V hV)
          have HL1 := Lib.hid (fun (V : World) hV => lackP_any D p q c d V HD.out hcap hV)
          have HL2 := Lib.hid (show ∀ V, RoIn V V.heap.size (rvD D) (some ⟨g, 0, none⟩) (some ⟨g2, 0, none⟩) → Calls Try.prog 20 #[.agg #[.slice (some ⟨g, 0, none⟩) D.n c', .slice (some ⟨g2, 0, none⟩) D.m d']] V fun e w' => e = .returned (.tuple #[.agg #[.int .i64 (lkA (rvD D)), .int .i64 (lkB (rvD D))], .int .i64 (lkE (rvD D))]) ∧ Below V.heap.size V w' from fun V hV => lackP_any (rvD D) _ _ c' d' V hE HCC.out hV)
          have HB1 := Lib.hid (fun (V : World) hV => boundP_any D p q c d st HD.out hs V hV)
          have HB2 := Lib.hid (show ∀ V, RoIn V V.heap.size (rvD D) (some ⟨g, 0, none⟩) (some ⟨g2, 0, none⟩) → Calls Try.prog 37 #[.agg #[.slice (some ⟨g, 0, none⟩) D.n c', .slice (some ⟨g2, 0, none⟩) D.m d'], .int .i64 (st : Int)] V fun e w' => e = .returned (.tuple #[.int .i64 (bnV (rvD D) st), .int .i64 (exE (rvD D))]) ∧ Below V.heap.size V w' from fun V hV => boundP_any (rvD D) _ _ c' d' st hE hs V hV)
          have HG1 := Lib.hid (fun (V : World) hV => giveP_any D p q c d hr_ V HD.out hh hV)
          have HG2 := Lib.hid (show ∀ V, RoIn V V.heap.size (rvD D) (some ⟨g, 0, none⟩) (some ⟨g2, 0, none⟩) → Calls Try.prog 38 #[.agg #[.slice (some ⟨g, 0, none⟩) D.n c', .slice (some ⟨g2, 0, none⟩) D.m d'], .int .i64 (x : Int)] V fun e w' => e = .returned (.tuple #[.int .i64 (gvR (rvD D) x), .int .i64 (gvE (rvD D) x)]) ∧ Below V.heap.size V w' from fun V hV => giveP_any (rvD D) _ _ c' d' x V hE hxn hV)
          rw [a1, a3, a4, a5] at HT2
          rw [a9] at HL2
          rw [a6, a2] at HB2
          rw [a7, a8] at HG2
          clear a1 a2 a3 a4 a5 a6 a7 a8 a9 hE
          obtain ⟨tl, h1⟩ : ∃ x, tL D = x := ⟨_, rfl⟩
          obtain ⟨tm, h2⟩ : ∃ x, tM D = x := ⟨_, rfl⟩
          obtain ⟨tn, h3⟩ : ∃ x, tN D = x := ⟨_, rfl⟩
          obtain ⟨ex, h4⟩ : ∃ x, exB D = x := ⟨_, rfl⟩
          obtain ⟨ee, h5⟩ : ∃ x, exE D = x := ⟨_, rfl⟩
          obtain ⟨bn, h6⟩ : ∃ y, bnV D st = y := ⟨_, rfl⟩
          obtain ⟨la, h7⟩ : ∃ x, lkA D = x := ⟨_, rfl⟩
          obtain ⟨lb, h8⟩ : ∃ x, lkB D = x := ⟨_, rfl⟩
          obtain ⟨lc2, h10⟩ : ∃ x, lkA (rvD D) = x := ⟨_, rfl⟩
          obtain ⟨ld, h11⟩ : ∃ x, lkB (rvD D) = x := ⟨_, rfl⟩
          obtain ⟨le, h9⟩ : ∃ x, lkE D = x := ⟨_, rfl⟩
          obtain ⟨gv, h12⟩ : ∃ x, gvR D hr_ = x := ⟨_, rfl⟩
          obtain ⟨ge, h13⟩ : ∃ x, gvE D hr_ = x := ⟨_, rfl⟩
          rw [h1, h2, h3, h4] at HT1 HT2
          rw [h7, h8, h9] at HL1
          rw [h10, h11, h9] at HL2
          rw [h6, h5] at HB1 HB2
          rw [h12, h13] at HG1 HG2
          clear h1 h2 h3 h4 h5 h6 h7 h8 h9 h10 h11 h12 h13
          have i1 : (tl != tl) = false := by simp
          have i2 : (tm != tm) = false := by simp
          have i3 : (tn != tn) = false := by simp
          have i4 : (ex != ex) = false := by simp
          have i5 : (ee != ee) = false := by simp
          have i6 : (bn != bn) = false := by simp
          have i7 : (gv == gv) = true := by simp
          have i8 : (ge == ge) = true := by simp
          have i9 : (le == le) = true := by simp
          obtain ⟨z0, hz0⟩ := rebase wr
          rw [hz0]
          clear hz0
          go_wp2_with fail
          refine (quiet_x (HT1.out _ (HIc.out _))).mono ?_
          rintro e w' ⟨rfl, u1, rfl⟩
          go_wp2_with fail
          refine (quiet_x (HT2.out _ (HEc.out _))).mono ?_
          rintro e w' ⟨rfl, u2, rfl⟩
          go_wp2_with fail
          refine (quiet_x (HB1.out _ (HIc.out _))).mono ?_
          rintro e w' ⟨rfl, u3, rfl⟩
          go_wp2_with fail
          refine (quiet_x (HB2.out _ (HEc.out _))).mono ?_
          rintro e w' ⟨rfl, u4, rfl⟩
          go_wp2_with fail
          refine (quiet_x (HG1.out _ (HIc.out _))).mono ?_
          rintro e w' ⟨rfl, u5, rfl⟩
          go_wp2_with fail
          refine (quiet_x (HG2.out _ (HEc.out _))).mono ?_
          rintro e w' ⟨rfl, u6, rfl⟩
          go_wp2_with fail
          refine (HL1.out _ (HIc.out _)).mono ?_
          rintro e w6 ⟨rfl, hbw6⟩
          obtain ⟨w7, x7, hw7, hb7, hz7, S0, S1, _⟩ := box_span w6 la lb
          have HX7 := Lib.hid (bT (bT u6.b hbw6) hb7)
          clear hbw6 hb7 hz7
          have HId : Hid (∀ z : Ext w7, RoIn z.v z.v.heap.size D p q) := fun z => HIc.out (z.up HX7.out)
          have HEd : Hid (∀ z : Ext w7, RoIn z.v z.v.heap.size (rvD D) (some ⟨g, 0, none⟩) (some ⟨g2, 0, none⟩)) := fun z => HEc.out (z.up HX7.out)
          have HWd : Hid (∀ z : Ext w7, Below w.heap.size w z.v) := fun z => HWc.out (z.up HX7.out)
          have F0d : ∀ z : Ext w7, z.v.cell? ⟨w.heap.size, 0, none⟩ = some (.slice p D.n c) := fun z => F0c (z.up HX7.out)
          have F1d : ∀ z : Ext w7, z.v.cell? ⟨w.heap.size, 1, none⟩ = some (.slice q D.m d) := fun z => F1c (z.up HX7.out)
          have O0d : ∀ z : Ext w7, z.v.cell? ⟨ob, 0, none⟩ = some (.slice (some ⟨g, 0, none⟩) D.n c') := fun z => O0c (z.up HX7.out)
          have O1d : ∀ z : Ext w7, z.v.cell? ⟨ob, 1, none⟩ = some (.slice (some ⟨g2, 0, none⟩) D.m d') := fun z => O1c (z.up HX7.out)
          clear HIc HEc HWc F0c F1c O0c O1c
          go_wp2_with fail
          refine (HL2.out _ (HEd.out _)).mono ?_
          rintro e w8 ⟨rfl, hbw8⟩
          obtain ⟨w9, x9, hw9, hb9, hz9, T0, T1, _⟩ := box_span w8 lc2 ld
          have HX9 := Lib.hid (bT (bT x7.b hbw8) hb9)
          clear hbw8 hb9 hz9 S0 S1
          have HIe : Hid (∀ z : Ext w9, RoIn z.v z.v.heap.size D p q) := fun z => HId.out (z.up HX9.out)
          have HEe : Hid (∀ z : Ext w9, RoIn z.v z.v.heap.size (rvD D) (some ⟨g, 0, none⟩) (some ⟨g2, 0, none⟩)) := fun z => HEd.out (z.up HX9.out)
          have HWe : Hid (∀ z : Ext w9, Below w.heap.size w z.v) := fun z => HWd.out (z.up HX9.out)
          have F0e : ∀ z : Ext w9, z.v.cell? ⟨w.heap.size, 0, none⟩ = some (.slice p D.n c) := fun z => F0d (z.up HX9.out)
          have F1e : ∀ z : Ext w9, z.v.cell? ⟨w.heap.size, 1, none⟩ = some (.slice q D.m d) := fun z => F1d (z.up HX9.out)
          have O0e : ∀ z : Ext w9, z.v.cell? ⟨ob, 0, none⟩ = some (.slice (some ⟨g, 0, none⟩) D.n c') := fun z => O0d (z.up HX9.out)
          have O1e : ∀ z : Ext w9, z.v.cell? ⟨ob, 1, none⟩ = some (.slice (some ⟨g2, 0, none⟩) D.m d') := fun z => O1d (z.up HX9.out)
          clear HId HEd HWd F0d F1d O0d O1d
          go_wp2_with fail
          refine (quiet_x (works_ex _)).mono ?_
          rintro e w' ⟨rfl, y9, rfl⟩
          go_wp2
          go_ret
          exact ⟨rfl, HWe.out y9⟩

theorem back_law (D : Ro) (p q : Option Addr) (c d : Nat) (st hr_ : Int) (w : World) (hn : D.n ≤ maxLen) (hm : D.m ≤ maxLen) (hcap : D.n ≤ c) (hi : RoIn w w.heap.size D p q) :
    Calls Try.prog 8 #[.agg #[.slice p D.n c, .slice q D.m d], .int .i64 st, .int .i64 hr_] w fun e w' => e = .returned (.bool true) ∧ Below w.heap.size w w' := by
  cases hr : rdy D with
  | false => exact back_o1 D p q c d st hr_ w hn hm hr hi
  | true =>
    cases hs : within st 0 ((D.m : Int) - 1) with
    | false => exact back_o2 D p q c d st hr_ w hn hm hr hs hi
    | true =>
      cases hh : within hr_ 0 ((D.n : Int) - 1) with
      | false => exact back_o3 D p q c d st hr_ w hn hm hr hs hh hi
      | true =>
        have h6 := within_iff.1 hs
        have h7 := within_iff.1 hh
        obtain ⟨s, rfl⟩ : ∃ s : Nat, st = (s : Int) := ⟨st.toNat, by omega⟩
        obtain ⟨x, rfl⟩ : ∃ x : Nat, hr_ = (x : Int) := ⟨hr_.toNat, by omega⟩
        exact back_in D p q c d s x w hr (by omega) (by omega) hcap hi
end Go.Proofs.Ytegkgfiaegpihaa
