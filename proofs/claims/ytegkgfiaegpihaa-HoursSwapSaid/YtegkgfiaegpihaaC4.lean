/- Rosters of hours: whether a list is a new roster, of both. -/
import Derived.Test.YtegkgfiaegpihaaC3

set_option linter.unusedSimpArgs false

set_option linter.unusedVariables false

namespace Go.Proofs.Ytegkgfiaegpihaa

open Go.RowKit

/-- the state while hours are looked at: the call's own row of room -/
structure NI (w : World) (D : Ro) (p q : Option Addr) (c d g : Nat) (h : Nat → Int) (W : World) : Prop where
  b0 : W.cell? ⟨w.heap.size, 0, none⟩ = some (.slice p D.n c)
  b1 : W.cell? ⟨w.heap.size, 1, none⟩ = some (.slice q D.m d)
  r : RowN W g D.n h
  bl : Below w.heap.size w W
  lt : w.heap.size < g
theorem NI.below {w : World} {D : Ro} {p q : Option Addr} {c d g : Nat} {h : Nat → Int} {A A' : World} (i : NI w D p q c d g h A) (k : Below A.heap.size A A') : NI w D p q c d g h A' :=
  ⟨(k.cell (p := ⟨w.heap.size, 0, none⟩) (Nat.lt_trans i.lt i.r.lt)).trans i.b0, (k.cell (p := ⟨w.heap.size, 1, none⟩) (Nat.lt_trans i.lt i.r.lt)).trans i.b1, i.r.bel k, bT i.bl k, i.lt⟩
theorem NI.cong {w : World} {D : Ro} {p q : Option Addr} {c d g : Nat} {h h' : Nat → Int} {A : World} (i : NI w D p q c d g h A) (e : ∀ j, j < D.n → h j = h' j) : NI w D p q c d g h' A :=
  ⟨i.b0, i.b1, ⟨i.r.lt, fun j hj => (i.r.c j hj).trans (by rw [e j hj]), i.r.fz⟩, i.bl, i.lt⟩
theorem NI.set {w : World} {D : Ro} {p q : Option Addr} {c d g : Nat} {h : Nat → Int} {A : World} (i : NI w D p q c d g h A) {k : Nat} (hk : k < D.n) (v : Int) : NI w D p q c d g (fun j => if j = k then v else h j) (A.setCell ⟨g, k, none⟩ (.int .i64 v)) :=
  ⟨by rw [World.cell?_setCell_other _ _ _ _ (by have := i.lt; first | (simp; done) | (simp; omega))]; exact i.b0, by rw [World.cell?_setCell_other _ _ _ _ (by have := i.lt; first | (simp; done) | (simp; omega))]; exact i.b1, i.r.set hk v, bS i.bl (Nat.le_of_lt i.lt) _, i.lt⟩
def lfN (D : Ro) (f : Nat → Int) (k : Nat) (h : Nat) : Int := D.rm h - cnt f h k
def cnN (f : Nat → Int) (k : Nat) (h : Nat) : Int := (cnt f h k : Int)
theorem newAt_eq {D : Ro} {f : Nat → Int} {k h : Nat} (e : f k = (h : Int)) (hw : within (f k) (D.fr k) (D.to k) = true) : newAt D f k = decide ((cnt f h k : Int) < D.rm h) := by
  unfold newAt; rw [hw, e]; simp
theorem newAt_out {D : Ro} {f : Nat → Int} {k : Nat} (hw : within (f k) (D.fr k) (D.to k) = false) : newAt D f k = false := by unfold newAt; rw [hw]; rfl
theorem cnt_ok {D : Ro} (hD : OkP D) {f : Nat → Int} {k : Nat} (h : allN (newAt D f) k = true) (hk : k ≤ D.m) : ∀ x : Nat, x < D.n → (cnt f x k : Int) ≤ D.rm x := by
  rw [allN_iff] at h
  induction k with
  | zero => intro x hx; have := (hD.rm x hx).1; simpa [cnt] using this
  | succ k ih =>
    intro x hx
    have ih := ih (fun i hi => h i (by omega)) (by omega) x hx
    have h2 := h k (by omega)
    simp only [newAt, Bool.and_eq_true, within_iff, decide_eq_true_eq] at h2
    simp only [cnt]
    by_cases e : f k = x
    · rw [if_pos e]; rw [e] at h2; simp at h2; omega
    · rw [if_neg e]; simpa using ih
theorem lfN_succ {D : Ro} {f : Nat → Int} {k h : Nat} (e : f k = (h : Int)) (j : Nat) : (if j = h then lfN D f k h - 1 else lfN D f k j) = lfN D f (k + 1) j := by
  simp only [lfN, cnt]
  by_cases e2 : j = h
  · subst e2; rw [if_pos rfl, if_pos e]; omega
  · rw [if_neg e2, if_neg (by omega)]; simp
theorem cnN_succ {f : Nat → Int} {k h : Nat} (e : f k = (h : Int)) (j : Nat) : (if j = h then cnN f k h + 1 else cnN f k j) = cnN f (k + 1) j := by
  simp only [cnN, cnt]
  by_cases e2 : j = h
  · subst e2; rw [if_pos rfl, if_pos e]; omega
  · rw [if_neg e2, if_neg (by omega)]; simp
set_option maxRecDepth 100000 in
set_option maxHeartbeats 8000000 in
theorem isNewP_eq (D : Ro) (p q lp : Option Addr) (c d lc : Nat) (f : Nat → Int) (w : World) (hD : OkP D) (hi : RoIn w w.heap.size D p q) (hf : NumIn w w.heap.size D.m f lp) :
    Calls Try.prog 71 #[.agg #[.slice p D.n c, .slice q D.m d], .slice lp D.m lc] w fun e w' => e = .returned (.bool (allN (newAt D f) D.m)) ∧ Below w.heap.size w w' := by
  obtain ⟨w1, x1, hw1, hb1, hz1, F0, F1, _⟩ := box_ro w p q D.n D.m c d
  have HB1 := Lib.hid (bT hb1 x1.b)
  have HI : Hid (∀ V : World, Below w.heap.size w V → RoIn V V.heap.size D p q) := fun V hV => (hi.below hV).mono hV.size
  have HF : Hid (∀ V : World, Below w.heap.size w V → NumIn V V.heap.size D.m f lp) := fun V hV => (hf.below hV).mono hV.size
  have HD := Lib.hid hD
  have d1 : ((D.m : Int) != (D.m : Int)) = false := by simp
  have hz : w.heap.size < x1.v.heap.size := by have := x1.b.size; omega
  have HZ := Lib.hid hz
  have hm6 := hD.m; have hn8 := hD.n
  clear hb1 hz1 hi hf hz
  go_enter Try.func71, Try.ntmps71
  go_wp2_with fail
  refine (clone_p D.n c D.rm p _ (by omega) (HI.out _ HB1.out).rm).mono ?_
  rintro e wc ⟨y, c', rfl, hc⟩
  have HBC := Lib.hid (bT HB1.out hc.below)
  have hni : ∃ g, 0 < D.m → y = some ⟨g, 0, none⟩ ∧ NI w D p q c d g (lfN D f 0) wc := by
    by_cases h0 : 0 < D.m
    · have hn0 : 0 < D.n := by have := (hD.st 0 h0).fr; omega
      obtain ⟨g, e, l1, l2, hn, hfz⟩ := hc.here hn0
      refine ⟨g, fun _ => ⟨e, ?_, ?_, ⟨l2, fun i hi => ?_, hfz⟩, HBC.out, Nat.lt_of_lt_of_le HZ.out l1⟩⟩
      · exact (hc.below.cell (p := ⟨w.heap.size, 0, none⟩) HZ.out).trans (F0 x1)
      · exact (hc.below.cell (p := ⟨w.heap.size, 1, none⟩) HZ.out).trans (F1 x1)
      · have := hn i hi; rw [Nat.zero_add] at this; rw [this]; simp [lfN, cnt]
    · exact ⟨0, fun h => absurd h h0⟩
  obtain ⟨g, hg⟩ := hni
  have HG := Lib.hid hg
  have hbx : wc.cell? ⟨w.heap.size, 1, none⟩ = some (.slice q D.m d) := (hc.below.cell (p := ⟨w.heap.size, 1, none⟩) HZ.out).trans (F1 x1)
  clear hg hc F0 F1 hD
  go_wp2
  clear hw1 hbx d1
  go_loopw [21] (fun i wr => ∃ k : Nat, i = .int .i64 k ∧ k ≤ D.m ∧ allN (newAt D f) k = true ∧ Below w.heap.size w wr ∧ (0 < D.m → NI w D p q c d g (lfN D f k) wr)) (fun i _ => D.m - (intOf i).toNat)
  case atStart => exact ⟨0, rfl, Nat.zero_le _, rfl, HBC.out, fun h0 => (HG.out h0).2⟩
  case round =>
    obtain ⟨k, rfl, hk, hal, hbl, hni⟩ := hrel
    have HAL := Lib.hid hal; have HBL := Lib.hid hbl; have HNI := Lib.hid hni
    clear hal hbl hni
    by_cases hlt : k < D.m
    · obtain ⟨rfl, _⟩ := HG.out (by omega)
      have HN := Lib.hid (HNI.out (by omega))
      clear HNI HG
      obtain ⟨b, o, rfl, hbl, hc⟩ := (HI.out _ HBL.out).st (by omega)
      obtain ⟨b2, o2, rfl, hb2l, hc2⟩ := (HF.out _ HBL.out) (by omega)
      have e0 := hc.c0 k hlt; have e1 := hc.c1 k hlt; have e2 := hc.c2 k hlt; have e3 := hc.c3 k hlt
      have e4 := hc2 k hlt
      clear hc hc2
      obtain ⟨w2, u, hw2, hb2, hz2, G0, G1, G2, G3, _⟩ := box_st wr (D.hs k) (D.fr k) (D.to k) (D.co k)
      have hbu := bT hb2 u.b
      have E4 : u.v.cell? ⟨b2, o2 + k, none⟩ = some (.int .i64 (f k)) := (hbu.cell (p := ⟨b2, o2 + k, none⟩) hb2l).trans e4
      have HN2 := Lib.hid (HN.out.below hbu)
      replace G1 := G1 u; replace G2 := G2 u; replace G0 := G0 u; replace G3 := G3 u
      have j : decide ((k : Int) < (D.m : Int)) = true := by simp; omega
      have hkm : (k : Int) < (D.m : Int) := by omega
      clear hb2 hz2 hbu HN
      cases hw : within (f k) (D.fr k) (D.to k) with
      | false =>
        have HW := Lib.hid hw
        have HR := Lib.hid (show allN (newAt D f) D.m = false from allN_bad hlt (newAt_out hw))
        clear hw
        go_wp2_with fail
        refine (isFrom_is HW.out _).mono ?_
        rintro e w' ⟨rfl, rfl⟩
        go_wp2
        go_ret
        exact ⟨ret_b HR.out.symm, HN2.out.bl⟩
      | true =>
        have HW := Lib.hid hw
        obtain ⟨hw1, hw2⟩ := within_iff.1 hw
        have hst := HD.out.st k hlt
        obtain ⟨h, hh⟩ : ∃ h : Nat, f k = (h : Int) := ⟨(f k).toNat, by have := hst.fr; omega⟩
        have hhn : h < D.n := by have := hst.to; omega
        have hhi : (h : Int) < (D.n : Int) := by omega
        have hna := newAt_eq hh hw
        have hcl := HN2.out.r.c h hhn
        have hfz := HN2.out.r.fz h
        have hrb := HD.out.rm h hhn
        have hcb := cnt_ok HD.out HAL.out (Nat.le_of_lt hlt) h hhn
        have HH := Lib.hid hh
        obtain ⟨v, hv⟩ : ∃ v, lfN D f k h = v := ⟨_, rfl⟩
        rw [hv] at hcl
        rw [hh] at E4 e4
        have HW' : Hid (within (h : Int) (D.fr k) (D.to k) = true) := by rw [← hh]; exact hw
        unfold lfN at hv
        have hv0 : 0 ≤ v ∧ v ≤ 6 := by omega
        by_cases hz : v = 0
        · subst hz
          have HR := Lib.hid (show allN (newAt D f) D.m = false from allN_bad hlt (by rw [hna]; simp; omega))
          have j0 : ((0 : Int) == 0) = true := by decide
          clear hw hw1 hw2 hst hh hna hrb hcb hv hv0
          go_wp2_with fail
          refine (isFrom_is HW'.out _).mono ?_
          rintro e w' ⟨rfl, rfl⟩
          go_wp2
          go_ret
          exact ⟨ret_b HR.out.symm, HN2.out.bl⟩
        · have HR := Lib.hid (show allN (newAt D f) (k + 1) = true from allN_succ HAL.out (by rw [hna]; simp; omega))
          have HV : Hid (lfN D f k h = v) := hv
          have j0 : (v == 0) = false := by simpa using hz
          have ew : IntKind.i64.wrap (v - 1) = v - 1 := IntWalk.i64_in _ (by omega)
          clear hw hw1 hw2 hst hh hna hrb hcb hv hv0 hz
          go_wp2_with fail
          refine (isFrom_is HW'.out _).mono ?_
          rintro e w' ⟨rfl, rfl⟩
          go_wp2
          go_roundw
          case rel => exact ⟨k + 1, by go_num, hlt, HR.out, (HN2.out.set hhn (v - 1)).bl, fun _ => (HN2.out.set hhn (v - 1)).cong fun j hj => by rw [← HV.out]; exact lfN_succ HH.out j⟩
          case measure => first | (simp [intOf]; done) | (simp [intOf]; omega)
    · have HR := Lib.hid (show allN (newAt D f) D.m = true by have := HAL.out; rwa [show k = D.m by omega] at this)
      have j : decide ((k : Int) < (D.m : Int)) = false := by simp; omega
      clear hk
      go_wp2
      go_ret
      exact ⟨ret_b HR.out.symm, HBL.out⟩
theorem isNewP_any (D : Ro) (p q lp : Option Addr) (c d l lc : Nat) (f : Nat → Int) (w : World) (hD : OkP D) (hi : RoIn w w.heap.size D p q) (hf : NumIn w w.heap.size l f lp) :
    Calls Try.prog 71 #[.agg #[.slice p D.n c, .slice q D.m d], .slice lp l lc] w fun e w' => e = .returned (.bool (isNw D l f)) ∧ Below w.heap.size w w' := by
  by_cases e : l = D.m
  · subst e; rw [isNw_eq]; exact isNewP_eq D p q lp c d lc f w hD hi hf
  · obtain ⟨w1, x1, hw1, hb1, hz1, F0, F1, _⟩ := box_ro w p q D.n D.m c d
    have HB := Lib.hid hb1
    have HR := Lib.hid (isNw_len (f := f) e)
    have j : ((l : Int) != (D.m : Int)) = true := by simp; omega
    clear e hb1 hz1
    go_enter Try.func71, Try.ntmps71
    go_wp2
    go_ret
    exact ⟨ret_b HR.out.symm, bT HB.out x1.b⟩
set_option maxRecDepth 100000 in
set_option maxHeartbeats 8000000 in
theorem isNewR_eq (D : Ro) (p q lp : Option Addr) (c d lc : Nat) (f : Nat → Int) (w : World) (hD : OkP D) (hi : RoIn w w.heap.size D p q) (hf : NumIn w w.heap.size D.m f lp) :
    Calls Try.prog 23 #[.agg #[.slice p D.n c, .slice q D.m d], .slice lp D.m lc] w fun e w' => e = .returned (.bool (allN (newAt D f) D.m)) ∧ Below w.heap.size w w' := by
  obtain ⟨w1, x1, hw1, hb1, hz1, F0, F1, _⟩ := box_ro w p q D.n D.m c d
  have hmk := fun W => make_ints D.n (by have := hD.n; omega) W
  have hrow := RowN.made x1.v D.n 3
  obtain ⟨w2, hw2⟩ : ∃ w2, x1.v.alloc (.cells (madeCells #[.int .i64 0] D.n) 3) = w2 := ⟨_, rfl⟩
  rw [hw2] at hrow
  have hb2 : Below x1.v.heap.size x1.v w2 := by rw [← hw2]; exact bA (Below.refl _ _) _
  have hb12 := bT x1.b hb2
  have HI : Hid (∀ V : World, Below w.heap.size w V → RoIn V V.heap.size D p q) := fun V hV => (hi.below hV).mono hV.size
  have HF : Hid (∀ V : World, Below w.heap.size w V → NumIn V V.heap.size D.m f lp) := fun V hV => (hf.below hV).mono hV.size
  have HD := Lib.hid hD
  obtain ⟨g, hg⟩ : ∃ g, x1.v.heap.size = g := ⟨_, rfl⟩
  have HNI : Hid (NI w D p q c d g (cnN f 0) w2) := ⟨F0 (Ext.up hb12 ⟨w2, Below.refl _ _⟩), F1 (Ext.up hb12 ⟨w2, Below.refl _ _⟩), by rw [← hg]; exact hrow, bT hb1 hb12, by have := x1.b.size; omega⟩
  have d1 : ((D.m : Int) != (D.m : Int)) = false := by simp
  have hm6 := hD.m; have hn8 := hD.n
  clear hb1 hz1 hi hf hb2 hb12 hrow hD
  go_enter Try.func23, Try.ntmps23
  go_wp2
  try rw [hg]
  clear hw1 hw2 F0 F1 hmk d1
  go_loopw [6] (fun i wr => ∃ k : Nat, i = .int .i64 k ∧ k ≤ D.m ∧ allN (newAt D f) k = true ∧ NI w D p q c d g (cnN f k) wr) (fun i _ => D.m - (intOf i).toNat)
  case atStart => exact ⟨0, rfl, Nat.zero_le _, rfl, HNI.out⟩
  case round =>
    clear HNI
    obtain ⟨k, rfl, hk, hal, hni⟩ := hrel
    have HAL := Lib.hid hal; have HN := Lib.hid hni
    clear hal hni
    by_cases hlt : k < D.m
    · obtain ⟨b, o, rfl, _, _⟩ := (HI.out _ HN.out.bl).st (by omega)
      obtain ⟨b2, o2, rfl, _, _⟩ := (HF.out _ HN.out.bl) (by omega)
      have hn0 : 0 < D.n := by have := (HD.out.st k hlt).fr; omega
      obtain ⟨b3, o3, rfl, _, _⟩ := (HI.out _ HN.out.bl).rm hn0
      obtain ⟨z, hz⟩ := rebase wr
      have N0 : ∀ y : Ext wr, NI w D (some ⟨b3, o3, none⟩) (some ⟨b, o, none⟩) c d g (cnN f k) y.v := fun y => HN.out.below y.b
      have HN0 := Lib.hid N0
      have B0 : ∀ y : Ext wr, y.v.cell? ⟨w.heap.size, 0, none⟩ = some (.slice (some ⟨b3, o3, none⟩) D.n c) := fun y => (N0 y).b0
      have B1 : ∀ y : Ext wr, y.v.cell? ⟨w.heap.size, 1, none⟩ = some (.slice (some ⟨b, o, none⟩) D.m d) := fun y => (N0 y).b1
      have C1 : ∀ y : Ext wr, y.v.cell? ⟨b, o + k * 4 + 1, none⟩ = some (.int .i64 (D.fr k)) := fun y => (HI.out _ (N0 y).bl).c1 hlt
      have C2 : ∀ y : Ext wr, y.v.cell? ⟨b, o + k * 4 + 2, none⟩ = some (.int .i64 (D.to k)) := fun y => (HI.out _ (N0 y).bl).c2 hlt
      have E4 : ∀ y : Ext wr, y.v.cell? ⟨b2, o2 + k, none⟩ = some (.int .i64 (f k)) := fun y => ((HF.out _ (N0 y).bl).cell hlt).2
      have j : decide ((k : Int) < (D.m : Int)) = true := by simp; omega
      have hkm : (k : Int) < (D.m : Int) := by omega
      have hk6 : k ≤ 6 := by omega
      rw [hz]
      clear N0 hz
      cases hw : within (f k) (D.fr k) (D.to k) with
      | false =>
        have HW := Lib.hid hw
        have HR := Lib.hid (show allN (newAt D f) D.m = false from allN_bad hlt (newAt_out hw))
        clear hw
        go_wp2
        refine quiet_e (by kernel_rfl) (by kernel_rfl) ?_
        repeat (first | go_big_quiet_step ((first | (go_at_call 70; exact quiet_s (within_is HW.out _)))) | quiet_step ((first | (go_at_call 70; exact quiet_s (within_is HW.out _)))))
        refine wpQuiet_nil ?_
        intro w6 hw6
        obtain ⟨y3, rfl⟩ := hw6
        go_wp2
        go_ret
        exact ⟨ret_b HR.out.symm, (HN0.out y3).bl⟩
      | true =>
        obtain ⟨hw1, hw2⟩ := within_iff.1 hw
        have hst := HD.out.st k hlt
        obtain ⟨h, hh⟩ : ∃ h : Nat, f k = (h : Int) := ⟨(f k).toNat, by have := hst.fr; omega⟩
        have hhn : h < D.n := by have := hst.to; omega
        have hhi : (h : Int) < (D.n : Int) := by omega
        have hna := newAt_eq hh hw
        have hrb := HD.out.rm h hhn
        have hcb := cnt_ok HD.out HAL.out (Nat.le_of_lt hlt) h hhn
        have HH := Lib.hid hh
        obtain ⟨v, hv⟩ : ∃ v, cnN f k h = v := ⟨_, rfl⟩
        have L0 : ∀ y : Ext wr, y.v.cell? ⟨g, h, none⟩ = some (.int .i64 v) := fun y => by rw [← hv]; exact (HN0.out y).r.c h hhn
        have LF : ∀ y : Ext wr, y.v.frozen? ⟨g, h, none⟩ = false := fun y => (HN0.out y).r.fz h
        have R0 : ∀ y : Ext wr, y.v.cell? ⟨b3, o3 + h, none⟩ = some (.int .i64 (D.rm h)) := fun y => ((HI.out _ (HN0.out y).bl).rm.cell hhn).2
        rw [hh] at E4
        have HW' : Hid (within (h : Int) (D.fr k) (D.to k) = true) := by rw [← hh]; exact hw
        have HV : Hid (cnN f k h = v) := hv
        unfold cnN at hv
        have ew : IntKind.i64.wrap (v + 1) = v + 1 := IntWalk.i64_in _ (by omega)
        have hvr : (decide ((cnt f h k : Int) < D.rm h)) = decide (¬ D.rm h < v + 1) := by rw [hv]; rw [Bool.eq_iff_iff]; simp; omega
        have HNA : Hid (newAt D f k = decide (¬ D.rm h < v + 1)) := hna.trans hvr
        clear hw hw1 hw2 hst hh hna hrb hcb hv hvr
        go_wp2
        refine quiet_e (by kernel_rfl) (by kernel_rfl) ?_
        repeat (first | go_big_quiet_step ((first | (go_at_call 70; exact quiet_s (within_is HW'.out _)))) | quiet_step ((first | (go_at_call 70; exact quiet_s (within_is HW'.out _)))))
        refine wpQuiet_nil ?_
        intro w6 hw6
        obtain ⟨y3, rfl⟩ := hw6
        go_wp2
        obtain ⟨w9, hw9⟩ : ∃ w9, y3.v.setCell ⟨g, h, none⟩ (.int .i64 (v + 1)) = w9 := ⟨_, rfl⟩
        have HN9 : Hid (NI w D (some ⟨b3, o3, none⟩) (some ⟨b, o, none⟩) c d g (cnN f (k + 1)) w9) := by rw [← hw9]; exact ((HN0.out y3).set hhn (v + 1)).cong (fun j _ => by rw [← HV.out]; exact cnN_succ HH.out j)
        have N9 : ∀ y : Ext w9, NI w D (some ⟨b3, o3, none⟩) (some ⟨b, o, none⟩) c d g (cnN f (k + 1)) y.v := fun y => HN9.out.below y.b
        have HN9x := Lib.hid N9
        obtain ⟨u, hu⟩ : ∃ u, v + 1 = u := ⟨_, rfl⟩
        have hv1 : cnN f (k + 1) h = u := by rw [← cnN_succ HH.out h, if_pos rfl, HV.out, hu]
        have HNA' : Hid (newAt D f k = decide (¬ D.rm h < u)) := by have e := HNA.out; subst hu; exact e.trans (decide_eq_decide.2 (by omega))
        replace B0 : ∀ y : Ext w9, y.v.cell? ⟨w.heap.size, 0, none⟩ = some (.slice (some ⟨b3, o3, none⟩) D.n c) := fun y => (N9 y).b0
        replace B1 : ∀ y : Ext w9, y.v.cell? ⟨w.heap.size, 1, none⟩ = some (.slice (some ⟨b, o, none⟩) D.m d) := fun y => (N9 y).b1
        replace E4 : ∀ y : Ext w9, y.v.cell? ⟨b2, o2 + k, none⟩ = some (.int .i64 (h : Int)) := fun y => by rw [← HH.out]; exact ((HF.out _ (N9 y).bl).cell hlt).2
        replace L0 : ∀ y : Ext w9, y.v.cell? ⟨g, h, none⟩ = some (.int .i64 u) := fun y => by rw [← hv1]; exact (N9 y).r.c h hhn
        replace R0 : ∀ y : Ext w9, y.v.cell? ⟨b3, o3 + h, none⟩ = some (.int .i64 (D.rm h)) := fun y => ((HI.out _ (N9 y).bl).rm.cell hhn).2
        obtain ⟨z9, hz9⟩ := rebase w9
        clear N9 hv1 C1 C2 LF
        try rw [hw9]
        clear hw9 HNA hu
        rw [hz9]; clear hz9
        refine quiet_e (by kernel_rfl) (by kernel_rfl) ?_
        repeat (first | go_big_quiet_step (fail) | quiet_step (fail))
        refine wpQuiet_nil ?_
        intro w6 hw6
        obtain ⟨y5, rfl⟩ := hw6
        by_cases hgt : D.rm h < u
        · have HR := Lib.hid (show allN (newAt D f) D.m = false from allN_bad hlt (by rw [HNA'.out]; simpa using hgt))
          have j5 : decide (D.rm h < u) = true := by simpa using hgt
          go_wp2
          go_ret
          exact ⟨ret_b HR.out.symm, (HN9x.out y5).bl⟩
        · have HR := Lib.hid (show allN (newAt D f) (k + 1) = true from allN_succ HAL.out (by rw [HNA'.out]; simpa using hgt))
          have j5 : decide (D.rm h < u) = false := by simpa using hgt
          go_wp2
          go_roundw
          case rel => exact ⟨k + 1, by go_num, hlt, HR.out, HN9x.out y5⟩
          case measure => first | (simp [intOf]; done) | (simp [intOf]; omega)
    · have HR := Lib.hid (show allN (newAt D f) D.m = true by have := HAL.out; rwa [show k = D.m by omega] at this)
      have j : decide ((k : Int) < (D.m : Int)) = false := by simp; omega
      clear hk
      go_wp2
      go_ret
      exact ⟨ret_b HR.out.symm, HN.out.bl⟩
theorem isNewR_any (D : Ro) (p q lp : Option Addr) (c d l lc : Nat) (f : Nat → Int) (w : World) (hD : OkP D) (hi : RoIn w w.heap.size D p q) (hf : NumIn w w.heap.size l f lp) :
    Calls Try.prog 23 #[.agg #[.slice p D.n c, .slice q D.m d], .slice lp l lc] w fun e w' => e = .returned (.bool (isNw D l f)) ∧ Below w.heap.size w w' := by
  by_cases e : l = D.m
  · subst e; rw [isNw_eq]; exact isNewR_eq D p q lp c d lc f w hD hi hf
  · obtain ⟨w1, x1, hw1, hb1, hz1, F0, F1, _⟩ := box_ro w p q D.n D.m c d
    have HB := Lib.hid hb1
    have HR := Lib.hid (isNw_len (f := f) e)
    have j : ((l : Int) != (D.m : Int)) = true := by simp; omega
    clear e hb1 hz1
    go_enter Try.func23, Try.ntmps23
    go_wp2
    go_ret
    exact ⟨ret_b HR.out.symm, bT HB.out x1.b⟩
end Go.Proofs.Ytegkgfiaegpihaa
