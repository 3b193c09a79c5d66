/- Rosters of hours: two streets that exchange their hours; Swap of the program. -/
import Derived.Test.YtegkgfiaegpihaaM7

import Derived.Test.YtegkgfiaegpihaaF8

set_option linter.unusedSimpArgs false

set_option linter.unusedVariables false

namespace Go.Proofs.Ytegkgfiaegpihaa

open Go.RowKit

/-- two streets have exchanged their hours -/
def exch (f : Nat → Int) (a b : Nat) : Nat → Int := fun i => if i = a then f b else if i = b then f a else f i
def swB (D : Ro) (f : Nat → Int) (a b : Nat) : Bool := isNw D D.m (exch f a b) && decide (costF D (exch f a b) D.m < costF D f D.m)
/-- no two of these streets better it -/
def NoSw (D : Ro) (f : Nat → Int) : Prop := ∀ a b, a < b → b < D.m → swB D f a b = false
/-- the first two that better it -/
structure FstSw (D : Ro) (f : Nat → Int) (a b : Nat) : Prop where
  ab : a < b
  bm : b < D.m
  good : swB D f a b = true
  fst : ∀ a' b', a' < b' → b' < D.m → (a' < a ∨ (a' = a ∧ b' < b)) → swB D f a' b' = false
/-- the cells of a list in which two have exchanged -/
theorem exch_at {w : World} {g m : Nat} {f : Nat → Int} (h : NumAt w g 0 m f) (hf : ∀ i, w.frozen? ⟨g, i, none⟩ = false) {a b : Nat} (ha : a < m) (hb : b < m) (hab : a ≠ b) :
    NumAt ((w.setCell ⟨g, a, none⟩ (.int .i64 (f b))).setCell ⟨g, b, none⟩ (.int .i64 (f a))) g 0 m (exch f a b) := by
  have ca := h a ha; have cb := h b hb
  rw [Nat.zero_add] at ca cb
  intro i hi
  have ci := h i hi
  rw [Nat.zero_add] at ci ⊢
  unfold exch
  by_cases e1 : i = a
  · subst e1
    rw [if_pos rfl, World.cell?_setCell_other _ _ _ _ (by simp; try omega)]
    go_simp
  · rw [if_neg e1]
    by_cases e2 : i = b
    · subst e2
      rw [if_pos rfl]
      have c2 : (w.setCell ⟨g, a, none⟩ (.int .i64 (f i))).cell? ⟨g, i, none⟩ = some (.int .i64 (f i)) := by rw [World.cell?_setCell_other _ _ _ _ (by simp; try omega)]; exact cb
      have f2 : (w.setCell ⟨g, a, none⟩ (.int .i64 (f i))).frozen? ⟨g, i, none⟩ = false := by simpa using hf i
      go_simp
    · rw [if_neg e2, World.cell?_setCell_other _ _ _ _ (by simp; try omega), World.cell?_setCell_other _ _ _ _ (by simp; try omega)]
      exact ci
theorem set_pair {w : World} {b : Nat} {a0 a1 u v : Value} (h0 : w.cell? ⟨b, 0, none⟩ = some a0) (h1 : w.cell? ⟨b, 1, none⟩ = some a1) (hf : ∀ i, w.frozen? ⟨b, i, none⟩ = false) :
    ((w.setCell ⟨b, 0, none⟩ u).setCell ⟨b, 1, none⟩ v).cell? ⟨b, 0, none⟩ = some u ∧ ((w.setCell ⟨b, 0, none⟩ u).setCell ⟨b, 1, none⟩ v).cell? ⟨b, 1, none⟩ = some v := ⟨by go_simp, by go_simp⟩
set_option maxRecDepth 100000 in
set_option maxHeartbeats 16000000 in
theorem swapOf_any (D : Ro) (p q lp : Option Addr) (c d lc : Nat) (f : Nat → Int) (w : World) (hD : OkP D) (hN : NR D f) (hI : RoIn w w.heap.size D p q) (hL : NumIn w w.heap.size D.m f lp) :
    Calls Try.prog 74 #[.agg #[.slice p D.n c, .slice q D.m d], .slice lp D.m lc] w fun e w' => ((∃ a b : Nat, FstSw D f a b ∧ e = .returned (.tuple #[.agg #[.int .i64 (a : Int), .int .i64 (b : Int)], .bool true])) ∨ (NoSw D f ∧ e = .returned (.tuple #[.agg #[.int .i64 0, .int .i64 0], .bool false]))) ∧ Below w.heap.size w w' := by
  obtain ⟨wa, xa, hw1, hba, hza, A0, A1, _⟩ := box_ro w p q D.n D.m c d
  obtain ⟨w1, x1, hw2, hb2, hz2, P0, P1, Pf⟩ := box_pair xa.v 0 0
  have hb1 : Below wa.heap.size wa w1 := bT xa.b hb2
  have F0 : ∀ z : Ext w1, z.v.cell? ⟨w.heap.size, 0, none⟩ = some (.slice p D.n c) := fun z => A0 (z.up hb1)
  have F1 : ∀ z : Ext w1, z.v.cell? ⟨w.heap.size, 1, none⟩ = some (.slice q D.m d) := fun z => A1 (z.up hb1)
  have HW : Hid (∀ z : Ext w1, Below w.heap.size w z.v) := fun z => bT hba (bT hb1 z.b)
  have HI : Hid (∀ z : Ext w1, RoIn z.v z.v.heap.size D p q) := fun z => (hI.bel (bT hba hb1)).bel z.b
  have HL : Hid (∀ z : Ext w1, NumIn z.v z.v.heap.size D.m f lp) := fun z => (hL.bel (bT hba hb1)).bel z.b
  have HZ : Hid (w.heap.size ≤ xa.v.heap.size ∧ xa.v.heap.size < w1.heap.size) := by have := hba.size; have := xa.b.size; exact ⟨by omega, by omega⟩
  clear A0 A1 hba hza hb2 hz2 hb1 hI hL
  have HD := Lib.hid hD
  have hm6 := hD.m
  obtain ⟨cs, hcs⟩ : ∃ x, costF D f D.m = x := ⟨_, rfl⟩
  have HC := Lib.hid (fun z : Ext w1 => costP_any D p q lp c d lc f z.v hD (hN.inH hD) (HI.out z) (HL.out z))
  rw [hcs] at HC
  have HCS := Lib.hid hcs
  clear hcs hN hD
  go_enter Try.func74, Try.ntmps74
  go_wp2_with fail
  refine (quiet_x (HC.out _)).mono ?_
  rintro e w' ⟨rfl, y, rfl⟩
  go_wp2
  clear hw1 hw2
  go_loopw [15] (fun v wr => ∃ a : Nat, v = .int .i64 (a : Int) ∧ a ≤ D.m ∧ (∀ a' b', a' < b' → b' < D.m → a' < a → swB D f a' b' = false) ∧ ∃ z : Ext w1, wr = z.v) (fun v _ => D.m - (intOf v).toNat)
  case atStart => exact ⟨0, rfl, Nat.zero_le _, fun _ _ _ _ h => absurd h (Nat.not_lt_zero _), y, rfl⟩
  case round =>
    obtain ⟨a, rfl, ha, hbef, z, rfl⟩ := hrel
    have HBEF := Lib.hid hbef; clear hbef
    by_cases hlt : a < D.m
    · have j : decide ((a : Int) < (D.m : Int)) = true := by simp; omega
      have ham : (a : Int) < (D.m : Int) := by omega
      have ew : IntKind.i64.wrap ((a : Int) + 1) = ((a + 1 : Nat) : Int) := by rw [IntWalk.i64_in _ (by omega)]; omega
      go_wp2
      go_loopw [8] (fun v wr => ∃ b : Nat, v = .int .i64 (b : Int) ∧ a < b ∧ b ≤ D.m ∧ (∀ b', a < b' → b' < b → swB D f a b' = false) ∧ ∃ z : Ext w1, wr = z.v) (fun v _ => D.m - (intOf v).toNat)
      case atStart => exact ⟨a + 1, by first | rfl | go_num, Nat.lt_succ_self _, hlt, fun _ h1 h2 => by omega, z, rfl⟩
      case round =>
        clear ew j
        obtain ⟨b, rfl, hab, hb, hbef2, z2, rfl⟩ := hrel
        have HB2 := Lib.hid hbef2; clear hbef2
        by_cases hlb : b < D.m
        · have jb : decide ((b : Int) < (D.m : Int)) = true := by simp; omega
          have hbm : (b : Int) < (D.m : Int) := by omega
          obtain ⟨lb, lo, rfl, _, _⟩ := (HL.out z2) (by omega)
          go_wp2_with fail
          refine (clone_any D.m lc f lb lo _ (by omega) (HL.out z2)).mono ?_
          rintro e wk ⟨yk, ck, rfl, hnk⟩
          obtain ⟨g, rfl, hg1, hg2, hgn, hgf⟩ := hnk.here (by omega)
          have hbk := bT z2.b hnk.below
          have hgw : w1.heap.size ≤ g := Nat.le_trans z2.b.size hg1
          have ca : ∀ y : Ext wk, y.v.cell? ⟨g, a, none⟩ = some (.int .i64 (f a)) := fun y => by have := hgn.below y.b hg2 a hlt; rwa [Nat.zero_add] at this
          have cb : ∀ y : Ext wk, y.v.cell? ⟨g, b, none⟩ = some (.int .i64 (f b)) := fun y => by have := hgn.below y.b hg2 b hlb; rwa [Nat.zero_add] at this
          have cf : ∀ (y : Ext wk) i, y.v.frozen? ⟨g, i, none⟩ = false := fun y i => (y.b.frozen (p := ⟨g, i, none⟩) hg2).trans (hgf i)
          have cb2 : ∀ y : Ext wk, (y.v.setCell ⟨g, a, none⟩ (.int .i64 (f b))).cell? ⟨g, b, none⟩ = some (.int .i64 (f b)) := fun y => by rw [World.cell?_setCell_other _ _ _ _ (by simp; try omega)]; exact cb y
          obtain ⟨y0, hy0⟩ : ∃ y : Ext wk, wk.drew = y.v := ⟨⟨wk.drew, bd (Below.refl _ _)⟩, rfl⟩
          have hex := exch_at (hgn.below y0.b hg2) (cf y0) hlt hlb (by omega)
          have hsz : ((y0.v.setCell ⟨g, a, none⟩ (.int .i64 (f b))).setCell ⟨g, b, none⟩ (.int .i64 (f a))).heap.size = y0.v.heap.size := by simp
          obtain ⟨z9, hz9⟩ : ∃ z : Ext w1, (y0.v.setCell ⟨g, a, none⟩ (.int .i64 (f b))).setCell ⟨g, b, none⟩ (.int .i64 (f a)) = z.v := ⟨⟨_, bS (bS (bT hbk y0.b) hgw _) hgw _⟩, rfl⟩
          rw [hz9] at hex hsz
          have HEX : Hid (NumIn z9.v z9.v.heap.size D.m (exch f a b) (some ⟨g, 0, none⟩)) := fun _ => ⟨g, 0, rfl, by rw [hsz]; exact Nat.lt_of_lt_of_le hg2 y0.b.size, hex⟩
          clear hnk hgn hex hsz hg1 hg2 hgf hbk
          go_upto_region 9 with fail
          refine wp_region_last (fun w' => ∃ y : Ext wk, w' = y.v ∨ w' = y.v.setCell ⟨g, a, none⟩ (.int .i64 (f b))) 15 (by kernel_rfl) rfl ⟨⟨wk.drew, bd (Below.refl _ _)⟩, Or.inl rfl⟩ (fun _ => ?_)
          rw [hy0]
          clear hy0
          refine wpAnyG_take (i := 0) (v := ?_) (by kernel_rfl) rfl (by kernel_rfl) (by kernel_rfl) (by kernel_rfl) (fun _ _ _ h => h) (Or.inl ⟨by rfl, ?_⟩) ⟨y0, Or.inl rfl⟩ ?_
          rotate_left
          · rintro wS ⟨yS, rfl | rfl⟩
            · go_simp
              try (with_reducible rfl)
            · go_simp
              try (with_reducible rfl)
          try simp only [Act.put, List.setIfInBounds_toArray, List.set_cons_zero, List.set_cons_succ]
          refine wpAnyG_take (i := 1) (v := ?_) (by kernel_rfl) rfl (by kernel_rfl) (by kernel_rfl) (by kernel_rfl) (fun _ _ _ h => h) (Or.inl ⟨by rfl, ?_⟩) ⟨y0, Or.inl rfl⟩ ?_
          rotate_left
          · rintro wS ⟨yS, rfl | rfl⟩
            · go_simp
              try (with_reducible rfl)
            · go_simp
              try (with_reducible rfl)
          try simp only [Act.put, List.setIfInBounds_toArray, List.set_cons_zero, List.set_cons_succ]
          refine wpAnyG_take (i := 2) (v := ?_) (by kernel_rfl) rfl (by kernel_rfl) (by kernel_rfl) (by kernel_rfl) (fun _ _ _ h => h) (Or.inl ⟨by rfl, ?_⟩) ⟨y0, Or.inl rfl⟩ ?_
          rotate_left
          · rintro wS ⟨yS, rfl | rfl⟩
            · go_simp
              try (with_reducible rfl)
            · go_simp
              try (with_reducible rfl)
          try simp only [Act.put, List.setIfInBounds_toArray, List.set_cons_zero, List.set_cons_succ]
          refine wpAnyG_take (i := 3) (v := ?_) (by kernel_rfl) rfl (by kernel_rfl) (by kernel_rfl) (by kernel_rfl) (fun _ _ _ h => h) (Or.inl ⟨by rfl, ?_⟩) ⟨y0, Or.inl rfl⟩ ?_
          rotate_left
          · rintro wS ⟨yS, rfl | rfl⟩
            · go_simp
              try (with_reducible rfl)
            · go_simp
              try (with_reducible rfl)
          try simp only [Act.put, List.setIfInBounds_toArray, List.set_cons_zero, List.set_cons_succ]
          refine wpAnyG_take (i := 4) (v := ?_) (by kernel_rfl) rfl (by kernel_rfl) (by kernel_rfl) (by kernel_rfl) (fun _ _ _ h => h) (Or.inl ⟨by rfl, ?_⟩) ⟨y0, Or.inl rfl⟩ ?_
          rotate_left
          · rintro wS ⟨yS, rfl | rfl⟩
            · go_simp
              try (with_reducible rfl)
            · go_simp
              try (with_reducible rfl)
          try simp only [Act.put, List.setIfInBounds_toArray, List.set_cons_zero, List.set_cons_succ]
          refine wpAnyG_take (i := 5) (v := ?_) (by kernel_rfl) rfl (by kernel_rfl) (by kernel_rfl) (by kernel_rfl) (fun _ _ _ h => h) (Or.inl ⟨by rfl, ?_⟩) ⟨y0, Or.inl rfl⟩ ?_
          rotate_left
          · rintro wS ⟨yS, rfl | rfl⟩
            · go_simp
              try (with_reducible rfl)
            · go_simp
              try (with_reducible rfl)
          try simp only [Act.put, List.setIfInBounds_toArray, List.set_cons_zero, List.set_cons_succ]
          refine wpAnyG_take (i := 6) (v := ?_) (by kernel_rfl) rfl (by kernel_rfl) (by kernel_rfl) (by kernel_rfl) (fun _ _ _ h => h) (Or.inl ⟨by rfl, ?_⟩) ⟨y0, Or.inl rfl⟩ ?_
          rotate_left
          · rintro wS ⟨yS, rfl | rfl⟩
            · go_simp
              try (with_reducible rfl)
            · go_simp
              try (with_reducible rfl)
          try simp only [Act.put, List.setIfInBounds_toArray, List.set_cons_zero, List.set_cons_succ]
          refine wpAnyG_take (i := 7) (v := ?_) (by kernel_rfl) rfl (by kernel_rfl) (by kernel_rfl) (by kernel_rfl) (fun _ _ _ h => h) (Or.inl ⟨by rfl, ?_⟩) ⟨y0, Or.inl rfl⟩ ?_
          rotate_left
          · rintro wS ⟨yS, rfl | rfl⟩
            · go_simp
              try (with_reducible rfl)
            · go_simp
              try (with_reducible rfl)
          try simp only [Act.put, List.setIfInBounds_toArray, List.set_cons_zero, List.set_cons_succ]
          refine wpAnyG_take (i := 8) (v := ?_) (by kernel_rfl) rfl (by kernel_rfl) (by kernel_rfl) (by kernel_rfl) (fun _ _ _ h => h) (Or.inl ⟨by rfl, ?_⟩) ⟨y0, Or.inl rfl⟩ ?_
          rotate_left
          · rintro wS ⟨yS, rfl | rfl⟩
            · go_simp
              try (with_reducible rfl)
            · go_simp
              try (with_reducible rfl)
          try simp only [Act.put, List.setIfInBounds_toArray, List.set_cons_zero, List.set_cons_succ]
          refine wpAnyG_take (i := 9) (v := ?_) (by kernel_rfl) rfl (by kernel_rfl) (by kernel_rfl) (by kernel_rfl) (fun _ _ _ h => h) (Or.inl ⟨by rfl, ?_⟩) ⟨y0, Or.inl rfl⟩ ?_
          rotate_left
          · rintro wS ⟨yS, rfl | rfl⟩
            · go_simp
              try (with_reducible rfl)
            · go_simp
              try (with_reducible rfl)
          try simp only [Act.put, List.setIfInBounds_toArray, List.set_cons_zero, List.set_cons_succ]
          refine wpAnyG_take (i := 10) (v := ?_) (by kernel_rfl) rfl (by kernel_rfl) (by kernel_rfl) (by kernel_rfl) (fun _ _ _ h => h) (Or.inl ⟨by rfl, ?_⟩) ⟨y0, Or.inl rfl⟩ ?_
          rotate_left
          · rintro wS ⟨yS, rfl | rfl⟩
            · go_simp
              try (with_reducible rfl)
            · go_simp
              try (with_reducible rfl)
          try simp only [Act.put, List.setIfInBounds_toArray, List.set_cons_zero, List.set_cons_succ]
          refine wpAnyG_one (i := 11) (by kernel_rfl) (by decide) (wpOp_plain rfl rfl ?_)
          go_simp
          refine ⟨⟨y0, Or.inl rfl⟩, ?_⟩
          try simp only [Act.put, List.setIfInBounds_toArray, List.set_cons_zero, List.set_cons_succ]
          refine wpAnyG_one (i := 12) (by kernel_rfl) (by decide) (wpOp_plain rfl rfl ?_)
          go_simp
          refine ⟨⟨y0, Or.inl rfl⟩, ?_⟩
          try simp only [Act.put, List.setIfInBounds_toArray, List.set_cons_zero, List.set_cons_succ]
          refine wpAnyG_one (i := 13) (by kernel_rfl) (by decide) (wpOp_plain rfl rfl ?_)
          go_simp
          refine ⟨⟨y0, Or.inr rfl⟩, ?_⟩
          try simp only [Act.put, List.setIfInBounds_toArray, List.set_cons_zero, List.set_cons_succ]
          refine wpAnyG_one (i := 14) (by kernel_rfl) (by decide) (wpOp_plain rfl rfl ?_)
          go_simp
          refine ⟨⟨y0, Or.inr rfl⟩, ?_⟩
          try simp only [Act.put, List.setIfInBounds_toArray, List.set_cons_zero, List.set_cons_succ]
          refine wpAnyG_done (by kernel_rfl) (by kernel_rfl) (wpOp_plain rfl rfl ?_)
          go_simp
          clear ca cb cf cb2
          obtain ⟨ne, hne⟩ : ∃ x, isNw D D.m (exch f a b) = x := ⟨_, rfl⟩
          have HNE := Lib.hid hne
          cases ne with
          | false =>
            have HV := Lib.hid (show swB D f a b = false from by simp [swB, hne])
            clear hne
            go_wp2_with fail
            refine (quiet_x (isNewP_is HNE.out _ HD.out (HI.out _) HEX.out)).mono ?_
            rintro e w' ⟨rfl, y6, rfl⟩
            go_wp2
            go_roundw
            case rel => exact ⟨b + 1, by go_num, by omega, hlb, fun b' h1 h2 => (by rcases Nat.lt_succ_iff_lt_or_eq.1 h2 with h3 | rfl; (exact HB2.out b' h1 h3); (exact HV.out)), y6, rfl⟩
            case measure => first | (simp [intOf]; done) | (simp [intOf]; omega)
          | true =>
            have hnr := ((isNw_iff HD.out).1 hne).2
            obtain ⟨ce, hce⟩ : ∃ x, costF D (exch f a b) D.m = x := ⟨_, rfl⟩
            have HCE := Lib.hid (fun (V : World) hV hY => costP_any D p q (some ⟨g, 0, none⟩) c d ck (exch f a b) V HD.out (hnr.inH HD.out) hV hY)
            rw [hce] at HCE
            by_cases hlc : ce < cs
            · have jc : decide (ce < cs) = true := by simpa using hlc
              have HV := Lib.hid (show swB D f a b = true from by simp [swB, hne, hce, HCS.out]; exact hlc)
              clear hne hce hnr
              go_wp2_with fail
              refine (isNewP_is HNE.out _ HD.out (HI.out _) HEX.out).mono ?_
              rintro e w5 ⟨rfl, hb5⟩
              have HEX5 := Lib.hid (HEX.out.bel hb5)
              obtain ⟨y5, rfl⟩ : ∃ z : Ext w1, w5 = z.v := ⟨⟨w5, bT z9.b hb5⟩, rfl⟩
              clear hb5
              go_wp2_with fail
              refine (quiet_x (HCE.out _ (HI.out _) HEX5.out)).mono ?_
              rintro e w' ⟨rfl, y6, rfl⟩
              obtain ⟨q0, q1⟩ := set_pair (u := .int .i64 (a : Int)) (v := .int .i64 (b : Int)) (P0 y6) (P1 y6) (Pf y6)
              have HQ : Hid (Below w.heap.size w ((y6.v.setCell ⟨xa.v.heap.size, 0, none⟩ (.int .i64 (a : Int))).setCell ⟨xa.v.heap.size, 1, none⟩ (.int .i64 (b : Int)))) := bS (bS (HW.out y6) HZ.out.1 _) HZ.out.1 _
              have p0 := P0 y6; have p1 := P1 y6; have pf := Pf y6
              go_wp2
              exact bodyPost_ret (v := .tuple #[.agg #[.int .i64 (a : Int), .int .i64 (b : Int)], .bool true]) (by simp [results, Try.f74, go_sem, q0, q1]) rfl ⟨.inl ⟨a, b, ⟨by omega, hlb, HV.out, fun a2 b2 h1 h2 h3 => (by rcases h3 with h3 | ⟨rfl, h3⟩; (exact HBEF.out a2 b2 h1 h2 h3); (exact HB2.out b2 h1 h3))⟩, rfl⟩, HQ.out⟩
            · have jc : decide (ce < cs) = false := by simpa using hlc
              have HV := Lib.hid (show swB D f a b = false from by simp [swB, hne, hce, HCS.out]; omega)
              clear hne hce hnr
              go_wp2_with fail
              refine (isNewP_is HNE.out _ HD.out (HI.out _) HEX.out).mono ?_
              rintro e w5 ⟨rfl, hb5⟩
              have HEX5 := Lib.hid (HEX.out.bel hb5)
              obtain ⟨y5, rfl⟩ : ∃ z : Ext w1, w5 = z.v := ⟨⟨w5, bT z9.b hb5⟩, rfl⟩
              clear hb5
              go_wp2_with fail
              refine (quiet_x (HCE.out _ (HI.out _) HEX5.out)).mono ?_
              rintro e w' ⟨rfl, y6, rfl⟩
              go_wp2
              go_roundw
              case rel => exact ⟨b + 1, by go_num, by omega, hlb, fun b' h1 h2 => (by rcases Nat.lt_succ_iff_lt_or_eq.1 h2 with h3 | rfl; (exact HB2.out b' h1 h3); (exact HV.out)), y6, rfl⟩
              case measure => first | (simp [intOf]; done) | (simp [intOf]; omega)
        · have hbe : b = D.m := by omega
          subst hbe
          have jb : decide ((D.m : Int) < (D.m : Int)) = false := by simp
          go_wp2
          go_roundw
          case rel => exact ⟨a + 1, by go_num, hlt, fun a' b' h1 h2 h3 => (by rcases Nat.lt_succ_iff_lt_or_eq.1 h3 with h4 | rfl; (exact HBEF.out a' b' h1 h2 h4); (exact HB2.out b' h1 h2)), z2, rfl⟩
          case measure => first | (simp [intOf]; done) | (simp [intOf]; omega)
    · have hae : a = D.m := by omega
      subst hae
      have j : decide ((D.m : Int) < (D.m : Int)) = false := by simp
      obtain ⟨q0, q1⟩ := set_pair (u := .int .i64 0) (v := .int .i64 0) (P0 z) (P1 z) (Pf z)
      have HQ : Hid (Below w.heap.size w ((z.v.setCell ⟨xa.v.heap.size, 0, none⟩ (.int .i64 0)).setCell ⟨xa.v.heap.size, 1, none⟩ (.int .i64 0))) := bS (bS (HW.out z) HZ.out.1 _) HZ.out.1 _
      have p0 := P0 z; have p1 := P1 z; have pf := Pf z
      go_wp2
      exact bodyPost_ret (v := .tuple #[.agg #[.int .i64 0, .int .i64 0], .bool false]) (by simp [results, Try.f74, go_sem, q0, q1]) rfl ⟨.inr ⟨fun a2 b2 h1 h2 => HBEF.out a2 b2 h1 h2 (by omega), rfl⟩, HQ.out⟩
theorem orNone_pair (a b : Int) (w : World) : Calls Try.prog 73 #[.agg #[.int .i64 a, .int .i64 b], .bool true] w fun e w' => e = .returned (.tuple #[.agg #[.int .i64 a, .int .i64 b], .int .i64 0]) ∧ Below w.heap.size w w' := by
  obtain ⟨wa, xa, hw1, hba, hza, A0, A1, Af⟩ := box_pair w a b
  obtain ⟨w1, x1, hw2, hb2, hz2, P0, P1, Pf⟩ := box_pair xa.v 0 0
  have hb1 : Below wa.heap.size wa w1 := bT xa.b hb2
  have HW : Hid (∀ z : Ext w1, Below w.heap.size w z.v) := fun z => bT hba (bT hb1 z.b)
  have F0 : ∀ z : Ext w1, z.v.cell? ⟨w.heap.size, 0, none⟩ = some (.int .i64 a) := fun z => A0 (z.up hb1)
  have F1 : ∀ z : Ext w1, z.v.cell? ⟨w.heap.size, 1, none⟩ = some (.int .i64 b) := fun z => A1 (z.up hb1)
  obtain ⟨q0, q1⟩ := set_pair (u := .int .i64 a) (v := .int .i64 b) (P0 x1) (P1 x1) (Pf x1)
  have hz := hba.size; have hxz := xa.b.size
  have HQ : Hid (Below w.heap.size w ((x1.v.setCell ⟨xa.v.heap.size, 0, none⟩ (.int .i64 a)).setCell ⟨xa.v.heap.size, 1, none⟩ (.int .i64 b))) := bS (bS (HW.out x1) (by simp; omega) _) (by simp; omega) _
  have f0 := F0 x1; have f1 := F1 x1; have p0 := P0 x1; have p1 := P1 x1; have pf := Pf x1
  clear hz hxz hba hza hb1 hb2 hz2
  go_enter Try.func73, Try.ntmps73
  go_wp2
  exact bodyPost_ret (v := .tuple #[.agg #[.int .i64 a, .int .i64 b], .int .i64 0]) (by simp [results, Try.f73, go_sem, q0, q1]) rfl ⟨rfl, HQ.out⟩
theorem orNone_nop (a b : Int) (w : World) : Calls Try.prog 73 #[.agg #[.int .i64 a, .int .i64 b], .bool false] w fun e w' => e = .returned (.tuple #[.agg #[.int .i64 0, .int .i64 0], .int .i64 3]) ∧ Below w.heap.size w w' := by
  obtain ⟨wa, xa, hw1, hba, hza, A0, A1, Af⟩ := box_pair w a b
  obtain ⟨w1, x1, hw2, hb2, hz2, P0, P1, Pf⟩ := box_pair xa.v 0 0
  have hb1 : Below wa.heap.size wa w1 := bT xa.b hb2
  have HW : Hid (∀ z : Ext w1, Below w.heap.size w z.v) := fun z => bT hba (bT hb1 z.b)
  obtain ⟨wc, xc, hw3, hb3, hz3, C0, C1, Cf⟩ := box_pair x1.v 0 0
  have hb4 : Below w1.heap.size w1 wc := bT x1.b hb3
  have hb5 : Below w1.heap.size w1 xc.v := bT hb4 xc.b
  obtain ⟨q0, q1⟩ := set_pair (u := .int .i64 0) (v := .int .i64 0) (P0 ⟨_, hb5⟩) (P1 ⟨_, hb5⟩) (Pf ⟨_, hb5⟩)
  have hz := hba.size; have hxz := xa.b.size
  have HQ : Hid (Below w.heap.size w ((xc.v.setCell ⟨xa.v.heap.size, 0, none⟩ (.int .i64 0)).setCell ⟨xa.v.heap.size, 1, none⟩ (.int .i64 0))) := bS (bS (HW.out ⟨_, hb5⟩) (by simp; omega) _) (by simp; omega) _
  have f0 := C0 xc; have f1 := C1 xc
  have p0 : xc.v.cell? ⟨xa.v.heap.size, 0, none⟩ = some (.int .i64 0) := P0 ⟨_, hb5⟩; have p1 : xc.v.cell? ⟨xa.v.heap.size, 1, none⟩ = some (.int .i64 0) := P1 ⟨_, hb5⟩; have pf : ∀ i, xc.v.frozen? ⟨xa.v.heap.size, i, none⟩ = false := Pf ⟨_, hb5⟩
  clear hz hxz hba hza hb1 hb2 hz2
  go_enter Try.func73, Try.ntmps73
  go_wp2
  exact bodyPost_ret (v := .tuple #[.agg #[.int .i64 0, .int .i64 0], .int .i64 3]) (by simp [results, Try.f73, go_sem, q0, q1]) rfl ⟨rfl, HQ.out⟩
set_option maxRecDepth 100000 in
set_option maxHeartbeats 8000000 in
theorem swapP_any (D : Ro) (p q lp : Option Addr) (c d lc : Nat) (f : Nat → Int) (w : World) (hD : OkP D) (hN : NR D f) (hI : RoIn w w.heap.size D p q) (hL : NumIn w w.heap.size D.m f lp) :
    Calls Try.prog 34 #[.agg #[.slice p D.n c, .slice q D.m d], .slice lp D.m lc] w fun e w' => ((∃ a b : Nat, FstSw D f a b ∧ e = .returned (.tuple #[.agg #[.int .i64 (a : Int), .int .i64 (b : Int)], .int .i64 0])) ∨ (NoSw D f ∧ e = .returned (.tuple #[.agg #[.int .i64 0, .int .i64 0], .int .i64 3]))) ∧ Below w.heap.size w w' := by
  obtain ⟨wa, xa, hw1, hba, hza, A0, A1, _⟩ := box_ro w p q D.n D.m c d
  obtain ⟨w1, x1, hw2, hb2, hz2, P0, P1, Pf⟩ := box_pair xa.v 0 0
  have hb1 : Below wa.heap.size wa w1 := bT xa.b hb2
  have F0 : ∀ z : Ext w1, z.v.cell? ⟨w.heap.size, 0, none⟩ = some (.slice p D.n c) := fun z => A0 (z.up hb1)
  have F1 : ∀ z : Ext w1, z.v.cell? ⟨w.heap.size, 1, none⟩ = some (.slice q D.m d) := fun z => A1 (z.up hb1)
  have HW : Hid (∀ z : Ext w1, Below w.heap.size w z.v) := fun z => bT hba (bT hb1 z.b)
  have HI : Hid (∀ z : Ext w1, RoIn z.v z.v.heap.size D p q) := fun z => (hI.bel (bT hba hb1)).bel z.b
  have HL : Hid (∀ z : Ext w1, NumIn z.v z.v.heap.size D.m f lp) := fun z => (hL.bel (bT hba hb1)).bel z.b
  have HZ : Hid (w.heap.size ≤ xa.v.heap.size ∧ xa.v.heap.size < w1.heap.size) := by have := hba.size; have := xa.b.size; exact ⟨by omega, by omega⟩
  clear A0 A1 hba hza hb2 hz2 hb1 hI hL
  have HD := Lib.hid hD; have HN := Lib.hid hN
  have hm6 := hD.m; have hn8 := hD.n
  have HE := Lib.hid (newE_ok (Ro.ok_iff.2 hD) ((isNw_iff hD).2 ⟨rfl, hN⟩))
  have hn : D.n ≤ maxLen := by unfold maxLen; omega
  have hm : D.m ≤ maxLen := by unfold maxLen; omega
  have i0 : ((0 : Int) != 0) = false := by decide
  clear hN hD
  go_enter Try.func34, Try.ntmps34
  go_wp2_with fail
  refine (quiet_x (checkNew_is HE.out _ hn hm (HI.out _) (HL.out _))).mono ?_
  rintro e w' ⟨rfl, y, rfl⟩
  go_wp2_with fail
  refine (swapOf_any D p q lp c d lc f _ HD.out HN.out (HI.out _) (HL.out _)).mono ?_
  rintro e w5 ⟨⟨a, b, hfs, rfl⟩ | ⟨hno, rfl⟩, hb5⟩
  · have HFS := Lib.hid hfs; clear hfs
    obtain ⟨y5, rfl⟩ : ∃ z : Ext w1, w5 = z.v := ⟨⟨w5, bT y.b hb5⟩, rfl⟩
    clear hb5
    go_wp2_with fail
    refine (quiet_x (orNone_pair _ _ _)).mono ?_
    rintro e w' ⟨rfl, y6, rfl⟩
    obtain ⟨q0, q1⟩ := set_pair (u := .int .i64 (a : Int)) (v := .int .i64 (b : Int)) (P0 y6) (P1 y6) (Pf y6)
    have HQ : Hid (Below w.heap.size w ((y6.v.setCell ⟨xa.v.heap.size, 0, none⟩ (.int .i64 (a : Int))).setCell ⟨xa.v.heap.size, 1, none⟩ (.int .i64 (b : Int)))) := bS (bS (HW.out y6) HZ.out.1 _) HZ.out.1 _
    have p0 := P0 y6; have p1 := P1 y6; have pf := Pf y6
    go_wp2
    exact bodyPost_ret (v := .tuple #[.agg #[.int .i64 (a : Int), .int .i64 (b : Int)], .int .i64 0]) (by simp [results, Try.f34, go_sem, q0, q1]) rfl ⟨.inl ⟨a, b, HFS.out, rfl⟩, HQ.out⟩
  · have HNO := Lib.hid hno; clear hno
    obtain ⟨y5, rfl⟩ : ∃ z : Ext w1, w5 = z.v := ⟨⟨w5, bT y.b hb5⟩, rfl⟩
    clear hb5
    go_wp2_with fail
    refine (quiet_x (orNone_nop _ _ _)).mono ?_
    rintro e w' ⟨rfl, y6, rfl⟩
    obtain ⟨q0, q1⟩ := set_pair (u := .int .i64 0) (v := .int .i64 0) (P0 y6) (P1 y6) (Pf y6)
    have HQ : Hid (Below w.heap.size w ((y6.v.setCell ⟨xa.v.heap.size, 0, none⟩ (.int .i64 0)).setCell ⟨xa.v.heap.size, 1, none⟩ (.int .i64 0))) := bS (bS (HW.out y6) HZ.out.1 _) HZ.out.1 _
    have p0 := P0 y6; have p1 := P1 y6; have pf := Pf y6
    go_wp2
    exact bodyPost_ret (v := .tuple #[.agg #[.int .i64 0, .int .i64 0], .int .i64 3]) (by simp [results, Try.f34, go_sem, q0, q1]) rfl ⟨.inr ⟨HNO.out, rfl⟩, HQ.out⟩
end Go.Proofs.Ytegkgfiaegpihaa
