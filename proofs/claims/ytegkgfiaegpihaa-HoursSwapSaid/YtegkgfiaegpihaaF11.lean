/- Rosters of hours: Lack of the program. -/
import Derived.Test.YtegkgfiaegpihaaF8

import Derived.Test.YtegkgfiaegpihaaM9

set_option linter.unusedSimpArgs false

set_option linter.unusedVariables false

namespace Go.Proofs.Ytegkgfiaegpihaa

open Go.RowKit

theorem sp_at {w : World} {K n b o : Nat} {f : Nat → Int} (h : NumIn w K n f (some ⟨b, o, none⟩)) {k : Nat} (hk : k < n) : w.cell? ⟨b, o + k, none⟩ = some (.int .i64 (f k)) := (h.cell hk).2
set_option maxRecDepth 100000 in
set_option maxHeartbeats 4000000 in
theorem lacksRoom_any (D : Ro) (p q : Option Addr) (c d lo hi : Nat) (w : World) (hD : OkP D) (hlo : lo ≤ hi) (hhi : hi < D.n) (hcap : D.n ≤ c) (hi0 : RoIn w w.heap.size D p q) :
    Calls Try.prog 98 #[.agg #[.slice p D.n c, .slice q D.m d], .agg #[.int .i64 (lo : Int), .int .i64 (hi : Int)]] w fun e w' => e = .returned (.bool (lacksB D lo hi)) ∧ Below w.heap.size w w' := by
  obtain ⟨wa, xa, hw1, hba, hza, A0, A1, _⟩ := box_ro w p q D.n D.m c d
  obtain ⟨w1, x, hw2, hb2, hz2, G0, G1, _⟩ := box_span xa.v (lo : Int) (hi : Int)
  have hbx : Below wa.heap.size wa w1 := bT xa.b hb2
  have HB := Lib.hid (bT hba hbx)
  have F0 : ∀ z : Ext w1, z.v.cell? ⟨w.heap.size, 0, none⟩ = some (.slice p D.n c) := fun z => A0 (z.up hbx)
  have F1 : ∀ z : Ext w1, z.v.cell? ⟨w.heap.size, 1, none⟩ = some (.slice q D.m d) := fun z => A1 (z.up hbx)
  have HI : Hid (∀ x : Ext w1, RoIn x.v x.v.heap.size D p q) := fun x => (hi0.bel HB.out).bel x.b
  have HD := Lib.hid hD
  have hm6 := hD.m; have hn8 := hD.n
  obtain ⟨b, o, rfl, hbl, _⟩ := (hi0.rm) (by omega)
  clear hba hza hb2 hz2 hi0 hD hbx A0 A1
  obtain ⟨j, hj⟩ : ∃ j, hi + 1 - lo = j := ⟨_, rfl⟩
  have HR : Hid (∀ i, i ≤ j → 0 ≤ rmS D lo i ∧ rmS D lo i ≤ 48) := fun i hi' => by have := rmS_bd HD.out (lo := lo) (j := i) (by omega); omega
  have e1 : IntKind.i64.wrap ((hi : Int) + 1) = ((hi + 1 : Nat) : Int) := by rw [IntWalk.i64_in _ (by omega)]; omega
  have s1 : (lo : Int) ≤ ((hi + 1 : Nat) : Int) := by omega
  have s2 : hi + 1 ≤ c := by omega
  have s3 : lo ≤ hi + 1 := by omega
  go_enter Try.func98, Try.ntmps98
  go_wp2
  clear hw1 hw2
  go_loopw [5, 19] (fun v i wr => ∃ k : Nat, i = .int .i64 (k : Int) ∧ v = .int .i64 (rmS D lo k) ∧ k ≤ j ∧ ∃ z : Ext w1, wr = z.v) (fun v i _ => j - (intOf i).toNat)
  case atStart => exact ⟨0, rfl, rfl, Nat.zero_le _, x, rfl⟩
  case round =>
    obtain ⟨k, rfl, rfl, hk, z, rfl⟩ := hrel
    by_cases hlt : k < j
    · have E0 : z.v.cell? ⟨b, o + lo + k, none⟩ = some (.int .i64 (D.rm (lo + k))) := by have := sp_at (HI.out z).rm (k := lo + k) (by omega); rw [← Nat.add_assoc] at this; exact this
      have jk : decide ((k : Int) < (j : Int)) = true := by simp; omega
      have hkj : (k : Int) < (j : Int) := by omega
      have t1 : IntKind.i64.wrap (rmS D lo k + D.rm (lo + k)) = rmS D lo (k + 1) := IntWalk.i64_in _ (by have := HR.out (k + 1) hlt; simp only [rmS, sumN] at this ⊢; omega)
      go_wp2
      go_roundw
      case rel => exact ⟨k + 1, by go_num, rfl, hlt, z, rfl⟩
      case measure => first | (simp [intOf]; done) | (simp [intOf]; omega)
    · have hke : k = j := by omega
      subst hke
      have jk : decide ((k : Int) < (k : Int)) = false := by simp
      have HRJ := Lib.hid (HR.out k (Nat.le_refl _))
      clear hk hlt hbl e1 s1 s2 s3
      go_wp2
      go_loopw [5, 30] (fun v i wr => ∃ k2 : Nat, i = .int .i64 (k2 : Int) ∧ v = .int .i64 (rmS D lo k - cntS D lo hi k2) ∧ k2 ≤ D.m ∧ ∃ z : Ext w1, wr = z.v) (fun v i _ => D.m - (intOf i).toNat)
      case atStart => exact ⟨0, rfl, by simp [cntS, sumN], Nat.zero_le _, z, rfl⟩
      case round =>
        obtain ⟨k2, rfl, rfl, hk2, z2, rfl⟩ := hrel
        by_cases hlt : k2 < D.m
        · obtain ⟨b2, o2, rfl, hbl2, hc⟩ := (HI.out z2).st (by omega)
          have c0 := hc.c0 k2 hlt; have c1 := hc.c1 k2 hlt; have c2 := hc.c2 k2 hlt; have c3 := hc.c3 k2 hlt
          clear hc
          obtain ⟨w4, u, hw4, hb4, hz4, S0, S1, S2, S3, _⟩ := box_st z2.v (D.hs k2) (D.fr k2) (D.to k2) (D.co k2)
          have HB4 := Lib.hid (bT z2.b hb4)
          have g0 : u.v.cell? ⟨xa.v.heap.size, 0, none⟩ = some (.int .i64 (lo : Int)) := G0 (u.up (bT z2.b hb4))
          have g1 : u.v.cell? ⟨xa.v.heap.size, 1, none⟩ = some (.int .i64 (hi : Int)) := G1 (u.up (bT z2.b hb4))
          have jk2 : decide ((k2 : Int) < (D.m : Int)) = true := by simp; omega
          have hkm : (k2 : Int) < (D.m : Int) := by omega
          have hcs : cntS D lo hi (k2 + 1) = cntS D lo hi k2 + (if inSp D lo hi k2 then 1 else 0) := rfl
          have hcb := cntS_bd (D := D) (lo := (lo : Int)) (hi := (hi : Int)) (k := k2)
          have hrj := HRJ.out
          have t1 : IntKind.i64.wrap (rmS D lo k - cntS D lo hi k2 - 1) = rmS D lo k - cntS D lo hi k2 - 1 := IntWalk.i64_in _ (by omega)
          clear hb4 hz4 hbl2 hcb hrj
          cases h1 : decide ((lo : Int) ≤ D.fr k2) with
          | false =>
            have HS := Lib.hid (show cntS D lo hi (k2 + 1) = cntS D lo hi k2 by rw [hcs, show inSp D lo hi k2 = false by simp only [inSp, h1, Bool.false_and]]; simp)
            have n1 : ¬ (lo : Int) ≤ D.fr k2 := by simpa using h1
            clear hcs t1
            go_wp2
            go_roundw
            case rel => exact ⟨k2 + 1, by go_num, by rw [HS.out], hlt, u.up HB4.out, rfl⟩
            case measure => first | (simp [intOf]; done) | (simp [intOf]; omega)
          | true =>
            have n1 : (lo : Int) ≤ D.fr k2 := by simpa using h1
            cases h2 : decide (D.to k2 ≤ (hi : Int)) with
            | false =>
              have n2 : ¬ D.to k2 ≤ (hi : Int) := by simpa using h2
              have HS := Lib.hid (show cntS D lo hi (k2 + 1) = cntS D lo hi k2 by rw [hcs, show inSp D lo hi k2 = false by simp only [inSp, h1, h2, Bool.and_false]]; simp)
              clear hcs t1
              go_wp2
              go_roundw
              case rel => exact ⟨k2 + 1, by go_num, by rw [HS.out], hlt, u.up HB4.out, rfl⟩
              case measure => first | (simp [intOf]; done) | (simp [intOf]; omega)
            | true =>
              have n2 : D.to k2 ≤ (hi : Int) := by simpa using h2
              have HS := Lib.hid (show rmS D lo k - cntS D lo hi k2 - 1 = rmS D lo k - cntS D lo hi (k2 + 1) by rw [hcs, show inSp D lo hi k2 = true by simp only [inSp, h1, h2, Bool.and_self], if_pos rfl]; omega)
              clear hcs
              go_wp2
              go_roundw
              case rel => exact ⟨k2 + 1, by go_num, by rw [← HS.out], hlt, u.up HB4.out, rfl⟩
              case measure => first | (simp [intOf]; done) | (simp [intOf]; omega)
        · have hke : k2 = D.m := by omega
          subst hke
          have jk2 : decide ((D.m : Int) < (D.m : Int)) = false := by simp
          have HRR := Lib.hid (show decide (rmS D lo k - cntS D lo hi D.m < 0) = lacksB D lo hi by unfold lacksB; rw [hj, decide_eq_decide]; omega)
          clear hj hk2 hlt
          go_wp2
          all_goals
            go_ret
            exact ⟨ret_b (by rw [← HRR.out]), bT HB.out z2.b⟩
/-- a span lies in block b -/
structure SpnAt (w : World) (b : Nat) (x y : Int) : Prop where
  lt : b < w.heap.size
  c0 : w.cell? ⟨b, 0, none⟩ = some (.int .i64 x)
  c1 : w.cell? ⟨b, 1, none⟩ = some (.int .i64 y)
  fz : ∀ i, w.frozen? ⟨b, i, none⟩ = false
theorem SpnAt.bel {w w' : World} {b : Nat} {x y : Int} (h : SpnAt w b x y) (hb : Below w.heap.size w w') : SpnAt w' b x y :=
  ⟨Nat.lt_of_lt_of_le h.lt hb.size, (hb.cell (p := ⟨b, 0, none⟩) h.lt).trans h.c0, (hb.cell (p := ⟨b, 1, none⟩) h.lt).trans h.c1, fun i => (hb.frozen (p := ⟨b, i, none⟩) h.lt).trans (h.fz i)⟩
theorem alloc_spn {wb : World} (y : Ext wb) : ∃ z : Ext wb, y.v.alloc (Obj.cells #[.int .i64 0, .int .i64 0] 34) = z.v ∧ SpnAt z.v y.v.heap.size 0 0 ∧ Below y.v.heap.size y.v z.v :=
  ⟨⟨_, bT y.b (bA (Below.refl _ _) _)⟩, rfl, ⟨by simp, by go_simp, by go_simp, fun i => by go_simp⟩, bA (Below.refl _ _) _⟩
theorem store_spn {wb : World} (y : Ext wb) {b : Nat} {x0 y0 : Int} (h : SpnAt y.v b x0 y0) (hb : wb.heap.size ≤ b) (x1 y1 : Int) :
    ∃ z : Ext wb, (y.v.setCell ⟨b, 0, none⟩ (.int .i64 x1)).setCell ⟨b, 1, none⟩ (.int .i64 y1) = z.v ∧ SpnAt z.v b x1 y1 := by
  have h0 := h.c0; have h1 := h.c1; have hf := h.fz
  exact ⟨⟨_, bS (bS y.b hb _) hb _⟩, rfl, ⟨by simpa using h.lt, by go_simp, by go_simp, fun i => by have := h.fz i; simpa using this⟩⟩
def lkA (D : Ro) : Int := match lkT D D.n with
  | some x => (x.1 : Int)
  | none => 0
def lkB (D : Ro) : Int := match lkT D D.n with
  | some x => (x.2 : Int)
  | none => 0
theorem lacksRoom_is {D : Ro} {p q : Option Addr} {c d lo hi : Nat} {b : Bool} (h : lacksB D lo hi = b) (w : World) (hD : OkP D) (hlo : lo ≤ hi) (hhi : hi < D.n) (hcap : D.n ≤ c) (hi0 : RoIn w w.heap.size D p q) :
    Calls Try.prog 98 #[.agg #[.slice p D.n c, .slice q D.m d], .agg #[.int .i64 (lo : Int), .int .i64 (hi : Int)]] w fun e w' => e = .returned (.bool b) ∧ Below w.heap.size w w' := by
  subst h; exact lacksRoom_any D p q c d lo hi w hD hlo hhi hcap hi0
set_option maxRecDepth 100000 in
set_option maxHeartbeats 8000000 in
theorem lackOf_any (D : Ro) (p q : Option Addr) (c d : Nat) (w : World) (hD : OkP D) (hcap : D.n ≤ c) (hi0 : RoIn w w.heap.size D p q) :
    Calls Try.prog 69 #[.agg #[.slice p D.n c, .slice q D.m d]] w fun e w' => e = .returned (.tuple #[.agg #[.int .i64 (lkA D), .int .i64 (lkB D)], .bool (lkT D D.n).isSome]) ∧ Below w.heap.size w w' := by
  obtain ⟨w1, x1, hw1, hb1, hz1, F0, F1, _⟩ := box_ro w p q D.n D.m c d
  obtain ⟨x, hx, hsp, _⟩ := alloc_spn x1
  obtain ⟨sb, hsb⟩ : ∃ n, x1.v.heap.size = n := ⟨_, rfl⟩
  have HB := Lib.hid hb1
  have HSB : Hid (w1.heap.size ≤ sb) := by rw [← hsb]; exact x1.b.size
  rw [hsb] at hsp
  have HSP := Lib.hid hsp
  have HI : Hid (∀ x : Ext w1, RoIn x.v x.v.heap.size D p q) := fun x => (hi0.bel HB.out).bel x.b
  have HD := Lib.hid hD
  have hm6 := hD.m; have hn8 := hD.n
  clear hb1 hz1 hi0 hD hsp
  go_enter Try.func69, Try.ntmps69
  go_wp2
  try rw [hsb]
  clear hw1 hx hsb
  go_loopw [9] (fun v wr => ∃ k : Nat, v = .int .i64 (k : Int) ∧ k ≤ D.n ∧ lkT D k = none ∧ ∃ z : Ext w1, wr = z.v ∧ ∃ x y, SpnAt z.v sb x y) (fun v _ => D.n - (intOf v).toNat)
  case atStart => exact ⟨0, rfl, Nat.zero_le _, rfl, x, rfl, _, _, HSP.out⟩
  case round =>
    obtain ⟨k, rfl, hk, hno, z, rfl, u, v, hz⟩ := hrel
    have HNO := Lib.hid hno; have HZ := Lib.hid hz; clear hno hz
    by_cases hlt : k < D.n
    · have jk : decide ((k : Int) < (D.n : Int)) = true := by simp; omega
      go_wp2
      go_loopw [5] (fun v wr => ∃ j : Nat, v = .int .i64 ((j : Int) - 1) ∧ j ≤ k + 1 ∧ lkL D k (k + 1) = lkL D k j ∧ ∃ z : Ext w1, wr = z.v ∧ ∃ x y, SpnAt z.v sb x y) (fun v _ => ((intOf v) + 1).toNat)
      case atStart => exact ⟨k + 1, by congr 1; omega, Nat.le_refl _, rfl, z, rfl, _, _, HZ.out⟩
      case round =>
        obtain ⟨j, rfl, hj, hl, z2, rfl, u2, v2, hz2⟩ := hrel
        have HL := Lib.hid hl; have HZ2 := Lib.hid hz2; clear hl hz2
        cases j with
        | zero =>
          have HV := Lib.hid (show lkT D (k + 1) = none by rw [lkT_step HNO.out, HL.out]; rfl)
          have e0 : (((0 : Nat) : Int) - 1) = -1 := by omega
          rw [e0]
          have j0 : decide ((0 : Int) ≤ -1) = false := by decide
          go_wp2
          go_roundw
          case rel => exact ⟨k + 1, by go_num, hlt, HV.out, z2, rfl, _, _, HZ2.out⟩
          case measure => first | (simp [intOf]; done) | (simp [intOf]; omega)
        | succ j =>
          have e0 : (((j + 1 : Nat) : Int) - 1) = (j : Int) := by omega
          rw [e0]
          clear e0
          have j0 : decide ((0 : Int) ≤ (j : Int)) = true := by simp
          have n0 : (0 : Int) ≤ (j : Int) := by omega
          obtain ⟨z3, hz3, hp3⟩ := store_spn z2 HZ2.out HSB.out (j : Int) (k : Int)
          have p0 := HZ2.out.c0; have p1 := HZ2.out.c1; have pf := HZ2.out.fz
          have P0 := hp3.c0; have P1 := hp3.c1
          have HP3 := Lib.hid hp3; clear hp3
          have F03 := F0 z3; have F13 := F1 z3
          cases hb : lacksB D j k with
          | true =>
            have HLK := Lib.hid (show lkT D D.n = some (j, k) by
              have e1 : lkL D k (j + 1) = some j := by unfold lkL; rw [hb]; rfl
              have e2 : lkT D (k + 1) = some (j, k) := by rw [lkT_step HNO.out, HL.out, e1]; rfl
              have := lkT_keep e2 (D.n - (k + 1))
              rw [show k + 1 + (D.n - (k + 1)) = D.n by omega] at this
              exact this)
            have HBB := Lib.hid hb; clear hb
            have ea : lkA D = (j : Int) := by unfold lkA; rw [HLK.out]
            have eb : lkB D = (k : Int) := by unfold lkB; rw [HLK.out]
            have es : (lkT D D.n).isSome = true := by rw [HLK.out]; rfl
            have HEQ := Lib.hid (And.intro ea (And.intro eb es))
            clear ea eb es
            go_wp2_with fail
            try rw [hz3]
            refine (lacksRoom_is HBB.out _ HD.out (by omega) hlt hcap (HI.out z3)).mono ?_
            rintro e w4 ⟨rfl, hb4⟩
            obtain ⟨y4, hy4⟩ : ∃ zz : Ext w1, w4 = zz.v := ⟨⟨w4, bT z3.b hb4⟩, rfl⟩
            have hq := HP3.out.bel hb4
            rw [hy4] at hq
            have HQ := Lib.hid hq
            subst hy4
            clear hb4 hq
            obtain ⟨z5, hz5, hp5⟩ := store_spn y4 HQ.out HSB.out (j : Int) (k : Int)
            have q0 := HQ.out.c0; have q1 := HQ.out.c1; have qf := HQ.out.fz
            have Q0 := hp5.c0; have Q1 := hp5.c1
            clear P0 P1 p0 p1 pf F03 F13 hp5
            go_wp2_with fail
            try rw [hz5]
            exact bodyPost_ret (v := .tuple #[.agg #[.int .i64 (j : Int), .int .i64 (k : Int)], .bool true]) (by simp [results, Try.f69, go_sem, Q0, Q1]) rfl ⟨by rw [HEQ.out.1, HEQ.out.2.1, HEQ.out.2.2], bT HB.out z5.b⟩
          | false =>
            have HLN := Lib.hid (show lkL D k (k + 1) = lkL D k j by rw [HL.out]; show (if lacksB D j k then some j else lkL D k j) = _; rw [hb]; rfl)
            have HBB := Lib.hid hb; clear hb
            go_wp2_with fail
            try rw [hz3]
            refine (lacksRoom_is HBB.out _ HD.out (by omega) hlt hcap (HI.out z3)).mono ?_
            rintro e w4 ⟨rfl, hb4⟩
            obtain ⟨y4, hy4⟩ : ∃ zz : Ext w1, w4 = zz.v := ⟨⟨w4, bT z3.b hb4⟩, rfl⟩
            have hq := HP3.out.bel hb4
            rw [hy4] at hq
            have HQ := Lib.hid hq
            subst hy4
            clear hb4 hq
            clear P0 P1 p0 p1 pf F03 F13
            go_wp2
            go_roundw
            case rel => exact ⟨j, by go_num, by omega, HLN.out, y4, rfl, _, _, HQ.out⟩
            case measure => first | (simp [intOf]; done) | (simp [intOf]; omega)
    · have hke : k = D.n := by omega
      subst hke
      have jk : decide ((D.n : Int) < (D.n : Int)) = false := by simp
      have HEQ : Hid (lkA D = 0 ∧ lkB D = 0 ∧ (lkT D D.n).isSome = false) := ⟨by unfold lkA; rw [HNO.out], by unfold lkB; rw [HNO.out], by rw [HNO.out]; rfl⟩
      obtain ⟨z5, hz5, hp5⟩ := store_spn z HZ.out HSB.out 0 0
      have q0 := HZ.out.c0; have q1 := HZ.out.c1; have qf := HZ.out.fz
      have Q0 := hp5.c0; have Q1 := hp5.c1
      clear hp5
      go_wp2_with fail
      try rw [hz5]
      exact bodyPost_ret (v := .tuple #[.agg #[.int .i64 0, .int .i64 0], .bool false]) (by simp [results, Try.f69, go_sem, Q0, Q1]) rfl ⟨by rw [HEQ.out.1, HEQ.out.2.1, HEQ.out.2.2], bT HB.out z5.b⟩
end Go.Proofs.Ytegkgfiaegpihaa
