/- HoursStay returns true in every walk. -/
import Derived.Test.YtegkgfiaegpihaaM5

set_option linter.unusedSimpArgs false

set_option linter.unusedVariables false

namespace Go.Proofs.Ytegkgfiaegpihaa

open Go.RowKit

set_option maxRecDepth 100000 in
set_option maxHeartbeats 4000000 in
theorem stay_o1 (D : Ro) (p q : Option Addr) (c d : Nat) (lp : Option Addr) (lc l : Nat) (f : Nat → Int) (w : World) (hn : D.n ≤ maxLen) (hm : D.m ≤ maxLen) (hl : l ≤ maxLen) (hr : rdy D = false) (hi : RoIn w w.heap.size D p q) (hf : NumIn w w.heap.size l f lp) :
    Calls Try.prog 4 #[.agg #[.slice p D.n c, .slice q D.m d], .slice lp l lc] w fun e w' => e = .returned (.bool true) ∧ Below w.heap.size w w' := by
  obtain ⟨w1, x1, hw1, hb1, hz1, F0i, F1i, _⟩ := box_ro w p q D.n D.m c d
  have HW_0 : Hid (∀ z : Ext w1, Below w.heap.size w z.v) := fun z => bT hb1 z.b
  have HI_0 : Hid (∀ z : Ext w1, RoIn z.v z.v.heap.size D p q) := fun z => (hi.bel hb1).bel z.b
  have HL_0 : Hid (∀ z : Ext w1, NumIn z.v z.v.heap.size l f lp) := fun z => (hf.bel hb1).bel z.b
  clear hb1 hz1 hi hf
  have F0_0 : ∀ z : Ext w1, z.v.cell? ⟨w.heap.size, 0, none⟩ = some (.slice p D.n c) := fun z => F0i z
  have F1_0 : ∀ z : Ext w1, z.v.cell? ⟨w.heap.size, 1, none⟩ = some (.slice q D.m d) := fun z => F1i z
  have HR := Lib.hid hr; clear hr
  go_enter Try.func4, Try.ntmps4
  go_wp2_with fail
  refine (quiet_x (ready_is HR.out _ hn hm (HI_0.out _))).mono ?_
  rintro e w' ⟨rfl, y, rfl⟩
  go_wp2_with fail
  refine (quiet_x (works_ex _)).mono ?_
  rintro e w' ⟨rfl, y2, rfl⟩
  go_wp2
  go_ret
  exact ⟨rfl, HW_0.out y2⟩
set_option maxRecDepth 100000 in
set_option maxHeartbeats 4000000 in
theorem stay_o2 (D : Ro) (p q : Option Addr) (c d : Nat) (lp : Option Addr) (lc l : Nat) (f : Nat → Int) (w : World) (hn : D.n ≤ maxLen) (hm : D.m ≤ maxLen) (hl : l ≤ maxLen) (hr : rdy D = true) (h4 : 40 < l) (hi : RoIn w w.heap.size D p q) (hf : NumIn w w.heap.size l f lp) :
    Calls Try.prog 4 #[.agg #[.slice p D.n c, .slice q D.m d], .slice lp l lc] w fun e w' => e = .returned (.bool true) ∧ Below w.heap.size w w' := by
  obtain ⟨w1, x1, hw1, hb1, hz1, F0i, F1i, _⟩ := box_ro w p q D.n D.m c d
  have HW_0 : Hid (∀ z : Ext w1, Below w.heap.size w z.v) := fun z => bT hb1 z.b
  have HI_0 : Hid (∀ z : Ext w1, RoIn z.v z.v.heap.size D p q) := fun z => (hi.bel hb1).bel z.b
  have HL_0 : Hid (∀ z : Ext w1, NumIn z.v z.v.heap.size l f lp) := fun z => (hf.bel hb1).bel z.b
  clear hb1 hz1 hi hf
  have F0_0 : ∀ z : Ext w1, z.v.cell? ⟨w.heap.size, 0, none⟩ = some (.slice p D.n c) := fun z => F0i z
  have F1_0 : ∀ z : Ext w1, z.v.cell? ⟨w.heap.size, 1, none⟩ = some (.slice q D.m d) := fun z => F1i z
  have HR := Lib.hid hr; clear hr
  have j4 : decide (40 < (l : Int)) = true := by simp; omega
  go_enter Try.func4, Try.ntmps4
  go_wp2_with fail
  refine (quiet_x (ready_is HR.out _ hn hm (HI_0.out _))).mono ?_
  rintro e w' ⟨rfl, y, rfl⟩
  go_wp2_with fail
  refine (quiet_x (works_ex _)).mono ?_
  rintro e w' ⟨rfl, y2, rfl⟩
  go_wp2
  go_ret
  exact ⟨rfl, HW_0.out y2⟩
set_option maxRecDepth 100000 in
set_option maxHeartbeats 16000000 in
theorem stay_in (D : Ro) (p q : Option Addr) (c d : Nat) (lp : Option Addr) (lc l : Nat) (f : Nat → Int) (w : World) (hr : rdy D = true) (hl : l ≤ 40) (hi : RoIn w w.heap.size D p q) (hf : NumIn w w.heap.size l f lp) :
    Calls Try.prog 4 #[.agg #[.slice p D.n c, .slice q D.m d], .slice lp l lc] w fun e w' => e = .returned (.bool true) ∧ Below w.heap.size w w' := by
  obtain ⟨w1, x1, hw1, hb1, hz1, F0i, F1i, _⟩ := box_ro w p q D.n D.m c d
  have HW_0 : Hid (∀ z : Ext w1, Below w.heap.size w z.v) := fun z => bT hb1 z.b
  have HI_0 : Hid (∀ z : Ext w1, RoIn z.v z.v.heap.size D p q) := fun z => (hi.bel hb1).bel z.b
  have HL_0 : Hid (∀ z : Ext w1, NumIn z.v z.v.heap.size l f lp) := fun z => (hf.bel hb1).bel z.b
  clear hb1 hz1 hi hf
  have F0_0 : ∀ z : Ext w1, z.v.cell? ⟨w.heap.size, 0, none⟩ = some (.slice p D.n c) := fun z => F0i z
  have F1_0 : ∀ z : Ext w1, z.v.cell? ⟨w.heap.size, 1, none⟩ = some (.slice q D.m d) := fun z => F1i z
  obtain ⟨hn8, hm6, hD, _⟩ := rdy_parts hr
  have HR := Lib.hid hr; have HD := Lib.hid hD
  have hn : D.n ≤ maxLen := by unfold maxLen; omega
  have hm : D.m ≤ maxLen := by unfold maxLen; omega
  have j4 : decide (40 < (l : Int)) = false := by simp; omega
  have h40 : ¬ 40 < l := by omega
  have HMB := Lib.hid (minC_bd hD (Nat.le_refl D.m))
  have HTH := Lib.hid (fun y : Ext w1 => three_any D p q c d hD y.v (HI_0.out y))
  have HQ := Lib.hid hD
  clear hr hl
  cases hx : exB D with
  | false =>
    have hnx : ¬ Ex D := fun h => by rw [(exB_iff hD).2 h] at hx; cases hx
    have e1 : tL D = 0 := by simp [tL, hx]
    have e2 : tM D = 0 := by simp [tM, hx]
    have e3 : tN D = 0 := by simp [tN, hx]
    rw [e1, e2, e3, hx] at HTH
    have HNW : Hid (isNw D l f = false) := by
      cases e : isNw D l f with
      | false => rfl
      | true => exact absurd ⟨f, ((isNw_iff hD).1 e).2⟩ hnx
    have HM3 : Hid (minC D D.m * 0 ≤ 1000 ∧ minC D D.m * 0 ≤ 0) := by rw [Int.mul_zero]; exact ⟨by omega, by omega⟩
    clear e1 e2 e3 hx hnx hD
    go_enter Try.func4, Try.ntmps4
    go_wp2_with fail
    refine (quiet_x (ready_is HR.out _ hn hm (HI_0.out _))).mono ?_
    rintro e w' ⟨rfl, y, rfl⟩
    go_wp2_with fail
    refine (quiet_x (HTH.out _)).mono ?_
    rintro e w' ⟨rfl, y2, rfl⟩
    go_wp2_with fail
    refine (quiet_x (isNewR_is HNW.out _ HD.out (HI_0.out _) (HL_0.out _))).mono ?_
    rintro e w' ⟨rfl, y3, rfl⟩
    go_wp2
    clear HQ
    go_loopw [10, 11] (fun v i wr => ∃ k : Nat, i = .int .i64 (k : Int) ∧ v = .int .i64 (minC D k) ∧ k ≤ D.m ∧ ∃ z : Ext w1, wr = z.v) (fun v i _ => D.m - (intOf i).toNat)
    case atStart => exact ⟨0, rfl, rfl, Nat.zero_le _, y3, rfl⟩
    case round =>
      obtain ⟨k, rfl, rfl, hk, z, rfl⟩ := hrel
      have hk6 : k ≤ 6 := by omega
      by_cases hlt : k < D.m
      · obtain ⟨b, o, rfl, _, _⟩ := (HI_0.out z).st (by omega)
        have G3 : z.v.cell? ⟨b, o + k * 4 + 3, none⟩ = some (.int .i64 (D.co k)) := (HI_0.out z).c3 hlt
        have G0 : z.v.cell? ⟨b, o + k * 4, none⟩ = some (.int .i64 (D.hs k)) := (HI_0.out z).c0 hlt
        have j : decide ((k : Int) < (D.m : Int)) = true := by simp; omega
        have hkm : (k : Int) < (D.m : Int) := by omega
        have t1 : (if D.co k < minC D k then D.co k else minC D k) = minC D (k + 1) := by simp only [minC]; rw [Int.min_def]; split <;> split <;> omega
        have t2 : (if minC D k < D.co k then minC D k else D.co k) = minC D (k + 1) := by simp only [minC]; rw [Int.min_def]; split <;> split <;> omega
        go_wp2
        go_roundw
        case rel => exact ⟨k + 1, by go_num, rfl, hlt, z, rfl⟩
        case measure => first | (simp [intOf]; done) | (simp [intOf]; omega)
      · have hke : k = D.m := by omega
        subst hke
        have j : decide ((D.m : Int) < (D.m : Int)) = false := by simp
        have hb := HMB.out
        have ew : IntKind.i64.wrap (minC D D.m * 0) = minC D D.m * 0 := IntWalk.i64_in _ (by have := HM3.out; omega)
        have jl : decide (minC D D.m * 0 ≤ 0) = true := decide_eq_true HM3.out.2
        have jl2 : minC D D.m * 0 ≤ 0 := HM3.out.2
        go_wp2_with fail
        refine (quiet_x (works_ex _)).mono ?_
        rintro e w' ⟨rfl, y9, rfl⟩
        go_wp2
        go_ret
        exact ⟨rfl, HW_0.out y9⟩
  | true =>
    have hex := (exB_iff hD).1 hx
    have e1 : tL D = lsC D := by simp [tL, hx]
    have e2 : tM D = frC D := by simp [tM, hx]
    have e3 : tN D = fwC D := by simp [tN, hx]
    rw [e1, e2, e3, hx] at HTH
    have hs1 := stay1 hD hex
    have hs3 := stay3 hD hex
    have hb1 := ls_bd hD
    have hb2 := fw_bd hD hex
    have hb3 := (fr_spec hD hex).1
    have hs2 := fun (h : NR D f) => stay2 hD h
    obtain ⟨ls, hls⟩ : ∃ x, lsC D = x := ⟨_, rfl⟩
    obtain ⟨fr, hfr⟩ : ∃ x, frC D = x := ⟨_, rfl⟩
    obtain ⟨fw, hfw⟩ : ∃ x, fwC D = x := ⟨_, rfl⟩
    rw [hls, hfr, hfw] at HTH
    rw [hls, hfr, hfw] at hs2
    rw [hfr, hfw] at hs1
    rw [hls, hfw] at hs3
    rw [hls] at hb1; rw [hfw] at hb2; rw [hfr] at hb3
    have HM3 : Hid (minC D D.m * fw ≤ 1000 ∧ minC D D.m * fw ≤ ls ∧ -1000 ≤ minC D D.m * fw) := ⟨by omega, hs3, by have := Int.mul_nonneg (minC_bd hD (Nat.le_refl D.m)).1 hb2.1; omega⟩
    have HS2 := Lib.hid hs2; have HB1 := Lib.hid hb1
    clear e1 e2 e3 hx hls hfr hfw hs3 hs2 hex
    by_cases hz : fr = 0
    · have hz2 := hs1.1 hz
      subst hz; subst hz2
      clear hs1 hb2 hb3
      have i0 : ((0 : Int) == 0) = true := by decide
      cases hnw : isNw D l f with
      | false =>
        have HNW := Lib.hid hnw
        clear hnw hD hb1
        go_enter Try.func4, Try.ntmps4
        go_wp2_with fail
        refine (quiet_x (ready_is HR.out _ hn hm (HI_0.out _))).mono ?_
        rintro e w' ⟨rfl, y, rfl⟩
        go_wp2_with fail
        refine (quiet_x (HTH.out _)).mono ?_
        rintro e w' ⟨rfl, y2, rfl⟩
        go_wp2_with fail
        refine (quiet_x (isNewR_is HNW.out _ HD.out (HI_0.out _) (HL_0.out _))).mono ?_
        rintro e w' ⟨rfl, y3, rfl⟩
        go_wp2
        clear HQ
        go_loopw [10, 11] (fun v i wr => ∃ k : Nat, i = .int .i64 (k : Int) ∧ v = .int .i64 (minC D k) ∧ k ≤ D.m ∧ ∃ z : Ext w1, wr = z.v) (fun v i _ => D.m - (intOf i).toNat)
        case atStart => exact ⟨0, rfl, rfl, Nat.zero_le _, y3, rfl⟩
        case round =>
          obtain ⟨k, rfl, rfl, hk, z, rfl⟩ := hrel
          have hk6 : k ≤ 6 := by omega
          by_cases hlt : k < D.m
          · obtain ⟨b, o, rfl, _, _⟩ := (HI_0.out z).st (by omega)
            have G3 : z.v.cell? ⟨b, o + k * 4 + 3, none⟩ = some (.int .i64 (D.co k)) := (HI_0.out z).c3 hlt
            have G0 : z.v.cell? ⟨b, o + k * 4, none⟩ = some (.int .i64 (D.hs k)) := (HI_0.out z).c0 hlt
            have j : decide ((k : Int) < (D.m : Int)) = true := by simp; omega
            have hkm : (k : Int) < (D.m : Int) := by omega
            have t1 : (if D.co k < minC D k then D.co k else minC D k) = minC D (k + 1) := by simp only [minC]; rw [Int.min_def]; split <;> split <;> omega
            have t2 : (if minC D k < D.co k then minC D k else D.co k) = minC D (k + 1) := by simp only [minC]; rw [Int.min_def]; split <;> split <;> omega
            go_wp2
            go_roundw
            case rel => exact ⟨k + 1, by go_num, rfl, hlt, z, rfl⟩
            case measure => first | (simp [intOf]; done) | (simp [intOf]; omega)
          · have hke : k = D.m := by omega
            subst hke
            have j : decide ((D.m : Int) < (D.m : Int)) = false := by simp
            have hb := HMB.out
            have ew : IntKind.i64.wrap (minC D D.m * 0) = minC D D.m * 0 := IntWalk.i64_in _ (by have := HM3.out; omega)
            have jl : decide (minC D D.m * 0 ≤ ls) = true := decide_eq_true HM3.out.2.1
            have jl2 : minC D D.m * 0 ≤ ls := HM3.out.2.1
            go_wp2_with fail
            refine (quiet_x (works_ex _)).mono ?_
            rintro e w' ⟨rfl, y9, rfl⟩
            go_wp2
            go_ret
            exact ⟨rfl, HW_0.out y9⟩
      | true =>
        have HNW := Lib.hid hnw
        obtain ⟨hlm, hnr⟩ := (isNw_iff hD).1 hnw
        subst hlm
        have HIH := Lib.hid (hnr.inH hD)
        have hsn := HS2.out hnr
        by_cases hmz : movedL D f D.m = []
        · have hls0 := (hsn hmz).1
          subst hls0
          have HZL : Hid ((movedL D f D.m).length = 0) := by rw [hmz]; rfl
          clear hnw hD hnr hsn hmz hb1 HS2
          go_enter Try.func4, Try.ntmps4
          go_wp2_with fail
          refine (quiet_x (ready_is HR.out _ hn hm (HI_0.out _))).mono ?_
          rintro e w' ⟨rfl, y, rfl⟩
          go_wp2_with fail
          refine (quiet_x (HTH.out _)).mono ?_
          rintro e w' ⟨rfl, y2, rfl⟩
          go_wp2_with fail
          refine (quiet_x (isNewR_is HNW.out _ HD.out (HI_0.out _) (HL_0.out _))).mono ?_
          rintro e w' ⟨rfl, y3, rfl⟩
          go_wp2_with fail
          refine (movedR_any D p q lp c d lc f _ HD.out HIH.out (HI_0.out _) (HL_0.out _)).mono ?_
          rintro e w5 ⟨yl, yc, rfl, hb, _⟩
          rw [HZL.out]
          obtain ⟨y4, rfl⟩ : ∃ zz : Ext w1, w5 = zz.v := ⟨⟨w5, bT y3.b hb⟩, rfl⟩
          clear hb
          go_wp2
          clear HQ
          go_loopw [10, 11] (fun v i wr => ∃ k : Nat, i = .int .i64 (k : Int) ∧ v = .int .i64 (minC D k) ∧ k ≤ D.m ∧ ∃ z : Ext w1, wr = z.v) (fun v i _ => D.m - (intOf i).toNat)
          case atStart => exact ⟨0, rfl, rfl, Nat.zero_le _, y4, rfl⟩
          case round =>
            obtain ⟨k, rfl, rfl, hk, z, rfl⟩ := hrel
            have hk6 : k ≤ 6 := by omega
            by_cases hlt : k < D.m
            · obtain ⟨b, o, rfl, _, _⟩ := (HI_0.out z).st (by omega)
              have G3 : z.v.cell? ⟨b, o + k * 4 + 3, none⟩ = some (.int .i64 (D.co k)) := (HI_0.out z).c3 hlt
              have G0 : z.v.cell? ⟨b, o + k * 4, none⟩ = some (.int .i64 (D.hs k)) := (HI_0.out z).c0 hlt
              have j : decide ((k : Int) < (D.m : Int)) = true := by simp; omega
              have hkm : (k : Int) < (D.m : Int) := by omega
              have t1 : (if D.co k < minC D k then D.co k else minC D k) = minC D (k + 1) := by simp only [minC]; rw [Int.min_def]; split <;> split <;> omega
              have t2 : (if minC D k < D.co k then minC D k else D.co k) = minC D (k + 1) := by simp only [minC]; rw [Int.min_def]; split <;> split <;> omega
              go_wp2
              go_roundw
              case rel => exact ⟨k + 1, by go_num, rfl, hlt, z, rfl⟩
              case measure => first | (simp [intOf]; done) | (simp [intOf]; omega)
            · have hke : k = D.m := by omega
              subst hke
              have j : decide ((D.m : Int) < (D.m : Int)) = false := by simp
              have hb := HMB.out
              have ew : IntKind.i64.wrap (minC D D.m * 0) = minC D D.m * 0 := IntWalk.i64_in _ (by have := HM3.out; omega)
              have jl : decide (minC D D.m * 0 ≤ 0) = true := decide_eq_true HM3.out.2.1
              have jl2 : minC D D.m * 0 ≤ 0 := HM3.out.2.1
              go_wp2_with fail
              refine (quiet_x (works_ex _)).mono ?_
              rintro e w' ⟨rfl, y9, rfl⟩
              go_wp2
              go_ret
              exact ⟨rfl, HW_0.out y9⟩
        · have hlz : ¬ (movedL D f D.m).length = 0 := fun h => hmz (List.length_eq_zero_iff.1 h)
          obtain ⟨ml, hml⟩ : ∃ ml, (movedL D f D.m).length = ml := ⟨_, rfl⟩
          have HML := Lib.hid hml
          rw [hml] at hlz
          have jml : ((ml : Int) == 0) = false := by simp; omega
          clear hnw hD hnr hsn hmz hb1 HS2 hml
          go_enter Try.func4, Try.ntmps4
          go_wp2_with fail
          refine (quiet_x (ready_is HR.out _ hn hm (HI_0.out _))).mono ?_
          rintro e w' ⟨rfl, y, rfl⟩
          go_wp2_with fail
          refine (quiet_x (HTH.out _)).mono ?_
          rintro e w' ⟨rfl, y2, rfl⟩
          go_wp2_with fail
          refine (quiet_x (isNewR_is HNW.out _ HD.out (HI_0.out _) (HL_0.out _))).mono ?_
          rintro e w' ⟨rfl, y3, rfl⟩
          go_wp2_with fail
          refine (movedR_any D p q lp c d lc f _ HD.out HIH.out (HI_0.out _) (HL_0.out _)).mono ?_
          rintro e w5 ⟨yl, yc, rfl, hb, _⟩
          rw [HML.out]
          obtain ⟨y4, rfl⟩ : ∃ zz : Ext w1, w5 = zz.v := ⟨⟨w5, bT y3.b hb⟩, rfl⟩
          clear hb
          go_wp2
          clear HQ
          go_loopw [10, 11] (fun v i wr => ∃ k : Nat, i = .int .i64 (k : Int) ∧ v = .int .i64 (minC D k) ∧ k ≤ D.m ∧ ∃ z : Ext w1, wr = z.v) (fun v i _ => D.m - (intOf i).toNat)
          case atStart => exact ⟨0, rfl, rfl, Nat.zero_le _, y4, rfl⟩
          case round =>
            obtain ⟨k, rfl, rfl, hk, z, rfl⟩ := hrel
            have hk6 : k ≤ 6 := by omega
            by_cases hlt : k < D.m
            · obtain ⟨b, o, rfl, _, _⟩ := (HI_0.out z).st (by omega)
              have G3 : z.v.cell? ⟨b, o + k * 4 + 3, none⟩ = some (.int .i64 (D.co k)) := (HI_0.out z).c3 hlt
              have G0 : z.v.cell? ⟨b, o + k * 4, none⟩ = some (.int .i64 (D.hs k)) := (HI_0.out z).c0 hlt
              have j : decide ((k : Int) < (D.m : Int)) = true := by simp; omega
              have hkm : (k : Int) < (D.m : Int) := by omega
              have t1 : (if D.co k < minC D k then D.co k else minC D k) = minC D (k + 1) := by simp only [minC]; rw [Int.min_def]; split <;> split <;> omega
              have t2 : (if minC D k < D.co k then minC D k else D.co k) = minC D (k + 1) := by simp only [minC]; rw [Int.min_def]; split <;> split <;> omega
              go_wp2
              go_roundw
              case rel => exact ⟨k + 1, by go_num, rfl, hlt, z, rfl⟩
              case measure => first | (simp [intOf]; done) | (simp [intOf]; omega)
            · have hke : k = D.m := by omega
              subst hke
              have j : decide ((D.m : Int) < (D.m : Int)) = false := by simp
              have hb := HMB.out
              have ew : IntKind.i64.wrap (minC D D.m * 0) = minC D D.m * 0 := IntWalk.i64_in _ (by have := HM3.out; omega)
              have jl : decide (minC D D.m * 0 ≤ ls) = true := decide_eq_true HM3.out.2.1
              have jl2 : minC D D.m * 0 ≤ ls := HM3.out.2.1
              go_wp2_with fail
              refine (quiet_x (works_ex _)).mono ?_
              rintro e w' ⟨rfl, y9, rfl⟩
              go_wp2
              go_ret
              exact ⟨rfl, HW_0.out y9⟩
    · have hz2 : ¬ fw = 0 := fun h => hz (hs1.2 h)
      have i0 : (fr == 0) = false := by simpa using hz
      have i1 : (fw == 0) = false := by simpa using hz2
      have HZ := Lib.hid hz
      clear hs1 hb3
      cases hnw : isNw D l f with
      | false =>
        have HNW := Lib.hid hnw
        clear hnw hD hb1
        go_enter Try.func4, Try.ntmps4
        go_wp2_with fail
        refine (quiet_x (ready_is HR.out _ hn hm (HI_0.out _))).mono ?_
        rintro e w' ⟨rfl, y, rfl⟩
        go_wp2_with fail
        refine (quiet_x (HTH.out _)).mono ?_
        rintro e w' ⟨rfl, y2, rfl⟩
        go_wp2_with fail
        refine (quiet_x (isNewR_is HNW.out _ HD.out (HI_0.out _) (HL_0.out _))).mono ?_
        rintro e w' ⟨rfl, y3, rfl⟩
        go_wp2
        clear HQ
        go_loopw [10, 11] (fun v i wr => ∃ k : Nat, i = .int .i64 (k : Int) ∧ v = .int .i64 (minC D k) ∧ k ≤ D.m ∧ ∃ z : Ext w1, wr = z.v) (fun v i _ => D.m - (intOf i).toNat)
        case atStart => exact ⟨0, rfl, rfl, Nat.zero_le _, y3, rfl⟩
        case round =>
          obtain ⟨k, rfl, rfl, hk, z, rfl⟩ := hrel
          have hk6 : k ≤ 6 := by omega
          by_cases hlt : k < D.m
          · obtain ⟨b, o, rfl, _, _⟩ := (HI_0.out z).st (by omega)
            have G3 : z.v.cell? ⟨b, o + k * 4 + 3, none⟩ = some (.int .i64 (D.co k)) := (HI_0.out z).c3 hlt
            have G0 : z.v.cell? ⟨b, o + k * 4, none⟩ = some (.int .i64 (D.hs k)) := (HI_0.out z).c0 hlt
            have j : decide ((k : Int) < (D.m : Int)) = true := by simp; omega
            have hkm : (k : Int) < (D.m : Int) := by omega
            have t1 : (if D.co k < minC D k then D.co k else minC D k) = minC D (k + 1) := by simp only [minC]; rw [Int.min_def]; split <;> split <;> omega
            have t2 : (if minC D k < D.co k then minC D k else D.co k) = minC D (k + 1) := by simp only [minC]; rw [Int.min_def]; split <;> split <;> omega
            go_wp2
            go_roundw
            case rel => exact ⟨k + 1, by go_num, rfl, hlt, z, rfl⟩
            case measure => first | (simp [intOf]; done) | (simp [intOf]; omega)
          · have hke : k = D.m := by omega
            subst hke
            have j : decide ((D.m : Int) < (D.m : Int)) = false := by simp
            have hb := HMB.out
            have ew : IntKind.i64.wrap (minC D D.m * fw) = minC D D.m * fw := IntWalk.i64_in _ (by have := HM3.out; omega)
            have jl : decide (minC D D.m * fw ≤ ls) = true := decide_eq_true HM3.out.2.1
            have jl2 : minC D D.m * fw ≤ ls := HM3.out.2.1
            go_wp2_with fail
            refine (quiet_x (works_ex _)).mono ?_
            rintro e w' ⟨rfl, y9, rfl⟩
            go_wp2
            go_ret
            exact ⟨rfl, HW_0.out y9⟩
      | true =>
        have HNW := Lib.hid hnw
        obtain ⟨hlm, hnr⟩ := (isNw_iff hD).1 hnw
        subst hlm
        have HIH := Lib.hid (hnr.inH hD)
        have hsn := HS2.out hnr
        have hmz : ¬ movedL D f D.m = [] := fun h => hz (hsn h).2.1
        have hlz : ¬ (movedL D f D.m).length = 0 := fun h => hmz (List.length_eq_zero_iff.1 h)
        obtain ⟨ml, hml⟩ : ∃ ml, (movedL D f D.m).length = ml := ⟨_, rfl⟩
        have HML := Lib.hid hml
        rw [hml] at hlz
        have jml : ((ml : Int) == 0) = false := by simp; omega
        clear hnw hD hnr hsn hmz hb1 HS2 hml
        go_enter Try.func4, Try.ntmps4
        go_wp2_with fail
        refine (quiet_x (ready_is HR.out _ hn hm (HI_0.out _))).mono ?_
        rintro e w' ⟨rfl, y, rfl⟩
        go_wp2_with fail
        refine (quiet_x (HTH.out _)).mono ?_
        rintro e w' ⟨rfl, y2, rfl⟩
        go_wp2_with fail
        refine (quiet_x (isNewR_is HNW.out _ HD.out (HI_0.out _) (HL_0.out _))).mono ?_
        rintro e w' ⟨rfl, y3, rfl⟩
        go_wp2_with fail
        refine (movedR_any D p q lp c d lc f _ HD.out HIH.out (HI_0.out _) (HL_0.out _)).mono ?_
        rintro e w5 ⟨yl, yc, rfl, hb, _⟩
        rw [HML.out]
        obtain ⟨y4, rfl⟩ : ∃ zz : Ext w1, w5 = zz.v := ⟨⟨w5, bT y3.b hb⟩, rfl⟩
        clear hb
        go_wp2
        clear HQ
        go_loopw [10, 11] (fun v i wr => ∃ k : Nat, i = .int .i64 (k : Int) ∧ v = .int .i64 (minC D k) ∧ k ≤ D.m ∧ ∃ z : Ext w1, wr = z.v) (fun v i _ => D.m - (intOf i).toNat)
        case atStart => exact ⟨0, rfl, rfl, Nat.zero_le _, y4, rfl⟩
        case round =>
          obtain ⟨k, rfl, rfl, hk, z, rfl⟩ := hrel
          have hk6 : k ≤ 6 := by omega
          by_cases hlt : k < D.m
          · obtain ⟨b, o, rfl, _, _⟩ := (HI_0.out z).st (by omega)
            have G3 : z.v.cell? ⟨b, o + k * 4 + 3, none⟩ = some (.int .i64 (D.co k)) := (HI_0.out z).c3 hlt
            have G0 : z.v.cell? ⟨b, o + k * 4, none⟩ = some (.int .i64 (D.hs k)) := (HI_0.out z).c0 hlt
            have j : decide ((k : Int) < (D.m : Int)) = true := by simp; omega
            have hkm : (k : Int) < (D.m : Int) := by omega
            have t1 : (if D.co k < minC D k then D.co k else minC D k) = minC D (k + 1) := by simp only [minC]; rw [Int.min_def]; split <;> split <;> omega
            have t2 : (if minC D k < D.co k then minC D k else D.co k) = minC D (k + 1) := by simp only [minC]; rw [Int.min_def]; split <;> split <;> omega
            go_wp2
            go_roundw
            case rel => exact ⟨k + 1, by go_num, rfl, hlt, z, rfl⟩
            case measure => first | (simp [intOf]; done) | (simp [intOf]; omega)
          · have hke : k = D.m := by omega
            subst hke
            have j : decide ((D.m : Int) < (D.m : Int)) = false := by simp
            have hb := HMB.out
            have ew : IntKind.i64.wrap (minC D D.m * fw) = minC D D.m * fw := IntWalk.i64_in _ (by have := HM3.out; omega)
            have jl : decide (minC D D.m * fw ≤ ls) = true := decide_eq_true HM3.out.2.1
            have jl2 : minC D D.m * fw ≤ ls := HM3.out.2.1
            go_wp2_with fail
            refine (quiet_x (works_ex _)).mono ?_
            rintro e w' ⟨rfl, y9, rfl⟩
            go_wp2
            go_ret
            exact ⟨rfl, HW_0.out y9⟩
theorem stay_law (D : Ro) (p q : Option Addr) (c d : Nat) (lp : Option Addr) (lc l : Nat) (f : Nat → Int) (w : World) (hn : D.n ≤ maxLen) (hm : D.m ≤ maxLen) (hl : l ≤ maxLen) (hi : RoIn w w.heap.size D p q) (hf : NumIn w w.heap.size l f lp) :
    Calls Try.prog 4 #[.agg #[.slice p D.n c, .slice q D.m d], .slice lp l lc] w fun e w' => e = .returned (.bool true) ∧ Below w.heap.size w w' := by
  cases hr : rdy D with
  | false => exact stay_o1 D p q c d lp lc l f w hn hm hl hr hi hf
  | true =>
    by_cases h4 : 40 < l
    · exact stay_o2 D p q c d lp lc l f w hn hm hl hr h4 hi hf
    · exact stay_in D p q c d lp lc l f w hr (by omega) hi hf
end Go.Proofs.Ytegkgfiaegpihaa
