/- Shafts: ShaftsRing, main . -/
import Derived.Test.YtaaocomgmacjnabDoorD4

import Derived.Deep.DeepCutAuto

import Derived.Deep.RegionHeld3

set_option linter.unusedSimpArgs false

set_option linter.unusedVariables false

namespace Go.Proofs.YtaaocomgmacjnabDoor

open Go.RowKit

set_option maxRecDepth 100000 in
set_option maxHeartbeats 8000000 in
theorem ring_j (S : Shaft) (p q : Option Addr) (c d : Nat) (l : List Int) (pl : Option Addr) (cl : Nat) (y : Int) (w : World) (hgl : GlobsOk laid w) (hF : S.F.length ≤ maxLen) (hR : S.R.length ≤ maxLen) (ht : ShaftIn w w.heap.size S p q) (hil : ListIn w w.heap.size l pl) (hr : rdy S = true) (hll : l.length ≤ 40) (hn1 : S.F.length ≤ 40) (hr1 : S.R.length ≤ 40) (hst : S.stops l = true) (hwn : within y 1 (S.F.length : Int) = true) (hyl : decide (y ∈ l) = false) (hok : S.ok = true) (he1 : flE S l = 3) (he2 : flE S (oneMore S l y) = 3) (hpl : S.plan l = true) (hrs : S.rests y = true) :
    Calls Tryd.prog 5 #[.agg #[.slice q S.R.length d, .slice p S.F.length c, .int .i64 S.D, .int .i64 S.H, .int .i64 S.T], .slice pl l.length cl, .int .i64 y] w fun e w' => e = .returned (.bool true) ∧ Below w.heap.size w w' := by
  have hwn0 := hwn
  obtain ⟨w1, hw1, hb1, hz1, x1⟩ := box_shaft w S p q c d
  have H1 := Lib.hid x1
  have HB0 := Lib.hid hb1
  have HB1 := Lib.hid (Below.refl w1.heap.size w1)
  have HT := Lib.hid (ht.bel hb1); have HL := Lib.hid (hil.bel hb1); have HG1 := Lib.hid (hgl.below hb1)
  obtain ⟨g0, g1, g2, g3, g4, g5⟩ := x1
  have hrd := ready_any S p q c d w1 hF hR HT.out
  rw [hr] at hrd
  have HRD := Lib.hid hrd
  clear hr
  have d1 : decide ((40 : Int) < (l.length : Int)) = false := decide_eq_false (by omega)
  have hl1 : l.length ≤ 1000000 := by omega
  have has := fun (V : World) (hV : Below w1.heap.size w1 V) => areStopsR_any S p q c d l pl cl V (by omega) hl1 (HL.out.bel hV)
  rw [hst] at has
  have HAS := Lib.hid has; clear has
  have hwi := fun (V : World) => within1_any y 1 (S.F.length : Int) V
  rw [hwn] at hwi
  have HWI := Lib.hid hwi; clear hwi hwn
  have hin := fun (V : World) (hV : Below w1.heap.size w1 V) => inR_any l pl cl y V hl1 (HL.out.bel hV)
  rw [hyl] at hin
  have HIN := Lib.hid hin; clear hin
  obtain ⟨i0, hi, hz0, hz1', hz2⟩ := info_parts infoI
  have I1 := Lib.hid hi; have I2 := Lib.hid hz0; have I3 := Lib.hid hz1'; have I4 := Lib.hid hz2; clear hi hz0 hz1' hz2
  obtain ⟨m1, hm1⟩ : ∃ e, flV S l = e := ⟨_, rfl⟩
  obtain ⟨m2, hm2⟩ : ∃ e, flV S (oneMore S l y) = e := ⟨_, rfl⟩
  have hv0 : vErr S.ok = 0 := by rw [hok]; rfl
  have hb1' : gdV S l = true := by unfold gdV; rw [hpl, hok]; rfl
  have hpm : S.plan (oneMore S l y) = S.rests y := more_plan hpl (within_iff.1 hwn0).1 (within_iff.1 hwn0).2
  have hb2' : gdV S (oneMore S l y) = true := by unfold gdV; rw [hpm, hrs, hok]; rfl
  obtain ⟨a1, ha1⟩ : ∃ e, csP S l = e := ⟨_, rfl⟩
  obtain ⟨a2, ha2⟩ : ∃ e, csH S l = e := ⟨_, rfl⟩
  obtain ⟨rg, hrg⟩ : ∃ e, S.ringV y = e := ⟨_, rfl⟩
  have ha3 : askErr S.ok (S.plan l) = 0 := by rw [hpl, hok]; rfl
  have hk3 : askErr S.ok (S.plan (oneMore S l y)) = 0 := by rw [hpm, hrs, hok]; rfl
  have hyn : y ∉ l := by simpa using hyl
  obtain ⟨hmc1, hmc2⟩ := more_cost hst (within_iff.1 hwn0).1 (within_iff.1 hwn0).2 hyn
  have hcl1 : csP S l = S.cost l := by unfold csP; rw [hpl, hok]; rfl
  have hcl2 : csH S l = S.time l := by unfold csH; rw [hpl, hok]; rfl
  have hk1 : csP S (oneMore S l y) = a1 + rg := by unfold csP; rw [hpm, hrs, hok]; simp only [Bool.and_self, if_true]; rw [hmc1, hrg, ← ha1, hcl1]
  have hk2 : csH S (oneMore S l y) = a2 + S.T := by unfold csH; rw [hpm, hrs, hok]; simp only [Bool.and_self, if_true]; rw [hmc2, ← ha2, hcl2]
  obtain ⟨cb0, cb1, cb2, cb3⟩ := cost_bd hok hpl
  rw [← hcl1, ha1] at cb0 cb1
  rw [← hcl2, ha2] at cb2 cb3
  obtain ⟨_, rb0, rb1, _, _⟩ := ring_bd hok (d := y) (by have := (within_iff.1 hwn0).1; omega) (within_iff.1 hwn0).2
  rw [hrg] at rb0 rb1
  obtain ⟨_, _, _, _, _, _, ⟨tb0, tb1⟩⟩ := S.ok_parts hok
  have X1 : IntKind.i64.wrap (a1 + rg) = a1 + rg := IntWalk.i64_in _ (by omega)
  have X2 : IntKind.i64.wrap (a2 + S.T) = a2 + S.T := IntWalk.i64_in _ (by omega)
  have x1 : (a1 + rg == a1 + rg) = true := by simp
  have x2 : (a2 + S.T == a2 + S.T) = true := by simp
  have x3 : decide (0 ≤ min a1 a2) = true := decide_eq_true (by omega)
  have x4 : decide (max a1 a2 ≤ 10000) = true := decide_eq_true (by omega)
  clear hpm hmc1 hmc2 hcl1 hcl2 hyn
  have hM13 : (oneMore S l y).length ≤ 40 := by have := mk_len (c := moreC l y) (k := S.F.length); unfold oneMore; omega
  have HFL := Lib.hid (show ∀ (V : World) (v : Option Addr) (c' : Nat), Below w1.heap.size w1 V → (l).length ≤ c' → ListIn V V.heap.size (l) v → Calls Tryd.prog 14 #[.agg #[.slice q S.R.length d, .slice p S.F.length c, .int .i64 S.D, .int .i64 S.H, .int .i64 S.T], .slice v (l).length c'] V fun e w' => e = .returned (.tuple #[.int .i64 m1, .int .i64 3]) ∧ Below V.heap.size V w' from fun V v c' hV hc hi => by
    have h := fallsT_any S p q c d (l) v c' V (by omega) (by omega) (by omega) hc (HT.out.bel hV) hi
    rw [hm1, he1] at h
    exact h)
  have HFM := Lib.hid (show ∀ (V : World) (v : Option Addr) (c' : Nat), Below w1.heap.size w1 V → (oneMore S l y).length ≤ c' → ListIn V V.heap.size (oneMore S l y) v → Calls Tryd.prog 14 #[.agg #[.slice q S.R.length d, .slice p S.F.length c, .int .i64 S.D, .int .i64 S.H, .int .i64 S.T], .slice v (oneMore S l y).length c'] V fun e w' => e = .returned (.tuple #[.int .i64 m2, .int .i64 3]) ∧ Below V.heap.size V w' from fun V v c' hV hc hi => by
    have h := fallsT_any S p q c d (oneMore S l y) v c' V (by omega) (by omega) (by omega) hc (HT.out.bel hV) hi
    rw [hm2, he2] at h
    exact h)
  have HGL := Lib.hid (show ∀ (V : World) (v : Option Addr) (c' : Nat), Below w1.heap.size w1 V → (l).length ≤ c' → ListIn V V.heap.size (l) v → Calls Tryd.prog 16 #[.agg #[.slice q S.R.length d, .slice p S.F.length c, .int .i64 S.D, .int .i64 S.H, .int .i64 S.T], .slice v (l).length c'] V fun e w' => e = .returned (.tuple #[.bool true, .int .i64 0]) ∧ Below V.heap.size V w' from fun V v c' hV hc hi => by
    have h := goodT_any S p q c d (l) v c' V (by omega) (by omega) (by omega) hc (HT.out.bel hV) hi
    rw [hb1', hv0] at h
    exact h)
  have HGM := Lib.hid (show ∀ (V : World) (v : Option Addr) (c' : Nat), Below w1.heap.size w1 V → (oneMore S l y).length ≤ c' → ListIn V V.heap.size (oneMore S l y) v → Calls Tryd.prog 16 #[.agg #[.slice q S.R.length d, .slice p S.F.length c, .int .i64 S.D, .int .i64 S.H, .int .i64 S.T], .slice v (oneMore S l y).length c'] V fun e w' => e = .returned (.tuple #[.bool true, .int .i64 0]) ∧ Below V.heap.size V w' from fun V v c' hV hc hi => by
    have h := goodT_any S p q c d (oneMore S l y) v c' V (by omega) (by omega) (by omega) hc (HT.out.bel hV) hi
    rw [hb2', hv0] at h
    exact h)
  have HKL := Lib.hid (show ∀ (V : World) (v : Option Addr) (c' : Nat), Below w1.heap.size w1 V → (l).length ≤ c' → ListIn V V.heap.size (l) v → Calls Tryd.prog 18 #[.agg #[.slice q S.R.length d, .slice p S.F.length c, .int .i64 S.D, .int .i64 S.H, .int .i64 S.T], .slice v (l).length c'] V fun e w' => e = .returned (.tuple #[.int .i64 a1, .int .i64 a2, .int .i64 0]) ∧ Below V.heap.size V w' from fun V v c' hV hc hi => by
    have h := costT_any S p q c d (l) v c' V (by omega) (by omega) (by omega) hc (HT.out.bel hV) hi
    rw [ha1, ha2, ha3] at h
    exact h)
  have HKM := Lib.hid (show ∀ (V : World) (v : Option Addr) (c' : Nat), Below w1.heap.size w1 V → (oneMore S l y).length ≤ c' → ListIn V V.heap.size (oneMore S l y) v → Calls Tryd.prog 18 #[.agg #[.slice q S.R.length d, .slice p S.F.length c, .int .i64 S.D, .int .i64 S.H, .int .i64 S.T], .slice v (oneMore S l y).length c'] V fun e w' => e = .returned (.tuple #[.int .i64 (a1 + rg), .int .i64 (a2 + S.T), .int .i64 0]) ∧ Below V.heap.size V w' from fun V v c' hV hc hi => by
    have h := costT_any S p q c d (oneMore S l y) v c' V (by omega) (by omega) (by omega) hc (HT.out.bel hV) hi
    rw [hk1, hk2, hk3] at h
    exact h)
  have HRG := Lib.hid (show ∀ (V : World), Below w1.heap.size w1 V → Calls Tryd.prog 28 #[.agg #[.slice q S.R.length d, .slice p S.F.length c, .int .i64 S.D, .int .i64 S.H, .int .i64 S.T], .int .i64 y] V fun e w' => e = .returned (.int .i64 rg) ∧ Below V.heap.size V w' from fun V hV => by
    have h := ringR_any S p q c d y V hok (by have := within_iff.1 hwn0; omega) (within_iff.1 hwn0).2 (HT.out.bel hV)
    rw [hrg] at h
    exact h)
  have HCR := Lib.hid (show ∀ (V : World), Below w1.heap.size w1 V → Calls Tryd.prog 27 #[.agg #[.slice q S.R.length d, .slice p S.F.length c, .int .i64 S.D, .int .i64 S.H, .int .i64 S.T], .int .i64 y] V fun e w' => e = .returned (.bool true) ∧ Below V.heap.size V w' from fun V hV => by
    have h := canRestR_any S p q c d y V hok (by have := within_iff.1 hwn0; omega) (within_iff.1 hwn0).2 (HT.out.bel hV)
    rw [hrs] at h
    exact h)
  clear hrd ht hil hgl hb1 hz1 hF hR hm1 he1 hm2 he2 hb1' hb2' hv0 hrs ha1 ha2 ha3 hk1 hk2 hk3 hrg hwn0 hok
  go_enter Tryd.func5, Tryd.ntmps5
  go_wp2_with (first | (go_at_call 21; refine HRD.out.mono ?_; rintro e w2 ⟨rfl, hb2⟩; go_must (have h2 := H1.out.below hb2; have H2 := Lib.hid h2; clear g0 g1 g2 g3 g4 g5; obtain ⟨g0, g1, g2, g3, g4, g5⟩ := h2; have HB2 := Lib.hid (bT HB1.out hb2); clear hb2)) | (go_at_call 22; refine (HAS.out _ HB2.out).mono ?_; rintro e w3 ⟨rfl, hb3⟩; go_must (have h3 := H2.out.below hb3; have H3 := Lib.hid h3; clear g0 g1 g2 g3 g4 g5; obtain ⟨g0, g1, g2, g3, g4, g5⟩ := h3; have HB3 := Lib.hid (bT HB2.out hb3); clear hb3)) | (go_at_call 23; refine (HWI.out _).mono ?_; rintro e w4 ⟨rfl, rfl⟩) | (go_at_call 24; refine (HIN.out _ HB3.out).mono ?_; rintro e w5 ⟨rfl, hb5⟩; go_must (have h5 := H3.out.below hb5; have H5 := Lib.hid h5; clear g0 g1 g2 g3 g4 g5; obtain ⟨g0, g1, g2, g3, g4, g5⟩ := h5; have HB5 := Lib.hid (bT HB3.out hb5); clear hb5)))
  go_loopw [7, 8] (fun v i wr => ∃ k : Nat, i = .int .i64 ((k : Int) + 1) ∧ k ≤ S.F.length ∧ wr.ownsRow w5.heap.size 3 1 v (mk (moreC l y) k).length ((mk (moreC l y) k).map (Value.int .i64)) ∧ Below w5.heap.size w5 wr) (fun _ i _ => S.F.length + 1 - (intOf i).toNat)
  case atStart => exact ⟨0, rfl, Nat.zero_le _, World.ownsRow_nil _ _ _ _, Below.refl _ _⟩
  case round =>
    obtain ⟨k, rfl, hk, ho, hb⟩ := hrel
    have HO := Lib.hid ho; have HBR := Lib.hid hb; clear ho hb
    have hr5 := H5.out.below HBR.out
    clear g0 g1 g2 g3 g4 g5
    obtain ⟨g0, g1, g2, g3, g4, g5⟩ := hr5
    have hkl := mk_len (c := moreC l y) (k := k)
    by_cases hlt : k < S.F.length
    · have j1 : decide (((k : Int) + 1) ≤ (S.F.length : Int)) = true := decide_eq_true (by omega)
      have HLR := Lib.hid ((HL.out.bel HB5.out).bel HBR.out)
      obtain ⟨pr, cr, hv, _, _⟩ := own_list HO.out
      subst hv
      by_cases he : ((k : Int) + 1) = y
      · subst he
        have hc : moreC l ((k : Int) + 1) ((k : Int) + 1) = true := by simp [moreC]
        have j2 : (((k : Int) + 1) == ((k : Int) + 1)) = true := by simp
        go_wp2_with (first | (at_builtin; refine wpList_append_own _ rfl _ _ 23 rfl w5.heap.size 3 i0 _ 1 8 Tryd.underlying23 I1.out I2.out I3.out I4.out rfl (by decide) _ _ _ rfl ((own_below HO.out (Below.refl _ _)).alloc _) ⟨wr.heap.size, 0, none⟩ 1 1 [.int .i64 ((k : Int) + 1)] rfl rfl (lit_cells1 _ _ _) ?c2 ?c3 ?c4 ?c5 ?_))
        case c2 => simp [Value.oneCell']
        case c3 => unfold maxLen; omega
        case c4 => omega
        case c5 => have := HBR.out.size; first | omega | (simp; omega)
        intro v' w8 hown hgrow _
        have HOW := Lib.hid (own_snoc hc hown); have HGR := Lib.hid (below_grown (bA (bT HBR.out (Below.refl _ _)) _) ((own_below HO.out (Below.refl _ _)).alloc _) (Nat.le_refl _) hgrow); clear hown hgrow
        go_wp2
        go_roundw
        case rel => exact ⟨k + 1, by go_num, hlt, HOW.out, HGR.out⟩
        case measure => simp [intOf]; omega
      · have j2 : (((k : Int) + 1) == y) = false := by simpa using he
        have hIN := inR_any l pl cl ((k : Int) + 1) wr hl1 HLR.out
        cases hd : decide (((k : Int) + 1) ∈ l) with
        | true =>
          rw [hd] at hIN
          have HINR := Lib.hid hIN; clear hIN
          have hc : moreC l y ((k : Int) + 1) = true := by unfold moreC; rw [hd]; simp
          go_wp2_with (first | (go_at_call 24; refine HINR.out.mono ?_; rintro e w7 ⟨rfl, hb7⟩; go_must (have HB7 := Lib.hid hb7; clear hb7)) | (at_builtin; refine wpList_append_own _ rfl _ _ 23 rfl w5.heap.size 3 i0 _ 1 8 Tryd.underlying23 I1.out I2.out I3.out I4.out rfl (by decide) _ _ _ rfl ((own_below HO.out HB7.out).alloc _) ⟨w7.heap.size, 0, none⟩ 1 1 [.int .i64 ((k : Int) + 1)] rfl rfl (lit_cells1 _ _ _) ?c2 ?c3 ?c4 ?c5 ?_))
          case c2 => simp [Value.oneCell']
          case c3 => unfold maxLen; omega
          case c4 => omega
          case c5 => have := HBR.out.size; have := HB7.out.size; first | omega | (simp; omega)
          intro v' w8 hown hgrow _
          have HOW := Lib.hid (own_snoc hc hown); have HGR := Lib.hid (below_grown (bA (bT HBR.out HB7.out) _) ((own_below HO.out HB7.out).alloc _) (Nat.le_refl _) hgrow); clear hown hgrow
          go_wp2
          go_roundw
          case rel => exact ⟨k + 1, by go_num, hlt, HOW.out, HGR.out⟩
          case measure => simp [intOf]; omega
        | false =>
          rw [hd] at hIN
          have HINR := Lib.hid hIN; clear hIN
          have hc : moreC l y ((k : Int) + 1) = false := by unfold moreC; rw [hd]; simp; omega
          go_wp2_with (go_at_call 24; refine HINR.out.mono ?_; rintro e w7 ⟨rfl, hb7⟩; go_must (have HB7 := Lib.hid hb7; clear hb7))
          go_roundw
          case rel => exact ⟨k + 1, by go_num, hlt, by rw [mk_skip hc]; exact own_below HO.out HB7.out, bT HBR.out HB7.out⟩
          case measure => simp [intOf]; omega
    · have j1 : decide (((k : Int) + 1) ≤ (S.F.length : Int)) = false := decide_eq_false (by omega)
      obtain rfl : k = S.F.length := by omega
      obtain ⟨pm, cm, hv, hcm, hlm⟩ := own_list HO.out
      subst hv
      clear HO j1
      have HX0 := Lib.hid (H5.out.below HBR.out)
      have HA0 := Lib.hid (bT HB5.out HBR.out)
      have HC0 := Lib.hid (HL.out.bel HA0.out)
      have HM0 := Lib.hid hlm
      change _ at hcm
      clear hlm HL HBR
      have hMe : mk (moreC l y) S.F.length = oneMore S l y := rfl
      rw [hMe] at hcm HM0 ⊢
      clear hMe
      generalize oneMore S l y = M at *
      go_wp2_with fail
      go_cut [9, 10] (fun s9 s10 wc => s9 = .int .i64 m1 ∧ s10 = .int .i64 3 ∧ Below wr.heap.size wr wc)
      case first =>
        go_region_held3 (fun w' => w'.cell? ⟨w.heap.size, 0, none⟩ = some (.slice q S.R.length d) ∧ w'.cell? ⟨w.heap.size, 1, none⟩ = some (.slice p S.F.length c) ∧ w'.cell? ⟨w.heap.size, 2, none⟩ = some (.int .i64 S.D) ∧ w'.cell? ⟨w.heap.size, 3, none⟩ = some (.int .i64 S.H) ∧ w'.cell? ⟨w.heap.size, 4, none⟩ = some (.int .i64 S.T))
          (first | go_keep | exact ⟨d0, d1, d2, d3, d4⟩)
          (first | (go_at_call 25; refine (copied_any l _ _ _ (by omega) (ListIn.bel HC0.out (by repeat (first | assumption | exact Below.refl _ _ | refine bd ?_ | refine bD ?_ _)))).mono ?_; rintro e w9 ⟨v9, c9, rfl, hc9, hb9, hl9⟩; go_must (have hB : Below wr.heap.size wr w9 := bT (by repeat (first | assumption | exact Below.refl _ _ | refine bd ?_ | refine bD ?_ _)) hb9; have d0 := (hB.cell (p := ⟨w.heap.size, 0, none⟩) g5).trans g0; have d1 := (hB.cell (p := ⟨w.heap.size, 1, none⟩) g5).trans g1; have d2 := (hB.cell (p := ⟨w.heap.size, 2, none⟩) g5).trans g2; have d3 := (hB.cell (p := ⟨w.heap.size, 3, none⟩) g5).trans g3; have d4 := (hB.cell (p := ⟨w.heap.size, 4, none⟩) g5).trans g4; have HB9 := Lib.hid hB; have HL9 := Lib.hid hl9; clear hb9 hl9 hB)) | (go_at_call 14; refine (HFL.out _ _ _ (bT HA0.out (bT HB9.out (by repeat (first | assumption | exact Below.refl _ _ | refine bd ?_ | refine bD ?_ _)))) hc9 (HL9.out.bel (by repeat (first | assumption | exact Below.refl _ _ | refine bd ?_ | refine bD ?_ _)))).mono ?_; rintro e w10 ⟨rfl, hb10⟩; go_must (have hB : Below wr.heap.size wr w10 := bT (bT HB9.out (by repeat (first | assumption | exact Below.refl _ _ | refine bd ?_ | refine bD ?_ _))) hb10; have d0 := (hB.cell (p := ⟨w.heap.size, 0, none⟩) g5).trans g0; have d1 := (hB.cell (p := ⟨w.heap.size, 1, none⟩) g5).trans g1; have d2 := (hB.cell (p := ⟨w.heap.size, 2, none⟩) g5).trans g2; have d3 := (hB.cell (p := ⟨w.heap.size, 3, none⟩) g5).trans g3; have d4 := (hB.cell (p := ⟨w.heap.size, 4, none⟩) g5).trans g4; have HB10 := Lib.hid hB; clear hb10 hB)))
        all_goals (go_wp2_with fail; go_meet)
        all_goals exact ⟨rfl, rfl, bT HB10.out (by repeat (first | assumption | exact Below.refl _ _ | refine bd ?_ | refine bD ?_ _))⟩
      case rest =>
      obtain ⟨rfl, rfl, hbc⟩ := hcut
      obtain ⟨wa, hwx⟩ : ∃ x, x = wc := ⟨_, rfl⟩
      subst hwx
      have hx1 := HX0.out.below hbc
      clear g0 g1 g2 g3 g4 g5
      have HX1 := Lib.hid hx1; have HA1 := Lib.hid (bT HA0.out hbc); have HC1 := Lib.hid (HC0.out.bel hbc); have HM1 := Lib.hid (HM0.out.bel hbc)
      obtain ⟨g0, g1, g2, g3, g4, g5⟩ := hx1
      clear hbc
      go_wp2_with fail
      go_cut [11, 12] (fun s11 s12 wc => s11 = .int .i64 m2 ∧ s12 = .int .i64 3 ∧ Below wa.heap.size wa wc)
      case first =>
        go_region_held3 (fun w' => w'.cell? ⟨w.heap.size, 0, none⟩ = some (.slice q S.R.length d) ∧ w'.cell? ⟨w.heap.size, 1, none⟩ = some (.slice p S.F.length c) ∧ w'.cell? ⟨w.heap.size, 2, none⟩ = some (.int .i64 S.D) ∧ w'.cell? ⟨w.heap.size, 3, none⟩ = some (.int .i64 S.H) ∧ w'.cell? ⟨w.heap.size, 4, none⟩ = some (.int .i64 S.T))
          (first | go_keep | exact ⟨d0, d1, d2, d3, d4⟩)
          (first | (go_at_call 25; refine (copied_any M _ _ _ (by omega) (ListIn.bel HM1.out (by repeat (first | assumption | exact Below.refl _ _ | refine bd ?_ | refine bD ?_ _)))).mono ?_; rintro e w9 ⟨v9, c9, rfl, hc9, hb9, hl9⟩; go_must (have hB : Below wa.heap.size wa w9 := bT (by repeat (first | assumption | exact Below.refl _ _ | refine bd ?_ | refine bD ?_ _)) hb9; have d0 := (hB.cell (p := ⟨w.heap.size, 0, none⟩) g5).trans g0; have d1 := (hB.cell (p := ⟨w.heap.size, 1, none⟩) g5).trans g1; have d2 := (hB.cell (p := ⟨w.heap.size, 2, none⟩) g5).trans g2; have d3 := (hB.cell (p := ⟨w.heap.size, 3, none⟩) g5).trans g3; have d4 := (hB.cell (p := ⟨w.heap.size, 4, none⟩) g5).trans g4; have HB9 := Lib.hid hB; have HL9 := Lib.hid hl9; clear hb9 hl9 hB)) | (go_at_call 14; refine (HFM.out _ _ _ (bT HA1.out (bT HB9.out (by repeat (first | assumption | exact Below.refl _ _ | refine bd ?_ | refine bD ?_ _)))) hc9 (HL9.out.bel (by repeat (first | assumption | exact Below.refl _ _ | refine bd ?_ | refine bD ?_ _)))).mono ?_; rintro e w10 ⟨rfl, hb10⟩; go_must (have hB : Below wa.heap.size wa w10 := bT (bT HB9.out (by repeat (first | assumption | exact Below.refl _ _ | refine bd ?_ | refine bD ?_ _))) hb10; have d0 := (hB.cell (p := ⟨w.heap.size, 0, none⟩) g5).trans g0; have d1 := (hB.cell (p := ⟨w.heap.size, 1, none⟩) g5).trans g1; have d2 := (hB.cell (p := ⟨w.heap.size, 2, none⟩) g5).trans g2; have d3 := (hB.cell (p := ⟨w.heap.size, 3, none⟩) g5).trans g3; have d4 := (hB.cell (p := ⟨w.heap.size, 4, none⟩) g5).trans g4; have HB10 := Lib.hid hB; clear hb10 hB)))
        all_goals (go_wp2_with fail; go_meet)
        all_goals exact ⟨rfl, rfl, bT HB10.out (by repeat (first | assumption | exact Below.refl _ _ | refine bd ?_ | refine bD ?_ _))⟩
      case rest =>
      obtain ⟨rfl, rfl, hbc⟩ := hcut
      obtain ⟨wb, hwx⟩ : ∃ x, x = wc := ⟨_, rfl⟩
      subst hwx
      have hx2 := HX1.out.below hbc
      clear g0 g1 g2 g3 g4 g5
      have HX2 := Lib.hid hx2; have HA2 := Lib.hid (bT HA1.out hbc); have HC2 := Lib.hid (HC1.out.bel hbc); have HM2 := Lib.hid (HM1.out.bel hbc)
      obtain ⟨g0, g1, g2, g3, g4, g5⟩ := hx2
      clear hbc
      go_wp2_with (go_at_call 26; first | (refine (known0_any _).mono ?_; rintro e w20 ⟨rfl, rfl⟩) | (refine (known3_any _).mono ?_; rintro e w20 ⟨rfl, rfl⟩))
      go_cut [13, 14] (fun s13 s14 wc => s13 = .bool true ∧ s14 = .int .i64 0 ∧ Below wb.heap.size wb wc)
      case first =>
        go_region_held3 (fun w' => w'.cell? ⟨w.heap.size, 0, none⟩ = some (.slice q S.R.length d) ∧ w'.cell? ⟨w.heap.size, 1, none⟩ = some (.slice p S.F.length c) ∧ w'.cell? ⟨w.heap.size, 2, none⟩ = some (.int .i64 S.D) ∧ w'.cell? ⟨w.heap.size, 3, none⟩ = some (.int .i64 S.H) ∧ w'.cell? ⟨w.heap.size, 4, none⟩ = some (.int .i64 S.T))
          (first | go_keep | exact ⟨d0, d1, d2, d3, d4⟩)
          (first | (go_at_call 25; refine (copied_any l _ _ _ (by omega) (ListIn.bel HC2.out (by repeat (first | assumption | exact Below.refl _ _ | refine bd ?_ | refine bD ?_ _)))).mono ?_; rintro e w9 ⟨v9, c9, rfl, hc9, hb9, hl9⟩; go_must (have hB : Below wb.heap.size wb w9 := bT (by repeat (first | assumption | exact Below.refl _ _ | refine bd ?_ | refine bD ?_ _)) hb9; have d0 := (hB.cell (p := ⟨w.heap.size, 0, none⟩) g5).trans g0; have d1 := (hB.cell (p := ⟨w.heap.size, 1, none⟩) g5).trans g1; have d2 := (hB.cell (p := ⟨w.heap.size, 2, none⟩) g5).trans g2; have d3 := (hB.cell (p := ⟨w.heap.size, 3, none⟩) g5).trans g3; have d4 := (hB.cell (p := ⟨w.heap.size, 4, none⟩) g5).trans g4; have HB9 := Lib.hid hB; have HL9 := Lib.hid hl9; clear hb9 hl9 hB)) | (go_at_call 16; refine (HGL.out _ _ _ (bT HA2.out (bT HB9.out (by repeat (first | assumption | exact Below.refl _ _ | refine bd ?_ | refine bD ?_ _)))) hc9 (HL9.out.bel (by repeat (first | assumption | exact Below.refl _ _ | refine bd ?_ | refine bD ?_ _)))).mono ?_; rintro e w10 ⟨rfl, hb10⟩; go_must (have hB : Below wb.heap.size wb w10 := bT (bT HB9.out (by repeat (first | assumption | exact Below.refl _ _ | refine bd ?_ | refine bD ?_ _))) hb10; have d0 := (hB.cell (p := ⟨w.heap.size, 0, none⟩) g5).trans g0; have d1 := (hB.cell (p := ⟨w.heap.size, 1, none⟩) g5).trans g1; have d2 := (hB.cell (p := ⟨w.heap.size, 2, none⟩) g5).trans g2; have d3 := (hB.cell (p := ⟨w.heap.size, 3, none⟩) g5).trans g3; have d4 := (hB.cell (p := ⟨w.heap.size, 4, none⟩) g5).trans g4; have HB10 := Lib.hid hB; clear hb10 hB)))
        all_goals (go_wp2_with fail; go_meet)
        all_goals exact ⟨rfl, rfl, bT HB10.out (by repeat (first | assumption | exact Below.refl _ _ | refine bd ?_ | refine bD ?_ _))⟩
      case rest =>
      obtain ⟨rfl, rfl, hbc⟩ := hcut
      obtain ⟨wd, hwx⟩ : ∃ x, x = wc := ⟨_, rfl⟩
      subst hwx
      have hx3 := HX2.out.below hbc
      clear g0 g1 g2 g3 g4 g5
      have HX3 := Lib.hid hx3; have HA3 := Lib.hid (bT HA2.out hbc); have HC3 := Lib.hid (HC2.out.bel hbc); have HM3 := Lib.hid (HM2.out.bel hbc)
      obtain ⟨g0, g1, g2, g3, g4, g5⟩ := hx3
      clear hbc
      go_wp2_with fail
      go_cut [15, 16] (fun s15 s16 wc => s15 = .bool true ∧ s16 = .int .i64 0 ∧ Below wd.heap.size wd wc)
      case first =>
        go_region_held3 (fun w' => w'.cell? ⟨w.heap.size, 0, none⟩ = some (.slice q S.R.length d) ∧ w'.cell? ⟨w.heap.size, 1, none⟩ = some (.slice p S.F.length c) ∧ w'.cell? ⟨w.heap.size, 2, none⟩ = some (.int .i64 S.D) ∧ w'.cell? ⟨w.heap.size, 3, none⟩ = some (.int .i64 S.H) ∧ w'.cell? ⟨w.heap.size, 4, none⟩ = some (.int .i64 S.T))
          (first | go_keep | exact ⟨d0, d1, d2, d3, d4⟩)
          (first | (go_at_call 25; refine (copied_any M _ _ _ (by omega) (ListIn.bel HM3.out (by repeat (first | assumption | exact Below.refl _ _ | refine bd ?_ | refine bD ?_ _)))).mono ?_; rintro e w9 ⟨v9, c9, rfl, hc9, hb9, hl9⟩; go_must (have hB : Below wd.heap.size wd w9 := bT (by repeat (first | assumption | exact Below.refl _ _ | refine bd ?_ | refine bD ?_ _)) hb9; have d0 := (hB.cell (p := ⟨w.heap.size, 0, none⟩) g5).trans g0; have d1 := (hB.cell (p := ⟨w.heap.size, 1, none⟩) g5).trans g1; have d2 := (hB.cell (p := ⟨w.heap.size, 2, none⟩) g5).trans g2; have d3 := (hB.cell (p := ⟨w.heap.size, 3, none⟩) g5).trans g3; have d4 := (hB.cell (p := ⟨w.heap.size, 4, none⟩) g5).trans g4; have HB9 := Lib.hid hB; have HL9 := Lib.hid hl9; clear hb9 hl9 hB)) | (go_at_call 16; refine (HGM.out _ _ _ (bT HA3.out (bT HB9.out (by repeat (first | assumption | exact Below.refl _ _ | refine bd ?_ | refine bD ?_ _)))) hc9 (HL9.out.bel (by repeat (first | assumption | exact Below.refl _ _ | refine bd ?_ | refine bD ?_ _)))).mono ?_; rintro e w10 ⟨rfl, hb10⟩; go_must (have hB : Below wd.heap.size wd w10 := bT (bT HB9.out (by repeat (first | assumption | exact Below.refl _ _ | refine bd ?_ | refine bD ?_ _))) hb10; have d0 := (hB.cell (p := ⟨w.heap.size, 0, none⟩) g5).trans g0; have d1 := (hB.cell (p := ⟨w.heap.size, 1, none⟩) g5).trans g1; have d2 := (hB.cell (p := ⟨w.heap.size, 2, none⟩) g5).trans g2; have d3 := (hB.cell (p := ⟨w.heap.size, 3, none⟩) g5).trans g3; have d4 := (hB.cell (p := ⟨w.heap.size, 4, none⟩) g5).trans g4; have HB10 := Lib.hid hB; clear hb10 hB)))
        all_goals (go_wp2_with fail; go_meet)
        all_goals exact ⟨rfl, rfl, bT HB10.out (by repeat (first | assumption | exact Below.refl _ _ | refine bd ?_ | refine bD ?_ _))⟩
      case rest =>
      obtain ⟨rfl, rfl, hbc⟩ := hcut
      obtain ⟨we, hwx⟩ : ∃ x, x = wc := ⟨_, rfl⟩
      subst hwx
      have hx4 := HX3.out.below hbc
      clear g0 g1 g2 g3 g4 g5
      have HX4 := Lib.hid hx4; have HA4 := Lib.hid (bT HA3.out hbc); have HC4 := Lib.hid (HC3.out.bel hbc); have HM4 := Lib.hid (HM3.out.bel hbc)
      obtain ⟨g0, g1, g2, g3, g4, g5⟩ := hx4
      clear hbc
      go_wp2_with (go_at_call 27; refine (HCR.out _ HA4.out).mono ?_; rintro e w21 ⟨rfl, hb21⟩; go_must (have hx5 := HX4.out.below hb21; have HX5 := Lib.hid hx5; have HA5 := Lib.hid (bT HA4.out hb21); have HC5 := Lib.hid (HC4.out.bel hb21); have HM5 := Lib.hid (HM4.out.bel hb21); clear g0 g1 g2 g3 g4 g5; obtain ⟨g0, g1, g2, g3, g4, g5⟩ := hx5; clear hb21))
      go_cut [17, 18, 10] (fun s17 s18 s10 wc => s17 = .int .i64 a1 ∧ s18 = .int .i64 a2 ∧ s10 = .int .i64 0 ∧ Below w21.heap.size w21 wc)
      case first =>
        go_region_held3 (fun w' => w'.cell? ⟨w.heap.size, 0, none⟩ = some (.slice q S.R.length d) ∧ w'.cell? ⟨w.heap.size, 1, none⟩ = some (.slice p S.F.length c) ∧ w'.cell? ⟨w.heap.size, 2, none⟩ = some (.int .i64 S.D) ∧ w'.cell? ⟨w.heap.size, 3, none⟩ = some (.int .i64 S.H) ∧ w'.cell? ⟨w.heap.size, 4, none⟩ = some (.int .i64 S.T))
          (first | go_keep | exact ⟨d0, d1, d2, d3, d4⟩)
          (first | (go_at_call 25; refine (copied_any l _ _ _ (by omega) (ListIn.bel HC5.out (by repeat (first | assumption | exact Below.refl _ _ | refine bd ?_ | refine bD ?_ _)))).mono ?_; rintro e w9 ⟨v9, c9, rfl, hc9, hb9, hl9⟩; go_must (have hB : Below w21.heap.size w21 w9 := bT (by repeat (first | assumption | exact Below.refl _ _ | refine bd ?_ | refine bD ?_ _)) hb9; have d0 := (hB.cell (p := ⟨w.heap.size, 0, none⟩) g5).trans g0; have d1 := (hB.cell (p := ⟨w.heap.size, 1, none⟩) g5).trans g1; have d2 := (hB.cell (p := ⟨w.heap.size, 2, none⟩) g5).trans g2; have d3 := (hB.cell (p := ⟨w.heap.size, 3, none⟩) g5).trans g3; have d4 := (hB.cell (p := ⟨w.heap.size, 4, none⟩) g5).trans g4; have HB9 := Lib.hid hB; have HL9 := Lib.hid hl9; clear hb9 hl9 hB)) | (go_at_call 18; refine (HKL.out _ _ _ (bT HA5.out (bT HB9.out (by repeat (first | assumption | exact Below.refl _ _ | refine bd ?_ | refine bD ?_ _)))) hc9 (HL9.out.bel (by repeat (first | assumption | exact Below.refl _ _ | refine bd ?_ | refine bD ?_ _)))).mono ?_; rintro e w10 ⟨rfl, hb10⟩; go_must (have hB : Below w21.heap.size w21 w10 := bT (bT HB9.out (by repeat (first | assumption | exact Below.refl _ _ | refine bd ?_ | refine bD ?_ _))) hb10; have d0 := (hB.cell (p := ⟨w.heap.size, 0, none⟩) g5).trans g0; have d1 := (hB.cell (p := ⟨w.heap.size, 1, none⟩) g5).trans g1; have d2 := (hB.cell (p := ⟨w.heap.size, 2, none⟩) g5).trans g2; have d3 := (hB.cell (p := ⟨w.heap.size, 3, none⟩) g5).trans g3; have d4 := (hB.cell (p := ⟨w.heap.size, 4, none⟩) g5).trans g4; have HB10 := Lib.hid hB; clear hb10 hB)))
        all_goals (go_wp2_with fail; go_meet)
        all_goals exact ⟨rfl, rfl, rfl, bT HB10.out (by repeat (first | assumption | exact Below.refl _ _ | refine bd ?_ | refine bD ?_ _))⟩
      case rest =>
      obtain ⟨rfl, rfl, rfl, hbc⟩ := hcut
      obtain ⟨wf, hwx⟩ : ∃ x, x = wc := ⟨_, rfl⟩
      subst hwx
      have hx6 := HX5.out.below hbc
      clear g0 g1 g2 g3 g4 g5
      have HX6 := Lib.hid hx6; have HA6 := Lib.hid (bT HA5.out hbc); have HC6 := Lib.hid (HC5.out.bel hbc); have HM6 := Lib.hid (HM5.out.bel hbc)
      obtain ⟨g0, g1, g2, g3, g4, g5⟩ := hx6
      clear hbc
      go_wp2_with fail
      go_cut [19, 20, 12] (fun s19 s20 s12 wc => s19 = .int .i64 (a1 + rg) ∧ s20 = .int .i64 (a2 + S.T) ∧ s12 = .int .i64 0 ∧ Below wf.heap.size wf wc)
      case first =>
        go_region_held3 (fun w' => w'.cell? ⟨w.heap.size, 0, none⟩ = some (.slice q S.R.length d) ∧ w'.cell? ⟨w.heap.size, 1, none⟩ = some (.slice p S.F.length c) ∧ w'.cell? ⟨w.heap.size, 2, none⟩ = some (.int .i64 S.D) ∧ w'.cell? ⟨w.heap.size, 3, none⟩ = some (.int .i64 S.H) ∧ w'.cell? ⟨w.heap.size, 4, none⟩ = some (.int .i64 S.T))
          (first | go_keep | exact ⟨d0, d1, d2, d3, d4⟩)
          (first | (go_at_call 25; refine (copied_any M _ _ _ (by omega) (ListIn.bel HM6.out (by repeat (first | assumption | exact Below.refl _ _ | refine bd ?_ | refine bD ?_ _)))).mono ?_; rintro e w9 ⟨v9, c9, rfl, hc9, hb9, hl9⟩; go_must (have hB : Below wf.heap.size wf w9 := bT (by repeat (first | assumption | exact Below.refl _ _ | refine bd ?_ | refine bD ?_ _)) hb9; have d0 := (hB.cell (p := ⟨w.heap.size, 0, none⟩) g5).trans g0; have d1 := (hB.cell (p := ⟨w.heap.size, 1, none⟩) g5).trans g1; have d2 := (hB.cell (p := ⟨w.heap.size, 2, none⟩) g5).trans g2; have d3 := (hB.cell (p := ⟨w.heap.size, 3, none⟩) g5).trans g3; have d4 := (hB.cell (p := ⟨w.heap.size, 4, none⟩) g5).trans g4; have HB9 := Lib.hid hB; have HL9 := Lib.hid hl9; clear hb9 hl9 hB)) | (go_at_call 18; refine (HKM.out _ _ _ (bT HA6.out (bT HB9.out (by repeat (first | assumption | exact Below.refl _ _ | refine bd ?_ | refine bD ?_ _)))) hc9 (HL9.out.bel (by repeat (first | assumption | exact Below.refl _ _ | refine bd ?_ | refine bD ?_ _)))).mono ?_; rintro e w10 ⟨rfl, hb10⟩; go_must (have hB : Below wf.heap.size wf w10 := bT (bT HB9.out (by repeat (first | assumption | exact Below.refl _ _ | refine bd ?_ | refine bD ?_ _))) hb10; have d0 := (hB.cell (p := ⟨w.heap.size, 0, none⟩) g5).trans g0; have d1 := (hB.cell (p := ⟨w.heap.size, 1, none⟩) g5).trans g1; have d2 := (hB.cell (p := ⟨w.heap.size, 2, none⟩) g5).trans g2; have d3 := (hB.cell (p := ⟨w.heap.size, 3, none⟩) g5).trans g3; have d4 := (hB.cell (p := ⟨w.heap.size, 4, none⟩) g5).trans g4; have HB10 := Lib.hid hB; clear hb10 hB)))
        all_goals (go_wp2_with fail; go_meet)
        all_goals exact ⟨rfl, rfl, rfl, bT HB10.out (by repeat (first | assumption | exact Below.refl _ _ | refine bd ?_ | refine bD ?_ _))⟩
      case rest =>
      obtain ⟨rfl, rfl, rfl, hbc⟩ := hcut
      obtain ⟨wg, hwx⟩ : ∃ x, x = wc := ⟨_, rfl⟩
      subst hwx
      have hx7 := HX6.out.below hbc
      clear g0 g1 g2 g3 g4 g5
      have HX7 := Lib.hid hx7; have HA7 := Lib.hid (bT HA6.out hbc); have HC7 := Lib.hid (HC6.out.bel hbc); have HM7 := Lib.hid (HM6.out.bel hbc)
      obtain ⟨g0, g1, g2, g3, g4, g5⟩ := hx7
      clear hbc
      go_wp2_with (first | (go_at_call 28; refine (HRG.out _ HA7.out).mono ?_; rintro e w23 ⟨rfl, hb23⟩; go_must (have HB23 := Lib.hid (bT HA7.out hb23); have hx8 := HX7.out.below hb23; clear g0 g1 g2 g3 g4 g5; obtain ⟨g0, g1, g2, g3, g4, g5⟩ := hx8; clear hb23)) | (go_at_call 7; refine (works_ex _ (HG1.out.below (by first | exact HB23.out))).mono ?_; rintro e w22 ⟨rfl, hb22⟩; go_must (have HB22 := Lib.hid (bT (by first | exact HB23.out) hb22); clear hb22)))
      all_goals
        go_ret
        exact ⟨rfl, bT HB0.out HB22.out⟩

end Go.Proofs.YtaaocomgmacjnabDoor
