/- Shafts: IsPlan of the specification. -/
import Derived.Test.YtaaocomgmacjnabDoorC6

import Derived.Test.YtaaocomgmacjnabDoorC7

set_option linter.unusedSimpArgs false

set_option linter.unusedVariables false

namespace Go.Proofs.YtaaocomgmacjnabDoor

open Go.RowKit

theorem Shaft.fall_cases (S : Shaft) (l : List Int) : S.fall l = -1 ∨ 0 ≤ S.fall l := by
  unfold Shaft.fall
  cases (List.range S.F.length).find? (fun f => !S.fine l f) with
  | none => exact Or.inl rfl
  | some k => right; simp
theorem plan_falls {S : Shaft} {l : List Int} (h : 0 ≤ S.fall l) : false = S.plan l := by
  have : (S.fall l == -1) = false := by rw [beq_eq_false_iff_ne]; omega
  simp [Shaft.plan, this]
theorem plan_yes {S : Shaft} {l : List Int} (h1 : S.stops l = true) (h2 : bottomV l = (S.F.length : Int)) (h3 : l.all S.rests = true) (h4 : S.fall l = -1) : true = S.plan l := by
  unfold Shaft.plan; rw [h1, h2, h3, h4]; simp
theorem bottom_zero {S : Shaft} {l : List Int} (h1 : S.stops l = true) (h : S.F.length = 0) : bottomV l = (S.F.length : Int) := by
  cases l with
  | nil => simp [bottomV, h]
  | cons x t => have := asc_mem h1 List.mem_cons_self; omega
set_option maxRecDepth 100000 in
set_option maxHeartbeats 4000000 in
theorem isPlanR_any (S : Shaft) (p q : Option Addr) (c d : Nat) (l : List Int) (pl : Option Addr) (cl : Nat) (w : World) (hok : S.ok = true) (hl : l.length ≤ 1000000) (hi : ShaftIn w w.heap.size S p q) (hil : ListIn w w.heap.size l pl) :
    Calls Tryd.prog 46 #[.agg #[.slice q S.R.length d, .slice p S.F.length c, .int .i64 S.D, .int .i64 S.H, .int .i64 S.T], .slice pl l.length cl] w fun e w' => e = .returned (.bool (S.plan l)) ∧ Below w.heap.size w w' := by
  obtain ⟨_, h12, _⟩ := S.ok_parts hok
  obtain ⟨w1, hw1, hb1, hz1, hx⟩ := box_shaft w S p q c d
  have hi1 := hi.bel hb1
  have hil1 := hil.bel hb1
  have HX := Lib.hid hx; have HI := Lib.hid hi1; have HIL := Lib.hid hil1; have HOK := Lib.hid hok; have HB := Lib.hid hb1
  have HAS := areStopsR_any S p q c d l pl cl w1 (by omega) hl hil1
  have HFL := fun (V : World) (hV : Below w1.heap.size w1 V) => fallsR_any S p q c d l pl cl V hok hl (hi1.bel hV) (hil1.bel hV)
  obtain ⟨g0, g1, g2, g3, g4, g5⟩ := hx
  clear hi hil hok hb1 hz1 hi1 hil1
  cases hst : S.stops l with
  | false =>
    rw [hst] at HAS
    have HA := Lib.hid HAS; have HR := Lib.hid (plan_stops hst); clear HAS hst HFL
    go_enter Tryd.func46, Tryd.ntmps46
    go_wp2_with (go_at_call 22; refine (HA.out).mono ?_; rintro e w2 ⟨rfl, hw2⟩; go_must (have Hw2 := Lib.hid (bT HB.out hw2); clear hw2))
    go_ret
    exact ⟨ret_b HR.out, by first | exact Hw2.out | exact bD Hw2.out _⟩
  | true =>
  rw [hst] at HAS
  have HA := Lib.hid HAS; have HST := Lib.hid hst; have HF := Lib.hid HFL; clear HAS hst HFL
  by_cases hfl : 0 ≤ S.fall l
  · have HR := Lib.hid (plan_falls hfl)
    have d0 : decide ((0 : Int) ≤ S.fall l) = true := decide_eq_true hfl
    clear hfl
    go_enter Tryd.func46, Tryd.ntmps46
    go_wp2_with (first | (go_at_call 22; refine (HA.out).mono ?_; rintro e w2 ⟨rfl, hw2⟩; go_must (have Hw2 := Lib.hid (bT (Below.refl _ _) hw2); obtain ⟨m0, m1, m2, m3, m4, m5⟩ := HX.out.below hw2; clear hw2)) | (go_at_call 44; refine (HF.out _ (by first | exact Hw2.out | exact bD Hw2.out _)).mono ?_; rintro e w3 ⟨rfl, hw3⟩; go_must (have Hw3 := Lib.hid (bT Hw2.out hw3); clear hw3)))
    go_ret
    exact ⟨ret_b HR.out, bT HB.out (by first | exact Hw3.out | exact bD Hw3.out _)⟩
  · have hfl1 : S.fall l = -1 := (S.fall_cases l).resolve_right hfl
    have d0 : decide ((0 : Int) ≤ S.fall l) = false := decide_eq_false hfl
    have HFN := Lib.hid hfl1
    clear hfl hfl1
    go_enter Tryd.func46, Tryd.ntmps46
    go_wp2_with (first | (go_at_call 22; refine (HA.out).mono ?_; rintro e w2 ⟨rfl, hw2⟩; go_must (have Hw2 := Lib.hid (bT (Below.refl _ _) hw2); obtain ⟨m0, m1, m2, m3, m4, m5⟩ := HX.out.below hw2; clear hw2)) | (go_at_call 44; refine (HF.out _ (by first | exact Hw2.out | exact bD Hw2.out _)).mono ?_; rintro e w3 ⟨rfl, hw3⟩; go_must (have Hw3 := Lib.hid (bT Hw2.out hw3); clear hw3)))
    clear m0 m1 m2 m3 m4 m5 g0 g1 g2 g3 g4
    go_loopw [5] (fun i wr => ∃ k : Nat, i = .int .i64 k ∧ k ≤ l.length ∧ AllTo S.rests l k ∧ Below w1.heap.size w1 wr) (fun i _ => l.length - (intOf i).toNat)
    case atStart => exact ⟨0, rfl, Nat.zero_le _, rfl, by first | exact Hw3.out | exact bD Hw3.out _⟩
    case round =>
      obtain ⟨k, rfl, hk, hp, hbb⟩ := hrel
      have HP := Lib.hid hp; have HBB := Lib.hid hbb; clear hp hbb
      obtain ⟨m0, m1, m2, m3, m4, m5⟩ := HX.out.below HBB.out
      by_cases hlt : k < l.length
      · have j1 : decide ((k : Int) < (l.length : Int)) = true := decide_eq_true (by omega)
        obtain ⟨b, o, rfl, hc⟩ := HIL.out.bel HBB.out (by omega)
        have e0 := hc.cell k hlt
        have hlb := hc.lt
        obtain ⟨s0, s1⟩ := asc_at HST.out hlt
        have hbk := HI.out.bel HBB.out
        have HRG := fun (V : World) (hV : Below wr.heap.size wr V) => canRestR_any S p q c d l[k] V HOK.out s0 s1 (hbk.bel hV)
        have FE : ∀ x : Ext wr, x.v.cell? ⟨b, o + k, none⟩ = some (.int .i64 l[k]) := fun x => (x.b.cell (p := ⟨b, o + k, none⟩) hlb).trans e0
        have F0 : ∀ x : Ext wr, x.v.cell? ⟨w.heap.size, 0, none⟩ = some (.slice q S.R.length d) := fun x => (x.b.cell (p := ⟨w.heap.size, 0, none⟩) m5).trans m0
        have F1 : ∀ x : Ext wr, x.v.cell? ⟨w.heap.size, 1, none⟩ = some (.slice p S.F.length c) := fun x => (x.b.cell (p := ⟨w.heap.size, 1, none⟩) m5).trans m1
        have F2 : ∀ x : Ext wr, x.v.cell? ⟨w.heap.size, 2, none⟩ = some (.int .i64 S.D) := fun x => (x.b.cell (p := ⟨w.heap.size, 2, none⟩) m5).trans m2
        have F3 : ∀ x : Ext wr, x.v.cell? ⟨w.heap.size, 3, none⟩ = some (.int .i64 S.H) := fun x => (x.b.cell (p := ⟨w.heap.size, 3, none⟩) m5).trans m3
        have F4 : ∀ x : Ext wr, x.v.cell? ⟨w.heap.size, 4, none⟩ = some (.int .i64 S.T) := fun x => (x.b.cell (p := ⟨w.heap.size, 4, none⟩) m5).trans m4
        clear hc hbk
        cases hrs : S.rests l[k] with
        | false =>
          rw [hrs] at HRG
          have HRR := Lib.hid HRG; have HR := Lib.hid (plan_rests (allTo_bad hlt hrs)); clear HRG hrs
          go_wp2
          refine quiet_lit (by kernel_rfl) (by kernel_rfl) ?_
          repeat (first | go_big_quiet_step (((go_at_call 27; exact quiet_x (HRR.out _ (by rename_i x; exact x.b))))) | quiet_step (((go_at_call 27; exact quiet_x (HRR.out _ (by rename_i x; exact x.b))))))
          refine wpQuiet_nil ?_
          intro w2 hw
          obtain ⟨⟨w2, hw⟩, rfl⟩ := hw
          have HW2 := Lib.hid hw; clear hw F0 F1 F2 F3 F4 FE
          go_wp2
          go_ret
          exact ⟨ret_b HR.out, bT HB.out (bT HBB.out HW2.out)⟩
        | true =>
          rw [hrs] at HRG
          have HRR := Lib.hid HRG; have HN := Lib.hid (allTo_succ HP.out hlt hrs); clear HRG hrs
          go_wp2
          refine quiet_lit (by kernel_rfl) (by kernel_rfl) ?_
          repeat (first | go_big_quiet_step (((go_at_call 27; exact quiet_x (HRR.out _ (by rename_i x; exact x.b))))) | quiet_step (((go_at_call 27; exact quiet_x (HRR.out _ (by rename_i x; exact x.b))))))
          refine wpQuiet_nil ?_
          intro w2 hw
          obtain ⟨⟨w2, hw⟩, rfl⟩ := hw
          have HW2 := Lib.hid hw; clear hw F0 F1 F2 F3 F4 FE
          go_wp2
          go_roundw
          case rel => exact ⟨k + 1, by go_num, hlt, HN.out, bT HBB.out HW2.out⟩
          case measure => simp [intOf]; omega
      · have j1 : decide ((k : Int) < (l.length : Int)) = false := decide_eq_false (by omega)
        have hall := allTo_all HP.out (by omega)
        by_cases hn : S.F.length = 0
        · have HR := Lib.hid (plan_yes HST.out (bottom_zero HST.out hn) hall HFN.out)
          have d1 : ((S.F.length : Int) == 0) = true := by simp [hn]
          clear hn hall
          go_wp2
          go_quiet (fail)
          go_wp2
          go_ret
          exact ⟨ret_b HR.out, bT HB.out (by first | exact HBB.out | exact bD HBB.out _)⟩
        · have d1 : ((S.F.length : Int) == 0) = false := by simpa using hn
          by_cases hl0 : l.length = 0
          · have HR := Lib.hid (plan_bottom (S := S) (l := l) (by rw [← bottom_nil hl0]; omega))
            have d2 : decide ((0 : Int) < (l.length : Int)) = false := decide_eq_false (by omega)
            have d3 : decide (0 < l.length) = false := decide_eq_false (by omega)
            clear hn hall
            go_wp2
            go_quiet (fail)
            go_wp2
            go_ret
            exact ⟨ret_b HR.out, bT HB.out (by first | exact HBB.out | exact bD HBB.out _)⟩
          · have d2 : decide ((0 : Int) < (l.length : Int)) = true := decide_eq_true (by omega)
            have d3 : decide (0 < l.length) = true := decide_eq_true (by omega)
            have d4 : 0 < l.length := by omega
            obtain ⟨b, o, rfl, hc⟩ := HIL.out.bel HBB.out (by omega)
            have e0 := hc.cell (l.length - 1) (by omega)
            rw [bottom_at d4] at e0
            obtain ⟨j, hj⟩ : ∃ j, l.length - 1 = j := ⟨_, rfl⟩
            rw [hj] at e0
            have z1 : IntKind.i64.wrap ((l.length : Int) - 1) = (j : Int) := by rw [show (l.length : Int) - 1 = (j : Int) by omega]; exact IntWalk.i64_in _ (by omega)
            have y1 : (j : Int) < (l.length : Int) := by omega
            have hj1 : j < l.length := by omega
            clear hc
            by_cases hbt : bottomV l = (S.F.length : Int)
            · have HR := Lib.hid (plan_yes HST.out hbt hall HFN.out)
              have d5 : (bottomV l == (S.F.length : Int)) = true := by simpa using hbt
              clear hbt hn hall hl0
              go_wp2
              go_quiet (fail)
              go_wp2
              go_ret
              exact ⟨ret_b HR.out, bT HB.out (by first | exact HBB.out | exact bD HBB.out _)⟩
            · have HR := Lib.hid (plan_bottom hbt)
              have d5 : (bottomV l == (S.F.length : Int)) = false := by simpa using hbt
              clear hbt hn hall hl0
              go_wp2
              go_quiet (fail)
              go_wp2
              go_ret
              exact ⟨ret_b HR.out, bT HB.out (by first | exact HBB.out | exact bD HBB.out _)⟩
end Go.Proofs.YtaaocomgmacjnabDoor
