/- Shafts: FallsOf of the specification. -/
import Derived.Test.YtaaocomgmacjnabDoorC4

import Derived.Test.YtaaocomgmacjnabDoorC5

set_option linter.unusedSimpArgs false

set_option linter.unusedVariables false

namespace Go.Proofs.YtaaocomgmacjnabDoor

open Go.RowKit

set_option maxRecDepth 100000 in
set_option maxHeartbeats 4000000 in
theorem fallsR_any (S : Shaft) (p q : Option Addr) (c d : Nat) (l : List Int) (pl : Option Addr) (cl : Nat) (w : World) (hok : S.ok = true) (hl : l.length ≤ 1000000) (hi : ShaftIn w w.heap.size S p q) (hil : ListIn w w.heap.size l pl) :
    Calls Tryd.prog 44 #[.agg #[.slice q S.R.length d, .slice p S.F.length c, .int .i64 S.D, .int .i64 S.H, .int .i64 S.T], .slice pl l.length cl] w fun e w' => e = .returned (.int .i64 (S.fall l)) ∧ Below w.heap.size w w' := by
  obtain ⟨_, h12, _⟩ := S.ok_parts hok
  obtain ⟨w1, hw1, hb1, hz1, hx⟩ := box_shaft w S p q c d
  have HX := Lib.hid hx; have HI := Lib.hid (hi.bel hb1); have HIL := Lib.hid (hil.bel hb1); have HOK := Lib.hid hok; have HB := Lib.hid hb1
  clear hi hil hok hb1 hz1 hx
  go_enter Tryd.func44, Tryd.ntmps44
  go_wp2
  go_loopw [5, 6] (fun a i wr => ∃ k : Nat, i = .int .i64 k ∧ k ≤ S.F.length ∧ a = .int .i64 (ringAt l k : Int) ∧ AllTo (S.fine l) (List.range S.F.length) k ∧ Below w1.heap.size w1 wr) (fun _ i _ => S.F.length - (intOf i).toNat)
  case atStart => exact ⟨0, rfl, Nat.zero_le _, rfl, rfl, Below.refl _ _⟩
  case round =>
    obtain ⟨k, rfl, hk, rfl, hp, hbb⟩ := hrel
    have HP := Lib.hid hp; have HBB := Lib.hid hbb; clear hp hbb
    obtain ⟨g0, g1, g2, g3, g4, g5⟩ := HX.out.below HBB.out
    have hrk := ringAt_le l k
    obtain ⟨r, hr⟩ : ∃ r, ringAt l k = r := ⟨_, rfl⟩
    rw [hr] at hrk ⊢
    have HRR := Lib.hid hr; clear hr
    by_cases hlt : k < S.F.length
    · have j1 : decide ((k : Int) < (S.F.length : Int)) = true := decide_eq_true (by omega)
      go_wp2
      clear g0 g1 g2 g3 g4 g5
      go_loopw [7] (fun i ws => ∃ j : Nat, i = .int .i64 ((r + j : Nat) : Int) ∧ r + j ≤ k + 1 ∧ AllTo (S.standsAt r (k + 1)) (List.range (k + 1 - r)) j ∧ Below w1.heap.size w1 ws) (fun i _ => k + 1 - (intOf i).toNat)
      case atStart => exact ⟨0, rfl, by omega, rfl, HBB.out⟩
      case round =>
        clear HBB
        obtain ⟨j, rfl, hj, hq, hbb⟩ := hrel
        have HQ := Lib.hid hq; have HBB2 := Lib.hid hbb; clear hq hbb
        obtain ⟨g0, g1, g2, g3, g4, g5⟩ := HX.out.below HBB2.out
        by_cases hlt2 : r + j ≤ k
        · have j2 : decide (((r + j : Nat) : Int) ≤ (k : Int)) = true := decide_eq_true (by omega)
          have HRK := Lib.hid (rockR_any S p q c d (r + j) _ HOK.out (by omega) (HI.out.bel HBB2.out))
          obtain ⟨x, hx'⟩ : ∃ x, S.rock ((r + j : Nat) : Int) = x := ⟨_, rfl⟩
          rw [hx'] at HRK
          have fx : ∀ W, (Instr.field 55 (.agg #[.int .i64 x.h, .int .i64 x.p, .int .i64 x.s, .int .i64 x.e]) 2).run Tryd.prog W = .ok (.int .i64 x.s) W := fun _ => by kernel_rfl
          have W1 : IntKind.i64.wrap ((k : Int) - (r : Int)) = (k : Int) - (r : Int) := IntWalk.i64_in _ (by omega)
          have W2 : IntKind.i64.wrap ((k : Int) - (r : Int) + 1) = (k : Int) - (r : Int) + 1 := IntWalk.i64_in _ (by omega)
          cases hs : S.standsAt r (k + 1) j with
          | false =>
            have d1 : decide (x.s < (k : Int) - (r : Int) + 1) = true := by simp only [Shaft.standsAt, decide_eq_false_iff_not, hx'] at hs; simp only [decide_eq_true_eq]; omega
            have HF := Lib.hid (Shaft.fall_at HP.out hlt (show S.fine l k = false from by unfold Shaft.fine; rw [HRR.out]; exact range_bad (k := j) (by omega) hs))
            clear hs hx'
            generalize ((r + j : Nat) : Int) = rj at *
            go_wp2_with (go_at_call 41; refine HRK.out.mono ?_; rintro e w2 ⟨rfl, hb2⟩; go_must (have HB2 := Lib.hid (bT HBB2.out hb2); clear hb2))
            go_ret
            exact ⟨ret_i HF.out.symm, bT HB.out (by first | exact HB2.out | exact bD HB2.out _)⟩
          | true =>
            have d1 : decide (x.s < (k : Int) - (r : Int) + 1) = false := by simp only [Shaft.standsAt, decide_eq_true_eq, hx'] at hs; simp only [decide_eq_false_iff_not]; omega
            have HN := Lib.hid (allTo_range HQ.out (by omega) hs)
            clear hs hx'
            go_wp2_with (go_at_call 41; refine HRK.out.mono ?_; rintro e w2 ⟨rfl, hb2⟩; go_must (have HB2 := Lib.hid (bT HBB2.out hb2); clear hb2))
            go_roundw
            case rel => exact ⟨j + 1, by go_num, by omega, HN.out, by first | exact HB2.out | exact bD HB2.out _⟩
            case measure => simp [intOf]; omega
        · have j2 : decide (((r + j : Nat) : Int) ≤ (k : Int)) = false := decide_eq_false (by omega)
          have HN := Lib.hid (allTo_range HP.out hlt (show S.fine l k = true from by unfold Shaft.fine; rw [HRR.out]; exact range_all HQ.out (by omega)))
          have HIN := Lib.hid (show ∀ V, Below _ _ V → Calls Tryd.prog 24 #[.slice pl l.length cl, .int .i64 ((k : Int) + 1)] V fun e w' => e = .returned (.bool (decide (((k + 1 : Nat) : Int) ∈ l))) ∧ Below V.heap.size V w' from fun V hV => by
            have h := inR_any l pl cl ((k + 1 : Nat) : Int) V hl ((HIL.out.bel HBB2.out).bel hV)
            rwa [show ((k + 1 : Nat) : Int) = (k : Int) + 1 by omega] at h ⊢)
          have W3 : IntKind.i64.wrap ((k : Int) + 1) = (k : Int) + 1 := IntWalk.i64_in _ (by omega)
          clear g0 g1 g2 g3 g4 g5
          by_cases hin : ((k + 1 : Nat) : Int) ∈ l
          · have HRN := Lib.hid (show ((k : Int) + 1) = (ringAt l (k + 1) : Int) from by unfold ringAt; rw [if_pos hin]; omega)
            rw [decide_eq_true hin] at HIN
            go_wp2_with (go_at_call 24; refine (HIN.out _ (by first | exact Below.refl _ _ | exact bD (Below.refl _ _) _)).mono ?_; rintro e w2 ⟨rfl, hb2⟩; go_must (have HB2 := Lib.hid hb2; clear hb2))
            go_roundw
            case rel => exact ⟨k + 1, by go_num, hlt, by rw [HRN.out], HN.out, bT HBB2.out (by first | exact HB2.out | exact bT (bD (Below.refl _ _) _) HB2.out)⟩
            case measure => simp [intOf]; omega
          · have HRN := Lib.hid (show (r : Int) = (ringAt l (k + 1) : Int) from by unfold ringAt; rw [if_neg hin, HRR.out])
            rw [decide_eq_false hin] at HIN
            go_wp2_with (go_at_call 24; refine (HIN.out _ (by first | exact Below.refl _ _ | exact bD (Below.refl _ _) _)).mono ?_; rintro e w2 ⟨rfl, hb2⟩; go_must (have HB2 := Lib.hid hb2; clear hb2))
            go_roundw
            case rel => exact ⟨k + 1, by go_num, hlt, by rw [HRN.out], HN.out, bT HBB2.out (by first | exact HB2.out | exact bT (bD (Below.refl _ _) _) HB2.out)⟩
            case measure => simp [intOf]; omega
    · have j1 : decide ((k : Int) < (S.F.length : Int)) = false := decide_eq_false (by omega)
      have HF := Lib.hid (Shaft.fall_none HP.out (by omega))
      go_wp2
      go_ret
      exact ⟨ret_i HF.out.symm, bT HB.out HBB.out⟩
end Go.Proofs.YtaaocomgmacjnabDoor
