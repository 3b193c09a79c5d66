/- Shafts: CostOf, HoursOf of the specification. -/
import Derived.Test.YtaaocomgmacjnabDoorC5

set_option linter.unusedSimpArgs false

set_option linter.unusedVariables false

namespace Go.Proofs.YtaaocomgmacjnabDoor

open Go.RowKit

set_option maxRecDepth 100000 in
set_option maxHeartbeats 4000000 in
theorem costR_any (S : Shaft) (p q : Option Addr) (c d : Nat) (l : List Int) (pl : Option Addr) (cl : Nat) (w : World) (hok : S.ok = true) (hl : l.length ≤ 1000000) (hst : S.stops l = true) (hi : ShaftIn w w.heap.size S p q) (hil : ListIn w w.heap.size l pl) :
    Calls Tryd.prog 48 #[.agg #[.slice q S.R.length d, .slice p S.F.length c, .int .i64 S.D, .int .i64 S.H, .int .i64 S.T], .slice pl l.length cl] w fun e w' => e = .returned (.int .i64 (S.cost l)) ∧ Below w.heap.size w w' := by
  obtain ⟨_, h12, _⟩ := S.ok_parts hok
  obtain ⟨w1, hw1, hb1, hz1, hx⟩ := box_shaft w S p q c d
  have HX := Lib.hid hx; have HI := Lib.hid (hi.bel hb1); have HIL := Lib.hid (hil.bel hb1); have HOK := Lib.hid hok; have HB := Lib.hid hb1; have HST := Lib.hid hst
  clear hi hil hok hb1 hz1 hx hst
  go_enter Tryd.func48, Tryd.ntmps48
  go_wp2
  go_loopw [5, 6] (fun a i wr => ∃ k : Nat, i = .int .i64 k ∧ k ≤ S.F.length ∧ a = .int .i64 (feetP S k) ∧ Below w1.heap.size w1 wr) (fun _ i _ => S.F.length - (intOf i).toNat)
  case atStart => exact ⟨0, rfl, Nat.zero_le _, rfl, Below.refl _ _⟩
  case round =>
    obtain ⟨k, rfl, hk, rfl, hbb⟩ := hrel
    have HBB := Lib.hid hbb; clear hbb
    obtain ⟨g0, g1, g2, g3, g4, g5⟩ := HX.out.below HBB.out
    by_cases hlt : k < S.F.length
    · have j1 : decide ((k : Int) < (S.F.length : Int)) = true := decide_eq_true (by omega)
      have HPR := Lib.hid (priceOfR_any S p q c d k _ HOK.out hlt (HI.out.bel HBB.out))
      obtain ⟨c0, c1⟩ := feetP_bd HOK.out (k := k + 1) (by omega)
      have W1 : IntKind.i64.wrap (feetP S k + S.price k) = feetP S (k + 1) := IntWalk.i64_in _ (by rw [show feetP S k + S.price k = feetP S (k + 1) from rfl]; omega)
      go_wp2_with (go_at_call 40; refine HPR.out.mono ?_; rintro e w2 ⟨rfl, hb2⟩; go_must (have HB2 := Lib.hid (bT HBB.out hb2); clear hb2))
      go_roundw
      case rel => exact ⟨k + 1, by go_num, hlt, rfl, by first | exact HB2.out | exact bD HB2.out _⟩
      case measure => simp [intOf]; omega
    · have j1 : decide ((k : Int) < (S.F.length : Int)) = false := decide_eq_false (by omega)
      obtain rfl : k = S.F.length := by omega
      obtain ⟨a0, a1⟩ := feetP_bd HOK.out (Nat.le_refl S.F.length)
      go_wp2
      clear g0 g1 g2 g3 g4 g5
      go_loopw [5, 7] (fun a i wr => ∃ k : Nat, i = .int .i64 k ∧ k ≤ l.length ∧ a = .int .i64 (feetP S S.F.length + ringsP S l k) ∧ Below w1.heap.size w1 wr) (fun _ i _ => l.length - (intOf i).toNat)
      case atStart => exact ⟨0, rfl, Nat.zero_le _, by simp [ringsP], HBB.out⟩
      case round =>
        clear HBB
        obtain ⟨k, rfl, hk, rfl, hbb⟩ := hrel
        have HBB := Lib.hid hbb; clear hbb
        obtain ⟨g0, g1, g2, g3, g4, g5⟩ := HX.out.below HBB.out
        by_cases hlt : k < l.length
        · have j1 : decide ((k : Int) < (l.length : Int)) = true := decide_eq_true (by omega)
          obtain ⟨b, o, rfl, hc⟩ := HIL.out.bel HBB.out (by omega)
          have e0 := hc.cell k hlt
          have hlb := hc.lt
          obtain ⟨s0, s1⟩ := asc_at HST.out hlt
          have hbk := HI.out.bel HBB.out
          have HRG := Lib.hid (fun V hV => ringR_any S p q c d l[k] V HOK.out s0 s1 (hbk.bel hV))
          obtain ⟨d0, d1⟩ := ringsP_bd HOK.out HST.out (k := k + 1) (by omega)
          rw [ringsP_succ hlt] at d0 d1
          have W1 : IntKind.i64.wrap (feetP S S.F.length + ringsP S l k + S.ringV l[k]) = feetP S S.F.length + ringsP S l (k + 1) := by rw [ringsP_succ hlt, ← Int.add_assoc]; exact IntWalk.i64_in _ (by omega)
          have FE : ∀ x : Ext wr, x.v.cell? ⟨b, o + k, none⟩ = some (.int .i64 l[k]) := fun x => (x.b.cell (p := ⟨b, o + k, none⟩) hlb).trans e0
          have F0 : ∀ x : Ext wr, x.v.cell? ⟨w.heap.size, 0, none⟩ = some (.slice q S.R.length d) := fun x => (x.b.cell (p := ⟨w.heap.size, 0, none⟩) g5).trans g0
          have F1 : ∀ x : Ext wr, x.v.cell? ⟨w.heap.size, 1, none⟩ = some (.slice p S.F.length c) := fun x => (x.b.cell (p := ⟨w.heap.size, 1, none⟩) g5).trans g1
          have F2 : ∀ x : Ext wr, x.v.cell? ⟨w.heap.size, 2, none⟩ = some (.int .i64 S.D) := fun x => (x.b.cell (p := ⟨w.heap.size, 2, none⟩) g5).trans g2
          have F3 : ∀ x : Ext wr, x.v.cell? ⟨w.heap.size, 3, none⟩ = some (.int .i64 S.H) := fun x => (x.b.cell (p := ⟨w.heap.size, 3, none⟩) g5).trans g3
          have F4 : ∀ x : Ext wr, x.v.cell? ⟨w.heap.size, 4, none⟩ = some (.int .i64 S.T) := fun x => (x.b.cell (p := ⟨w.heap.size, 4, none⟩) g5).trans g4
          clear hc hbk
          go_wp2
          refine quiet_lit (by kernel_rfl) (by kernel_rfl) ?_
          repeat (first | go_big_quiet_step (((go_at_call 28; exact quiet_x (HRG.out _ (by rename_i x; exact x.b))))) | quiet_step (((go_at_call 28; exact quiet_x (HRG.out _ (by rename_i x; exact x.b))))))
          refine wpQuiet_nil ?_
          intro w2 hw
          obtain ⟨⟨w2, hw⟩, rfl⟩ := hw
          have HW2 := Lib.hid hw; clear hw F0 F1 F2 F3 F4 FE
          go_wp2
          go_roundw
          case rel => exact ⟨k + 1, by go_num, hlt, rfl, bT HBB.out HW2.out⟩
          case measure => simp [intOf]; omega
        · have j1 : decide ((k : Int) < (l.length : Int)) = false := decide_eq_false (by omega)
          obtain rfl : k = l.length := by omega
          go_wp2
          go_ret
          exact ⟨rfl, bT HB.out HBB.out⟩

set_option maxRecDepth 100000 in
set_option maxHeartbeats 4000000 in
theorem hoursR_any (S : Shaft) (p q : Option Addr) (c d : Nat) (l : List Int) (pl : Option Addr) (cl : Nat) (w : World) (hok : S.ok = true) (hl : l.length ≤ 1000000) (hi : ShaftIn w w.heap.size S p q) :
    Calls Tryd.prog 49 #[.agg #[.slice q S.R.length d, .slice p S.F.length c, .int .i64 S.D, .int .i64 S.H, .int .i64 S.T], .slice pl l.length cl] w fun e w' => e = .returned (.int .i64 (S.time l)) ∧ Below w.heap.size w w' := by
  obtain ⟨_, h12, _, _, _, _, ⟨t0, t1⟩⟩ := S.ok_parts hok
  obtain ⟨w1, hw1, hb1, hz1, hx⟩ := box_shaft w S p q c d
  have HX := Lib.hid hx; have HI := Lib.hid (hi.bel hb1); have HOK := Lib.hid hok; have HB := Lib.hid hb1
  have hm0 : 0 ≤ S.T * (l.length : Int) := Int.mul_nonneg t0 (by omega)
  have hm1 : S.T * (l.length : Int) ≤ 9 * (l.length : Int) := Int.mul_le_mul_of_nonneg_right t1 (by omega)
  obtain ⟨m, hm⟩ : ∃ m, S.T * (l.length : Int) = m := ⟨_, rfl⟩
  have HT := Lib.hid (show feetH S S.F.length + m = S.time l from by unfold Shaft.time; rw [hm])
  have W0 : IntKind.i64.wrap (S.T * (l.length : Int)) = m := by rw [← hm]; exact IntWalk.i64_in _ (by omega)
  rw [hm] at hm0 hm1
  obtain ⟨g0, g1, g2, g3, g4, g5⟩ := hx
  clear hi hok hb1 hz1 hm
  go_enter Tryd.func49, Tryd.ntmps49
  go_wp2
  clear g0 g1 g2 g3 g4 g5
  go_loopw [5, 6] (fun a i wr => ∃ k : Nat, i = .int .i64 k ∧ k ≤ S.F.length ∧ a = .int .i64 (feetH S k + m) ∧ Below w1.heap.size w1 wr) (fun _ i _ => S.F.length - (intOf i).toNat)
  case atStart => exact ⟨0, rfl, Nat.zero_le _, by simp [feetH], by first | exact Below.refl _ _ | exact bD (Below.refl _ _) _⟩
  case round =>
    obtain ⟨k, rfl, hk, rfl, hbb⟩ := hrel
    have HBB := Lib.hid hbb; clear hbb
    obtain ⟨g0, g1, g2, g3, g4, g5⟩ := HX.out.below HBB.out
    by_cases hlt : k < S.F.length
    · have j1 : decide ((k : Int) < (S.F.length : Int)) = true := decide_eq_true (by omega)
      have HRK := Lib.hid (rockR_any S p q c d k _ HOK.out hlt (HI.out.bel HBB.out))
      obtain ⟨c0, c1⟩ := feetH_bd HOK.out (k := k + 1) (by omega)
      obtain ⟨x, hx'⟩ : ∃ x, S.rock (k : Int) = x := ⟨_, rfl⟩
      have W1 : IntKind.i64.wrap (feetH S k + m + x.h) = feetH S (k + 1) + m := by
        rw [show feetH S k + m + x.h = feetH S (k + 1) + m from by rw [← hx']; show _ = feetH S k + (S.rock k).h + m; omega]; exact IntWalk.i64_in _ (by omega)
      rw [hx'] at HRK
      have fx : ∀ W, (Instr.field 55 (.agg #[.int .i64 x.h, .int .i64 x.p, .int .i64 x.s, .int .i64 x.e]) 0).run Tryd.prog W = .ok (.int .i64 x.h) W := fun _ => by kernel_rfl
      clear hx'
      go_wp2_with (go_at_call 41; refine HRK.out.mono ?_; rintro e w2 ⟨rfl, hb2⟩; go_must (have HB2 := Lib.hid (bT HBB.out hb2); clear hb2))
      go_roundw
      case rel => exact ⟨k + 1, by go_num, hlt, rfl, by first | exact HB2.out | exact bD HB2.out _⟩
      case measure => simp [intOf]; omega
    · have j1 : decide ((k : Int) < (S.F.length : Int)) = false := decide_eq_false (by omega)
      obtain rfl : k = S.F.length := by omega
      go_wp2
      go_ret
      exact ⟨ret_i HT.out, bT HB.out HBB.out⟩
end Go.Proofs.YtaaocomgmacjnabDoor
