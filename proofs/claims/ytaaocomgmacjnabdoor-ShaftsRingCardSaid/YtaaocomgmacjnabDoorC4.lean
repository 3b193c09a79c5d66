/- Shafts: isPlan of the program. -/
import Derived.Test.YtaaocomgmacjnabDoorC3

set_option linter.unusedSimpArgs false

set_option linter.unusedVariables false

namespace Go.Proofs.YtaaocomgmacjnabDoor

open Go.RowKit

theorem plan_stops {S : Shaft} {l : List Int} (h : S.stops l = false) : false = S.plan l := by simp [Shaft.plan, h]
theorem plan_bottom {S : Shaft} {l : List Int} (h : bottomV l ≠ (S.F.length : Int)) : false = S.plan l := by simp [Shaft.plan, h]
theorem plan_rests {S : Shaft} {l : List Int} (h : l.all S.rests = false) : false = S.plan l := by
  unfold Shaft.plan; rw [h]; simp
theorem plan_end {S : Shaft} {l : List Int} (h1 : S.stops l = true) (h2 : bottomV l = (S.F.length : Int)) (h3 : l.all S.rests = true) : (!falls S l) = S.plan l := by
  unfold Shaft.plan falls; rw [h1, h2, h3]; simp [bne]
theorem plan_parts {S : Shaft} {l : List Int} (h : S.plan l = true) : S.stops l = true ∧ l.all S.rests = true := by
  simp only [Shaft.plan, Bool.and_eq_true] at h; exact ⟨h.1, h.2.2.1⟩
set_option maxRecDepth 100000 in
set_option maxHeartbeats 4000000 in
theorem isPlan_any (S : Shaft) (p q : Option Addr) (c d bx : Nat) (l : List Int) (pl : Option Addr) (cl : Nat) (w : World) (hok : S.ok = true) (hl : l.length ≤ 1000000) (hcl : l.length ≤ cl) (hx : BoxS w bx S p q c d) (hi : ShaftIn w w.heap.size S p q) (hil : ListIn w w.heap.size l pl) :
    Calls Tryd.prog 45 #[.pointer (some ⟨bx, 0, none⟩), .slice pl l.length cl] w fun e w' => e = .returned (.bool (S.plan l)) ∧ Below w.heap.size w w' := by
  obtain ⟨_, h12, _⟩ := S.ok_parts hok
  have HX := Lib.hid hx; have HI := Lib.hid hi; have HIL := Lib.hid hil; have HOK := Lib.hid hok
  have has := fun (V : World) (hV : Below w.heap.size w V) => areStops_any S p q c d bx l pl cl V (by omega) hl (hx.below hV) (hil.bel hV)
  have HBT := Lib.hid (fun (V : World) (hV : Below w.heap.size w V) => bottom_any l pl cl V hl (hil.bel hV))
  have F0 : ∀ x : Ext w, x.v.cell? ⟨bx, 0, none⟩ = some (.slice q S.R.length d) := fun x => (hx.below x.b).c0
  have F1 : ∀ x : Ext w, x.v.cell? ⟨bx, 1, none⟩ = some (.slice p S.F.length c) := fun x => (hx.below x.b).c1
  clear hi hok hil
  obtain ⟨g0, g1, g2, g3, g4, g5⟩ := hx
  cases hst : S.stops l with
  | false =>
    rw [hst] at has
    have HAS := Lib.hid has; have HR := Lib.hid (plan_stops hst); clear has hst
    go_enter Tryd.func45, Tryd.ntmps45
    go_wp2
    refine quiet_lit (by kernel_rfl) (by kernel_rfl) ?_
    repeat (first | go_big_quiet_step ((first | (go_at_call 42; exact quiet_x (HAS.out _ (by rename_i x; exact x.b))) | (go_at_call 62; exact quiet_x (HBT.out _ (by rename_i x; exact x.b))))) | quiet_step ((first | (go_at_call 42; exact quiet_x (HAS.out _ (by rename_i x; exact x.b))) | (go_at_call 62; exact quiet_x (HBT.out _ (by rename_i x; exact x.b))))))
    refine wpQuiet_nil ?_
    intro w2 hw
    obtain ⟨⟨w2, hw⟩, rfl⟩ := hw
    have HW2 := Lib.hid hw; clear hw
    go_wp2
    go_ret
    exact ⟨ret_b HR.out, HW2.out⟩
  | true =>
  rw [hst] at has
  have HAS := Lib.hid has; have HST := Lib.hid hst; clear has hst
  by_cases hbt : bottomV l = (S.F.length : Int)
  case neg =>
    have HR := Lib.hid (plan_bottom hbt)
    have d1 : (bottomV l != (S.F.length : Int)) = true := by simpa using hbt
    clear hbt
    go_enter Tryd.func45, Tryd.ntmps45
    go_wp2
    refine quiet_lit (by kernel_rfl) (by kernel_rfl) ?_
    repeat (first | go_big_quiet_step ((first | (go_at_call 42; exact quiet_x (HAS.out _ (by rename_i x; exact x.b))) | (go_at_call 62; exact quiet_x (HBT.out _ (by rename_i x; exact x.b))))) | quiet_step ((first | (go_at_call 42; exact quiet_x (HAS.out _ (by rename_i x; exact x.b))) | (go_at_call 62; exact quiet_x (HBT.out _ (by rename_i x; exact x.b))))))
    refine wpQuiet_nil ?_
    intro w2 hw
    obtain ⟨⟨w2, hw⟩, rfl⟩ := hw
    have HW2 := Lib.hid hw; clear hw
    go_wp2
    go_ret
    exact ⟨ret_b HR.out, HW2.out⟩
  case pos =>
  have HBO := Lib.hid hbt
  have d1 : (bottomV l != (S.F.length : Int)) = false := by simpa using hbt
  clear hbt
  go_enter Tryd.func45, Tryd.ntmps45
  go_wp2
  refine quiet_lit (by kernel_rfl) (by kernel_rfl) ?_
  repeat (first | go_big_quiet_step ((first | (go_at_call 42; exact quiet_x (HAS.out _ (by rename_i x; exact x.b))) | (go_at_call 62; exact quiet_x (HBT.out _ (by rename_i x; exact x.b))))) | quiet_step ((first | (go_at_call 42; exact quiet_x (HAS.out _ (by rename_i x; exact x.b))) | (go_at_call 62; exact quiet_x (HBT.out _ (by rename_i x; exact x.b))))))
  refine wpQuiet_nil ?_
  intro w2 hw
  obtain ⟨⟨w2, hw⟩, rfl⟩ := hw
  have HW2 := Lib.hid hw; clear hw
  go_wp2
  go_loopw [28] (fun i wr => ∃ k : Nat, i = .int .i64 k ∧ k ≤ l.length ∧ AllTo S.rests l k ∧ Below w.heap.size w wr) (fun i _ => l.length - (intOf i).toNat)
  case atStart => exact ⟨0, rfl, Nat.zero_le _, rfl, HW2.out⟩
  case round =>
    obtain ⟨k, rfl, hk, hp, hbb⟩ := hrel
    have HP := Lib.hid hp; have HBB := Lib.hid hbb; clear hp hbb
    by_cases hlt : k < l.length
    · have j1 : decide ((k : Int) < (l.length : Int)) = true := by simp; omega
      obtain ⟨b, o, rfl, hc⟩ := HIL.out.bel HBB.out (by omega)
      have e0 := hc.cell k hlt
      obtain ⟨s0, s1⟩ := asc_at HST.out hlt
      have HRG := ringP_any S p q c d bx l[k] wr HOK.out s0 s1 (HX.out.below HBB.out) (HI.out.bel HBB.out)
      clear hc F0 F1 g0 g1 g2 g3 g4
      cases hrs : S.rests l[k] with
      | false =>
        rw [hrs] at HRG
        have HRR := Lib.hid HRG; have HR := Lib.hid (plan_rests (allTo_bad hlt hrs)); clear HRG hrs
        go_wp2_with (go_at_call 63; refine HRR.out.mono ?_; rintro e w3 ⟨rfl, hb3⟩; go_must (have HB3 := Lib.hid (bT HBB.out hb3); clear hb3))
        go_ret
        exact ⟨ret_b HR.out, HB3.out⟩
      | true =>
        rw [hrs] at HRG
        have HRR := Lib.hid HRG; have HN := Lib.hid (allTo_succ HP.out hlt hrs); clear HRG hrs
        go_wp2_with (go_at_call 63; refine HRR.out.mono ?_; rintro e w3 ⟨rfl, hb3⟩; go_must (have HB3 := Lib.hid (bT HBB.out hb3); clear hb3))
        go_roundw
        case rel => exact ⟨k + 1, by go_num, hlt, HN.out, HB3.out⟩
        case measure => simp [intOf]; omega
    · have j1 : decide ((k : Int) < (l.length : Int)) = false := by simp; omega
      have HR := Lib.hid (plan_end HST.out HBO.out (allTo_all HP.out (by omega)))
      have HF := Lib.hid (fallsP_any S p q c d bx l pl cl wr HOK.out hl hcl HST.out (HX.out.below HBB.out) (HI.out.bel HBB.out) (HIL.out.bel HBB.out))
      clear F0 F1 g0 g1 g2 g3 g4
      go_wp2_with (go_at_call 43; refine HF.out.mono ?_; rintro e w3 ⟨rfl, hb3⟩; go_must (have HB3 := Lib.hid (bT HBB.out hb3); clear hb3))
      go_ret
      exact ⟨ret_b HR.out, HB3.out⟩
end Go.Proofs.YtaaocomgmacjnabDoor
