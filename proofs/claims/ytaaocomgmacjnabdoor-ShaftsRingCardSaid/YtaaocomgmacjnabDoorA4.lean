/- Shafts: Check and ask of the specification. -/
import Derived.Test.YtaaocomgmacjnabDoorA3

set_option linter.unusedSimpArgs false

set_option linter.unusedVariables false

namespace Go.Proofs.YtaaocomgmacjnabDoor

open Go.RowKit

theorem Shaft.ok_D {S : Shaft} (h : within S.D 0 9 = false) : false = S.ok := by simp [Shaft.ok, h]
theorem Shaft.ok_H {S : Shaft} (h : within S.H 0 9 = false) : false = S.ok := by simp [Shaft.ok, h]
theorem Shaft.ok_T {S : Shaft} (h : within S.T 0 9 = false) : false = S.ok := by simp [Shaft.ok, h]
theorem ret_no {S : Shaft} (h : false = S.ok) : Ending.returned (.int .i64 20) = .returned (.int .i64 (vErr S.ok)) := by rw [← h]; rfl
theorem ret_ok {S : Shaft} (h : true = S.ok) : Ending.returned (.int .i64 0) = .returned (.int .i64 (vErr S.ok)) := by rw [← h]; rfl
set_option maxRecDepth 100000 in
set_option maxHeartbeats 4000000 in
theorem checkR_any (S : Shaft) (p q : Option Addr) (c d : Nat) (w : World) (hF : S.F.length ≤ 1000000) (hR : S.R.length ≤ 1000000) (hb : ShaftIn w w.heap.size S p q) :
    Calls Tryd.prog 10 #[.agg #[.slice q S.R.length d, .slice p S.F.length c, .int .i64 S.D, .int .i64 S.H, .int .i64 S.T]] w fun e w' => e = .returned (.int .i64 (vErr S.ok)) ∧ Below w.heap.size w w' := by
  obtain ⟨w1, hw1, hb1, hz1, x1⟩ := box_shaft w S p q c d
  have HT := Lib.hid (hb.bel hb1)
  have HB := Lib.hid hb1
  have HX := Lib.hid x1
  obtain ⟨k0, k1, k2, k3, k4, k5⟩ := x1
  clear hb hb1 hz1
  by_cases hl : S.R.length ≤ 4
  case neg =>
    have dl : decide ((4 : Int) < (S.R.length : Int)) = true := by simp; omega
    have HR := Lib.hid (Shaft.ok_R hl); clear hl
    go_enter Tryd.func10, Tryd.ntmps10
    go_wp2
    go_ret
    exact ⟨ret_no HR.out, HB.out⟩
  case pos =>
  have dl : decide ((4 : Int) < (S.R.length : Int)) = false := by simp; omega
  by_cases hm : S.F.length ≤ 12
  case neg =>
    have dm : decide ((12 : Int) < (S.F.length : Int)) = true := by simp; omega
    have HR := Lib.hid (Shaft.ok_F hm); clear hm
    go_enter Tryd.func10, Tryd.ntmps10
    go_wp2
    go_ret
    exact ⟨ret_no HR.out, HB.out⟩
  case pos =>
  have dm : decide ((12 : Int) < (S.F.length : Int)) = false := by simp; omega
  cases hD : within S.D 0 9 with
  | false =>
    have HR := Lib.hid (Shaft.ok_D hD)
    go_enter Tryd.func10, Tryd.ntmps10
    go_wp2_with (go_at_call 35; refine (within_any _ _ _ _).mono ?_; rintro e w' ⟨rfl, rfl⟩)
    go_ret
    exact ⟨ret_no HR.out, HB.out⟩
  | true =>
  cases hH : within S.H 0 9 with
  | false =>
    have HR := Lib.hid (Shaft.ok_H hH)
    go_enter Tryd.func10, Tryd.ntmps10
    go_wp2_with (go_at_call 35; refine (within_any _ _ _ _).mono ?_; rintro e w' ⟨rfl, rfl⟩)
    go_ret
    exact ⟨ret_no HR.out, HB.out⟩
  | true =>
  cases hT : within S.T 0 9 with
  | false =>
    have HR := Lib.hid (Shaft.ok_T hT)
    go_enter Tryd.func10, Tryd.ntmps10
    go_wp2_with (go_at_call 35; refine (within_any _ _ _ _).mono ?_; rintro e w' ⟨rfl, rfl⟩)
    go_ret
    exact ⟨ret_no HR.out, HB.out⟩
  | true =>
  go_enter Tryd.func10, Tryd.ntmps10
  go_wp2_with (go_at_call 35; refine (within_any _ _ _ _).mono ?_; rintro e w' ⟨rfl, rfl⟩)
  go_loopw [3] (fun i wr => ∃ k : Nat, i = .int .i64 k ∧ k ≤ S.R.length ∧ AllTo rockOk S.R k ∧ Below w1.heap.size w1 wr) (fun i _ => S.R.length - (intOf i).toNat)
  case atStart => exact ⟨0, rfl, Nat.zero_le _, rfl, Below.refl _ _⟩
  case round =>
    obtain ⟨k, rfl, hk, hp, hbb⟩ := hrel
    have HP := Lib.hid hp; clear hp
    have HBB := Lib.hid hbb; clear hbb
    obtain ⟨g0, g1, g2, g3, g4, g5⟩ := HX.out.below HBB.out
    clear k0 k1 k2 k3 k4
    by_cases hlt : k < S.R.length
    · obtain ⟨b, o, rfl, hbl, hi⟩ := (HT.out.below HBB.out).s (by omega)
      have e0 := hi.c0 k hlt
      have e1 := hi.c1 k hlt
      have e2 := hi.c2 k hlt
      have e3 := hi.c3 k hlt
      have hlb : b < wr.heap.size := Nat.lt_of_lt_of_le hbl HBB.out.size
      clear hi
      obtain ⟨w5, hw5, hb5, hz5, q5, q6, q7, q8⟩ := box_rock wr S.R[k].h S.R[k].p S.R[k].s S.R[k].e
      have HB5 := Lib.hid (bT HBB.out hb5)
      clear hb5 hz5
      have j1 : decide ((k : Int) < (S.R.length : Int)) = true := by simp; omega
      cases r1 : within S.R[k].h 0 9 with
      | false =>
        have HR := Lib.hid (Shaft.ok_r (allTo_bad hlt (by simp [rockOk, r1])))
        go_wp2_with (go_at_call 35; refine (within_any _ _ _ _).mono ?_; rintro e w' ⟨rfl, rfl⟩)
        go_ret
        exact ⟨ret_no HR.out, bT HB.out HB5.out⟩
      | true =>
      cases r2 : within S.R[k].p 0 99 with
      | false =>
        have HR := Lib.hid (Shaft.ok_r (allTo_bad hlt (by simp [rockOk, r1, r2])))
        go_wp2_with (go_at_call 35; refine (within_any _ _ _ _).mono ?_; rintro e w' ⟨rfl, rfl⟩)
        go_ret
        exact ⟨ret_no HR.out, bT HB.out HB5.out⟩
      | true =>
      cases r3 : within S.R[k].s 0 12 with
      | false =>
        have HR := Lib.hid (Shaft.ok_r (allTo_bad hlt (by simp [rockOk, r1, r2, r3])))
        go_wp2_with (go_at_call 35; refine (within_any _ _ _ _).mono ?_; rintro e w' ⟨rfl, rfl⟩)
        go_ret
        exact ⟨ret_no HR.out, bT HB.out HB5.out⟩
      | true =>
      cases r4 : within S.R[k].e (-1) 99 with
      | false =>
        have HR := Lib.hid (Shaft.ok_r (allTo_bad hlt (by simp [rockOk, r1, r2, r3, r4])))
        go_wp2_with (go_at_call 35; refine (within_any _ _ _ _).mono ?_; rintro e w' ⟨rfl, rfl⟩)
        go_ret
        exact ⟨ret_no HR.out, bT HB.out HB5.out⟩
      | true =>
      have HN := Lib.hid (allTo_succ HP.out hlt (show rockOk S.R[k] = true by simp [rockOk, r1, r2, r3, r4]))
      go_wp2_with (go_at_call 35; refine (within_any _ _ _ _).mono ?_; rintro e w' ⟨rfl, rfl⟩)
      go_roundw
      case rel => exact ⟨k + 1, by go_num, hlt, HN.out, HB5.out⟩
      case measure => simp [intOf]; omega
    · have HA := Lib.hid (allTo_all HP.out (by omega)); clear HP
      have j1 : decide ((k : Int) < (S.R.length : Int)) = false := by simp; omega
      go_wp2
      clear hk hlt g0 g1 g2 g3 g4 g5 j1
      go_loopw [5] (fun i wr => ∃ k : Nat, i = .int .i64 k ∧ k ≤ S.F.length ∧ AllTo (footOk S.R.length) S.F k ∧ Below w1.heap.size w1 wr) (fun i _ => S.F.length - (intOf i).toNat)
      case atStart => exact ⟨0, rfl, Nat.zero_le _, rfl, HBB.out⟩
      case round =>
        clear HBB
        obtain ⟨k, rfl, hk, hp, hbb⟩ := hrel
        have HP := Lib.hid hp; clear hp
        have HBB := Lib.hid hbb; clear hbb
        obtain ⟨g0, g1, g2, g3, g4, g5⟩ := HX.out.below HBB.out
        by_cases hlt : k < S.F.length
        · obtain ⟨b, o, rfl, hi⟩ := (HT.out.below HBB.out).f (by omega)
          have e0 := hi.cell k hlt
          have hlb : b < wr.heap.size := Nat.lt_of_lt_of_le hi.lt HBB.out.size
          have j1 : decide ((k : Int) < (S.F.length : Int)) = true := by simp; omega
          clear hi
          cases hs : within S.F[k] 0 ((S.R.length : Int) - 1) with
          | false =>
            have HR := Lib.hid (Shaft.ok_f (allTo_bad hlt hs))
            go_wp2
            have F0 : ∀ x : Ext wr, x.v.cell? ⟨w.heap.size, 0, none⟩ = some (.slice q S.R.length d) := fun x => (x.b.cell (p := ⟨w.heap.size, 0, none⟩) g5).trans g0
            have F1 : ∀ x : Ext wr, x.v.cell? ⟨w.heap.size, 1, none⟩ = some (.slice (some ⟨b, o, none⟩) S.F.length c) := fun x => (x.b.cell (p := ⟨w.heap.size, 1, none⟩) g5).trans g1
            have F2 : ∀ x : Ext wr, x.v.cell? ⟨w.heap.size, 2, none⟩ = some (.int .i64 S.D) := fun x => (x.b.cell (p := ⟨w.heap.size, 2, none⟩) g5).trans g2
            have F3 : ∀ x : Ext wr, x.v.cell? ⟨w.heap.size, 3, none⟩ = some (.int .i64 S.H) := fun x => (x.b.cell (p := ⟨w.heap.size, 3, none⟩) g5).trans g3
            have F4 : ∀ x : Ext wr, x.v.cell? ⟨w.heap.size, 4, none⟩ = some (.int .i64 S.T) := fun x => (x.b.cell (p := ⟨w.heap.size, 4, none⟩) g5).trans g4
            have F5 : ∀ x : Ext wr, x.v.cell? ⟨b, o + k, none⟩ = some (.int .i64 S.F[k]) := fun x => (x.b.cell (p := ⟨b, o + k, none⟩) hlb).trans e0
            clear g0 g1 g2 g3 g4 e0
            refine quiet_lit (by kernel_rfl) (by kernel_rfl) ?_
            repeat (first | go_big_quiet_step ((go_at_call 36; exact quiet_x (isRockR_any _ _ _ _ _ _ _ _ _ hR))) | quiet_step ((go_at_call 36; exact quiet_x (isRockR_any _ _ _ _ _ _ _ _ _ hR))))
            refine wpQuiet_nil ?_
            intro w6 hw6
            obtain ⟨⟨w6, hw6⟩, rfl⟩ := hw6
            have HW6 := Lib.hid hw6; clear hw6
            go_wp2
            go_ret
            exact ⟨ret_no HR.out, bT HB.out (bT HBB.out HW6.out)⟩
          | true =>
            have HN := Lib.hid (allTo_succ (f := footOk S.R.length) HP.out hlt hs)
            go_wp2
            have F0 : ∀ x : Ext wr, x.v.cell? ⟨w.heap.size, 0, none⟩ = some (.slice q S.R.length d) := fun x => (x.b.cell (p := ⟨w.heap.size, 0, none⟩) g5).trans g0
            have F1 : ∀ x : Ext wr, x.v.cell? ⟨w.heap.size, 1, none⟩ = some (.slice (some ⟨b, o, none⟩) S.F.length c) := fun x => (x.b.cell (p := ⟨w.heap.size, 1, none⟩) g5).trans g1
            have F2 : ∀ x : Ext wr, x.v.cell? ⟨w.heap.size, 2, none⟩ = some (.int .i64 S.D) := fun x => (x.b.cell (p := ⟨w.heap.size, 2, none⟩) g5).trans g2
            have F3 : ∀ x : Ext wr, x.v.cell? ⟨w.heap.size, 3, none⟩ = some (.int .i64 S.H) := fun x => (x.b.cell (p := ⟨w.heap.size, 3, none⟩) g5).trans g3
            have F4 : ∀ x : Ext wr, x.v.cell? ⟨w.heap.size, 4, none⟩ = some (.int .i64 S.T) := fun x => (x.b.cell (p := ⟨w.heap.size, 4, none⟩) g5).trans g4
            have F5 : ∀ x : Ext wr, x.v.cell? ⟨b, o + k, none⟩ = some (.int .i64 S.F[k]) := fun x => (x.b.cell (p := ⟨b, o + k, none⟩) hlb).trans e0
            clear g0 g1 g2 g3 g4 e0
            refine quiet_lit (by kernel_rfl) (by kernel_rfl) ?_
            repeat (first | go_big_quiet_step ((go_at_call 36; exact quiet_x (isRockR_any _ _ _ _ _ _ _ _ _ hR))) | quiet_step ((go_at_call 36; exact quiet_x (isRockR_any _ _ _ _ _ _ _ _ _ hR))))
            refine wpQuiet_nil ?_
            intro w6 hw6
            obtain ⟨⟨w6, hw6⟩, rfl⟩ := hw6
            have HW6 := Lib.hid hw6; clear hw6
            go_wp2
            go_roundw
            case rel => exact ⟨k + 1, by go_num, hlt, HN.out, bT HBB.out HW6.out⟩
            case measure => simp [intOf]; omega
        · have HE := Lib.hid (Shaft.ok_e hl hm HA.out (allTo_all HP.out (by omega)))
          have j1 : decide ((k : Int) < (S.F.length : Int)) = false := by simp; omega
          clear HP HA
          go_wp2
          go_ret
          exact ⟨ret_ok (by rw [HE.out]; simp [hD, hH, hT]), bT HB.out HBB.out⟩

/-- the error of a shaft that is asked for something -/
def askErr (ok is : Bool) : Int := if ok then (if is then 0 else 1) else 20
set_option maxHeartbeats 1000000 in
theorem askR_any (S : Shaft) (p q : Option Addr) (c d : Nat) (is : Bool) (w : World) (hF : S.F.length ≤ 1000000) (hR : S.R.length ≤ 1000000) (hb : ShaftIn w w.heap.size S p q) :
    Calls Tryd.prog 38 #[.agg #[.slice q S.R.length d, .slice p S.F.length c, .int .i64 S.D, .int .i64 S.H, .int .i64 S.T], .bool is] w fun e w' => e = .returned (.int .i64 (askErr S.ok is)) ∧ Below w.heap.size w w' := by
  obtain ⟨w1, hw1, hb1, hz1, x1⟩ := box_shaft w S p q c d
  have hv := checkR_any S p q c d w1 hF hR (hb.bel hb1)
  have HB := Lib.hid hb1
  obtain ⟨k0, k1, k2, k3, k4, k5⟩ := x1
  clear hb hb1 hz1
  rcases Bool.eq_false_or_eq_true S.ok with hok | hok
  · rw [hok, vErr_t] at hv
    have HV := Lib.hid hv; clear hv
    have HOK := Lib.hid hok; clear hok
    cases is with
    | true =>
      have HR := Lib.hid (show (0 : Int) = askErr S.ok true from by rw [HOK.out]; rfl)
      go_enter Tryd.func38, Tryd.ntmps38
      go_wp2_with (go_at_call 10; refine HV.out.mono ?_; rintro e w2 ⟨rfl, hb2⟩)
      go_ret
      exact ⟨ret_i HR.out, bT HB.out hb2⟩
    | false =>
      have HR := Lib.hid (show (1 : Int) = askErr S.ok false from by rw [HOK.out]; rfl)
      go_enter Tryd.func38, Tryd.ntmps38
      go_wp2_with (go_at_call 10; refine HV.out.mono ?_; rintro e w2 ⟨rfl, hb2⟩)
      go_ret
      exact ⟨ret_i HR.out, bT HB.out hb2⟩
  · rw [hok, vErr_f] at hv
    have HV := Lib.hid hv; clear hv
    have HR := Lib.hid (show (20 : Int) = askErr S.ok is from by rw [hok]; rfl); clear hok
    go_enter Tryd.func38, Tryd.ntmps38
    go_wp2_with (go_at_call 10; refine HV.out.mono ?_; rintro e w2 ⟨rfl, hb2⟩)
    go_ret
    exact ⟨ret_i HR.out, bT HB.out hb2⟩
end Go.Proofs.YtaaocomgmacjnabDoor
