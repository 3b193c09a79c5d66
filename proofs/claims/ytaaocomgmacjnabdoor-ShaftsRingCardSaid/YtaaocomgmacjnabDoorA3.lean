/- Shafts: valid and Check of the program. -/
import Derived.Test.YtaaocomgmacjnabDoorA2

set_option linter.unusedSimpArgs false

set_option linter.unusedVariables false

namespace Go.Proofs.YtaaocomgmacjnabDoor

open Go.RowKit

theorem Shaft.ok_R {S : Shaft} (h : ¬ S.R.length ≤ 4) : false = S.ok := by simp [Shaft.ok, h]
theorem Shaft.ok_F {S : Shaft} (h : ¬ S.F.length ≤ 12) : false = S.ok := by simp [Shaft.ok, h]
theorem Shaft.ok_r {S : Shaft} (h : S.R.all rockOk = false) : false = S.ok := by simp [Shaft.ok, h]
theorem Shaft.ok_f {S : Shaft} (h : S.F.all (footOk S.R.length) = false) : false = S.ok := by simp [Shaft.ok, h]
theorem Shaft.ok_e {S : Shaft} (h0 : S.R.length ≤ 4) (h1 : S.F.length ≤ 12) (h2 : S.R.all rockOk = true) (h3 : S.F.all (footOk S.R.length) = true) : S.ok = (within S.D 0 9 && (within S.H 0 9 && within S.T 0 9)) := by simp [Shaft.ok, h0, h1, h2, h3]
theorem foot_lo {n : Nat} {f : Int} (h : f < 0) : footOk n f = false := within_lo h
theorem foot_hi {n : Nat} {f : Int} (h : (n : Int) ≤ f) : footOk n f = false := within_hi (by omega)
theorem foot_in {n : Nat} {f : Int} (h : 0 ≤ f) (h' : f < (n : Int)) : footOk n f = true := within_tt h (by omega)
set_option maxRecDepth 100000 in
set_option maxHeartbeats 2000000 in
theorem valid_any (S : Shaft) (p q : Option Addr) (c d : Nat) (w : World) (hF : S.F.length ≤ 1000000) (hR : S.R.length ≤ 1000000) (hb : ShaftIn w w.heap.size S p q) :
    Calls Tryd.prog 34 #[.agg #[.slice q S.R.length d, .slice p S.F.length c, .int .i64 S.D, .int .i64 S.H, .int .i64 S.T]] w fun e w' => e = .returned (.bool S.ok) ∧ Below w.heap.size w w' := by
  obtain ⟨w1, hw1, hb1, hz1, x1⟩ := box_shaft w S p q c d
  have HT := Lib.hid (hb.bel hb1)
  have HB := Lib.hid hb1
  have HX := Lib.hid x1
  obtain ⟨k0, k1, k2, k3, k4, k5⟩ := x1
  clear hb hb1 hz1
  by_cases hl : S.R.length ≤ 4
  case neg =>
    have dl : decide ((4 : Int) < (S.R.length : Int)) = true := by simp; omega
    have HR := Lib.hid (Shaft.ok_R hl); clear hl
    go_enter Tryd.func34, Tryd.ntmps34
    go_wp2
    go_ret
    exact ⟨ret_b HR.out, HB.out⟩
  case pos =>
  have dl : decide ((4 : Int) < (S.R.length : Int)) = false := by simp; omega
  by_cases hm : S.F.length ≤ 12
  case neg =>
    have dm : decide ((12 : Int) < (S.F.length : Int)) = true := by simp; omega
    have HR := Lib.hid (Shaft.ok_F hm); clear hm
    go_enter Tryd.func34, Tryd.ntmps34
    go_wp2
    go_ret
    exact ⟨ret_b HR.out, HB.out⟩
  case pos =>
  have dm : decide ((12 : Int) < (S.F.length : Int)) = false := by simp; omega
  go_enter Tryd.func34, Tryd.ntmps34
  go_wp2
  go_loopw [20] (fun i wr => ∃ k : Nat, i = .int .i64 k ∧ k ≤ S.R.length ∧ AllTo rockOk S.R k ∧ Below w1.heap.size w1 wr) (fun i _ => S.R.length - (intOf i).toNat)
  case atStart => exact ⟨0, rfl, Nat.zero_le _, rfl, Below.refl _ _⟩
  case round =>
    obtain ⟨k, rfl, hk, hp, hbb⟩ := hrel
    have HP := Lib.hid hp; clear hp
    have HBB := Lib.hid hbb; clear hbb
    obtain ⟨g0, g1, g2, g3, g4, g5⟩ := HX.out.below HBB.out
    clear k0 k1 k2 k3 k4
    by_cases hlt : k < S.R.length
    · obtain ⟨b, o, rfl, hbl, hi⟩ := (HT.out.below HBB.out).s (by omega)
      have e0 := hi.c0 k hlt
      have e1 := hi.c1 k hlt
      have e2 := hi.c2 k hlt
      have e3 := hi.c3 k hlt
      have hlb : b < wr.heap.size := Nat.lt_of_lt_of_le hbl HBB.out.size
      clear hi
      obtain ⟨w5, hw5, hb5, hz5, q5, q6, q7, q8⟩ := box_rock wr S.R[k].h S.R[k].p S.R[k].s S.R[k].e
      have HB5 := Lib.hid (bT HBB.out hb5)
      clear hb5 hz5
      cases hs : rockOk S.R[k] with
      | false =>
        have HR := Lib.hid (Shaft.ok_r (allTo_bad hlt hs))
        have HI := fun V => isRock_any S.R[k] V
        rw [hs] at HI
        have HII := Lib.hid HI; clear HI hs
        go_wp2_with (go_at_call 58; refine (HII.out _).mono ?_; rintro e w6 ⟨rfl, hb6⟩; go_must (have HB6 := Lib.hid (bT HB5.out hb6); clear hb6))
        go_ret
        exact ⟨ret_b HR.out, bT HB.out HB6.out⟩
      | true =>
        have HN := Lib.hid (allTo_succ HP.out hlt hs)
        have HI := fun V => isRock_any S.R[k] V
        rw [hs] at HI
        have HII := Lib.hid HI; clear HI hs
        go_wp2_with (go_at_call 58; refine (HII.out _).mono ?_; rintro e w6 ⟨rfl, hb6⟩; go_must (have HB6 := Lib.hid (bT HB5.out hb6); clear hb6))
        go_roundw
        case rel => exact ⟨k + 1, by go_num, hlt, HN.out, HB6.out⟩
        case measure => simp [intOf]; omega
    · have HA := Lib.hid (allTo_all HP.out (by omega)); clear HP
      go_wp2
      clear hk hlt g0 g1 g2 g3 g4 g5
      go_loopw [31] (fun i wr => ∃ k : Nat, i = .int .i64 k ∧ k ≤ S.F.length ∧ AllTo (footOk S.R.length) S.F k ∧ Below w1.heap.size w1 wr) (fun i _ => S.F.length - (intOf i).toNat)
      case atStart => exact ⟨0, rfl, Nat.zero_le _, rfl, HBB.out⟩
      case round =>
        clear HBB
        obtain ⟨k, rfl, hk, hp, hbb⟩ := hrel
        have HP := Lib.hid hp; clear hp
        have HBB := Lib.hid hbb; clear hbb
        obtain ⟨g0, g1, g2, g3, g4, g5⟩ := HX.out.below HBB.out
        by_cases hlt : k < S.F.length
        · obtain ⟨b, o, rfl, hi⟩ := (HT.out.below HBB.out).f (by omega)
          have e0 := hi.cell k hlt
          have hlb : b < wr.heap.size := Nat.lt_of_lt_of_le hi.lt HBB.out.size
          clear hi
          by_cases h0 : S.F[k] < 0
          · have d0 : decide (S.F[k] < 0) = true := by simpa using h0
            have HR := Lib.hid (Shaft.ok_f (allTo_bad hlt (foot_lo h0))); clear h0
            go_wp2
            go_ret
            exact ⟨ret_b HR.out, bT HB.out HBB.out⟩
          · have d0 : decide (S.F[k] < 0) = false := by simpa using h0
            by_cases h1 : (S.R.length : Int) ≤ S.F[k]
            · have d1 : decide ((S.R.length : Int) ≤ S.F[k]) = true := by simpa using h1
              have HR := Lib.hid (Shaft.ok_f (allTo_bad hlt (foot_hi h1))); clear h0 h1
              go_wp2
              go_ret
              exact ⟨ret_b HR.out, bT HB.out HBB.out⟩
            · have d1 : decide ((S.R.length : Int) ≤ S.F[k]) = false := by simpa using h1
              have HN := Lib.hid (allTo_succ HP.out hlt (foot_in (n := S.R.length) (by omega) (by omega))); clear h0 h1
              go_wp2
              go_roundw
              case rel => exact ⟨k + 1, by go_num, hlt, HN.out, HBB.out⟩
              case measure => simp [intOf]; omega
        · have HE := Lib.hid (Shaft.ok_e hl hm HA.out (allTo_all HP.out (by omega)))
          clear HP HA
          cases h0 : within S.D 0 9 <;> cases h1 : within S.H 0 9 <;> cases h2 : within S.T 0 9
          all_goals
            go_wp2_with (go_at_call 59; refine (upTo_any _ _ _).mono ?_; rintro e w' ⟨rfl, rfl⟩)
            go_ret
            exact ⟨ret_b (by rw [HE.out]; simp [h0, h1, h2]), bT HB.out HBB.out⟩

def vErr (b : Bool) : Int := if b then 0 else 20
theorem vErr_t : vErr true = 0 := rfl
theorem vErr_f : vErr false = 20 := rfl
set_option maxHeartbeats 1000000 in
theorem check_any (S : Shaft) (p q : Option Addr) (c d : Nat) (w : World) (hF : S.F.length ≤ 1000000) (hR : S.R.length ≤ 1000000) (hb : ShaftIn w w.heap.size S p q) :
    Calls Tryd.prog 9 #[.agg #[.slice q S.R.length d, .slice p S.F.length c, .int .i64 S.D, .int .i64 S.H, .int .i64 S.T]] w fun e w' => e = .returned (.int .i64 (vErr S.ok)) ∧ Below w.heap.size w w' := by
  obtain ⟨w1, hw1, hb1, hz1, x1⟩ := box_shaft w S p q c d
  have hv := valid_any S p q c d w1 hF hR (hb.bel hb1)
  have HB := Lib.hid hb1
  obtain ⟨k0, k1, k2, k3, k4, k5⟩ := x1
  clear hb hb1 hz1
  cases hok : S.ok with
  | true =>
    rw [hok] at hv
    have HV := Lib.hid hv; clear hv
    go_enter Tryd.func9, Tryd.ntmps9
    go_wp2_with (go_at_call 34; refine HV.out.mono ?_; rintro e w2 ⟨rfl, hb2⟩)
    go_ret
    exact ⟨ret_i vErr_t.symm, bT HB.out hb2⟩
  | false =>
    rw [hok] at hv
    have HV := Lib.hid hv; clear hv
    go_enter Tryd.func9, Tryd.ntmps9
    go_wp2_with (go_at_call 34; refine HV.out.mono ?_; rintro e w2 ⟨rfl, hb2⟩)
    go_ret
    exact ⟨ret_i vErr_f.symm, bT HB.out hb2⟩
end Go.Proofs.YtaaocomgmacjnabDoor
