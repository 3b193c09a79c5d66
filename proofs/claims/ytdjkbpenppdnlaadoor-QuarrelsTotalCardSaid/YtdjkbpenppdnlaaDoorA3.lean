/- Towns with worlds: Check of the specification. -/
import Derived.Test.YtdjkbpenppdnlaaDoorE4

set_option linter.unusedSimpArgs false

set_option linter.unusedVariables false

namespace Go.Proofs.YtdjkbpenppdnlaaDoor

open Go.RowKit

theorem isWorldR_is {T : Tn} {A : Adr} {k : Nat} {b : Bool} (hb : T.worldOk k = b) (hk : k < T.nw) (w : World) (hs : T.sized) (hi : TnIn w w.heap.size T A) :
    Calls Tryd.prog 70 #[.agg #[.int .i64 T.wn, .slice A.wp T.nw A.wc, .slice A.fp T.nf A.fc], .agg #[.slice (A.rp k) (T.rl k) (A.rc k)]] w fun e w' => e = .returned (.bool b) ∧ Below w.heap.size w w' := by
  subst hb; exact isWorldR_any T A k hk w (le_max (hs.r k hk)) (fun i h => le_max (hs.c k hk i h)) hi
theorem isWellQ {T : Tn} {A : Adr} {k : Int} {b : Bool} {q : Option Addr} (hq : A.fp = q) (h : T.well k = b) (w : World) (hn : 0 ≤ T.wn ∧ T.wn ≤ 100) :
    Calls Tryd.prog 47 #[.agg #[.int .i64 T.wn, .slice A.wp T.nw A.wc, .slice q T.nf A.fc], .int .i64 k] w fun e w' => e = .returned (.bool b) ∧ Below w.heap.size w w' := by
  subst hq; exact isWellR_is h w hn
set_option maxRecDepth 100000 in
set_option maxHeartbeats 8000000 in
theorem checkR_any (T : Tn) (A : Adr) (w : World) (hs : T.sized) (hi : TnIn w w.heap.size T A) :
    Calls Tryd.prog 19 #[A.val T] w fun e w' => e = .returned (.int .i64 (chkE T.ok)) ∧ Below w.heap.size w w' := by
  obtain ⟨w1, x, hw1, hb1, hz1, F0, F1, F2, _⟩ := box_tn w T.wn A.wp A.fp T.nw A.wc T.nf A.fc
  have HI : Hid (∀ z : Ext w1, TnIn z.v z.v.heap.size T A) := fun z => (hi.bel hb1).bel z.b
  have HB := Lib.hid hb1
  have HS := Lib.hid hs
  have hw40 := hs.w
  have hf40 := hs.f
  clear hb1 hz1 hi hs
  unfold Adr.val
  cases h1 : within T.wn 0 4 with
  | false =>
    have HR := Lib.hid (show chkE T.ok = 50 by unfold Tn.ok; rw [h1]; rfl)
    have H1 := Lib.hid h1; clear h1
    go_enter Tryd.func19, Tryd.ntmps19
    go_wp2_with (go_at_call 69; refine (within_is H1.out _).mono ?_; rintro e w' ⟨rfl, rfl⟩)
    go_ret
    exact ⟨ret_i HR.out.symm, bT HB.out x.b⟩
  | true =>
  have HN : Hid (0 ≤ T.wn ∧ T.wn ≤ 100) := Lib.hid (by have := within_iff.1 h1; omega)
  have H1 := Lib.hid h1
  by_cases h6 : 6 < T.nw
  · have j1 : decide (6 < (T.nw : Int)) = true := by simp; omega
    have HR := Lib.hid (show chkE T.ok = 50 by
      have : T.ok = false := by unfold Tn.ok; rw [h1]; simp; intros; omega
      rw [this]; rfl)
    clear h1
    go_enter Tryd.func19, Tryd.ntmps19
    go_wp2_with (go_at_call 69; refine (within_is H1.out _).mono ?_; rintro e w' ⟨rfl, rfl⟩)
    go_ret
    exact ⟨ret_i HR.out.symm, bT HB.out x.b⟩
  have j1 : decide (6 < (T.nw : Int)) = false := by simp; omega
  by_cases h7 : 6 < T.nf
  · have j2 : decide (6 < (T.nf : Int)) = true := by simp; omega
    have HR := Lib.hid (show chkE T.ok = 50 by
      have : T.ok = false := by unfold Tn.ok; rw [h1]; simp; intros; omega
      rw [this]; rfl)
    clear h1
    go_enter Tryd.func19, Tryd.ntmps19
    go_wp2_with (go_at_call 69; refine (within_is H1.out _).mono ?_; rintro e w' ⟨rfl, rfl⟩)
    go_ret
    exact ⟨ret_i HR.out.symm, bT HB.out x.b⟩
  have j2 : decide (6 < (T.nf : Int)) = false := by simp; omega
  have HK : Hid (T.ok = (allN T.worldOk T.nw && allN T.factOk T.nf)) := Lib.hid (by
    unfold Tn.ok
    rw [h1, show decide (T.nw ≤ 6) = true by simp; omega, show decide (T.nf ≤ 6) = true by simp; omega]; simp)
  clear h1 h6 h7
  go_enter Tryd.func19, Tryd.ntmps19
  go_wp2_with (go_at_call 69; refine (within_is H1.out _).mono ?_; rintro e w' ⟨rfl, rfl⟩)
  clear j1 j2
  go_loopw [3] (fun i wr => ∃ k : Nat, i = .int .i64 k ∧ k ≤ T.nw ∧ allN T.worldOk k = true ∧ ∃ x : Ext w1, wr = x.v) (fun i _ => T.nw - (intOf i).toNat)
  case atStart => exact ⟨0, rfl, Nat.zero_le _, rfl, x, rfl⟩
  case round =>
    obtain ⟨k, rfl, hk, hp, y, rfl⟩ := hrel
    have HP := Lib.hid hp; clear hp hw1 x
    by_cases hlt : k < T.nw
    · obtain ⟨b, o, hr, _, hc⟩ := (HI.out y).ws (by omega)
      rw [hr] at F1 ⊢
      have HR1 := Lib.hid hr; clear hr hc
      have c0 : ∀ z : Ext w1, z.v.cell? ⟨b, o + k, none⟩ = some (.slice (A.rp k) (T.rl k) (A.rc k)) := fun z => At.cell (f := fun k => .slice (A.rp k) (T.rl k) (A.rc k)) (by have := (HI.out z).ws; rwa [HR1.out] at this) (by omega)
      have j : decide ((k : Int) < (T.nw : Int)) = true := by simp; omega
      cases ho : T.worldOk k with
      | true =>
        have HO := Lib.hid (fun z : Ext w1 => isWorldR_is ho hlt z.v HS.out (HI.out z))
        have HA := Lib.hid (allN_succ HP.out ho)
        rw [HR1.out] at HO
        clear ho
        go_wp2
        refine quiet_e (by kernel_rfl) (by kernel_rfl) ?_
        repeat (first | go_big_quiet_step ((first | (go_at_call 70; exact quiet_x (HO.out _)))) | quiet_step ((first | (go_at_call 70; exact quiet_x (HO.out _)))))
        refine wpQuiet_nil ?_
        intro w6 hw6
        obtain ⟨y3, rfl⟩ := hw6
        go_wp2
        go_roundw
        case rel => exact ⟨k + 1, by go_num, hlt, HA.out, y3, rfl⟩
        case measure => first | (simp [intOf]; done) | (simp [intOf]; omega)
      | false =>
        have HO := Lib.hid (fun z : Ext w1 => isWorldR_is ho hlt z.v HS.out (HI.out z))
        have HA := Lib.hid (show chkE T.ok = 50 by rw [HK.out, allN_bad hlt ho]; rfl)
        rw [HR1.out] at HO
        clear ho
        go_wp2
        refine quiet_e (by kernel_rfl) (by kernel_rfl) ?_
        repeat (first | go_big_quiet_step ((first | (go_at_call 70; exact quiet_x (HO.out _)))) | quiet_step ((first | (go_at_call 70; exact quiet_x (HO.out _)))))
        refine wpQuiet_nil ?_
        intro w6 hw6
        obtain ⟨y3, rfl⟩ := hw6
        go_wp2
        go_ret
        exact ⟨ret_i HA.out.symm, bT HB.out y3.b⟩
    · have HW := Lib.hid (show allN T.worldOk T.nw = true by have := HP.out; rwa [show k = T.nw by omega] at this)
      have j : decide ((k : Int) < (T.nw : Int)) = false := by simp; omega
      clear HP
      go_wp2
      clear j hlt hk
      go_loopw [4] (fun i wr => ∃ k : Nat, i = .int .i64 k ∧ k ≤ T.nf ∧ allN T.factOk k = true ∧ ∃ x : Ext w1, wr = x.v) (fun i _ => T.nf - (intOf i).toNat)
      case atStart => exact ⟨0, rfl, Nat.zero_le _, rfl, y, rfl⟩
      case round =>
        clear y
        obtain ⟨k, rfl, hk, hp, y, rfl⟩ := hrel
        have HP := Lib.hid hp; clear hp
        by_cases hlt : k < T.nf
        · have HF : Hid (T.factOk k = false → chkE T.ok = 50) := Lib.hid (fun h => by rw [HK.out, allN_bad hlt h]; simp [chkE])
          obtain ⟨b, o, hr, _, hc⟩ := (HI.out y).fs (by omega)
          obtain ⟨c0, c1, c2, c3, c4⟩ := fact_cells hc hlt
          obtain ⟨w2, z0, hw2, hb2, hz2, G0, G1, G2, G3, G4, _⟩ := box_ft y.v (T.ff k) (T.fm k) (T.ft k) (T.fl k) (T.fh k)
          have HU := Lib.hid (bT y.b hb2)
          have HB3 := Lib.hid (bT HB.out (bT y.b hb2))
          rw [hr] at F2 ⊢
          have F0' : ∀ u : Ext w2, u.v.cell? ⟨w.heap.size, 0, none⟩ = some (.int .i64 T.wn) := fun u => F0 (u.up HU.out)
          have F1' : ∀ u : Ext w2, u.v.cell? ⟨w.heap.size, 1, none⟩ = some (.slice A.wp T.nw A.wc) := fun u => F1 (u.up HU.out)
          have F2' : ∀ u : Ext w2, u.v.cell? ⟨w.heap.size, 2, none⟩ = some (.slice (some ⟨b, o, none⟩) T.nf A.fc) := fun u => F2 (u.up HU.out)
          have HR1 := Lib.hid hr
          clear hc hr hb2 hz2
          have j : decide ((k : Int) < (T.nf : Int)) = true := by simp; omega
          cases e0 : T.well (T.ff k) with
          | false =>
            have HR := Lib.hid (show false = T.factOk k by unfold Tn.factOk; rw [e0]; rfl)
            have E0 := Lib.hid e0; clear e0
            go_wp2_with fail
            refine (quiet_x (isWellQ HR1.out E0.out _ HN.out)).mono ?_
            rintro e w5 ⟨rfl, y0, rfl⟩
            go_wp2
            go_ret
            exact ⟨ret_i (HF.out HR.out.symm).symm, bT HB3.out y0.b⟩
          | true =>
          cases e1 : T.well (T.ft k) with
          | false =>
            have HR := Lib.hid (show false = T.factOk k by unfold Tn.factOk; rw [e0, e1]; rfl)
            have E0 := Lib.hid e0; clear e0
            have E1 := Lib.hid e1; clear e1
            go_wp2_with fail
            refine (quiet_x (isWellQ HR1.out E0.out _ HN.out)).mono ?_
            rintro e w5 ⟨rfl, y0, rfl⟩
            go_wp2_with fail
            refine (quiet_x (isWellQ HR1.out E1.out _ HN.out)).mono ?_
            rintro e w5 ⟨rfl, y1, rfl⟩
            go_wp2
            go_ret
            exact ⟨ret_i (HF.out HR.out.symm).symm, bT HB3.out y1.b⟩
          | true =>
          cases e2 : within (T.fm k) 1 9 with
          | false =>
            have HR := Lib.hid (show false = T.factOk k by unfold Tn.factOk; rw [e0, e1, e2]; rfl)
            have E0 := Lib.hid e0; clear e0
            have E1 := Lib.hid e1; clear e1
            have E2 := Lib.hid e2; clear e2
            go_wp2_with fail
            refine (quiet_x (isWellQ HR1.out E0.out _ HN.out)).mono ?_
            rintro e w5 ⟨rfl, y0, rfl⟩
            go_wp2_with fail
            refine (quiet_x (isWellQ HR1.out E1.out _ HN.out)).mono ?_
            rintro e w5 ⟨rfl, y1, rfl⟩
            go_wp2_with fail
            refine (within_is E2.out _).mono ?_
            rintro e w5 ⟨rfl, rfl⟩
            go_wp2
            go_ret
            exact ⟨ret_i (HF.out HR.out.symm).symm, bT HB3.out y1.b⟩
          | true =>
          cases e3 : within (T.fh k) 0 99 with
          | false =>
            have HR := Lib.hid (show false = T.factOk k by unfold Tn.factOk; rw [e0, e1, e2, e3]; rfl)
            have E0 := Lib.hid e0; clear e0
            have E1 := Lib.hid e1; clear e1
            have E2 := Lib.hid e2; clear e2
            have E3 := Lib.hid e3; clear e3
            go_wp2_with fail
            refine (quiet_x (isWellQ HR1.out E0.out _ HN.out)).mono ?_
            rintro e w5 ⟨rfl, y0, rfl⟩
            go_wp2_with fail
            refine (quiet_x (isWellQ HR1.out E1.out _ HN.out)).mono ?_
            rintro e w5 ⟨rfl, y1, rfl⟩
            go_wp2_with fail
            refine (within_is E2.out _).mono ?_
            rintro e w5 ⟨rfl, rfl⟩
            go_wp2_with fail
            refine (within_is E3.out _).mono ?_
            rintro e w5 ⟨rfl, rfl⟩
            go_wp2
            go_ret
            exact ⟨ret_i (HF.out HR.out.symm).symm, bT HB3.out y1.b⟩
          | true =>
          cases e4 : within (T.fl k) 0 (T.fh k) with
          | false =>
            have HR := Lib.hid (show false = T.factOk k by unfold Tn.factOk; rw [e0, e1, e2, e3, e4]; rfl)
            have E0 := Lib.hid e0; clear e0
            have E1 := Lib.hid e1; clear e1
            have E2 := Lib.hid e2; clear e2
            have E3 := Lib.hid e3; clear e3
            have E4 := Lib.hid e4; clear e4
            go_wp2_with fail
            refine (quiet_x (isWellQ HR1.out E0.out _ HN.out)).mono ?_
            rintro e w5 ⟨rfl, y0, rfl⟩
            go_wp2_with fail
            refine (quiet_x (isWellQ HR1.out E1.out _ HN.out)).mono ?_
            rintro e w5 ⟨rfl, y1, rfl⟩
            go_wp2_with fail
            refine (within_is E2.out _).mono ?_
            rintro e w5 ⟨rfl, rfl⟩
            go_wp2_with fail
            refine (within_is E3.out _).mono ?_
            rintro e w5 ⟨rfl, rfl⟩
            go_wp2_with fail
            refine (within_is E4.out _).mono ?_
            rintro e w5 ⟨rfl, rfl⟩
            go_wp2
            go_ret
            exact ⟨ret_i (HF.out HR.out.symm).symm, bT HB3.out y1.b⟩
          | true =>
          have HR := Lib.hid (show true = T.factOk k by unfold Tn.factOk; rw [e0, e1, e2, e3, e4]; rfl)
          have E0 := Lib.hid e0; clear e0
          have E1 := Lib.hid e1; clear e1
          have E2 := Lib.hid e2; clear e2
          have E3 := Lib.hid e3; clear e3
          have E4 := Lib.hid e4; clear e4
          go_wp2_with fail
          refine (quiet_x (isWellQ HR1.out E0.out _ HN.out)).mono ?_
          rintro e w5 ⟨rfl, y0, rfl⟩
          go_wp2_with fail
          refine (quiet_x (isWellQ HR1.out E1.out _ HN.out)).mono ?_
          rintro e w5 ⟨rfl, y1, rfl⟩
          go_wp2_with fail
          refine (within_is E2.out _).mono ?_
          rintro e w5 ⟨rfl, rfl⟩
          go_wp2_with fail
          refine (within_is E3.out _).mono ?_
          rintro e w5 ⟨rfl, rfl⟩
          go_wp2_with fail
          refine (within_is E4.out _).mono ?_
          rintro e w5 ⟨rfl, rfl⟩
          go_wp2
          go_roundw
          case rel => exact ⟨k + 1, by go_num, hlt, allN_succ HP.out HR.out.symm, Ext.up HU.out y1, rfl⟩
          case measure => first | (simp [intOf]; done) | (simp [intOf]; omega)
        · have HR := Lib.hid (show chkE T.ok = 0 by
            have := HP.out
            rw [show k = T.nf by omega] at this
            rw [HK.out, HW.out, this]; rfl)
          have j : decide ((k : Int) < (T.nf : Int)) = false := by simp; omega
          go_wp2
          go_ret
          exact ⟨ret_i HR.out.symm, bT HB.out y.b⟩
end Go.Proofs.YtdjkbpenppdnlaaDoor
