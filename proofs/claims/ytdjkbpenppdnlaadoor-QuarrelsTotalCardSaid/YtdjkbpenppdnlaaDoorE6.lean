/- Towns with worlds: the closure of leftOf, a fall, worlds and laws that can be asked for. -/
import Derived.Test.YtdjkbpenppdnlaaDoorE5

set_option linter.unusedSimpArgs false

set_option linter.unusedVariables false

namespace Go.Proofs.YtdjkbpenppdnlaaDoor

open Go.RowKit

theorem left1_any (T : Tn) (A : Adr) (k f g : Nat) (hok : T.ok = true) (hk : k < T.nw) (hf : f < T.nf) (W : World) (hi : TnIn W W.heap.size T A) (hg : g < W.heap.size) (hc : W.cell? ⟨g, 0, none⟩ = some (.slice (A.rp k) (T.rl k) (A.rc k))) :
    Calls Tryd.prog 109 (#[.agg #[.int .i64 (T.ff f), .int .i64 (T.fm f), .int .i64 (T.ft f), .int .i64 (T.fl f), .int .i64 (T.fh f)]] ++ #[.pointer (some ⟨g, 0, none⟩)]) W fun e W' => e = .returned (.bool (T.agr k f)) ∧ Below W.heap.size W W' := by
  show Calls Tryd.prog 109 #[.agg #[.int .i64 (T.ff f), .int .i64 (T.fm f), .int .i64 (T.ft f), .int .i64 (T.fl f), .int .i64 (T.fh f)], .pointer (some ⟨g, 0, none⟩)] W _
  obtain ⟨w1, x, hw1, hb1, hz1, G0, G1, G2, G3, G4, _⟩ := box_ft W (T.ff f) (T.fm f) (T.ft f) (T.fl f) (T.fh f)
  have hbx := bT hb1 x.b
  replace hc := (hbx.cell (p := ⟨g, 0, none⟩) hg).trans hc
  replace G0 := G0 x; replace G1 := G1 x; replace G2 := G2 x; replace G3 := G3 x; replace G4 := G4 x
  have HB := Lib.hid hbx
  have HC := Lib.hid (agrees_any T A k f hok hk hf x.v (hi.bel hbx))
  clear hb1 hz1 hbx hi hk hf
  go_enter Tryd.func109, Tryd.ntmps109
  go_wp2_with fail
  refine (HC.out).mono ?_
  rintro e w3 ⟨rfl, hb3⟩
  have HB3 := Lib.hid (bT HB.out hb3); clear hb3
  go_wp2
  go_ret
  exact ⟨rfl, HB3.out⟩
theorem isWorldQ_any (T : Tn) (A : Adr) (k : Int) (w : World) (hn : T.nw ≤ 40) :
    Calls Tryd.prog 46 #[A.val T, .int .i64 k] w fun e w' => e = .returned (.bool (within k 0 ((T.nw : Int) - 1))) ∧ Below w.heap.size w w' := by
  obtain ⟨w1, x, hw1, hb1, hz1, F0, F1, F2, _⟩ := box_tn w T.wn A.wp A.fp T.nw A.wc T.nf A.fc
  have HB := Lib.hid hb1
  have hw : IntKind.i64.wrap ((T.nw : Int) - 1) = (T.nw : Int) - 1 := IntWalk.i64_in _ (by omega)
  clear hb1 hz1
  unfold Adr.val
  go_enter Tryd.func46, Tryd.ntmps46
  go_wp2_with (go_at_call 69; refine (within_any _ _ _ _).mono ?_; rintro e w' ⟨rfl, rfl⟩)
  go_ret
  exact ⟨rfl, bT HB.out x.b⟩
theorem isLawR_any (k : Int) (w : World) : Calls Tryd.prog 48 #[.int .i64 k] w fun e w' => e = .returned (.bool (within k 0 99)) ∧ w = w' := by
  go_enter Tryd.func48, Tryd.ntmps48
  go_wp2_with (go_at_call 69; refine (within_any _ _ _ _).mono ?_; rintro e w' ⟨rfl, rfl⟩)
  go_ret
  exact ⟨rfl, rfl⟩
theorem isLawP_any (k : Int) (w : World) : Calls Tryd.prog 82 #[.int .i64 k] w fun e w' => e = .returned (.bool (within k 0 99)) ∧ w = w' := by
  go_enter Tryd.func82, Tryd.ntmps82
  go_wp2_with (go_at_call 99; refine (isFrom_any _ _ _ _).mono ?_; rintro e w' ⟨rfl, rfl⟩)
  go_ret
  exact ⟨rfl, rfl⟩
theorem isWorldP_any (T : Tn) (A : Adr) (k : Int) (w : World) :
    Calls Tryd.prog 74 #[A.val T, .int .i64 k] w fun e w' => e = .returned (.bool (within k 0 ((T.nw : Int) - 1))) ∧ Below w.heap.size w w' := by
  obtain ⟨w1, x, hw1, hb1, hz1, F0, F1, F2, _⟩ := box_tn w T.wn A.wp A.fp T.nw A.wc T.nf A.fc
  have HB := Lib.hid hb1
  clear hb1 hz1
  unfold Adr.val
  by_cases h : 0 ≤ k
  · have j : decide (0 ≤ k) = true := by simpa using h
    have HR := Lib.hid (show decide (k < (T.nw : Int)) = within k 0 ((T.nw : Int) - 1) by unfold within; exact decide_eq_decide.2 (by omega))
    go_enter Tryd.func74, Tryd.ntmps74
    go_wp2
    go_ret
    exact ⟨ret_b HR.out, bT HB.out x.b⟩
  · have j : decide (0 ≤ k) = false := by simpa using h
    have HR := Lib.hid (show false = within k 0 ((T.nw : Int) - 1) from (within_lo (by omega)).symm)
    go_enter Tryd.func74, Tryd.ntmps74
    go_wp2
    go_ret
    exact ⟨ret_b HR.out, bT HB.out x.b⟩
set_option maxRecDepth 100000 in
set_option maxHeartbeats 1000000 in
theorem fallR_any (T : Tn) (A : Adr) (k i j : Nat) (w : World) (hk : k < T.nw) (hil : i < T.rl k) (hjl : j < T.cl k i) (hi : TnIn w w.heap.size T A) :
    Calls Tryd.prog 52 #[A.val T, .int .i64 (k : Int), .int .i64 (i : Int), .int .i64 (j : Int)] w fun e w' => e = .returned (.int .i64 (T.fa k i j)) ∧ Below w.heap.size w w' := by
  unfold Adr.val
  obtain ⟨w1, x, hw1, hb1, hz1, F0, F1, F2, _⟩ := box_tn w T.wn A.wp A.fp T.nw A.wc T.nf A.fc
  have HB := Lib.hid hb1
  obtain ⟨q0, o0, r0, _, d0⟩ := (hi.bel hb1).ws (by omega)
  obtain ⟨q1, o1, r1, _, d1⟩ := (hi.bel hb1).rs k hk (by omega)
  obtain ⟨q2, o2, r2, _, d2⟩ := (hi.bel hb1).is k hk i hil (by omega)
  have HI : Hid (∀ z : Ext w1, TnIn z.v z.v.heap.size T A) := fun z => (hi.bel hb1).bel z.b
  have c0 : ∀ z : Ext w1, z.v.cell? ⟨q0, o0 + k, none⟩ = some (.slice (A.rp k) (T.rl k) (A.rc k)) := fun z => At.cell (f := fun k => .slice (A.rp k) (T.rl k) (A.rc k)) (by have := (HI.out z).ws; rwa [r0] at this) (by omega)
  have c1 : ∀ z : Ext w1, z.v.cell? ⟨q1, o1 + i, none⟩ = some (.slice (A.ip k i) (T.cl k i) (A.ic k i)) := fun z => At.cell (f := fun i => .slice (A.ip k i) (T.cl k i) (A.ic k i)) (by have := (HI.out z).rs k hk; rwa [r1] at this) (by omega)
  have c2 : ∀ z : Ext w1, z.v.cell? ⟨q2, o2 + j, none⟩ = some (.int .i64 (T.fa k i j)) := fun z => At.cell (f := fun j => .int .i64 (T.fa k i j)) (by have := (HI.out z).is k hk i hil; rwa [r2] at this) (by omega)
  rw [r2] at c1
  rw [r1] at c0
  rw [r0] at F1 hw1 ⊢
  clear hb1 hz1 d0 d1 d2 r0 r1 r2 F0 F2 hi
  go_enter Tryd.func52, Tryd.ntmps52
  go_wp2
  go_ret
  exact ⟨rfl, bT HB.out x.b⟩
end Go.Proofs.YtdjkbpenppdnlaaDoor
