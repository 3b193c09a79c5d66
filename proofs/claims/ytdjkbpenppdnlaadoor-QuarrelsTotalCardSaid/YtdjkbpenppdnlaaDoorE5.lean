/- Towns with worlds: whether a world agrees with a fact: both sides. -/
import Derived.Test.YtdjkbpenppdnlaaDoorA3

set_option linter.unusedSimpArgs false

set_option linter.unusedVariables false

namespace Go.Proofs.YtdjkbpenppdnlaaDoor

open Go.RowKit

set_option maxRecDepth 100000 in
set_option maxHeartbeats 2000000 in
theorem agrees_any (T : Tn) (A : Adr) (k f : Nat) (hok : T.ok = true) (hk : k < T.nw) (hf : f < T.nf) (w : World) (hi : TnIn w w.heap.size T A) :
    Calls Tryd.prog 110 #[.agg #[.slice (A.rp k) (T.rl k) (A.rc k)], .agg #[.int .i64 (T.ff f), .int .i64 (T.fm f), .int .i64 (T.ft f), .int .i64 (T.fl f), .int .i64 (T.fh f)]] w fun e w' => e = .returned (.bool (T.agr k f)) ∧ Below w.heap.size w w' := by
  obtain ⟨_, _, _, H1, H2⟩ := T.ok_parts hok
  obtain ⟨hrl, hr⟩ := H1 k hk
  obtain ⟨⟨a1, a2⟩, ⟨b1, b2⟩, ⟨m1, m2⟩, _⟩ := H2 f hf
  obtain ⟨i, hi1⟩ : ∃ i : Nat, T.ff f = i := ⟨(T.ff f).toNat, by omega⟩
  obtain ⟨j, hj1⟩ : ∃ j : Nat, T.ft f = j := ⟨(T.ft f).toNat, by omega⟩
  have hil : i < T.rl k := by omega
  obtain ⟨hcl, hc⟩ := hr i hil
  have hjl : j < T.cl k i := by omega
  have hb := hc j hjl
  have HV := Lib.hid (show T.agr k f = within (T.fa k i j * T.fm f) (T.fl f) (T.fh f) by unfold Tn.agr Tn.fall; rw [hi1, hj1]; simp)
  have p1 : 0 ≤ T.fa k i j * T.fm f := Int.mul_nonneg hb.1 (by omega)
  have p2 : T.fa k i j * T.fm f ≤ 9 * 9 := Int.mul_le_mul hb.2 m2 (by omega) (by omega)
  have hwp : IntKind.i64.wrap (T.fa k i j * T.fm f) = T.fa k i j * T.fm f := IntWalk.i64_in _ (by omega)
  rw [hi1, hj1]
  obtain ⟨w1, x1, hw1, hb1, hz1, F0, _⟩ := box_wd w (A.rp k) (T.rl k) (A.rc k)
  obtain ⟨w2, x, hw2, hb2, hz2, G0, G1, G2, G3, G4, _⟩ := box_ft x1.v (i : Int) (T.fm f) (j : Int) (T.fl f) (T.fh f)
  have hb12 := bT hb1 (bT x1.b hb2)
  have HB := Lib.hid hb12
  obtain ⟨q1, o1, r1, _, d1⟩ := (hi.bel hb12).rs k hk (by omega)
  obtain ⟨q2, o2, r2, _, d2⟩ := (hi.bel hb12).is k hk i hil (by omega)
  have HI : Hid (∀ z : Ext w2, TnIn z.v z.v.heap.size T A) := fun z => (hi.bel hb12).bel z.b
  have c1 : ∀ z : Ext w2, z.v.cell? ⟨q1, o1 + i, none⟩ = some (.slice (A.ip k i) (T.cl k i) (A.ic k i)) := fun z => At.cell (f := fun i => .slice (A.ip k i) (T.cl k i) (A.ic k i)) (by have := (HI.out z).rs k hk; rwa [r1] at this) (by omega)
  have c2 : ∀ z : Ext w2, z.v.cell? ⟨q2, o2 + j, none⟩ = some (.int .i64 (T.fa k i j)) := fun z => At.cell (f := fun j => .int .i64 (T.fa k i j)) (by have := (HI.out z).is k hk i hil; rwa [r2] at this) (by omega)
  replace F0 : ∀ z : Ext w2, z.v.cell? ⟨w.heap.size, 0, none⟩ = some (.slice (A.rp k) (T.rl k) (A.rc k)) := fun z => F0 (z.up (bT x1.b hb2))
  rw [r2] at c1
  rw [r1] at F0 hw1 ⊢
  obtain ⟨v, hv⟩ : ∃ v, T.fa k i j = v := ⟨_, rfl⟩
  rw [hv] at HV c2 hwp
  obtain ⟨n1, hn1⟩ : ∃ n, T.rl k = n := ⟨_, rfl⟩
  obtain ⟨n2, hn2⟩ : ∃ n, T.cl k i = n := ⟨_, rfl⟩
  rw [hn1] at F0 hil hw1 ⊢
  rw [hn2] at c1 hjl
  clear hb1 hz1 hb2 hz2 hb12 d1 d2 H1 H2 hr hc hb p1 p2 hrl hcl r1 r2 a1 a2 b1 b2 m1 m2 hi1 hj1 hv hn1 hn2 hi
  go_enter Tryd.func110, Tryd.ntmps110
  go_wp2
  refine quiet_e (by kernel_rfl) (by kernel_rfl) ?_
  repeat (first | go_big_quiet_step ((first | (go_at_call 99; exact quiet_s (isFrom_any _ _ _ _)))) | quiet_step ((first | (go_at_call 99; exact quiet_s (isFrom_any _ _ _ _)))))
  refine wpQuiet_nil ?_
  intro w6 hw6
  obtain ⟨y2, rfl⟩ := hw6
  go_wp2
  go_ret
  exact ⟨ret_b HV.out.symm, bT HB.out y2.b⟩
set_option maxRecDepth 100000 in
set_option maxHeartbeats 2000000 in
theorem agreesR_any (T : Tn) (A : Adr) (k f : Nat) (hok : T.ok = true) (hk : k < T.nw) (hf : f < T.nf) (w : World) (hi : TnIn w w.heap.size T A) :
    Calls Tryd.prog 77 #[A.val T, .int .i64 (k : Int), .agg #[.int .i64 (T.ff f), .int .i64 (T.fm f), .int .i64 (T.ft f), .int .i64 (T.fl f), .int .i64 (T.fh f)]] w fun e w' => e = .returned (.bool (T.agr k f)) ∧ Below w.heap.size w w' := by
  obtain ⟨_, _, _, H1, H2⟩ := T.ok_parts hok
  obtain ⟨hrl, hr⟩ := H1 k hk
  obtain ⟨⟨a1, a2⟩, ⟨b1, b2⟩, ⟨m1, m2⟩, _⟩ := H2 f hf
  obtain ⟨i, hi1⟩ : ∃ i : Nat, T.ff f = i := ⟨(T.ff f).toNat, by omega⟩
  obtain ⟨j, hj1⟩ : ∃ j : Nat, T.ft f = j := ⟨(T.ft f).toNat, by omega⟩
  have hil : i < T.rl k := by omega
  obtain ⟨hcl, hc⟩ := hr i hil
  have hjl : j < T.cl k i := by omega
  have hb := hc j hjl
  have HV := Lib.hid (show T.agr k f = within (T.fa k i j * T.fm f) (T.fl f) (T.fh f) by unfold Tn.agr Tn.fall; rw [hi1, hj1]; simp)
  have p1 : 0 ≤ T.fa k i j * T.fm f := Int.mul_nonneg hb.1 (by omega)
  have p2 : T.fa k i j * T.fm f ≤ 9 * 9 := Int.mul_le_mul hb.2 m2 (by omega) (by omega)
  have hwp : IntKind.i64.wrap (T.fa k i j * T.fm f) = T.fa k i j * T.fm f := IntWalk.i64_in _ (by omega)
  rw [hi1, hj1]
  unfold Adr.val
  obtain ⟨w1, x1, hw1, hb1, hz1, F0, F1, F2, _⟩ := box_tn w T.wn A.wp A.fp T.nw A.wc T.nf A.fc
  obtain ⟨w2, x, hw2, hb2, hz2, G0, G1, G2, G3, G4, _⟩ := box_ft x1.v (i : Int) (T.fm f) (j : Int) (T.fl f) (T.fh f)
  have hb12 := bT hb1 (bT x1.b hb2)
  have HB := Lib.hid hb12
  obtain ⟨q0, o0, r0, _, d0⟩ := (hi.bel hb12).ws (by omega)
  obtain ⟨q1, o1, r1, _, d1⟩ := (hi.bel hb12).rs k hk (by omega)
  obtain ⟨q2, o2, r2, _, d2⟩ := (hi.bel hb12).is k hk i hil (by omega)
  have HI : Hid (∀ z : Ext w2, TnIn z.v z.v.heap.size T A) := fun z => (hi.bel hb12).bel z.b
  have c0 : ∀ z : Ext w2, z.v.cell? ⟨q0, o0 + k, none⟩ = some (.slice (A.rp k) (T.rl k) (A.rc k)) := fun z => At.cell (f := fun k => .slice (A.rp k) (T.rl k) (A.rc k)) (by have := (HI.out z).ws; rwa [r0] at this) (by omega)
  have c1 : ∀ z : Ext w2, z.v.cell? ⟨q1, o1 + i, none⟩ = some (.slice (A.ip k i) (T.cl k i) (A.ic k i)) := fun z => At.cell (f := fun i => .slice (A.ip k i) (T.cl k i) (A.ic k i)) (by have := (HI.out z).rs k hk; rwa [r1] at this) (by omega)
  have c2 : ∀ z : Ext w2, z.v.cell? ⟨q2, o2 + j, none⟩ = some (.int .i64 (T.fa k i j)) := fun z => At.cell (f := fun j => .int .i64 (T.fa k i j)) (by have := (HI.out z).is k hk i hil; rwa [r2] at this) (by omega)
  replace F1 : ∀ z : Ext w2, z.v.cell? ⟨w.heap.size, 1, none⟩ = some (.slice A.wp T.nw A.wc) := fun z => F1 (z.up (bT x1.b hb2))
  rw [r2] at c1
  rw [r1] at c0
  rw [r0] at F1 hw1 ⊢
  obtain ⟨v, hv⟩ : ∃ v, T.fa k i j = v := ⟨_, rfl⟩
  rw [hv] at HV c2 hwp
  obtain ⟨n1, hn1⟩ : ∃ n, T.rl k = n := ⟨_, rfl⟩
  obtain ⟨n2, hn2⟩ : ∃ n, T.cl k i = n := ⟨_, rfl⟩
  rw [hn1] at c0 hil
  rw [hn2] at c1 hjl
  clear hb1 hz1 hb2 hz2 hb12 d0 d1 d2 H1 H2 hr hc hb p1 p2 hrl hcl r0 r1 r2 a1 a2 b1 b2 m1 m2 hi1 hj1 hv hn1 hn2 hi F0 F2
  go_enter Tryd.func77, Tryd.ntmps77
  go_wp2
  refine quiet_e (by kernel_rfl) (by kernel_rfl) ?_
  repeat (first | go_big_quiet_step ((first | (go_at_call 69; exact quiet_s (within_any _ _ _ _)))) | quiet_step ((first | (go_at_call 69; exact quiet_s (within_any _ _ _ _)))))
  refine wpQuiet_nil ?_
  intro w6 hw6
  obtain ⟨y2, rfl⟩ := hw6
  go_wp2
  go_ret
  exact ⟨ret_b HV.out.symm, bT HB.out y2.b⟩
end Go.Proofs.YtdjkbpenppdnlaaDoor
