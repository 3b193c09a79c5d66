/- Towns with worlds: equal lists and towns, and what a statement does not examine. -/
import Derived.Test.YtdjkbpenppdnlaaDoorC2

set_option linter.unusedSimpArgs false

set_option linter.unusedVariables false

namespace Go.Proofs.YtdjkbpenppdnlaaDoor

open Go.RowKit

set_option maxRecDepth 100000 in
set_option maxHeartbeats 2000000 in
theorem sameInts_is {n c c' : Nat} {f : Nat → Int} {p p' : Option Addr} (w : World) (hn : n ≤ maxLen) (h : At w w.heap.size p n 1 (fun k => .int .i64 (f k))) (h' : At w w.heap.size p' n 1 (fun k => .int .i64 (f k))) :
    Calls Tryd.prog 24 #[.slice p n c, .slice p' n c'] w fun e w' => e = .returned (.bool true) ∧ Below w.heap.size w w' := by
  have HI : Hid (∀ z : Ext w, At z.v z.v.heap.size p n 1 (fun k => .int .i64 (f k))) := fun z => h.bel z.b
  have HI' : Hid (∀ z : Ext w, At z.v z.v.heap.size p' n 1 (fun k => .int .i64 (f k))) := fun z => h'.bel z.b
  have d1 : ((n : Int) != (n : Int)) = false := by simp
  unfold maxLen at hn
  clear h h'
  obtain ⟨x, hx⟩ := rebase w
  go_enter Tryd.func24, Tryd.ntmps24
  go_wp2
  go_loopw [5] (fun i wr => ∃ k : Nat, i = .int .i64 k ∧ k ≤ n ∧ ∃ x : Ext w, wr = x.v) (fun i _ => n - (intOf i).toNat)
  case atStart => exact ⟨0, rfl, Nat.zero_le _, x, rfl⟩
  case round =>
    obtain ⟨k, rfl, hk, u, rfl⟩ := hrel
    by_cases hlt : k < n
    · obtain ⟨b1, o1, rfl, -, -⟩ := (HI.out u) (by omega)
      obtain ⟨b2, o2, rfl, -, -⟩ := (HI'.out u) (by omega)
      have C0 : ∀ z : Ext w, z.v.cell? ⟨b1, o1 + k, none⟩ = some (.int .i64 (f k)) := fun z => At.cell (f := fun k => .int .i64 (f k)) (HI.out z) (by omega)
      have E0 : ∀ z : Ext w, z.v.cell? ⟨b2, o2 + k, none⟩ = some (.int .i64 (f k)) := fun z => At.cell (f := fun k => .int .i64 (f k)) (HI'.out z) (by omega)
      have j : decide ((k : Int) < (n : Int)) = true := by simp; omega
      have j2 : (f k != f k) = false := by simp
      go_wp2
      refine quiet_e (by kernel_rfl) (by kernel_rfl) ?_
      repeat (first | go_big_quiet_step (fail) | quiet_step (fail))
      refine wpQuiet_nil ?_
      intro w6 hw6
      obtain ⟨u2, rfl⟩ := hw6
      go_wp2
      go_roundw
      case rel => exact ⟨k + 1, by go_num, hlt, u2, rfl⟩
      case measure => first | (simp [intOf]; done) | (simp [intOf]; omega)
    · have j : decide ((k : Int) < (n : Int)) = false := by simp; omega
      go_wp2
      go_ret
      exact ⟨rfl, u.b⟩
set_option maxRecDepth 100000 in
set_option maxHeartbeats 8000000 in
/-- the same towns are the same -/
theorem same_any (T : Tn) (A A' : Adr) (w : World) (hs : T.sized) (hi : TnIn w w.heap.size T A) (hi' : TnIn w w.heap.size T A') :
    Calls Tryd.prog 25 #[A.val T, A'.val T] w fun e w' => e = .returned (.bool true) ∧ Below w.heap.size w w' := by
  obtain ⟨w1, x1, e1, hb1, hz1, A0, A1, A2, _⟩ := box_tn w T.wn A.wp A.fp T.nw A.wc T.nf A.fc
  obtain ⟨w2, x2, e2, b2, hz2, B0, B1, B2, _⟩ := box_tn x1.v T.wn A'.wp A'.fp T.nw A'.wc T.nf A'.fc
  have hb := bT x1.b b2
  have HB := Lib.hid (bT hb1 hb)
  have HS := Lib.hid hs
  have hnw := hs.w; have hnf := hs.f
  have HI : Hid (∀ x : Ext w2, TnIn x.v x.v.heap.size T A) := fun x => ((hi.bel hb1).bel hb).bel x.b
  have HI' : Hid (∀ x : Ext w2, TnIn x.v x.v.heap.size T A') := fun x => ((hi'.bel hb1).bel hb).bel x.b
  replace A0 : ∀ y : Ext w2, y.v.cell? ⟨w.heap.size, 0, none⟩ = some (.int .i64 T.wn) := fun y => A0 (y.up hb)
  replace A1 : ∀ y : Ext w2, y.v.cell? ⟨w.heap.size, 1, none⟩ = some (.slice A.wp T.nw A.wc) := fun y => A1 (y.up hb)
  replace A2 : ∀ y : Ext w2, y.v.cell? ⟨w.heap.size, 2, none⟩ = some (.slice A.fp T.nf A.fc) := fun y => A2 (y.up hb)
  clear hb1 hz1 b2 hz2 hb hi hi' hs
  have d0 : (T.wn != T.wn) = false := by simp
  have d1 : ((T.nw : Int) != (T.nw : Int)) = false := by simp
  have d2 : ((T.nf : Int) != (T.nf : Int)) = false := by simp
  unfold Adr.val
  go_enter Tryd.func25, Tryd.ntmps25
  go_wp2
  clear e1 e2
  go_loopw [5] (fun i wr => ∃ k : Nat, i = .int .i64 k ∧ k ≤ T.nf ∧ ∃ x : Ext w2, wr = x.v) (fun i _ => T.nf - (intOf i).toNat)
  case atStart => exact ⟨0, rfl, Nat.zero_le _, x2, rfl⟩
  case round =>
    obtain ⟨k, rfl, hk, u, rfl⟩ := hrel
    by_cases hlt : k < T.nf
    · obtain ⟨b1, o1, hr1, -, -⟩ := (HI.out u).fs (by omega)
      obtain ⟨b2, o2, hr2, -, -⟩ := (HI'.out u).fs (by omega)
      have HC : ∀ u : Ext w2, _ := fun u => fact_cells (w := u.v) (q := b1) (o := o1) (by have := (HI.out u).fs; rw [hr1] at this; exact fun i hi => At.cell this hi) hlt
      have HD : ∀ u : Ext w2, _ := fun u => fact_cells (w := u.v) (q := b2) (o := o2) (by have := (HI'.out u).fs; rw [hr2] at this; exact fun i hi => At.cell this hi) hlt
      have c0 := fun u => (HC u).1; have c1 := fun u => (HC u).2.1; have c2 := fun u => (HC u).2.2.1; have c3 := fun u => (HC u).2.2.2.1; have c4 := fun u => (HC u).2.2.2.2
      have k0 := fun u => (HD u).1; have k1 := fun u => (HD u).2.1; have k2 := fun u => (HD u).2.2.1; have k3 := fun u => (HD u).2.2.2.1; have k4 := fun u => (HD u).2.2.2.2
      rw [hr1] at A2
      rw [hr2] at B2
      clear HC HD hr1 hr2
      have j : decide ((k : Int) < (T.nf : Int)) = true := by simp; omega
      go_wp2
      refine quiet_e (by kernel_rfl) (by kernel_rfl) ?_
      repeat (first | go_big_quiet_step (fail) | quiet_step (fail))
      refine wpQuiet_nil ?_
      intro w6 hw6
      obtain ⟨u2, rfl⟩ := hw6
      go_wp2
      go_roundw
      case rel => exact ⟨k + 1, by go_num, hlt, u2, rfl⟩
      case measure => first | (simp [intOf]; done) | (simp [intOf]; omega)
    · have j : decide ((k : Int) < (T.nf : Int)) = false := by simp; omega
      go_wp2
      clear j hlt hk
      go_loopw [6] (fun i wr => ∃ k : Nat, i = .int .i64 k ∧ k ≤ T.nw ∧ ∃ x : Ext w2, wr = x.v) (fun i _ => T.nw - (intOf i).toNat)
      case atStart => exact ⟨0, rfl, Nat.zero_le _, u, rfl⟩
      case round =>
        obtain ⟨q, rfl, hq, z, rfl⟩ := hrel
        by_cases hlq : q < T.nw
        · obtain ⟨b1, o1, hr1, -, -⟩ := (HI.out z).ws (by omega)
          obtain ⟨b2, o2, hr2, -, -⟩ := (HI'.out z).ws (by omega)
          have c0 : ∀ z : Ext w2, z.v.cell? ⟨b1, o1 + q, none⟩ = some (.slice (A.rp q) (T.rl q) (A.rc q)) := fun z => At.cell (f := fun i => .slice (A.rp i) (T.rl i) (A.rc i)) (by have := (HI.out z).ws; rwa [hr1] at this) (by omega)
          have k0 : ∀ z : Ext w2, z.v.cell? ⟨b2, o2 + q, none⟩ = some (.slice (A'.rp q) (T.rl q) (A'.rc q)) := fun z => At.cell (f := fun i => .slice (A'.rp i) (T.rl i) (A'.rc i)) (by have := (HI'.out z).ws; rwa [hr2] at this) (by omega)
          rw [hr1] at A1
          rw [hr2] at B1
          have a1 := A1 z
          have HL := Lib.hid hlq
          have hrl := HS.out.r q hlq
          obtain ⟨n, hn⟩ : ∃ n, T.rl q = n := ⟨_, rfl⟩
          have HN := Lib.hid hn
          rw [hn] at c0 k0 hrl
          have hm : n ≤ 40 := hrl
          have d3 : ((n : Int) != (n : Int)) = false := by simp
          have j : decide ((q : Int) < (T.nw : Int)) = true := by simp; omega
          clear hr1 hr2 hn hrl
          go_wp2
          refine quiet_e (by kernel_rfl) (by kernel_rfl) ?_
          repeat (first | go_big_quiet_step (fail) | quiet_step (fail))
          refine wpQuiet_nil ?_
          intro w6 hw6
          obtain ⟨u3, rfl⟩ := hw6
          go_wp2
          clear j hlq hq a1
          go_loopw [7] (fun i wr => ∃ k : Nat, i = .int .i64 k ∧ k ≤ n ∧ ∃ x : Ext w2, wr = x.v) (fun i _ => n - (intOf i).toNat)
          case atStart => exact ⟨0, rfl, Nat.zero_le _, u3, rfl⟩
          case round =>
            obtain ⟨i, rfl, hi, y, rfl⟩ := hrel
            have a1 := A1 y
            have a2 := c0 y
            by_cases hli : i < n
            · obtain ⟨b3, o3, hr3, -, -⟩ := (HI.out y).rs q HL.out (by rw [HN.out]; omega)
              obtain ⟨b4, o4, hr4, -, -⟩ := (HI'.out y).rs q HL.out (by rw [HN.out]; omega)
              have g0 : ∀ z : Ext w2, z.v.cell? ⟨b3, o3 + i, none⟩ = some (.slice (A.ip q i) (T.cl q i) (A.ic q i)) := fun z => At.cell (f := fun i => .slice (A.ip q i) (T.cl q i) (A.ic q i)) (by have := (HI.out z).rs q HL.out; rwa [hr3, HN.out] at this) (by omega)
              have h0 : ∀ z : Ext w2, z.v.cell? ⟨b4, o4 + i, none⟩ = some (.slice (A'.ip q i) (T.cl q i) (A'.ic q i)) := fun z => At.cell (f := fun i => .slice (A'.ip q i) (T.cl q i) (A'.ic q i)) (by have := (HI'.out z).rs q HL.out; rwa [hr4, HN.out] at this) (by omega)
              have HX := Lib.hid (fun z : Ext w2 => sameInts_is (c := A.ic q i) (c' := A'.ic q i) z.v (le_max (HS.out.c q HL.out i (by rw [HN.out]; omega))) ((HI.out z).is q HL.out i (by rw [HN.out]; omega)) ((HI'.out z).is q HL.out i (by rw [HN.out]; omega)))
              rw [hr3] at c0 a2
              rw [hr4] at k0
              have j : decide ((i : Int) < (n : Int)) = true := by simp; omega
              clear hr3 hr4
              go_wp2
              refine quiet_e (by kernel_rfl) (by kernel_rfl) ?_
              repeat (first | go_big_quiet_step ((go_at_call 24; exact quiet_x (HX.out _))) | quiet_step ((go_at_call 24; exact quiet_x (HX.out _))))
              refine wpQuiet_nil ?_
              intro w6 hw6
              obtain ⟨u5, rfl⟩ := hw6
              go_wp2
              go_roundw
              case rel => exact ⟨i + 1, by go_num, hli, u5, rfl⟩
              case measure => first | (simp [intOf]; done) | (simp [intOf]; omega)
            · have j : decide ((i : Int) < (n : Int)) = false := by simp; omega
              go_wp2
              go_roundw
              case rel => exact ⟨q + 1, by go_num, HL.out, y, rfl⟩
              case measure => have := HL.out; simp [intOf]; omega
        · have j : decide ((q : Int) < (T.nw : Int)) = false := by simp; omega
          go_wp2
          go_ret
          exact ⟨rfl, bT HB.out z.b⟩
end Go.Proofs.YtdjkbpenppdnlaaDoor
