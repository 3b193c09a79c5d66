/- Lines of an aqueduct: Clash in the specification's words; equal lines. -/
import Derived.Test.YtkdlppekjjbgoaaS5

set_option linter.unusedSimpArgs false

set_option linter.unusedVariables false

namespace Go.Proofs.Ytkdlppekjjbgoaa

open Go.RowKit

set_option maxRecDepth 100000 in
set_option maxHeartbeats 2000000 in
theorem clashR_any (D : Duct) (p q : Option Addr) (c d : Nat) (w : World) (hn : D.n ≤ 40) (hm : D.m ≤ 40) (hi : DuctIn w w.heap.size D p q) :
    Calls Try.prog 43 #[.agg #[.slice p D.n c, .slice q D.m d]] w fun e w' => e = .returned (.tuple #[.agg #[.int .i64 (clAv D), .int .i64 (clBv D)], .int .i64 (clE D)]) ∧ Below w.heap.size w w' := by
  obtain ⟨w1, x1, hw1, hb1, hz1, F0, F1⟩ := box_line w p q D.n D.m c d
  obtain ⟨w2, x2, hw2, hb2, hz2, G0, G1, Gz⟩ := box_two x1.v 29 0 0
  have hB2 : Below x1.v.heap.size x1.v w2 := hb2
  have HB := Lib.hid (bT (bT hb1 x1.b) hb2)
  have HI : Hid (∀ x : Ext w2, DuctIn x.v x.v.heap.size D p q) := fun x => (hi.bel (bT hb1 x1.b)).bel (bT hb2 x.b)
  have HZ : Hid (w.heap.size ≤ x1.v.heap.size) := by have := hb1.size; have := x1.b.size; show _ ≤ _; omega
  replace F0 : ∀ y : Ext w2, y.v.cell? ⟨w.heap.size, 0, none⟩ = some (.slice p D.n c) := fun y => F0 (y.up (bT x1.b hb2))
  replace F1 : ∀ y : Ext w2, y.v.cell? ⟨w.heap.size, 1, none⟩ = some (.slice q D.m d) := fun y => F1 (y.up (bT x1.b hb2))
  clear hb1 hz1 hi hb2 hz2 hB2
  cases ho : D.ok with
  | false =>
    have hc : chkE false true = 60 := rfl
    have R0 := Lib.hid (show clAv D = 0 from by simp [clAv, ho])
    have R1 := Lib.hid (show clBv D = 0 from by simp [clBv, ho])
    have R2 := Lib.hid (show clE D = 60 from by simp [clE, ho])
    go_enter Try.func43, Try.ntmps43
    go_wp2_with (go_at_call 42; refine (quiet_x (checkR_any D p q c d _ hn hm (HI.out _))).mono ?_; rintro e w' ⟨rfl, y, rfl⟩)
    refine bodyPost_ret (v := .tuple #[.agg #[.int .i64 0, .int .i64 0], .int .i64 60]) (by simp [results, Try.f43, go_sem, G0, G1, Gz]) rfl ⟨?_, ?_⟩
    · rw [R0.out, R1.out, R2.out]
    · exact bS (bS (bT HB.out y.b) HZ.out _) HZ.out _
  | true =>
  have hc : chkE true true = 0 := rfl
  have R0 := Lib.hid (show clAv D = clA D from by simp [clAv, ho])
  have R1 := Lib.hid (show clBv D = clB D from by simp [clBv, ho])
  have R2 := Lib.hid (show clE D = if D.clash.isSome then 0 else 3 from by simp [clE, ho])
  go_enter Try.func43, Try.ntmps43
  go_wp2_with (go_at_call 42; refine (quiet_x (checkR_any D p q c d _ hn hm (HI.out _))).mono ?_; rintro e w' ⟨rfl, y0, rfl⟩)
  clear hw1 hw2 hc ho
  go_loopw [5] (fun i wr => ∃ k : Nat, i = .int .i64 k ∧ k ≤ D.n ∧ clb D k = none ∧ ∃ x : Ext w2, wr = x.v) (fun i _ => D.n - (intOf i).toNat)
  case atStart => exact ⟨0, rfl, Nat.zero_le _, rfl, y0, rfl⟩
  case round =>
    obtain ⟨k, rfl, hk, hp, y, rfl⟩ := hrel
    have HP := Lib.hid hp; clear hp
    by_cases hlt : k < D.n
    · obtain ⟨pb, po, rfl, _, _⟩ := (HI.out y).pt (by omega)
      have C0 : ∀ z : Ext w2, z.v.cell? ⟨pb, po + k * 3, none⟩ = some (.int .i64 (D.lo k)) := fun z => (HI.out z).lo' hlt
      have j : decide ((k : Int) < (D.n : Int)) = true := by simp; omega
      have jk : (k : Int) < (D.n : Int) := by omega
      go_wp2
      go_loopw [6] (fun i wr => ∃ (j : Nat) (a : Int), i = .int .i64 a ∧ a = (j : Int) - 1 ∧ j ≤ k ∧ cla D k k = cla D k j ∧ ∃ x : Ext w2, wr = x.v) (fun i _ => (intOf i + 1).toNat)
      case atStart => exact ⟨k, _, rfl, by omega, Nat.le_refl _, rfl, y, rfl⟩
      case round =>
        obtain ⟨j, a, rfl, ha, hj, hcl, u, rfl⟩ := hrel
        have HL := Lib.hid hcl; clear hcl
        cases j with
        | zero =>
          obtain rfl : a = -1 := by omega
          clear ha
          go_wp2
          go_roundw
          case rel => exact ⟨k + 1, by go_num, hlt, clb_next HP.out HL.out, u, rfl⟩
          case measure => first | (simp [intOf]; done) | (simp [intOf]; omega)
        | succ j =>
          obtain rfl : a = (j : Int) := by omega
          clear ha
          have hjn : j < D.n := by omega
          have hjc : (j : Int) < (D.n : Int) := by omega
          have C1 : ∀ z : Ext w2, z.v.cell? ⟨pb, po + j * 3 + 1, none⟩ = some (.int .i64 (D.hi j)) := fun z => (HI.out z).hi' hjn
          go_wp2
          refine quiet_e (by kernel_rfl) (by kernel_rfl) ?_
          repeat (first | go_big_quiet_step (fail) | quiet_step (fail))
          refine wpQuiet_nil ?_
          intro w6 hw6
          obtain ⟨u2, rfl⟩ := hw6
          go_wp2
          · have hlt2 : D.hi j < D.lo k := by assumption
            have hcs : D.clash = some (j, k) := clb_found HP.out (HL.out.trans (cla_hit hlt2)) hlt
            refine bodyPost_ret (v := .tuple #[.agg #[.int .i64 j, .int .i64 k], .int .i64 0]) (by simp [results, Try.f43, go_sem, G0, G1, Gz]) rfl ⟨?_, ?_⟩
            · rw [R0.out, R1.out, R2.out]; simp [clA, clB, hcs]
            · exact bS (bS (bT HB.out u2.b) HZ.out _) HZ.out _
          · have hlt2 : ¬ D.hi j < D.lo k := by rename_i hx; intro h; omega
            have HL2 := Lib.hid (HL.out.trans (cla_miss hlt2))
            go_roundw
            case rel => exact ⟨j, (j : Int) - 1, by go_num, rfl, by omega, HL2.out, u2, rfl⟩
            case measure => first | (simp [intOf]; done) | (simp [intOf]; omega)
    · have HR := Lib.hid (show D.clash = none from by have := HP.out; rwa [show k = D.n by omega] at this)
      have j : decide ((k : Int) < (D.n : Int)) = false := by simp; omega
      clear HP
      go_wp2
      refine bodyPost_ret (v := .tuple #[.agg #[.int .i64 0, .int .i64 0], .int .i64 3]) (by simp [results, Try.f43, go_sem, G0, G1, Gz]) rfl ⟨?_, ?_⟩
      · rw [R0.out, R1.out, R2.out]; simp [clA, clB, HR.out]
      · exact bS (bS (bT HB.out y.b) HZ.out _) HZ.out _
set_option maxHeartbeats 1000000 in
/-- the same numbers are the same -/
theorem sameInts_any (l : Nat) (f : Nat → Int) (p q : Option Addr) (c d : Nat) (w : World) (hl : l ≤ 40) (h1 : NumIn w w.heap.size l f p) (h2 : NumIn w w.heap.size l f q) :
    Calls Try.prog 55 #[.slice p l c, .slice q l d] w fun e w' => e = .returned (.bool true) ∧ Below w.heap.size w w' := by
  obtain ⟨x, hx⟩ := rebase w
  have H1 : Hid (∀ z : Ext w, NumIn z.v z.v.heap.size l f p) := fun z => h1.bel z.b
  have H2 : Hid (∀ z : Ext w, NumIn z.v z.v.heap.size l f q) := fun z => h2.bel z.b
  have d1 : ((l : Int) != (l : Int)) = false := by simp
  have HG : Hid (∀ w', (∃ z : Ext w, w' = z.v) → Below w.heap.size w w') := fun w' ⟨z, h⟩ => h ▸ z.b
  clear h1 h2
  go_enter Try.func55, Try.ntmps55
  go_wp2
  go_loopw [5] (fun i wr => ∃ k : Nat, i = .int .i64 k ∧ k ≤ l ∧ ∃ x : Ext w, wr = x.v) (fun i _ => l - (intOf i).toNat)
  case atStart => exact ⟨0, rfl, Nat.zero_le _, x, by first | exact hx | rfl⟩
  case round =>
    clear hx x
    obtain ⟨k, rfl, hk, y, rfl⟩ := hrel
    by_cases hlt : k < l
    · obtain ⟨b1, o1, rfl, _, _⟩ := H1.out y (by omega)
      obtain ⟨b2, o2, rfl, _, _⟩ := H2.out y (by omega)
      have C1 : ∀ z : Ext w, z.v.cell? ⟨b1, o1 + k, none⟩ = some (.int .i64 (f k)) := fun z => ((H1.out z).cell hlt).2
      have C2 : ∀ z : Ext w, z.v.cell? ⟨b2, o2 + k, none⟩ = some (.int .i64 (f k)) := fun z => ((H2.out z).cell hlt).2
      have j : decide ((k : Int) < (l : Int)) = true := by simp; omega
      have j2 : (k : Int) < (l : Int) := by omega
      go_wp2
      refine quiet_e (by kernel_rfl) (by kernel_rfl) ?_
      repeat (first | go_big_quiet_step (fail) | quiet_step (fail))
      refine wpQuiet_nil ?_
      intro w6 hw6
      obtain ⟨u2, rfl⟩ := hw6
      go_wp2
      go_roundw
      case rel => exact ⟨k + 1, by go_num, hlt, u2, rfl⟩
      case measure => first | (simp [intOf]; done) | (simp [intOf]; omega)
    · have j : decide ((k : Int) < (l : Int)) = false := by simp; omega
      go_wp2
      go_ret
      exact ⟨rfl, HG.out _ ⟨y, rfl⟩⟩
set_option maxRecDepth 100000 in
set_option maxHeartbeats 2000000 in
/-- the same lines are the same -/
theorem same_any (D : Duct) (p q : Option Addr) (c d : Nat) (p' q' : Option Addr) (c' d' : Nat) (w : World) (hn : D.n ≤ 40) (hm : D.m ≤ 40) (hi : DuctIn w w.heap.size D p q) (hi' : DuctIn w w.heap.size D p' q') :
    Calls Try.prog 46 #[.agg #[.slice p D.n c, .slice q D.m d], .agg #[.slice p' D.n c', .slice q' D.m d']] w fun e w' => e = .returned (.bool true) ∧ Below w.heap.size w w' := by
  obtain ⟨w1, x1, e1, hb1, hl1⟩ := mk_line w p q D.n D.m c d
  obtain ⟨w2, x2, e2, b2, l2⟩ := mk_line x1.v p' q' D.n D.m c' d'
  have hb := bT x1.b b2
  have HB := Lib.hid (bT hb1 hb)
  have HL := Lib.hid (hl1.bel hb); have HL' := Lib.hid l2
  have HI := Lib.hid ((hi.bel hb1).bel hb); have HI' := Lib.hid ((hi'.bel hb1).bel hb)
  clear hb1 hl1 b2 l2 hb hi hi'
  have A0 : ∀ z : Ext w2, z.v.cell? ⟨w.heap.size, 0, none⟩ = some (.slice p D.n c) := fun z => (HL.out.bel z.b).c0
  have A1 : ∀ z : Ext w2, z.v.cell? ⟨w.heap.size, 1, none⟩ = some (.slice q D.m d) := fun z => (HL.out.bel z.b).c1
  have B0 : ∀ z : Ext w2, z.v.cell? ⟨x1.v.heap.size, 0, none⟩ = some (.slice p' D.n c') := fun z => (HL'.out.bel z.b).c0
  have B1 : ∀ z : Ext w2, z.v.cell? ⟨x1.v.heap.size, 1, none⟩ = some (.slice q' D.m d') := fun z => (HL'.out.bel z.b).c1
  have d1 : ((D.n : Int) != (D.n : Int)) = false := by simp
  go_enter Try.func46, Try.ntmps46
  go_wp2_with (go_at_call 55; refine (quiet_x (sameInts_any D.m D.od q q' d d' _ hm (HI.out.bel (Ext.b _)).od (HI'.out.bel (Ext.b _)).od)).mono ?_; rintro e w' ⟨rfl, y, rfl⟩)
  clear e1 e2
  go_loopw [5] (fun i wr => ∃ k : Nat, i = .int .i64 k ∧ k ≤ D.n ∧ ∃ x : Ext w2, wr = x.v) (fun i _ => D.n - (intOf i).toNat)
  case atStart => exact ⟨0, rfl, Nat.zero_le _, y, rfl⟩
  case round =>
    obtain ⟨k, rfl, hk, u, rfl⟩ := hrel
    by_cases hlt : k < D.n
    · obtain ⟨b1, o1, rfl, _, _⟩ := (HI.out.bel u.b).pt (by omega)
      obtain ⟨b2, o2, rfl, _, _⟩ := (HI'.out.bel u.b).pt (by omega)
      have C0 : ∀ z : Ext w2, z.v.cell? ⟨b1, o1 + k * 3, none⟩ = some (.int .i64 (D.lo k)) := fun z => (HI.out.bel z.b).lo' hlt
      have C1 : ∀ z : Ext w2, z.v.cell? ⟨b1, o1 + k * 3 + 1, none⟩ = some (.int .i64 (D.hi k)) := fun z => (HI.out.bel z.b).hi' hlt
      have C2 : ∀ z : Ext w2, z.v.cell? ⟨b1, o1 + k * 3 + 2, none⟩ = some (.int .i64 (D.co k)) := fun z => (HI.out.bel z.b).co' hlt
      have E0 : ∀ z : Ext w2, z.v.cell? ⟨b2, o2 + k * 3, none⟩ = some (.int .i64 (D.lo k)) := fun z => (HI'.out.bel z.b).lo' hlt
      have E1 : ∀ z : Ext w2, z.v.cell? ⟨b2, o2 + k * 3 + 1, none⟩ = some (.int .i64 (D.hi k)) := fun z => (HI'.out.bel z.b).hi' hlt
      have E2 : ∀ z : Ext w2, z.v.cell? ⟨b2, o2 + k * 3 + 2, none⟩ = some (.int .i64 (D.co k)) := fun z => (HI'.out.bel z.b).co' hlt
      have j : decide ((k : Int) < (D.n : Int)) = true := by simp; omega
      have j2 : (k : Int) < (D.n : Int) := by omega
      go_wp2
      refine quiet_e (by kernel_rfl) (by kernel_rfl) ?_
      repeat (first | go_big_quiet_step (fail) | quiet_step (fail))
      refine wpQuiet_nil ?_
      intro w6 hw6
      obtain ⟨u2, rfl⟩ := hw6
      go_wp2
      go_roundw
      case rel => exact ⟨k + 1, by go_num, hlt, u2, rfl⟩
      case measure => first | (simp [intOf]; done) | (simp [intOf]; omega)
    · have j : decide ((k : Int) < (D.n : Int)) = false := by simp; omega
      go_wp2
      go_ret
      exact ⟨rfl, bT HB.out u.b⟩
end Go.Proofs.Ytkdlppekjjbgoaa
