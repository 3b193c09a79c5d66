/- Lines of an aqueduct: clashes, of the program. -/
import Derived.Test.YtkdlppekjjbgoaaA2

set_option linter.unusedSimpArgs false

set_option linter.unusedVariables false

namespace Go.Proofs.Ytkdlppekjjbgoaa

open Go.RowKit

theorem quiet_e {P : Program} {id : Nat} {Q : Exit → Act → World → Prop} {a : Act} {w : World} {x : Ext w} {l : List Oper} (hm : P.follows .mixedOrders = true) (hB : Region.lexB .any l.toArray = true)
    (h : wpQuiet P l.toArray (fun w' => ∃ y : Ext w, w' = y.v) (fun a' => ∀ w', (∃ y : Ext w, w' = y.v) → Q .normal a' w') l a) : (Code.region id l.toArray true).wp P Q a x.v :=
  wp_region_quiet (C := fun w' => ∃ y : Ext w, w' = y.v) hm hB ⟨⟨x.v.drew, bd x.b⟩, rfl⟩ (by simpa using h)
theorem box_two (w : World) (t : TypeId) (a b : Int) :
    ∃ (w1 : World) (x : Ext w1), w.alloc (Obj.cells #[Value.int .i64 a, Value.int .i64 b] t) = x.v ∧ Below w.heap.size w w1 ∧ w1.heap.size = w.heap.size + 1 ∧
      (∀ x : Ext w1, x.v.cell? ⟨w.heap.size, 0, none⟩ = some (.int .i64 a)) ∧ (∀ x : Ext w1, x.v.cell? ⟨w.heap.size, 1, none⟩ = some (.int .i64 b)) ∧ (∀ (x : Ext w1) i, x.v.frozen? ⟨w.heap.size, i, none⟩ = false) := by
  have h0 : (w.alloc (Obj.cells #[Value.int .i64 a, Value.int .i64 b] t)).cell? ⟨w.heap.size, 0, none⟩ = some (.int .i64 a) := by go_simp
  have h1 : (w.alloc (Obj.cells #[Value.int .i64 a, Value.int .i64 b] t)).cell? ⟨w.heap.size, 1, none⟩ = some (.int .i64 b) := by go_simp
  have h2 : ∀ i, (w.alloc (Obj.cells #[Value.int .i64 a, Value.int .i64 b] t)).frozen? ⟨w.heap.size, i, none⟩ = false := fun i => by go_simp
  exact ⟨_, ⟨_, Below.refl _ _⟩, rfl, bA (Below.refl _ _) _, by simp, fun x => (x.b.cell (p := ⟨w.heap.size, 0, none⟩) (by simp)).trans h0, fun x => (x.b.cell (p := ⟨w.heap.size, 1, none⟩) (by simp)).trans h1, fun x i => (x.b.frozen (p := ⟨w.heap.size, i, none⟩) (by simp)).trans (h2 i)⟩
theorem clb_next {D : Duct} {k : Nat} (h : clb D k = none) (h2 : cla D k k = none) : clb D (k + 1) = none := by unfold clb; rw [h, h2]; rfl
theorem clb_found {D : Duct} {k a : Nat} (h : clb D k = none) (h2 : cla D k k = some a) : ∀ {n : Nat}, k < n → clb D n = some (a, k)
  | 0, hn => absurd hn (Nat.not_lt_zero _)
  | n + 1, hn => by
    rcases Nat.lt_succ_iff_lt_or_eq.1 hn with h3 | rfl
    · unfold clb; rw [clb_found h h2 h3]
    · unfold clb; rw [h, h2]; rfl
theorem cla_hit {D : Duct} {b a : Nat} (h : D.hi a < D.lo b) : cla D b (a + 1) = some a := by unfold cla; rw [if_pos h]
theorem cla_miss {D : Duct} {b a : Nat} (h : ¬ D.hi a < D.lo b) : cla D b (a + 1) = cla D b a := by
  show (if D.hi a < D.lo b then some a else cla D b a) = _
  rw [if_neg h]
def clA (D : Duct) : Int := match D.clash with | some x => (x.1 : Int) | none => 0
def clB (D : Duct) : Int := match D.clash with | some x => (x.2 : Int) | none => 0
theorem ret_2 {a b c : Value} (h : a = b) : Ending.returned (.tuple #[a, c]) = .returned (.tuple #[b, c]) := by rw [h]
set_option maxHeartbeats 1000000 in
theorem clashOf_any (D : Duct) (p q : Option Addr) (c d : Nat) (w : World) (hn : D.n ≤ 40) (hm : D.m ≤ 40) (hi : DuctIn w w.heap.size D p q) :
    Calls Try.prog 58 #[.agg #[.slice p D.n c, .slice q D.m d]] w fun e w' => e = .returned (.tuple #[.agg #[.int .i64 (clA D), .int .i64 (clB D)], .bool D.clash.isSome]) ∧ Below w.heap.size w w' := by
  obtain ⟨w1, x1, hw1, hb1, hz1, F0, F1⟩ := box_line w p q D.n D.m c d
  obtain ⟨w2, x2, hw2, hb2, hz2, G0, G1, Gz⟩ := box_two x1.v 29 0 0
  have hB2 : Below x1.v.heap.size x1.v w2 := hb2
  have HB := Lib.hid (bT (bT hb1 x1.b) hb2)
  have HI : Hid (∀ x : Ext w2, DuctIn x.v x.v.heap.size D p q) := fun x => (hi.bel (bT hb1 x1.b)).bel (bT hb2 x.b)
  have HZ : Hid (w.heap.size ≤ x1.v.heap.size) := by have := hb1.size; have := x1.b.size; show _ ≤ _; omega
  replace F0 : ∀ y : Ext w2, y.v.cell? ⟨w.heap.size, 0, none⟩ = some (.slice p D.n c) := fun y => F0 (y.up (bT x1.b hb2))
  replace F1 : ∀ y : Ext w2, y.v.cell? ⟨w.heap.size, 1, none⟩ = some (.slice q D.m d) := fun y => F1 (y.up (bT x1.b hb2))
  clear hb1 hz1 hi hb2 hz2 hB2
  go_enter Try.func58, Try.ntmps58
  go_wp2
  go_loopw [10] (fun i wr => ∃ k : Nat, i = .int .i64 k ∧ k ≤ D.n ∧ clb D k = none ∧ ∃ x : Ext w2, wr = x.v) (fun i _ => D.n - (intOf i).toNat)
  case atStart => exact ⟨0, rfl, Nat.zero_le _, rfl, x2, rfl⟩
  case round =>
    obtain ⟨k, rfl, hk, hp, y, rfl⟩ := hrel
    have HP := Lib.hid hp; clear hp hw1 hw2 x2
    by_cases hlt : k < D.n
    · obtain ⟨b, o, rfl, hbl, hc⟩ := (HI.out y).pt (by omega)
      have e0 := hc.c0 k hlt
      have e1 := hc.c1 k hlt
      have e2 := hc.c2 k hlt
      have j : decide ((k : Int) < (D.n : Int)) = true := by simp; omega
      obtain ⟨w3, z, hw3, hb3, hz3, K0, K1, K2⟩ := box_point y.v (D.lo k) (D.hi k) (D.co k)
      have HB3 := Lib.hid (bT HB.out (bT y.b hb3))
      have HU : Hid (∀ z : Ext w3, ∃ x : Ext w2, z.v = x.v) := fun z => ⟨z.up (bT y.b hb3), rfl⟩
      have L0 : ∀ z : Ext w3, z.v.cell? ⟨w.heap.size, 0, none⟩ = some (.slice (some ⟨b, o, none⟩) D.n c) := fun z => F0 (z.up (bT y.b hb3))
      have L2 : ∀ z : Ext w3, z.v.cell? ⟨x1.v.heap.size, 0, none⟩ = some (.int .i64 0) := fun z => G0 (z.up (bT y.b hb3))
      have L3 : ∀ z : Ext w3, z.v.cell? ⟨x1.v.heap.size, 1, none⟩ = some (.int .i64 0) := fun z => G1 (z.up (bT y.b hb3))
      have L4 : ∀ (z : Ext w3) i, z.v.frozen? ⟨x1.v.heap.size, i, none⟩ = false := fun z => Gz (z.up (bT y.b hb3))
      have HC : Hid (∀ (z : Ext w3) (j : Nat), j < D.n → z.v.cell? ⟨b, o + j * 3 + 1, none⟩ = some (.int .i64 (D.hi j))) := fun z j hj => by
        rw [show z.v.cell? ⟨b, o + j * 3 + 1, none⟩ = y.v.cell? ⟨b, o + j * 3 + 1, none⟩ from (bT hb3 z.b).cell (p := ⟨b, o + j * 3 + 1, none⟩) hbl]
        exact hc.c1 j hj
      clear hc hb3 hz3
      go_wp2
      clear e0 e1 e2 hw3
      go_loopw [6] (fun i wr => ∃ (j : Nat) (a : Int), i = .int .i64 a ∧ a = (j : Int) - 1 ∧ j ≤ k ∧ cla D k k = cla D k j ∧ ∃ x : Ext w3, wr = x.v) (fun i _ => (intOf i + 1).toNat)
      case atStart => exact ⟨k, _, rfl, by omega, Nat.le_refl _, rfl, z, rfl⟩
      case round =>
        obtain ⟨j, a, rfl, ha, hj, hcl, u, rfl⟩ := hrel
        have HL := Lib.hid hcl; clear hcl
        cases j with
        | zero =>
          obtain rfl : a = -1 := by omega
          clear ha
          go_wp2
          go_roundw
          case rel =>
            obtain ⟨v, hv⟩ := HU.out u
            exact ⟨k + 1, by go_num, hlt, clb_next HP.out HL.out, v, hv⟩
          case measure => first | (simp [intOf]; done) | (simp [intOf]; omega)
        | succ j =>
          obtain rfl : a = (j : Int) := by omega
          clear ha
          have hjn : j < D.n := by omega
          have hjc : (j : Int) < (D.n : Int) := by omega
          have C0 : ∀ z : Ext w3, z.v.cell? ⟨b, o + j * 3 + 1, none⟩ = some (.int .i64 (D.hi j)) := fun z => HC.out z j hjn
          go_wp2
          refine quiet_e (by kernel_rfl) (by kernel_rfl) ?_
          repeat (first | go_big_quiet_step (fail) | quiet_step (fail))
          refine wpQuiet_nil ?_
          intro w6 hw6
          obtain ⟨u2, rfl⟩ := hw6
          go_wp2
          · have hlt2 : D.hi j < D.lo k := by assumption
            have hcs : D.clash = some (j, k) := clb_found HP.out (HL.out.trans (cla_hit hlt2)) hlt
            refine bodyPost_ret (v := .tuple #[.agg #[.int .i64 j, .int .i64 k], .bool true]) (by simp [results, Try.f58, go_sem, L2, L3, L4]) rfl ⟨?_, ?_⟩
            · simp [clA, clB, hcs]
            · exact bS (bS (bT HB3.out u2.b) HZ.out _) HZ.out _
          · have hlt2 : ¬ D.hi j < D.lo k := by rename_i hx; intro h; omega
            have HL2 := Lib.hid (HL.out.trans (cla_miss hlt2))
            go_roundw
            case rel => exact ⟨j, (j : Int) - 1, by go_num, rfl, by omega, HL2.out, u2, rfl⟩
            case measure => first | (simp [intOf]; done) | (simp [intOf]; omega)
    · have HR := Lib.hid (show D.clash = none from by have := HP.out; rwa [show k = D.n by omega] at this)
      have j : decide ((k : Int) < (D.n : Int)) = false := by simp; omega
      clear HP
      go_wp2
      refine bodyPost_ret (v := .tuple #[.agg #[.int .i64 0, .int .i64 0], .bool false]) (by simp [results, Try.f58, go_sem, G0, G1, Gz]) rfl ⟨?_, ?_⟩
      · simp [clA, clB, HR.out]
      · exact bS (bS (bT HB.out y.b) HZ.out _) HZ.out _
end Go.Proofs.Ytkdlppekjjbgoaa
