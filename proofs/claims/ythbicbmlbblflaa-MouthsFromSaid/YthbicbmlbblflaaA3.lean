/- Boxes of mouths: who has the next gauge, of the program. -/
import Derived.Test.YthbicbmlbblflaaA2

set_option linter.unusedSimpArgs false

set_option linter.unusedVariables false

namespace Go.Proofs.Ythbicbmlbblflaa

open Go.RowKit

theorem quiet_e {P : Program} {id : Nat} {Q : Exit → Act → World → Prop} {a : Act} {w : World} {x : Ext w} {l : List Oper} (hm : P.follows .mixedOrders = true) (hB : Region.lexB .any l.toArray = true)
    (h : wpQuiet P l.toArray (fun w' => ∃ y : Ext w, w' = y.v) (fun a' => ∀ w', (∃ y : Ext w, w' = y.v) → Q .normal a' w') l a) : (Code.region id l.toArray true).wp P Q a x.v :=
  wp_region_quiet (C := fun w' => ∃ y : Ext w, w' = y.v) hm hB ⟨⟨x.v.drew, bd x.b⟩, rfl⟩ (by simpa using h)
theorem mul_bd {a b A B : Int} (h : 0 ≤ a ∧ a ≤ A) (h2 : 0 ≤ b ∧ b ≤ B) (hA : 0 ≤ A) : 0 ≤ a * b ∧ a * b ≤ A * B :=
  ⟨Int.mul_nonneg h.1 h2.1, Int.mul_le_mul h.2 h2.2 h2.1 hA⟩
theorem dv_cell {w : World} {b : Nat} {g : Nat → Int} (h0 : w.cell? ⟨b, 0, none⟩ = some (.int .i64 (g 0))) (h1 : w.cell? ⟨b, 1, none⟩ = some (.int .i64 (g 1))) (h2 : w.cell? ⟨b, 2, none⟩ = some (.int .i64 (g 2)))
    (h3 : w.cell? ⟨b, 3, none⟩ = some (.int .i64 (g 3))) (h4 : w.cell? ⟨b, 4, none⟩ = some (.int .i64 (g 4))) : ∀ i, i < 5 → w.cell? ⟨b, i, none⟩ = some (.int .i64 (g i))
  | 0, _ => h0
  | 1, _ => h1
  | 2, _ => h2
  | 3, _ => h3
  | 4, _ => h4
  | n + 5, h => absurd h (by omega)
theorem on_none {o : Option Nat} (h : o = none) : onI o = 0 ∧ o.isSome = false := by subst h; exact ⟨rfl, rfl⟩
theorem on_some {o : Option Nat} {b : Nat} (h : o = some b) : onI o = (b : Int) ∧ o.isSome = true := by subst h; exact ⟨rfl, rfl⟩
set_option maxRecDepth 100000 in
set_option maxHeartbeats 4000000 in
theorem next_any (D : Bx) (g : Nat → Int) (p q : Option Addr) (c d : Nat) (fl : Int) (w : World) (hok : D.ok = true) (hi : BxIn w w.heap.size D p q) (hg : ∀ i, i < 5 → 0 ≤ g i ∧ g i ≤ 20) :
    Calls Try.prog 90 #[.agg #[.slice p D.n c, .slice q D.m d, .int .i64 fl], .agg #[.int .i64 (g 0), .int .i64 (g 1), .int .i64 (g 2), .int .i64 (g 3), .int .i64 (g 4)]] w fun e w' => e = .returned (.tuple #[.int .i64 (onI (nx D g)), .bool (nx D g).isSome]) ∧ Below w.heap.size w w' := by
  obtain ⟨o1, o2, o3, o4⟩ := Bx.ok_parts hok
  obtain ⟨w1, x1, hw1, hb1, hz1, F0, F1, F2⟩ := box_fl w p q D.n D.m c d fl
  obtain ⟨w2, x2, hw2, hb2, hz2, G0, G1, G2, G3, G4, Gf⟩ := box_dv x1.v g
  have hb12 := bT x1.b hb2
  have HB := Lib.hid (bT hb1 hb12)
  have HI : Hid (∀ x : Ext w2, BxIn x.v x.v.heap.size D p q) := fun x => (hi.bel hb1).bel (bT hb12 x.b)
  replace F0 : ∀ y : Ext w2, y.v.cell? ⟨w.heap.size, 0, none⟩ = some (.slice p D.n c) := fun y => F0 (y.up hb12)
  replace F1 : ∀ y : Ext w2, y.v.cell? ⟨w.heap.size, 1, none⟩ = some (.slice q D.m d) := fun y => F1 (y.up hb12)
  have HGC : Hid (∀ (y : Ext w2) i, i < 5 → y.v.cell? ⟨x1.v.heap.size, i, none⟩ = some (.int .i64 (g i))) := fun y => dv_cell (G0 y) (G1 y) (G2 y) (G3 y) (G4 y)
  have HG := Lib.hid hg; have HO3 := Lib.hid o3; have HO4 := Lib.hid o4
  have HMN := Lib.hid o2
  clear hb1 hz1 hi hb2 hz2 hb12 hok F2 G0 G1 G2 G3 G4 Gf hg o2 o3 o4
  go_enter Try.func90, Try.ntmps90
  go_wp2
  clear hw1 hw2
  go_loopw [12, 4, 5] (fun i a b wr => ∃ k : Nat, i = .int .i64 k ∧ a = .int .i64 (onI (nxA D g k)) ∧ b = .bool (nxA D g k).isSome ∧ k ≤ D.n ∧ ∃ x : Ext w2, wr = x.v) (fun i _ _ _ => D.n - (intOf i).toNat)
  case atStart => exact ⟨0, rfl, rfl, rfl, Nat.zero_le _, x2, rfl⟩
  case round =>
    obtain ⟨k, rfl, rfl, rfl, hk, y, rfl⟩ := hrel
    clear x2
    by_cases hlt : k < D.n
    · obtain ⟨b1, of1, rfl, _, _⟩ := (HI.out y).s (by omega)
      obtain ⟨b2, of2, rfl, _, _⟩ := (HI.out y).o (by have := HMN.out; omega)
      have E0 : ∀ z : Ext w2, z.v.cell? ⟨b1, of1 + k, none⟩ = some (.int .i64 (D.sh k)) := fun z => ((HI.out z).s.cell hlt).2
      have E1 : ∀ z : Ext w2, z.v.cell? ⟨b2, of2 + k, none⟩ = some (.int .i64 (D.mo k)) := fun z => ((HI.out z).o.cell (by have := HMN.out; omega)).2
      have E2 : ∀ z : Ext w2, z.v.cell? ⟨x1.v.heap.size, k, none⟩ = some (.int .i64 (g k)) := fun z => HGC.out z k (by omega)
      have hkm : (k : Int) < (D.n : Int) := by omega
      have hkm2 : (k : Int) < (D.m : Int) := by have := HMN.out; omega
      have hk5 : (k : Int) < 5 := by omega
      have hk5n : k < 5 := by omega
      by_cases s0 : D.sh k = 0
      · have HN := Lib.hid (nxA_blk (D := D) (g := g) (k := k) (by simp [blk, s0]))
        rw [s0] at E0
        clear s0
        go_wp2
        refine quiet_e (by kernel_rfl) (by kernel_rfl) ?_
        repeat (first | go_big_quiet_step (fail) | quiet_step (fail))
        refine wpQuiet_nil ?_
        intro w6 hw6
        obtain ⟨y2, rfl⟩ := hw6
        go_wp2
        go_roundw
        case rel => exact ⟨k + 1, by go_num, by rw [HN.out], by rw [HN.out], hlt, y2, rfl⟩
        case measure => first | (simp [intOf]; done) | (simp [intOf]; omega)
      have j0 : (D.sh k == 0) = false := by simpa using s0
      by_cases s1 : g k = D.mo k
      · have HN := Lib.hid (nxA_blk (D := D) (g := g) (k := k) (by simp [blk, s1]))
        rw [s1] at E2
        clear s1 s0
        go_wp2
        refine quiet_e (by kernel_rfl) (by kernel_rfl) ?_
        repeat (first | go_big_quiet_step (fail) | quiet_step (fail))
        refine wpQuiet_nil ?_
        intro w6 hw6
        obtain ⟨y2, rfl⟩ := hw6
        go_wp2
        go_roundw
        case rel => exact ⟨k + 1, by go_num, by rw [HN.out], by rw [HN.out], hlt, y2, rfl⟩
        case measure => first | (simp [intOf]; done) | (simp [intOf]; omega)
      have j1 : (g k == D.mo k) = false := by simpa using s1
      have hbk : blk D g k = false := by simp [blk, s0, s1]
      cases hnx : nxA D g k with
      | none =>
        have HN := Lib.hid (nxA_first hbk hnx)
        have f1 : onI none = 0 := rfl
        have f2 : (none : Option Nat).isSome = false := rfl
        clear s0 s1 hbk hnx
        go_wp2
        refine quiet_e (by kernel_rfl) (by kernel_rfl) ?_
        repeat (first | go_big_quiet_step (fail) | quiet_step (fail))
        refine wpQuiet_nil ?_
        intro w6 hw6
        obtain ⟨y1, rfl⟩ := hw6
        go_wp2
        refine quiet_e (by kernel_rfl) (by kernel_rfl) ?_
        repeat (first | go_big_quiet_step (fail) | quiet_step (fail))
        refine wpQuiet_nil ?_
        intro w6 hw6
        obtain ⟨y2, rfl⟩ := hw6
        go_wp2
        go_roundw
        case rel => exact ⟨k + 1, by go_num, by rw [HN.out]; try rfl, by rw [HN.out]; try rfl, hlt, y2, rfl⟩
        case measure => first | (simp [intOf]; done) | (simp [intOf]; omega)
      | some b =>
        have hbl := nxA_lt hnx
        have HN := Lib.hid (nxA_btr hbk hnx)
        have f1 : onI (some b) = (b : Int) := rfl
        have f2 : (some b : Option Nat).isSome = true := rfl
        clear hnx
        have hb5 : b < 5 := by omega
        have E3 : ∀ z : Ext w2, z.v.cell? ⟨b1, of1 + b, none⟩ = some (.int .i64 (D.sh b)) := fun z => ((HI.out z).s.cell (by omega)).2
        have E4 : ∀ z : Ext w2, z.v.cell? ⟨x1.v.heap.size, b, none⟩ = some (.int .i64 (g b)) := fun z => HGC.out z b hb5
        have q1 := HG.out k hk5n
        have q2 := HG.out b hb5
        have q3 := HO3.out k hlt
        have q4 := HO3.out b (by omega)
        have m1 := mul_bd (a := D.sh k) (b := 2 * g b + 1) (A := 20) (B := 41) q3 ⟨by omega, by omega⟩ (by omega)
        have m2 := mul_bd (a := D.sh b) (b := 2 * g k + 1) (A := 20) (B := 41) q4 ⟨by omega, by omega⟩ (by omega)
        have e1 : IntKind.i64.wrap (2 * g b) = 2 * g b := IntWalk.i64_in _ (by omega)
        have e2 : IntKind.i64.wrap (2 * g k) = 2 * g k := IntWalk.i64_in _ (by omega)
        have e3 : IntKind.i64.wrap (2 * g b + 1) = 2 * g b + 1 := IntWalk.i64_in _ (by omega)
        have e4 : IntKind.i64.wrap (2 * g k + 1) = 2 * g k + 1 := IntWalk.i64_in _ (by omega)
        have e5 : IntKind.i64.wrap (D.sh k * (2 * g b + 1)) = D.sh k * (2 * g b + 1) := IntWalk.i64_in _ (by omega)
        have e6 : IntKind.i64.wrap (D.sh b * (2 * g k + 1)) = D.sh b * (2 * g k + 1) := IntWalk.i64_in _ (by omega)
        have hbn : (b : Int) < (D.n : Int) := by omega
        have hbi : (b : Int) < 5 := by omega
        clear q1 q2 q3 q4 m1 m2 s0 s1 hbk
        cases hbt : btr D g b k with
        | true =>
          have j5 : decide (D.sh b * (2 * g k + 1) < D.sh k * (2 * g b + 1)) = true := hbt
          have HN2 := Lib.hid (HN.out.trans (by rw [hbt]; rfl : (if btr D g b k then some k else some b) = some k))
          clear hbt
          go_wp2
          refine quiet_e (by kernel_rfl) (by kernel_rfl) ?_
          repeat (first | go_big_quiet_step (fail) | quiet_step (fail))
          refine wpQuiet_nil ?_
          intro w6 hw6
          obtain ⟨y1, rfl⟩ := hw6
          go_wp2
          refine quiet_e (by kernel_rfl) (by kernel_rfl) ?_
          repeat (first | go_big_quiet_step (fail) | quiet_step (fail))
          refine wpQuiet_nil ?_
          intro w6 hw6
          obtain ⟨y2, rfl⟩ := hw6
          go_wp2
          go_roundw
          case rel => exact ⟨k + 1, by go_num, by rw [HN2.out]; try rfl, by rw [HN2.out]; try rfl, hlt, y2, rfl⟩
          case measure => first | (simp [intOf]; done) | (simp [intOf]; omega)
        | false =>
          have j5 : decide (D.sh b * (2 * g k + 1) < D.sh k * (2 * g b + 1)) = false := hbt
          have HN2 := Lib.hid (HN.out.trans (by rw [hbt]; rfl : (if btr D g b k then some k else some b) = some b))
          clear hbt
          go_wp2
          refine quiet_e (by kernel_rfl) (by kernel_rfl) ?_
          repeat (first | go_big_quiet_step (fail) | quiet_step (fail))
          refine wpQuiet_nil ?_
          intro w6 hw6
          obtain ⟨y1, rfl⟩ := hw6
          go_wp2
          refine quiet_e (by kernel_rfl) (by kernel_rfl) ?_
          repeat (first | go_big_quiet_step (fail) | quiet_step (fail))
          refine wpQuiet_nil ?_
          intro w6 hw6
          obtain ⟨y2, rfl⟩ := hw6
          go_wp2
          go_roundw
          case rel => exact ⟨k + 1, by go_num, by rw [HN2.out]; try rfl, by rw [HN2.out]; try rfl, hlt, y2, rfl⟩
          case measure => first | (simp [intOf]; done) | (simp [intOf]; omega)
    · have HR := Lib.hid (show nxA D g k = nx D g by rw [show k = D.n by omega]; rfl)
      have j : decide ((k : Int) < (D.n : Int)) = false := by simp; omega
      go_wp2
      go_ret2
      exact ⟨by rw [HR.out]; rfl, bT HB.out y.b⟩
end Go.Proofs.Ythbicbmlbblflaa
