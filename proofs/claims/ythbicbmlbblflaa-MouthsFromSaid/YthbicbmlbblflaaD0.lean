/- Boxes of mouths: what the laws ask first. -/
import Derived.Test.YthbicbmlbblflaaC3

import Derived.Test.YthbicbmlbblflaaB1

set_option linter.unusedSimpArgs false

set_option linter.unusedVariables false

namespace Go.Proofs.Ythbicbmlbblflaa

open Go.RowKit

theorem ready_is {D : Bx} {p q : Option Addr} {c d : Nat} {fl : Int} {b : Bool} (h : rdy D fl = b) {w : World} (hn : D.n ≤ maxLen) (hm : D.m ≤ maxLen) (hi : BxIn w w.heap.size D p q) :
    Calls Try.prog 46 #[.agg #[.slice p D.n c, .slice q D.m d], .int .i64 fl] w fun e w' => e = .returned (.bool b) ∧ Below w.heap.size w w' := by subst h; exact ready_any D p q c d fl w hn hm hi
theorem isQR_is {D : Bx} {p q : Option Addr} {c d : Nat} {k : Int} {b : Bool} (h : isQ D k = b) {w : World} (hn : D.n ≤ 40) :
    Calls Try.prog 50 #[.agg #[.slice p D.n c, .slice q D.m d], .int .i64 k] w fun e w' => e = .returned (.bool b) ∧ Below w.heap.size w w' := by subst h; exact isQuarterR_any D p q c d k w hn
theorem rdy_parts {D : Bx} {fl : Int} (h : rdy D fl = true) : D.n ≤ 40 ∧ D.m ≤ 40 ∧ D.ok = true ∧ ∃ F : Nat, fl = (F : Int) ∧ F ≤ 40 := by
  simp only [rdy, Bool.and_eq_true, Bool.not_eq_true', Bool.or_eq_false_iff, decide_eq_false_iff_not, within_iff] at h
  exact ⟨by omega, by omega, h.2.1, fl.toNat, by omega, by omega⟩
theorem isQ_nat {D : Bx} {k : Int} (h : isQ D k = true) : ∃ K : Nat, k = (K : Int) ∧ K < D.n := by
  rw [isQ_iff] at h
  exact ⟨k.toNat, by omega, by omega⟩
/-- a block of four numbers -/
structure AskAt (w : World) (b : Nat) (a1 a2 a3 a4 : Int) : Prop where
  c0 : w.cell? ⟨b, 0, none⟩ = some (.int .i64 a1)
  c1 : w.cell? ⟨b, 1, none⟩ = some (.int .i64 a2)
  c2 : w.cell? ⟨b, 2, none⟩ = some (.int .i64 a3)
  c3 : w.cell? ⟨b, 3, none⟩ = some (.int .i64 a4)
/-- a block of a box -/
structure BoxAt (w : World) (b : Nat) (D : Bx) (p q : Option Addr) (c d : Nat) : Prop where
  c0 : w.cell? ⟨b, 0, none⟩ = some (.slice p D.n c)
  c1 : w.cell? ⟨b, 1, none⟩ = some (.slice q D.m d)
/-- what a law of a box and an ask starts from: the world behind both boxes, with all that lasts -/
theorem start_ba (D : Bx) (p q : Option Addr) (c d : Nat) (a1 a2 a3 a4 : Int) (w : World) (hi : BxIn w w.heap.size D p q) :
    ∃ (w1 : World) (x1 : Ext w1) (w2 : World) (x2 : Ext w2), w.alloc (Obj.cells #[Value.slice p D.n c, Value.slice q D.m d] 24) = x1.v ∧ x1.v.alloc (Obj.cells #[Value.int .i64 a1, Value.int .i64 a2, Value.int .i64 a3, Value.int .i64 a4] 38) = x2.v ∧
      Below w.heap.size w w2 ∧ w.heap.size ≤ x1.v.heap.size ∧ (∀ y : Ext w2, BoxAt y.v w.heap.size D p q c d) ∧ (∀ y : Ext w2, AskAt y.v x1.v.heap.size a1 a2 a3 a4) ∧ (∀ y : Ext w2, BxIn y.v y.v.heap.size D p q) := by
  obtain ⟨w1, x1, hw1, hb1, hz1, F0, F1⟩ := box_bx w p q D.n D.m c d
  obtain ⟨w2, x2, hw2, hb2, hz2, G0, G1, G2, G3⟩ := box_ask x1.v a1 a2 a3 a4
  have hb12 := bT x1.b hb2
  exact ⟨w1, x1, w2, x2, hw1, hw2, bT hb1 hb12, Nat.le_trans hb1.size x1.b.size, fun y => ⟨F0 (y.up hb12), F1 (y.up hb12)⟩, fun y => ⟨G0 y, G1 y, G2 y, G3 y⟩, fun y => (hi.bel hb1).bel (bT hb12 y.b)⟩
end Go.Proofs.Ythbicbmlbblflaa
