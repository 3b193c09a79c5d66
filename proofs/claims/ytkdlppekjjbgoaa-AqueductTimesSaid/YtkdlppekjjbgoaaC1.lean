/- Lines of an aqueduct: boxes in memory, as facts that last. -/
import Derived.Test.YtkdlppekjjbgoaaA7

import Derived.Test.YtkdlppekjjbgoaaA9

import Derived.Test.YtkdlppekjjbgoaaB1

set_option linter.unusedSimpArgs false

set_option linter.unusedVariables false

namespace Go.Proofs.Ytkdlppekjjbgoaa

open Go.RowKit

structure LineBox (w : World) (b : Nat) (p : Option Addr) (n c : Nat) (q : Option Addr) (m d : Nat) : Prop where
  lt : b < w.heap.size
  c0 : w.cell? ⟨b, 0, none⟩ = some (.slice p n c)
  c1 : w.cell? ⟨b, 1, none⟩ = some (.slice q m d)
theorem LineBox.bel {w w' : World} {b n c m d : Nat} {p q : Option Addr} (h : LineBox w b p n c q m d) (hb : Below w.heap.size w w') : LineBox w' b p n c q m d :=
  ⟨Nat.lt_of_lt_of_le h.lt hb.size, (hb.cell h.lt).trans h.c0, (hb.cell h.lt).trans h.c1⟩
structure TwoBox (w : World) (b : Nat) (u v : Int) : Prop where
  lt : b < w.heap.size
  c0 : w.cell? ⟨b, 0, none⟩ = some (.int .i64 u)
  c1 : w.cell? ⟨b, 1, none⟩ = some (.int .i64 v)
  fz : ∀ i, w.frozen? ⟨b, i, none⟩ = false
theorem TwoBox.bel {w w' : World} {b : Nat} {u v : Int} (h : TwoBox w b u v) (hb : Below w.heap.size w w') : TwoBox w' b u v :=
  ⟨Nat.lt_of_lt_of_le h.lt hb.size, (hb.cell h.lt).trans h.c0, (hb.cell h.lt).trans h.c1, fun i => (hb.frozen (p := ⟨b, i, none⟩) h.lt).trans (h.fz i)⟩
theorem rebase (w : World) : ∃ z : Ext w, w = z.v := ⟨⟨w, Below.refl _ _⟩, rfl⟩
theorem mk_line (w : World) (p q : Option Addr) (n m c d : Nat) :
    ∃ (w1 : World) (x : Ext w1), w.alloc (Obj.cells #[Value.slice p n c, Value.slice q m d] 25) = x.v ∧ Below w.heap.size w w1 ∧ LineBox w1 w.heap.size p n c q m d := by
  obtain ⟨w1, x, h, hb, hz, f0, f1⟩ := box_line w p q n m c d
  obtain ⟨z, hz1⟩ := rebase w1
  exact ⟨w1, x, h, hb, by omega, by rw [hz1]; exact f0 z, by rw [hz1]; exact f1 z⟩
theorem mk_two {w0 : World} (x0 : Ext w0) (t : TypeId) (u v : Int) :
    ∃ (w1 : World) (x : Ext w1), x0.v.alloc (Obj.cells #[Value.int .i64 u, Value.int .i64 v] t) = x.v ∧ Below w0.heap.size w0 w1 ∧ w0.heap.size ≤ x0.v.heap.size ∧ TwoBox w1 x0.v.heap.size u v := by
  obtain ⟨w1, x, h, hb, hz, f0, f1, f2⟩ := box_two x0.v t u v
  obtain ⟨z, hz1⟩ := rebase w1
  exact ⟨w1, x, h, bT x0.b hb, x0.b.size, by omega, by rw [hz1]; exact f0 z, by rw [hz1]; exact f1 z, fun i => by rw [hz1]; exact f2 z i⟩
theorem TwoBox.set {w : World} {b : Nat} {u v : Int} (h : TwoBox w b u v) (u' v' : Int) : TwoBox ((w.setCell ⟨b, 0, none⟩ (.int .i64 u')).setCell ⟨b, 1, none⟩ (.int .i64 v')) b u' v' := by
  have h0 := h.c0
  have h1 := h.c1
  have hf := h.fz
  exact ⟨by simpa using h.lt, by go_simp, by go_simp, fun i => by go_simp⟩
end Go.Proofs.Ytkdlppekjjbgoaa
