/- Books of dowsers: works says true (the evaluator); two books in their variables. -/
import Derived.Test.YtaaocomgmacjnaaA9

import Derived.Test.YtaaocomgmacjnaaE15

set_option linter.unusedSimpArgs false

set_option linter.unusedVariables false

namespace Go.Proofs.Ytaaocomgmacjnaa

open Go.RowKit

set_option maxRecDepth 100000 in
theorem works_ex (w : World) : Calls Try.prog 11 #[] w fun e w' => e = .returned (.bool true) ∧ Below w.heap.size w w' :=
  says_true (N := 100000) (d := 60) (by kernel_rfl) (by kernel_rfl) w

/-- a book and its copy lie in their variables -/
structure TwoB (b b' : Nat) (B : Book) (p q p' q' : Option Addr) (c d c' d' : Nat) (V : World) : Prop where
  t0 : V.cell? ⟨b, 0, none⟩ = some (.int .i64 B.D)
  t1 : V.cell? ⟨b, 1, none⟩ = some (.slice p B.F.length c)
  t2 : V.cell? ⟨b, 2, none⟩ = some (.int .i64 B.N)
  t3 : V.cell? ⟨b, 3, none⟩ = some (.slice q B.S.length d)
  t4 : V.cell? ⟨b, 4, none⟩ = some (.int .i64 B.P)
  q0 : V.cell? ⟨b', 0, none⟩ = some (.int .i64 B.D)
  q1 : V.cell? ⟨b', 1, none⟩ = some (.slice p' B.F.length c')
  q2 : V.cell? ⟨b', 2, none⟩ = some (.int .i64 B.N)
  q3 : V.cell? ⟨b', 3, none⟩ = some (.slice q' B.S.length d')
  q4 : V.cell? ⟨b', 4, none⟩ = some (.int .i64 B.P)
  lt : b < V.heap.size
  lt' : b' < V.heap.size
theorem TwoB.below {b b' : Nat} {B : Book} {p q p' q' : Option Addr} {c d c' d' : Nat} {V V' : World} (h : TwoB b b' B p q p' q' c d c' d' V) (hb : Below V.heap.size V V') : TwoB b b' B p q p' q' c d c' d' V' :=
  have l1 := h.lt
  have l2 := h.lt'
  ⟨(hb.cell l1).trans h.t0, (hb.cell l1).trans h.t1, (hb.cell l1).trans h.t2, (hb.cell l1).trans h.t3, (hb.cell l1).trans h.t4,
   (hb.cell l2).trans h.q0, (hb.cell l2).trans h.q1, (hb.cell l2).trans h.q2, (hb.cell l2).trans h.q3, (hb.cell l2).trans h.q4,
    Nat.lt_of_lt_of_le h.lt hb.size, Nat.lt_of_lt_of_le h.lt' hb.size⟩
end Go.Proofs.Ytaaocomgmacjnaa
