/- Books of dowsers: ready; a book dug at one more place. -/
import Derived.Test.YtaaocomgmacjnaaC1

import Derived.Test.YtaaocomgmacjnaaB1

set_option linter.unusedSimpArgs false

set_option linter.unusedVariables false

namespace Go.Proofs.Ytaaocomgmacjnaa

open Go.RowKit

theorem ready_any (B : Book) (p q : Option Addr) (c d : Nat) (w : World) (hF : B.F.length ≤ maxLen) (hS : B.S.length ≤ maxLen) (ht : BookIn w w.heap.size B p q) :
    Calls Try.prog 9 #[.agg #[.int .i64 B.D, .slice p B.F.length c, .int .i64 B.N, .slice q B.S.length d, .int .i64 B.P]] w fun e w' => e = .returned (.bool (!hugeB B && B.ok)) ∧ Below w.heap.size w w' := by
  obtain ⟨w1, hw1, hb1, hz1, k0, k1, k2, k3, k4, k5⟩ := box_book w B p q c d
  have hh := huge_any B p q c d w1 hF hS
  have HB1 := Lib.hid hb1
  cases hg : hugeB B with
  | true =>
    rw [hg] at hh
    have HH := Lib.hid hh
    clear hh hg hb1 hz1 hF hS ht
    go_enter Try.func9, Try.ntmps9
    go_wp2_with (go_at_call 16; refine HH.out.mono ?_; rintro e w2 ⟨rfl, hb2⟩; go_must (have HB2 := Lib.hid hb2; clear hb2))
    go_ret
    exact ⟨rfl, bT HB1.out HB2.out⟩
  | false =>
    have h1 : ¬ 40 < B.F.length ∧ ¬ 40 < B.S.length := by simpa [hugeB] using hg
    have hc := fun (V : World) (hV : Below w1.heap.size w1 V) => checkR_any B p q c d V (by omega) (by omega) ((ht.bel hb1).bel hV)
    rw [hg] at hh
    have HH := Lib.hid hh
    have HC := Lib.hid hc
    clear hh hg hb1 hz1 hF hS ht hc
    cases hok : B.ok with
    | true =>
      rw [hok, vErr_t] at HC
      go_enter Try.func9, Try.ntmps9
      go_wp2_with (first
        | (go_at_call 16; refine HH.out.mono ?_; rintro e w2 ⟨rfl, hb2⟩; go_must (have j0 := (hb2.cell k5).trans k0; have j1 := (hb2.cell k5).trans k1; have j2 := (hb2.cell k5).trans k2; have j3 := (hb2.cell k5).trans k3; have j4 := (hb2.cell k5).trans k4; have HB2 := Lib.hid hb2; clear hb2))
        | (go_at_call 39; refine (HC.out _ HB2.out).mono ?_; rintro e w3 ⟨rfl, hb3⟩; go_must (have HB3 := Lib.hid hb3; clear hb3)))
      go_ret
      exact ⟨rfl, bT HB1.out (bT HB2.out HB3.out)⟩
    | false =>
      rw [hok, vErr_f] at HC
      go_enter Try.func9, Try.ntmps9
      go_wp2_with (first
        | (go_at_call 16; refine HH.out.mono ?_; rintro e w2 ⟨rfl, hb2⟩; go_must (have j0 := (hb2.cell k5).trans k0; have j1 := (hb2.cell k5).trans k1; have j2 := (hb2.cell k5).trans k2; have j3 := (hb2.cell k5).trans k3; have j4 := (hb2.cell k5).trans k4; have HB2 := Lib.hid hb2; clear hb2))
        | (go_at_call 39; refine (HC.out _ HB2.out).mono ?_; rintro e w3 ⟨rfl, hb3⟩; go_must (have HB3 := Lib.hid hb3; clear hb3)))
      go_ret
      exact ⟨rfl, bT HB1.out (bT HB2.out HB3.out)⟩

/-- the book, dug at place k to depth x -/
def Book.dug (B : Book) (k : Nat) (x : Int) : Book := { B with F := B.F.set k x }
theorem two_books (w : World) (B : Book) (p q : Option Addr) (c d : Nat) : ∃ w3, ((w.alloc (Obj.cells #[Value.int IntKind.i64 B.D, Value.slice p B.F.length c, Value.int IntKind.i64 B.N, Value.slice q B.S.length d, Value.int IntKind.i64 B.P] 25)).alloc (Obj.cells #[Value.int IntKind.i64 0, Value.slice none 0 0, Value.int IntKind.i64 0, Value.slice none 0 0, Value.int IntKind.i64 0] 25)) = w3 ∧ Below w.heap.size w w3 ∧ w3.heap.size = w.heap.size + 2 ∧ w3.cell? ⟨w.heap.size, 0, none⟩ = some (.int .i64 B.D) ∧ w3.cell? ⟨w.heap.size, 1, none⟩ = some (.slice p B.F.length c) ∧ w3.cell? ⟨w.heap.size, 2, none⟩ = some (.int .i64 B.N) ∧ w3.cell? ⟨w.heap.size, 3, none⟩ = some (.slice q B.S.length d) ∧ w3.cell? ⟨w.heap.size, 4, none⟩ = some (.int .i64 B.P) ∧ w3.cell? ⟨w.heap.size + 1, 0, none⟩ = some (.int .i64 0) ∧ w3.cell? ⟨w.heap.size + 1, 1, none⟩ = some (.slice none 0 0) ∧ w3.cell? ⟨w.heap.size + 1, 2, none⟩ = some (.int .i64 0) ∧ w3.cell? ⟨w.heap.size + 1, 3, none⟩ = some (.slice none 0 0) ∧ w3.cell? ⟨w.heap.size + 1, 4, none⟩ = some (.int .i64 0) ∧ (∀ i, w3.frozen? ⟨w.heap.size + 1, i, none⟩ = false) :=
  ⟨_, rfl, bA (bA (Below.refl _ _) _) _, by simp, by go_simp, by go_simp, by go_simp, by go_simp, by go_simp, by go_simp, by go_simp, by go_simp, by go_simp, by go_simp, fun i => by go_simp⟩

theorem dug_in {w2 wd : World} {B : Book} {b1 b2 k : Nat} {x : Int} (h : BookIn w2 w2.heap.size B (some ⟨b1, 0, none⟩) (some ⟨b2, 0, none⟩)) (hk : k < B.F.length) (h0 : wd.cell? ⟨b1, k, none⟩ = some (.int .i64 x))
    (h1 : ∀ j, j ≠ k → wd.cell? ⟨b1, j, none⟩ = w2.cell? ⟨b1, j, none⟩) (h2 : ∀ j, wd.cell? ⟨b2, j, none⟩ = w2.cell? ⟨b2, j, none⟩) (hs : w2.heap.size ≤ wd.heap.size) : BookIn wd wd.heap.size (B.dug k x) (some ⟨b1, 0, none⟩) (some ⟨b2, 0, none⟩) := by
  refine ⟨fun _ => ?_, fun hS => ?_⟩
  · obtain ⟨b, o, e, hi⟩ := h.f (by omega)
    simp only [Option.some.injEq, Addr.mk.injEq] at e
    obtain ⟨rfl, rfl, _⟩ := e
    refine ⟨b1, 0, rfl, ⟨by have := hi.lt; omega, fun j hj => ?_⟩⟩
    have hj' : j < B.F.length := by simpa [Book.dug] using hj
    rw [Nat.zero_add]
    by_cases hjk : j = k
    · subst hjk; rw [h0]; simp [Book.dug]
    · have := hi.cell j hj'
      rw [Nat.zero_add] at this
      rw [h1 j hjk, this]
      simp [Book.dug, List.getElem_set, Ne.symm hjk]
  · obtain ⟨b, o, e, hl, hi⟩ := h.s hS
    simp only [Option.some.injEq, Addr.mk.injEq] at e
    obtain ⟨rfl, rfl, _⟩ := e
    exact ⟨b2, 0, rfl, by omega, ⟨fun j hj => (h2 _).trans (hi.c0 j hj), fun j hj => (h2 _).trans (hi.c1 j hj), fun j hj => (h2 _).trans (hi.c2 j hj), fun j hj => (h2 _).trans (hi.c3 j hj)⟩⟩

end Go.Proofs.Ytaaocomgmacjnaa
