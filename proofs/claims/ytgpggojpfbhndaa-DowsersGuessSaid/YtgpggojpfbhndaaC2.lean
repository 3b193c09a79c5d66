/- Books of dowsers: ready; a book dug at one more place. -/
import Derived.Test.YtgpggojpfbhndaaC1
import Derived.Test.YtgpggojpfbhndaaB1
set_option linter.unusedSimpArgs false
set_option linter.unusedVariables false
namespace Go.Proofs.Ytgpggojpfbhndaa
open Go.RowKit

theorem ready_any (B : Book) (p q : Option Addr) (c d : Nat) (w : World) (hF : B.F.length ≤ maxLen) (hS : B.S.length ≤ maxLen) (ht : BookIn w w.heap.size B p q) :
    Calls Try.prog 15 #[.agg #[.int .i64 B.D, .slice p B.F.length c, .int .i64 B.N, .slice q B.S.length d, .int .i64 B.P]] w fun e w' => e = .returned (.bool (!hugeB B && B.ok)) ∧ Below w.heap.size w w' := by
  obtain ⟨w1, hw1, hb1, hz1, k0, k1, k2, k3, k4, k5⟩ := box_book w B p q c d
  have hh := huge_any B p q c d w1 hF hS
  have HB1 := Lib.hid hb1
  cases hg : hugeB B with
  | true =>
    rw [hg] at hh
    have HH := Lib.hid hh
    clear hh hg hb1 hz1 hF hS ht
    go_enter Try.func15, Try.ntmps15
    go_wp2_with (go_at_call 47; refine HH.out.mono ?_; rintro e w2 ⟨rfl, hb2⟩; go_must (have HB2 := Lib.hid hb2; clear hb2))
    go_ret
    exact ⟨rfl, bT HB1.out HB2.out⟩
  | false =>
    have h1 : ¬ 40 < B.F.length ∧ ¬ 40 < B.S.length := by simpa [hugeB] using hg
    have hc := fun (V : World) (hV : Below w1.heap.size w1 V) => checkR_any B p q c d V (by omega) (by omega) ((ht.bel hb1).bel hV)
    rw [hg] at hh
    have HH := Lib.hid hh
    have HC := Lib.hid hc
    clear hh hg hb1 hz1 hF hS ht hc
    cases hok : B.ok with
    | true =>
      rw [hok, vErr_t] at HC
      go_enter Try.func15, Try.ntmps15
      go_wp2_with (first
        | (go_at_call 47; refine HH.out.mono ?_; rintro e w2 ⟨rfl, hb2⟩; go_must (have j0 := (hb2.cell k5).trans k0; have j1 := (hb2.cell k5).trans k1; have j2 := (hb2.cell k5).trans k2; have j3 := (hb2.cell k5).trans k3; have j4 := (hb2.cell k5).trans k4; have HB2 := Lib.hid hb2; clear hb2))
        | (go_at_call 49; refine (HC.out _ HB2.out).mono ?_; rintro e w3 ⟨rfl, hb3⟩; go_must (have HB3 := Lib.hid hb3; clear hb3)))
      go_ret
      exact ⟨rfl, bT HB1.out (bT HB2.out HB3.out)⟩
    | false =>
      rw [hok, vErr_f] at HC
      go_enter Try.func15, Try.ntmps15
      go_wp2_with (first
        | (go_at_call 47; refine HH.out.mono ?_; rintro e w2 ⟨rfl, hb2⟩; go_must (have j0 := (hb2.cell k5).trans k0; have j1 := (hb2.cell k5).trans k1; have j2 := (hb2.cell k5).trans k2; have j3 := (hb2.cell k5).trans k3; have j4 := (hb2.cell k5).trans k4; have HB2 := Lib.hid hb2; clear hb2))
        | (go_at_call 49; refine (HC.out _ HB2.out).mono ?_; rintro e w3 ⟨rfl, hb3⟩; go_must (have HB3 := Lib.hid hb3; clear hb3)))
      go_ret
      exact ⟨rfl, bT HB1.out (bT HB2.out HB3.out)⟩

/-- the book, dug at place k to depth x -/
def Book.dug (B : Book) (k : Nat) (x : Int) : Book := { B with F := B.F.set k x }
theorem two_books (w : World) (B : Book) (p q : Option Addr) (c d : Nat) : ∃ w3, ((w.alloc (Obj.cells #[Value.int IntKind.i64 B.D, Value.slice p B.F.length c, Value.int IntKind.i64 B.N, Value.slice q B.S.length d, Value.int IntKind.i64 B.P] 25)).alloc (Obj.cells #[Value.int IntKind.i64 0, Value.slice none 0 0, Value.int IntKind.i64 0, Value.slice none 0 0, Value.int IntKind.i64 0] 25)) = w3 ∧ Below w.heap.size w w3 ∧ w3.heap.size = w.heap.size + 2 ∧ w3.cell? ⟨w.heap.size, 0, none⟩ = some (.int .i64 B.D) ∧ w3.cell? ⟨w.heap.size, 1, none⟩ = some (.slice p B.F.length c) ∧ w3.cell? ⟨w.heap.size, 2, none⟩ = some (.int .i64 B.N) ∧ w3.cell? ⟨w.heap.size, 3, none⟩ = some (.slice q B.S.length d) ∧ w3.cell? ⟨w.heap.size, 4, none⟩ = some (.int .i64 B.P) ∧ w3.cell? ⟨w.heap.size + 1, 0, none⟩ = some (.int .i64 0) ∧ w3.cell? ⟨w.heap.size + 1, 1, none⟩ = some (.slice none 0 0) ∧ w3.cell? ⟨w.heap.size + 1, 2, none⟩ = some (.int .i64 0) ∧ w3.cell? ⟨w.heap.size + 1, 3, none⟩ = some (.slice none 0 0) ∧ w3.cell? ⟨w.heap.size + 1, 4, none⟩ = some (.int .i64 0) ∧ (∀ i, w3.frozen? ⟨w.heap.size + 1, i, none⟩ = false) :=
  ⟨_, rfl, bA (bA (Below.refl _ _) _) _, by simp, by go_simp, by go_simp, by go_simp, by go_simp, by go_simp, by go_simp, by go_simp, by go_simp, by go_simp, by go_simp, fun i => by go_simp⟩

theorem dug_in {w2 wd : World} {B : Book} {b1 b2 k : Nat} {x : Int} (h : BookIn w2 w2.heap.size B (some ⟨b1, 0, none⟩) (some ⟨b2, 0, none⟩)) (hk : k < B.F.length) (h0 : wd.cell? ⟨b1, k, none⟩ = some (.int .i64 x))
    (h1 : ∀ j, j ≠ k → wd.cell? ⟨b1, j, none⟩ = w2.cell? ⟨b1, j, none⟩) (h2 : ∀ j, wd.cell? ⟨b2, j, none⟩ = w2.cell? ⟨b2, j, none⟩) (hs : w2.heap.size ≤ wd.heap.size) : BookIn wd wd.heap.size (B.dug k x) (some ⟨b1, 0, none⟩) (some ⟨b2, 0, none⟩) := by
  refine ⟨fun _ => ?_, fun hS => ?_⟩
  · obtain ⟨b, o, e, hi⟩ := h.f (by omega)
    simp only [Option.some.injEq, Addr.mk.injEq] at e
    obtain ⟨rfl, rfl, _⟩ := e
    refine ⟨b1, 0, rfl, ⟨by have := hi.lt; omega, fun j hj => ?_⟩⟩
    have hj' : j < B.F.length := by simpa [Book.dug] using hj
    rw [Nat.zero_add]
    by_cases hjk : j = k
    · subst hjk; rw [h0]; simp [Book.dug]
    · have := hi.cell j hj'
      rw [Nat.zero_add] at this
      rw [h1 j hjk, this]
      simp [Book.dug, List.getElem_set, Ne.symm hjk]
  · obtain ⟨b, o, e, hl, hi⟩ := h.s hS
    simp only [Option.some.injEq, Addr.mk.injEq] at e
    obtain ⟨rfl, rfl, _⟩ := e
    exact ⟨b2, 0, rfl, by omega, ⟨fun j hj => (h2 _).trans (hi.c0 j hj), fun j hj => (h2 _).trans (hi.c1 j hj), fun j hj => (h2 _).trans (hi.c2 j hj), fun j hj => (h2 _).trans (hi.c3 j hj)⟩⟩

set_option maxRecDepth 100000 in
set_option maxHeartbeats 2000000 in
theorem dug_any (B : Book) (p q : Option Addr) (c d : Nat) (k : Nat) (x : Int) (w : World) (hF : B.F.length ≤ 1000) (hS : B.S.length ≤ 1000) (ht : BookIn w w.heap.size B p q) (hk : k < B.F.length) (hS0 : 0 < B.S.length) :
    Calls Try.prog 18 #[.agg #[.int .i64 B.D, .slice p B.F.length c, .int .i64 B.N, .slice q B.S.length d, .int .i64 B.P], .int .i64 k, .int .i64 x] w fun e w' => ∃ p' c' q' d', e = .returned (.agg #[.int .i64 (B.dug k x).D, .slice p' (B.dug k x).F.length c', .int .i64 (B.dug k x).N, .slice q' (B.dug k x).S.length d', .int .i64 (B.dug k x).P]) ∧ Below w.heap.size w w' ∧ BookIn w' w'.heap.size (B.dug k x) p' q' := by
  obtain ⟨w3, hw3, hB3, hsz, k0, k1, k2, k3, k4, r0, r1, r2, r3, r4, fr⟩ := two_books w B p q c d
  have hc := copy_own B p q c d w3 hF hS (ht.bel hB3) (by omega) hS0
  have HC := Lib.hid hc
  have HB3 := Lib.hid hB3
  have HZ := Lib.hid hsz
  have zl : w.heap.size + 1 < w3.heap.size := by omega
  clear ht hc hB3 hsz
  go_enter Try.func18, Try.ntmps18
  go_wp2_with (go_at_call 22; refine HC.out.mono ?_; rintro e w2 ⟨p', c', q', d', rfl, hb2, hk2, b1, b2, rfl, rfl, l1, l2, l3, fz⟩; go_must (have s0 := (hb2.cell (p := ⟨w.heap.size + 1, 0, none⟩) zl).trans r0; have s1 := (hb2.cell (p := ⟨w.heap.size + 1, 1, none⟩) zl).trans r1; have s2 := (hb2.cell (p := ⟨w.heap.size + 1, 2, none⟩) zl).trans r2; have s3 := (hb2.cell (p := ⟨w.heap.size + 1, 3, none⟩) zl).trans r3; have s4 := (hb2.cell (p := ⟨w.heap.size + 1, 4, none⟩) zl).trans r4; have fb : ∀ i, w2.frozen? ⟨w.heap.size + 1, i, none⟩ = false := (fun i => (hb2.frozen (p := ⟨w.heap.size + 1, i, none⟩) zl).trans (fr i)); have HB2 := Lib.hid hb2; have HK2 := Lib.hid hk2; have hcell : w2.cell? ⟨b1, k, none⟩ = some (.int .i64 B.F[k]) := (by obtain ⟨b, o, e, hi⟩ := hk2.f (by omega); simp only [Option.some.injEq, Addr.mk.injEq] at e; obtain ⟨rfl, rfl, _⟩ := e; have := hi.cell k hk; simpa using this); have n1 : w.heap.size + 1 ≠ b1 := (by omega); have n2 : w.heap.size + 1 < w2.heap.size := (by have := hb2.size; omega); have hlt : b1 < w2.heap.size := l3; clear hb2 hk2 k0 k1 k2 k3 k4 r0 r1 r2 r3 r4 fr hw3))
  have n3 : b2 < w2.heap.size := by
    obtain ⟨b, o, e, hl, _⟩ := HK2.out.s hS0
    simp only [Option.some.injEq, Addr.mk.injEq] at e
    omega
  have n4 : b1 ≠ b2 := by omega
  have n5 : w.heap.size + 1 ≠ b2 := by have := HZ.out; omega
  have HZ3 := HZ.out
  refine bodyPost_ret (v := .agg #[.int .i64 B.D, .slice (some ⟨b1, 0, none⟩) B.F.length c', .int .i64 B.N, .slice (some ⟨b2, 0, none⟩) B.S.length d', .int .i64 B.P]) ?_ rfl ?_
  case refine_2 =>
    refine ⟨_, c', _, d', by simp [Book.dug], ?_, dug_in HK2.out hk ?_ ?_ ?_ ?_⟩
    case refine_1 =>
      refine bA ?_ _
      iterate 6 (refine bS ?_ (by simp; try omega) _)
      exact bT HB3.out HB2.out
    case refine_2 =>
      refine ((bA (Below.refl _ _) _).cell (by simp; try omega)).trans ?_
      iterate 5 (rw [World.cell?_setCell_other _ _ _ _ (by simp; try omega)])
      exact World.cell?_setCell_same _ _ _ hcell
    case refine_3 =>
      intro j hj
      refine ((bA (Below.refl _ _) _).cell (by simp; try omega)).trans ?_
      simp [n1, n2, n3, n4, n5, hlt, Ne.symm n1, hj, Ne.symm hj, World.cell?_setCell_other]
    case refine_4 =>
      intro j
      refine ((bA (Below.refl _ _) _).cell (by simp; try omega)).trans ?_
      simp [n1, n2, n3, n4, n5, hlt, Ne.symm n1, Ne.symm n5, Ne.symm n4, World.cell?_setCell_other]
    case refine_5 => simp
  simp [results, Try.results18, go_sem, n1, n2, Ne.symm n1, s0, s1, s2, s3, s4]
end Go.Proofs.Ytgpggojpfbhndaa
