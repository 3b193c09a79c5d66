/- DowsersLess returns true in every walk, whatever the book, the number and by how much. -/
import Derived.Test.YtaaocomgmacjnaaC3

import Derived.Test.YtaaocomgmacjnaaM2

import Derived.Test.YtaaocomgmacjnaaX1

set_option linter.unusedSimpArgs false

set_option linter.unusedVariables false

namespace Go.Proofs.Ytaaocomgmacjnaa

open Go.RowKit

theorem two_boxes (w : World) (B : Book) (p q : Option Addr) (c d : Nat) (u v : Int) : ∃ w1, ((w.alloc (Obj.cells #[Value.int IntKind.i64 B.D, Value.slice p B.F.length c, Value.int IntKind.i64 B.N, Value.slice q B.S.length d, Value.int IntKind.i64 B.P] 25)).alloc (Obj.cells #[Value.int IntKind.i64 u, Value.int IntKind.i64 v] 27)) = w1 ∧ Below w.heap.size w w1 ∧ w1.heap.size = w.heap.size + 2 ∧ BoxB w1 w.heap.size B p q c d ∧ w1.cell? ⟨w.heap.size + 1, 0, none⟩ = some (.int .i64 u) ∧ w1.cell? ⟨w.heap.size + 1, 1, none⟩ = some (.int .i64 v) :=
  ⟨_, rfl, bA (bA (Below.refl _ _) _) _, by simp, ⟨by go_simp, by go_simp, by go_simp, by go_simp, by go_simp, by simp; omega⟩, by go_simp, by go_simp⟩
set_option maxRecDepth 100000 in
set_option maxHeartbeats 4000000 in
theorem less_not (B : Book) (p q : Option Addr) (c d : Nat) (n u v : Int) (w : World) (hF : B.F.length ≤ maxLen) (hS : B.S.length ≤ maxLen) (ht : BookIn w w.heap.size B p q) (hr : (!hugeB B && B.ok) = false) :
    Calls Try.prog 3 #[.agg #[.int .i64 B.D, .slice p B.F.length c, .int .i64 B.N, .slice q B.S.length d, .int .i64 B.P], .int .i64 n, .agg #[.int .i64 u, .int .i64 v]] w fun e w' => e = .returned (.bool true) ∧ Below w.heap.size w w' := by
  obtain ⟨w1, hw1, hb1, hz1, hx1, y0, y1⟩ := two_boxes w B p q c d u v
  have hh := ready_any B p q c d w1 hF hS (ht.bel hb1)
  rw [hr] at hh
  have HX1 := Lib.hid hx1; have Y1 := Lib.hid (And.intro y0 y1); have HL1 := Lib.hid (show w.heap.size + 1 < w1.heap.size by omega); have HB1 := Lib.hid hb1; have HR := Lib.hid hh
  have j0 := hx1.c0; have j1 := hx1.c1; have j2 := hx1.c2; have j3 := hx1.c3; have j4 := hx1.c4
  clear hb1 hz1 hh hr hF hS ht hx1
  go_enter Try.func3, Try.ntmps3
  go_wp2_with (first
    | (go_at_call 9; refine HR.out.mono ?_; rintro e w2 ⟨rfl, hb2⟩; go_must (have hx2 := HX1.out.below hb2; clear j0 j1 j2 j3 j4 y0 y1; have j0 := hx2.c0; have j1 := hx2.c1; have j2 := hx2.c2; have j3 := hx2.c3; have j4 := hx2.c4; have y0 := (hb2.cell HL1.out).trans Y1.out.1; have y1 := (hb2.cell HL1.out).trans Y1.out.2; have HX2 := Lib.hid hx2; have Y2 := Lib.hid (And.intro y0 y1); have HL2 := Lib.hid (Nat.lt_of_lt_of_le HL1.out hb2.size); have HB2 := Lib.hid (bT HB1.out hb2); clear hx2 hb2))
    | (go_at_call 11; refine (works_ex _).mono ?_; rintro e w9 ⟨rfl, hb9⟩; go_must (have HBW := Lib.hid (bT HB2.out hb9); clear hb9)))
  go_ret
  exact ⟨rfl, HBW.out⟩

set_option maxRecDepth 100000 in
set_option maxHeartbeats 4000000 in
theorem less_no (B : Book) (p q : Option Addr) (c d : Nat) (n u v : Int) (w : World) (hF : B.F.length ≤ 40) (hS : B.S.length ≤ 40) (ht : BookIn w w.heap.size B p q) (hr : (!hugeB B && B.ok) = true) (hn : within n 0 ((B.S.length : Int) - 1) = false) :
    Calls Try.prog 3 #[.agg #[.int .i64 B.D, .slice p B.F.length c, .int .i64 B.N, .slice q B.S.length d, .int .i64 B.P], .int .i64 n, .agg #[.int .i64 u, .int .i64 v]] w fun e w' => e = .returned (.bool true) ∧ Below w.heap.size w w' := by
  obtain ⟨w1, hw1, hb1, hz1, hx1, y0, y1⟩ := two_boxes w B p q c d u v
  have hh := ready_any B p q c d w1 (by unfold maxLen; omega) (by unfold maxLen; omega) (ht.bel hb1)
  rw [hr] at hh
  have HX1 := Lib.hid hx1; have Y1 := Lib.hid (And.intro y0 y1); have HL1 := Lib.hid (show w.heap.size + 1 < w1.heap.size by omega); have HB1 := Lib.hid hb1; have HR := Lib.hid hh
  have j0 := hx1.c0; have j1 := hx1.c1; have j2 := hx1.c2; have j3 := hx1.c3; have j4 := hx1.c4
  have HS := Lib.hid (show B.S.length ≤ 1000000 by omega)
  clear hb1 hz1 hh hr hF hS ht hx1
  go_enter Try.func3, Try.ntmps3
  go_wp2_with (first
    | (go_at_call 9; refine HR.out.mono ?_; rintro e w2 ⟨rfl, hb2⟩; go_must (have hx2 := HX1.out.below hb2; clear j0 j1 j2 j3 j4 y0 y1; have j0 := hx2.c0; have j1 := hx2.c1; have j2 := hx2.c2; have j3 := hx2.c3; have j4 := hx2.c4; have y0 := (hb2.cell HL1.out).trans Y1.out.1; have y1 := (hb2.cell HL1.out).trans Y1.out.2; have HX2 := Lib.hid hx2; have Y2 := Lib.hid (And.intro y0 y1); have HL2 := Lib.hid (Nat.lt_of_lt_of_le HL1.out hb2.size); have HB2 := Lib.hid (bT HB1.out hb2); clear hx2 hb2))
    | (go_at_call 10; refine (isSayingR_any _ _ _ _ _ _ _ _ _ HS.out).mono ?_; rintro e w3 ⟨rfl, hb3⟩; go_must (have hx3 := HX2.out.below hb3; clear j0 j1 j2 j3 j4 y0 y1; have j0 := hx3.c0; have j1 := hx3.c1; have j2 := hx3.c2; have j3 := hx3.c3; have j4 := hx3.c4; have y0 := (hb3.cell HL2.out).trans Y2.out.1; have y1 := (hb3.cell HL2.out).trans Y2.out.2; have HX3 := Lib.hid hx3; have Y3 := Lib.hid (And.intro y0 y1); have HL3 := Lib.hid (Nat.lt_of_lt_of_le HL2.out hb3.size); have HB3 := Lib.hid (bT HB2.out hb3); clear hx3 hb3))
    | (go_at_call 11; refine (works_ex _).mono ?_; rintro e w9 ⟨rfl, hb9⟩; go_must (have HBW := Lib.hid (bT HB3.out hb9); clear hb9)))
  go_ret
  exact ⟨rfl, HBW.out⟩

set_option maxRecDepth 100000 in
set_option maxHeartbeats 4000000 in
theorem less_lo (B : Book) (p q : Option Addr) (c d : Nat) (n u v : Int) (w : World) (hF : B.F.length ≤ 40) (hS : B.S.length ≤ 40) (ht : BookIn w w.heap.size B p q) (hr : (!hugeB B && B.ok) = true) (hn : within n 0 ((B.S.length : Int) - 1) = true) (hm : u < 0 ∨ v < 0) :
    Calls Try.prog 3 #[.agg #[.int .i64 B.D, .slice p B.F.length c, .int .i64 B.N, .slice q B.S.length d, .int .i64 B.P], .int .i64 n, .agg #[.int .i64 u, .int .i64 v]] w fun e w' => e = .returned (.bool true) ∧ Below w.heap.size w w' := by
  obtain ⟨w1, hw1, hb1, hz1, hx1, y0, y1⟩ := two_boxes w B p q c d u v
  have hh := ready_any B p q c d w1 (by unfold maxLen; omega) (by unfold maxLen; omega) (ht.bel hb1)
  rw [hr] at hh
  have HX1 := Lib.hid hx1; have Y1 := Lib.hid (And.intro y0 y1); have HL1 := Lib.hid (show w.heap.size + 1 < w1.heap.size by omega); have HB1 := Lib.hid hb1; have HR := Lib.hid hh
  have j0 := hx1.c0; have j1 := hx1.c1; have j2 := hx1.c2; have j3 := hx1.c3; have j4 := hx1.c4
  have HS := Lib.hid (show B.S.length ≤ 1000000 by omega)
  clear hb1 hz1 hh hr hF hS ht hx1
  obtain ⟨mn, hmn, hm1⟩ : ∃ mn, (if v < u then v else u) = mn ∧ decide (mn < 0) = true := ⟨_, rfl, by simp; split <;> omega⟩
  go_enter Try.func3, Try.ntmps3
  go_wp2_with (first
    | (go_at_call 9; refine HR.out.mono ?_; rintro e w2 ⟨rfl, hb2⟩; go_must (have hx2 := HX1.out.below hb2; clear j0 j1 j2 j3 j4 y0 y1; have j0 := hx2.c0; have j1 := hx2.c1; have j2 := hx2.c2; have j3 := hx2.c3; have j4 := hx2.c4; have y0 := (hb2.cell HL1.out).trans Y1.out.1; have y1 := (hb2.cell HL1.out).trans Y1.out.2; have HX2 := Lib.hid hx2; have Y2 := Lib.hid (And.intro y0 y1); have HL2 := Lib.hid (Nat.lt_of_lt_of_le HL1.out hb2.size); have HB2 := Lib.hid (bT HB1.out hb2); clear hx2 hb2))
    | (go_at_call 10; refine (isSayingR_any _ _ _ _ _ _ _ _ _ HS.out).mono ?_; rintro e w3 ⟨rfl, hb3⟩; go_must (have hx3 := HX2.out.below hb3; clear j0 j1 j2 j3 j4 y0 y1; have j0 := hx3.c0; have j1 := hx3.c1; have j2 := hx3.c2; have j3 := hx3.c3; have j4 := hx3.c4; have y0 := (hb3.cell HL2.out).trans Y2.out.1; have y1 := (hb3.cell HL2.out).trans Y2.out.2; have HX3 := Lib.hid hx3; have Y3 := Lib.hid (And.intro y0 y1); have HL3 := Lib.hid (Nat.lt_of_lt_of_le HL2.out hb3.size); have HB3 := Lib.hid (bT HB2.out hb3); clear hx3 hb3))
    | (go_at_call 11; refine (works_ex _).mono ?_; rintro e w9 ⟨rfl, hb9⟩; go_must (have HBW := Lib.hid (bT HB3.out hb9); clear hb9)))
  go_ret
  exact ⟨rfl, HBW.out⟩

set_option maxRecDepth 100000 in
set_option maxHeartbeats 4000000 in
theorem less_hi (B : Book) (p q : Option Addr) (c d : Nat) (n u v : Int) (w : World) (hF : B.F.length ≤ 40) (hS : B.S.length ≤ 40) (ht : BookIn w w.heap.size B p q) (hr : (!hugeB B && B.ok) = true) (hn : within n 0 ((B.S.length : Int) - 1) = true) (hm : 0 ≤ u ∧ 0 ≤ v) (hM : 12 < u ∨ 12 < v) :
    Calls Try.prog 3 #[.agg #[.int .i64 B.D, .slice p B.F.length c, .int .i64 B.N, .slice q B.S.length d, .int .i64 B.P], .int .i64 n, .agg #[.int .i64 u, .int .i64 v]] w fun e w' => e = .returned (.bool true) ∧ Below w.heap.size w w' := by
  obtain ⟨w1, hw1, hb1, hz1, hx1, y0, y1⟩ := two_boxes w B p q c d u v
  have hh := ready_any B p q c d w1 (by unfold maxLen; omega) (by unfold maxLen; omega) (ht.bel hb1)
  rw [hr] at hh
  have HX1 := Lib.hid hx1; have Y1 := Lib.hid (And.intro y0 y1); have HL1 := Lib.hid (show w.heap.size + 1 < w1.heap.size by omega); have HB1 := Lib.hid hb1; have HR := Lib.hid hh
  have j0 := hx1.c0; have j1 := hx1.c1; have j2 := hx1.c2; have j3 := hx1.c3; have j4 := hx1.c4
  have HS := Lib.hid (show B.S.length ≤ 1000000 by omega)
  clear hb1 hz1 hh hr hF hS ht hx1
  obtain ⟨mn, hmn, hm1⟩ : ∃ mn, (if v < u then v else u) = mn ∧ decide (mn < 0) = false := ⟨_, rfl, by simp; split <;> omega⟩
  obtain ⟨mx, hmx, hm2⟩ : ∃ mx, (if u < v then v else u) = mx ∧ decide (12 < mx) = true := ⟨_, rfl, by simp; split <;> omega⟩
  go_enter Try.func3, Try.ntmps3
  go_wp2_with (first
    | (go_at_call 9; refine HR.out.mono ?_; rintro e w2 ⟨rfl, hb2⟩; go_must (have hx2 := HX1.out.below hb2; clear j0 j1 j2 j3 j4 y0 y1; have j0 := hx2.c0; have j1 := hx2.c1; have j2 := hx2.c2; have j3 := hx2.c3; have j4 := hx2.c4; have y0 := (hb2.cell HL1.out).trans Y1.out.1; have y1 := (hb2.cell HL1.out).trans Y1.out.2; have HX2 := Lib.hid hx2; have Y2 := Lib.hid (And.intro y0 y1); have HL2 := Lib.hid (Nat.lt_of_lt_of_le HL1.out hb2.size); have HB2 := Lib.hid (bT HB1.out hb2); clear hx2 hb2))
    | (go_at_call 10; refine (isSayingR_any _ _ _ _ _ _ _ _ _ HS.out).mono ?_; rintro e w3 ⟨rfl, hb3⟩; go_must (have hx3 := HX2.out.below hb3; clear j0 j1 j2 j3 j4 y0 y1; have j0 := hx3.c0; have j1 := hx3.c1; have j2 := hx3.c2; have j3 := hx3.c3; have j4 := hx3.c4; have y0 := (hb3.cell HL2.out).trans Y2.out.1; have y1 := (hb3.cell HL2.out).trans Y2.out.2; have HX3 := Lib.hid hx3; have Y3 := Lib.hid (And.intro y0 y1); have HL3 := Lib.hid (Nat.lt_of_lt_of_le HL2.out hb3.size); have HB3 := Lib.hid (bT HB2.out hb3); clear hx3 hb3))
    | (go_at_call 11; refine (works_ex _).mono ?_; rintro e w9 ⟨rfl, hb9⟩; go_must (have HBW := Lib.hid (bT HB3.out hb9); clear hb9)))
  go_ret
  exact ⟨rfl, HBW.out⟩
end Go.Proofs.Ytaaocomgmacjnaa
