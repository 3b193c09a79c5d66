/- Shafts: the rock of a foot, on both sides. -/
import Derived.Test.YtaaocomgmacjnabDoorA4

import Derived.Test.YtaaocomgmacjnabDoorX1

set_option linter.unusedSimpArgs false

set_option linter.unusedVariables false

namespace Go.Proofs.YtaaocomgmacjnabDoor

open Go.RowKit

def Shaft.ft (S : Shaft) (n : Int) : Int := (S.F[n.toNat]?).getD 0
def Shaft.rock (S : Shaft) (n : Int) : Rock := (S.R[(S.ft n).toNat]?).getD ⟨0, 0, 0, 0⟩
theorem Shaft.ok_parts {S : Shaft} (h : S.ok = true) : S.R.length ≤ 4 ∧ S.F.length ≤ 12 ∧ (∀ k, (hk : k < S.R.length) → rockOk S.R[k] = true) ∧ (∀ k, (hk : k < S.F.length) → 0 ≤ S.F[k] ∧ S.F[k] < (S.R.length : Int)) ∧ (0 ≤ S.D ∧ S.D ≤ 9) ∧ (0 ≤ S.H ∧ S.H ≤ 9) ∧ (0 ≤ S.T ∧ S.T ≤ 9) := by
  simp only [Shaft.ok, Bool.and_eq_true, decide_eq_true_eq] at h
  obtain ⟨h0, h1, h2, h3, h4, h5, h6⟩ := h
  refine ⟨h0, h1, fun k hk => all_at h2 hk, fun k hk => ?_, within_iff.1 h4, within_iff.1 h5, within_iff.1 h6⟩
  have := within_iff.1 (all_at h3 hk)
  omega
theorem Shaft.look {S : Shaft} (h : S.ok = true) {k : Nat} (hk : k < S.F.length) : ∃ (j : Nat) (hj : j < S.R.length), S.F[k] = (j : Int) ∧ S.rock (k : Int) = S.R[j] ∧ (-1 ≤ S.R[j].e ∧ S.R[j].e ≤ 99) ∧ (0 ≤ S.R[j].h ∧ S.R[j].h ≤ 9) ∧ (0 ≤ S.R[j].p ∧ S.R[j].p ≤ 99) ∧ (0 ≤ S.R[j].s ∧ S.R[j].s ≤ 12) := by
  obtain ⟨_, _, hr, hf, _⟩ := S.ok_parts h
  obtain ⟨f0, f1⟩ := hf k hk
  have hj : S.F[k].toNat < S.R.length := by omega
  have h1 := hr _ hj
  simp only [rockOk, Bool.and_eq_true] at h1
  refine ⟨S.F[k].toNat, hj, by omega, ?_, within_iff.1 h1.1, within_iff.1 h1.2.1, within_iff.1 h1.2.2.1, within_iff.1 h1.2.2.2⟩
  simp [Shaft.rock, Shaft.ft, List.getElem?_eq_getElem hk, List.getElem?_eq_getElem hj]
theorem new_rock (w : World) : ∃ w1, w.alloc (Obj.cells #[Value.int IntKind.i64 0, Value.int IntKind.i64 0, Value.int IntKind.i64 0, Value.int IntKind.i64 0] 55) = w1 ∧ Below w.heap.size w w1 ∧ w1.heap.size = w.heap.size + 1 ∧
    w1.cell? ⟨w.heap.size, 0, none⟩ = some (.int .i64 0) ∧ w1.cell? ⟨w.heap.size, 1, none⟩ = some (.int .i64 0) ∧ w1.cell? ⟨w.heap.size, 2, none⟩ = some (.int .i64 0) ∧ w1.cell? ⟨w.heap.size, 3, none⟩ = some (.int .i64 0) ∧ ∀ i, w1.frozen? ⟨w.heap.size, i, none⟩ = false :=
  ⟨_, rfl, bA (Below.refl _ _) _, by simp, by go_simp, by go_simp, by go_simp, by go_simp, fun i => by go_simp⟩

set_option maxRecDepth 100000 in
set_option maxHeartbeats 2000000 in
/-- rockOf of the program, of a shaft that lies in block bx -/
theorem rockP_any (S : Shaft) (p q : Option Addr) (c d k bx : Nat) (w : World) (hok : S.ok = true) (hk : k < S.F.length) (hx : BoxS w bx S p q c d) (hb : ShaftIn w w.heap.size S p q) :
    Calls Tryd.prog 60 #[.pointer (some ⟨bx, 0, none⟩), .int .i64 (k : Int)] w fun e w' => e = .returned (.agg #[.int .i64 (S.rock k).h, .int .i64 (S.rock k).p, .int .i64 (S.rock k).s, .int .i64 (S.rock k).e]) ∧ Below w.heap.size w w' := by
  obtain ⟨j, hj, hfj, hrk, _⟩ := S.look hok hk
  rw [hrk]
  obtain ⟨w1, hw1, hb1, hz1, n0, n1, n2, n3, fz⟩ := new_rock w
  obtain ⟨k0, k1, k2, k3, k4, k5⟩ := hx
  obtain ⟨bf, of, rfl, hi⟩ := hb.f (by omega)
  obtain ⟨b, o, rfl, hbl, hsn⟩ := hb.s (by omega)
  have e4 := (hb1.cell (p := ⟨bf, of + k, none⟩) hi.lt).trans (hi.cell k hk)
  rw [hfj] at e4
  have e0 := (hb1.cell (p := ⟨b, o + j * 4, none⟩) hbl).trans (hsn.c0 j hj)
  have e1 := (hb1.cell (p := ⟨b, o + j * 4 + 1, none⟩) hbl).trans (hsn.c1 j hj)
  have e2 := (hb1.cell (p := ⟨b, o + j * 4 + 2, none⟩) hbl).trans (hsn.c2 j hj)
  have e3 := (hb1.cell (p := ⟨b, o + j * 4 + 3, none⟩) hbl).trans (hsn.c3 j hj)
  have m0 := (hb1.cell (p := ⟨bx, 0, none⟩) k5).trans k0
  have m1 := (hb1.cell (p := ⟨bx, 1, none⟩) k5).trans k1
  have HB := Lib.hid hb1
  have y1 : (k : Int) < (S.F.length : Int) := by omega
  have y2 : (j : Int) < (S.R.length : Int) := by omega
  have y3 : (0 : Int) ≤ (k : Int) := by omega
  have y4 : (0 : Int) ≤ (j : Int) := by omega
  have zb : w.heap.size < w1.heap.size := by omega
  clear k0 k1 k2 k3 k4 hi hsn hb hb1 hfj hrk hok
  go_enter Tryd.func60, Tryd.ntmps60
  go_wp2
  try rw [hw1]
  refine wp_region_last (fun w' => w'.cell? ⟨bx, 0, none⟩ = some (.slice (some ⟨b, o, none⟩) S.R.length d) ∧ w'.cell? ⟨bx, 1, none⟩ = some (.slice (some ⟨bf, of, none⟩) S.F.length c) ∧ w'.cell? ⟨bf, of + k, none⟩ = some (.int .i64 (j : Int)) ∧ w'.cell? ⟨b, o + j * 4, none⟩ = some (.int .i64 S.R[j].h) ∧ w'.cell? ⟨b, o + j * 4 + 1, none⟩ = some (.int .i64 S.R[j].p) ∧ w'.cell? ⟨b, o + j * 4 + 2, none⟩ = some (.int .i64 S.R[j].s) ∧ w'.cell? ⟨b, o + j * 4 + 3, none⟩ = some (.int .i64 S.R[j].e)) 15 (by kernel_rfl) rfl (⟨m0, m1, e4, e0, e1, e2, e3⟩) (fun hHeld => ?_)
  refine wpAnyG_take (i := 0) (v := ?_) (by kernel_rfl) rfl (by kernel_rfl) (by kernel_rfl) (by kernel_rfl) (fun _ _ _ h => h) (Or.inl ⟨by rfl, ?_⟩) (by assumption) ?_
  rotate_left
  · intro wS hSw
    (try dsimp only at hSw)
    go_simp
    try (with_reducible rfl)
  try simp only [Act.put, List.setIfInBounds_toArray, List.set_cons_zero, List.set_cons_succ]
  refine wpAnyG_take (i := 1) (v := ?_) (by kernel_rfl) rfl (by kernel_rfl) (by kernel_rfl) (by kernel_rfl) (fun _ _ _ h => h) (Or.inl ⟨by rfl, ?_⟩) (by assumption) ?_
  rotate_left
  · intro wS hSw
    (try dsimp only at hSw)
    go_simp
    try (with_reducible rfl)
  try simp only [Act.put, List.setIfInBounds_toArray, List.set_cons_zero, List.set_cons_succ]
  refine wpAnyG_take (i := 2) (v := ?_) (by kernel_rfl) rfl (by kernel_rfl) (by kernel_rfl) (by kernel_rfl) (fun _ _ _ h => h) (Or.inl ⟨by rfl, ?_⟩) (by assumption) ?_
  rotate_left
  · intro wS hSw
    (try dsimp only at hSw)
    go_simp
    try (with_reducible rfl)
  try simp only [Act.put, List.setIfInBounds_toArray, List.set_cons_zero, List.set_cons_succ]
  refine wpAnyG_take (i := 3) (v := ?_) (by kernel_rfl) rfl (by kernel_rfl) (by kernel_rfl) (by kernel_rfl) (fun _ _ _ h => h) (Or.inl ⟨by rfl, ?_⟩) (by assumption) ?_
  rotate_left
  · intro wS hSw
    (try dsimp only at hSw)
    go_simp
    try (with_reducible rfl)
  try simp only [Act.put, List.setIfInBounds_toArray, List.set_cons_zero, List.set_cons_succ]
  refine wpAnyG_take (i := 4) (v := ?_) (by kernel_rfl) rfl (by kernel_rfl) (by kernel_rfl) (by kernel_rfl) (fun _ _ _ h => h) (Or.inl ⟨by rfl, ?_⟩) (by assumption) ?_
  rotate_left
  · intro wS hSw
    (try dsimp only at hSw)
    go_simp
    try (with_reducible rfl)
  try simp only [Act.put, List.setIfInBounds_toArray, List.set_cons_zero, List.set_cons_succ]
  refine wpAnyG_take (i := 5) (v := ?_) (by kernel_rfl) rfl (by kernel_rfl) (by kernel_rfl) (by kernel_rfl) (fun _ _ _ h => h) (Or.inl ⟨by rfl, ?_⟩) (by assumption) ?_
  rotate_left
  · intro wS hSw
    (try dsimp only at hSw)
    go_simp
    try (with_reducible rfl)
  try simp only [Act.put, List.setIfInBounds_toArray, List.set_cons_zero, List.set_cons_succ]
  refine wpAnyG_take (i := 6) (v := ?_) (by kernel_rfl) rfl (by kernel_rfl) (by kernel_rfl) (by kernel_rfl) (fun _ _ _ h => h) (Or.inl ⟨by rfl, ?_⟩) (by assumption) ?_
  rotate_left
  · intro wS hSw
    (try dsimp only at hSw)
    go_simp
    try (with_reducible rfl)
  try simp only [Act.put, List.setIfInBounds_toArray, List.set_cons_zero, List.set_cons_succ]
  refine wpAnyG_take (i := 7) (v := ?_) (by kernel_rfl) rfl (by kernel_rfl) (by kernel_rfl) (by kernel_rfl) (fun _ _ _ h => h) (Or.inl ⟨by rfl, ?_⟩) (by assumption) ?_
  rotate_left
  · intro wS hSw
    (try dsimp only at hSw)
    go_simp
    try (with_reducible rfl)
  try simp only [Act.put, List.setIfInBounds_toArray, List.set_cons_zero, List.set_cons_succ]
  refine wpAnyG_take (i := 8) (v := ?_) (by kernel_rfl) rfl (by kernel_rfl) (by kernel_rfl) (by kernel_rfl) (fun _ _ _ h => h) (Or.inl ⟨by rfl, ?_⟩) (by assumption) ?_
  rotate_left
  · intro wS hSw
    (try dsimp only at hSw)
    go_simp
    try (with_reducible rfl)
  try simp only [Act.put, List.setIfInBounds_toArray, List.set_cons_zero, List.set_cons_succ]
  refine wpAnyG_take (i := 9) (v := ?_) (by kernel_rfl) rfl (by kernel_rfl) (by kernel_rfl) (by kernel_rfl) (fun _ _ _ h => h) (Or.inl ⟨by rfl, ?_⟩) (by assumption) ?_
  rotate_left
  · intro wS hSw
    (try dsimp only at hSw)
    go_simp
    try (with_reducible rfl)
  try simp only [Act.put, List.setIfInBounds_toArray, List.set_cons_zero, List.set_cons_succ]
  refine wpAnyG_take (i := 10) (v := ?_) (by kernel_rfl) rfl (by kernel_rfl) (by kernel_rfl) (by kernel_rfl) (fun _ _ _ h => h) (Or.inl ⟨by rfl, ?_⟩) (by assumption) ?_
  rotate_left
  · intro wS hSw
    (try dsimp only at hSw)
    go_simp
    try (with_reducible rfl)
  try simp only [Act.put, List.setIfInBounds_toArray, List.set_cons_zero, List.set_cons_succ]
  refine wpAnyG_take (i := 11) (v := ?_) (by kernel_rfl) rfl (by kernel_rfl) (by kernel_rfl) (by kernel_rfl) (fun _ _ _ h => h) (Or.inl ⟨by rfl, ?_⟩) (by assumption) ?_
  rotate_left
  · intro wS hSw
    (try dsimp only at hSw)
    go_simp
    try (with_reducible rfl)
  try simp only [Act.put, List.setIfInBounds_toArray, List.set_cons_zero, List.set_cons_succ]
  refine wpAnyG_take (i := 12) (v := ?_) (by kernel_rfl) rfl (by kernel_rfl) (by kernel_rfl) (by kernel_rfl) (fun _ _ _ h => h) (Or.inl ⟨by rfl, ?_⟩) (by assumption) ?_
  rotate_left
  · intro wS hSw
    (try dsimp only at hSw)
    go_simp
    try (with_reducible rfl)
  try simp only [Act.put, List.setIfInBounds_toArray, List.set_cons_zero, List.set_cons_succ]
  refine wpAnyG_take (i := 13) (v := ?_) (by kernel_rfl) rfl (by kernel_rfl) (by kernel_rfl) (by kernel_rfl) (fun _ _ _ h => h) (Or.inl ⟨by rfl, ?_⟩) (by assumption) ?_
  rotate_left
  · intro wS hSw
    (try dsimp only at hSw)
    go_simp
    try (with_reducible rfl)
  try simp only [Act.put, List.setIfInBounds_toArray, List.set_cons_zero, List.set_cons_succ]
  refine wpAnyG_take (i := 14) (v := ?_) (by kernel_rfl) rfl (by kernel_rfl) (by kernel_rfl) (by kernel_rfl) (fun _ _ _ h => h) (Or.inl ⟨by rfl, ?_⟩) (by assumption) ?_
  rotate_left
  · intro wS hSw
    (try dsimp only at hSw)
    go_simp
    try (with_reducible rfl)
  try simp only [Act.put, List.setIfInBounds_toArray, List.set_cons_zero, List.set_cons_succ]
  refine wpAnyG_done (by kernel_rfl) (by kernel_rfl) (wpOp_plain rfl rfl ?_)
  go_simp
  go_wp2
  refine bodyPost_ret (v := .agg #[.int .i64 S.R[j].h, .int .i64 S.R[j].p, .int .i64 S.R[j].s, .int .i64 S.R[j].e]) ?_ rfl ?_
  case refine_2 =>
    refine ⟨rfl, ?_⟩
    refine bd ?_
    iterate 4 (refine bS ?_ (by simp) _)
    exact HB.out
  simp [results, Tryd.results60, go_sem, n0, n1, n2, n3]

theorem shaft_rock (w : World) (S : Shaft) (p q : Option Addr) (c d : Nat) : ∃ w1, (w.alloc (Obj.cells #[Value.slice q S.R.length d, Value.slice p S.F.length c, Value.int IntKind.i64 S.D, Value.int IntKind.i64 S.H, Value.int IntKind.i64 S.T] 25)).alloc (Obj.cells #[Value.int IntKind.i64 0, Value.int IntKind.i64 0, Value.int IntKind.i64 0, Value.int IntKind.i64 0] 55) = w1 ∧ Below w.heap.size w w1 ∧ w1.heap.size = w.heap.size + 2 ∧
    w1.cell? ⟨w.heap.size + 1, 0, none⟩ = some (.int .i64 0) ∧ w1.cell? ⟨w.heap.size + 1, 1, none⟩ = some (.int .i64 0) ∧ w1.cell? ⟨w.heap.size + 1, 2, none⟩ = some (.int .i64 0) ∧ w1.cell? ⟨w.heap.size + 1, 3, none⟩ = some (.int .i64 0) ∧ (∀ i, w1.frozen? ⟨w.heap.size + 1, i, none⟩ = false) ∧
    w1.cell? ⟨w.heap.size, 0, none⟩ = some (.slice q S.R.length d) ∧ w1.cell? ⟨w.heap.size, 1, none⟩ = some (.slice p S.F.length c) :=
  ⟨_, rfl, bA (bA (Below.refl _ _) _) _, by simp, by go_simp, by go_simp, by go_simp, by go_simp, fun i => by go_simp, by go_simp, by go_simp⟩
set_option maxRecDepth 100000 in
set_option maxHeartbeats 2000000 in
/-- rockOf of the specification -/
theorem rockR_any (S : Shaft) (p q : Option Addr) (c d k : Nat) (w : World) (hok : S.ok = true) (hk : k < S.F.length) (hb : ShaftIn w w.heap.size S p q) :
    Calls Tryd.prog 41 #[.agg #[.slice q S.R.length d, .slice p S.F.length c, .int .i64 S.D, .int .i64 S.H, .int .i64 S.T], .int .i64 (k : Int)] w fun e w' => e = .returned (.agg #[.int .i64 (S.rock k).h, .int .i64 (S.rock k).p, .int .i64 (S.rock k).s, .int .i64 (S.rock k).e]) ∧ Below w.heap.size w w' := by
  obtain ⟨j, hj, hfj, hrk, _⟩ := S.look hok hk
  rw [hrk]
  obtain ⟨w1, hw1, hb1, hz1, n0, n1, n2, n3, fz, m0, m1⟩ := shaft_rock w S p q c d
  obtain ⟨bf, of, rfl, hi⟩ := hb.f (by omega)
  obtain ⟨b, o, rfl, hbl, hsn⟩ := hb.s (by omega)
  have e4 := (hb1.cell (p := ⟨bf, of + k, none⟩) hi.lt).trans (hi.cell k hk)
  rw [hfj] at e4
  have e0 := (hb1.cell (p := ⟨b, o + j * 4, none⟩) hbl).trans (hsn.c0 j hj)
  have e1 := (hb1.cell (p := ⟨b, o + j * 4 + 1, none⟩) hbl).trans (hsn.c1 j hj)
  have e2 := (hb1.cell (p := ⟨b, o + j * 4 + 2, none⟩) hbl).trans (hsn.c2 j hj)
  have e3 := (hb1.cell (p := ⟨b, o + j * 4 + 3, none⟩) hbl).trans (hsn.c3 j hj)
  have HB := Lib.hid hb1
  have y1 : (k : Int) < (S.F.length : Int) := by omega
  have y2 : (j : Int) < (S.R.length : Int) := by omega
  have y3 : (0 : Int) ≤ (k : Int) := by omega
  have y4 : (0 : Int) ≤ (j : Int) := by omega
  have zb : w.heap.size + 1 < w1.heap.size := by omega
  clear hi hsn hb hb1 hfj hrk hok
  go_enter Tryd.func41, Tryd.ntmps41
  go_wp2
  try rw [hw1]
  refine wp_region_last (fun w' => w'.cell? ⟨w.heap.size, 0, none⟩ = some (.slice (some ⟨b, o, none⟩) S.R.length d) ∧ w'.cell? ⟨w.heap.size, 1, none⟩ = some (.slice (some ⟨bf, of, none⟩) S.F.length c) ∧ w'.cell? ⟨bf, of + k, none⟩ = some (.int .i64 (j : Int)) ∧ w'.cell? ⟨b, o + j * 4, none⟩ = some (.int .i64 S.R[j].h) ∧ w'.cell? ⟨b, o + j * 4 + 1, none⟩ = some (.int .i64 S.R[j].p) ∧ w'.cell? ⟨b, o + j * 4 + 2, none⟩ = some (.int .i64 S.R[j].s) ∧ w'.cell? ⟨b, o + j * 4 + 3, none⟩ = some (.int .i64 S.R[j].e)) 9 (by kernel_rfl) rfl (⟨m0, m1, e4, e0, e1, e2, e3⟩) (fun hHeld => ?_)
  refine wpAnyG_take (i := 0) (v := ?_) (by kernel_rfl) rfl (by kernel_rfl) (by kernel_rfl) (by kernel_rfl) (fun _ _ _ h => h) (Or.inl ⟨by rfl, ?_⟩) (by assumption) ?_
  rotate_left
  · intro wS hSw
    (try dsimp only at hSw)
    go_simp
    try (with_reducible rfl)
  try simp only [Act.put, List.setIfInBounds_toArray, List.set_cons_zero, List.set_cons_succ]
  refine wpAnyG_take (i := 1) (v := ?_) (by kernel_rfl) rfl (by kernel_rfl) (by kernel_rfl) (by kernel_rfl) (fun _ _ _ h => h) (Or.inl ⟨by rfl, ?_⟩) (by assumption) ?_
  rotate_left
  · intro wS hSw
    (try dsimp only at hSw)
    go_simp
    try (with_reducible rfl)
  try simp only [Act.put, List.setIfInBounds_toArray, List.set_cons_zero, List.set_cons_succ]
  refine wpAnyG_take (i := 2) (v := ?_) (by kernel_rfl) rfl (by kernel_rfl) (by kernel_rfl) (by kernel_rfl) (fun _ _ _ h => h) (Or.inl ⟨by rfl, ?_⟩) (by assumption) ?_
  rotate_left
  · intro wS hSw
    (try dsimp only at hSw)
    go_simp
    try (with_reducible rfl)
  try simp only [Act.put, List.setIfInBounds_toArray, List.set_cons_zero, List.set_cons_succ]
  refine wpAnyG_take (i := 3) (v := ?_) (by kernel_rfl) rfl (by kernel_rfl) (by kernel_rfl) (by kernel_rfl) (fun _ _ _ h => h) (Or.inl ⟨by rfl, ?_⟩) (by assumption) ?_
  rotate_left
  · intro wS hSw
    (try dsimp only at hSw)
    go_simp
    try (with_reducible rfl)
  try simp only [Act.put, List.setIfInBounds_toArray, List.set_cons_zero, List.set_cons_succ]
  refine wpAnyG_take (i := 4) (v := ?_) (by kernel_rfl) rfl (by kernel_rfl) (by kernel_rfl) (by kernel_rfl) (fun _ _ _ h => h) (Or.inl ⟨by rfl, ?_⟩) (by assumption) ?_
  rotate_left
  · intro wS hSw
    (try dsimp only at hSw)
    go_simp
    try (with_reducible rfl)
  try simp only [Act.put, List.setIfInBounds_toArray, List.set_cons_zero, List.set_cons_succ]
  refine wpAnyG_take (i := 5) (v := ?_) (by kernel_rfl) rfl (by kernel_rfl) (by kernel_rfl) (by kernel_rfl) (fun _ _ _ h => h) (Or.inl ⟨by rfl, ?_⟩) (by assumption) ?_
  rotate_left
  · intro wS hSw
    (try dsimp only at hSw)
    go_simp
    try (with_reducible rfl)
  try simp only [Act.put, List.setIfInBounds_toArray, List.set_cons_zero, List.set_cons_succ]
  refine wpAnyG_take (i := 6) (v := ?_) (by kernel_rfl) rfl (by kernel_rfl) (by kernel_rfl) (by kernel_rfl) (fun _ _ _ h => h) (Or.inl ⟨by rfl, ?_⟩) (by assumption) ?_
  rotate_left
  · intro wS hSw
    (try dsimp only at hSw)
    go_simp
    try (with_reducible rfl)
  try simp only [Act.put, List.setIfInBounds_toArray, List.set_cons_zero, List.set_cons_succ]
  refine wpAnyG_take (i := 7) (v := ?_) (by kernel_rfl) rfl (by kernel_rfl) (by kernel_rfl) (by kernel_rfl) (fun _ _ _ h => h) (Or.inl ⟨by rfl, ?_⟩) (by assumption) ?_
  rotate_left
  · intro wS hSw
    (try dsimp only at hSw)
    go_simp
    try (with_reducible rfl)
  try simp only [Act.put, List.setIfInBounds_toArray, List.set_cons_zero, List.set_cons_succ]
  refine wpAnyG_take (i := 8) (v := ?_) (by kernel_rfl) rfl (by kernel_rfl) (by kernel_rfl) (by kernel_rfl) (fun _ _ _ h => h) (Or.inl ⟨by rfl, ?_⟩) (by assumption) ?_
  rotate_left
  · intro wS hSw
    (try dsimp only at hSw)
    go_simp
    try (with_reducible rfl)
  try simp only [Act.put, List.setIfInBounds_toArray, List.set_cons_zero, List.set_cons_succ]
  refine wpAnyG_done (by kernel_rfl) (by kernel_rfl) (wpOp_plain rfl rfl ?_)
  go_simp
  go_wp2
  refine bodyPost_ret (v := .agg #[.int .i64 S.R[j].h, .int .i64 S.R[j].p, .int .i64 S.R[j].s, .int .i64 S.R[j].e]) ?_ rfl ?_
  case refine_2 =>
    refine ⟨rfl, ?_⟩
    refine bd ?_
    iterate 4 (refine bS ?_ (by simp) _)
    exact HB.out
  simp [results, Tryd.results41, go_sem, n0, n1, n2, n3]
end Go.Proofs.YtaaocomgmacjnabDoor
