/- Lines of an aqueduct: the flows, of the program. -/
import Derived.Test.YtkdlppekjjbgoaaA3

import Derived.Test.YtkdlppekjjbgoaaX1

import Derived.Deep.AppendLies

set_option linter.unusedSimpArgs false

set_option linter.unusedVariables false

namespace Go.Proofs.Ytkdlppekjjbgoaa

open Go.RowKit

theorem grown_none {w w' : World} (h : Below w.heap.size w w') : w.grownBy w' none := ⟨h.os, h.tape, h.output, h.size, fun k hk _ => h.block k hk⟩
theorem own_below {w w' : World} {base : Nat} {e : TypeId} {size : Nat} {v : Value} {n : Nat} {xs : List Value} (h : w.ownsRow base e size v n xs) (hb : Below w.heap.size w w') : w'.ownsRow base e size v n xs :=
  h.kept (grown_none hb) (by cases v.ownBlock <;> simp)
theorem own_base {w : World} {base b : Nat} {e : TypeId} {size : Nat} {v : Value} {n : Nat} {xs : List Value} (h : w.ownsRow base e size v n xs) (hb : b ≤ base) : w.ownsRow b e size v n xs :=
  ⟨h.1, h.2.imp id fun ⟨g, cap, cur, a, c, d⟩ => ⟨g, cap, cur, a, Nat.le_trans hb c, d⟩⟩
theorem below_grown {a w w' : World} {base : Nat} {e : TypeId} {size : Nat} {v : Value} {n : Nat} {xs : List Value} (h : Below a.heap.size a w) (ho : w.ownsRow base e size v n xs) (hb : a.heap.size ≤ base) (hg : w.grownBy w' v.ownBlock) : Below a.heap.size a w' :=
  h.grown hg h.size fun k hk => Nat.le_trans hb (ho.lt k hk).1
/-- what an owned value looks like -/
theorem own_form {w : World} {base : Nat} {e : TypeId} {size : Nat} {v : Value} {n : Nat} {xs : List Value} (h : w.ownsRow base e size v n xs) :
    ∃ p cap, v = .slice p n cap ∧ (0 < n → ∃ g, p = some ⟨g, 0, none⟩ ∧ base ≤ g ∧ g < w.heap.size ∧ (∀ j, j < n * size → w.cell? ⟨g, j, none⟩ = xs[j]?) ∧ ∀ j, w.frozen? ⟨g, j, none⟩ = false) := by
  rcases h.2 with ⟨rfl, rfl⟩ | ⟨g, cap, cur, rfl, hb, hg, _⟩
  · exact ⟨_, _, rfl, fun h => by omega⟩
  · exact ⟨_, _, rfl, fun _ => ⟨g, rfl, hb, (Array.getElem?_eq_some_iff.1 hg).1, fun j hj => h.cellAt j hj, fun j => h.frozenAt j⟩⟩
/-- rows of two numbers each -/
def row2 (f h : Nat → Int) : Nat → List Value
  | 0 => []
  | k + 1 => row2 f h k ++ [.int .i64 (f k), .int .i64 (h k)]
theorem row2_len (f h : Nat → Int) : ∀ k, (row2 f h k).length = k * 2
  | 0 => rfl
  | k + 1 => by unfold row2; rw [List.length_append, row2_len f h k]; simp; omega
theorem row2_at {f h : Nat → Int} : ∀ {n k : Nat}, k < n → (row2 f h n)[k * 2]? = some (.int .i64 (f k)) ∧ (row2 f h n)[k * 2 + 1]? = some (.int .i64 (h k))
  | 0, k, hk => absurd hk (Nat.not_lt_zero _)
  | n + 1, k, hk => by
    unfold row2
    have hl := row2_len f h n
    rcases Nat.lt_succ_iff_lt_or_eq.1 hk with h1 | rfl
    · obtain ⟨a, b⟩ := row2_at (f := f) (h := h) h1
      rw [List.getElem?_append_left (by omega), List.getElem?_append_left (by omega)]
      exact ⟨a, b⟩
    · rw [List.getElem?_append_right (by omega), List.getElem?_append_right (by omega), hl]
      simp
theorem row2_congr {f h f' h' : Nat → Int} : ∀ {n : Nat}, (∀ k, k < n → f k = f' k ∧ h k = h' k) → row2 f h n = row2 f' h' n
  | 0, _ => rfl
  | n + 1, H => by
    unfold row2
    rw [row2_congr fun k hk => H k (by omega), (H n (by omega)).1, (H n (by omega)).2]
theorem row2_set {f h f' h' : Nat → Int} {n i : Nat} {v : Value} (H : ∀ j, j < n * 2 → (if j = i then some v else (row2 f h n)[j]?) = (row2 f' h' n)[j]?) (hi : i < n * 2) : (row2 f h n).set i v = row2 f' h' n := by
  apply List.ext_getElem?
  intro j
  by_cases hj : j < n * 2
  · rw [← H j hj, List.getElem?_set]
    by_cases e : i = j
    · subst e; simp [row2_len, hi]
    · simp [e, Ne.symm e]
  · rw [List.getElem?_eq_none (by simp [row2_len]; omega), List.getElem?_eq_none (by simp [row2_len]; omega)]
theorem row2_set1 {f h h' : Nat → Int} {n k : Nat} (hk : k < n) (H : ∀ j, j < n → j ≠ k → h j = h' j) : (row2 f h n).set (k * 2 + 1) (.int .i64 (h' k)) = row2 f h' n := by
  refine row2_set (fun j hj => ?_) (by omega)
  rcases Nat.mod_two_eq_zero_or_one j with e | e
  · obtain ⟨i, rfl⟩ : ∃ i, j = i * 2 := ⟨j / 2, by omega⟩
    rw [if_neg (by omega), (row2_at (by omega)).1, (row2_at (by omega)).1]
  · obtain ⟨i, rfl⟩ : ∃ i, j = i * 2 + 1 := ⟨j / 2, by omega⟩
    rw [(row2_at (f := f) (h := h') (n := n) (k := i) (by omega)).2]
    by_cases hik : i = k
    · subst hik; rw [if_pos rfl]
    · rw [if_neg (by omega), (row2_at (by omega)).2, H i (by omega) hik]
theorem row2_set0 {f f' h : Nat → Int} {n k : Nat} (hk : k < n) (H : ∀ j, j < n → j ≠ k → f j = f' j) : (row2 f h n).set (k * 2) (.int .i64 (f' k)) = row2 f' h n := by
  refine row2_set (fun j hj => ?_) (by omega)
  rcases Nat.mod_two_eq_zero_or_one j with e | e
  · obtain ⟨i, rfl⟩ : ∃ i, j = i * 2 := ⟨j / 2, by omega⟩
    rw [(row2_at (f := f') (h := h) (n := n) (k := i) (by omega)).1]
    by_cases hik : i = k
    · subst hik; rw [if_pos rfl]
    · rw [if_neg (by omega), (row2_at (by omega)).1, H i (by omega) hik]
  · obtain ⟨i, rfl⟩ : ∃ i, j = i * 2 + 1 := ⟨j / 2, by omega⟩
    rw [if_neg (by omega), (row2_at (by omega)).2, (row2_at (by omega)).2]
/-- from point j on the lows are those of the flows -/
def LL (D : Duct) (j i : Nat) : Int := if j ≤ i then fl D i else D.lo i
def HH (D : Duct) (k i : Nat) : Int := if i = k then D.hi k else fh D i
theorem infoSp : (Try.prog.info? 34).map (fun i => (i.zero, i.size, i.bytes)) = some (some (.agg #[.int .i64 0, .int .i64 0]), 2, 16) := by kernel_rfl
/-- the flows of a line lie in memory -/
structure FlIn (w : World) (K : Nat) (D : Duct) (g : Nat) : Prop where
  lt : g < K
  c0 : ∀ k, k < D.n → w.cell? ⟨g, k * 2, none⟩ = some (.int .i64 (fl D k))
  c1 : ∀ k, k < D.n → w.cell? ⟨g, k * 2 + 1, none⟩ = some (.int .i64 (fh D k))
theorem FlIn.bel {w w' : World} {D : Duct} {g : Nat} (h : FlIn w w.heap.size D g) (hb : Below w.heap.size w w') : FlIn w' w'.heap.size D g :=
  ⟨Nat.lt_of_lt_of_le h.lt hb.size, fun k hk => (hb.cell h.lt).trans (h.c0 k hk), fun k hk => (hb.cell h.lt).trans (h.c1 k hk)⟩
set_option maxRecDepth 100000 in
set_option maxHeartbeats 4000000 in
theorem flowsOf_any (D : Duct) (p q : Option Addr) (c d : Nat) (w : World) (hn : D.n ≤ 40) (hm : D.m ≤ 40) (hi : DuctIn w w.heap.size D p q) (h0 : 0 < D.n) :
    Calls Try.prog 83 #[.agg #[.slice p D.n c, .slice q D.m d]] w fun e w' => ∃ g c', e = .returned (.slice (some ⟨g, 0, none⟩) D.n c') ∧ Below w.heap.size w w' ∧ FlIn w' w'.heap.size D g := by
  obtain ⟨i0, hi0, hz0, hz1, hz2⟩ := info_parts infoSp
  have I1 := Lib.hid hi0; have I2 := Lib.hid hz0; have I3 := Lib.hid hz1; have I4 := Lib.hid hz2; clear hi0 hz0 hz1 hz2
  obtain ⟨w1, x, hw1, hb1, hz1, F0, F1⟩ := box_line w p q D.n D.m c d
  have HB := Lib.hid hb1
  have HI : Hid (∀ x : Ext w1, DuctIn x.v x.v.heap.size D p q) := fun x => (hi.bel hb1).bel x.b
  clear hb1 hz1 hi
  go_enter Try.func83, Try.ntmps83
  go_wp2
  go_loopw [3, 10] (fun v i wr => ∃ k : Nat, i = .int .i64 k ∧ k ≤ D.n ∧ ∃ x : Ext w1, wr = x.v ∧ x.v.ownsRow w1.heap.size 34 2 v k (row2 D.lo (fh D) k)) (fun _ i _ => D.n - (intOf i).toNat)
  case atStart => exact ⟨0, rfl, Nat.zero_le _, x, rfl, World.ownsRow_nil _ _ _ _⟩
  case round =>
    obtain ⟨k, rfl, hk, y, rfl, ho⟩ := hrel
    have HO := Lib.hid ho; clear ho hw1 x
    by_cases hlt : k < D.n
    · obtain ⟨b, o, rfl, hbl, hc⟩ := (HI.out y).pt (by omega)
      have e0 := hc.c0 k hlt
      have e1 := hc.c1 k hlt
      have e2 := hc.c2 k hlt
      clear hc
      have j : decide ((k : Int) < (D.n : Int)) = true := by simp; omega
      obtain ⟨w3, z, hw3, hb3, hz3, K0, K1, K2⟩ := box_point y.v (D.lo k) (D.hi k) (D.co k)
      have HB3 := Lib.hid (bT (bT y.b hb3) z.b)
      have HO3 := Lib.hid (own_below HO.out (bT hb3 z.b))
      clear hb3 hz3
      obtain ⟨pr, cr, rfl, _⟩ := own_form HO.out
      go_wp2_with (at_builtin; refine wpList_append_own _ rfl _ _ 77 rfl w1.heap.size 34 i0 _ 2 16 Try.underlying77 I1.out I2.out I3.out I4.out rfl (by decide) _ _ _ rfl (HO3.out.alloc _) ⟨z.v.heap.size, 0, none⟩ 1 1 [.int .i64 (D.lo k), .int .i64 (D.hi k)] rfl rfl ?c1 ?c2 ?c3 ?c4 ?c5 ?_)
      case c1 => exact World.news_of_block (cs := #[.int .i64 (D.lo k), .int .i64 (D.hi k)]) (t := 34) (fr := (0, 0)) (heap_alloc_new _ _)
      case c2 => simp [Value.oneCell']
      case c3 => unfold maxLen; omega
      case c4 => omega
      case c5 => have := HB3.out.size; first | omega | (simp; omega)
      intro v' w4 hown hgrow _
      have HB4 := Lib.hid (below_grown (bA HB3.out _) (HO3.out.alloc _) (Nat.le_refl _) hgrow)
      obtain ⟨p', cap', rfl, hform⟩ := own_form hown
      obtain ⟨g, rfl, hbg, hlg, hcell, hfz⟩ := hform (Nat.succ_pos _)
      have hrow : row2 D.lo (fh D) k ++ [Value.int .i64 (D.lo k), .int .i64 (D.hi k)] = row2 D.lo (HH D k) (k + 1) := by
        show row2 D.lo (fh D) k ++ _ = row2 D.lo (HH D k) k ++ [.int .i64 (D.lo k), .int .i64 (HH D k k)]
        rw [row2_congr (f := D.lo) (h := fh D) (f' := D.lo) (h' := HH D k) fun i hi => ⟨rfl, by unfold HH; rw [if_neg (by omega)]⟩]; simp [HH]
      rw [hrow] at hown hcell
      have HOW := Lib.hid hown; have HC := Lib.hid hcell; have HF := Lib.hid hfz
      clear hown hgrow hcell hfz hrow e0 e1 e2 hw3 K0 K1 K2 HO3 hlg
      rcases Nat.eq_zero_or_pos k with hk0 | hk0
      · have j1 : decide (0 < (k : Int)) = false := by simp; omega
        have HZ := Lib.hid (show ∀ i, i < k + 1 → fh D i = HH D k i from by subst hk0; intro i hi; have hi0 : i = 0 := (by omega); subst hi0; simp [HH, fh])
        go_wp2
        go_roundw
        case rel =>
          refine ⟨k + 1, by go_num, hlt, ⟨w4, HB4.out⟩, rfl, ?_⟩
          rw [row2_congr (f' := D.lo) (h' := HH D k) fun i hi => ⟨rfl, HZ.out i hi⟩]
          exact HOW.out
        case measure => first | (simp [intOf]; done) | (simp [intOf]; omega)
      · have j1 : decide (0 < (k : Int)) = true := by simp; omega
        obtain ⟨j, hkj⟩ : ∃ j, k = j + 1 := ⟨k - 1, by omega⟩
        have f0 : w4.cell? ⟨g, k * 2 + 1, none⟩ = some (.int .i64 (D.hi k)) := by rw [HC.out _ (by omega), (row2_at (by omega)).2]; simp [HH]
        have f1 : w4.cell? ⟨g, j * 2 + 1, none⟩ = some (.int .i64 (fh D j)) := by rw [HC.out _ (by omega), (row2_at (by omega)).2]; unfold HH; rw [if_neg (by omega)]
        have f2 := HF.out (k * 2 + 1)
        have hk1 : (k : Int) - 1 = (j : Int) := by omega
        have hk2 : IntKind.i64.wrap (j : Int) = (j : Int) := IntWalk.i64_in _ (by omega)
        have hjk : (j : Int) < (k : Int) + 1 := by omega
        have hkk : (k : Int) < (k : Int) + 1 := by omega
        have hm : (if fh D j < D.hi k then fh D j else D.hi k) = fh D k := by subst hkj; show _ = min _ _; rw [Int.min_def]; split <;> split <;> omega
        have HK := Lib.hid hkj; clear hkj
        go_wp2
        refine wp_region_last (fun w' => w'.cell? ⟨g, k * 2 + 1, none⟩ = some (.int .i64 (D.hi k)) ∧ w'.cell? ⟨g, j * 2 + 1, none⟩ = some (.int .i64 (fh D j)) ∧ w'.frozen? ⟨g, k * 2 + 1, none⟩ = false) 16 (by kernel_rfl) rfl (⟨f0, f1, f2⟩) (fun hHeld => ?_)
        refine wpAnyG_take (i := 0) (v := ?_) (by kernel_rfl) rfl (by kernel_rfl) (by kernel_rfl) (by kernel_rfl) (fun _ _ _ h => h) (Or.inl ⟨by rfl, ?_⟩) (by assumption) ?_
        rotate_left
        · intro wS hSw
          (try dsimp only at hSw)
          go_simp
          try (with_reducible rfl)
        try simp only [Act.put, List.setIfInBounds_toArray, List.set_cons_zero, List.set_cons_succ]
        refine wpAnyG_take (i := 1) (v := ?_) (by kernel_rfl) rfl (by kernel_rfl) (by kernel_rfl) (by kernel_rfl) (fun _ _ _ h => h) (Or.inl ⟨by rfl, ?_⟩) (by assumption) ?_
        rotate_left
        · intro wS hSw
          (try dsimp only at hSw)
          go_simp
          try (with_reducible rfl)
        try simp only [Act.put, List.setIfInBounds_toArray, List.set_cons_zero, List.set_cons_succ]
        refine wpAnyG_take (i := 2) (v := ?_) (by kernel_rfl) rfl (by kernel_rfl) (by kernel_rfl) (by kernel_rfl) (fun _ _ _ h => h) (Or.inl ⟨by rfl, ?_⟩) (by assumption) ?_
        rotate_left
        · intro wS hSw
          (try dsimp only at hSw)
          go_simp
          try (with_reducible rfl)
        try simp only [Act.put, List.setIfInBounds_toArray, List.set_cons_zero, List.set_cons_succ]
        refine wpAnyG_take (i := 3) (v := ?_) (by kernel_rfl) rfl (by kernel_rfl) (by kernel_rfl) (by kernel_rfl) (fun _ _ _ h => h) (Or.inl ⟨by rfl, ?_⟩) (by assumption) ?_
        rotate_left
        · intro wS hSw
          (try dsimp only at hSw)
          go_simp
          try (with_reducible rfl)
        try simp only [Act.put, List.setIfInBounds_toArray, List.set_cons_zero, List.set_cons_succ]
        refine wpAnyG_take (i := 4) (v := ?_) (by kernel_rfl) rfl (by kernel_rfl) (by kernel_rfl) (by kernel_rfl) (fun _ _ _ h => h) (Or.inl ⟨by rfl, ?_⟩) (by assumption) ?_
        rotate_left
        · intro wS hSw
          (try dsimp only at hSw)
          go_simp
          try (with_reducible rfl)
        try simp only [Act.put, List.setIfInBounds_toArray, List.set_cons_zero, List.set_cons_succ]
        refine wpAnyG_take (i := 5) (v := ?_) (by kernel_rfl) rfl (by kernel_rfl) (by kernel_rfl) (by kernel_rfl) (fun _ _ _ h => h) (Or.inl ⟨by rfl, ?_⟩) (by assumption) ?_
        rotate_left
        · intro wS hSw
          (try dsimp only at hSw)
          go_simp
          try (with_reducible rfl)
        try simp only [Act.put, List.setIfInBounds_toArray, List.set_cons_zero, List.set_cons_succ]
        refine wpAnyG_take (i := 6) (v := ?_) (by kernel_rfl) rfl (by kernel_rfl) (by kernel_rfl) (by kernel_rfl) (fun _ _ _ h => h) (Or.inl ⟨by rfl, ?_⟩) (by assumption) ?_
        rotate_left
        · intro wS hSw
          (try dsimp only at hSw)
          go_simp
          try (with_reducible rfl)
        try simp only [Act.put, List.setIfInBounds_toArray, List.set_cons_zero, List.set_cons_succ]
        refine wpAnyG_take (i := 7) (v := ?_) (by kernel_rfl) rfl (by kernel_rfl) (by kernel_rfl) (by kernel_rfl) (fun _ _ _ h => h) (Or.inl ⟨by rfl, ?_⟩) (by assumption) ?_
        rotate_left
        · intro wS hSw
          (try dsimp only at hSw)
          go_simp
          try (with_reducible rfl)
        try simp only [Act.put, List.setIfInBounds_toArray, List.set_cons_zero, List.set_cons_succ]
        refine wpAnyG_take (i := 8) (v := ?_) (by kernel_rfl) rfl (by kernel_rfl) (by kernel_rfl) (by kernel_rfl) (fun _ _ _ h => h) (Or.inl ⟨by rfl, ?_⟩) (by assumption) ?_
        rotate_left
        · intro wS hSw
          (try dsimp only at hSw)
          go_simp
          try (with_reducible rfl)
        try simp only [Act.put, List.setIfInBounds_toArray, List.set_cons_zero, List.set_cons_succ]
        refine wpAnyG_take (i := 9) (v := ?_) (by kernel_rfl) rfl (by kernel_rfl) (by kernel_rfl) (by kernel_rfl) (fun _ _ _ h => h) (Or.inl ⟨by rfl, ?_⟩) (by assumption) ?_
        rotate_left
        · intro wS hSw
          (try dsimp only at hSw)
          go_simp
          try (with_reducible rfl)
        try simp only [Act.put, List.setIfInBounds_toArray, List.set_cons_zero, List.set_cons_succ]
        refine wpAnyG_take (i := 10) (v := ?_) (by kernel_rfl) rfl (by kernel_rfl) (by kernel_rfl) (by kernel_rfl) (fun _ _ _ h => h) (Or.inl ⟨by rfl, ?_⟩) (by assumption) ?_
        rotate_left
        · intro wS hSw
          (try dsimp only at hSw)
          go_simp
          try (with_reducible rfl)
        try simp only [Act.put, List.setIfInBounds_toArray, List.set_cons_zero, List.set_cons_succ]
        refine wpAnyG_take (i := 11) (v := ?_) (by kernel_rfl) rfl (by kernel_rfl) (by kernel_rfl) (by kernel_rfl) (fun _ _ _ h => h) (Or.inl ⟨by rfl, ?_⟩) (by assumption) ?_
        rotate_left
        · intro wS hSw
          (try dsimp only at hSw)
          go_simp
          try (with_reducible rfl)
        try simp only [Act.put, List.setIfInBounds_toArray, List.set_cons_zero, List.set_cons_succ]
        refine wpAnyG_take (i := 12) (v := ?_) (by kernel_rfl) rfl (by kernel_rfl) (by kernel_rfl) (by kernel_rfl) (fun _ _ _ h => h) (Or.inl ⟨by rfl, ?_⟩) (by assumption) ?_
        rotate_left
        · intro wS hSw
          (try dsimp only at hSw)
          go_simp
          try (with_reducible rfl)
        try simp only [Act.put, List.setIfInBounds_toArray, List.set_cons_zero, List.set_cons_succ]
        refine wpAnyG_take (i := 13) (v := ?_) (by kernel_rfl) rfl (by kernel_rfl) (by kernel_rfl) (by kernel_rfl) (fun _ _ _ h => h) (Or.inl ⟨by rfl, ?_⟩) (by assumption) ?_
        rotate_left
        · intro wS hSw
          (try dsimp only at hSw)
          go_simp
          try (with_reducible rfl)
        try simp only [Act.put, List.setIfInBounds_toArray, List.set_cons_zero, List.set_cons_succ]
        refine wpAnyG_take (i := 14) (v := ?_) (by kernel_rfl) rfl (by kernel_rfl) (by kernel_rfl) (by kernel_rfl) (fun _ _ _ h => h) (Or.inl ⟨by rfl, ?_⟩) (by assumption) ?_
        rotate_left
        · intro wS hSw
          (try dsimp only at hSw)
          go_simp
          try (with_reducible rfl)
        try simp only [Act.put, List.setIfInBounds_toArray, List.set_cons_zero, List.set_cons_succ]
        refine wpAnyG_take (i := 15) (v := ?_) (by kernel_rfl) rfl (by kernel_rfl) (by kernel_rfl) (by kernel_rfl) (fun _ _ _ h => h) (Or.inl ⟨by rfl, ?_⟩) (by assumption) ?_
        rotate_left
        · intro wS hSw
          (try dsimp only at hSw)
          go_simp
          try (with_reducible rfl)
        try simp only [Act.put, List.setIfInBounds_toArray, List.set_cons_zero, List.set_cons_succ]
        refine wpAnyG_done (by kernel_rfl) (by kernel_rfl) (wpOp_plain rfl rfl ?_)
        go_simp
        clear hHeld f0 f1 f2 hm hk1 hk2
        go_wp2
        go_roundw
        case rel =>
          refine ⟨k + 1, by go_num, hlt, ⟨_, bd (bS HB4.out hbg _)⟩, rfl, ?_⟩
          have h5 := (HOW.out.stored (k * 2 + 1) (.int .i64 (fh D k))).1.drew
          rw [row2_set1 (h' := fh D) (by omega) (fun i hi hik => by unfold HH; rw [if_neg hik])] at h5
          exact h5
        case measure => first | (simp [intOf]; done) | (simp [intOf]; omega)
    · obtain rfl : k = D.n := by omega
      obtain ⟨pr, cr, rfl, hform⟩ := own_form HO.out
      obtain ⟨g, rfl, hbg, hlg, _, _⟩ := hform h0
      have hn2 : IntKind.i64.wrap ((D.n : Int) - 2) = (D.n : Int) - 2 := IntWalk.i64_in _ (by omega)
      go_wp2
      go_loopw [6] (fun i wr => ∃ (j : Nat) (a : Int), i = .int .i64 a ∧ a = (j : Int) - 1 ∧ j + 1 ≤ D.n ∧ ∃ x : Ext w1, wr = x.v ∧ x.v.ownsRow w1.heap.size 34 2 (.slice (some ⟨g, 0, none⟩) D.n cr) D.n (row2 (LL D j) (fh D) D.n)) (fun i _ => (intOf i + 1).toNat)
      case atStart =>
        refine ⟨D.n - 1, _, rfl, by omega, by omega, y, rfl, ?_⟩
        rw [row2_congr (f' := D.lo) (h' := fh D) fun i hi => ⟨by
          unfold LL; split
          · have : i = D.n - 1 := by omega
            subst this; exact fl_last h0
          · rfl, rfl⟩]
        exact HO.out
      case round =>
        clear HO hn2
        obtain ⟨j, a, rfl, ha, hj, u, rfl, ho⟩ := hrel
        have HO := Lib.hid ho; clear ho
        cases j with
        | zero =>
          obtain rfl : a = -1 := by omega
          clear ha
          go_wp2
          go_ret
          refine ⟨g, cr, rfl, bT HB.out u.b, ?_⟩
          obtain ⟨_, _, he, hform⟩ := own_form HO.out
          obtain ⟨g', he', hbg', hlg', hc, _⟩ := hform h0
          cases he; cases he'
          refine ⟨hlg', fun k hk => ?_, fun k hk => ?_⟩
          · rw [hc _ (by omega), (row2_at hk).1]; simp [LL]
          · rw [hc _ (by omega), (row2_at hk).2]
        | succ j =>
          obtain rfl : a = (j : Int) := by omega
          clear ha
          obtain ⟨_, _, he, hform⟩ := own_form HO.out
          obtain ⟨g', he', hbg', hlg', hc, hfz⟩ := hform h0
          cases he; cases he'
          have f0 : u.v.cell? ⟨g, j * 2, none⟩ = some (.int .i64 (D.lo j)) := by rw [hc _ (by omega), (row2_at (by omega)).1]; unfold LL; rw [if_neg (by omega)]
          have f1 : u.v.cell? ⟨g, (j + 1) * 2, none⟩ = some (.int .i64 (fl D (j + 1))) := by rw [hc _ (by omega), (row2_at (by omega)).1]; unfold LL; rw [if_pos (by omega)]
          have f2 := hfz (j * 2)
          have hm : (if D.lo j < fl D (j + 1) then fl D (j + 1) else D.lo j) = fl D j := by rw [fl_step (D := D) (k := j) (by omega), Int.max_def]; split <;> split <;> omega
          have hj1 : (j : Int) < (D.n : Int) := by omega
          have hj2 : (j : Int) + 1 < (D.n : Int) := by omega
          have hj3 : IntKind.i64.wrap ((j : Int) + 1) = (j : Int) + 1 := IntWalk.i64_in _ (by omega)
          have hj4 : 0 ≤ (j : Int) + 1 := by omega
          have hj5 : ((j : Int) + 1).toNat = j + 1 := by omega
          obtain ⟨wb, hwb⟩ : ∃ wb, wb = u.v := ⟨_, rfl⟩
          clear hc hfz
          go_wp2
          refine wp_region_last (fun w' => w'.cell? ⟨g, j * 2, none⟩ = some (.int .i64 (D.lo j)) ∧ w'.cell? ⟨g, (j + 1) * 2, none⟩ = some (.int .i64 (fl D (j + 1))) ∧ w'.frozen? ⟨g, j * 2, none⟩ = false) 16 (by kernel_rfl) rfl (⟨f0, f1, f2⟩) (fun hHeld => ?_)
          refine wpAnyG_take (i := 0) (v := ?_) (by kernel_rfl) rfl (by kernel_rfl) (by kernel_rfl) (by kernel_rfl) (fun _ _ _ h => h) (Or.inl ⟨by rfl, ?_⟩) (by assumption) ?_
          rotate_left
          · intro wS hSw
            (try dsimp only at hSw)
            go_simp
            try (with_reducible rfl)
          try simp only [Act.put, List.setIfInBounds_toArray, List.set_cons_zero, List.set_cons_succ]
          refine wpAnyG_take (i := 1) (v := ?_) (by kernel_rfl) rfl (by kernel_rfl) (by kernel_rfl) (by kernel_rfl) (fun _ _ _ h => h) (Or.inl ⟨by rfl, ?_⟩) (by assumption) ?_
          rotate_left
          · intro wS hSw
            (try dsimp only at hSw)
            go_simp
            try (with_reducible rfl)
          try simp only [Act.put, List.setIfInBounds_toArray, List.set_cons_zero, List.set_cons_succ]
          refine wpAnyG_take (i := 2) (v := ?_) (by kernel_rfl) rfl (by kernel_rfl) (by kernel_rfl) (by kernel_rfl) (fun _ _ _ h => h) (Or.inl ⟨by rfl, ?_⟩) (by assumption) ?_
          rotate_left
          · intro wS hSw
            (try dsimp only at hSw)
            go_simp
            try (with_reducible rfl)
          try simp only [Act.put, List.setIfInBounds_toArray, List.set_cons_zero, List.set_cons_succ]
          refine wpAnyG_take (i := 3) (v := ?_) (by kernel_rfl) rfl (by kernel_rfl) (by kernel_rfl) (by kernel_rfl) (fun _ _ _ h => h) (Or.inl ⟨by rfl, ?_⟩) (by assumption) ?_
          rotate_left
          · intro wS hSw
            (try dsimp only at hSw)
            go_simp
            try (with_reducible rfl)
          try simp only [Act.put, List.setIfInBounds_toArray, List.set_cons_zero, List.set_cons_succ]
          refine wpAnyG_take (i := 4) (v := ?_) (by kernel_rfl) rfl (by kernel_rfl) (by kernel_rfl) (by kernel_rfl) (fun _ _ _ h => h) (Or.inl ⟨by rfl, ?_⟩) (by assumption) ?_
          rotate_left
          · intro wS hSw
            (try dsimp only at hSw)
            go_simp
            try (with_reducible rfl)
          try simp only [Act.put, List.setIfInBounds_toArray, List.set_cons_zero, List.set_cons_succ]
          refine wpAnyG_take (i := 5) (v := ?_) (by kernel_rfl) rfl (by kernel_rfl) (by kernel_rfl) (by kernel_rfl) (fun _ _ _ h => h) (Or.inl ⟨by rfl, ?_⟩) (by assumption) ?_
          rotate_left
          · intro wS hSw
            (try dsimp only at hSw)
            go_simp
            try (with_reducible rfl)
          try simp only [Act.put, List.setIfInBounds_toArray, List.set_cons_zero, List.set_cons_succ]
          refine wpAnyG_take (i := 6) (v := ?_) (by kernel_rfl) rfl (by kernel_rfl) (by kernel_rfl) (by kernel_rfl) (fun _ _ _ h => h) (Or.inl ⟨by rfl, ?_⟩) (by assumption) ?_
          rotate_left
          · intro wS hSw
            (try dsimp only at hSw)
            go_simp
            try (with_reducible rfl)
          try simp only [Act.put, List.setIfInBounds_toArray, List.set_cons_zero, List.set_cons_succ]
          refine wpAnyG_take (i := 7) (v := ?_) (by kernel_rfl) rfl (by kernel_rfl) (by kernel_rfl) (by kernel_rfl) (fun _ _ _ h => h) (Or.inl ⟨by rfl, ?_⟩) (by assumption) ?_
          rotate_left
          · intro wS hSw
            (try dsimp only at hSw)
            go_simp
            try (with_reducible rfl)
          try simp only [Act.put, List.setIfInBounds_toArray, List.set_cons_zero, List.set_cons_succ]
          refine wpAnyG_take (i := 8) (v := ?_) (by kernel_rfl) rfl (by kernel_rfl) (by kernel_rfl) (by kernel_rfl) (fun _ _ _ h => h) (Or.inl ⟨by rfl, ?_⟩) (by assumption) ?_
          rotate_left
          · intro wS hSw
            (try dsimp only at hSw)
            go_simp
            try (with_reducible rfl)
          try simp only [Act.put, List.setIfInBounds_toArray, List.set_cons_zero, List.set_cons_succ]
          refine wpAnyG_take (i := 9) (v := ?_) (by kernel_rfl) rfl (by kernel_rfl) (by kernel_rfl) (by kernel_rfl) (fun _ _ _ h => h) (Or.inl ⟨by rfl, ?_⟩) (by assumption) ?_
          rotate_left
          · intro wS hSw
            (try dsimp only at hSw)
            go_simp
            try (with_reducible rfl)
          try simp only [Act.put, List.setIfInBounds_toArray, List.set_cons_zero, List.set_cons_succ]
          refine wpAnyG_take (i := 10) (v := ?_) (by kernel_rfl) rfl (by kernel_rfl) (by kernel_rfl) (by kernel_rfl) (fun _ _ _ h => h) (Or.inl ⟨by rfl, ?_⟩) (by assumption) ?_
          rotate_left
          · intro wS hSw
            (try dsimp only at hSw)
            go_simp
            try (with_reducible rfl)
          try simp only [Act.put, List.setIfInBounds_toArray, List.set_cons_zero, List.set_cons_succ]
          refine wpAnyG_take (i := 11) (v := ?_) (by kernel_rfl) rfl (by kernel_rfl) (by kernel_rfl) (by kernel_rfl) (fun _ _ _ h => h) (Or.inl ⟨by rfl, ?_⟩) (by assumption) ?_
          rotate_left
          · intro wS hSw
            (try dsimp only at hSw)
            go_simp
            try (with_reducible rfl)
          try simp only [Act.put, List.setIfInBounds_toArray, List.set_cons_zero, List.set_cons_succ]
          refine wpAnyG_take (i := 12) (v := ?_) (by kernel_rfl) rfl (by kernel_rfl) (by kernel_rfl) (by kernel_rfl) (fun _ _ _ h => h) (Or.inl ⟨by rfl, ?_⟩) (by assumption) ?_
          rotate_left
          · intro wS hSw
            (try dsimp only at hSw)
            go_simp
            try (with_reducible rfl)
          try simp only [Act.put, List.setIfInBounds_toArray, List.set_cons_zero, List.set_cons_succ]
          refine wpAnyG_take (i := 13) (v := ?_) (by kernel_rfl) rfl (by kernel_rfl) (by kernel_rfl) (by kernel_rfl) (fun _ _ _ h => h) (Or.inl ⟨by rfl, ?_⟩) (by assumption) ?_
          rotate_left
          · intro wS hSw
            (try dsimp only at hSw)
            go_simp
            try (with_reducible rfl)
          try simp only [Act.put, List.setIfInBounds_toArray, List.set_cons_zero, List.set_cons_succ]
          refine wpAnyG_take (i := 14) (v := ?_) (by kernel_rfl) rfl (by kernel_rfl) (by kernel_rfl) (by kernel_rfl) (fun _ _ _ h => h) (Or.inl ⟨by rfl, ?_⟩) (by assumption) ?_
          rotate_left
          · intro wS hSw
            (try dsimp only at hSw)
            go_simp
            try (with_reducible rfl)
          try simp only [Act.put, List.setIfInBounds_toArray, List.set_cons_zero, List.set_cons_succ]
          refine wpAnyG_take (i := 15) (v := ?_) (by kernel_rfl) rfl (by kernel_rfl) (by kernel_rfl) (by kernel_rfl) (fun _ _ _ h => h) (Or.inl ⟨by rfl, ?_⟩) (by assumption) ?_
          rotate_left
          · intro wS hSw
            (try dsimp only at hSw)
            go_simp
            try (with_reducible rfl)
          try simp only [Act.put, List.setIfInBounds_toArray, List.set_cons_zero, List.set_cons_succ]
          refine wpAnyG_done (by kernel_rfl) (by kernel_rfl) (wpOp_plain rfl rfl ?_)
          go_simp
          clear hHeld f0 f1 f2 hm hj1 hj2 hj3 hj4 hj5
          go_wp2
          go_roundw
          case rel =>
            refine ⟨j, (j : Int) - 1, by go_num, rfl, by omega, ⟨_, bd (bS u.b hbg _)⟩, rfl, ?_⟩
            have h5 := (HO.out.stored (j * 2) (.int .i64 (LL D j j))).1.drew
            rw [row2_set0 (f' := LL D j) (by omega) (fun i hi hik => by unfold LL; split <;> split <;> first | rfl | omega), show LL D j j = fl D j by simp [LL]] at h5
            exact h5
          case measure => first | (simp [intOf]; done) | (simp [intOf]; omega)
end Go.Proofs.Ytkdlppekjjbgoaa
