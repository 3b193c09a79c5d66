/- Boxes of mouths: owned rows of pairs; Exact of the program. -/
import Derived.Test.YthbicbmlbblflaaC10

import Derived.OwnWalk

set_option linter.unusedSimpArgs false

set_option linter.unusedVariables false

namespace Go.Proofs.Ythbicbmlbblflaa

open Go.RowKit

theorem grown_none {w w' : World} (h : Below w.heap.size w w') : w.grownBy w' none := ⟨h.os, h.tape, h.output, h.size, fun k hk _ => h.block k hk⟩
theorem own_below {w w' : World} {base : Nat} {e : TypeId} {size : Nat} {v : Value} {n : Nat} {xs : List Value} (h : w.ownsRow base e size v n xs) (hb : Below w.heap.size w w') : w'.ownsRow base e size v n xs :=
  h.kept (grown_none hb) (by cases v.ownBlock <;> simp)
theorem own_base {w : World} {base b : Nat} {e : TypeId} {size : Nat} {v : Value} {n : Nat} {xs : List Value} (h : w.ownsRow base e size v n xs) (hb : b ≤ base) : w.ownsRow b e size v n xs :=
  ⟨h.1, h.2.imp id fun ⟨g, cap, cur, a, c, d⟩ => ⟨g, cap, cur, a, Nat.le_trans hb c, d⟩⟩
theorem below_grown {a w w' : World} {base : Nat} {e : TypeId} {size : Nat} {v : Value} {n : Nat} {xs : List Value} (h : Below a.heap.size a w) (ho : w.ownsRow base e size v n xs) (hb : a.heap.size ≤ base) (hg : w.grownBy w' v.ownBlock) : Below a.heap.size a w' :=
  h.grown hg h.size fun k hk => Nat.le_trans hb (ho.lt k hk).1
/-- what an owned value looks like -/
theorem own_form {w : World} {base : Nat} {e : TypeId} {size : Nat} {v : Value} {n : Nat} {xs : List Value} (h : w.ownsRow base e size v n xs) :
    ∃ p cap, v = .slice p n cap ∧ (0 < n → ∃ g, p = some ⟨g, 0, none⟩ ∧ base ≤ g ∧ g < w.heap.size ∧ (∀ j, j < n * size → w.cell? ⟨g, j, none⟩ = xs[j]?) ∧ ∀ j, w.frozen? ⟨g, j, none⟩ = false) := by
  rcases h.2 with ⟨rfl, rfl⟩ | ⟨g, cap, cur, rfl, hb, hg, _⟩
  · exact ⟨_, _, rfl, fun h => by omega⟩
  · exact ⟨_, _, rfl, fun _ => ⟨g, rfl, hb, (Array.getElem?_eq_some_iff.1 hg).1, fun j hj => h.cellAt j hj, fun j => h.frozenAt j⟩⟩
/-- rows of two numbers each -/
def row2 (f h : Nat → Int) : Nat → List Value
  | 0 => []
  | k + 1 => row2 f h k ++ [.int .i64 (f k), .int .i64 (h k)]
theorem row2_len (f h : Nat → Int) : ∀ k, (row2 f h k).length = k * 2
  | 0 => rfl
  | k + 1 => by unfold row2; rw [List.length_append, row2_len f h k]; simp; omega
theorem row2_at {f h : Nat → Int} : ∀ {n k : Nat}, k < n → (row2 f h n)[k * 2]? = some (.int .i64 (f k)) ∧ (row2 f h n)[k * 2 + 1]? = some (.int .i64 (h k))
  | 0, k, hk => absurd hk (Nat.not_lt_zero _)
  | n + 1, k, hk => by
    unfold row2
    have hl := row2_len f h n
    rcases Nat.lt_succ_iff_lt_or_eq.1 hk with h1 | rfl
    · obtain ⟨a, b⟩ := row2_at (f := f) (h := h) h1
      rw [List.getElem?_append_left (by omega), List.getElem?_append_left (by omega)]
      exact ⟨a, b⟩
    · rw [List.getElem?_append_right (by omega), List.getElem?_append_right (by omega), hl]
      simp
theorem row2_congr {f h f' h' : Nat → Int} : ∀ {n : Nat}, (∀ k, k < n → f k = f' k ∧ h k = h' k) → row2 f h n = row2 f' h' n
  | 0, _ => rfl
  | n + 1, H => by
    unfold row2
    rw [row2_congr fun k hk => H k (by omega), (H n (by omega)).1, (H n (by omega)).2]
theorem infoRt : (Try.prog.info? 63).map (fun i => (i.zero, i.size, i.bytes)) = some (some (.agg #[.int .i64 0, .int .i64 0]), 2, 16) := by kernel_rfl
/-- a list of pairs in memory -/
def PairIn (w : World) (K n : Nat) (f h : Nat → Int) (q : Option Addr) : Prop :=
  0 < n → ∃ g, q = some ⟨g, 0, none⟩ ∧ g < K ∧ ∀ k, k < n → w.cell? ⟨g, k * 2, none⟩ = some (.int .i64 (f k)) ∧ w.cell? ⟨g, k * 2 + 1, none⟩ = some (.int .i64 (h k))
theorem PairIn.bel {w w' : World} {n : Nat} {f h : Nat → Int} {q : Option Addr} (i : PairIn w w.heap.size n f h q) (hb : Below w.heap.size w w') : PairIn w' w'.heap.size n f h q := fun h0 => by
  obtain ⟨g, e, l, c⟩ := i h0
  exact ⟨g, e, Nat.lt_of_lt_of_le l hb.size, fun k hk => ⟨(hb.cell l).trans (c k hk).1, (hb.cell l).trans (c k hk).2⟩⟩
theorem pair_own {w : World} {base : Nat} {e : TypeId} {v : Value} {n : Nat} {f h : Nat → Int} (o : w.ownsRow base e 2 v n (row2 f h n)) : ∃ p c, v = .slice p n c ∧ PairIn w w.heap.size n f h p := by
  obtain ⟨p, c, rfl, hf⟩ := own_form o
  refine ⟨p, c, rfl, fun h0 => ?_⟩
  obtain ⟨g, e, _, l, hc, _⟩ := hf h0
  exact ⟨g, e, l, fun k hk => ⟨(hc _ (by omega)).trans (row2_at hk).1, (hc _ (by omega)).trans (row2_at hk).2⟩⟩
set_option maxRecDepth 100000 in
set_option maxHeartbeats 4000000 in
theorem exactP_ok (D : Bx) (p q : Option Addr) (c d F : Nat) (w : World) (hok : D.ok = true) (hF : F ≤ 40) (hi : BxIn w w.heap.size D p q) :
    Calls Try.prog 35 #[.agg #[.slice p D.n c, .slice q D.m d], .int .i64 (F : Int)] w fun e w' => ∃ y c', e = .returned (.tuple #[.slice y D.n c', .int .i64 0]) ∧ Below w.heap.size w w' ∧ PairIn w' w'.heap.size D.n (exN D F) (exD D F) y := by
  obtain ⟨i0, hi0, hz0, hz1, hz2⟩ := info_parts infoRt
  have I1 := Lib.hid hi0; have I2 := Lib.hid hz0; have I3 := Lib.hid hz1; have I4 := Lib.hid hz2; clear hi0 hz0 hz1 hz2
  obtain ⟨w1, x, hw1, hb1, hz1, F0, F1⟩ := box_bx w p q D.n D.m c d
  have hn5 := (Bx.ok_parts hok).1
  have hm5 : D.m ≤ 5 := by have := (Bx.ok_parts hok).2.1; omega
  have HB := Lib.hid hb1
  have HI : Hid (∀ x : Ext w1, BxIn x.v x.v.heap.size D p q) := fun x => (hi.bel hb1).bel x.b
  have hw : within (F : Int) 0 40 = true := within_tt (by omega) (by omega)
  have HV := Lib.hid ((allW_one (F : Int) 0 40).trans hw)
  have HCE := Lib.hid (chkE_ok.2 ⟨hok, rfl⟩)
  have HOK := Lib.hid hok
  clear hb1 hz1 hi hw hok
  go_enter Try.func35, Try.ntmps35
  go_wp2
  refine wp_region_lastE 5 (by kernel_rfl) rfl (fun yr => ?_)
  refine wpAnyG_take (i := 0) (v := ?_) (by kernel_rfl) rfl (by kernel_rfl) (by kernel_rfl) (by kernel_rfl) (fun _ _ _ h => h) (Or.inl ⟨by rfl, ?_⟩) ⟨_, rfl⟩ ?_
  rotate_left
  · rintro wS ⟨yS, rfl⟩
    go_simp
    try (with_reducible rfl)
  try simp only [Act.put, List.setIfInBounds_toArray, List.set_cons_zero, List.set_cons_succ]
  refine wpAnyG_take (i := 1) (v := ?_) (by kernel_rfl) rfl (by kernel_rfl) (by kernel_rfl) (by kernel_rfl) (fun _ _ _ h => h) (Or.inl ⟨by rfl, ?_⟩) ⟨_, rfl⟩ ?_
  rotate_left
  · rintro wS ⟨yS, rfl⟩
    go_simp
    try (with_reducible rfl)
  try simp only [Act.put, List.setIfInBounds_toArray, List.set_cons_zero, List.set_cons_succ]
  refine wpAnyG_one (i := 2) (by kernel_rfl) (by decide) (wpOp_plain rfl rfl ?_)
  go_simp
  obtain ⟨ya, hya, hna⟩ := one_flow (x := yr) (fl := (F : Int)) (t := 3)
  have HN := Lib.hid hna; clear hna
  rw [hya]; clear hya
  refine ⟨⟨_, rfl⟩, ?_⟩
  try simp only [Act.put, List.setIfInBounds_toArray, List.set_cons_zero, List.set_cons_succ]
  refine wpAnyG_one (i := 3) (by kernel_rfl) (by decide) (wpOp_plain rfl rfl ?_)
  go_simp
  go_at_call 62
  refine (areFlows_any 1 1 (fun _ => (F : Int)) _ _ (by omega) HN.out).mono ?_
  rintro e w' ⟨rfl, rfl⟩
  rw [HV.out]
  refine ⟨⟨_, rfl⟩, ?_⟩
  try simp only [Act.put, List.setIfInBounds_toArray, List.set_cons_zero, List.set_cons_succ]
  refine wpAnyG_one (i := 4) (by kernel_rfl) (by decide) (wpOp_plain rfl rfl ?_)
  go_simp
  go_at_call 60
  refine (quiet_x (check_is HCE.out (by omega) (by omega) (HI.out _))).mono ?_
  rintro e w' ⟨rfl, yc, rfl⟩
  refine ⟨⟨_, rfl⟩, ?_⟩
  try simp only [Act.put, List.setIfInBounds_toArray, List.set_cons_zero, List.set_cons_succ]
  refine wpAnyG_done (by kernel_rfl) (by kernel_rfl) (wpOp_plain rfl rfl ?_)
  go_simp
  go_wp2
  go_loopw [7, 20] (fun v i wr => ∃ k : Nat, i = .int .i64 (k : Int) ∧ k ≤ D.n ∧ ∃ x : Ext w1, wr = x.v ∧ x.v.ownsRow w1.heap.size 63 2 v k (row2 (exN D F) (exD D F) k)) (fun _ i _ => D.n - (intOf i).toNat)
  case atStart => exact ⟨0, rfl, Nat.zero_le _, _, rfl, World.ownsRow_nil _ _ _ _⟩
  case round =>
    obtain ⟨k, rfl, hk, y, rfl, ho⟩ := hrel
    have HO := Lib.hid ho; clear ho hw1
    by_cases hlt : k < D.n
    · have j : decide ((k : Int) < (D.n : Int)) = true := by simp; omega
      have HX := Lib.hid (exact_any D p q c d k F _ HOK.out hF hlt (HI.out y))
      obtain ⟨pr, cr, rfl, _⟩ := own_form HO.out
      go_wp2_with fail
      refine (HX.out).mono ?_
      rintro e w3 ⟨rfl, hb3⟩
      have HO3 := Lib.hid (own_below HO.out hb3)
      have HB3 := Lib.hid (bT y.b hb3)
      clear hb3
      go_wp2_with (at_builtin; refine wpList_append_own _ rfl _ _ 46 rfl w1.heap.size 63 i0 _ 2 16 Try.underlying46 I1.out I2.out I3.out I4.out rfl (by decide) _ _ _ rfl (HO3.out.alloc _) ⟨w3.heap.size, 0, none⟩ 1 1 [.int .i64 (exN D F k), .int .i64 (exD D F k)] rfl rfl ?c1 ?c2 ?c3 ?c4 ?c5 ?_)
      case c1 => exact World.news_of_block (cs := #[.int .i64 (exN D F k), .int .i64 (exD D F k)]) (t := 63) (fr := (0, 0)) (heap_alloc_new _)
      case c2 => simp [Value.oneCell']
      case c3 => unfold maxLen; omega
      case c4 => omega
      case c5 => have := HB3.out.size; first | omega | (simp; omega)
      intro v' w4 hown hgrow _
      have HB4 := Lib.hid (below_grown (bA HB3.out _) (HO3.out.alloc _) (Nat.le_refl _) hgrow)
      have HOW := Lib.hid hown
      clear hown hgrow
      go_wp2
      go_roundw
      case rel => exact ⟨k + 1, by go_num, hlt, ⟨w4, HB4.out⟩, rfl, HOW.out⟩
      case measure => first | (simp [intOf]; done) | (simp [intOf]; omega)
    · obtain rfl : k = D.n := by omega
      obtain ⟨pr, cr, rfl, hnum⟩ := pair_own HO.out
      have HN := Lib.hid hnum
      have j : decide ((D.n : Int) < (D.n : Int)) = false := by simp
      clear hnum hlt
      go_wp2
      go_ret2
      exact ⟨_, _, rfl, bT HB.out y.b, HN.out⟩
set_option maxRecDepth 100000 in
set_option maxHeartbeats 4000000 in
theorem exactP_err (D : Bx) (p q : Option Addr) (c d : Nat) (fl : Int) (w : World) (hn : D.n ≤ 40) (hm : D.m ≤ 40) (hi : BxIn w w.heap.size D p q) (he : gE D fl ≠ 0) :
    Calls Try.prog 35 #[.agg #[.slice p D.n c, .slice q D.m d], .int .i64 fl] w fun e w' => e = .returned (.tuple #[.slice none 0 0, .int .i64 (gE D fl)]) ∧ Below w.heap.size w w' := by
  obtain ⟨w1, x, hw1, hb1, hz1, F0, F1⟩ := box_bx w p q D.n D.m c d
  have HB := Lib.hid hb1
  have HI : Hid (∀ x : Ext w1, BxIn x.v x.v.heap.size D p q) := fun x => (hi.bel hb1).bel x.b
  have HV := Lib.hid (allW_one fl 0 40)
  have j0 := askF_err he
  have HA := Lib.hid (show ∀ V : World, BxIn V V.heap.size D p q → Calls Try.prog 60 #[.agg #[.slice p D.n c, .slice q D.m d], .bool (within fl 0 40)] V fun e w' => e = .returned (.int .i64 (gE D fl)) ∧ Below V.heap.size V w' from fun V h => check_is rfl hn hm h)
  clear hb1 hz1 hi he
  go_enter Try.func35, Try.ntmps35
  go_wp2
  refine wp_region_lastE 5 (by kernel_rfl) rfl (fun yr => ?_)
  refine wpAnyG_take (i := 0) (v := ?_) (by kernel_rfl) rfl (by kernel_rfl) (by kernel_rfl) (by kernel_rfl) (fun _ _ _ h => h) (Or.inl ⟨by rfl, ?_⟩) ⟨_, rfl⟩ ?_
  rotate_left
  · rintro wS ⟨yS, rfl⟩
    go_simp
    try (with_reducible rfl)
  try simp only [Act.put, List.setIfInBounds_toArray, List.set_cons_zero, List.set_cons_succ]
  refine wpAnyG_take (i := 1) (v := ?_) (by kernel_rfl) rfl (by kernel_rfl) (by kernel_rfl) (by kernel_rfl) (fun _ _ _ h => h) (Or.inl ⟨by rfl, ?_⟩) ⟨_, rfl⟩ ?_
  rotate_left
  · rintro wS ⟨yS, rfl⟩
    go_simp
    try (with_reducible rfl)
  try simp only [Act.put, List.setIfInBounds_toArray, List.set_cons_zero, List.set_cons_succ]
  refine wpAnyG_one (i := 2) (by kernel_rfl) (by decide) (wpOp_plain rfl rfl ?_)
  go_simp
  obtain ⟨ya, hya, hna⟩ := one_flow (x := yr) (fl := fl) (t := 3)
  have HN := Lib.hid hna; clear hna
  rw [hya]; clear hya
  refine ⟨⟨_, rfl⟩, ?_⟩
  try simp only [Act.put, List.setIfInBounds_toArray, List.set_cons_zero, List.set_cons_succ]
  refine wpAnyG_one (i := 3) (by kernel_rfl) (by decide) (wpOp_plain rfl rfl ?_)
  go_simp
  go_at_call 62
  refine (areFlows_any 1 1 (fun _ => fl) _ _ (by omega) HN.out).mono ?_
  rintro e w' ⟨rfl, rfl⟩
  rw [HV.out]
  refine ⟨⟨_, rfl⟩, ?_⟩
  try simp only [Act.put, List.setIfInBounds_toArray, List.set_cons_zero, List.set_cons_succ]
  refine wpAnyG_one (i := 4) (by kernel_rfl) (by decide) (wpOp_plain rfl rfl ?_)
  go_simp
  go_at_call 60
  refine (quiet_x (HA.out _ (HI.out _))).mono ?_
  rintro e w' ⟨rfl, yc, rfl⟩
  refine ⟨⟨_, rfl⟩, ?_⟩
  try simp only [Act.put, List.setIfInBounds_toArray, List.set_cons_zero, List.set_cons_succ]
  refine wpAnyG_done (by kernel_rfl) (by kernel_rfl) (wpOp_plain rfl rfl ?_)
  go_simp
  go_wp2
  go_ret2
  exact ⟨rfl, bT HB.out yc.b⟩
end Go.Proofs.Ythbicbmlbblflaa
