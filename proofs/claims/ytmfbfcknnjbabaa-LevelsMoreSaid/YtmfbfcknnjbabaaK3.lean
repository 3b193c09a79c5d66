/- The contract of ends, of a valid town. -/
import Derived.Test.YtmfbfcknnjbabaaK2
set_option linter.unusedSimpArgs false
set_option linter.unusedVariables false
namespace Go.Proofs.Ytmfbfcknnjbabaa
open Go.RowKit

def lows (M : List Int) (n : Nat) : List Int := (lv M n).map fun x => x.1
def highs (M : List Int) (n : Nat) : List Int := (lv M n).map fun x => x.2
theorem lows_len (M : List Int) (n : Nat) : (lows M n).length = n := by simp [lows, lv_len]
theorem highs_len (M : List Int) (n : Nat) : (highs M n).length = n := by simp [highs, lv_len]
theorem lowest_i (T : Town) (M : List Int) (n : Nat) (p q : Option Addr) (c d : Nat) (w : World) (hok : T.ok = true) (hk : kn T = some M) (hn : T.W = n) (ht : TownIn w w.heap.size T p q) :
    Calls Try.prog 26 #[.agg #[.int .i64 T.W, .slice p T.s.length c, .slice q T.r.length d]] w fun e w' => ∃ p' c', e = .returned (.tuple #[.slice p' n c', .int .i64 0]) ∧ Ints w' p' (lows M n) ∧ Below w.heap.size w w' := by
  refine (lowest_ok T M n p q c d w hok hk hn ht).mono ?_
  rintro e w' ⟨v, rfl, ho, hb⟩
  obtain ⟨p', c', rfl, _⟩ := own_form ho
  refine ⟨p', c', rfl, ints_own (n := n) (c := c') (base := w.heap.size) ?_, hb⟩
  rw [lows, List.map_map]
  exact ho
theorem highest_i (T : Town) (M : List Int) (n : Nat) (p q : Option Addr) (c d : Nat) (w : World) (hok : T.ok = true) (hk : kn T = some M) (hn : T.W = n) (ht : TownIn w w.heap.size T p q) :
    Calls Try.prog 28 #[.agg #[.int .i64 T.W, .slice p T.s.length c, .slice q T.r.length d]] w fun e w' => ∃ p' c', e = .returned (.tuple #[.slice p' n c', .int .i64 0]) ∧ Ints w' p' (highs M n) ∧ Below w.heap.size w w' := by
  refine (highest_ok T M n p q c d w hok hk hn ht).mono ?_
  rintro e w' ⟨v, rfl, ho, hb⟩
  obtain ⟨p', c', rfl, _⟩ := own_form ho
  refine ⟨p', c', rfl, ints_own (n := n) (c := c') (base := w.heap.size) ?_, hb⟩
  rw [highs, List.map_map]
  exact ho
theorem results_tmp4 {fn : Func} {t u v x : Tmp} (h : fn.results = #[.tmp t, .tmp u, .tmp v, .tmp x]) (tmps : Array Value) (P : Program) (w : World) :
    (results fn tmps).run P w = .ok (.tuple #[tmps.getD t undef, tmps.getD u undef, tmps.getD v undef, tmps.getD x undef]) w := by simp [results, h]
theorem is_truth_t (T : Town) (p q : Option Addr) (c d : Nat) (xs : List Int) (x : Option Addr) (cx n : Nat) (w : World) (hx : xs.length ≤ 1000000) (hn : xs.length = n) (hok : T.ok = true) (hT : truth T xs = true) (ht : TownIn w w.heap.size T p q) (hi : Ints w x xs) :
    Calls Try.prog 46 #[.agg #[.int .i64 T.W, .slice p T.s.length c, .slice q T.r.length d], .slice x n cx] w fun e w' => e = .returned (.bool true) ∧ Below w.heap.size w w' := by
  subst hn
  have := isTruthR_any T p q c d xs x cx w hx hok ht hi
  rw [hT] at this
  exact this

set_option maxRecDepth 100000 in
set_option maxHeartbeats 4000000 in
theorem ends_some (T : Town) (M : List Int) (n : Nat) (p q : Option Addr) (c d : Nat) (w : World) (hok : T.ok = true) (hk : kn T = some M) (hn : T.W = n) (ht : TownIn w w.heap.size T p q) :
    Calls Try.prog 47 #[.agg #[.int .i64 T.W, .slice p T.s.length c, .slice q T.r.length d]] w fun e w' => ∃ p1 c1 p2 c2, e = .returned (.tuple #[.slice p1 n c1, .slice p2 n c2, .bool true, .bool true]) ∧ Ints w' p1 (lows M n) ∧ Ints w' p2 (highs M n) ∧ Below w.heap.size w w' := by
  obtain ⟨w1, hw1, hb1, hz1, k0, k1, k2⟩ := box_town w T.W p q T.s.length T.r.length c d
  have l0 : w.heap.size < w1.heap.size := by omega
  have hW := ok_W hok
  have hlo : ∀ V, Below w.heap.size w V → _ := fun V hV => lowest_i T M n p q c d V hok hk hn (ht.bel hV)
  have hhi : ∀ V, Below w.heap.size w V → _ := fun V hV => highest_i T M n p q c d V hok hk hn (ht.bel hV)
  have htl : ∀ V x cx, Below w.heap.size w V → Ints V x (lows M n) → _ := fun V x cx hV hi => is_truth_t T p q c d (lows M n) x cx n V (by rw [lows_len]; omega) (lows_len M n) hok (low_truth hok hk hn) (ht.bel hV) hi
  have hth : ∀ V x cx, Below w.heap.size w V → Ints V x (highs M n) → _ := fun V x cx hV hi => is_truth_t T p q c d (highs M n) x cx n V (by rw [highs_len]; omega) (highs_len M n) hok (high_truth hok hk hn) (ht.bel hV) hi
  have HLO := Lib.hid hlo; have HHI := Lib.hid hhi; have HTL := Lib.hid htl; have HTH := Lib.hid hth; have HB1 := Lib.hid hb1
  clear hlo hhi htl hth hb1 hz1 ht hok hk hn
  go_enter Try.func47, Try.ntmps47
  go_wp2_with fail
  refine (HLO.out _ HB1.out).mono ?_
  rintro e w2 ⟨p1, c1, rfl, hi1, hb2⟩
  have HB2 := Lib.hid (bT HB1.out hb2)
  have j0 := (hb2.cell (p := ⟨w.heap.size, 0, none⟩) l0).trans k0
  have j1 := (hb2.cell (p := ⟨w.heap.size, 1, none⟩) l0).trans k1
  have j2 := (hb2.cell (p := ⟨w.heap.size, 2, none⟩) l0).trans k2
  have l2 : w.heap.size < w2.heap.size := by have := hb2.size; omega
  have I1 := Lib.hid hi1
  clear hb2 hi1
  go_wp2_with fail
  refine (HHI.out _ HB2.out).mono ?_
  rintro e w3 ⟨p2, c2, rfl, hi2, hb3⟩
  have HB3 := Lib.hid (bT HB2.out hb3)
  have m0 := (hb3.cell (p := ⟨w.heap.size, 0, none⟩) l2).trans j0
  have m1 := (hb3.cell (p := ⟨w.heap.size, 1, none⟩) l2).trans j1
  have m2 := (hb3.cell (p := ⟨w.heap.size, 2, none⟩) l2).trans j2
  have l3 : w.heap.size < w3.heap.size := by have := hb3.size; omega
  have I1' := Lib.hid (I1.out.below hb3); have I2 := Lib.hid hi2
  clear hb3 hi2 j0 j1 j2
  go_wp2_with fail
  refine (isKnown_0 _).mono ?_
  rintro e w4 ⟨rfl, rfl⟩
  go_wp2_with fail
  refine (HTL.out _ _ _ HB3.out I1'.out).mono ?_
  rintro e w4 ⟨rfl, hb4⟩
  have HB4 := Lib.hid (bT HB3.out hb4)
  have n0 := (hb4.cell (p := ⟨w.heap.size, 0, none⟩) l3).trans m0
  have n1 := (hb4.cell (p := ⟨w.heap.size, 1, none⟩) l3).trans m1
  have n2 := (hb4.cell (p := ⟨w.heap.size, 2, none⟩) l3).trans m2
  have I1'' := Lib.hid (I1'.out.below hb4); have I2' := Lib.hid (I2.out.below hb4)
  clear hb4 m0 m1 m2
  go_wp2_with fail
  refine (HTH.out _ _ _ HB4.out I2'.out).mono ?_
  rintro e w5 ⟨rfl, hb5⟩
  have HB5 := Lib.hid (bT HB4.out hb5)
  have I3 := Lib.hid (I1''.out.below hb5); have I4 := Lib.hid (I2'.out.below hb5)
  clear hb5
  go_wp2_with fail
  refine bodyPost_ret (results_tmp4 Try.results47 _ _ _) rfl ?_
  exact ⟨p1, c1, p2, c2, rfl, I3.out, I4.out, HB5.out⟩

set_option maxRecDepth 100000 in
set_option maxHeartbeats 4000000 in
theorem ends_none (T : Town) (p q : Option Addr) (c d : Nat) (w : World) (hok : T.ok = true) (hk : kn T = none) (ht : TownIn w w.heap.size T p q) :
    Calls Try.prog 47 #[.agg #[.int .i64 T.W, .slice p T.s.length c, .slice q T.r.length d]] w fun e w' => e = .returned (.tuple #[.slice none 0 0, .slice none 0 0, .bool false, .bool true]) ∧ Below w.heap.size w w' := by
  obtain ⟨w1, hw1, hb1, hz1, k0, k1, k2⟩ := box_town w T.W p q T.s.length T.r.length c d
  have l0 : w.heap.size < w1.heap.size := by omega
  have hlo : ∀ V, Below w.heap.size w V → _ := fun V hV => lowest_no T p q c d V hok hk (ht.bel hV)
  have hhi : ∀ V, Below w.heap.size w V → _ := fun V hV => highest_no T p q c d V hok hk (ht.bel hV)
  have HLO := Lib.hid hlo; have HHI := Lib.hid hhi; have HB1 := Lib.hid hb1
  clear hlo hhi hb1 hz1 ht hok hk
  go_enter Try.func47, Try.ntmps47
  go_wp2_with fail
  refine (HLO.out _ HB1.out).mono ?_
  rintro e w2 ⟨rfl, hb2⟩
  have HB2 := Lib.hid (bT HB1.out hb2)
  have j0 := (hb2.cell (p := ⟨w.heap.size, 0, none⟩) l0).trans k0
  have j1 := (hb2.cell (p := ⟨w.heap.size, 1, none⟩) l0).trans k1
  have j2 := (hb2.cell (p := ⟨w.heap.size, 2, none⟩) l0).trans k2
  clear hb2
  go_wp2_with fail
  refine (HHI.out _ HB2.out).mono ?_
  rintro e w3 ⟨rfl, hb3⟩
  have HB3 := Lib.hid (bT HB2.out hb3)
  clear hb3
  go_wp2_with fail
  refine (isKnown_3 _).mono ?_
  rintro e w4 ⟨rfl, rfl⟩
  go_wp2_with fail
  refine bodyPost_ret (results_tmp4 Try.results47 _ _ _) rfl ?_
  exact ⟨rfl, HB3.out⟩
end Go.Proofs.Ytmfbfcknnjbabaa
