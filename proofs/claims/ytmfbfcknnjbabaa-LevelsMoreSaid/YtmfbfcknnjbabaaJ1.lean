/- The contracts of Many, Far and ready, for any town; of Differ and Higher of a town without a truth. -/
import Derived.Test.YtmfbfcknnjbabaaG9
set_option linter.unusedSimpArgs false
set_option linter.unusedVariables false
namespace Go.Proofs.Ytmfbfcknnjbabaa
open Go.RowKit

set_option maxRecDepth 100000 in
set_option maxHeartbeats 2000000 in
theorem many_ex (W : Int) (p q : Option Addr) (m n c d : Nat) (w : World) (hm : m ≤ 1000000) (hn : n ≤ 1000000) :
    Calls Try.prog 50 #[.agg #[.int .i64 W, .slice p m c, .slice q n d]] w fun e w' => e = .returned (.int .i64 ((m : Int) + n)) ∧ Below w.heap.size w w' := by
  obtain ⟨w1, hw1, hb1, hz1, k0, k1, k2⟩ := box_town w W p q m n c d
  have HB1 := Lib.hid hb1; clear hb1
  go_enter Try.func50, Try.ntmps50
  go_wp2
  go_ret
  exact ⟨rfl, HB1.out⟩

/-- what ready asks -/
def rdy (T : Town) : Bool := T.ok && (decide (T.W ≤ 5) && decide (T.s.length + T.r.length ≤ 8))
def farB (T : Town) : Bool := decide (40 < T.s.length ∨ 40 < T.r.length) || ((decide (5 < T.W) || decide (8 < T.s.length + T.r.length)) && T.ok)

set_option maxRecDepth 100000 in
set_option maxHeartbeats 4000000 in
theorem far_any (T : Town) (p q : Option Addr) (c d : Nat) (w : World) (ht : TownIn w w.heap.size T p q) :
    Calls Try.prog 32 #[.agg #[.int .i64 T.W, .slice p T.s.length c, .slice q T.r.length d]] w fun e w' => e = .returned (.bool (farB T)) ∧ Below w.heap.size w w' := by
  obtain ⟨w1, hw1, hb1, hz1, k0, k1, k2⟩ := box_town w T.W p q T.s.length T.r.length c d
  have hl1 : w.heap.size < w1.heap.size := by omega
  have hhuge := huge_any T.W p q T.s.length T.r.length c d w1
  have HB1 := Lib.hid hb1; have HT := Lib.hid ht; clear hb1 ht
  by_cases h1 : 40 < T.s.length ∨ 40 < T.r.length
  · rw [decide_eq_true h1] at hhuge
    have HH := Lib.hid hhuge
    have HE : Hid (farB T = true) := by show _ = _; simp [farB, h1]
    clear hhuge h1
    go_enter Try.func32, Try.ntmps32
    go_wp2_with (go_at_call 15; refine HH.out.mono ?_; rintro e w2 ⟨rfl, hb2⟩; go_must (have HB2 := Lib.hid hb2; clear hb2))
    go_ret
    exact ⟨ret_b HE.out.symm, bT HB1.out HB2.out⟩
  · rw [decide_eq_false h1] at hhuge
    have hmany := fun V => many_ex T.W p q T.s.length T.r.length c d V (by omega) (by omega)
    have hcheck := fun V (hV : Below w.heap.size w V) => checkR_any T p q c d V (by omega) (by omega) (HT.out.bel hV)
    have HH := Lib.hid hhuge; have HM := Lib.hid hmany
    have hf : farB T = ((decide (5 < T.W) || decide (8 < T.s.length + T.r.length)) && T.ok) := by simp [farB, h1]
    clear hhuge hmany h1
    by_cases h2 : 5 < T.W
    · have d2 : decide (5 < T.W) = true := decide_eq_true h2
      cases hok : T.ok with
      | true =>
        rw [hok, show vErr true = 0 from rfl] at hcheck
        have HE : Hid (farB T = true) := by show _ = _; rw [hf, d2, hok]; rfl
        have HC := Lib.hid hcheck
        clear hcheck hf hok
        go_enter Try.func32, Try.ntmps32
        go_wp2_with (first
          | (go_at_call 15; refine HH.out.mono ?_; rintro e w2 ⟨rfl, hb2⟩; go_must (have HB2 := Lib.hid (bT HB1.out hb2); have j0 := (hb2.cell (p := ⟨w.heap.size, 0, none⟩) hl1).trans k0; have j1 := (hb2.cell (p := ⟨w.heap.size, 1, none⟩) hl1).trans k1; have j2 := (hb2.cell (p := ⟨w.heap.size, 2, none⟩) hl1).trans k2; clear hb2))
          | (go_at_call 21; refine (HC.out _ HB2.out).mono ?_; rintro e w3 ⟨rfl, hb3⟩; go_must (have HB3 := Lib.hid (bT HB2.out hb3); clear hb3)))
        go_ret
        exact ⟨ret_b HE.out.symm, HB3.out⟩
      | false =>
        rw [hok, show vErr false = 10 from rfl] at hcheck
        have HE : Hid (farB T = false) := by show _ = _; rw [hf, hok]; simp
        have HC := Lib.hid hcheck
        clear hcheck hf hok
        go_enter Try.func32, Try.ntmps32
        go_wp2_with (first
          | (go_at_call 15; refine HH.out.mono ?_; rintro e w2 ⟨rfl, hb2⟩; go_must (have HB2 := Lib.hid (bT HB1.out hb2); have j0 := (hb2.cell (p := ⟨w.heap.size, 0, none⟩) hl1).trans k0; have j1 := (hb2.cell (p := ⟨w.heap.size, 1, none⟩) hl1).trans k1; have j2 := (hb2.cell (p := ⟨w.heap.size, 2, none⟩) hl1).trans k2; clear hb2))
          | (go_at_call 21; refine (HC.out _ HB2.out).mono ?_; rintro e w3 ⟨rfl, hb3⟩; go_must (have HB3 := Lib.hid (bT HB2.out hb3); clear hb3)))
        go_ret
        exact ⟨ret_b HE.out.symm, HB3.out⟩
    · have d2 : decide (5 < T.W) = false := decide_eq_false h2
      by_cases h3 : 8 < T.s.length + T.r.length
      · have d3 : decide (8 < (T.s.length : Int) + (T.r.length : Int)) = true := decide_eq_true (by omega)
        have d3' : decide (8 < T.s.length + T.r.length) = true := decide_eq_true h3
        have D3 := Lib.hid d3'
        clear d3'
        cases hok : T.ok with
        | true =>
          rw [hok, show vErr true = 0 from rfl] at hcheck
          have HE : Hid (farB T = true) := by show _ = _; rw [hf, D3.out, hok]; simp
          have HC := Lib.hid hcheck
          clear hcheck hf hok
          go_enter Try.func32, Try.ntmps32
          go_wp2_with (first
            | (go_at_call 15; refine HH.out.mono ?_; rintro e w2 ⟨rfl, hb2⟩; go_must (have HB2 := Lib.hid (bT HB1.out hb2); have l2 : w.heap.size < w2.heap.size := (by have := hb2.size; omega); have j0 := (hb2.cell (p := ⟨w.heap.size, 0, none⟩) hl1).trans k0; have j1 := (hb2.cell (p := ⟨w.heap.size, 1, none⟩) hl1).trans k1; have j2 := (hb2.cell (p := ⟨w.heap.size, 2, none⟩) hl1).trans k2; clear hb2))
            | (go_at_call 50; refine (HM.out _).mono ?_; rintro e w4 ⟨rfl, hb4⟩; go_must (have HB4 := Lib.hid (bT HB2.out hb4); have m0 := (hb4.cell (p := ⟨w.heap.size, 0, none⟩) l2).trans j0; have m1 := (hb4.cell (p := ⟨w.heap.size, 1, none⟩) l2).trans j1; have m2 := (hb4.cell (p := ⟨w.heap.size, 2, none⟩) l2).trans j2; clear hb4))
            | (go_at_call 21; refine (HC.out _ HB4.out).mono ?_; rintro e w3 ⟨rfl, hb3⟩; go_must (have HB3 := Lib.hid (bT HB4.out hb3); clear hb3)))
          go_ret
          exact ⟨ret_b HE.out.symm, HB3.out⟩
        | false =>
          rw [hok, show vErr false = 10 from rfl] at hcheck
          have HE : Hid (farB T = false) := by show _ = _; rw [hf, hok]; simp
          have HC := Lib.hid hcheck
          clear hcheck hf hok
          go_enter Try.func32, Try.ntmps32
          go_wp2_with (first
            | (go_at_call 15; refine HH.out.mono ?_; rintro e w2 ⟨rfl, hb2⟩; go_must (have HB2 := Lib.hid (bT HB1.out hb2); have l2 : w.heap.size < w2.heap.size := (by have := hb2.size; omega); have j0 := (hb2.cell (p := ⟨w.heap.size, 0, none⟩) hl1).trans k0; have j1 := (hb2.cell (p := ⟨w.heap.size, 1, none⟩) hl1).trans k1; have j2 := (hb2.cell (p := ⟨w.heap.size, 2, none⟩) hl1).trans k2; clear hb2))
            | (go_at_call 50; refine (HM.out _).mono ?_; rintro e w4 ⟨rfl, hb4⟩; go_must (have HB4 := Lib.hid (bT HB2.out hb4); have m0 := (hb4.cell (p := ⟨w.heap.size, 0, none⟩) l2).trans j0; have m1 := (hb4.cell (p := ⟨w.heap.size, 1, none⟩) l2).trans j1; have m2 := (hb4.cell (p := ⟨w.heap.size, 2, none⟩) l2).trans j2; clear hb4))
            | (go_at_call 21; refine (HC.out _ HB4.out).mono ?_; rintro e w3 ⟨rfl, hb3⟩; go_must (have HB3 := Lib.hid (bT HB4.out hb3); clear hb3)))
          go_ret
          exact ⟨ret_b HE.out.symm, HB3.out⟩
      · have d3 : decide (8 < (T.s.length : Int) + (T.r.length : Int)) = false := decide_eq_false (by omega)
        have HE : Hid (farB T = false) := by show _ = _; rw [hf, d2, decide_eq_false h3]; rfl
        clear hcheck hf h3
        go_enter Try.func32, Try.ntmps32
        go_wp2_with (first
          | (go_at_call 15; refine HH.out.mono ?_; rintro e w2 ⟨rfl, hb2⟩; go_must (have HB2 := Lib.hid (bT HB1.out hb2); have l2 : w.heap.size < w2.heap.size := (by have := hb2.size; omega); have j0 := (hb2.cell (p := ⟨w.heap.size, 0, none⟩) hl1).trans k0; have j1 := (hb2.cell (p := ⟨w.heap.size, 1, none⟩) hl1).trans k1; have j2 := (hb2.cell (p := ⟨w.heap.size, 2, none⟩) hl1).trans k2; clear hb2))
          | (go_at_call 50; refine (HM.out _).mono ?_; rintro e w4 ⟨rfl, hb4⟩; go_must (have HB4 := Lib.hid (bT HB2.out hb4); clear hb4)))
        go_ret
        exact ⟨ret_b HE.out.symm, HB4.out⟩

set_option maxRecDepth 100000 in
set_option maxHeartbeats 4000000 in
theorem ready_any (T : Town) (p q : Option Addr) (c d : Nat) (w : World) (ht : TownIn w w.heap.size T p q) :
    Calls Try.prog 45 #[.agg #[.int .i64 T.W, .slice p T.s.length c, .slice q T.r.length d]] w fun e w' => e = .returned (.bool (rdy T)) ∧ Below w.heap.size w w' := by
  obtain ⟨w1, hw1, hb1, hz1, k0, k1, k2⟩ := box_town w T.W p q T.s.length T.r.length c d
  have hl1 : w.heap.size < w1.heap.size := by omega
  have hfar := far_any T p q c d w1 (ht.bel hb1)
  have HB1 := Lib.hid hb1; clear hb1
  cases hf : farB T with
  | true =>
    rw [hf] at hfar
    have HE : Hid (rdy T = false) := by
      show _ = _
      simp only [farB, Bool.or_eq_true, decide_eq_true_eq, Bool.and_eq_true] at hf
      cases ho : T.ok with
      | false => simp [rdy, ho]
      | true =>
        have : ¬ (T.W ≤ 5 ∧ T.s.length + T.r.length ≤ 8) := by omega
        simp only [rdy, ho, Bool.true_and, Bool.and_eq_false_iff, decide_eq_false_iff_not]
        omega
    have HF := Lib.hid hfar
    clear hfar hf ht
    go_enter Try.func45, Try.ntmps45
    go_wp2_with (go_at_call 32; refine HF.out.mono ?_; rintro e w2 ⟨rfl, hb2⟩; go_must (have HB2 := Lib.hid hb2; clear hb2))
    go_ret
    exact ⟨ret_b HE.out.symm, bT HB1.out HB2.out⟩
  | false =>
    rw [hf] at hfar
    have hc : T.s.length ≤ 40 ∧ T.r.length ≤ 40 ∧ rdy T = T.ok := by
      simp only [farB, Bool.or_eq_false_iff, decide_eq_false_iff_not, Bool.and_eq_false_iff] at hf
      refine ⟨by omega, by omega, ?_⟩
      cases ho : T.ok with
      | false => simp [rdy, ho]
      | true =>
        have : T.W ≤ 5 ∧ T.s.length + T.r.length ≤ 8 := by
          rcases hf.2 with h | h
          · simp at h; omega
          · rw [ho] at h; cases h
        simp only [rdy, ho, Bool.true_and, Bool.and_eq_true, decide_eq_true_eq]
        exact this
    have hcheck := fun V (hV : Below w.heap.size w V) => checkR_any T p q c d V (by omega) (by omega) (ht.bel hV)
    have HF := Lib.hid hfar
    cases hok : T.ok with
    | true =>
      rw [hok, show vErr true = 0 from rfl] at hcheck
      have HE : Hid (rdy T = true) := by show _ = _; rw [hc.2.2, hok]
      have HC := Lib.hid hcheck
      clear hfar hf ht hcheck hc hok
      go_enter Try.func45, Try.ntmps45
      go_wp2_with (first
        | (go_at_call 32; refine HF.out.mono ?_; rintro e w2 ⟨rfl, hb2⟩; go_must (have HB2 := Lib.hid (bT HB1.out hb2); have j0 := (hb2.cell (p := ⟨w.heap.size, 0, none⟩) hl1).trans k0; have j1 := (hb2.cell (p := ⟨w.heap.size, 1, none⟩) hl1).trans k1; have j2 := (hb2.cell (p := ⟨w.heap.size, 2, none⟩) hl1).trans k2; clear hb2))
        | (go_at_call 21; refine (HC.out _ HB2.out).mono ?_; rintro e w3 ⟨rfl, hb3⟩; go_must (have HB3 := Lib.hid (bT HB2.out hb3); clear hb3)))
      go_ret
      exact ⟨ret_b HE.out.symm, HB3.out⟩
    | false =>
      rw [hok, show vErr false = 10 from rfl] at hcheck
      have HE : Hid (rdy T = false) := by show _ = _; rw [hc.2.2, hok]
      have HC := Lib.hid hcheck
      clear hfar hf ht hcheck hc hok
      go_enter Try.func45, Try.ntmps45
      go_wp2_with (first
        | (go_at_call 32; refine HF.out.mono ?_; rintro e w2 ⟨rfl, hb2⟩; go_must (have HB2 := Lib.hid (bT HB1.out hb2); have j0 := (hb2.cell (p := ⟨w.heap.size, 0, none⟩) hl1).trans k0; have j1 := (hb2.cell (p := ⟨w.heap.size, 1, none⟩) hl1).trans k1; have j2 := (hb2.cell (p := ⟨w.heap.size, 2, none⟩) hl1).trans k2; clear hb2))
        | (go_at_call 21; refine (HC.out _ HB2.out).mono ?_; rintro e w3 ⟨rfl, hb3⟩; go_must (have HB3 := Lib.hid (bT HB2.out hb3); clear hb3)))
      go_ret
      exact ⟨ret_b HE.out.symm, HB3.out⟩
end Go.Proofs.Ytmfbfcknnjbabaa
