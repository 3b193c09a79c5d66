/- The contracts of Many, Far and ready, for any town; of Differ and Higher of a town without a truth. Differ of a town without a truth; IsWell and inside as they are met in a walk. -/
import Derived.Test.YtmfbfcknnjbabaaG9
import Derived.Test.YtmfbfcknnjbabaaG8
set_option linter.unusedSimpArgs false
set_option linter.unusedVariables false
namespace Go.Proofs.Ytmfbfcknnjbabaa
open Go.RowKit

set_option maxRecDepth 100000 in
set_option maxHeartbeats 2000000 in
theorem many_ex (W : Int) (p q : Option Addr) (m n c d : Nat) (w : World) (hm : m ≤ 1000000) (hn : n ≤ 1000000) :
    Calls Try.prog 50 #[.agg #[.int .i64 W, .slice p m c, .slice q n d]] w fun e w' => e = .returned (.int .i64 ((m : Int) + n)) ∧ Below w.heap.size w w' := by
  obtain ⟨w1, hw1, hb1, hz1, k0, k1, k2⟩ := box_town w W p q m n c d
  have HB1 := Lib.hid hb1; clear hb1
  go_enter Try.func50, Try.ntmps50
  go_wp2
  go_ret
  exact ⟨rfl, HB1.out⟩

/-- what ready asks -/
def rdy (T : Town) : Bool := T.ok && (decide (T.W ≤ 5) && decide (T.s.length + T.r.length ≤ 8))
def farB (T : Town) : Bool := decide (40 < T.s.length ∨ 40 < T.r.length) || ((decide (5 < T.W) || decide (8 < T.s.length + T.r.length)) && T.ok)

set_option maxRecDepth 100000 in
set_option maxHeartbeats 4000000 in
theorem far_any (T : Town) (p q : Option Addr) (c d : Nat) (w : World) (ht : TownIn w w.heap.size T p q) :
    Calls Try.prog 32 #[.agg #[.int .i64 T.W, .slice p T.s.length c, .slice q T.r.length d]] w fun e w' => e = .returned (.bool (farB T)) ∧ Below w.heap.size w w' := by
  obtain ⟨w1, hw1, hb1, hz1, k0, k1, k2⟩ := box_town w T.W p q T.s.length T.r.length c d
  have hl1 : w.heap.size < w1.heap.size := by omega
  have hhuge := huge_any T.W p q T.s.length T.r.length c d w1
  have HB1 := Lib.hid hb1; have HT := Lib.hid ht; clear hb1 ht
  by_cases h1 : 40 < T.s.length ∨ 40 < T.r.length
  · rw [decide_eq_true h1] at hhuge
    have HH := Lib.hid hhuge
    have HE : Hid (farB T = true) := by show _ = _; simp [farB, h1]
    clear hhuge h1
    go_enter Try.func32, Try.ntmps32
    go_wp2_with (go_at_call 15; refine HH.out.mono ?_; rintro e w2 ⟨rfl, hb2⟩; go_must (have HB2 := Lib.hid hb2; clear hb2))
    go_ret
    exact ⟨ret_b HE.out.symm, bT HB1.out HB2.out⟩
  · rw [decide_eq_false h1] at hhuge
    have hmany := fun V => many_ex T.W p q T.s.length T.r.length c d V (by omega) (by omega)
    have hcheck := fun V (hV : Below w.heap.size w V) => checkR_any T p q c d V (by omega) (by omega) (HT.out.bel hV)
    have HH := Lib.hid hhuge; have HM := Lib.hid hmany
    have hf : farB T = ((decide (5 < T.W) || decide (8 < T.s.length + T.r.length)) && T.ok) := by simp [farB, h1]
    clear hhuge hmany h1
    by_cases h2 : 5 < T.W
    · have d2 : decide (5 < T.W) = true := decide_eq_true h2
      cases hok : T.ok with
      | true =>
        rw [hok, show vErr true = 0 from rfl] at hcheck
        have HE : Hid (farB T = true) := by show _ = _; rw [hf, d2, hok]; rfl
        have HC := Lib.hid hcheck
        clear hcheck hf hok
        go_enter Try.func32, Try.ntmps32
        go_wp2_with (first
          | (go_at_call 15; refine HH.out.mono ?_; rintro e w2 ⟨rfl, hb2⟩; go_must (have HB2 := Lib.hid (bT HB1.out hb2); have j0 := (hb2.cell (p := ⟨w.heap.size, 0, none⟩) hl1).trans k0; have j1 := (hb2.cell (p := ⟨w.heap.size, 1, none⟩) hl1).trans k1; have j2 := (hb2.cell (p := ⟨w.heap.size, 2, none⟩) hl1).trans k2; clear hb2))
          | (go_at_call 21; refine (HC.out _ HB2.out).mono ?_; rintro e w3 ⟨rfl, hb3⟩; go_must (have HB3 := Lib.hid (bT HB2.out hb3); clear hb3)))
        go_ret
        exact ⟨ret_b HE.out.symm, HB3.out⟩
      | false =>
        rw [hok, show vErr false = 10 from rfl] at hcheck
        have HE : Hid (farB T = false) := by show _ = _; rw [hf, hok]; simp
        have HC := Lib.hid hcheck
        clear hcheck hf hok
        go_enter Try.func32, Try.ntmps32
        go_wp2_with (first
          | (go_at_call 15; refine HH.out.mono ?_; rintro e w2 ⟨rfl, hb2⟩; go_must (have HB2 := Lib.hid (bT HB1.out hb2); have j0 := (hb2.cell (p := ⟨w.heap.size, 0, none⟩) hl1).trans k0; have j1 := (hb2.cell (p := ⟨w.heap.size, 1, none⟩) hl1).trans k1; have j2 := (hb2.cell (p := ⟨w.heap.size, 2, none⟩) hl1).trans k2; clear hb2))
          | (go_at_call 21; refine (HC.out _ HB2.out).mono ?_; rintro e w3 ⟨rfl, hb3⟩; go_must (have HB3 := Lib.hid (bT HB2.out hb3); clear hb3)))
        go_ret
        exact ⟨ret_b HE.out.symm, HB3.out⟩
    · have d2 : decide (5 < T.W) = false := decide_eq_false h2
      by_cases h3 : 8 < T.s.length + T.r.length
      · have d3 : decide (8 < (T.s.length : Int) + (T.r.length : Int)) = true := decide_eq_true (by omega)
        have d3' : decide (8 < T.s.length + T.r.length) = true := decide_eq_true h3
        have D3 := Lib.hid d3'
        clear d3'
        cases hok : T.ok with
        | true =>
          rw [hok, show vErr true = 0 from rfl] at hcheck
          have HE : Hid (farB T = true) := by show _ = _; rw [hf, D3.out, hok]; simp
          have HC := Lib.hid hcheck
          clear hcheck hf hok
          go_enter Try.func32, Try.ntmps32
          go_wp2_with (first
            | (go_at_call 15; refine HH.out.mono ?_; rintro e w2 ⟨rfl, hb2⟩; go_must (have HB2 := Lib.hid (bT HB1.out hb2); have l2 : w.heap.size < w2.heap.size := (by have := hb2.size; omega); have j0 := (hb2.cell (p := ⟨w.heap.size, 0, none⟩) hl1).trans k0; have j1 := (hb2.cell (p := ⟨w.heap.size, 1, none⟩) hl1).trans k1; have j2 := (hb2.cell (p := ⟨w.heap.size, 2, none⟩) hl1).trans k2; clear hb2))
            | (go_at_call 50; refine (HM.out _).mono ?_; rintro e w4 ⟨rfl, hb4⟩; go_must (have HB4 := Lib.hid (bT HB2.out hb4); have m0 := (hb4.cell (p := ⟨w.heap.size, 0, none⟩) l2).trans j0; have m1 := (hb4.cell (p := ⟨w.heap.size, 1, none⟩) l2).trans j1; have m2 := (hb4.cell (p := ⟨w.heap.size, 2, none⟩) l2).trans j2; clear hb4))
            | (go_at_call 21; refine (HC.out _ HB4.out).mono ?_; rintro e w3 ⟨rfl, hb3⟩; go_must (have HB3 := Lib.hid (bT HB4.out hb3); clear hb3)))
          go_ret
          exact ⟨ret_b HE.out.symm, HB3.out⟩
        | false =>
          rw [hok, show vErr false = 10 from rfl] at hcheck
          have HE : Hid (farB T = false) := by show _ = _; rw [hf, hok]; simp
          have HC := Lib.hid hcheck
          clear hcheck hf hok
          go_enter Try.func32, Try.ntmps32
          go_wp2_with (first
            | (go_at_call 15; refine HH.out.mono ?_; rintro e w2 ⟨rfl, hb2⟩; go_must (have HB2 := Lib.hid (bT HB1.out hb2); have l2 : w.heap.size < w2.heap.size := (by have := hb2.size; omega); have j0 := (hb2.cell (p := ⟨w.heap.size, 0, none⟩) hl1).trans k0; have j1 := (hb2.cell (p := ⟨w.heap.size, 1, none⟩) hl1).trans k1; have j2 := (hb2.cell (p := ⟨w.heap.size, 2, none⟩) hl1).trans k2; clear hb2))
            | (go_at_call 50; refine (HM.out _).mono ?_; rintro e w4 ⟨rfl, hb4⟩; go_must (have HB4 := Lib.hid (bT HB2.out hb4); have m0 := (hb4.cell (p := ⟨w.heap.size, 0, none⟩) l2).trans j0; have m1 := (hb4.cell (p := ⟨w.heap.size, 1, none⟩) l2).trans j1; have m2 := (hb4.cell (p := ⟨w.heap.size, 2, none⟩) l2).trans j2; clear hb4))
            | (go_at_call 21; refine (HC.out _ HB4.out).mono ?_; rintro e w3 ⟨rfl, hb3⟩; go_must (have HB3 := Lib.hid (bT HB4.out hb3); clear hb3)))
          go_ret
          exact ⟨ret_b HE.out.symm, HB3.out⟩
      · have d3 : decide (8 < (T.s.length : Int) + (T.r.length : Int)) = false := decide_eq_false (by omega)
        have HE : Hid (farB T = false) := by show _ = _; rw [hf, d2, decide_eq_false h3]; rfl
        clear hcheck hf h3
        go_enter Try.func32, Try.ntmps32
        go_wp2_with (first
          | (go_at_call 15; refine HH.out.mono ?_; rintro e w2 ⟨rfl, hb2⟩; go_must (have HB2 := Lib.hid (bT HB1.out hb2); have l2 : w.heap.size < w2.heap.size := (by have := hb2.size; omega); have j0 := (hb2.cell (p := ⟨w.heap.size, 0, none⟩) hl1).trans k0; have j1 := (hb2.cell (p := ⟨w.heap.size, 1, none⟩) hl1).trans k1; have j2 := (hb2.cell (p := ⟨w.heap.size, 2, none⟩) hl1).trans k2; clear hb2))
          | (go_at_call 50; refine (HM.out _).mono ?_; rintro e w4 ⟨rfl, hb4⟩; go_must (have HB4 := Lib.hid (bT HB2.out hb4); clear hb4)))
        go_ret
        exact ⟨ret_b HE.out.symm, HB4.out⟩

set_option maxRecDepth 100000 in
set_option maxHeartbeats 4000000 in
theorem ready_any (T : Town) (p q : Option Addr) (c d : Nat) (w : World) (ht : TownIn w w.heap.size T p q) :
    Calls Try.prog 45 #[.agg #[.int .i64 T.W, .slice p T.s.length c, .slice q T.r.length d]] w fun e w' => e = .returned (.bool (rdy T)) ∧ Below w.heap.size w w' := by
  obtain ⟨w1, hw1, hb1, hz1, k0, k1, k2⟩ := box_town w T.W p q T.s.length T.r.length c d
  have hl1 : w.heap.size < w1.heap.size := by omega
  have hfar := far_any T p q c d w1 (ht.bel hb1)
  have HB1 := Lib.hid hb1; clear hb1
  cases hf : farB T with
  | true =>
    rw [hf] at hfar
    have HE : Hid (rdy T = false) := by
      show _ = _
      simp only [farB, Bool.or_eq_true, decide_eq_true_eq, Bool.and_eq_true] at hf
      cases ho : T.ok with
      | false => simp [rdy, ho]
      | true =>
        have : ¬ (T.W ≤ 5 ∧ T.s.length + T.r.length ≤ 8) := by omega
        simp only [rdy, ho, Bool.true_and, Bool.and_eq_false_iff, decide_eq_false_iff_not]
        omega
    have HF := Lib.hid hfar
    clear hfar hf ht
    go_enter Try.func45, Try.ntmps45
    go_wp2_with (go_at_call 32; refine HF.out.mono ?_; rintro e w2 ⟨rfl, hb2⟩; go_must (have HB2 := Lib.hid hb2; clear hb2))
    go_ret
    exact ⟨ret_b HE.out.symm, bT HB1.out HB2.out⟩
  | false =>
    rw [hf] at hfar
    have hc : T.s.length ≤ 40 ∧ T.r.length ≤ 40 ∧ rdy T = T.ok := by
      simp only [farB, Bool.or_eq_false_iff, decide_eq_false_iff_not, Bool.and_eq_false_iff] at hf
      refine ⟨by omega, by omega, ?_⟩
      cases ho : T.ok with
      | false => simp [rdy, ho]
      | true =>
        have : T.W ≤ 5 ∧ T.s.length + T.r.length ≤ 8 := by
          rcases hf.2 with h | h
          · simp at h; omega
          · rw [ho] at h; cases h
        simp only [rdy, ho, Bool.true_and, Bool.and_eq_true, decide_eq_true_eq]
        exact this
    have hcheck := fun V (hV : Below w.heap.size w V) => checkR_any T p q c d V (by omega) (by omega) (ht.bel hV)
    have HF := Lib.hid hfar
    cases hok : T.ok with
    | true =>
      rw [hok, show vErr true = 0 from rfl] at hcheck
      have HE : Hid (rdy T = true) := by show _ = _; rw [hc.2.2, hok]
      have HC := Lib.hid hcheck
      clear hfar hf ht hcheck hc hok
      go_enter Try.func45, Try.ntmps45
      go_wp2_with (first
        | (go_at_call 32; refine HF.out.mono ?_; rintro e w2 ⟨rfl, hb2⟩; go_must (have HB2 := Lib.hid (bT HB1.out hb2); have j0 := (hb2.cell (p := ⟨w.heap.size, 0, none⟩) hl1).trans k0; have j1 := (hb2.cell (p := ⟨w.heap.size, 1, none⟩) hl1).trans k1; have j2 := (hb2.cell (p := ⟨w.heap.size, 2, none⟩) hl1).trans k2; clear hb2))
        | (go_at_call 21; refine (HC.out _ HB2.out).mono ?_; rintro e w3 ⟨rfl, hb3⟩; go_must (have HB3 := Lib.hid (bT HB2.out hb3); clear hb3)))
      go_ret
      exact ⟨ret_b HE.out.symm, HB3.out⟩
    | false =>
      rw [hok, show vErr false = 10 from rfl] at hcheck
      have HE : Hid (rdy T = false) := by show _ = _; rw [hc.2.2, hok]
      have HC := Lib.hid hcheck
      clear hfar hf ht hcheck hc hok
      go_enter Try.func45, Try.ntmps45
      go_wp2_with (first
        | (go_at_call 32; refine HF.out.mono ?_; rintro e w2 ⟨rfl, hb2⟩; go_must (have HB2 := Lib.hid (bT HB1.out hb2); have j0 := (hb2.cell (p := ⟨w.heap.size, 0, none⟩) hl1).trans k0; have j1 := (hb2.cell (p := ⟨w.heap.size, 1, none⟩) hl1).trans k1; have j2 := (hb2.cell (p := ⟨w.heap.size, 2, none⟩) hl1).trans k2; clear hb2))
        | (go_at_call 21; refine (HC.out _ HB2.out).mono ?_; rintro e w3 ⟨rfl, hb3⟩; go_must (have HB3 := Lib.hid (bT HB2.out hb3); clear hb3)))
      go_ret
      exact ⟨ret_b HE.out.symm, HB3.out⟩
end Go.Proofs.Ytmfbfcknnjbabaa

namespace Go.Proofs.Ytmfbfcknnjbabaa
open Go.RowKit

theorem learn_none (T : Town) (p q : Option Addr) (c d : Nat) (xs : List Int) (x : Option Addr) (cx : Nat) (w : World) (hok : T.ok = true) (hk : kn T = none) (ha : asks T xs = true) (hx : xs.length ≤ 1000) (ht : TownIn w w.heap.size T p q)
    (h1 : 0 < xs.length → ∃ b o, x = some ⟨b, o, none⟩ ∧ IntsAt w w.heap.size b o xs) :
    Calls Try.prog 58 #[.agg #[.int .i64 T.W, .slice p T.s.length c, .slice q T.r.length d], .slice x xs.length cx] w fun e w' =>
      e = .returned (.tuple #[.agg (kv 0 Z49), .int .i64 3]) ∧ Below w.heap.size w w' := by
  have hl := ok_len hok
  have h := learn_any T p q c d xs x cx w (by omega) (by omega) hx ht h1
  have e : learnt T xs = (0, Z49, 3) := by simp [learnt, hok, ha, hk]
  rw [e] at h
  exact h

set_option maxRecDepth 100000 in
set_option maxHeartbeats 2000000 in
theorem differ_no (T : Town) (u v : Nat) (p q : Option Addr) (c d : Nat) (w : World) (hok : T.ok = true) (hk : kn T = none) (hu : (u : Int) < T.W) (hv : (v : Int) < T.W) (ht : TownIn w w.heap.size T p q) :
    Calls Try.prog 33 #[.agg #[.int .i64 T.W, .slice p T.s.length c, .slice q T.r.length d], .int .i64 u, .int .i64 v] w fun e w' =>
      e = .returned (.tuple #[.agg #[.int .i64 0, .int .i64 0], .int .i64 3]) ∧ Below w.heap.size w w' := by
  obtain ⟨w1, hw1, hb1, hz1, k0, k1, k2⟩ := box_town w T.W p q T.s.length T.r.length c d
  have hl1 : w.heap.size < w1.heap.size := by omega
  have hW := ok_W hok
  have ha : asks T [(u : Int), (v : Int)] = true := by simp [asks, within]; omega
  have hlearn : ∀ W cx g, W.heap.size = g → Below w1.heap.size w1 W → Calls Try.prog 58 #[.agg #[.int .i64 T.W, .slice p T.s.length c, .slice q T.r.length d], .slice (some ⟨g, 0, none⟩) 2 cx] (W.alloc (.cells #[.int .i64 u, .int .i64 v] 3)) fun e w' =>
      e = .returned (.tuple #[.agg (kv 0 Z49), .int .i64 3]) ∧ Below (W.alloc (.cells #[.int .i64 u, .int .i64 v] 3)).heap.size (W.alloc (.cells #[.int .i64 u, .int .i64 v] 3)) w' := fun W cx g hg hW => by
    subst hg
    exact learn_none T p q c d [(u : Int), (v : Int)] _ cx _ hok hk ha (by simp) ((ht.below (bT hb1 (bA hW _))).mono (bT hb1 (bA hW _)).size) (lit2 _ _ (Below.refl _ _))
  have u0 : (u : Int) ≤ 6 := by omega
  have v0 : (v : Int) ≤ 6 := by omega
  have HL := Lib.hid hlearn; have HB1 := Lib.hid hb1
  clear hlearn hb1 hz1 ht hok hk ha
  go_enter Try.func33, Try.ntmps33
  go_wp2_with (first
    | (go_at_call 58; refine (HL.out _ _ _ (by simp) (by repeat (first | exact Below.refl _ _ | refine bA ?_ _))).mono ?_; rintro e w2 ⟨rfl, hb2⟩; have HB2 := Lib.hid (bT (by repeat (first | exact Below.refl _ _ | refine bA ?_ _) : Below w1.heap.size w1 _) hb2); have hl2 : w1.heap.size + 1 < w2.heap.size := (by have := hb2.size; simp at this; omega); have r0 : w2.cell? ⟨w1.heap.size, 0, none⟩ = some (.int .i64 0) := (hb2.cell (by simp; try omega)).trans (by go_simp); have r1 : w2.cell? ⟨w1.heap.size, 1, none⟩ = some (.int .i64 0) := (hb2.cell (by simp; try omega)).trans (by go_simp); have f0 : ∀ i, w2.frozen? ⟨w1.heap.size, i, none⟩ = false := (fun i => (hb2.frozen (by simp; try omega)).trans (by go_simp)); clear hb2)
    | (refine wpList_alloc_kv rfl rfl ?_; intro w3 hr3 hb3 hz3; have HR3 := Lib.hid hr3; have HB3 := Lib.hid hb3; have HZ3 := Lib.hid hz3; clear hr3 hb3 hz3)
    | (refine wpList_store_kv rfl _ _ rfl _ 0 0 Z49 Z49 rfl rfl rfl HR3.out ?_; intro w4 hr4 ho4; go_must (have HB4 := Lib.hid (only_below HB3.out ho4 (Nat.le_refl _)); have s0 := (HB4.out.cell (p := ⟨w1.heap.size, 0, none⟩) (by simp; omega)).trans r0; have s1 := (HB4.out.cell (p := ⟨w1.heap.size, 1, none⟩) (by simp; omega)).trans r1; have g0 : ∀ i, w4.frozen? ⟨w1.heap.size, i, none⟩ = false := (fun i => (HB4.out.frozen (by simp; omega)).trans (f0 i)); clear hr4 ho4)))
  exact bodyPost_ret (v := .tuple #[.agg #[.int .i64 0, .int .i64 0], .int .i64 3]) (by simp [results, Try.results33, go_sem, s0, s1]) rfl ⟨rfl, bS (bS (bT (bT HB1.out HB2.out) HB4.out) (by simp; omega) _) (by simp; omega) _⟩

theorem isWell_b (W n : Int) (s r : Value) (b : Bool) (w : World) (h0 : 0 ≤ W) (h1 : W ≤ 100) (hb : within n 0 (W - 1) = b) :
    Calls Try.prog 48 #[.agg #[.int .i64 W, s, r], .int .i64 n] w fun e w' => e = .returned (.bool b) ∧ Below w.heap.size w w' :=
  (isWell_ex W n s r w h0 h1).mono fun _ _ ⟨he, hw⟩ => ⟨by rw [he, hb], hw ▸ bA (Below.refl _ _) _⟩

set_option maxRecDepth 100000 in
set_option maxHeartbeats 2000000 in
theorem inside_tt (a b c d : Int) (w : World) (h1 : c ≤ a) (h2 : a ≤ b) (h3 : b ≤ d) :
    Calls Try.prog 53 #[.agg #[.int .i64 a, .int .i64 b], .agg #[.int .i64 c, .int .i64 d]] w fun e w' => e = .returned (.bool true) ∧ Below w.heap.size w w' := by
  go_enter Try.func53, Try.ntmps53
  go_wp2
  go_ret
  exact ⟨rfl, bA (bA (Below.refl _ _) _) _⟩
end Go.Proofs.Ytmfbfcknnjbabaa
