/- Rosters of hours: what the least, the least far and the fewest are (mathematics alone, of what the program finds). -/
import Derived.Test.YtegkgfiaegpihaaF4

set_option linter.unusedSimpArgs false

set_option linter.unusedVariables false

namespace Go.Proofs.Ytegkgfiaegpihaa

open Go.RowKit

theorem NR.cast {D : Ro} (hD : OkP D) {f : Nat → Int} (h : NR D f) {k : Nat} (hk : k < D.m) : (((f k).toNat : Nat) : Int) = f k := by have := h.hr hD hk; omega
theorem pcA_C {D : Ro} (hD : OkP D) {f : Nat → Int} (h : NR D f) : pcA D (prC D) f = costF D f D.m := by
  unfold pcA costF
  exact sumN_congr fun k hk => by simp only [prC, Option.getD_some]; rw [h.cast hD hk]
/-- how many streets are moved -/
def cntM (D : Ro) (f : Nat → Int) (k : Nat) : Int := ((movedL D f k).length : Int)
theorem cntM_sum {D : Ro} (hD : OkP D) {f : Nat → Int} (h : NR D f) : ∀ {k : Nat}, k ≤ D.m → sumN (fun k => (prN D k (f k).toNat).getD 0) k = cntM D f k
  | 0, _ => rfl
  | k + 1, hk => by
    have ih := cntM_sum hD h (k := k) (by omega)
    have e := h.cast hD (show k < D.m by omega)
    have hb := mvP_bd (hD.st k (by omega)).hs (h.hr hD (show k < D.m by omega))
    simp only [sumN]
    rw [ih]
    simp only [prN, Option.getD_some, cntM, movedL]
    rw [e, List.length_append]
    unfold mv
    split
    · rename_i h1; simp; omega
    · rename_i h1; simp; omega
theorem pcA_N {D : Ro} (hD : OkP D) {f : Nat → Int} (h : NR D f) : pcA D (prN D) f = cntM D f D.m := cntM_sum hD h (Nat.le_refl _)
def Ex (D : Ro) : Prop := ∃ f, NR D f
theorem exC {D : Ro} (hD : OkP D) : (best D (prC D)).no = false ↔ Ex D :=
  ⟨fun h => by obtain ⟨f, h1, _⟩ := best_ex hD h; exact ⟨f, h1⟩, fun ⟨f, h⟩ => (best_le hD h (fun k _ => by simp [prC])).1⟩
theorem exN {D : Ro} (hD : OkP D) : (best D (prN D)).no = false ↔ Ex D :=
  ⟨fun h => by obtain ⟨f, h1, _⟩ := best_ex hD h; exact ⟨f, h1⟩, fun ⟨f, h⟩ => (best_le hD h (fun k _ => by simp [prN])).1⟩
/-- the least cost -/
def lsC (D : Ro) : Int := (best D (prC D)).c
theorem ls_le {D : Ro} (hD : OkP D) {f : Nat → Int} (h : NR D f) : lsC D ≤ costF D f D.m := by rw [← pcA_C hD h]; exact (best_le hD h (fun k _ => by simp [prC])).2
theorem ls_ex {D : Ro} (hD : OkP D) (h : Ex D) : ∃ f, NR D f ∧ costF D f D.m = lsC D := by
  obtain ⟨f, h1, _, h3⟩ := best_ex hD ((exC hD).2 h)
  exact ⟨f, h1, by rw [← pcA_C hD h1]; exact h3⟩
theorem ls_bd {D : Ro} (hD : OkP D) : 0 ≤ lsC D ∧ lsC D ≤ 378 := best_bd hD (prC_bd hD)
/-- the fewest that are moved -/
def fwC (D : Ro) : Int := (best D (prN D)).c
theorem fw_le {D : Ro} (hD : OkP D) {f : Nat → Int} (h : NR D f) : fwC D ≤ cntM D f D.m := by rw [← pcA_N hD h]; exact (best_le hD h (fun k _ => by simp [prN])).2
theorem fw_ex {D : Ro} (hD : OkP D) (h : Ex D) : ∃ f, NR D f ∧ cntM D f D.m = fwC D := by
  obtain ⟨f, h1, _, h3⟩ := best_ex hD ((exN hD).2 h)
  exact ⟨f, h1, by rw [← pcA_N hD h1]; exact h3⟩
theorem fw_bd {D : Ro} (hD : OkP D) (h : Ex D) : 0 ≤ fwC D ∧ fwC D ≤ D.m := by
  obtain ⟨f, h1, h2⟩ := fw_ex hD h
  have := movedL_len D f D.m
  rw [← h2]; unfold cntM; omega
/-- the price if no street may be moved by more than F hours -/
def pF (D : Ro) (F : Int) : Pr := prO (prC D) (fun s h => decide (mv D s h ≤ F))
theorem pF_bd {D : Ro} (hD : OkP D) (F : Int) : PrB D (pF D F) := prO_bd (prC_bd hD)
/-- nobody is moved by more than F hours -/
def Near (D : Ro) (f : Nat → Int) (F : Int) : Prop := ∀ k, k < D.m → mv D k (f k) ≤ F
theorem pF_some {D : Ro} (hD : OkP D) {f : Nat → Int} (h : NR D f) {F : Int} {k : Nat} (hk : k < D.m) : pF D F k (f k).toNat ≠ none ↔ mv D k (f k) ≤ F := by
  unfold pF prO
  simp only [h.cast hD hk]
  by_cases e : mv D k (f k) ≤ F <;> simp [e, prC]
theorem exF {D : Ro} (hD : OkP D) {F : Int} : (best D (pF D F)).no = false ↔ ∃ f, NR D f ∧ Near D f F :=
  ⟨fun h => by obtain ⟨f, h1, h2, _⟩ := best_ex hD h; exact ⟨f, h1, fun k hk => (pF_some hD h1 hk).1 (h2 k hk)⟩, fun ⟨f, h, hn⟩ => (best_le hD h (fun k hk => (pF_some hD h hk).2 (hn k hk))).1⟩
theorem pcA_F {D : Ro} (hD : OkP D) {f : Nat → Int} (h : NR D f) {F : Int} (hn : Near D f F) : pcA D (pF D F) f = costF D f D.m := by
  unfold pcA costF
  refine sumN_congr fun k hk => ?_
  unfold pF prO
  simp only [h.cast hD hk]
  simp [hn k hk, prC, h.cast hD hk]
theorem near_iff {D : Ro} {f : Nat → Int} {F : Int} (hF : 0 ≤ F) : Near D f F ↔ farF D f D.m ≤ F := by
  unfold Near
  suffices H : ∀ m, (∀ k, k < m → mv D k (f k) ≤ F) ↔ farF D f m ≤ F from H D.m
  intro m
  induction m with
  | zero => simp [farF]; exact hF
  | succ m ih =>
    simp only [farF]
    constructor
    · intro h
      have h1 := ih.1 (fun k hk => h k (by omega))
      have h2 := h m (by omega)
      omega
    · intro h k hk
      rcases Nat.lt_succ_iff_lt_or_eq.1 hk with h1 | rfl
      · exact ih.2 (by omega) k h1
      · omega
/-- the least number of hours below k that is far enough -/
def farT (D : Ro) : Nat → Option Nat
  | 0 => none
  | k + 1 => match farT D k with
    | some f => some f
    | none => if (best D (pF D (k : Int))).no then none else some k
theorem farT_hit {D : Ro} {k : Nat} (h : farT D k = none) (h2 : (best D (pF D (k : Int))).no = false) : ∀ j, farT D (k + 1 + j) = some k
  | 0 => by show (match farT D k with | some f => some f | none => _) = _; rw [h]; simp [h2]
  | j + 1 => by
    have ih := farT_hit h h2 j
    show (match farT D (k + 1 + j) with | some f => some f | none => _) = _
    rw [ih]
theorem farT_miss {D : Ro} {k : Nat} (h : farT D k = none) (h2 : (best D (pF D (k : Int))).no = true) : farT D (k + 1) = none := by
  show (match farT D k with | some f => some f | none => _) = _; rw [h]; simp [h2]
theorem farT_spec {D : Ro} : ∀ {k : Nat}, (farT D k = none → ∀ j, j < k → (best D (pF D (j : Int))).no = true) ∧ ∀ F, farT D k = some F → F < k ∧ (best D (pF D (F : Int))).no = false ∧ ∀ j, j < F → (best D (pF D (j : Int))).no = true
  | 0 => ⟨fun _ j hj => by omega, fun F h => by cases h⟩
  | k + 1 => by
    obtain ⟨i1, i2⟩ := farT_spec (D := D) (k := k)
    cases hk : farT D k with
    | some f =>
      have e : farT D (k + 1) = some f := by show (match farT D k with | some f => some f | none => _) = _; rw [hk]
      obtain ⟨a, b, c⟩ := i2 f hk
      refine ⟨fun h => (by rw [e] at h; cases h), fun F h => ?_⟩
      rw [e] at h; cases h
      exact ⟨by omega, b, c⟩
    | none =>
      cases hn : (best D (pF D (k : Int))).no with
      | true =>
        have e := farT_miss hk hn
        refine ⟨fun _ j hj => ?_, fun F h => by rw [e] at h; cases h⟩
        rcases Nat.lt_succ_iff_lt_or_eq.1 hj with h1 | rfl
        · exact i1 hk j h1
        · exact hn
      | false =>
        have e := farT_hit hk hn 0
        rw [Nat.add_zero] at e
        refine ⟨fun h => (by rw [e] at h; cases h), fun F h => ?_⟩
        rw [e] at h; cases h
        exact ⟨by omega, hn, i1 hk⟩
def frC (D : Ro) : Int := match farT D 8 with
  | some F => (F : Int)
  | none => 0
theorem exT {D : Ro} (hD : OkP D) : (farT D 8).isSome = true ↔ Ex D := by
  obtain ⟨i1, i2⟩ := farT_spec (D := D) (k := 8)
  cases h : farT D 8 with
  | some F =>
    obtain ⟨f, h1, _⟩ := (exF hD).1 (i2 F h).2.1
    simp; exact ⟨f, h1⟩
  | none =>
    simp
    rintro ⟨f, hf⟩
    have h7 := i1 h 7 (by omega)
    have hn : Near D f (7 : Nat) := fun k hk => by have := mvP_bd (hD.st k hk).hs (hf.hr hD hk); have := hD.n; unfold mv; omega
    rw [(exF hD).2 ⟨f, hf, hn⟩] at h7
    cases h7
theorem fr_spec {D : Ro} (hD : OkP D) (h : Ex D) : (0 ≤ frC D ∧ frC D ≤ 7) ∧ (∃ f, NR D f ∧ farF D f D.m ≤ frC D) ∧ ∀ f, NR D f → frC D ≤ farF D f D.m := by
  obtain ⟨i1, i2⟩ := farT_spec (D := D) (k := 8)
  have hs := (exT hD).2 h
  cases hF : farT D 8 with
  | none => rw [hF] at hs; cases hs
  | some F =>
    obtain ⟨a, b, c⟩ := i2 F hF
    have e : frC D = (F : Int) := by unfold frC; rw [hF]
    rw [e]
    refine ⟨by omega, ?_, fun f hf => ?_⟩
    · obtain ⟨f, h1, h2⟩ := (exF hD).1 b
      exact ⟨f, h1, (near_iff (by omega)).1 h2⟩
    · have hb := far_bd hD (hf.inH hD) (Nat.le_refl _)
      rcases Int.lt_or_le (farF D f D.m) (F : Int) with h1 | h1
      · obtain ⟨j, hj⟩ : ∃ j : Nat, farF D f D.m = (j : Int) := ⟨(farF D f D.m).toNat, by omega⟩
        have := c j (by omega)
        rw [(exF hD).2 ⟨f, hf, (near_iff (by omega)).2 (by omega)⟩] at this
        cases this
      · exact h1
end Go.Proofs.Ytegkgfiaegpihaa
