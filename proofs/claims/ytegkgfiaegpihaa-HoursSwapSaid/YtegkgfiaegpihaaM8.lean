/- Rosters of hours: spans that lack room, and that there is a new roster just if none does (mathematics alone). -/
import Derived.Test.YtegkgfiaegpihaaM6

set_option linter.unusedSimpArgs false

set_option linter.unusedVariables false

namespace Go.Proofs.Ytegkgfiaegpihaa

open Go.RowKit

/-- whether a street can have hours of a span alone -/
def inSp (D : Ro) (lo hi : Int) (k : Nat) : Bool := decide (lo ≤ D.fr k) && decide (D.to k ≤ hi)
theorem inSp_iff {D : Ro} {lo hi : Int} {k : Nat} : inSp D lo hi k = true ↔ lo ≤ D.fr k ∧ D.to k ≤ hi := by simp [inSp]
/-- how many of the first k streets can have hours of a span alone -/
def cntS (D : Ro) (lo hi : Int) (k : Nat) : Int := sumN (fun i => if inSp D lo hi i then 1 else 0) k
/-- the room of j hours from number lo on -/
def rmS (D : Ro) (lo j : Nat) : Int := sumN (fun i => D.rm (lo + i)) j
def lacksB (D : Ro) (lo hi : Nat) : Bool := decide (rmS D lo (hi + 1 - lo) < cntS D lo hi D.m)
theorem cntS_bd {D : Ro} {lo hi : Int} : ∀ {k : Nat}, 0 ≤ cntS D lo hi k ∧ cntS D lo hi k ≤ k
  | 0 => by simp [cntS, sumN]
  | k + 1 => by
    have ih := cntS_bd (D := D) (lo := lo) (hi := hi) (k := k)
    unfold cntS at ih ⊢
    simp only [sumN]; split <;> omega
theorem rmS_bd {D : Ro} (hD : OkP D) {lo : Nat} : ∀ {j : Nat}, lo + j ≤ D.n → 0 ≤ rmS D lo j ∧ rmS D lo j ≤ 6 * j
  | 0, _ => by simp [rmS, sumN]
  | j + 1, h => by
    have ih := rmS_bd hD (lo := lo) (j := j) (by omega)
    have := hD.rm (lo + j) (by omega)
    unfold rmS at ih ⊢
    simp only [sumN]; omega
/-- the first low hour, from number j down, of a span that lacks room -/
def lkL (D : Ro) (hi : Nat) : Nat → Option Nat
  | 0 => none
  | j + 1 => if lacksB D j hi then some j else lkL D hi j
/-- the span that lacks room, of those with one of the first k hours as High -/
def lkT (D : Ro) : Nat → Option (Nat × Nat)
  | 0 => none
  | k + 1 => match lkT D k with
    | some x => some x
    | none => (lkL D k (k + 1)).map fun l => (l, k)
theorem lkL_spec {D : Ro} {hi : Nat} : ∀ {j : Nat}, (lkL D hi j = none → ∀ i, i < j → lacksB D i hi = false) ∧ ∀ l, lkL D hi j = some l → l < j ∧ lacksB D l hi = true ∧ ∀ i, l < i → i < j → lacksB D i hi = false
  | 0 => ⟨fun _ i h => absurd h (Nat.not_lt_zero _), fun l h => by cases h⟩
  | j + 1 => by
    obtain ⟨i1, i2⟩ := lkL_spec (D := D) (hi := hi) (j := j)
    unfold lkL
    cases hb : lacksB D j hi with
    | true =>
      simp only [if_true]
      refine ⟨fun h => (by cases h), fun l h => ?_⟩
      cases h
      exact ⟨by omega, hb, fun i h1 h2 => by omega⟩
    | false =>
      simp only [Bool.false_eq_true, if_false]
      refine ⟨fun h i hi => ?_, fun l h => ?_⟩
      · rcases Nat.lt_succ_iff_lt_or_eq.1 hi with h1 | rfl
        · exact i1 h i h1
        · exact hb
      · obtain ⟨a, b, c⟩ := i2 l h
        refine ⟨by omega, b, fun i h1 h2 => ?_⟩
        rcases Nat.lt_succ_iff_lt_or_eq.1 h2 with h3 | rfl
        · exact c i h1 h3
        · exact hb
theorem lkT_step {D : Ro} {k : Nat} (h : lkT D k = none) : lkT D (k + 1) = (lkL D k (k + 1)).map fun l => (l, k) := by
  show (match lkT D k with | some x => some x | none => _) = _; rw [h]
theorem lkT_keep {D : Ro} {k : Nat} {x : Nat × Nat} (h : lkT D k = some x) : ∀ j, lkT D (k + j) = some x
  | 0 => h
  | j + 1 => by
    have ih := lkT_keep h j
    show (match lkT D (k + j) with | some x => some x | none => _) = _; rw [ih]
theorem lkT_spec {D : Ro} : ∀ {k : Nat}, (lkT D k = none → ∀ lo hi, lo ≤ hi → hi < k → lacksB D lo hi = false) ∧ ∀ l h, lkT D k = some (l, h) → l ≤ h ∧ h < k ∧ lacksB D l h = true
  | 0 => ⟨fun _ lo hi _ h => absurd h (Nat.not_lt_zero _), fun l h e => by cases e⟩
  | k + 1 => by
    obtain ⟨i1, i2⟩ := lkT_spec (D := D) (k := k)
    cases hk : lkT D k with
    | some x =>
      have e := lkT_keep hk 1
      refine ⟨fun h => (by rw [e] at h; cases h), fun l h e2 => ?_⟩
      rw [e] at e2; cases e2
      obtain ⟨a, b, c⟩ := i2 l h hk
      exact ⟨a, by omega, c⟩
    | none =>
      rw [lkT_step hk]
      obtain ⟨j1, j2⟩ := lkL_spec (D := D) (hi := k) (j := k + 1)
      cases hl : lkL D k (k + 1) with
      | none =>
        refine ⟨fun _ lo hi h1 h2 => ?_, fun l h e => (by cases e)⟩
        rcases Nat.lt_succ_iff_lt_or_eq.1 h2 with h3 | rfl
        · exact i1 hk lo hi h1 h3
        · exact j1 hl lo (by omega)
      | some l =>
        refine ⟨fun h => (by cases h), fun l' h e => ?_⟩
        cases e
        obtain ⟨a, b, c⟩ := j2 _ hl
        exact ⟨by omega, by omega, b⟩
theorem lkT_none {D : Ro} : lkT D D.n = none ↔ ∀ lo hi, lo ≤ hi → hi < D.n → lacksB D lo hi = false := by
  obtain ⟨i1, i2⟩ := lkT_spec (D := D) (k := D.n)
  refine ⟨i1, fun h => ?_⟩
  cases hk : lkT D D.n with
  | none => rfl
  | some x =>
    obtain ⟨a, b, c⟩ := i2 x.1 x.2 hk
    rw [h _ _ a b] at c; cases c
/-- the search depends on which spans lack room alone -/
theorem lkL_congr {D E : Ro} {hi : Nat} : ∀ {j : Nat}, (∀ i, i < j → lacksB D i hi = lacksB E i hi) → lkL D hi j = lkL E hi j
  | 0, _ => rfl
  | j + 1, h => by unfold lkL; rw [h j (by omega), lkL_congr (fun i hi => h i (by omega))]
theorem lkT_congr {D E : Ro} : ∀ {k : Nat}, (∀ lo hi, lo ≤ hi → hi < k → lacksB D lo hi = lacksB E lo hi) → lkT D k = lkT E k
  | 0, _ => rfl
  | k + 1, h => by
    have ih := lkT_congr (D := D) (E := E) (k := k) (fun lo hi h1 h2 => h lo hi h1 (by omega))
    have hl := lkL_congr (D := D) (E := E) (hi := k) (j := k + 1) (fun i hi => h i k (by omega) (by omega))
    unfold lkT; rw [ih, hl]

/-- the room of a span is at least what new rosters use of it -/
theorem cnt_sp {f : Nat → Int} {lo : Nat} : ∀ (j m : Nat), sumN (fun i => (cnt f ((lo + i : Nat) : Int) m : Int)) j = sumN (fun k => if (lo : Int) ≤ f k ∧ f k < lo + j then 1 else 0) m
  | j, 0 => by
    induction j with
    | zero => rfl
    | succ j ih => simp only [sumN, cnt] at ih ⊢; rw [ih]; rfl
  | j, m + 1 => by
    have ih := cnt_sp (f := f) (lo := lo) j m
    have h : ∀ j, sumN (fun i => (cnt f ((lo + i : Nat) : Int) (m + 1) : Int)) j = sumN (fun i => (cnt f ((lo + i : Nat) : Int) m : Int)) j + (if (lo : Int) ≤ f m ∧ f m < lo + j then 1 else 0) := by
      intro j
      induction j with
      | zero => simp only [sumN]; rw [if_neg (by omega)]; rfl
      | succ j ih2 =>
        simp only [sumN]
        rw [ih2]
        simp only [cnt]
        by_cases e : f m = ((lo + j : Nat) : Int)
        · rw [if_pos e, if_neg (by omega), if_pos (by omega)]; simp; omega
        · rw [if_neg e]
          by_cases h1 : (lo : Int) ≤ f m ∧ f m < lo + j
          · rw [if_pos h1, if_pos (by omega)]; omega
          · rw [if_neg h1, if_neg (by omega)]; omega
    rw [h j, ih]; rfl
theorem sumN_le {a b : Nat → Int} : ∀ {k : Nat}, (∀ i, i < k → a i ≤ b i) → sumN a k ≤ sumN b k
  | 0, _ => Int.le_refl _
  | k + 1, h => by simp only [sumN]; have := sumN_le (a := a) (b := b) (k := k) (fun i hi => h i (by omega)); have := h k (by omega); omega
theorem new_noLack {D : Ro} (hD : OkP D) {f : Nat → Int} (h : NR D f) {lo hi : Nat} (h1 : lo ≤ hi) (h2 : hi < D.n) : lacksB D lo hi = false := by
  have a1 : cntS D lo hi D.m ≤ sumN (fun k => if (lo : Int) ≤ f k ∧ f k < lo + (hi + 1 - lo : Nat) then 1 else 0) D.m := by
    refine sumN_le fun k hk => ?_
    have := h.h k hk
    by_cases e : inSp D lo hi k = true
    · have e2 := inSp_iff.1 e
      rw [if_pos e, if_pos (by omega)]; omega
    · rw [if_neg e]; split <;> omega
  rw [← cnt_sp] at a1
  have a2 : sumN (fun i => (cnt f ((lo + i : Nat) : Int) D.m : Int)) (hi + 1 - lo) ≤ rmS D lo (hi + 1 - lo) := sumN_le fun i hi' => h.c (lo + i) (by omega)
  simp only [lacksB, decide_eq_false_iff_not]
  omega

/-- some of the streets, each from an hour on that may be later than its first one -/
structure Hal (D : Ro) (A : Nat → Bool) (F : Nat → Int) (L : Nat → Int) : Prop where
  f : ∀ k, k < D.m → A k = true → D.fr k ≤ F k ∧ F k ≤ D.to k
  l : ∀ h, 0 ≤ L h
  c : ∀ lo hi : Nat, lo ≤ hi → hi < D.n → sumN (fun k => if A k = true ∧ (lo : Int) ≤ F k ∧ D.to k ≤ hi then 1 else 0) D.m ≤ sumN (fun i => L (lo + i)) (hi + 1 - lo)
/-- hours for some of the streets -/
structure HalR (D : Ro) (A : Nat → Bool) (L : Nat → Int) (g : Nat → Int) : Prop where
  h : ∀ k, k < D.m → A k = true → D.fr k ≤ g k ∧ g k ≤ D.to k
  c : ∀ h : Nat, h < D.n → sumN (fun k => if A k = true ∧ g k = h then 1 else 0) D.m ≤ L h
theorem sumN_eq0 {a : Nat → Int} : ∀ {k : Nat}, (∀ i, i < k → 0 ≤ a i) → sumN a k ≤ 0 → ∀ i, i < k → a i = 0
  | 0, _, _ => fun i h => absurd h (Nat.not_lt_zero _)
  | k + 1, h, hs => fun i hi => by
    simp only [sumN] at hs
    have h1 := sumN_nn (a := a) (k := k) (fun i hi => h i (by omega))
    have h2 := h k (by omega)
    rcases Nat.lt_succ_iff_lt_or_eq.1 hi with h3 | rfl
    · exact sumN_eq0 (fun i hi => h i (by omega)) (by omega) i h3
    · omega
theorem sumN_ge1 {a : Nat → Int} {k i : Nat} (h : ∀ i, i < k → 0 ≤ a i) (hi : i < k) : a i ≤ sumN a k := by
  induction k with
  | zero => omega
  | succ k ih =>
    simp only [sumN]
    have h1 := sumN_nn (a := a) (k := k) (fun i hi => h i (by omega))
    have h2 := h k (by omega)
    rcases Nat.lt_succ_iff_lt_or_eq.1 hi with h3 | rfl
    · have := ih (fun i hi => h i (by omega)) h3; omega
    · omega
/-- a least one, if there is one -/
theorem least_of {p : Nat → Prop} {v : Nat → Int} : ∀ {m : Nat}, (∃ k, k < m ∧ p k) → ∃ k, k < m ∧ p k ∧ ∀ i, i < m → p i → v k ≤ v i := by
  intro m
  induction m with
  | zero => rintro ⟨k, hk, _⟩; omega
  | succ m ih =>
    intro hex
    by_cases h : ∃ k, k < m ∧ p k
    · obtain ⟨k, hk, hp, hl⟩ := ih h
      by_cases hm : p m ∧ v m < v k
      · refine ⟨m, by omega, hm.1, fun i hi hpi => ?_⟩
        rcases Nat.lt_succ_iff_lt_or_eq.1 hi with h3 | rfl
        · have := hl i h3 hpi; omega
        · exact Int.le_refl _
      · refine ⟨k, by omega, hp, fun i hi hpi => ?_⟩
        rcases Nat.lt_succ_iff_lt_or_eq.1 hi with h3 | rfl
        · exact hl i h3 hpi
        · rcases Int.lt_or_le (v i) (v k) with h4 | h4
          · exact absurd ⟨hpi, h4⟩ hm
          · exact h4
    · obtain ⟨k, hk, hp⟩ := hex
      have e : k = m := by
        rcases Nat.lt_succ_iff_lt_or_eq.1 hk with h3 | rfl
        · exact absurd ⟨k, h3, hp⟩ h
        · rfl
      subst e
      refine ⟨k, by omega, hp, fun i hi hpi => ?_⟩
      rcases Nat.lt_succ_iff_lt_or_eq.1 hi with h3 | rfl
      · exact absurd ⟨i, h3, hpi⟩ h
      · exact Int.le_refl _
/-- Hall, for spans: the street that must end first takes the first hour, or all begin later -/
theorem hall {D : Ro} (hD : OkP D) : ∀ (fuel : Nat) (A : Nat → Bool) (F L : Nat → Int), Hal D A F L → sumN (fun k => if A k = true then D.to k - F k + 1 else 0) D.m ≤ fuel → ∃ g, HalR D A L g := by
  intro fuel
  induction fuel with
  | zero =>
    intro A F L H hn
    have hall : ∀ k, k < D.m → A k = false := fun k hk => by
      cases hA : A k with
      | false => rfl
      | true =>
        have h1 := sumN_eq0 (a := fun k => if A k = true then D.to k - F k + 1 else 0) (k := D.m) (fun i hi => by
          show 0 ≤ (if A i = true then D.to i - F i + 1 else 0)
          split
          · rename_i h; have := H.f i hi h; omega
          · omega) (by omega) k hk
        have h2 := H.f k hk hA
        simp only [hA, if_true] at h1
        omega
    refine ⟨fun _ => 0, ⟨fun k hk h => (by rw [hall k hk] at h; cases h), fun h hh => ?_⟩⟩
    have : sumN (fun k => if A k = true ∧ (fun _ => 0 : Nat → Int) k = h then (1 : Int) else 0) D.m = sumN (fun _ => 0) D.m := sumN_congr fun k hk => by rw [hall k hk]; simp
    rw [this]
    have h0 : ∀ m, sumN (fun _ => (0 : Int)) m = 0 := fun m => by induction m with
      | zero => rfl
      | succ m ih => simp only [sumN, ih]; rfl
    rw [h0]; exact H.l h
  | succ fuel ih =>
    intro A F L H hn
    by_cases hex : ∃ k, k < D.m ∧ A k = true
    · obtain ⟨k0, hk0, hA0, hmin⟩ := least_of (v := F) hex
      obtain ⟨a, ha⟩ : ∃ a : Nat, F k0 = a := ⟨(F k0).toNat, by have := H.f k0 hk0 hA0; have := (hD.st k0 hk0).fr; omega⟩
      have han : a < D.n := by have := H.f k0 hk0 hA0; have := (hD.st k0 hk0).to; omega
      obtain ⟨k1, hk1, ⟨hA1, hF1⟩, hmin1⟩ := least_of (p := fun k => A k = true ∧ F k = a) (v := D.to) ⟨k0, hk0, hA0, ha⟩
      have hf1 := H.f k1 hk1 hA1
      rcases Int.lt_or_le 0 (L a) with hL | hL
      · -- the street takes the hour
        let A' : Nat → Bool := fun k => if k = k1 then false else A k
        let L' : Nat → Int := fun h => if h = a then L h - 1 else L h
        have hA' : ∀ k, A' k = true ↔ k ≠ k1 ∧ A k = true := fun k => by
          show (if k = k1 then false else A k) = true ↔ _
          by_cases e : k = k1 <;> simp [e]
        have H' : Hal D A' F L' := by
          refine ⟨fun k hk h => H.f k hk ((hA' k).1 h).2, fun h => ?_, fun lo hi h1 h2 => ?_⟩
          · show 0 ≤ (if h = a then L h - 1 else L h)
            split
            · rename_i e; subst e; omega
            · exact H.l h
          · have hc := H.c lo hi h1 h2
            have hr : sumN (fun i => L' (lo + i)) (hi + 1 - lo) = sumN (fun i => L (lo + i)) (hi + 1 - lo) - (if lo ≤ a ∧ a ≤ hi then 1 else 0) := by
              have e1 : sumN (fun i => L' (lo + i)) (hi + 1 - lo) = sumN (fun j => if j = a - lo then L (lo + j) + (if lo ≤ a then -1 else 0) else L (lo + j)) (hi + 1 - lo) := sumN_congr fun i hi' => by
                show (if lo + i = a then L (lo + i) - 1 else L (lo + i)) = _
                by_cases e : lo + i = a
                · rw [if_pos e, if_pos (by omega), if_pos (by omega)]; omega
                · rw [if_neg e]
                  by_cases e2 : i = a - lo
                  · rw [if_pos e2, if_neg (by omega)]; omega
                  · rw [if_neg e2]
              rw [e1, sumN_put]
              by_cases e : lo ≤ a
              · by_cases e2 : a ≤ hi
                · rw [if_pos (by omega), if_pos e, if_pos ⟨e, e2⟩]; omega
                · rw [if_neg (by omega), if_neg (by omega)]; omega
              · rw [if_neg e, if_neg (c := lo ≤ a ∧ a ≤ hi) (fun h => e h.1)]; split <;> omega
            rw [hr]
            by_cases e : lo ≤ a ∧ a ≤ hi
            · rw [if_pos e]
              by_cases e2 : D.to k1 ≤ hi
              · -- the street itself is in the span
                have e3 : sumN (fun k => if A k = true ∧ (lo : Int) ≤ F k ∧ D.to k ≤ hi then (1 : Int) else 0) D.m = sumN (fun k => if A' k = true ∧ (lo : Int) ≤ F k ∧ D.to k ≤ hi then (1 : Int) else 0) D.m + 1 := by
                  have e4 : sumN (fun k => if A k = true ∧ (lo : Int) ≤ F k ∧ D.to k ≤ hi then (1 : Int) else 0) D.m = sumN (fun j => if j = k1 then (if A' j = true ∧ (lo : Int) ≤ F j ∧ D.to j ≤ hi then (1 : Int) else 0) + 1 else (if A' j = true ∧ (lo : Int) ≤ F j ∧ D.to j ≤ hi then (1 : Int) else 0)) D.m := sumN_congr fun k hk => by
                    by_cases e5 : k = k1
                    · subst e5
                      rw [if_pos ⟨hA1, by omega, e2⟩, if_pos rfl, if_neg (fun h => ((hA' k).1 h.1).1 rfl)]; rfl
                    · rw [if_neg e5]
                      by_cases e6 : A k = true
                      · have e7 := (hA' k).2 ⟨e5, e6⟩; simp only [e6, e7]
                      · have e7 : ¬ A' k = true := fun h => e6 ((hA' k).1 h).2
                        rw [if_neg (fun h => e6 h.1), if_neg (fun h => e7 h.1)]
                  rw [e4, sumN_put, if_pos hk1]
                omega
              · -- nobody that can have this hour alone ends in the span
                by_cases e3 : a + 1 ≤ hi
                · have hc2 := H.c (a + 1) hi e3 h2
                  have e4 : sumN (fun k => if A' k = true ∧ (lo : Int) ≤ F k ∧ D.to k ≤ hi then (1 : Int) else 0) D.m ≤ sumN (fun k => if A k = true ∧ ((a + 1 : Nat) : Int) ≤ F k ∧ D.to k ≤ hi then (1 : Int) else 0) D.m := sumN_le fun k hk => by
                    by_cases e5 : A' k = true ∧ (lo : Int) ≤ F k ∧ D.to k ≤ hi
                    · rw [if_pos e5]
                      have e6 := ((hA' k).1 e5.1).2
                      have e7 := hmin k hk e6
                      have e8 : F k ≠ a := fun e8 => by have := hmin1 k hk ⟨e6, e8⟩; omega
                      rw [if_pos ⟨e6, by omega, e5.2.2⟩]; omega
                    · rw [if_neg e5]; split <;> omega
                  have e5 : sumN (fun i => L (a + 1 + i)) (hi + 1 - (a + 1)) + 1 ≤ sumN (fun i => L (lo + i)) (hi + 1 - lo) := by
                    have e6 : ∀ (x y : Nat) (g : Nat → Int), sumN g (x + y) = sumN g x + sumN (fun i => g (x + i)) y := fun x y g => by
                      induction y with
                      | zero => simp [sumN]
                      | succ y ihy => rw [show x + (y + 1) = x + y + 1 by omega]; simp only [sumN]; rw [ihy]; omega
                    have e7 : hi + 1 - lo = (a - lo) + (1 + (hi + 1 - (a + 1))) := by omega
                    rw [e7, e6, e6]
                    have e8 := sumN_nn (a := fun i => L (lo + i)) (k := a - lo) (fun i _ => H.l _)
                    have e9 : sumN (fun i => L (lo + (a - lo + i))) 1 = L a := by simp only [sumN]; rw [show lo + (a - lo + 0) = a by omega]; omega
                    have e10 : sumN (fun i => L (lo + (a - lo + (1 + i)))) (hi + 1 - (a + 1)) = sumN (fun i => L (a + 1 + i)) (hi + 1 - (a + 1)) := sumN_congr fun i _ => by rw [show lo + (a - lo + (1 + i)) = a + 1 + i by omega]
                    rw [e9, e10]; omega
                  omega
                · have e4 : sumN (fun k => if A' k = true ∧ (lo : Int) ≤ F k ∧ D.to k ≤ hi then (1 : Int) else 0) D.m ≤ sumN (fun _ => 0) D.m := sumN_le fun k hk => by
                    by_cases e5 : A' k = true ∧ (lo : Int) ≤ F k ∧ D.to k ≤ hi
                    · exfalso
                      have e6 := ((hA' k).1 e5.1).2
                      have e7 := hmin k hk e6
                      have e8 : F k ≠ a := fun e8 => by have := hmin1 k hk ⟨e6, e8⟩; omega
                      have := H.f k hk e6
                      omega
                    · rw [if_neg e5]; omega
                  have e5 : sumN (fun _ => (0 : Int)) D.m ≤ 0 := by
                    have : ∀ m, sumN (fun _ => (0 : Int)) m = 0 := fun m => by induction m with
                      | zero => rfl
                      | succ m ih => simp only [sumN, ih]; rfl
                    rw [this]; exact Int.le_refl _
                  have e6 := sumN_ge1 (a := fun i => L (lo + i)) (k := hi + 1 - lo) (i := a - lo) (fun i _ => H.l _) (by omega)
                  simp only [show lo + (a - lo) = a by omega] at e6
                  omega
            · rw [if_neg e]
              have e4 : sumN (fun k => if A' k = true ∧ (lo : Int) ≤ F k ∧ D.to k ≤ hi then (1 : Int) else 0) D.m ≤ sumN (fun k => if A k = true ∧ (lo : Int) ≤ F k ∧ D.to k ≤ hi then (1 : Int) else 0) D.m := sumN_le fun k hk => by
                by_cases e5 : A' k = true ∧ (lo : Int) ≤ F k ∧ D.to k ≤ hi
                · rw [if_pos e5, if_pos ⟨((hA' k).1 e5.1).2, e5.2⟩]; omega
                · rw [if_neg e5]; split <;> omega
              omega
        have hn' : sumN (fun k => if A' k = true then D.to k - F k + 1 else 0) D.m ≤ fuel := by
          have e4 : sumN (fun k => if A k = true then D.to k - F k + 1 else 0) D.m = sumN (fun j => if j = k1 then (if A' j = true then D.to j - F j + 1 else 0) + (D.to k1 - F k1 + 1) else (if A' j = true then D.to j - F j + 1 else 0)) D.m := sumN_congr fun k hk => by
            by_cases e5 : k = k1
            · subst e5
              rw [if_pos hA1, if_pos rfl, if_neg (fun h => ((hA' k).1 h).1 rfl)]; omega
            · rw [if_neg e5]
              by_cases e6 : A k = true
              · have e7 := (hA' k).2 ⟨e5, e6⟩; simp only [e6, e7]
              · have e7 : ¬ A' k = true := fun h => e6 ((hA' k).1 h).2
                rw [if_neg e6, if_neg e7]
          rw [e4, sumN_put, if_pos hk1] at hn
          omega
        obtain ⟨g, hg⟩ := ih A' F L' H' hn'
        refine ⟨fun k => if k = k1 then (a : Int) else g k, ⟨fun k hk h => ?_, fun h hh => ?_⟩⟩
        · by_cases e : k = k1
          · subst e; simp only [if_true]; omega
          · simp only [if_neg e]; exact hg.h k hk ((hA' k).2 ⟨e, h⟩)
        · have hc := hg.c h hh
          have e4 : sumN (fun k => if A k = true ∧ (if k = k1 then (a : Int) else g k) = h then (1 : Int) else 0) D.m = sumN (fun j => if j = k1 then (if A' j = true ∧ g j = h then (1 : Int) else 0) + (if a = h then 1 else 0) else (if A' j = true ∧ g j = h then (1 : Int) else 0)) D.m := sumN_congr fun k hk => by
            by_cases e5 : k = k1
            · subst e5
              simp only [if_true, hA1, true_and]
              rw [if_neg (c := A' k = true ∧ g k = h) (fun h => ((hA' k).1 h.1).1 rfl)]
              by_cases e6 : a = h
              · subst e6; simp
              · rw [if_neg e6, if_neg (by omega)]; rfl
            · rw [if_neg e5]
              simp only [if_neg e5]
              by_cases e6 : A k = true
              · have e7 := (hA' k).2 ⟨e5, e6⟩; simp only [e6, e7]
              · have e7 : ¬ A' k = true := fun h => e6 ((hA' k).1 h).2
                rw [if_neg (fun h => e6 h.1), if_neg (fun h => e7 h.1)]
          rw [e4, sumN_put, if_pos hk1]
          have e8 : L' h = (if h = a then L h - 1 else L h) := rfl
          rw [e8] at hc
          by_cases e6 : a = h
          · subst e6; simp only [if_true] at hc ⊢; omega
          · rw [if_neg (Ne.symm e6)] at hc; rw [if_neg e6]; omega
      · -- the hour is full: all begin later
        have hL0 : L a = 0 := by have := H.l a; omega
        have hlate : ∀ k, k < D.m → A k = true → F k = a → (a : Int) < D.to k := fun k hk hA hF => by
          rcases Int.lt_or_le (a : Int) (D.to k) with h | h
          · exact h
          · have hf := H.f k hk hA
            have hc := H.c a a (Nat.le_refl _) han
            have e1 : sumN (fun i => L (a + i)) (a + 1 - a) = 0 := by rw [show a + 1 - a = 1 by omega]; simp only [sumN]; rw [Nat.add_zero, hL0]; rfl
            have e2 := sumN_ge1 (a := fun k => if A k = true ∧ (a : Int) ≤ F k ∧ D.to k ≤ (a : Int) then (1 : Int) else 0) (k := D.m) (i := k) (fun i _ => by show 0 ≤ (if _ then (1 : Int) else 0); split <;> omega) hk
            simp only [hA, true_and] at e2
            rw [if_pos ⟨by omega, by omega⟩] at e2
            omega
        let F' : Nat → Int := fun k => if F k = a then F k + 1 else F k
        have H' : Hal D A F' L := by
          refine ⟨fun k hk h => ?_, H.l, fun lo hi h1 h2 => ?_⟩
          · have := H.f k hk h
            show D.fr k ≤ (if F k = a then F k + 1 else F k) ∧ (if F k = a then F k + 1 else F k) ≤ D.to k
            split
            · rename_i e; have := hlate k hk h e; omega
            · exact this
          · by_cases e : lo = a + 1
            · subst e
              have hc := H.c a hi (by omega) h2
              have e6 : ∀ (x y : Nat) (g : Nat → Int), sumN g (x + y) = sumN g x + sumN (fun i => g (x + i)) y := fun x y g => by
                induction y with
                | zero => simp [sumN]
                | succ y ihy => rw [show x + (y + 1) = x + y + 1 by omega]; simp only [sumN]; rw [ihy]; omega
              rw [show hi + 1 - a = 1 + (hi + 1 - (a + 1)) by omega, e6] at hc
              have e9 : sumN (fun i => L (a + i)) 1 = 0 := by simp only [sumN]; rw [Nat.add_zero, hL0]; rfl
              have e10 : sumN (fun i => L (a + (1 + i))) (hi + 1 - (a + 1)) = sumN (fun i => L (a + 1 + i)) (hi + 1 - (a + 1)) := sumN_congr fun i _ => by rw [show a + (1 + i) = a + 1 + i by omega]
              rw [e9, e10] at hc
              refine Int.le_trans (sumN_le fun k hk => ?_) (by rw [Int.zero_add] at hc; exact hc)
              show (if A k = true ∧ ((a + 1 : Nat) : Int) ≤ (if F k = a then F k + 1 else F k) ∧ D.to k ≤ hi then (1 : Int) else 0) ≤ _
              by_cases e5 : A k = true ∧ ((a + 1 : Nat) : Int) ≤ (if F k = a then F k + 1 else F k) ∧ D.to k ≤ hi
              · rw [if_pos e5]
                have e7 := hmin k hk e5.1
                rw [if_pos ⟨e5.1, by omega, e5.2.2⟩]; omega
              · rw [if_neg e5]; split <;> omega
            · refine Int.le_trans (sumN_le fun k hk => ?_) (H.c lo hi h1 h2)
              show (if A k = true ∧ (lo : Int) ≤ (if F k = a then F k + 1 else F k) ∧ D.to k ≤ hi then (1 : Int) else 0) ≤ _
              by_cases e5 : A k = true ∧ (lo : Int) ≤ (if F k = a then F k + 1 else F k) ∧ D.to k ≤ hi
              · rw [if_pos e5]
                have e7 := e5.2.1
                by_cases e8 : F k = a
                · rw [if_pos e8] at e7; rw [if_pos ⟨e5.1, by omega, e5.2.2⟩]; omega
                · rw [if_neg e8] at e7; rw [if_pos ⟨e5.1, e7, e5.2.2⟩]; omega
              · rw [if_neg e5]; split <;> omega
        have hn' : sumN (fun k => if A k = true then D.to k - F' k + 1 else 0) D.m ≤ fuel := by
          have e4 : sumN (fun k => if A k = true then D.to k - F' k + 1 else 0) D.m + (if k0 < D.m then 1 else 0) ≤ sumN (fun k => if A k = true then D.to k - F k + 1 else 0) D.m := by
            rw [← sumN_put (a := fun k => if A k = true then D.to k - F' k + 1 else 0) (i := k0)]
            refine sumN_le fun k hk => ?_
            by_cases e5 : A k = true
            · rw [if_pos e5]
              simp only [e5, if_true]
              show (if k = k0 then D.to k - (if F k = a then F k + 1 else F k) + 1 + 1 else D.to k - (if F k = a then F k + 1 else F k) + 1) ≤ D.to k - F k + 1
              by_cases e6 : k = k0
              · subst e6; rw [if_pos rfl, if_pos ha]; omega
              · rw [if_neg e6]; split <;> omega
            · have e6 : k ≠ k0 := fun e => e5 (by rw [e]; exact hA0)
              simp only [if_neg e6, if_neg e5]; omega
          rw [if_pos hk0] at e4
          omega
        exact ih A F' L H' hn'
    · refine ⟨fun _ => 0, ⟨fun k hk h => absurd ⟨k, hk, h⟩ hex, fun h hh => ?_⟩⟩
      refine Int.le_trans (sumN_le (b := fun _ => 0) fun k hk => ?_) ?_
      · rw [if_neg (fun h => hex ⟨k, hk, h.1⟩)]; omega
      · have : ∀ m, sumN (fun _ => (0 : Int)) m = 0 := fun m => by induction m with
          | zero => rfl
          | succ m ih => simp only [sumN, ih]; rfl
        rw [this]; exact H.l h
/-- there is a new roster just if no span lacks room -/
theorem ex_iff_lack {D : Ro} (hD : OkP D) : Ex D ↔ lkT D D.n = none := by
  rw [lkT_none]
  constructor
  · rintro ⟨f, hf⟩ lo hi h1 h2
    exact new_noLack hD hf h1 h2
  · intro h
    obtain ⟨g, hg⟩ := hall hD (sumN (fun k => if (fun _ => true : Nat → Bool) k = true then D.to k - D.fr k + 1 else 0) D.m).toNat (fun _ => true) D.fr (fun h => if h < D.n then D.rm h else 0) ⟨fun k hk _ => ⟨Int.le_refl _, (hD.st k hk).ft⟩, fun h => by
        show 0 ≤ (if h < D.n then D.rm h else 0)
        split
        · rename_i hh; exact (hD.rm h hh).1
        · omega, fun lo hi h1 h2 => by
        have h3 := h lo hi h1 h2
        simp only [lacksB, decide_eq_false_iff_not] at h3
        have e1 : sumN (fun i => (fun h => if h < D.n then D.rm h else 0 : Nat → Int) (lo + i)) (hi + 1 - lo) = rmS D lo (hi + 1 - lo) := sumN_congr fun i hi' => by show (if lo + i < D.n then D.rm (lo + i) else 0) = _; rw [if_pos (by omega)]
        have e2 : sumN (fun k => if (fun _ => true : Nat → Bool) k = true ∧ (lo : Int) ≤ D.fr k ∧ D.to k ≤ (hi : Int) then (1 : Int) else 0) D.m = cntS D lo hi D.m := sumN_congr fun k _ => by
          by_cases e : inSp D lo hi k = true
          · have e2 := inSp_iff.1 e; rw [if_pos e, if_pos ⟨rfl, e2⟩]
          · rw [if_neg e, if_neg (fun h => e (inSp_iff.2 h.2))]
        rw [e1, e2]; omega⟩ (by
        have := sumN_nn (a := fun k => if (fun _ => true : Nat → Bool) k = true then D.to k - D.fr k + 1 else 0) (k := D.m) (fun i hi => by simp only [if_true]; have := (hD.st i hi).ft; omega)
        exact Int.le_of_eq (Int.toNat_of_nonneg this).symm)
    refine ⟨g, fun k hk => hg.h k hk rfl, fun h hh => ?_⟩
    have h1 := hg.c h hh
    rw [if_pos hh] at h1
    rw [cnt_sum]
    refine Int.le_trans (Int.le_of_eq (sumN_congr fun k _ => ?_)) h1
    unfold one; simp
end Go.Proofs.Ytegkgfiaegpihaa
