/- The cheapest gaugings of some stretches: the table of choices (mathematics alone). -/
import Derived.Test.YtkdlppekjjbgoaaM1

set_option linter.unusedSimpArgs false

set_option linter.unusedVariables false

namespace Go.Proofs.Ytkdlppekjjbgoaa

/-- the best of c points behind f, by the choices T of fewer stretches -/
def bst (g : Nat → Nat → Nat → Int → Int → Int) (T : Nat → Nat → Int × Int) (f t : Nat) : Nat → Int × Int
  | 0 => (0, 0)
  | k + 1 => if k = 0 ∨ g f (f + 1 + k) t (T f (f + 1 + k)).2 (T (f + 1 + k) t).2 < (bst g T f t k).2 then (((f + 1 + k : Nat) : Int), g f (f + 1 + k) t (T f (f + 1 + k)).2 (T (f + 1 + k) t).2) else bst g T f t k
def chF (g : Nat → Nat → Nat → Int → Int → Int) : Nat → Nat → Nat → Int × Int
  | 0 => fun _ _ => (0, 0)
  | n + 1 => fun f t => bst g (chF g n) f t (t - f - 1)
def CH (g : Nat → Nat → Nat → Int → Int → Int) (f t : Nat) : Int × Int := chF g (t - f) f t
theorem bst_congr {g : Nat → Nat → Nat → Int → Int → Int} {T U : Nat → Nat → Int × Int} {f t : Nat} : ∀ {k : Nat}, (∀ p, f < p → p < f + 1 + k → T f p = U f p ∧ T p t = U p t) → bst g T f t k = bst g U f t k
  | 0, _ => rfl
  | k + 1, h => by
    have h1 := h (f + 1 + k) (by omega) (by omega)
    unfold bst
    rw [bst_congr fun p hp hk => h p hp (by omega), h1.1, h1.2]
theorem chF_eq {g : Nat → Nat → Nat → Int → Int → Int} : ∀ {n m f t : Nat}, t - f ≤ n → t - f ≤ m → chF g n f t = chF g m f t
  | 0, 0, _, _, _, _ => rfl
  | 0, m + 1, f, t, h, _ => by
    show (0, 0) = bst g (chF g m) f t (t - f - 1)
    rw [show t - f - 1 = 0 by omega]; rfl
  | n + 1, 0, f, t, _, h => by
    show bst g (chF g n) f t (t - f - 1) = (0, 0)
    rw [show t - f - 1 = 0 by omega]; rfl
  | n + 1, m + 1, f, t, h1, h2 => by
    show bst g (chF g n) f t (t - f - 1) = bst g (chF g m) f t (t - f - 1)
    exact bst_congr fun p hp hk => ⟨chF_eq (by omega) (by omega), chF_eq (by omega) (by omega)⟩
theorem CH_eq (g : Nat → Nat → Nat → Int → Int → Int) (f t : Nat) : CH g f t = bst g (CH g) f t (t - f - 1) := by
  unfold CH
  cases hn : t - f with
  | zero => rfl
  | succ n =>
    show bst g (chF g n) f t (t - f - 1) = _
    rw [hn]
    exact bst_congr fun p hp hk => ⟨chF_eq (by omega) (by omega), chF_eq (by omega) (by omega)⟩
theorem CH_one {g : Nat → Nat → Nat → Int → Int → Int} {f t : Nat} (h : t ≤ f + 1) : CH g f t = (0, 0) := by rw [CH_eq, show t - f - 1 = 0 by omega]; rfl
/-- what is paid at the worst -/
def gW (D : Duct) : Nat → Nat → Nat → Int → Int → Int := fun _ p _ x y => D.co p + max x y
def WW (D : Duct) (f t : Nat) : Int := (CH (gW D) f t).2
def NX (D : Duct) (f t : Nat) : Int := (CH (gW D) f t).1
/-- the value of a first point p -/
def vW (D : Duct) (f t p : Nat) : Int := D.co p + max (WW D f p) (WW D p t)
theorem bst_spec {D : Duct} {f t : Nat} : ∀ {k : Nat}, 0 < k → ∃ p, f < p ∧ p < f + 1 + k ∧ bst (gW D) (CH (gW D)) f t k = ((p : Int), vW D f t p) ∧ (∀ p', f < p' → p' < f + 1 + k → vW D f t p ≤ vW D f t p') ∧ ∀ p', f < p' → p' < p → vW D f t p < vW D f t p'
  | 0, h => absurd h (Nat.lt_irrefl _)
  | k + 1, _ => by
    have hg : gW D f (f + 1 + k) t (CH (gW D) f (f + 1 + k)).2 (CH (gW D) (f + 1 + k) t).2 = vW D f t (f + 1 + k) := rfl
    unfold bst
    rw [hg]
    rcases Nat.eq_zero_or_pos k with hk | hk
    · subst hk
      rw [if_pos (Or.inl rfl)]
      exact ⟨f + 1 + 0, by omega, by omega, rfl, fun p' h1 h2 => by rw [show p' = f + 1 + 0 by omega]; exact Int.le_refl _, fun p' h1 h2 => by omega⟩
    · obtain ⟨p, h1, h2, h3, h4, h5⟩ := bst_spec (D := D) (f := f) (t := t) hk
      by_cases hlt : vW D f t (f + 1 + k) < vW D f t p
      · rw [if_pos (Or.inr (by rw [h3]; exact hlt))]
        refine ⟨f + 1 + k, by omega, by omega, rfl, fun p' a b => ?_, fun p' a b => ?_⟩
        · rcases Nat.lt_or_ge p' (f + 1 + k) with c | c
          · have := h4 p' a c; omega
          · rw [show p' = f + 1 + k by omega]; exact Int.le_refl _
        · have := h4 p' a (by omega); omega
      · rw [if_neg (by rw [h3]; rintro (h | h); · omega
                       · exact hlt h)]
        refine ⟨p, h1, by omega, h3, fun p' a b => ?_, h5⟩
        rcases Nat.lt_or_ge p' (f + 1 + k) with c | c
        · exact h4 p' a c
        · rw [show p' = f + 1 + k by omega]; omega
theorem W_spec {D : Duct} {f t : Nat} (h : f + 1 < t) : ∃ p, f < p ∧ p < t ∧ NX D f t = (p : Int) ∧ WW D f t = vW D f t p ∧ (∀ p', f < p' → p' < t → vW D f t p ≤ vW D f t p') ∧ ∀ p', f < p' → p' < p → vW D f t p < vW D f t p' := by
  obtain ⟨p, h1, h2, h3, h4, h5⟩ := bst_spec (D := D) (f := f) (t := t) (k := t - f - 1) (by omega)
  have e := CH_eq (gW D) f t
  rw [h3] at e
  exact ⟨p, h1, by omega, by unfold NX; rw [e], by unfold WW; rw [e], fun p' a b => h4 p' a (by omega), h5⟩
theorem W_one {D : Duct} {f t : Nat} (h : t ≤ f + 1) : WW D f t = 0 := by unfold WW; rw [CH_one h]
theorem NX_one {D : Duct} {f t : Nat} (h : t ≤ f + 1) : NX D f t = 0 := by unfold NX; rw [CH_one h]
theorem W_bd {D : Duct} (hc : ∀ k, k < D.n → 0 ≤ D.co k ∧ D.co k ≤ 20) : ∀ {n f t : Nat}, t - f ≤ n → t < D.n → 0 ≤ WW D f t ∧ WW D f t ≤ 20 * (n : Int)
  | 0, f, t, h, _ => by rw [W_one (by omega)]; omega
  | n + 1, f, t, h, ht => by
    by_cases h2 : f + 1 < t
    · obtain ⟨p, h1, h3, _, h4, _⟩ := W_spec (D := D) h2
      have a := W_bd hc (n := n) (f := f) (t := p) (by omega) (by omega)
      have b := W_bd hc (n := n) (f := p) (t := t) (by omega) ht
      have c := hc p (by omega)
      rw [h4]; unfold vW; omega
    · rw [W_one (by omega)]; omega
theorem NX_bd {D : Duct} {f t : Nat} : 0 ≤ NX D f t ∧ NX D f t ≤ (t : Int) := by
  by_cases h2 : f + 1 < t
  · obtain ⟨p, h1, h3, h4, _⟩ := W_spec (D := D) h2
    rw [h4]; omega
  · rw [NX_one (by omega)]; omega
end Go.Proofs.Ytkdlppekjjbgoaa
