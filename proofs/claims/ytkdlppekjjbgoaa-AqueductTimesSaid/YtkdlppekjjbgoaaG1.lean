/- The cheapest gaugings on the average, backwards, with other costs and odds, and with a free point (mathematics). -/
import Derived.Test.YtkdlppekjjbgoaaU1

set_option linter.unusedSimpArgs false

set_option linter.unusedVariables false

namespace Go.Proofs.Ytkdlppekjjbgoaa

/-- the value of a first point p by the measure g -/
def vG (g : Nat → Nat → Nat → Int → Int → Int) (f t p : Nat) : Int := g f p t (CH g f p).2 (CH g p t).2
theorem bstG_spec {g : Nat → Nat → Nat → Int → Int → Int} {f t : Nat} : ∀ {k : Nat}, 0 < k → ∃ p, f < p ∧ p < f + 1 + k ∧ bst g (CH g) f t k = ((p : Int), vG g f t p) ∧ (∀ p', f < p' → p' < f + 1 + k → vG g f t p ≤ vG g f t p') ∧ ∀ p', f < p' → p' < p → vG g f t p < vG g f t p'
  | 0, h => absurd h (Nat.lt_irrefl _)
  | k + 1, _ => by
    have hg : g f (f + 1 + k) t (CH g f (f + 1 + k)).2 (CH g (f + 1 + k) t).2 = vG g f t (f + 1 + k) := rfl
    unfold bst
    rw [hg]
    rcases Nat.eq_zero_or_pos k with hk | hk
    · subst hk
      rw [if_pos (Or.inl rfl)]
      exact ⟨f + 1 + 0, by omega, by omega, rfl, fun p' h1 h2 => by rw [show p' = f + 1 + 0 by omega]; exact Int.le_refl _, fun p' h1 h2 => by omega⟩
    · obtain ⟨p, h1, h2, h3, h4, h5⟩ := bstG_spec (g := g) (f := f) (t := t) hk
      by_cases hlt : vG g f t (f + 1 + k) < vG g f t p
      · rw [if_pos (Or.inr (by rw [h3]; exact hlt))]
        refine ⟨f + 1 + k, by omega, by omega, rfl, fun p' a b => ?_, fun p' a b => ?_⟩
        · rcases Nat.lt_or_ge p' (f + 1 + k) with c | c
          · have := h4 p' a c; omega
          · rw [show p' = f + 1 + k by omega]; exact Int.le_refl _
        · have := h4 p' a (by omega); omega
      · rw [if_neg (by rw [h3]; rintro (h | h); · omega
                       · exact hlt h)]
        refine ⟨p, h1, by omega, h3, fun p' a b => ?_, h5⟩
        rcases Nat.lt_or_ge p' (f + 1 + k) with c | c
        · exact h4 p' a c
        · rw [show p' = f + 1 + k by omega]; omega
theorem CH_spec {g : Nat → Nat → Nat → Int → Int → Int} {f t : Nat} (h : f + 1 < t) : ∃ p, f < p ∧ p < t ∧ (CH g f t).1 = (p : Int) ∧ (CH g f t).2 = vG g f t p ∧ (∀ p', f < p' → p' < t → vG g f t p ≤ vG g f t p') ∧ ∀ p', f < p' → p' < p → vG g f t p < vG g f t p' := by
  obtain ⟨p, h1, h2, h3, h4, h5⟩ := bstG_spec (g := g) (f := f) (t := t) (k := t - f - 1) (by omega)
  have e := CH_eq g f t
  rw [h3] at e
  exact ⟨p, h1, by omega, by rw [e], by rw [e], fun p' a b => h4 p' a (by omega), h5⟩
theorem bstG_step {g : Nat → Nat → Nat → Int → Int → Int} {f t pt : Nat} (h : f < pt) : bst g (CH g) f t (pt + 1 - f - 1) = if pt = f + 1 ∨ vG g f t pt < (bst g (CH g) f t (pt - f - 1)).2 then ((pt : Int), vG g f t pt) else bst g (CH g) f t (pt - f - 1) := by
  obtain ⟨k, hk⟩ : ∃ k, pt = f + 1 + k := ⟨pt - f - 1, by omega⟩
  rw [show pt + 1 - f - 1 = k + 1 by omega, show pt - f - 1 = k by omega]
  subst hk
  show (if k = 0 ∨ vG g f t (f + 1 + k) < _ then _ else _) = _
  by_cases h0 : k = 0
  · rw [if_pos (Or.inl h0), if_pos (Or.inl (by omega))]; rfl
  · by_cases h1 : vG g f t (f + 1 + k) < (bst g (CH g) f t k).2
    · rw [if_pos (Or.inr h1), if_pos (Or.inr h1)]; rfl
    · rw [if_neg (by rintro (h | h); exact h0 h; exact h1 h), if_neg (by rintro (h | h); omega; exact h1 h)]
/-- the odds of n stretches from f on, together -/
def oN (D : Duct) (f : Nat) : Nat → Int
  | 0 => 0
  | n + 1 => oN D f n + D.od (f + n)
def oS (D : Duct) (f t : Nat) : Int := oN D f (t - f)
theorem oN_app {D : Duct} {f a : Nat} : ∀ {b : Nat}, oN D f (a + b) = oN D f a + oN D (f + a) b
  | 0 => by rw [Nat.add_zero]; show _ = _ + 0; omega
  | b + 1 => by
    show oN D f (a + b) + D.od (f + (a + b)) = oN D f a + (oN D (f + a) b + D.od (f + a + b))
    rw [oN_app (b := b), Nat.add_assoc f a b]; omega
theorem oS_app {D : Duct} {f p t : Nat} (h1 : f ≤ p) (h2 : p ≤ t) : oS D f t = oS D f p + oS D p t := by
  unfold oS
  have := oN_app (D := D) (f := f) (a := p - f) (b := t - p)
  rw [show p - f + (t - p) = t - f by omega, show f + (p - f) = p by omega] at this
  exact this
theorem oN_bd {D : Duct} (ho : ∀ k, k < D.m → 1 ≤ D.od k ∧ D.od k ≤ 9) {f : Nat} : ∀ {n : Nat}, f + n ≤ D.m → (n : Int) ≤ oN D f n ∧ oN D f n ≤ 9 * (n : Int)
  | 0, _ => by unfold oN; omega
  | n + 1, h => by
    have a := oN_bd ho (f := f) (n := n) (by omega)
    have b := ho (f + n) (by omega)
    have e : oN D f (n + 1) = oN D f n + D.od (f + n) := rfl
    rw [e]; omega
theorem oS_bd {D : Duct} (ho : ∀ k, k < D.m → 1 ≤ D.od k ∧ D.od k ≤ 9) {f t : Nat} (h : f ≤ t) (ht : t ≤ D.m) : ((t - f : Nat) : Int) ≤ oS D f t ∧ oS D f t ≤ 9 * ((t - f : Nat) : Int) := oN_bd ho (by omega)
/-- what is paid for all stretches, each as many times as its odds -/
def gS (D : Duct) : Nat → Nat → Nat → Int → Int → Int := fun f p t x y => D.co p * oS D f t + x + y
def AW (D : Duct) (f t : Nat) : Int := (CH (gS D) f t).2
def vS (D : Duct) (f t p : Nat) : Int := D.co p * oS D f t + AW D f p + AW D p t
theorem A_one {D : Duct} {f t : Nat} (h : t ≤ f + 1) : AW D f t = 0 := by unfold AW; rw [CH_one h]
theorem A_spec {D : Duct} {f t : Nat} (h : f + 1 < t) : ∃ p, f < p ∧ p < t ∧ AW D f t = vS D f t p ∧ ∀ p', f < p' → p' < t → vS D f t p ≤ vS D f t p' := by
  obtain ⟨p, h1, h2, _, h4, h5, _⟩ := CH_spec (g := gS D) h
  exact ⟨p, h1, h2, h4, h5⟩
theorem mul_in {a b A B : Int} (h1 : 0 ≤ a ∧ a ≤ A) (h2 : 0 ≤ b ∧ b ≤ B) : 0 ≤ a * b ∧ a * b ≤ A * B :=
  ⟨Int.mul_nonneg h1.1 h2.1, Int.mul_le_mul h1.2 h2.2 h2.1 (by omega)⟩
theorem AW_bd {D : Duct} (hc : ∀ k, k < D.n → 0 ≤ D.co k ∧ D.co k ≤ 20) (ho : ∀ k, k < D.m → 1 ≤ D.od k ∧ D.od k ≤ 9) (hnm : D.n = D.m + 1) (hm : D.m ≤ 7) : ∀ {n f t : Nat}, t - f ≤ n → f < t → t ≤ D.m → 0 ≤ AW D f t ∧ AW D f t ≤ 1260 * (((t - f : Nat) : Int) - 1)
  | 0, f, t, h, h', _ => absurd h' (by omega)
  | n + 1, f, t, h, hft, ht => by
    by_cases h2 : f + 1 < t
    · obtain ⟨p, h1, h3, h4, _⟩ := A_spec (D := D) h2
      have b1 := oS_bd ho (f := f) (t := t) (by omega) ht
      have c1 := mul_in (a := D.co p) (A := 20) (hc p (by omega)) (b := oS D f t) (B := 63) ⟨by omega, by omega⟩
      have a := AW_bd hc ho hnm hm (n := n) (f := f) (t := p) (by omega) h1 (by omega)
      have b := AW_bd hc ho hnm hm (n := n) (f := p) (t := t) (by omega) h3 ht
      have e : ((p - f : Nat) : Int) + ((t - p : Nat) : Int) = ((t - f : Nat) : Int) := by omega
      rw [h4]
      unfold vS
      omega
    · rw [A_one (by omega)]; omega
/-- on the average no more is paid than at the worst -/
theorem AW_le {D : Duct} (hc : ∀ k, k < D.n → 0 ≤ D.co k ∧ D.co k ≤ 20) (ho : ∀ k, k < D.m → 1 ≤ D.od k ∧ D.od k ≤ 9) (hnm : D.n = D.m + 1) : ∀ {n f t : Nat}, t - f ≤ n → f < t → t ≤ D.m → AW D f t ≤ WW D f t * oS D f t
  | 0, f, t, h, h', _ => absurd h' (by omega)
  | n + 1, f, t, h, hft, ht => by
    have b1 := oS_bd ho (f := f) (t := t) (by omega) ht
    by_cases h2 : f + 1 < t
    · obtain ⟨p, h1, h3, _, h4, _, _⟩ := W_spec (D := D) h2
      obtain ⟨q, _, _, q4, q5⟩ := A_spec (D := D) h2
      have q6 := q5 p h1 h3
      have a := AW_le hc ho hnm (n := n) (f := f) (t := p) (by omega) h1 (by omega)
      have b := AW_le hc ho hnm (n := n) (f := p) (t := t) (by omega) h3 ht
      have o1 := oS_bd ho (f := f) (t := p) (by omega) (by omega)
      have o2 := oS_bd ho (f := p) (t := t) (by omega) ht
      have e := oS_app (D := D) (f := f) (p := p) (t := t) (by omega) (by omega)
      have m1 : WW D f p * oS D f p ≤ max (WW D f p) (WW D p t) * oS D f p := Int.mul_le_mul_of_nonneg_right (by omega) (by omega)
      have m2 : WW D p t * oS D p t ≤ max (WW D f p) (WW D p t) * oS D p t := Int.mul_le_mul_of_nonneg_right (by omega) (by omega)
      have m3 : (D.co p + max (WW D f p) (WW D p t)) * oS D f t = D.co p * oS D f t + max (WW D f p) (WW D p t) * oS D f p + max (WW D f p) (WW D p t) * oS D p t := by
        rw [Int.add_mul, Int.add_assoc, ← Int.mul_add, ← e]
      have m4 : WW D f t = D.co p + max (WW D f p) (WW D p t) := h4
      rw [m4, m3, q4]
      refine Int.le_trans q6 ?_
      unfold vS
      omega
    · rw [A_one (by omega), W_one (by omega)]; omega
/-- two measures: what one comes to is k times what the other one comes to -/
theorem CH_times {g h : Nat → Nat → Nat → Int → Int → Int} {k : Int} (hk : 1 ≤ k) {M : Nat} (hg : ∀ f p t x y, f < p → p < t → t ≤ M → h f p t (k * x) (k * y) = k * g f p t x y) : ∀ {n f t : Nat}, t - f ≤ n → t ≤ M → (CH h f t).2 = k * (CH g f t).2 ∧ (CH h f t).1 = (CH g f t).1
  | 0, f, t, h1, _ => by rw [CH_one (by omega), CH_one (by omega)]; simp
  | n + 1, f, t, h1, hM => by
    by_cases h2 : f + 1 < t
    · obtain ⟨p, p1, p2, p3, p4, p5, p6⟩ := CH_spec (g := g) h2
      obtain ⟨q, q1, q2, q3, q4, q5, q6⟩ := CH_spec (g := h) h2
      have ev : ∀ r, f < r → r < t → vG h f t r = k * vG g f t r := fun r r1 r2 => by
        unfold vG
        rw [(CH_times hk hg (n := n) (f := f) (t := r) (by omega) (by omega)).1, (CH_times hk hg (n := n) (f := r) (t := t) (by omega) hM).1]
        exact hg f r t _ _ r1 r2 hM
      have a1 := p5 q q1 q2
      have a2 := q5 p p1 p2
      rw [ev q q1 q2, ev p p1 p2] at a2
      have a3 : vG g f t q ≤ vG g f t p := Int.le_of_mul_le_mul_left a2 (by omega)
      have e : vG g f t p = vG g f t q := by omega
      refine ⟨by rw [q4, p4, ev q q1 q2, e], ?_⟩
      rw [q3, p3]
      rcases Nat.lt_trichotomy p q with c | c | c
      · have := q6 p p1 c; rw [ev q q1 q2, ev p p1 p2, e] at this; omega
      · rw [c]
      · have := p6 q q1 c; omega
    · rw [CH_one (by omega), CH_one (by omega)]; simp
/-- costs, and odds, as many times as great -/
def tmD (D : Duct) (k m : Int) : Duct := { D with co := fun i => D.co i * k, od := fun i => D.od i * m }
theorem max_mul {k x y : Int} (hk : 1 ≤ k) : max (k * x) (k * y) = k * max x y := by
  rcases Int.le_total x y with h | h
  · rw [Int.max_eq_right h, Int.max_eq_right (Int.mul_le_mul_of_nonneg_left h (by omega))]
  · rw [Int.max_eq_left h, Int.max_eq_left (Int.mul_le_mul_of_nonneg_left h (by omega))]
theorem tm_W {D : Duct} {k m : Int} (hk : 1 ≤ k) (f t : Nat) : WW (tmD D k m) f t = k * WW D f t ∧ NX (tmD D k m) f t = NX D f t :=
  CH_times (g := gW D) (h := gW (tmD D k m)) hk (M := t) (fun f p t x y _ _ _ => by
    show D.co p * k + max (k * x) (k * y) = k * (D.co p + max x y)
    rw [max_mul hk, Int.mul_add, Int.mul_comm (D.co p) k]) (n := t - f) (Nat.le_refl _) (Nat.le_refl _)
theorem tm_oN {D : Duct} {k m : Int} {f : Nat} : ∀ {n : Nat}, oN (tmD D k m) f n = oN D f n * m
  | 0 => by show (0 : Int) = 0 * m; rw [Int.zero_mul]
  | n + 1 => by
    show oN (tmD D k m) f n + D.od (f + n) * m = (oN D f n + D.od (f + n)) * m
    rw [tm_oN, Int.add_mul]
theorem tm_oS {D : Duct} {k m : Int} (f t : Nat) : oS (tmD D k m) f t = oS D f t * m := tm_oN
theorem tm_A {D : Duct} {k m : Int} (hk : 1 ≤ k) (hm : 1 ≤ m) (f t : Nat) : AW (tmD D k m) f t = k * m * AW D f t := by
  have hkm : 1 ≤ k * m := by have := Int.mul_le_mul hk hm (by omega) (by omega); omega
  refine (CH_times (g := gS D) (h := gS (tmD D k m)) hkm (M := t) (fun f p t x y _ _ _ => ?_) (n := t - f) (Nat.le_refl _) (Nat.le_refl _)).1
  show D.co p * k * oS (tmD D k m) f t + k * m * x + k * m * y = k * m * (D.co p * oS D f t + x + y)
  rw [tm_oS, Int.mul_add, Int.mul_add]
  have : D.co p * k * (oS D f t * m) = k * m * (D.co p * oS D f t) := by
    rw [Int.mul_comm (D.co p) k, Int.mul_assoc k, Int.mul_assoc k, Int.mul_comm (oS D f t) m, ← Int.mul_assoc (D.co p), Int.mul_comm (D.co p) m, Int.mul_assoc m]
  rw [this]
/-- the line turned around -/
def revD (D : Duct) : Duct := { D with lo := fun i => D.lo (D.m - i), hi := fun i => D.hi (D.m - i), co := fun i => D.co (D.m - i), od := fun i => D.od (D.m - 1 - i) }
theorem rev_W {D : Duct} : ∀ {n f t : Nat}, t - f ≤ n → t ≤ D.m → WW (revD D) (D.m - t) (D.m - f) = WW D f t
  | 0, f, t, h, _ => by rw [W_one (by omega), W_one (by omega)]
  | n + 1, f, t, h, ht => by
    by_cases h2 : f + 1 < t
    · obtain ⟨p, p1, p2, _, p4, p5, _⟩ := W_spec (D := D) h2
      obtain ⟨q, q1, q2, _, q4, q5, _⟩ := W_spec (D := revD D) (f := D.m - t) (t := D.m - f) (by omega)
      have ev : ∀ r, f < r → r < t → vW (revD D) (D.m - t) (D.m - f) (D.m - r) = vW D f t r := fun r r1 r2 => by
        unfold vW
        rw [rev_W (n := n) (f := r) (t := t) (by omega) ht, rev_W (n := n) (f := f) (t := r) (by omega) (by omega)]
        show D.co (D.m - (D.m - r)) + _ = _
        rw [show D.m - (D.m - r) = r by omega, Int.max_comm]
      have e2 := ev (D.m - q) (by omega) (by omega)
      rw [show D.m - (D.m - q) = q by omega] at e2
      have a1 := p5 (D.m - q) (by omega) (by omega)
      have a2 := q5 (D.m - p) (by omega) (by omega)
      rw [ev p p1 p2] at a2
      rw [p4, q4]
      omega
    · rw [W_one (by omega), W_one (by omega)]
theorem rev_oN {D : Duct} {f : Nat} : ∀ {n : Nat}, f + n ≤ D.m → oN (revD D) (D.m - (f + n)) n = oN D f n
  | 0, _ => rfl
  | n + 1, h => by
    have e := oN_app (D := revD D) (f := D.m - (f + (n + 1))) (a := 1) (b := n)
    rw [show 1 + n = n + 1 by omega, show D.m - (f + (n + 1)) + 1 = D.m - (f + n) by omega, rev_oN (f := f) (n := n) (by omega)] at e
    refine e.trans ?_
    show 0 + D.od (D.m - 1 - (D.m - (f + (n + 1)) + 0)) + oN D f n = oN D f n + D.od (f + n)
    rw [show D.m - 1 - (D.m - (f + (n + 1)) + 0) = f + n by omega]
    omega
theorem rev_oS {D : Duct} {f t : Nat} (h : f ≤ t) (ht : t ≤ D.m) : oS (revD D) (D.m - t) (D.m - f) = oS D f t := by
  have := rev_oN (D := D) (f := f) (n := t - f) (by omega)
  rw [show f + (t - f) = t by omega] at this
  unfold oS
  rw [show D.m - f - (D.m - t) = t - f by omega]
  exact this
theorem rev_A {D : Duct} : ∀ {n f t : Nat}, t - f ≤ n → t ≤ D.m → AW (revD D) (D.m - t) (D.m - f) = AW D f t
  | 0, f, t, h, _ => by rw [A_one (by omega), A_one (by omega)]
  | n + 1, f, t, h, ht => by
    by_cases h2 : f + 1 < t
    · obtain ⟨p, p1, p2, p4, p5⟩ := A_spec (D := D) h2
      obtain ⟨q, q1, q2, q4, q5⟩ := A_spec (D := revD D) (f := D.m - t) (t := D.m - f) (by omega)
      have ev : ∀ r, f < r → r < t → vS (revD D) (D.m - t) (D.m - f) (D.m - r) = vS D f t r := fun r r1 r2 => by
        unfold vS
        rw [rev_A (n := n) (f := r) (t := t) (by omega) ht, rev_A (n := n) (f := f) (t := r) (by omega) (by omega), rev_oS (by omega) ht]
        show D.co (D.m - (D.m - r)) * _ + _ + _ = _
        rw [show D.m - (D.m - r) = r by omega]; omega
      have e2 := ev (D.m - q) (by omega) (by omega)
      rw [show D.m - (D.m - q) = q by omega] at e2
      have a1 := p5 (D.m - q) (by omega) (by omega)
      have a2 := q5 (D.m - p) (by omega) (by omega)
      rw [ev p p1 p2] at a2
      rw [p4, q4]
      omega
    · rw [A_one (by omega), A_one (by omega)]
/-- with lesser costs no more is paid -/
theorem WW_le {D E : Duct} : ∀ {n f t : Nat}, t - f ≤ n → (∀ k, f < k → k < t → D.co k ≤ E.co k) → WW D f t ≤ WW E f t
  | 0, f, t, h, _ => by rw [W_one (by omega), W_one (by omega)]; omega
  | n + 1, f, t, h, hc => by
    by_cases h2 : f + 1 < t
    · obtain ⟨p, p1, p2, _, p4, p5, _⟩ := W_spec (D := E) h2
      obtain ⟨q, q1, q2, _, q4, q5, _⟩ := W_spec (D := D) h2
      have a := q5 p p1 p2
      have i1 := WW_le (D := D) (E := E) (n := n) (f := f) (t := p) (by omega) (fun k k1 k2 => hc k k1 (by omega))
      have i2 := WW_le (D := D) (E := E) (n := n) (f := p) (t := t) (by omega) (fun k k1 k2 => hc k (by omega) k2)
      have c := hc p p1 p2
      rw [q4, p4]
      unfold vW at a ⊢
      omega
    · rw [W_one (by omega), W_one (by omega)]; omega
theorem WW_congr {D E : Duct} {f t : Nat} (hc : ∀ k, f < k → k < t → D.co k = E.co k) : WW D f t = WW E f t :=
  Int.le_antisymm (WW_le (Nat.le_refl _) fun k a b => by rw [hc k a b]; omega) (WW_le (Nat.le_refl _) fun k a b => by rw [hc k a b]; omega)
/-- a line where it costs nothing to gauge at a point -/
def frD (D : Duct) (x : Nat) : Duct := { D with co := fun i => if i = x then 0 else D.co i }
theorem fr_up {D : Duct} {x : Nat} (hx : 0 ≤ D.co x) : ∀ {n f t : Nat}, t - f ≤ n → WW D f t ≤ WW (frD D x) f t + D.co x
  | 0, f, t, h => by rw [W_one (by omega), W_one (by omega)]; omega
  | n + 1, f, t, h => by
    by_cases h2 : f + 1 < t
    · obtain ⟨p, p1, p2, _, p4, p5, _⟩ := W_spec (D := frD D x) h2
      obtain ⟨q, q1, q2, _, q4, q5, _⟩ := W_spec (D := D) h2
      have a := q5 p p1 p2
      rw [q4, p4]
      unfold vW at a ⊢
      by_cases hp : p = x
      · subst hp
        have e1 : WW (frD D p) f p = WW D f p := WW_congr fun k k1 k2 => if_neg (by omega)
        have e2 : WW (frD D p) p t = WW D p t := WW_congr fun k k1 k2 => if_neg (by omega)
        have e3 : (frD D p).co p = 0 := if_pos rfl
        rw [e1, e2, e3]; omega
      · have e3 : (frD D x).co p = D.co p := if_neg hp
        have i1 := fr_up hx (n := n) (f := f) (t := p) (by omega)
        have i2 := fr_up hx (n := n) (f := p) (t := t) (by omega)
        rw [e3]; omega
    · rw [W_one (by omega), W_one (by omega)]; omega
/-- what is paid less with a free point -/
def FR (D : Duct) (x : Nat) : Int := WW D 0 D.m - WW (frD D x) 0 D.m
theorem FR_bd {D : Duct} {x : Nat} (hx : 0 ≤ D.co x) : 0 ≤ FR D x ∧ FR D x ≤ D.co x := by
  have a := fr_up hx (f := 0) (t := D.m) (n := D.m) (by omega)
  have b : WW (frD D x) 0 D.m ≤ WW D 0 D.m := WW_le (Nat.le_refl _) fun k _ _ => by
    show (if k = x then 0 else D.co k) ≤ D.co k
    split
    · rename_i h; rw [h]; exact hx
    · exact Int.le_refl _
  unfold FR; omega
theorem FR_end {D : Duct} {x : Nat} (h : x = 0 ∨ D.m ≤ x) : FR D x = 0 := by
  have : WW (frD D x) 0 D.m = WW D 0 D.m := WW_congr fun k k1 k2 => if_neg (by omega)
  unfold FR; omega
theorem FR_rev {D : Duct} {x : Nat} (hx : x ≤ D.m) : FR (revD D) (D.m - x) = FR D x := by
  have e1 := rev_W (D := D) (n := D.m) (f := 0) (t := D.m) (by omega) (Nat.le_refl _)
  have e2 := rev_W (D := frD D x) (n := D.m) (f := 0) (t := D.m) (by omega) (Nat.le_refl _)
  have e3 : WW (revD (frD D x)) 0 D.m = WW (frD (revD D) (D.m - x)) 0 D.m := WW_congr fun k k1 k2 => by
    show (if D.m - k = x then 0 else D.co (D.m - k)) = if k = D.m - x then 0 else D.co (D.m - k)
    by_cases h : k = D.m - x
    · rw [if_pos h, if_pos (by omega)]
    · rw [if_neg h, if_neg (by omega)]
  rw [Nat.sub_self, Nat.sub_zero] at e1
  rw [show (frD D x).m = D.m from rfl, Nat.sub_self, Nat.sub_zero] at e2
  have e2' : WW (revD (frD D x)) 0 D.m = WW (frD D x) 0 D.m := e2
  have e4 : (revD D).m = D.m := rfl
  unfold FR
  rw [e4, e1, ← e3, e2']
theorem FR_tm {D : Duct} {k m : Int} (hk : 1 ≤ k) {x : Nat} : FR (tmD D k m) x = FR D x * k := by
  have e1 := (tm_W (D := D) (k := k) (m := m) hk 0 D.m).1
  have e2 := (tm_W (D := frD D x) (k := k) (m := m) hk 0 D.m).1
  have e3 : WW (tmD (frD D x) k m) 0 D.m = WW (frD (tmD D k m) x) 0 D.m := WW_congr fun i i1 i2 => by
    show (if i = x then 0 else D.co i) * k = if i = x then 0 else D.co i * k
    split
    · exact Int.zero_mul _
    · rfl
  have e4 : (tmD D k m).m = D.m := rfl
  have e5 : (frD D x).m = D.m := rfl
  unfold FR
  rw [e4, e1, ← e3, e2, Int.sub_mul, Int.mul_comm k, Int.mul_comm k]
end Go.Proofs.Ytkdlppekjjbgoaa
