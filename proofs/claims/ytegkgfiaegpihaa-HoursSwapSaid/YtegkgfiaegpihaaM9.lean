/- Rosters of hours: who keeps the hour; the streets in another order; the hours turned around (mathematics alone). -/
import Derived.Test.YtegkgfiaegpihaaM8

set_option linter.unusedSimpArgs false

set_option linter.unusedVariables false

namespace Go.Proofs.Ytegkgfiaegpihaa

open Go.RowKit

/-- whether a new roster in which each street has an hour that it may have costs the least -/
def canB (D : Ro) (M : Nat → Nat → Bool) : Bool := !(best D (prO (prC D) M)).no && decide ((best D (prO (prC D) M)).c = lsC D)
def keepM (D : Ro) (s : Nat) : Nat → Nat → Bool := fun i h => decide (i ≠ s) || decide ((h : Int) = D.hs i)
def loseM (D : Ro) (s : Nat) : Nat → Nat → Bool := fun i h => decide (i ≠ s) || decide ((h : Int) ≠ D.hs i)
def bdV (D : Ro) (s : Nat) : Int := if canB D (keepM D s) = false then 2 else if canB D (loseM D s) = false then 1 else 3
theorem bdV_is {D : Ro} {s : Nat} : bdV D s = 1 ∨ bdV D s = 2 ∨ bdV D s = 3 := by unfold bdV; split <;> (try split) <;> simp
theorem pcA_O {D : Ro} (hD : OkP D) {f : Nat → Int} (h : NR D f) {M : Nat → Nat → Bool} (hm : ∀ k, k < D.m → prO (prC D) M k (f k).toNat ≠ none) : pcA D (prO (prC D) M) f = costF D f D.m := by
  rw [← pcA_C hD h]
  unfold pcA
  refine sumN_congr fun k hk => ?_
  have h1 := hm k hk
  unfold prO at h1 ⊢
  split
  · rfl
  · rename_i h2; rw [if_neg h2] at h1; exact absurd rfl h1
theorem prO_some {D : Ro} {M : Nat → Nat → Bool} {k h : Nat} : prO (prC D) M k h ≠ none ↔ M k h = true := by
  unfold prO; cases M k h <;> simp [prC]
theorem canB_iff {D : Ro} (hD : OkP D) {M : Nat → Nat → Bool} : canB D M = true ↔ ∃ f, NR D f ∧ costF D f D.m = lsC D ∧ ∀ k, k < D.m → M k (f k).toNat = true := by
  unfold canB
  rw [Bool.and_eq_true, decide_eq_true_eq]
  constructor
  · rintro ⟨h1, h2⟩
    obtain ⟨f, f1, f2, f3⟩ := best_ex hD (P := prO (prC D) M) (by simpa using h1)
    exact ⟨f, f1, by rw [← pcA_O hD f1 f2, f3, h2], fun k hk => prO_some.1 (f2 k hk)⟩
  · rintro ⟨f, f1, f2, f3⟩
    have f4 : ∀ k, k < D.m → prO (prC D) M k (f k).toNat ≠ none := fun k hk => prO_some.2 (f3 k hk)
    obtain ⟨h1, h2⟩ := best_le hD f1 f4
    refine ⟨by simp [h1], ?_⟩
    obtain ⟨g, g1, g2, g3⟩ := best_ex hD h1
    have h3 := ls_le hD g1
    rw [pcA_O hD f1 f4, f2] at h2
    rw [pcA_O hD g1 g2] at g3
    omega
theorem keep_iff {D : Ro} (hD : OkP D) {s : Nat} (hs : s < D.m) : canB D (keepM D s) = true ↔ ∃ f, NR D f ∧ costF D f D.m = lsC D ∧ f s = D.hs s := by
  rw [canB_iff hD]
  constructor
  · rintro ⟨f, f1, f2, f3⟩
    have := f3 s hs
    simp only [keepM, ne_eq, not_true_eq_false, decide_false, Bool.false_or, decide_eq_true_eq] at this
    exact ⟨f, f1, f2, by rw [f1.cast hD hs] at this; exact this⟩
  · rintro ⟨f, f1, f2, f3⟩
    refine ⟨f, f1, f2, fun k hk => ?_⟩
    by_cases e : k = s
    · subst e; simp only [keepM, ne_eq, not_true_eq_false, decide_false, Bool.false_or, decide_eq_true_eq]; rw [f1.cast hD hk]; exact f3
    · simp [keepM, e]
theorem lose_iff {D : Ro} (hD : OkP D) {s : Nat} (hs : s < D.m) : canB D (loseM D s) = true ↔ ∃ f, NR D f ∧ costF D f D.m = lsC D ∧ f s ≠ D.hs s := by
  rw [canB_iff hD]
  constructor
  · rintro ⟨f, f1, f2, f3⟩
    have := f3 s hs
    simp only [loseM, ne_eq, not_true_eq_false, decide_false, Bool.false_or, decide_eq_true_eq] at this
    exact ⟨f, f1, f2, by rw [f1.cast hD hs] at this; exact this⟩
  · rintro ⟨f, f1, f2, f3⟩
    refine ⟨f, f1, f2, fun k hk => ?_⟩
    by_cases e : k = s
    · subst e; simp only [loseM, ne_eq, not_true_eq_false, decide_false, Bool.false_or, decide_eq_true_eq]; rw [f1.cast hD hk]; exact f3
    · simp [loseM, e]
theorem bdV_congr {D E : Ro} {s t : Nat} (h1 : canB D (keepM D s) = canB E (keepM E t)) (h2 : canB D (loseM D s) = canB E (loseM E t)) : bdV D s = bdV E t := by unfold bdV; rw [h1, h2]
theorem cntM_one (D : Ro) (f : Nat → Int) : ∀ k, cntM D f k = sumN (fun i => if 0 < mv D i (f i) then 1 else 0) k
  | 0 => rfl
  | k + 1 => by
    have ih := cntM_one D f k
    unfold cntM at ih ⊢
    simp only [movedL, List.length_append, Int.natCast_add, sumN]
    rw [ih]; split <;> simp
theorem near_far {D : Ro} (hD : OkP D) {f : Nat → Int} (h : NR D f) {F : Int} (hm : 0 ≤ F) : farF D f D.m ≤ F ↔ ∀ k, k < D.m → mv D k (f k) ≤ F := (near_iff hm).symm

/-- what carries the new rosters of one roster over to those of another one: f to T f -/
structure Car (D E : Ro) (T : (Nat → Int) → Nat → Int) : Prop where
  nr : ∀ f, NR D f → NR E (T f)
  cost : ∀ f, NR D f → costF E (T f) E.m = costF D f D.m
  mvd : ∀ f, NR D f → cntM E (T f) E.m = cntM D f D.m
  far : ∀ f F, NR D f → 0 ≤ F → farF D f D.m ≤ F → farF E (T f) E.m ≤ F
theorem Car.ex {D E : Ro} {T : (Nat → Int) → Nat → Int} (h : Car D E T) (hx : Ex D) : Ex E := hx.elim fun f hf => ⟨_, h.nr f hf⟩
theorem Car.le {D E : Ro} {T : (Nat → Int) → Nat → Int} (h : Car D E T) (hD : OkP D) (hE : OkP E) (hx : Ex D) : lsC E ≤ lsC D ∧ frC E ≤ frC D ∧ fwC E ≤ fwC D := by
  obtain ⟨f, f1, f2⟩ := ls_ex hD hx
  obtain ⟨g, g1, g2⟩ := fw_ex hD hx
  obtain ⟨⟨b1, b2⟩, ⟨u, u1, u2⟩, _⟩ := fr_spec hD hx
  have a1 := ls_le hE (h.nr f f1)
  have a2 := fw_le hE (h.nr g g1)
  have a3 := (fr_spec hE (h.ex hx)).2.2 _ (h.nr u u1)
  have a4 := h.far u _ u1 b1 u2
  rw [h.cost f f1] at a1; rw [h.mvd g g1] at a2
  exact ⟨by omega, by omega, by omega⟩
/-- both ways -/
structure Both (D E : Ro) : Prop where
  t : ∃ T, Car D E T
  u : ∃ U, Car E D U
theorem Both.ex {D E : Ro} (h : Both D E) : Ex D ↔ Ex E := ⟨h.t.elim fun _ c => c.ex, h.u.elim fun _ c => c.ex⟩
theorem Both.eb {D E : Ro} (h : Both D E) (hD : OkP D) (hE : OkP E) : exB D = exB E := by rw [Bool.eq_iff_iff, exB_iff hD, exB_iff hE]; exact h.ex
theorem Both.ls {D E : Ro} (h : Both D E) (hD : OkP D) (hE : OkP E) (hx : Ex D) : lsC D = lsC E ∧ frC D = frC E ∧ fwC D = fwC E := by
  obtain ⟨T, t⟩ := h.t
  obtain ⟨U, u⟩ := h.u
  have a := t.le hD hE hx
  have b := u.le hE hD (t.ex hx)
  exact ⟨by omega, by omega, by omega⟩
theorem Both.three {D E : Ro} (h : Both D E) (hD : OkP D) (hE : OkP E) : exB D = exB E ∧ tL D = tL E ∧ tM D = tM E ∧ tN D = tN E := by
  have e := h.eb hD hE
  refine ⟨e, ?_⟩
  unfold tL tM tN
  rw [← e]
  cases hx : exB D with
  | false => simp
  | true =>
    have := h.ls hD hE ((exB_iff hD).1 hx)
    simpa using this
/-- the streets in another order -/
structure Pm (D E : Ro) (σ : Nat → Nat) : Prop where
  n : E.n = D.n
  m : E.m = D.m
  rm : ∀ h, h < D.n → E.rm h = D.rm h
  lt : ∀ k, k < D.m → σ k < D.m
  hs : ∀ k, k < D.m → E.hs k = D.hs (σ k)
  fr : ∀ k, k < D.m → E.fr k = D.fr (σ k)
  t2 : ∀ k, k < D.m → E.to k = D.to (σ k)
  co : ∀ k, k < D.m → E.co k = D.co (σ k)
  sm : ∀ g : Nat → Int, sumN (fun k => g (σ k)) D.m = sumN g D.m
theorem Pm.mvE {D E : Ro} {σ : Nat → Nat} (h : Pm D E σ) {k : Nat} (hk : k < D.m) (x : Int) : mv E k x = mv D (σ k) x := by unfold mv; rw [h.hs k hk]
theorem Pm.nr {D E : Ro} {σ : Nat → Nat} (h : Pm D E σ) {f : Nat → Int} (hf : NR D f) : NR E (fun k => f (σ k)) := by
  refine ⟨fun k hk => ?_, fun x hx => ?_⟩
  · rw [h.m] at hk; rw [h.fr k hk, h.t2 k hk]; exact hf.h _ (h.lt k hk)
  · rw [h.n] at hx; rw [h.m, h.rm x hx, cnt_sum, h.sm (fun i => one (f i = x)), ← cnt_sum]; exact hf.c x hx
theorem Pm.cost {D E : Ro} {σ : Nat → Nat} (h : Pm D E σ) (f : Nat → Int) : costF E (fun k => f (σ k)) E.m = costF D f D.m := by
  unfold costF
  rw [h.m, ← h.sm (fun i => mv D i (f i) * D.co i)]
  exact sumN_congr fun k hk => by rw [h.mvE hk, h.co k hk]
theorem Pm.car {D E : Ro} {σ : Nat → Nat} (h : Pm D E σ) : Car D E (fun f k => f (σ k)) := by
  refine ⟨fun f hf => h.nr hf, fun f _ => h.cost f, fun f _ => ?_, fun f F _ h0 hF => ?_⟩
  · rw [cntM_one, cntM_one, h.m, ← h.sm (fun i => if 0 < mv D i (f i) then 1 else 0)]
    exact sumN_congr fun k hk => by rw [h.mvE hk]
  · rw [← near_iff h0] at hF ⊢
    intro k hk
    rw [h.m] at hk
    rw [h.mvE hk]; exact hF _ (h.lt k hk)
theorem Pm.lacks {D E : Ro} {σ : Nat → Nat} (h : Pm D E σ) {lo hi : Nat} (h1 : lo ≤ hi) (h2 : hi < D.n) : lacksB E lo hi = lacksB D lo hi := by
  have e1 : rmS E lo (hi + 1 - lo) = rmS D lo (hi + 1 - lo) := sumN_congr fun i hi' => h.rm _ (by omega)
  have e2 : cntS E lo hi E.m = cntS D lo hi D.m := by
    unfold cntS
    rw [h.m, ← h.sm (fun i => if inSp D lo hi i then 1 else 0)]
    exact sumN_congr fun k hk => by unfold inSp; rw [h.fr k hk, h.t2 k hk]
  unfold lacksB; rw [e1, e2]
theorem Pm.lk {D E : Ro} {σ : Nat → Nat} (h : Pm D E σ) : lkT E E.n = lkT D D.n := by
  rw [h.n]; exact lkT_congr fun lo hi h1 h2 => h.lacks h1 h2
theorem Pm.bd {D E : Ro} {σ τ : Nat → Nat} (h : Pm D E σ) (h' : Pm E D τ) (hD : OkP D) (hE : OkP E) (hx : Ex D) {s : Nat} (hs : s < D.m) (hinv : τ (σ s) = s) : bdV E s = bdV D (σ s) := by
  have hl := (Both.ls ⟨⟨_, h.car⟩, ⟨_, h'.car⟩⟩ hD hE hx).1
  have hsE : s < E.m := by rw [h.m]; exact hs
  have hss := h.lt s hs
  have e1 : E.hs s = D.hs (σ s) := h.hs s hs
  refine bdV_congr ?_ ?_
  · rw [Bool.eq_iff_iff, keep_iff hE hsE, keep_iff hD hss]
    constructor
    · rintro ⟨f, f1, f2, f3⟩
      exact ⟨_, h'.nr f1, by rw [h'.cost]; omega, by show f (τ (σ s)) = _; rw [hinv, f3, e1]⟩
    · rintro ⟨f, f1, f2, f3⟩
      exact ⟨_, h.nr f1, by rw [h.cost]; omega, by show f (σ s) = _; rw [f3, e1]⟩
  · rw [Bool.eq_iff_iff, lose_iff hE hsE, lose_iff hD hss]
    constructor
    · rintro ⟨f, f1, f2, f3⟩
      exact ⟨_, h'.nr f1, by rw [h'.cost]; omega, by show f (τ (σ s)) ≠ _; rw [hinv, ← e1]; exact f3⟩
    · rintro ⟨f, f1, f2, f3⟩
      exact ⟨_, h.nr f1, by rw [h.cost]; omega, by show f (σ s) ≠ _; rw [e1]; exact f3⟩
theorem sumN_split (g : Nat → Int) (x : Nat) : ∀ y, sumN g (x + y) = sumN g x + sumN (fun i => g (x + i)) y
  | 0 => by simp [sumN]
  | y + 1 => by rw [show x + (y + 1) = x + y + 1 by omega]; simp only [sumN]; rw [sumN_split g x y]; omega
def rot (m b : Nat) (k : Nat) : Nat := (k + b) % m
theorem rot_lt {m b k : Nat} (h : k < m) : rot m b k < m := Nat.mod_lt _ (by omega)
theorem rot_sum (m b : Nat) (g : Nat → Int) : sumN (fun k => g (rot m b k)) m = sumN g m := by
  rcases Nat.eq_zero_or_pos m with rfl | hm
  · rfl
  have hr : b % m < m := Nat.mod_lt _ hm
  have e : ∀ k, rot m b k = (k + b % m) % m := fun k => by unfold rot; rw [Nat.add_mod_mod]
  obtain ⟨r, hr2⟩ : ∃ r, b % m = r := ⟨_, rfl⟩
  rw [hr2] at hr e
  obtain ⟨a, rfl⟩ : ∃ a, m = a + r := ⟨m - r, by omega⟩
  rw [sumN_split (fun k => g (rot (a + r) b k)) a r]
  have e1 : sumN (fun k => g (rot (a + r) b k)) a = sumN (fun i => g (r + i)) a := sumN_congr fun k hk => by rw [e, Nat.mod_eq_of_lt (by omega), Nat.add_comm]
  have e2 : sumN (fun i => g (rot (a + r) b (a + i))) r = sumN g r := sumN_congr fun k hk => by
    rw [e, show a + k + r = k + (a + r) by omega, Nat.add_mod_right, Nat.mod_eq_of_lt (by omega)]
  rw [e1, e2, Nat.add_comm a r, sumN_split g r a]; omega
theorem rot_inv {m b k : Nat} (h : k < m) : rot m b (rot m (m - b % m) k) = k ∧ rot m (m - b % m) (rot m b k) = k := by
  have hm : 0 < m := by omega
  have hr : b % m < m := Nat.mod_lt _ hm
  have e := Nat.div_add_mod b m
  have e2 : k + (m - b % m) + b = k + m * (1 + b / m) := by rw [Nat.mul_add, Nat.mul_one]; omega
  constructor
  · unfold rot; rw [Nat.mod_add_mod, e2, Nat.add_mul_mod_self_left, Nat.mod_eq_of_lt h]
  · unfold rot; rw [Nat.mod_add_mod, show k + b + (m - b % m) = k + (m - b % m) + b by omega, e2, Nat.add_mul_mod_self_left, Nat.mod_eq_of_lt h]
/-- the streets from number b on, and then those before it -/
def rotD (D : Ro) (b : Nat) : Ro := { D with hs := fun k => D.hs (rot D.m b k), fr := fun k => D.fr (rot D.m b k), «to» := fun k => D.to (rot D.m b k), co := fun k => D.co (rot D.m b k) }
theorem rot_pm (D : Ro) (b : Nat) : Pm D (rotD D b) (rot D.m b) := ⟨rfl, rfl, fun _ _ => rfl, fun _ h => rot_lt h, fun _ _ => rfl, fun _ _ => rfl, fun _ _ => rfl, fun _ _ => rfl, rot_sum _ _⟩
theorem rot_pm' (D : Ro) (b : Nat) : Pm (rotD D b) D (rot D.m (D.m - b % D.m)) :=
  ⟨rfl, rfl, fun _ _ => rfl, fun _ h => rot_lt h, fun _ h => (congrArg D.hs (rot_inv h).1).symm, fun _ h => (congrArg D.fr (rot_inv h).1).symm, fun _ h => (congrArg D.to (rot_inv h).1).symm, fun _ h => (congrArg D.co (rot_inv h).1).symm, rot_sum _ _⟩
theorem rot_ok {D : Ro} (hD : OkP D) (b : Nat) : OkP (rotD D b) := ⟨hD.n, hD.m, hD.rm, fun k hk => by
  have h := hD.st _ (rot_lt (b := b) hk)
  exact ⟨h.hs, h.fr, h.to, h.ft, h.co⟩⟩
/-- what the law of the streets' order asks -/
theorem order_all {D : Ro} (hD : OkP D) (b s : Nat) (hs : s < D.m) : exB D = exB (rotD D b) ∧ tL D = tL (rotD D b) ∧ tM D = tM (rotD D b) ∧ tN D = tN (rotD D b) ∧ lkT (rotD D b) D.n = lkT D D.n ∧ (exB D = true → bdV (rotD D b) s = bdV D (rot D.m b s)) := by
  have hE := rot_ok hD b
  obtain ⟨a1, a2, a3, a4⟩ := Both.three ⟨⟨_, (rot_pm D b).car⟩, ⟨_, (rot_pm' D b).car⟩⟩ hD hE
  exact ⟨a1, a2, a3, a4, (rot_pm D b).lk, fun hx => (rot_pm D b).bd (rot_pm' D b) hD hE ((exB_iff hD).1 hx) hs (rot_inv hs).2⟩

/-- the hours turned around -/
structure Rv (D E : Ro) : Prop where
  n : E.n = D.n
  m : E.m = D.m
  rm : ∀ h, h < D.n → E.rm h = D.rm (D.n - 1 - h)
  hs : ∀ k, k < D.m → E.hs k = if D.hs k = -1 then -1 else (D.n : Int) - 1 - D.hs k
  fr : ∀ k, k < D.m → E.fr k = (D.n : Int) - 1 - D.to k
  t2 : ∀ k, k < D.m → E.to k = (D.n : Int) - 1 - D.fr k
  co : ∀ k, k < D.m → E.co k = D.co k
theorem Rv.symm {D E : Ro} (hD : OkP D) (h : Rv D E) : Rv E D := by
  refine ⟨h.n.symm, h.m.symm, fun x hx => ?_, fun k hk => ?_, fun k hk => ?_, fun k hk => ?_, fun k hk => ?_⟩
  · rw [h.n] at hx ⊢
    rw [h.rm _ (by omega), show D.n - 1 - (D.n - 1 - x) = x by omega]
  · rw [h.m] at hk; rw [h.n, h.hs k hk]
    have := (hD.st k hk).hs
    by_cases e : D.hs k = -1
    · rw [if_pos e, if_pos rfl]; exact e
    · rw [if_neg e, if_neg (by omega)]; omega
  · rw [h.m] at hk; rw [h.n, h.t2 k hk]; omega
  · rw [h.m] at hk; rw [h.n, h.fr k hk]; omega
  · rw [h.m] at hk; exact (h.co k hk).symm
theorem Rv.ok {D E : Ro} (hD : OkP D) (h : Rv D E) : OkP E := by
  refine ⟨by rw [h.n]; exact hD.n, by rw [h.m]; exact hD.m, fun x hx => ?_, fun k hk => ?_⟩
  · rw [h.n] at hx; rw [h.rm x hx]; exact hD.rm _ (by omega)
  · rw [h.m] at hk
    have s := hD.st k hk
    refine ⟨?_, ?_, ?_, ?_, by rw [h.co k hk]; exact s.co⟩
    · rw [h.hs k hk, h.n]; have := s.hs; split <;> omega
    · rw [h.fr k hk, h.n]; have := s.to; omega
    · rw [h.t2 k hk, h.n]; have := s.fr; omega
    · rw [h.fr k hk, h.t2 k hk]; have := s.ft; omega
theorem Rv.mvE {D E : Ro} (hD : OkP D) (h : Rv D E) {k : Nat} (hk : k < D.m) (x : Int) : mv E k ((D.n : Int) - 1 - x) = mv D k x := by
  unfold mv mvP
  rw [h.hs k hk]
  have := (hD.st k hk).hs
  by_cases e : D.hs k = -1
  · rw [if_pos e, if_pos rfl, if_pos e]
  · rw [if_neg e, if_neg (by omega), if_neg e]; omega
theorem Rv.car {D E : Ro} (hD : OkP D) (h : Rv D E) : Car D E (fun f k => (D.n : Int) - 1 - f k) := by
  refine ⟨fun f hf => ⟨fun k hk => ?_, fun x hx => ?_⟩, fun f _ => ?_, fun f _ => ?_, fun f F _ h0 hF => ?_⟩
  · rw [h.m] at hk; rw [h.fr k hk, h.t2 k hk]; have := hf.h k hk; omega
  · rw [h.n] at hx
    rw [h.m, h.rm x hx, cnt_sum]
    have := hf.c (D.n - 1 - x) (by omega)
    rw [cnt_sum] at this
    refine Int.le_trans (Int.le_of_eq (sumN_congr fun k _ => ?_)) this
    unfold one
    by_cases e : (D.n : Int) - 1 - f k = x
    · rw [if_pos e, if_pos (by omega)]
    · rw [if_neg e, if_neg (by omega)]
  · unfold costF; rw [h.m]; exact sumN_congr fun k hk => by rw [h.mvE hD hk, h.co k hk]
  · rw [cntM_one, cntM_one, h.m]; exact sumN_congr fun k hk => by rw [h.mvE hD hk]
  · rw [← near_iff h0] at hF ⊢
    intro k hk
    rw [h.m] at hk
    rw [h.mvE hD hk]; exact hF k hk
theorem Rv.both {D E : Ro} (hD : OkP D) (h : Rv D E) : Both D E := ⟨⟨_, h.car hD⟩, ⟨_, (h.symm hD).car (h.ok hD)⟩⟩
theorem Rv.bd {D E : Ro} (hD : OkP D) (h : Rv D E) (hx : Ex D) {s : Nat} (hs : s < D.m) : bdV D s = bdV E s := by
  have hE := h.ok hD
  have hl := ((h.both hD).ls hD hE hx).1
  have hsE : s < E.m := by rw [h.m]; exact hs
  have c := h.car hD
  have c' := (h.symm hD).car hE
  have e1 := h.hs s hs
  have hh := (hD.st s hs).hs
  refine bdV_congr ?_ ?_
  · rw [Bool.eq_iff_iff, keep_iff hE hsE, keep_iff hD hs]
    constructor
    · rintro ⟨f, f1, f2, f3⟩
      have := f1.hr hD hs
      refine ⟨_, c.nr f f1, by rw [c.cost f f1]; omega, ?_⟩
      show (D.n : Int) - 1 - f s = _
      rw [e1, if_neg (by omega)]; omega
    · rintro ⟨f, f1, f2, f3⟩
      have := f1.hr hE hsE
      refine ⟨_, c'.nr f f1, by rw [c'.cost f f1]; omega, ?_⟩
      show (E.n : Int) - 1 - f s = _
      rw [h.n]
      rw [e1] at f3
      by_cases e : D.hs s = -1
      · rw [if_pos e] at f3; omega
      · rw [if_neg e] at f3; omega
  · rw [Bool.eq_iff_iff, lose_iff hE hsE, lose_iff hD hs]
    constructor
    · rintro ⟨f, f1, f2, f3⟩
      have := f1.hr hD hs
      refine ⟨_, c.nr f f1, by rw [c.cost f f1]; omega, ?_⟩
      show (D.n : Int) - 1 - f s ≠ _
      rw [e1]
      by_cases e : D.hs s = -1
      · rw [if_pos e]; omega
      · rw [if_neg e]; omega
    · rintro ⟨f, f1, f2, f3⟩
      have := f1.hr hE hsE
      have hn := h.n
      refine ⟨_, c'.nr f f1, by rw [c'.cost f f1]; omega, ?_⟩
      show (E.n : Int) - 1 - f s ≠ _
      rw [e1] at f3
      by_cases e : D.hs s = -1
      · omega
      · rw [if_neg e] at f3; omega
/-- with more room in an hour -/
theorem Rv.room {D E : Ro} (h : Rv D E) {x : Nat} (hx : x < D.n) (v : Int) : Rv (rmD D x v) (rmD E (D.n - 1 - x) v) := by
  refine ⟨h.n, h.m, fun y hy => ?_, h.hs, h.fr, h.t2, h.co⟩
  have hy' : y < D.n := hy
  show (if y = D.n - 1 - x then E.rm y + v else E.rm y) = (if D.n - 1 - y = x then D.rm (D.n - 1 - y) + v else D.rm (D.n - 1 - y))
  rw [h.rm y hy']
  by_cases e : y = D.n - 1 - x
  · rw [if_pos e, if_pos (by omega)]
  · rw [if_neg e, if_neg (by omega)]
end Go.Proofs.Ytegkgfiaegpihaa
