/- Rosters of hours: room that is given: two new rosters exchange streets along a way (mathematics alone). -/
import Derived.Test.YtegkgfiaegpihaaF6

import Derived.Test.YtegkgfiaegpihaaM5

set_option linter.unusedSimpArgs false

set_option linter.unusedVariables false

namespace Go.Proofs.Ytegkgfiaegpihaa

open Go.RowKit

def one (p : Prop) [Decidable p] : Int := if p then 1 else 0
theorem cnt_sum (f : Nat → Int) (v : Int) : ∀ k, (cnt f v k : Int) = sumN (fun i => one (f i = v)) k
  | 0 => rfl
  | k + 1 => by simp only [cnt, sumN, Int.natCast_add]; rw [cnt_sum f v k]; unfold one; split <;> simp
theorem sumN_add {a b : Nat → Int} : ∀ {k : Nat}, sumN (fun i => a i + b i) k = sumN a k + sumN b k
  | 0 => rfl
  | k + 1 => by simp only [sumN]; rw [sumN_add]; omega
theorem sumN_sub {a b : Nat → Int} : ∀ {k : Nat}, sumN (fun i => a i - b i) k = sumN a k - sumN b k
  | 0 => rfl
  | k + 1 => by simp only [sumN]; rw [sumN_sub]; omega
theorem sumN_put {a : Nat → Int} {i : Nat} {x : Int} : ∀ {k : Nat}, sumN (fun j => if j = i then a j + x else a j) k = sumN a k + (if i < k then x else 0)
  | 0 => by simp [sumN]
  | k + 1 => by
    simp only [sumN]
    rw [sumN_put (k := k)]
    by_cases e : k = i
    · rw [if_pos e, if_neg (by omega), if_pos (by omega)]; omega
    · rw [if_neg e]
      by_cases h : i < k
      · rw [if_pos h, if_pos (by omega)]; omega
      · rw [if_neg h, if_neg (by omega)]; omega
theorem sumN_pos {a : Nat → Int} : ∀ {k : Nat}, 0 < sumN a k → ∃ i, i < k ∧ 0 < a i
  | 0, h => by simp [sumN] at h
  | k + 1, h => by
    simp only [sumN] at h
    by_cases h1 : 0 < a k
    · exact ⟨k, by omega, h1⟩
    · obtain ⟨i, hi, hp⟩ := sumN_pos (a := a) (k := k) (by omega)
      exact ⟨i, by omega, hp⟩
theorem sumN_nn {a : Nat → Int} : ∀ {k : Nat}, (∀ i, i < k → 0 ≤ a i) → 0 ≤ sumN a k
  | 0, _ => Int.le_refl _
  | k + 1, h => by simp only [sumN]; have := sumN_nn (a := a) (k := k) (fun i hi => h i (by omega)); have := h k (by omega); omega
/-- g for the streets of S, f for all others -/
def sw (S : Nat → Bool) (f g : Nat → Int) : Nat → Int := fun i => if S i then g i else f i
/-- by how much more of S have an hour by g than by f -/
def dS (S : Nat → Bool) (f g : Nat → Int) (m : Nat) (v : Int) : Int := sumN (fun i => if S i then one (g i = v) - one (f i = v) else 0) m
theorem cnt_sw (S : Nat → Bool) (f g : Nat → Int) (m : Nat) (v : Int) : (cnt (sw S f g) v m : Int) = cnt f v m + dS S f g m v := by
  rw [cnt_sum, cnt_sum]
  unfold dS
  rw [← sumN_add]
  refine sumN_congr fun i _ => ?_
  unfold sw
  cases S i with
  | false => simp
  | true => simp; omega
theorem dS_swap (S : Nat → Bool) (f g : Nat → Int) (m : Nat) (v : Int) : dS S g f m v = - dS S f g m v := by
  unfold dS
  have : ∀ k, sumN (fun i => if S i then one (f i = v) - one (g i = v) else 0) k = - sumN (fun i => if S i then one (g i = v) - one (f i = v) else 0) k := by
    intro k
    induction k with
    | zero => simp [sumN]
    | succ k ih => simp only [sumN]; rw [ih]; cases S k <;> simp <;> omega
  exact this m
theorem cost_sw (D : Ro) (S : Nat → Bool) (f g : Nat → Int) (m : Nat) : costF D (sw S f g) m + costF D (sw S g f) m = costF D f m + costF D g m := by
  unfold costF
  rw [← sumN_add, ← sumN_add]
  refine sumN_congr fun i _ => ?_
  unfold sw
  cases S i <;> simp <;> omega
theorem sw_rg {D : Ro} {S : Nat → Bool} {f g : Nat → Int} (hf : ∀ k, k < D.m → D.fr k ≤ f k ∧ f k ≤ D.to k) (hg : ∀ k, k < D.m → D.fr k ≤ g k ∧ g k ≤ D.to k) : ∀ k, k < D.m → D.fr k ≤ sw S f g k ∧ sw S f g k ≤ D.to k := fun k hk => by
  unfold sw
  cases S k
  · simpa using hf k hk
  · simpa using hg k hk
/-- the way: from an hour with room left to one that the other one leaves -/
theorem way {D : Ro} (hD : OkP D) {f g : Nat → Int} {h : Nat} (hf : NR D f) (hg : NR (rmD D h 1) g) (hh : h < D.n) (hlt : (cnt f h D.m : Int) < D.rm h) (hgc : (cnt g h D.m : Int) = D.rm h + 1) :
    ∀ (fuel : Nat) (S : Nat → Bool) (e : Nat), e < D.n → (∀ v : Nat, dS S f g D.m v = one (v = h) - one (v = e)) → sumN (fun i => if S i then 0 else 1) D.m ≤ fuel → ∃ S, NR D (sw S f g) ∧ NR D (sw S g f) := by
  have hgr : ∀ k, k < D.m → D.fr k ≤ g k ∧ g k ≤ D.to k := hg.h
  have hgn : ∀ v : Nat, v < D.n → v ≠ h → (cnt g v D.m : Int) ≤ D.rm v := fun v hv hne => by
    have := hg.c v hv
    have e : (rmD D h 1).rm v = D.rm v := if_neg hne
    rw [e] at this; exact this
  intro fuel
  induction fuel with
  | zero =>
    intro S e he hS hn
    exfalso
    -- no street is left, but the extension needs one
    have hall : ∀ i, i < D.m → S i = true := fun i hi => by
      cases hs : S i with
      | true => rfl
      | false =>
        have h1 : 0 < sumN (fun i => if S i then (0 : Int) else 1) D.m := by
          have h2 : sumN (fun i => if S i then (0 : Int) else 1) D.m = sumN (fun j => if j = i then (if S j then (0 : Int) else if j = i then 0 else 1) + 1 else (if S j then (0 : Int) else if j = i then 0 else 1)) D.m := sumN_congr fun j _ => by
            by_cases ej : j = i
            · subst ej; simp [hs]
            · simp [ej]
          rw [h2, sumN_put, if_pos hi]
          have := sumN_nn (a := fun j => if S j then (0 : Int) else if j = i then 0 else 1) (k := D.m) (fun j _ => by by_cases h5 : S j = true <;> by_cases h6 : j = i <;> simp [h5, h6])
          omega
        exfalso
        omega
    have hd := hS h
    have h1 : dS S f g D.m h = cnt g h D.m - cnt f h D.m := by
      rw [cnt_sum, cnt_sum, ← sumN_sub]
      unfold dS
      exact sumN_congr fun i hi => by rw [hall i hi]; simp
    have : one (h = h) = 1 := if_pos rfl
    have h2 : 0 ≤ one (h = e) := by unfold one; split <;> omega
    -- the difference at h is at most one, so e is not h
    by_cases hhe : h = e
    · rw [show one (h = e) = 1 from if_pos hhe] at hd; omega
    · rw [show one (h = e) = 0 from if_neg hhe] at hd
      have hde := hS e
      rw [show one (e = h) = 0 from if_neg (Ne.symm hhe), show one (e = e) = 1 from if_pos rfl] at hde
      have h3 : dS S f g D.m e = cnt g e D.m - cnt f e D.m := by
        rw [cnt_sum, cnt_sum, ← sumN_sub]
        unfold dS
        exact sumN_congr fun i hi => by rw [hall i hi]; simp
      omega
  | succ fuel ih =>
    intro S e he hS hn
    by_cases hstop : e ≠ h ∧ (cnt g e D.m : Int) + 1 ≤ D.rm e
    · obtain ⟨hne, hs⟩ := hstop
      refine ⟨S, ⟨sw_rg hf.h hgr, fun v hv => ?_⟩, ⟨sw_rg hgr hf.h, fun v hv => ?_⟩⟩
      · rw [cnt_sw, hS v]
        have := hf.c v hv
        unfold one
        by_cases e1 : v = h
        · subst e1; rw [if_pos rfl, if_neg (Ne.symm hne)]; omega
        · rw [if_neg e1]; split <;> omega
      · rw [cnt_sw, dS_swap, hS v]
        unfold one
        by_cases e1 : v = h
        · subst e1; rw [if_pos rfl, if_neg (Ne.symm hne)]; omega
        · have := hgn v hv e1
          rw [if_neg e1]
          by_cases e2 : v = e
          · subst e2; rw [if_pos rfl]; omega
          · rw [if_neg e2]; omega
    · -- one street more
      have hpos : 0 < sumN (fun i => if S i then 0 else one (g i = (e : Int)) - one (f i = (e : Int))) D.m := by
        have h1 : sumN (fun i => if S i then 0 else one (g i = (e : Int)) - one (f i = (e : Int))) D.m = cnt g e D.m - cnt f e D.m - dS S f g D.m e := by
          rw [cnt_sum, cnt_sum, ← sumN_sub]
          unfold dS
          rw [← sumN_sub]
          exact sumN_congr fun i _ => by cases S i <;> simp
        rw [h1, hS e]
        have hfe := hf.c e he
        by_cases e1 : e = h
        · subst e1
          rw [show one (e = e) = 1 from if_pos rfl]; omega
        · rw [show one (e = h) = 0 from if_neg e1, show one (e = e) = 1 from if_pos rfl]
          have := hgn e he e1
          have : ¬ (cnt g e D.m : Int) + 1 ≤ D.rm e := fun h => hstop ⟨e1, h⟩
          omega
      obtain ⟨i, hi, hp⟩ := sumN_pos hpos
      have hSi : S i = false := by
        cases hs : S i with
        | false => rfl
        | true => rw [hs] at hp; simp at hp
      rw [hSi] at hp
      simp only [Bool.false_eq_true, if_false] at hp
      have hgi : g i = e := by
        unfold one at hp
        by_cases h1 : g i = (e : Int)
        · exact h1
        · rw [if_neg h1] at hp; split at hp <;> omega
      have hr := hf.hr hD hi
      obtain ⟨e', he'⟩ : ∃ e' : Nat, f i = (e' : Int) := ⟨(f i).toNat, by omega⟩
      refine ih (fun j => S j || decide (j = i)) e' (by omega) (fun v => ?_) ?_
      · have h1 : dS (fun j => S j || decide (j = i)) f g D.m v = dS S f g D.m v + (one (g i = (v : Int)) - one (f i = (v : Int))) := by
          unfold dS
          have h2 := sumN_put (a := fun j => if S j then one (g j = (v : Int)) - one (f j = (v : Int)) else 0) (i := i) (x := one (g i = (v : Int)) - one (f i = (v : Int))) (k := D.m)
          rw [if_pos hi] at h2
          rw [← h2]
          refine sumN_congr fun j _ => ?_
          by_cases ej : j = i
          · subst ej; simp [hSi]
          · simp [ej]
        rw [h1, hS v, hgi, he']
        unfold one
        by_cases e1 : v = e
        · subst e1
          by_cases e2 : v = e'
          · subst e2; simp
          · have : ¬ ((e' : Int) = (v : Int)) := by omega
            simp [this, e2]
            try (split <;> omega)
        · have : ¬ ((e : Int) = (v : Int)) := by omega
          by_cases e2 : v = e'
          · subst e2; simp [this, e1]; try omega
          · have h5 : ¬ ((e' : Int) = (v : Int)) := by omega
            simp [this, h5, e1, e2]
      · have h2 := sumN_put (a := fun j => if S j then (0 : Int) else 1) (i := i) (x := -1) (k := D.m)
        rw [if_pos hi] at h2
        have h3 : sumN (fun j => if (S j || decide (j = i)) then (0 : Int) else 1) D.m = sumN (fun j => if j = i then (if S j then (0 : Int) else 1) + -1 else (if S j then (0 : Int) else 1)) D.m := sumN_congr fun j _ => by
          by_cases ej : j = i
          · subst ej; simp [hSi]
          · simp [ej]
        rw [h3, h2]
        omega
theorem NR.more {D : Ro} {f : Nat → Int} (hf : NR D f) {h : Nat} {v : Int} (hv : 0 ≤ v) : NR (rmD D h v) f := ⟨hf.h, fun x hx => by
  have := hf.c x hx
  show (cnt f x D.m : Int) ≤ (if x = h then D.rm x + v else D.rm x)
  split <;> omega⟩
theorem ls_more {D : Ro} (hD : OkP D) {h : Nat} {v : Int} (hv : 0 ≤ v) (hD2 : OkP (rmD D h v)) (hx : Ex D) : lsC (rmD D h v) ≤ lsC D := by
  obtain ⟨f, h1, h2⟩ := ls_ex hD hx
  have := ls_le hD2 (h1.more hv)
  rw [← h2]; exact this
/-- if room in an hour makes it cheaper, the hour is full in each cheapest roster -/
theorem give_full {D : Ro} (hD : OkP D) {h : Nat} (hh : h < D.n) (hD2 : OkP (rmD D h 1)) {f : Nat → Int} (hf : NR D f) (hc : costF D f D.m = lsC D) (hless : lsC (rmD D h 1) < lsC D) : (cnt f h D.m : Int) = D.rm h := by
  have hle := hf.c h hh
  rcases Int.lt_or_le (cnt f h D.m : Int) (D.rm h) with hlt | hge
  · exfalso
    obtain ⟨g, hg, hgc⟩ := ls_ex hD2 ⟨f, hf.more (by omega)⟩
    have hgc' : costF D g D.m = lsC (rmD D h 1) := hgc
    have hgh : (cnt g h D.m : Int) = D.rm h + 1 := by
      have h1 := hg.c h hh
      have e : (rmD D h 1).rm h = D.rm h + 1 := if_pos rfl
      rw [e] at h1
      have h1' : (cnt g h D.m : Int) ≤ D.rm h + 1 := h1
      rcases Int.lt_or_le (D.rm h) (cnt g h D.m : Int) with h2 | h2
      · omega
      · exfalso
        have hn : NR D g := ⟨hg.h, fun x hx => by
          by_cases ex : x = h
          · subst ex; exact h2
          · have := hg.c x hx
            have e2 : (rmD D h 1).rm x = D.rm x := if_neg ex
            rw [e2] at this; exact this⟩
        have := ls_le hD hn
        omega
    obtain ⟨S, n1, n2⟩ := way hD hf hg hh hlt hgh (sumN (fun i => if (fun (_ : Nat) => false) i = true then (0 : Int) else 1) D.m).toNat (fun _ => false) h hh (fun v => by
      have : dS (fun _ => false) f g D.m v = 0 := by
        unfold dS
        have : ∀ k, sumN (fun i => if (fun _ => false) i = true then one (g i = (v : Int)) - one (f i = (v : Int)) else 0) k = 0 := by
          intro k
          induction k with
          | zero => rfl
          | succ k ih => simp only [sumN]; rw [ih]; simp
        exact this _
      rw [this]; omega) (Int.self_le_toNat _)
    have c1 := ls_le hD n1
    have c2 := ls_le hD n2
    have c3 := cost_sw D S f g D.m
    omega
  · omega
end Go.Proofs.Ytegkgfiaegpihaa
