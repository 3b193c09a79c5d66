/- Rosters of hours: what the lists of new rosters say of the least, the far, the fewest and who keeps the hour (mathematics alone). -/
import Derived.Test.YtegkgfiaegpihaaM11

set_option linter.unusedSimpArgs false

set_option linter.unusedVariables false

namespace Go.Proofs.Ytegkgfiaegpihaa

open Go.RowKit

theorem fold_take {β : Type} (f : β → List Int → β) (a : β) {L : List (List Int)} {k : Nat} (h : k < L.length) : (L.take (k + 1)).foldl f a = f ((L.take k).foldl f a) (L.getD k []) := by
  rw [List.take_add_one, List.foldl_append]
  simp [List.getElem?_eq_getElem h]
def mnF (g : List Int → Int) (a : Int) (L : List (List Int)) : Int := L.foldl (fun n x => min n (g x)) a
theorem mnF_spec {g : List Int → Int} : ∀ {L : List (List Int)} {a : Int}, mnF g a L ≤ a ∧ (∀ x, x ∈ L → mnF g a L ≤ g x) ∧ (mnF g a L = a ∨ ∃ x, x ∈ L ∧ mnF g a L = g x)
  | [], a => ⟨Int.le_refl _, (fun x h => (by cases h)), .inl rfl⟩
  | y :: L, a => by
    obtain ⟨h1, h2, h3⟩ := mnF_spec (g := g) (L := L) (a := min a (g y))
    have e : mnF g a (y :: L) = mnF g (min a (g y)) L := rfl
    rw [e]
    refine ⟨by omega, fun x hx => ?_, ?_⟩
    · rcases List.mem_cons.1 hx with rfl | hx
      · omega
      · exact h2 x hx
    · rcases h3 with h3 | ⟨x, hx, h3⟩
      · rcases Int.le_total a (g y) with h4 | h4
        · left; omega
        · right; exact ⟨y, List.mem_cons_self, by omega⟩
      · right; exact ⟨x, List.mem_cons_of_mem _ hx, h3⟩
def ctF (p : List Int → Bool) (L : List (List Int)) : Int := L.foldl (fun n x => if p x then n + 1 else n) 0
theorem ct_add {p : List Int → Bool} : ∀ {L : List (List Int)} {a : Int}, L.foldl (fun n x => if p x then n + 1 else n) a = a + ctF p L
  | [], a => by simp [ctF]
  | y :: L, a => by
    have h1 := ct_add (p := p) (L := L) (a := if p y then a + 1 else a)
    have h2 := ct_add (p := p) (L := L) (a := if p y then 0 + 1 else 0)
    have e : ctF p (y :: L) = L.foldl (fun n x => if p x then n + 1 else n) (if p y then 0 + 1 else 0) := rfl
    rw [e, h2, List.foldl_cons, h1]
    split <;> omega
theorem ct_cons {p : List Int → Bool} {y : List Int} {L : List (List Int)} : ctF p (y :: L) = (if p y then 1 else 0) + ctF p L := by
  have e : ctF p (y :: L) = L.foldl (fun n x => if p x then n + 1 else n) (if p y then 0 + 1 else 0) := rfl
  rw [e, ct_add]; split <;> omega
theorem ct_nn {p : List Int → Bool} : ∀ {L : List (List Int)}, 0 ≤ ctF p L ∧ ctF p L ≤ L.length
  | [] => by simp [ctF]
  | y :: L => by have := ct_nn (p := p) (L := L); rw [ct_cons, List.length_cons]; split <;> omega
theorem ct_zero {p : List Int → Bool} : ∀ {L : List (List Int)}, ctF p L = 0 ↔ ∀ x, x ∈ L → p x = false
  | [] => by simp [ctF]
  | y :: L => by
    have ih := ct_zero (p := p) (L := L)
    have := ct_nn (p := p) (L := L)
    rw [ct_cons]
    cases hy : p y with
    | true => simp only [if_true]; exact ⟨fun h => by omega, fun h => by have := h y List.mem_cons_self; rw [hy] at this; cases this⟩
    | false =>
      simp only [Bool.false_eq_true, if_false, Int.zero_add, ih]
      exact ⟨fun h x hx => by rcases List.mem_cons.1 hx with rfl | hx; exact hy; exact h x hx, fun h x hx => h x (List.mem_cons_of_mem _ hx)⟩
theorem ct_same {p q : List Int → Bool} : ∀ {L : List (List Int)}, (ctF (fun x => p x && q x) L = ctF p L ↔ ∀ x, x ∈ L → p x = true → q x = true) ∧ ctF (fun x => p x && q x) L ≤ ctF p L
  | [] => by simp [ctF]
  | y :: L => by
    obtain ⟨ih, ih2⟩ := ct_same (p := p) (q := q) (L := L)
    rw [ct_cons, ct_cons]
    cases hp : p y with
    | false =>
      simp only [Bool.false_and, Bool.false_eq_true, if_false, Int.zero_add]
      refine ⟨?_, ih2⟩
      rw [ih]
      exact ⟨fun h x hx hpx => by rcases List.mem_cons.1 hx with rfl | hx; (rw [hp] at hpx; cases hpx); exact h x hx hpx, fun h x hx => h x (List.mem_cons_of_mem _ hx)⟩
    | true =>
      cases hq : q y with
      | true =>
        simp only [Bool.true_and, if_true]
        refine ⟨?_, by omega⟩
        constructor
        · intro h
          have := ih.1 (by omega)
          exact fun x hx hpx => by rcases List.mem_cons.1 hx with rfl | hx; exact hq; exact this x hx hpx
        · intro h
          have := ih.2 fun x hx => h x (List.mem_cons_of_mem _ hx)
          omega
      | false =>
        simp only [Bool.true_and, Bool.false_eq_true, if_false, if_true]
        refine ⟨⟨fun h => by omega, fun h => ?_⟩, by omega⟩
        have := h y List.mem_cons_self hp
        rw [hq] at this; cases this
/-- all new rosters, in their order -/
def nws (D : Ro) : List (List Int) := nwM D (fun _ _ => true)
theorem prO_true (D : Ro) : prO (prC D) (fun _ _ => true) = prC D := rfl
theorem nws_mem {D : Ro} (hD : OkP D) {l : List Int} : l ∈ nws D ↔ l.length = D.m ∧ NR D (asF l) := by
  unfold nws; rw [nwM_mem hD]; simp
theorem nws_nil {D : Ro} (hD : OkP D) : nws D = [] ↔ exB D = false := by
  have h := nwM_best hD (fun _ _ => true)
  rw [prO_true] at h
  rcases h with ⟨h1, h2⟩ | ⟨h1, l, h2, _⟩
  · unfold nws exB; rw [h1, h2]; simp
  · unfold nws exB; rw [h1]
    constructor
    · intro h; rw [h] at h2; simp [flB] at h2
    · intro h; cases h
/-- a list of the hours of new rosters -/
def toL (m : Nat) (f : Nat → Int) : List Int := (List.range m).map f
theorem toL_len {m : Nat} {f : Nat → Int} : (toL m f).length = m := by simp [toL]
theorem toL_at {m k : Nat} {f : Nat → Int} (h : k < m) : asF (toL m f) k = f k := by simp [asF, toL, List.getD_eq_getElem?_getD, h]
theorem NR.congr {D : Ro} {f g : Nat → Int} (h : NR D f) (e : ∀ k, k < D.m → g k = f k) : NR D g :=
  ⟨fun k hk => by rw [e k hk]; exact h.h k hk, fun x hx => by rw [cnt_congr e]; exact h.c x hx⟩
theorem toL_mem {D : Ro} (hD : OkP D) {f : Nat → Int} (h : NR D f) : toL D.m f ∈ nws D := (nws_mem hD).2 ⟨toL_len, h.congr fun k hk => toL_at hk⟩
theorem farF_congr {D : Ro} {f g : Nat → Int} : ∀ {k : Nat}, (∀ i, i < k → f i = g i) → farF D f k = farF D g k
  | 0, _ => rfl
  | k + 1, h => by simp only [farF]; rw [farF_congr (fun i hi => h i (by omega)), h k (by omega)]
theorem movedL_congr {D : Ro} {f g : Nat → Int} : ∀ {k : Nat}, (∀ i, i < k → f i = g i) → movedL D f k = movedL D g k
  | 0, _ => rfl
  | k + 1, h => by simp only [movedL]; rw [movedL_congr (fun i hi => h i (by omega)), h k (by omega)]
/-- the first of the cheapest is that of Roster -/
theorem nws_best {D : Ro} (hD : OkP D) (hx : exB D = true) : ∃ l, flB D (nws D) = some l ∧ l.length = D.m ∧ ∀ k, k < D.m → asF l k = hrA D (prC D) k := by
  have h := nwM_best hD (fun _ _ => true)
  rw [prO_true] at h
  rcases h with ⟨h1, _⟩ | ⟨_, h2⟩
  · unfold exB at hx; rw [h1] at hx; cases hx
  · exact h2
theorem nws_far {D : Ro} (hD : OkP D) (hx : exB D = true) {l0 : List Int} (h0 : l0 ∈ nws D) : mnF (fun l => farF D (asF l) D.m) (farF D (asF l0) D.m) (nws D) = tM D := by
  obtain ⟨h1, h2, h3⟩ := mnF_spec (g := fun l => farF D (asF l) D.m) (L := nws D) (a := farF D (asF l0) D.m)
  obtain ⟨_, ⟨f, f1, f2⟩, f3⟩ := fr_spec hD ((exB_iff hD).1 hx)
  have e : tM D = frC D := by unfold tM; rw [hx]; rfl
  have a1 := h2 _ (toL_mem hD f1)
  have a2 : farF D (asF (toL D.m f)) D.m = farF D f D.m := farF_congr fun i hi => toL_at hi
  have a3 : frC D ≤ mnF (fun l => farF D (asF l) D.m) (farF D (asF l0) D.m) (nws D) := by
    rcases h3 with h3 | ⟨x, hxm, h3⟩
    · rw [h3]; exact f3 _ ((nws_mem hD).1 h0).2
    · rw [h3]; exact f3 _ ((nws_mem hD).1 hxm).2
  simp only [a2] at a1
  omega
theorem nws_few {D : Ro} (hD : OkP D) (hx : exB D = true) : mnF (fun l => cntM D (asF l) D.m) D.m (nws D) = tN D := by
  obtain ⟨h1, h2, h3⟩ := mnF_spec (g := fun l => cntM D (asF l) D.m) (L := nws D) (a := D.m)
  have hex := (exB_iff hD).1 hx
  obtain ⟨f, f1, f2⟩ := fw_ex hD hex
  have e : tN D = fwC D := by unfold tN; rw [hx]; rfl
  have a1 := h2 _ (toL_mem hD f1)
  have a2 : cntM D (asF (toL D.m f)) D.m = cntM D f D.m := by unfold cntM; rw [movedL_congr fun i hi => toL_at hi]
  have a3 : fwC D ≤ mnF (fun l => cntM D (asF l) D.m) D.m (nws D) := by
    rcases h3 with h3 | ⟨x, hxm, h3⟩
    · rw [h3]; exact (fw_bd hD hex).2
    · rw [h3]; exact fw_le hD ((nws_mem hD).1 hxm).2
  simp only [a2] at a1
  omega
/-- those of the least cost -/
def lsP (D : Ro) (l : List Int) : Bool := decide (costF D (asF l) D.m = tL D)
def hsP (D : Ro) (s : Nat) (l : List Int) : Bool := decide (asF l s = D.hs s)
def knV (so all : Int) : Int := if so = 0 then 2 else if so = all then 1 else 3
theorem nws_bd {D : Ro} (hD : OkP D) (hx : exB D = true) {s : Nat} (hs : s < D.m) : knV (ctF (fun l => lsP D l && hsP D s l) (nws D)) (ctF (lsP D) (nws D)) = bdV D s := by
  have el : tL D = lsC D := by unfold tL; rw [hx]; rfl
  have k1 : canB D (keepM D s) = false ↔ ctF (fun l => lsP D l && hsP D s l) (nws D) = 0 := by
    rw [ct_zero, ← Bool.not_eq_true, keep_iff hD hs]
    constructor
    · intro h x hx
      cases e : (lsP D x && hsP D s x) with
      | false => rfl
      | true =>
        simp only [lsP, hsP, Bool.and_eq_true, decide_eq_true_eq] at e
        exact absurd ⟨asF x, ((nws_mem hD).1 hx).2, by omega, e.2⟩ h
    · rintro h ⟨f, f1, f2, f3⟩
      have := h _ (toL_mem hD f1)
      simp only [lsP, hsP, toL_at hs, costF_congr (fun i hi => toL_at (f := f) hi), f3, f2, el] at this
      simp at this
  have k2 : canB D (loseM D s) = false ↔ ctF (fun l => lsP D l && hsP D s l) (nws D) = ctF (lsP D) (nws D) := by
    rw [ct_same.1, ← Bool.not_eq_true, lose_iff hD hs]
    constructor
    · intro h x hx hp
      simp only [lsP, hsP, decide_eq_true_eq] at hp ⊢
      by_cases e : asF x s = D.hs s
      · exact e
      · exact absurd ⟨asF x, ((nws_mem hD).1 hx).2, by omega, e⟩ h
    · rintro h ⟨f, f1, f2, f3⟩
      have := h _ (toL_mem hD f1) (by simp only [lsP, decide_eq_true_eq]; rw [costF_congr (fun i hi => toL_at (f := f) hi), f2, el])
      simp only [hsP, decide_eq_true_eq, toL_at hs] at this
      exact f3 this
  unfold knV bdV
  by_cases e1 : ctF (fun l => lsP D l && hsP D s l) (nws D) = 0
  · rw [if_pos e1, if_pos (k1.2 e1)]
  · rw [if_neg e1, if_neg (fun h => e1 (k1.1 h))]
    by_cases e2 : ctF (fun l => lsP D l && hsP D s l) (nws D) = ctF (lsP D) (nws D)
    · rw [if_pos e2, if_pos (k2.2 e2)]
    · rw [if_neg e2, if_neg (fun h => e2 (k2.1 h))]
end Go.Proofs.Ytegkgfiaegpihaa
