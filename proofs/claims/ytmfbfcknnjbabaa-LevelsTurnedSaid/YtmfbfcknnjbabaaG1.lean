/- What hear leaves, as plain mathematics: a closed matrix, and just the levels that all words allow. -/
import Derived.Test.YtmfbfcknnjbabaaB8
import Derived.IntWalk
set_option linter.unusedSimpArgs false
set_option linter.unusedVariables false
namespace Go.Proofs.Ytmfbfcknnjbabaa
open Go.RowKit

/-- by how much the level of q is at most greater than that of p -/
def D (M : List Int) (p q : Nat) : Int := gt M (p * 7 + q)
structure Clo (M : List Int) : Prop where
  len : M.length = 49
  diag : ∀ p, p < 7 → D M p p = 0
  tri : ∀ p q r, p < 7 → q < 7 → r < 7 → D M p r ≤ D M p q + D M q r
  le : ∀ p q, p < 7 → q < 7 → D M p q ≤ 99
theorem Clo.ge {M : List Int} (h : Clo M) {p q : Nat} (hp : p < 7) (hq : q < 7) : -99 ≤ D M p q := by
  have a := h.tri p q p hp hq hp
  have b := h.diag p hp
  have c := h.le q p hq hp
  omega
theorem gt_set (M : List Int) (i j : Nat) (x : Int) (hi : i < M.length) : gt (M.set i x) j = if i = j then x else gt M j := by
  unfold gt
  rw [List.getElem?_set]
  by_cases h : i = j
  · subst h; simp [hi]
  · simp [h]
theorem bIter_len (p q : Nat) (most : Int) (M : List Int) (k : Nat) : (bIter p q most M k).length = M.length := by
  induction k with
  | zero => rfl
  | succ k ih => simp [bIter, bStep, ih]
theorem bIter_at {M : List Int} (h : Clo M) {p q : Nat} {most : Int} (hp : p < 7) (hq : q < 7) (h0 : -1000 ≤ most) (h1 : most ≤ 1000) (hc : 0 ≤ most + D M q p) :
    ∀ k, k ≤ 49 → ∀ f t, f < 7 → t < 7 → gt (bIter p q most M k) (f * 7 + t) = if f * 7 + t < k then min (D M f t) (D M f p + most + D M q t) else D M f t := by
  intro k
  induction k with
  | zero => intro _ f t _ _; simp [bIter, D]
  | succ k ih =>
    intro hk f t hf ht
    have ih := ih (by omega)
    have hf0 : k / 7 < 7 := by omega
    have ht0 : k % 7 < 7 := Nat.mod_lt _ (by omega)
    have hk0 : k / 7 * 7 + k % 7 = k := by omega
    have e1 : gt (bIter p q most M k) (k / 7 * 7 + p) = D M (k / 7) p := by
      rw [ih _ _ hf0 hp]; split <;> omega
    have e2 : gt (bIter p q most M k) (q * 7 + k % 7) = D M q (k % 7) := by
      rw [ih _ _ hq ht0]; split <;> omega
    have e3 : gt (bIter p q most M k) k = D M (k / 7) (k % 7) := by
      have := ih _ _ hf0 ht0
      rw [hk0, if_neg (by omega)] at this
      exact this
    have b1 := h.ge hf0 hp; have b2 := h.le _ _ hf0 hp; have b3 := h.ge hq ht0; have b4 := h.le _ _ hq ht0
    have ew : wrap64 (wrap64 (D M (k / 7) p + most) + D M q (k % 7)) = D M (k / 7) p + most + D M q (k % 7) := by
      rw [IntWalk.wrap64_in (D M (k / 7) p + most) (by omega), IntWalk.wrap64_in _ (by omega)]
    simp only [bIter, bStep]
    rw [gt_set _ _ _ _ (by rw [bIter_len, h.len]; omega), e1, e2, e3, ew]
    by_cases he : k = f * 7 + t
    · have a1 : k / 7 = f := by omega
      have a2 : k % 7 = t := by omega
      rw [if_pos he, if_pos (by omega), a1, a2]
    · rw [if_neg he, ih _ _ hf ht]
      by_cases hl : f * 7 + t < k
      · rw [if_pos hl, if_pos (by omega)]
      · rw [if_neg hl, if_neg (by omega)]

/-- levels that a matrix leaves -/
def Fits (M : List Int) (x : Nat → Int) : Prop := ∀ p q, p < 7 → q < 7 → x q - x p ≤ D M p q
/-- what becomes of a matrix that is told P -/
def Told (M : List Int) (r : Bool × List Int) (P : (Nat → Int) → Prop) : Prop :=
  (r.1 = false → ∀ x, Fits M x → ¬ P x) ∧ (r.1 = true → Clo r.2 ∧ ∀ x, Fits r.2 x ↔ (Fits M x ∧ P x))
theorem bnd_told {M : List Int} (h : Clo M) {p q : Nat} {most : Int} (hp : p < 7) (hq : q < 7) (h0 : -1000 ≤ most) (h1 : most ≤ 1000) :
    Told M (bnd M p q most) fun x => x q - x p ≤ most := by
  have b1 := h.ge hq hp
  have b2 := h.le _ _ hq hp
  have ew : wrap64 (most + gt M (q * 7 + p)) = most + D M q p := IntWalk.wrap64_in _ (by simp only [D] at b1 b2; omega)
  unfold bnd
  rw [ew]
  by_cases hc : most + D M q p < 0
  · rw [if_pos hc]
    refine ⟨fun _ x hx hm => ?_, fun e => (by cases e)⟩
    have := hx q p hq hp
    omega
  · rw [if_neg hc]
    by_cases hl : D M p q ≤ most
    · rw [if_pos (show gt M (p * 7 + q) ≤ most from hl)]
      exact ⟨fun e => (by cases e), fun _ => ⟨h, fun x => ⟨fun hx => ⟨hx, Int.le_trans (hx p q hp hq) hl⟩, fun hx => hx.1⟩⟩⟩
    · rw [if_neg (show ¬ gt M (p * 7 + q) ≤ most from hl)]
      have hat : ∀ f t, f < 7 → t < 7 → D (bIter p q most M 49) f t = min (D M f t) (D M f p + most + D M q t) := fun f t hf ht => by
        have := bIter_at h hp hq h0 h1 (by omega) 49 (Nat.le_refl _) f t hf ht
        rw [if_pos (by omega)] at this
        exact this
      have hlen : (bIter p q most M 49).length = 49 := by rw [bIter_len, h.len]
      generalize bIter p q most M 49 = N at hat hlen ⊢
      have tri := h.tri
      refine ⟨fun e => (by cases e), fun _ => ⟨⟨hlen, fun f hf => ?_, fun f t r hf ht hr => ?_, fun f t hf ht => ?_⟩, fun x => ⟨fun hx => ⟨fun f t hf ht => ?_, ?_⟩, fun hx f t hf ht => ?_⟩⟩⟩
      · rw [hat f f hf hf, h.diag f hf]
        have := tri q f p hq hf hp
        omega
      · rw [hat f r hf hr, hat f t hf ht, hat t r ht hr]
        have t1 := tri f t r hf ht hr
        have t2 := tri f t p hf ht hp
        have t3 := tri q t r hq ht hr
        have t4 := tri q t p hq ht hp
        omega
      · rw [hat f t hf ht]
        have := h.le f t hf ht
        omega
      · have a := hx f t hf ht
        rw [hat f t hf ht] at a
        omega
      · have a := hx p q hp hq
        rw [hat p q hp hq, h.diag p hp, h.diag q hq] at a
        omega
      · rw [hat f t hf ht]
        have a1 := hx.1 f t hf ht
        have a2 := hx.1 f p hf hp
        have a3 := hx.1 q t hq ht
        have a4 := hx.2
        omega
theorem addW_told {M : List Int} (h : Clo M) {f t : Nat} {lo hi : Int} (hf : f < 7) (ht : t < 7) (h0 : -1000 ≤ lo) (h1 : lo ≤ 1000) (h2 : -1000 ≤ hi) (h3 : hi ≤ 1000) :
    Told M (addW M f t lo hi) fun x => lo ≤ x t - x f ∧ x t - x f ≤ hi := by
  have a := bnd_told h hf ht h2 h3
  unfold addW
  dsimp only
  rw [IntWalk.wrap64_in (-lo) (by omega)]
  cases hb : (bnd M f t hi).1 with
  | false =>
    rw [if_neg (by simp)]
    exact ⟨fun _ x hx hp => a.1 hb x hx hp.2, fun e => (by cases e)⟩
  | true =>
    rw [if_pos rfl]
    obtain ⟨c1, c2⟩ := a.2 hb
    have b := bnd_told c1 ht hf (most := -lo) (by omega) (by omega)
    refine ⟨fun e x hx hp => b.1 e x ((c2 x).2 ⟨hx, hp.2⟩) (by have := hp.1; omega), fun e => ⟨(b.2 e).1, fun x => ((b.2 e).2 x).trans ⟨fun k => ⟨((c2 x).1 k.1).1, ?_, ((c2 x).1 k.1).2⟩, fun k => ⟨(c2 x).2 ⟨k.1, k.2.2⟩, ?_⟩⟩⟩⟩
    · have := k.2; omega
    · have := k.2.1; omega

/-- what levels say to the words that were said among the first ones -/
def Sat (S : Nat → Bool) (ws : List Wd) (k : Nat) (x : Nat → Int) : Prop := ∀ j, j < k → S j = true → ∀ y, ws[j]? = some y → y.lo ≤ x y.t - x y.f ∧ x y.t - x y.f ≤ y.hi
def Heard (o : Option (List Int)) (P : (Nat → Int) → Prop) : Prop := match o with
  | none => ∀ x, Fits U49 x → ¬ P x
  | some M => Clo M ∧ ∀ x, Fits M x ↔ (Fits U49 x ∧ P x)
def Small (y : Wd) : Prop := y.f < 7 ∧ y.t < 7 ∧ -1000 ≤ y.lo ∧ y.lo ≤ 1000 ∧ -1000 ≤ y.hi ∧ y.hi ≤ 1000
theorem U_tri : ∀ p, p < 7 → ∀ q, q < 7 → ∀ r, r < 7 → D U49 p r ≤ D U49 p q + D U49 q r := by decide +kernel
theorem U_le : ∀ p, p < 7 → ∀ q, q < 7 → D U49 p q ≤ 99 := by decide +kernel
theorem clo_U : Clo U49 := ⟨by decide +kernel, by decide +kernel, fun p q r hp hq hr => U_tri p hp q hq r hr, fun p q hp hq => U_le p hp q hq⟩
theorem sat_succ {S : Nat → Bool} {ws : List Wd} {k : Nat} {x : Nat → Int} : Sat S ws (k + 1) x ↔ (Sat S ws k x ∧ (S k = true → ∀ y, ws[k]? = some y → y.lo ≤ x y.t - x y.f ∧ x y.t - x y.f ≤ y.hi)) := by
  constructor
  · intro h
    exact ⟨fun j hj => h j (by omega), h k (by omega)⟩
  · rintro ⟨h, g⟩ j hj
    by_cases e : j = k
    · subst e; exact g
    · exact h j (by omega)
theorem heard {S : Nat → Bool} {ws : List Wd} (hw : ∀ y ∈ ws, Small y) : ∀ k, k ≤ ws.length → Heard (hTo S ws k) (Sat S ws k) := by
  intro k
  induction k with
  | zero =>
    intro _
    exact ⟨clo_U, fun x => ⟨fun h => ⟨h, fun j hj => absurd hj (Nat.not_lt_zero _)⟩, fun h => h.1⟩⟩
  | succ k ih =>
    intro hk
    have ih := ih (by omega)
    cases hm : hTo S ws k with
    | none =>
      rw [hm] at ih
      have e : hTo S ws (k + 1) = none := by simp only [hTo]; rw [hm]
      rw [e]
      exact fun x hx hs => ih x hx (sat_succ.1 hs).1
    | some M =>
      rw [hm] at ih
      obtain ⟨c1, c2⟩ := ih
      cases hS : S k with
      | false =>
        have e : hTo S ws (k + 1) = some M := by simp [hTo, hm, hS]
        rw [e]
        exact ⟨c1, fun x => (c2 x).trans ⟨fun h => ⟨h.1, sat_succ.2 ⟨h.2, fun e => by rw [hS] at e; cases e⟩⟩, fun h => ⟨h.1, (sat_succ.1 h.2).1⟩⟩⟩
      | true =>
        have hx : ws[k]? = some ws[k] := List.getElem?_eq_getElem hk
        obtain ⟨a1, a2, a3, a4, a5, a6⟩ := hw ws[k] (List.getElem_mem hk)
        have ht := addW_told c1 a1 a2 a3 a4 a5 a6
        have e : hTo S ws (k + 1) = if (addW M ws[k].f ws[k].t ws[k].lo ws[k].hi).1 then some (addW M ws[k].f ws[k].t ws[k].lo ws[k].hi).2 else none := by
          simp [hTo, hm, hS, hx]
        rw [e]
        cases hb : (addW M ws[k].f ws[k].t ws[k].lo ws[k].hi).1 with
        | false =>
          rw [if_neg (by simp)]
          exact fun x hf hs => ht.1 hb x ((c2 x).2 ⟨hf, (sat_succ.1 hs).1⟩) ((sat_succ.1 hs).2 hS _ hx)
        | true =>
          rw [if_pos rfl]
          refine ⟨(ht.2 hb).1, fun x => ((ht.2 hb).2 x).trans ⟨fun h => ⟨((c2 x).1 h.1).1, sat_succ.2 ⟨((c2 x).1 h.1).2, fun _ y hy => ?_⟩⟩, fun h => ⟨(c2 x).2 ⟨h.1, (sat_succ.1 h.2).1⟩, (sat_succ.1 h.2).2 hS _ hx⟩⟩⟩
          rw [hx] at hy
          cases hy
          exact h.2
/-- levels at which all others are as high above p as can be -/
def pt (M : List Int) (p : Nat) : Nat → Int := fun r => D M p r - D M p 0
theorem pt_fits {M : List Int} (h : Clo M) {p : Nat} (hp : p < 7) : Fits M (pt M p) := fun f t hf ht => by
  have := h.tri p f t hp hf ht
  simp only [pt]
  omega
theorem pt_zero (M : List Int) (p : Nat) : pt M p 0 = 0 := by simp [pt]
theorem fits_zero {M : List Int} (h : Clo M) : Fits M (D M 0) := fun f t hf ht => by
  have := h.tri 0 f t (by omega) hf ht
  omega
/-- levels at which all others are as far below p as can be -/
def dn (M : List Int) (p : Nat) : Nat → Int := fun r => D M 0 p - D M r p
theorem dn_fits {M : List Int} (h : Clo M) {p : Nat} (hp : p < 7) : Fits M (dn M p) := fun f t hf ht => by
  have := h.tri f t p hf ht hp
  simp only [dn]
  omega
end Go.Proofs.Ytmfbfcknnjbabaa
