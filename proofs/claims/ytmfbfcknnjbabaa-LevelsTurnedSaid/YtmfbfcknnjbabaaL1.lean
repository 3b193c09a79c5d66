/- A town with one word more: it has a truth just where a truth of the town keeps that word. -/
import Derived.Test.YtmfbfcknnjbabaaK3
set_option linter.unusedSimpArgs false
set_option linter.unusedVariables false
namespace Go.Proofs.Ytmfbfcknnjbabaa
open Go.RowKit

/-- a difference between its ends is that of levels which fit -/
theorem hit {M : List Int} (h : Clo M) {f t : Nat} {n : Int} (hf : f < 7) (ht : t < 7) (h0 : -D M t f ≤ n) (h1 : n ≤ D M f t) : ∃ x, Fits M x ∧ x 0 = 0 ∧ x t - x f = n := by
  refine ⟨fun r => min (D M f r) (n + D M t r) - min (D M f 0) (n + D M t 0), fun p q hp hq => ?_, ?_, ?_⟩
  · have a := h.tri f p q hf hp hq
    have b := h.tri t p q ht hp hq
    show min (D M f q) (n + D M t q) - min (D M f 0) (n + D M t 0) - (min (D M f p) (n + D M t p) - min (D M f 0) (n + D M t 0)) ≤ D M p q
    omega
  · show min (D M f 0) (n + D M t 0) - min (D M f 0) (n + D M t 0) = 0
    omega
  · have a := h.diag f hf
    have b := h.diag t ht
    show min (D M f t) (n + D M t t) - min (D M f 0) (n + D M t 0) - (min (D M f f) (n + D M t f) - min (D M f 0) (n + D M t 0)) = n
    rw [a, b]
    omega
theorem more_iff {T U : Town} {M : List Int} (hok : T.ok = true) (huk : U.ok = true) (hk : kn T = some M) {f t : Nat} {n : Int} (hf : f < 7) (ht : t < 7)
    (hs : ∀ x, Sat (fun _ => true) (words U) (words U).length x ↔ (Sat (fun _ => true) (words T) (words T).length x ∧ x t - x f = n)) :
    (kn U).isSome = decide (-D M t f ≤ n ∧ n ≤ D M f t) := by
  have a := heard_kn hok
  have b := heard_kn huk
  rw [hk] at a
  obtain ⟨c, a⟩ := a
  cases hu : kn U with
  | none =>
    rw [hu] at b
    symm
    rw [show (none : Option (List Int)).isSome = false from rfl, decide_eq_false_iff_not]
    rintro ⟨h0, h1⟩
    obtain ⟨x, x1, x2, x3⟩ := hit c hf ht h0 h1
    exact b x ((a x).1 x1).1 ((hs x).2 ⟨((a x).1 x1).2, x3⟩)
  | some N =>
    rw [hu] at b
    obtain ⟨cN, b⟩ := b
    symm
    rw [show (some N).isSome = true from rfl, decide_eq_true_eq]
    obtain ⟨x1, x2⟩ := (b _).1 (fits_zero cN)
    obtain ⟨x3, x4⟩ := (hs _).1 x2
    have hx := (a _).2 ⟨x1, x3⟩
    have e1 := hx f t hf ht
    have e2 := hx t f ht hf
    omega
theorem sat_all {ws : List Wd} {x : Nat → Int} : Sat (fun _ => true) ws ws.length x ↔ ∀ y ∈ ws, y.lo ≤ x y.t - x y.f ∧ x y.t - x y.f ≤ y.hi := by
  constructor
  · intro h y hy
    obtain ⟨k, hk, rfl⟩ := List.getElem_of_mem hy
    exact h k hk rfl _ (List.getElem?_eq_getElem hk)
  · intro h j hj _ y hy
    exact h y (List.mem_of_getElem? hy)
def Town.slp (T : Town) (x : Slp) : Town := ⟨T.W, T.s, T.r ++ [x]⟩
theorem sat_slp {T : Town} {y : Slp} {n : Int} (h0 : y.low = n) (h1 : y.high = n) (x : Nat → Int) :
    Sat (fun _ => true) (words (T.slp y)) (words (T.slp y)).length x ↔ (Sat (fun _ => true) (words T) (words T).length x ∧ x (wR y).t - x (wR y).f = n) := by
  rw [sat_all, sat_all]
  have e : (wR y).lo = n ∧ (wR y).hi = n := ⟨h0, h1⟩
  simp only [words, Town.slp, List.map_append, List.mem_append, List.map_cons, List.map_nil, List.mem_singleton]
  constructor
  · intro h
    refine ⟨fun z hz => h z (hz.elim Or.inl fun k => Or.inr (Or.inl k)), ?_⟩
    have := h (wR y) (Or.inr (Or.inr rfl))
    omega
  · rintro ⟨h, g⟩ z (hz | hz | rfl)
    · exact h z (Or.inl hz)
    · exact h z (Or.inr hz)
    · omega
theorem sat_snd {T : Town} {y : Snd} {n : Int} (h0 : y.low = n) (h1 : y.high = n) (x : Nat → Int) :
    Sat (fun _ => true) (words (T.snd y)) (words (T.snd y)).length x ↔ (Sat (fun _ => true) (words T) (words T).length x ∧ x (wS y).t - x (wS y).f = n) := by
  rw [sat_all, sat_all]
  have e : (wS y).lo = n ∧ (wS y).hi = n := ⟨h0, h1⟩
  simp only [words, Town.snd, List.map_append, List.mem_append, List.map_cons, List.map_nil, List.mem_singleton]
  constructor
  · intro h
    refine ⟨fun z hz => h z (hz.elim (fun k => Or.inl (Or.inl k)) Or.inr), ?_⟩
    have := h (wS y) (Or.inl (Or.inr rfl))
    omega
  · rintro ⟨h, g⟩ z ((hz | rfl) | hz)
    · exact h z (Or.inl hz)
    · omega
    · exact h z (Or.inr hz)
end Go.Proofs.Ytmfbfcknnjbabaa
