/- What the examples of the chapter come to, by reckoning. -/
import Derived.Test.YtmfbfcknnjbabaaG6
import Derived.Test.YtmfbfcknnjbabaaG4
set_option linter.unusedSimpArgs false
set_option linter.unusedVariables false
namespace Go.Proofs.Ytmfbfcknnjbabaa
open Go.RowKit

theorem ok_sOk {T : Town} (h : T.ok = true) {y : Snd} (hy : y ∈ T.s) : 0 ≤ y.well ∧ y.well < T.W ∧ 0 ≤ y.low ∧ y.low ≤ y.high ∧ y.high ≤ 99 := by
  simp only [Town.ok, Bool.and_eq_true, List.all_eq_true] at h
  have := h.2.2.2.1 y hy
  simp only [sOk, within, Bool.and_eq_true, decide_eq_true_eq] at this
  omega
theorem ok_rOk {T : Town} (h : T.ok = true) {y : Slp} (hy : y ∈ T.r) : 0 ≤ y.a ∧ y.a < T.W ∧ 0 ≤ y.b ∧ y.b < T.W ∧ y.a ≠ y.b ∧ -99 ≤ y.low ∧ y.low ≤ y.high ∧ y.high ≤ 99 := by
  simp only [Town.ok, Bool.and_eq_true, List.all_eq_true] at h
  have := h.2.2.2.2 y hy
  simp only [rOk, within, Bool.and_eq_true, decide_eq_true_eq, Bool.not_eq_true', beq_eq_false_iff_ne] at this
  omega
theorem words_small {T : Town} (hok : T.ok = true) : ∀ y ∈ words T, Small y := by
  intro y hy
  have h1 := words_ok hok y hy
  simp only [words, List.mem_append, List.mem_map] at hy
  rcases hy with ⟨s, hs, rfl⟩ | ⟨s, hs, rfl⟩
  · have := ok_sOk hok hs
    refine ⟨h1.1, h1.2, ?_⟩; simp only [wS]; omega
  · have := ok_rOk hok hs
    refine ⟨h1.1, h1.2, ?_⟩; simp only [wR]; omega
theorem heard_kn {T : Town} (hok : T.ok = true) : Heard (kn T) (Sat (fun _ => true) (words T) (words T).length) := heard (words_small hok) _ (Nat.le_refl _)
theorem kn_clo {T : Town} {M : List Int} (hok : T.ok = true) (hk : kn T = some M) : Clo M := by
  have := heard_kn hok
  rw [hk] at this
  exact this.1
theorem dif_eq {M : List Int} (h : Clo M) {p q : Nat} (hp : p < 7) (hq : q < 7) : dif M p q = (-D M q p, D M p q) := by
  have a := h.ge hq hp
  have b := h.le q p hq hp
  unfold dif
  rw [IntWalk.wrap64_in _ (by simp only [D] at a b; omega)]
  rfl
theorem fine_of {M : List Int} (h : Clo M) {n : Nat} (hn : n ≤ 6) : Fine M n := fun q hq => by
  have a := h.ge (p := q + 1) (q := 0) (by omega) (by omega)
  have b := h.le (q + 1) 0 (by omega) (by omega)
  have c := h.ge (p := 0) (q := q + 1) (by omega) (by omega)
  have d := h.le 0 (q + 1) (by omega) (by omega)
  have e := h.tri 0 (q + 1) 0 (by omega) (by omega) (by omega)
  have f := h.diag 0 (by omega)
  rw [dif_eq h (by omega) (by omega)]
  simp only
  omega
def ME : List Int := (kn TE).getD []
theorem ok_TE : TE.ok = true := by decide +kernel
theorem ok_QE : QE.ok = true := by decide +kernel
theorem kn_TE : kn TE = some ME := by decide +kernel
theorem kn_QE : kn QE = none := by decide +kernel
theorem dif_E1 : dif ME 0 3 = (20, 25) := by decide +kernel
theorem dif_E2 : dif ME 1 3 = (8, 13) := by decide +kernel
theorem low_E : (lv ME 3).map (fun x => x.1) = [10, 13, 20] := by decide +kernel
theorem ask_E : wd ME 3 ≠ 0 ∧ (askSt ME 3 3).1 = 1 := by decide +kernel
theorem why_E : findTo (whyP TE 2 25) (whyL 3) 4 = some [0, 1, 2] := by decide +kernel
theorem clash_E : findTo (clashP (words QE)) (clashL 5) 6 = some [0, 2, 3] := by decide +kernel
end Go.Proofs.Ytmfbfcknnjbabaa
