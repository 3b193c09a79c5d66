/- Truths of a town and the matrix of what is known: just the levels that it leaves. -/
import Derived.Test.YtmfbfcknnjbabaaK1
set_option linter.unusedSimpArgs false
set_option linter.unusedVariables false
namespace Go.Proofs.Ytmfbfcknnjbabaa
open Go.RowKit

/-- the level of each point -/
def lev (xs : List Int) (r : Nat) : Int := if r = 0 then 0 else at0 xs ((r : Int) - 1)
theorem lev_zero (xs : List Int) : lev xs 0 = 0 := rfl
theorem lev_succ (xs : List Int) (r : Nat) : lev xs (r + 1) = at0 xs r := by
  simp only [lev]
  rw [if_neg (by omega)]
  congr 1
  omega
theorem lev_at (xs : List Int) (r : Nat) (h : r < xs.length) : lev xs (r + 1) = xs[r] := by
  rw [lev_succ]; simp [at0, h]
theorem U_at : ∀ p, p < 7 → ∀ q, q < 7 → D U49 p q = if p = q then 0 else if q = 0 then 0 else 99 := by decide +kernel
/-- levels from 0 to MaxLevel, the ground at 0 -/
theorem fits_U {x : Nat → Int} (h0 : x 0 = 0) : Fits U49 x ↔ ∀ r, r < 7 → 0 ≤ x r ∧ x r ≤ 99 := by
  constructor
  · intro h r hr
    have a := h 0 r (by omega) hr
    have b := h r 0 hr (by omega)
    rw [U_at _ (by omega) _ hr] at a
    rw [U_at _ hr _ (by omega)] at b
    rw [h0] at a b
    by_cases e : r = 0
    · subst e; omega
    · rw [if_neg (by omega), if_neg e] at a
      rw [if_neg e, if_pos rfl] at b
      omega
  · intro h p q hp hq
    have a := h p hp
    have b := h q hq
    rw [U_at _ hp _ hq]
    by_cases e : p = q
    · subst e; rw [if_pos rfl]; omega
    · rw [if_neg e]
      by_cases e2 : q = 0
      · subst e2; rw [if_pos rfl, h0]; omega
      · rw [if_neg e2]; omega
theorem all_get {α : Type} {l : List α} {f : α → Bool} : l.all f = true ↔ ∀ k, (h : k < l.length) → f l[k] = true := by
  rw [List.all_eq_true]
  constructor
  · intro h k hk; exact h _ (List.getElem_mem hk)
  · intro h x hx
    obtain ⟨k, hk, rfl⟩ := List.getElem_of_mem hx
    exact h k hk
theorem sat_words {T : Town} (hok : T.ok = true) {xs : List Int} : Sat (fun _ => true) (words T) (words T).length (lev xs) ↔ (T.s.all (okS xs) = true ∧ T.r.all (okR xs) = true) := by
  have hS : ∀ s ∈ T.s, ((wS s).lo ≤ lev xs (wS s).t - lev xs (wS s).f ∧ lev xs (wS s).t - lev xs (wS s).f ≤ (wS s).hi) ↔ okS xs s = true := by
    intro s hs
    have := ok_sOk hok hs
    simp only [wS, okS, within, decide_eq_true_eq, lev_zero, lev_succ]
    rw [show ((s.well.toNat : Nat) : Int) = s.well by omega]
    omega
  have hR : ∀ s ∈ T.r, ((wR s).lo ≤ lev xs (wR s).t - lev xs (wR s).f ∧ lev xs (wR s).t - lev xs (wR s).f ≤ (wR s).hi) ↔ okR xs s = true := by
    intro s hs
    have := ok_rOk hok hs
    simp only [wR, okR, within, decide_eq_true_eq, lev_succ]
    rw [show ((s.a.toNat : Nat) : Int) = s.a by omega, show ((s.b.toNat : Nat) : Int) = s.b by omega]
  have key : Sat (fun _ => true) (words T) (words T).length (lev xs) ↔ ∀ y ∈ words T, y.lo ≤ lev xs y.t - lev xs y.f ∧ lev xs y.t - lev xs y.f ≤ y.hi := by
    constructor
    · intro h y hy
      obtain ⟨k, hk, rfl⟩ := List.getElem_of_mem hy
      exact h k hk rfl _ (List.getElem?_eq_getElem hk)
    · intro h j hj _ y hy
      exact h y (List.mem_of_getElem? hy)
  rw [key, List.all_eq_true, List.all_eq_true]
  constructor
  · intro h
    exact ⟨fun s hs => (hS s hs).1 (h _ (List.mem_append_left _ (List.mem_map_of_mem hs))), fun s hs => (hR s hs).1 (h _ (List.mem_append_right _ (List.mem_map_of_mem hs)))⟩
  · rintro ⟨h1, h2⟩ y hy
    simp only [words, List.mem_append, List.mem_map] at hy
    rcases hy with ⟨s, hs, rfl⟩ | ⟨s, hs, rfl⟩
    · exact (hS s hs).2 (h1 s hs)
    · exact (hR s hs).2 (h2 s hs)
theorem okX_U {xs : List Int} (hl : xs.length ≤ 6) : xs.all okX = true ↔ Fits U49 (lev xs) := by
  rw [fits_U (lev_zero xs), all_get]
  constructor
  · intro h r hr
    cases r with
    | zero => rw [lev_zero]; omega
    | succ r =>
      by_cases hx : r < xs.length
      · rw [lev_at xs r hx]
        have := h r hx
        simpa [okX, within] using this
      · rw [lev_succ]
        have : at0 xs (r : Int) = 0 := by simp [at0, List.getElem?_eq_none (by omega : xs.length ≤ r)]
        omega
  · intro h k hk
    have := h (k + 1) (by omega)
    rw [lev_at xs k hk] at this
    simpa [okX, within] using this
theorem truth_iff {T : Town} (hok : T.ok = true) {xs : List Int} : truth T xs = true ↔ ((xs.length : Int) = T.W ∧ Fits U49 (lev xs) ∧ Sat (fun _ => true) (words T) (words T).length (lev xs)) := by
  have hW := ok_W hok
  simp only [truth, Bool.and_eq_true, decide_eq_true_eq]
  constructor
  · rintro ⟨h1, h2, h3, h4⟩
    exact ⟨h1, (okX_U (by omega)).1 h2, (sat_words hok).2 ⟨h3, h4⟩⟩
  · rintro ⟨h1, h2, h3⟩
    exact ⟨h1, (okX_U (by omega)).2 h2, (sat_words hok).1 h3⟩
theorem truth_fits {T : Town} {M : List Int} (hok : T.ok = true) (hk : kn T = some M) {xs : List Int} : truth T xs = true ↔ ((xs.length : Int) = T.W ∧ Fits M (lev xs)) := by
  have h := heard_kn hok
  rw [hk] at h
  rw [truth_iff hok, h.2]
theorem truth_none {T : Town} (hok : T.ok = true) (hk : kn T = none) (xs : List Int) : truth T xs = false := by
  have h := heard_kn hok
  rw [hk] at h
  cases ht : truth T xs with
  | false => rfl
  | true =>
    obtain ⟨_, h1, h2⟩ := (truth_iff hok).1 ht
    exact (h _ h1 h2).elim
/-- levels of all points that fit, as a list of the wells' levels, which is a truth -/
def lvl (n : Nat) (x : Nat → Int) : List Int := (List.range n).map fun r => x (r + 1)
theorem lvl_len (n : Nat) (x : Nat → Int) : (lvl n x).length = n := by simp [lvl]
theorem lvl_truth {T : Town} {M : List Int} {n : Nat} (hok : T.ok = true) (hk : kn T = some M) (hn : T.W = n) {x : Nat → Int} (h0 : x 0 = 0) (hx : Fits M x) : truth T (lvl n x) = true := by
  have hW := ok_W hok
  have hh := heard_kn hok
  rw [hk] at hh
  obtain ⟨h1, h2⟩ := (hh.2 x).1 hx
  have hU := (fits_U h0).1 h1
  have hlev : ∀ r, r < n + 1 → lev (lvl n x) r = x r := fun r hr => by
    cases r with
    | zero => rw [lev_zero, h0]
    | succ r => rw [lev_at _ r (by rw [lvl_len]; omega)]; simp [lvl]
  refine (truth_iff hok).2 ⟨by rw [lvl_len]; exact hn.symm, ?_, ?_⟩
  · refine (fits_U (lev_zero _)).2 fun r hr => ?_
    by_cases hr' : r < n + 1
    · rw [hlev r hr']; exact hU r hr
    · cases r with
      | zero => omega
      | succ r =>
        rw [lev_succ]
        have : at0 (lvl n x) (r : Int) = 0 := by
          have : (lvl n x).length ≤ r := by rw [lvl_len]; omega
          simp [at0, List.getElem?_eq_none this]
        omega
  · intro j hj hS y hy
    have := h2 j hj hS y hy
    have hm := List.mem_of_getElem? hy
    simp only [words, List.mem_append, List.mem_map] at hm
    have hb : y.f < n + 1 ∧ y.t < n + 1 := by
      rcases hm with ⟨s, hs, rfl⟩ | ⟨s, hs, rfl⟩
      · have := ok_sOk hok hs; simp only [wS]; omega
      · have := ok_rOk hok hs; simp only [wR]; omega
    rw [hlev _ hb.1, hlev _ hb.2]
    exact this
theorem low_truth {T : Town} {M : List Int} {n : Nat} (hok : T.ok = true) (hk : kn T = some M) (hn : T.W = n) : truth T ((lv M n).map fun x => x.1) = true := by
  have hM := kn_clo hok hk
  have hW := ok_W hok
  have h := lvl_truth hok hk hn (x := dn M 0) (by simp [dn]) (dn_fits hM (by omega))
  have e : (lv M n).map (fun x => x.1) = lvl n (dn M 0) := by
    simp only [lv, lvl, List.map_map]
    refine List.map_congr_left fun r hr => ?_
    have : r < n := by simpa using hr
    simp only [Function.comp, dif_eq hM (show 0 < 7 by omega) (show r + 1 < 7 by omega), dn, hM.diag 0 (by omega)]
    omega
  rw [e]; exact h
theorem high_truth {T : Town} {M : List Int} {n : Nat} (hok : T.ok = true) (hk : kn T = some M) (hn : T.W = n) : truth T ((lv M n).map fun x => x.2) = true := by
  have hM := kn_clo hok hk
  have hW := ok_W hok
  have h := lvl_truth hok hk hn (x := D M 0) (hM.diag 0 (by omega)) (fits_zero hM)
  have e : (lv M n).map (fun x => x.2) = lvl n (D M 0) := by
    simp only [lv, lvl, List.map_map]
    refine List.map_congr_left fun r hr => ?_
    have : r < n := by simpa using hr
    simp only [Function.comp, dif_eq hM (show 0 < 7 by omega) (show r + 1 < 7 by omega)]
  rw [e]; exact h
end Go.Proofs.Ytmfbfcknnjbabaa
