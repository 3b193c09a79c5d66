/- The town upside down: what is known of it, and by any of its words. -/
import Derived.Test.YtmfbfcknnjbabaaP2
import Derived.Test.YtmfbfcknnjbabaaM5
set_option linter.unusedSimpArgs false
set_option linter.unusedVariables false
namespace Go.Proofs.Ytmfbfcknnjbabaa
open Go.RowKit

def turnS (y : Snd) : Snd := ⟨y.well, 99 - y.high, 99 - y.low⟩
def turnR (y : Slp) : Slp := ⟨y.b, y.a, y.low, y.high⟩
def Town.turn (T : Town) : Town := ⟨T.W, T.s.map turnS, T.r.map turnR⟩
def turnW (y : Wd) : Wd := if y.f = 0 then ⟨0, y.t, 99 - y.hi, 99 - y.lo⟩ else ⟨y.t, y.f, y.lo, y.hi⟩
def turnF (x : Nat → Int) (r : Nat) : Int := if r = 0 then 0 else 99 - x r
theorem turnF_pos {x : Nat → Int} {r : Nat} (h : r ≠ 0) : turnF x r = 99 - x r := if_neg h
theorem turnF_turnF {x : Nat → Int} (h : x 0 = 0) : turnF (turnF x) = x := by
  funext r
  by_cases c : r = 0
  · subst c; rw [h]; rfl
  · rw [turnF_pos c, turnF_pos c]; omega
theorem words_turn (T : Town) : words T.turn = (words T).map turnW := by
  simp only [words, Town.turn, List.map_append, List.map_map]
  congr 1
theorem turn_ok {T : Town} (h : T.ok = true) : T.turn.ok = true := by
  have hs := fun y hy => ok_sOk (y := y) h hy
  have hr := fun y hy => ok_rOk (y := y) h hy
  simp only [Town.ok, Bool.and_eq_true, decide_eq_true_eq, List.all_eq_true] at h
  simp only [Town.ok, Town.turn, Bool.and_eq_true, decide_eq_true_eq, List.all_eq_true, List.length_map, List.mem_map]
  refine ⟨h.1, h.2.1, h.2.2.1, ?_, ?_⟩
  · rintro z ⟨y, hy, rfl⟩
    have := hs y hy
    show sOk T.W ⟨y.well, 99 - y.high, 99 - y.low⟩ = true
    simp only [sOk, Bool.and_eq_true]
    exact ⟨within_tt (by omega) (by omega), within_tt (by omega) (by omega), within_tt (by omega) (by omega)⟩
  · rintro z ⟨y, hy, rfl⟩
    have := hr y hy
    show rOk T.W ⟨y.b, y.a, y.low, y.high⟩ = true
    simp only [rOk, Bool.and_eq_true, Bool.not_eq_true', beq_eq_false_iff_ne]
    exact ⟨within_tt (by omega) (by omega), within_tt (by omega) (by omega), by omega, within_tt (by omega) (by omega), within_tt (by omega) (by omega)⟩
theorem turnW_sat {y : Wd} {x : Nat → Int} (x0 : x 0 = 0) (hy : y.t ≠ 0) : ((turnW y).lo ≤ turnF x (turnW y).t - turnF x (turnW y).f ∧ turnF x (turnW y).t - turnF x (turnW y).f ≤ (turnW y).hi) ↔ (y.lo ≤ x y.t - x y.f ∧ x y.t - x y.f ≤ y.hi) := by
  obtain ⟨f, t, lo, hi⟩ := y
  have e1 := turnF_pos (x := x) hy
  by_cases c : f = 0
  · subst c
    have e0 : turnF x 0 = 0 := rfl
    have e2 : turnW ⟨0, t, lo, hi⟩ = ⟨0, t, 99 - hi, 99 - lo⟩ := rfl
    rw [e2]
    simp only at e1 ⊢
    rw [e1, e0, x0]
    omega
  · have e2 : turnW ⟨f, t, lo, hi⟩ = ⟨t, f, lo, hi⟩ := if_neg c
    have e3 := turnF_pos (x := x) c
    rw [e2]
    simp only at e1 ⊢
    rw [e1, e3]
    omega
theorem sat_turn {T : Town} {S : Nat → Bool} {x : Nat → Int} (x0 : x 0 = 0) : Sat S (words T.turn) (words T.turn).length (turnF x) ↔ Sat S (words T) (words T).length x := by
  rw [words_turn, List.length_map]
  have ht : ∀ j (y : Wd), (words T)[j]? = some y → y.t ≠ 0 := fun j y h => by
    have := List.mem_of_getElem? h
    simp only [words, List.mem_append, List.mem_map] at this
    rcases this with ⟨s, _, rfl⟩ | ⟨s, _, rfl⟩
    · simp [wS]
    · simp [wR]
  constructor
  · intro h j hj hS y hy
    have := h j hj hS (turnW y) (by rw [List.getElem?_map, hy]; rfl)
    exact (turnW_sat x0 (ht j y hy)).1 this
  · intro h j hj hS z hz
    rw [List.getElem?_map] at hz
    cases hy : (words T)[j]? with
    | none => rw [hy] at hz; cases hz
    | some y =>
      rw [hy] at hz
      cases hz
      exact (turnW_sat x0 (ht j y hy)).2 (h j hj hS y hy)
theorem fits_U_turn {x : Nat → Int} (x0 : x 0 = 0) : Fits U49 (turnF x) ↔ Fits U49 x := by
  rw [fits_U x0, fits_U (x := turnF x) rfl]
  constructor
  · intro h r hr
    have := h r hr
    by_cases c : r = 0
    · subst c; omega
    · rw [turnF_pos c] at this; omega
  · intro h r hr
    have := h r hr
    by_cases c : r = 0
    · subst c; show 0 ≤ (0 : Int) ∧ (0 : Int) ≤ 99; omega
    · rw [turnF_pos c]; omega
/-- what is known by some words, of both towns -/
theorem heard_turn {T : Town} (hok : T.ok = true) (S : Nat → Bool) : (hTo S (words T) (words T).length = none ∧ hTo S (words T.turn) (words T.turn).length = none) ∨
    ∃ M N, hTo S (words T) (words T).length = some M ∧ hTo S (words T.turn) (words T.turn).length = some N ∧ Clo M ∧ Clo N ∧ ∀ q, 1 ≤ q → q < 7 → D N 0 q = 99 + D M q 0 ∧ D N q 0 = D M 0 q - 99 := by
  have a := heard (S := S) (words_small hok) (words T).length (Nat.le_refl _)
  have b := heard (S := S) (words_small (turn_ok hok)) (words T.turn).length (Nat.le_refl _)
  cases hM : hTo S (words T) (words T).length with
  | none =>
    rw [hM] at a
    cases hN : hTo S (words T.turn) (words T.turn).length with
    | none => exact .inl ⟨rfl, rfl⟩
    | some N =>
      rw [hN] at b
      obtain ⟨u, s⟩ := (b.2 _).1 (fits_zero b.1)
      have n0 : D N 0 0 = 0 := b.1.diag 0 (by omega)
      rw [← turnF_turnF n0] at u s
      exact absurd ((sat_turn (x := turnF (D N 0)) rfl).1 s) (a _ ((fits_U_turn (x := turnF (D N 0)) rfl).1 u))
  | some M =>
    rw [hM] at a
    have m0 : D M 0 0 = 0 := a.1.diag 0 (by omega)
    cases hN : hTo S (words T.turn) (words T.turn).length with
    | none =>
      rw [hN] at b
      obtain ⟨u, s⟩ := (a.2 _).1 (fits_zero a.1)
      exact absurd ((sat_turn m0).2 s) (b _ ((fits_U_turn m0).2 u))
    | some N =>
      rw [hN] at b
      have f1 : ∀ x, x 0 = 0 → Fits M x → Fits N (turnF x) := fun x x0 h => (b.2 _).2 ⟨(fits_U_turn x0).2 ((a.2 x).1 h).1, (sat_turn x0).2 ((a.2 x).1 h).2⟩
      have f2 : ∀ y, y 0 = 0 → Fits N y → Fits M (turnF y) := fun y y0 h => by
        rw [← turnF_turnF y0] at h
        obtain ⟨u, s⟩ := (b.2 _).1 h
        exact (a.2 _).2 ⟨(fits_U_turn (x := turnF y) rfl).1 u, (sat_turn (x := turnF y) rfl).1 s⟩
      refine .inr ⟨M, N, rfl, rfl, a.1, b.1, fun q h1 h7 => ⟨Int.le_antisymm ?_ ?_, Int.le_antisymm ?_ ?_⟩⟩
      · refine D_le b.1 (by omega) h7 fun y fy y0 => ?_
        have := f2 y y0 fy q 0 h7 (by omega)
        rw [turnF_pos (r := q) (by omega), show turnF y 0 = 0 from rfl] at this
        omega
      · have := D_le a.1 (p := q) (q := 0) (c := D N 0 q - 99) h7 (by omega) fun x fx x0 => (by
          have := f1 x x0 fx 0 q (by omega) h7
          rw [turnF_pos (r := q) (by omega), show turnF x 0 = 0 from rfl] at this
          omega)
        omega
      · refine D_le b.1 h7 (by omega) fun y fy y0 => ?_
        have := f2 y y0 fy 0 q (by omega) h7
        rw [turnF_pos (r := q) (by omega), show turnF y 0 = 0 from rfl] at this
        omega
      · have := D_le a.1 (p := 0) (q := q) (c := D N q 0 + 99) (by omega) h7 fun x fx x0 => (by
          have := f1 x x0 fx q 0 h7 (by omega)
          rw [turnF_pos (r := q) (by omega), show turnF x 0 = 0 from rfl] at this
          omega)
        omega
theorem clash_turn {T : Town} (hok : T.ok = true) : clashP (words T.turn) = clashP (words T) := by
  funext l
  unfold clashP
  rcases heard_turn hok (fun k => hasB l (k : Int)) with ⟨h1, h2⟩ | ⟨M, N, h1, h2, _⟩
  · rw [h1, h2]
  · rw [h1, h2]; rfl
theorem lv_turn {M N : List Int} {n : Nat} (hn : n ≤ 6) (cM : Clo M) (cN : Clo N) (h : ∀ q, 1 ≤ q → q < 7 → D N 0 q = 99 + D M q 0 ∧ D N q 0 = D M 0 q - 99) {i : Nat} (hi : i < n) : dif N 0 (i + 1) = (99 - (dif M 0 (i + 1)).2, 99 - (dif M 0 (i + 1)).1) := by
  have := h (i + 1) (by omega) (by omega)
  rw [dif_eq cM (by omega) (by omega), dif_eq cN (by omega) (by omega)]
  refine Prod.ext ?_ ?_
  · show -D N (i + 1) 0 = 99 - D M 0 (i + 1); omega
  · show D N 0 (i + 1) = 99 - -D M (i + 1) 0; omega
theorem lv_same {M M' : List Int} {n : Nat} : lv M n = lv M' n ↔ ∀ i, i < n → dif M 0 (i + 1) = dif M' 0 (i + 1) := by
  constructor
  · intro h i hi
    have := congrArg (fun L => sp L i) h
    simpa only [lv_at hi] using this
  · intro h
    exact sp_ext (n := n) (lv_len _ _) (lv_len _ _) fun i hi => by rw [lv_at hi, lv_at hi]; exact h i hi
theorem idleB_turn {T : Town} {M N : List Int} {n : Nat} (hok : T.ok = true) (hn : n ≤ 6) (hk : kn T = some M) (hk' : kn T.turn = some N) (j : Nat) : idleB T.turn n (lv N n) j = idleB T n (lv M n) j := by
  have h0 := heard_turn hok fun _ => true
  rcases h0 with ⟨h1, _⟩ | ⟨M0, N0, h1, h2, cM, cN, hd⟩
  · rw [kn, h1] at hk; cases hk
  · rw [kn, h1] at hk
    rw [kn, h2] at hk'
    cases hk; cases hk'
    unfold idleB
    rcases heard_turn hok fun k => (k : Int) != (j : Int) with ⟨h3, h4⟩ | ⟨M1, N1, h3, h4, cM1, cN1, hd1⟩
    · rw [h3, h4]
    · rw [h3, h4]
      show decide (lv N1 n = lv N n) = decide (lv M1 n = lv M n)
      rw [decide_eq_decide, lv_same, lv_same]
      constructor
      · intro h i hi
        have a := h i hi
        rw [lv_turn hn cM cN hd hi, lv_turn hn cM1 cN1 hd1 hi] at a
        have a1 := congrArg Prod.fst a; have a2 := congrArg Prod.snd a
        simp only at a1 a2
        exact Prod.ext (by omega) (by omega)
      · intro h i hi
        rw [lv_turn hn cM cN hd hi, lv_turn hn cM1 cN1 hd1 hi, h i hi]
theorem idL_turn {T : Town} {M N : List Int} {n : Nat} (hok : T.ok = true) (hn : n ≤ 6) (hk : kn T = some M) (hk' : kn T.turn = some N) (m : Nat) : idL T.turn n (lv N n) m = idL T n (lv M n) m := by
  unfold idL
  congr 1
  refine List.filter_congr fun j _ => idleB_turn hok hn hk hk' j
theorem kn_turn {T : Town} {n : Nat} (hok : T.ok = true) (hn : n ≤ 6) : (kn T = none ∧ kn T.turn = none) ∨ ∃ M N, kn T = some M ∧ kn T.turn = some N ∧ Clo M ∧ Clo N ∧ ∀ i, i < n → D N 0 (i + 1) = 99 + D M (i + 1) 0 ∧ D N (i + 1) 0 = D M 0 (i + 1) - 99 := by
  rcases heard_turn hok fun _ => true with ⟨h1, h2⟩ | ⟨M0, N0, h1, h2, cM, cN, hd⟩
  · exact .inl ⟨h1, h2⟩
  · exact .inr ⟨M0, N0, h1, h2, cM, cN, fun i hi => hd (i + 1) (by omega) (by omega)⟩
end Go.Proofs.Ytmfbfcknnjbabaa
