/- Boxes of mouths: what From and Need answer (mathematics). -/
import Derived.Test.YthbicbmlbblflaaC21

set_option linter.unusedSimpArgs false

set_option linter.unusedVariables false

namespace Go.Proofs.Ythbicbmlbblflaa

open Go.RowKit Go.Shelf
attribute [local go_sem] Oper.semAt_some

theorem fsN_succ (P : Nat → Bool) (n : Nat) : fsN P (n + 1) = match fsN P n with | some x => some x | none => if P n then some n else none := rfl
theorem fsN_all {P : Nat → Bool} : ∀ {n : Nat}, fsN P n = none → ∀ i, i < n → P i = false
  | 0, _, i, hi => absurd hi (Nat.not_lt_zero _)
  | n + 1, h, i, hi => by
    rw [fsN_succ] at h
    cases h2 : fsN P n with
    | some x => rw [h2] at h; cases h
    | none =>
      rw [h2] at h
      cases hp : P n with
      | true => rw [hp] at h; simp at h
      | false =>
        rcases Nat.lt_succ_iff_lt_or_eq.1 hi with h1 | rfl
        · exact fsN_all h2 i h1
        · exact hp
theorem fsN_spec {P : Nat → Bool} : ∀ {n k : Nat}, fsN P n = some k → k < n ∧ P k = true ∧ ∀ i, i < k → P i = false
  | 0, k, h => by cases h
  | n + 1, k, h => by
    rw [fsN_succ] at h
    cases h2 : fsN P n with
    | some x =>
      rw [h2] at h
      cases h
      obtain ⟨a, b, c⟩ := fsN_spec h2
      exact ⟨by omega, b, c⟩
    | none =>
      rw [h2] at h
      cases hp : P n with
      | false => rw [hp] at h; simp at h
      | true =>
        rw [hp] at h
        simp at h
        subst h
        exact ⟨Nat.lt_succ_self _, hp, fsN_all h2⟩
/-- the flow of From: the gauge before is the quarter's, and it has just so many -/
theorem from_spec {D : Bx} {A G n : Nat} (hok : D.ok = true) (hG : 0 < G) (h : fsN (hasB D A G) 41 = some n) : ∃ m, n = m + 1 ∧ m < 40 ∧ nx D (gv D m) = some A ∧ gv D n A = (G : Int) ∧ decide ((G : Int) ≤ gv D 40 A) = true := by
  obtain ⟨h1, h2, h3⟩ := fsN_spec h
  have h2' : (G : Int) ≤ gv D n A := by unfold hasB at h2; simpa using h2
  cases n with
  | zero =>
    have : gv D 0 A = 0 := rfl
    omega
  | succ m =>
    have h4 := h3 m (by omega)
    have h4' : ¬ (G : Int) ≤ gv D m A := by unfold hasB at h4; simpa using h4
    have h5 := gv_monoQ (D := D) (f := m + 1) (e := 40) (by omega) A
    refine ⟨m, rfl, by omega, ?_, ?_, by simp; omega⟩
    · cases hx : nx D (gv D m) with
      | none => rw [(nx_none_next hx).1] at h2'; exact absurd h2' h4'
      | some b =>
        rw [(nx_some_next hx).1] at h2'
        by_cases e : A = b
        · rw [e]
        · rw [up_ne _ e] at h2'; exact absurd h2' h4'
    · cases hx : nx D (gv D m) with
      | none => rw [(nx_none_next hx).1] at h2'; exact absurd h2' h4'
      | some b =>
        rw [(nx_some_next hx).1] at h2' ⊢
        by_cases e : A = b
        · subst e; rw [up_same] at *; omega
        · rw [up_ne _ e] at h2'; exact absurd h2' h4'
theorem from_none {D : Bx} {A G : Nat} (h : fsN (hasB D A G) 41 = none) : decide ((G : Int) ≤ gv D 40 A) = false := fsN_all h 40 (by omega)
/-- from which share on a quarter has so many, 21 where there is none -/
theorem need_spec {D : Bx} {A F G : Nat} (hok : D.ok = true) (hG : 0 < G) : ∃ S, 1 ≤ S ∧ S ≤ 21 ∧ (∀ u, u + 1 = S → needB D A F G u = false) ∧ (S ≤ 20 → needB D A F G S = true) ∧
    ((fsN (needB D A F G) 21 = none ∧ S = 21) ∨ fsN (needB D A F G) 21 = some S) := by
  cases h : fsN (needB D A F G) 21 with
  | none => exact ⟨21, by omega, by omega, fun u hu => fsN_all h u (by omega), fun h => absurd h (by omega), .inl ⟨rfl, rfl⟩⟩
  | some S =>
    obtain ⟨h1, h2, h3⟩ := fsN_spec h
    refine ⟨S, ?_, by omega, fun u hu => h3 u (by omega), fun _ => h2, .inr rfl⟩
    cases S with
    | succ S => omega
    | zero =>
      exfalso
      have hz : gv (Bx.setSh D A ((0 : Nat) : Int)) F A = 0 := (gv_bd (Bx.setSh_ok hok A (v := ((0 : Nat) : Int)) ⟨by simp, by simp⟩) F A).2.2.2 (by show (if A = A then _ else _) = _; rw [if_pos rfl]; rfl)
      have : (G : Int) ≤ gv (Bx.setSh D A ((0 : Nat) : Int)) F A := by unfold needB at h2; simpa using h2
      omega
theorem neq_span (a b : Int) (w : World) : (binOp .neq 67 (.agg #[.int .i64 a, .int .i64 b]) (.agg #[.int .i64 a, .int .i64 b])).run Try.prog w = .ok (.bool false) w := by
  go_simp
end Go.Proofs.Ythbicbmlbblflaa
