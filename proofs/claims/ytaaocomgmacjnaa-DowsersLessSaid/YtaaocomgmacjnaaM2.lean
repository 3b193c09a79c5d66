/- Books of dowsers: a score is a sum over the sayings; one of them said narrower. -/
import Derived.Test.YtaaocomgmacjnaaD4

import Derived.Test.YtaaocomgmacjnaaM1

set_option linter.unusedSimpArgs false

set_option linter.unusedVariables false

namespace Go.Proofs.Ytaaocomgmacjnaa

open Go.RowKit

/-- the first n sayings, the first K places -/
def scN (B : Book) : Nat → Nat → Nat → Int
  | 0, _, _ => 0
  | K + 1, n, m => scN B K n m + (match B.F[K]? with
    | none => 0
    | some x => if x = 0 then 0 else gainTo B (K : Int) x n m)
theorem sc_scN (B : Book) (m : Nat) : ∀ K, scTo B K m = scN B K B.S.length m
  | 0 => rfl
  | K + 1 => by
    simp only [scTo, scN, sc_scN B m K]
    cases B.F[K]? <;> rfl
theorem scN_zero (B : Book) (m : Nat) : ∀ K, scN B K 0 m = 0
  | 0 => rfl
  | K + 1 => by
    simp only [scN, scN_zero B m K, gainTo]
    cases B.F[K]? with
    | none => rfl
    | some x => simp
theorem scN_succ {B : Book} {K n m : Nat} (hK : K < B.F.length) : scN B (K + 1) n m = scN B K n m + (if B.F[K] = 0 then 0 else gainTo B (K : Int) B.F[K] n m) := by
  simp [scN, List.getElem?_eq_getElem hK]
/-- what saying s counts for dowser m among the first K places -/
def cts (B : Book) (s : Say) (K m : Nat) : Int := if s.p < (K : Int) ∧ s.d = (m : Int) ∧ B.at s.p ≠ 0 then pts B s (B.at s.p) else 0
theorem scN_step {B : Book} {n m : Nat} (hn : n < B.S.length) (hp : 0 ≤ B.S[n].p) : ∀ K, K ≤ B.F.length → scN B K (n + 1) m = scN B K n m + cts B B.S[n] K m
  | 0, _ => by
    have : ¬ (B.S[n].p < ((0 : Nat) : Int) ∧ B.S[n].d = (m : Int) ∧ B.at B.S[n].p ≠ 0) := fun h => by have := h.1; omega
    simp only [cts, if_neg this]; rfl
  | K + 1, h => by
    have ih := scN_step (m := m) hn hp K (by omega)
    have hg := gain_step (B := B) (pl := (K : Int)) (x := B.F[K]) (m := m) hn
    rw [scN_succ (n := n + 1) (by omega), scN_succ (n := n) (by omega), ih, hg]
    by_cases e : B.S[n].p = (K : Int)
    · have hat : B.at B.S[n].p = B.F[K] := by rw [e]; simp [Book.at, List.getElem?_eq_getElem (show K < B.F.length by omega)]
      have h1 : ¬ (B.S[n].p < (K : Int) ∧ B.S[n].d = (m : Int) ∧ B.at B.S[n].p ≠ 0) := fun h => by have := h.1; omega
      by_cases hd : B.S[n].d = (m : Int)
      · by_cases h0 : B.F[K] = 0
        · have h2 : ¬ (B.S[n].p < ((K + 1 : Nat) : Int) ∧ B.S[n].d = (m : Int) ∧ B.at B.S[n].p ≠ 0) := fun h => h.2.2 (by rw [hat, h0])
          simp only [cts, if_neg h1, if_neg h2, if_pos h0] <;> omega
        · have h2 : B.S[n].p < ((K + 1 : Nat) : Int) ∧ B.S[n].d = (m : Int) ∧ B.at B.S[n].p ≠ 0 := ⟨by omega, hd, by rw [hat]; exact h0⟩
          simp only [cts, if_neg h1, if_pos h2, if_neg h0, if_pos (show B.S[n].p = (K : Int) ∧ B.S[n].d = (m : Int) from ⟨e, hd⟩), hat]; omega
      · have h2 : ¬ (B.S[n].p < ((K + 1 : Nat) : Int) ∧ B.S[n].d = (m : Int) ∧ B.at B.S[n].p ≠ 0) := fun h => hd h.2.1
        simp only [cts, if_neg h1, if_neg h2, if_neg (show ¬ (B.S[n].p = (K : Int) ∧ B.S[n].d = (m : Int)) from fun h => hd h.2)]
        split <;> omega
    · have h3 : (B.S[n].p < ((K + 1 : Nat) : Int)) ↔ (B.S[n].p < (K : Int)) := by omega
      simp only [cts, h3, if_neg (show ¬ (B.S[n].p = (K : Int) ∧ B.S[n].d = (m : Int)) from fun h => e h.1)]
      split <;> split <;> omega
theorem cts_bd {B : Book} (hok : B.ok = true) {n : Nat} (hn : n < B.S.length) (K m : Nat) : -12 ≤ cts B B.S[n] K m ∧ cts B B.S[n] K m ≤ 12 := by
  have := pts_bd hok hn (B.at B.S[n].p)
  unfold cts; split <;> omega
theorem scN_bd {B : Book} (hok : B.ok = true) (K m : Nat) (hK : K ≤ B.F.length) : ∀ n, n ≤ B.S.length → -12 * (n : Int) ≤ scN B K n m ∧ scN B K n m ≤ 12 * (n : Int)
  | 0, _ => by rw [scN_zero]; simp
  | n + 1, h => by
    have ih := scN_bd hok K m hK n (by omega)
    have hb := cts_bd hok (show n < B.S.length by omega) K m
    rw [scN_step (by omega) (B.ok_say hok (by omega)).2.1.1 K hK]
    omega
theorem sc_small {B : Book} (hok : B.ok = true) (hS : B.S.length ≤ 40) (m : Nat) : -480 ≤ scTo B B.F.length m ∧ scTo B B.F.length m ≤ 480 := by
  have := scN_bd hok B.F.length m (Nat.le_refl _) B.S.length (Nat.le_refl _)
  rw [sc_scN]; omega

/-- saying j said otherwise -/
def Book.resay (B : Book) (j : Nat) (s : Say) : Book := { B with S := B.S.set j s }
theorem scN_resay {B : Book} {j : Nat} {s : Say} (h1 : B.ok = true) (h2 : (B.resay j s).ok = true) (hj : j < B.S.length) (K m : Nat) (hK : K ≤ B.F.length) :
    ∀ n, n ≤ B.S.length → scN (B.resay j s) K n m = scN B K n m + (if j < n then cts (B.resay j s) s K m - cts B B.S[j] K m else 0)
  | 0, _ => by rw [scN_zero, scN_zero]; simp
  | n + 1, h => by
    have ih := scN_resay h1 h2 hj K m hK n (by omega)
    have hl : (B.resay j s).S.length = B.S.length := by simp [Book.resay]
    have hn' : n < (B.resay j s).S.length := by omega
    rw [scN_step hn' ((B.resay j s).ok_say h2 hn').2.1.1 K hK, scN_step (show n < B.S.length by omega) (B.ok_say h1 (by omega)).2.1.1 K hK, ih]
    by_cases e : n = j
    · subst e
      have hs : (B.resay n s).S[n] = s := by simp [Book.resay]
      rw [hs, if_neg (by omega), if_pos (by omega)]; omega
    · have hs : (B.resay j s).S[n] = B.S[n] := by simp [Book.resay, List.getElem_set, Ne.symm e]
      have hc : cts (B.resay j s) B.S[n] K m = cts B B.S[n] K m := rfl
      rw [hs, hc]
      by_cases g : j < n
      · rw [if_pos g, if_pos (by omega)]; omega
      · rw [if_neg g, if_neg (by omega)]; omega
/-- narrower by u and v, and as right as it was: u + v points more -/
theorem narrow_pts {B : Book} {x : Say} {u v f : Int} (hu : 0 ≤ u) (hv : 0 ≤ v) (h : within f x.l x.h = within f (x.l + u) (x.h - v)) :
    pts B ⟨x.d, x.p, x.l + u, x.h - v⟩ f = pts B x f + u + v := by
  unfold pts width
  rw [← h]
  split <;> simp <;> omega
theorem narrow_score {B : Book} {j : Nat} {u v : Int} (h1 : B.ok = true) (hj : j < B.S.length) (h2 : (B.resay j ⟨B.S[j].d, B.S[j].p, B.S[j].l + u, B.S[j].h - v⟩).ok = true) (hu : 0 ≤ u) (hv : 0 ≤ v)
    (h0 : B.at B.S[j].p ≠ 0) (h : within (B.at B.S[j].p) B.S[j].l B.S[j].h = within (B.at B.S[j].p) (B.S[j].l + u) (B.S[j].h - v)) :
    scTo (B.resay j ⟨B.S[j].d, B.S[j].p, B.S[j].l + u, B.S[j].h - v⟩) B.F.length B.S[j].d.toNat = scTo B B.F.length B.S[j].d.toNat + u + v := by
  obtain ⟨⟨d0, d1⟩, ⟨p0, p1⟩, _⟩ := B.ok_say h1 hj
  rw [sc_scN, sc_scN, show (B.resay j ⟨B.S[j].d, B.S[j].p, B.S[j].l + u, B.S[j].h - v⟩).S.length = B.S.length from by simp [Book.resay]]
  rw [scN_resay h1 h2 hj _ _ (Nat.le_refl _) _ (Nat.le_refl _), if_pos hj]
  have hd : B.S[j].d = ((B.S[j].d.toNat : Nat) : Int) := by omega
  have c1 : cts B B.S[j] B.F.length B.S[j].d.toNat = pts B B.S[j] (B.at B.S[j].p) := by
    unfold cts; rw [if_pos ⟨p1, hd, h0⟩]
  have c2 : cts (B.resay j ⟨B.S[j].d, B.S[j].p, B.S[j].l + u, B.S[j].h - v⟩) ⟨B.S[j].d, B.S[j].p, B.S[j].l + u, B.S[j].h - v⟩ B.F.length B.S[j].d.toNat = pts B ⟨B.S[j].d, B.S[j].p, B.S[j].l + u, B.S[j].h - v⟩ (B.at B.S[j].p) := by
    unfold cts; rw [if_pos ⟨p1, hd, h0⟩]; rfl
  rw [c1, c2, narrow_pts hu hv h]; omega
end Go.Proofs.Ytaaocomgmacjnaa
