/- Books of dowsers: the points of a saying over all depths. -/
import Derived.Test.YtaaocomgmacjnaaC2

set_option linter.unusedSimpArgs false

set_option linter.unusedVariables false

namespace Go.Proofs.Ytaaocomgmacjnaa

open Go.RowKit

theorem within_tf {n lo hi : Int} : within n lo hi = decide (lo ≤ n ∧ n ≤ hi) := by
  rw [Bool.eq_iff_iff, within_iff, decide_eq_true_iff]
/-- of the depths 1 .. k, how many are in the saying -/
def cnt (x : Say) (k : Int) : Int := if k < x.l then 0 else if k ≤ x.h then k - x.l + 1 else width x
def ptn (B : Book) (x : Say) (i : Int) : Int := if within i x.l x.h then B.D - width x else -width x
def sumP (B : Book) (x : Say) (k : Int) : Int := B.D * cnt x k - k * width x
theorem cnt_zero {x : Say} (h : 1 ≤ x.l) : cnt x 0 = 0 := by unfold cnt; rw [if_pos (by omega)]
theorem cnt_step {x : Say} {i : Int} (h1 : 1 ≤ x.l) (h2 : x.l ≤ x.h) : cnt x i = cnt x (i - 1) + (if within i x.l x.h then 1 else 0) := by
  unfold cnt width
  rw [within_tf]
  simp only [decide_eq_true_eq]
  repeat' split
  all_goals omega
theorem cnt_le {x : Say} {k : Int} (h1 : 1 ≤ x.l) (h2 : x.l ≤ x.h) (h0 : 0 ≤ k) : 0 ≤ cnt x k ∧ cnt x k ≤ k := by
  unfold cnt width
  repeat' split
  all_goals omega
theorem cnt_all {x : Say} {D : Int} (h1 : 1 ≤ x.l) (h2 : x.l ≤ x.h) (h3 : x.h ≤ D) : cnt x D = width x := by
  unfold cnt width
  repeat' split
  all_goals omega
theorem sumP_zero {B : Book} {x : Say} (h : 1 ≤ x.l) : sumP B x 0 = 0 := by unfold sumP; rw [cnt_zero h]; simp
theorem sumP_step {B : Book} {x : Say} {i : Int} (h1 : 1 ≤ x.l) (h2 : x.l ≤ x.h) : sumP B x i = sumP B x (i - 1) + ptn B x i := by
  unfold sumP ptn
  rw [cnt_step h1 h2, Int.mul_add, Int.sub_mul]
  split <;> simp <;> omega
theorem sumP_all {B : Book} {x : Say} (h1 : 1 ≤ x.l) (h2 : x.l ≤ x.h) (h3 : x.h ≤ B.D) : sumP B x B.D = 0 := by
  unfold sumP; rw [cnt_all h1 h2 h3]; omega

theorem dug_ok {B : Book} {k : Nat} {x : Int} (h : B.ok = true) (h0 : 0 ≤ x) (h1 : x ≤ B.D) : (B.dug k x).ok = true := by
  have e : (List.range (B.dug k x).S.length).all (sayAt (B.dug k x)) = (List.range B.S.length).all (sayAt B) := by
    show (List.range B.S.length).all (sayAt (B.dug k x)) = _
    congr 1
    funext j
    simp [sayAt, Book.dug]
  simp only [Book.ok, Bool.and_eq_true, decide_eq_true_eq] at h ⊢
  obtain ⟨g0, g1, g2, g3, g4, g5⟩ := h
  refine ⟨g0, by simpa [Book.dug] using g1, g2, g3, ?_, e.trans g5⟩
  rw [List.all_eq_true] at g4 ⊢
  intro y hy
  rcases List.mem_or_eq_of_mem_set (show y ∈ B.F.set k x from hy) with m | rfl
  · exact g4 y m
  · exact within_iff.2 ⟨h0, h1⟩
theorem dug_at {B : Book} {k : Nat} {x : Int} (hk : k < B.F.length) : (B.dug k x).at (k : Int) = x := by
  simp [Book.at, Book.dug, hk]
/-- what Points and Hit say of a book dug at the place of the saying -/
theorem dug_says {B : Book} {j k : Nat} {x : Int} (h : B.ok = true) (hj : j < B.S.length) (hk : B.S[j].p = (k : Int)) (h0 : 1 ≤ x) (h1 : x ≤ B.D) :
    ptsV (B.dug k x) j = ptn B B.S[j] x ∧ ptsErr (B.dug k x) j = 0 ∧ hitV (B.dug k x) j = (if within x B.S[j].l B.S[j].h then 1 else 2) ∧ askErr (B.dug k x).ok ((B.dug k x).isSay j) = 0 := by
  have hok := dug_ok (k := k) h (show 0 ≤ x by omega) h1
  have his : (B.dug k x).isSay j = true := within_iff.2 ⟨by omega, by show (j : Int) ≤ (B.S.length : Int) - 1; omega⟩
  have hsay : (B.dug k x).say j = B.S[j] := B.say_eq hj
  have hkl : k < B.F.length := by have := (B.ok_say h hj).2.1; omega
  have hat : (B.dug k x).at ((B.dug k x).say j).p = x := by rw [hsay, hk]; exact dug_at hkl
  have hop : ptsOpen (B.dug k x) j = false := by unfold ptsOpen; rw [hat]; simp; omega
  refine ⟨?_, ?_, ?_, ?_⟩
  · unfold ptsV; rw [hok, his, hop, hat, hsay]; rfl
  · unfold ptsErr; rw [hok, his, hop]; rfl
  · unfold hitV hit; rw [hok, his, hat, hsay]; simp; omega
  · rw [hok, his]; rfl
end Go.Proofs.Ytaaocomgmacjnaa
