/- Towns with worlds: contracts of functions that give a list and an error, as the laws want them. -/
import Derived.Test.YtdjkbpenppdnlaaDoorE11

import Derived.Test.YtdjkbpenppdnlaaDoorC3

import Derived.Test.YtdjkbpenppdnlaaDoorC4

set_option linter.unusedSimpArgs false

set_option linter.unusedVariables false

namespace Go.Proofs.YtdjkbpenppdnlaaDoor

open Go.RowKit

theorem huge_is {T : Tn} {A : Adr} {b : Bool} (hb : (!T.sizedB) = b) (w : World) (hnw : T.nw ≤ maxLen) (hnf : T.nf ≤ maxLen) (hrl : ∀ k, k < T.nw → T.rl k ≤ maxLen ∧ ∀ i, i < T.rl k → T.cl k i ≤ maxLen) (hi : TnIn w w.heap.size T A) :
    Calls Tryd.prog 15 #[.agg #[.int .i64 T.wn, .slice A.wp T.nw A.wc, .slice A.fp T.nf A.fc]] w fun e w' => e = .returned (.bool b) ∧ Below w.heap.size w w' := by subst hb; exact huge_any T A w hnw hnf hrl hi
theorem check_is {T : Tn} {A : Adr} {b : Int} (hb : chkE T.ok = b) (w : World) (hs : T.sized) (hi : TnIn w w.heap.size T A) :
    Calls Tryd.prog 18 #[.agg #[.int .i64 T.wn, .slice A.wp T.nw A.wc, .slice A.fp T.nf A.fc]] w fun e w' => e = .returned (.int .i64 b) ∧ Below w.heap.size w w' := by subst hb; exact check_any T A w hs hi
/-- a call that gives a list of numbers and an error -/
def ListC (g : FuncId) (args : Array Value) (n : Nat) (f : Nat → Int) (er : Int) (W : World) : Prop :=
  Calls Tryd.prog g args W fun e w' => ∃ p c, e = .returned (.tuple #[.slice p n c, .int .i64 er]) ∧ At w' w'.heap.size p n 1 (fun k => .int .i64 (f k)) ∧ Below W.heap.size W w'
def nats (l : List Nat) (k : Nat) : Int := ((l.getD k 0 : Nat) : Int)
theorem cellsN_row (l : List Nat) : cellsN l = rowG (fun k => .int .i64 (nats l k)) l.length := by
  refine List.ext_getElem? fun i => ?_
  by_cases h : i < l.length
  · rw [rowG_at h]
    simp [cellsN, nats, List.getD_eq_getElem?_getD, h]
  · rw [List.getElem?_eq_none (by rw [cellsN_len]; omega), List.getElem?_eq_none (by rw [rowG_len]; omega)]
theorem own_nats {w : World} {base : Nat} {v : Value} {l : List Nat} (h : w.ownsRow base 3 1 v l.length (cellsN l)) : ∃ p c, v = .slice p l.length c ∧ At w w.heap.size p l.length 1 (fun k => .int .i64 (nats l k)) := by
  rw [cellsN_row] at h; exact row_own h
theorem listC_own {g : FuncId} {args : Array Value} {W : World} {l : List Nat} {er : Int} (h : Calls Tryd.prog g args W fun e w' => ∃ v, e = .returned (.tuple #[v, .int .i64 er]) ∧ w'.ownsRow W.heap.size 3 1 v l.length (cellsN l) ∧ Below W.heap.size W w') : ListC g args l.length (nats l) er W :=
  h.mono fun e w' ⟨v, he, ho, hb⟩ => by
    obtain ⟨p, c, rfl, ha⟩ := own_nats ho
    exact ⟨p, c, he, ha, hb⟩
theorem listC_no {g : FuncId} {args : Array Value} {W : World} {f : Nat → Int} {er : Int} (h : Calls Tryd.prog g args W fun e w' => e = .returned (.tuple #[.slice none 0 0, .int .i64 er]) ∧ Below W.heap.size W w') : ListC g args 0 f er W :=
  h.mono fun e w' ⟨he, hb⟩ => ⟨none, 0, he, fun h => absurd h (Nat.lt_irrefl _), hb⟩
/-- what Left gives: its list and its error -/
def Tn.leftL (T : Tn) : List Nat := if T.ok then T.LL else []
theorem leftL_len (T : Tn) : T.leftL.length ≤ maxLen := by
  unfold Tn.leftL maxLen
  by_cases h : T.ok = true
  · rw [if_pos h]; have := pick_len (b := T.lft) (n := T.nw); have := (T.ok_parts h).2.1; unfold Tn.LL; omega
  · rw [if_neg h]; simp
theorem leftP_c (T : Tn) (A : Adr) (w : World) (hs : T.sized) (hi : TnIn w w.heap.size T A) (hg : GlobsOk laid w) : ListC 20 #[.agg #[.int .i64 T.wn, .slice A.wp T.nw A.wc, .slice A.fp T.nf A.fc]] T.leftL.length (nats T.leftL) (chkE T.ok) w := by
  unfold Tn.leftL
  cases h : T.ok with
  | true => exact listC_own (leftP_ok T A w hs hi h hg)
  | false => exact listC_no (leftP_no T A w hs hi h)
theorem leftR_c (T : Tn) (A : Adr) (w : World) (hs : T.sized) (hi : TnIn w w.heap.size T A) : ListC 21 #[.agg #[.int .i64 T.wn, .slice A.wp T.nw A.wc, .slice A.fp T.nf A.fc]] T.leftL.length (nats T.leftL) (chkE T.ok) w := by
  unfold Tn.leftL
  cases h : T.ok with
  | true => exact listC_own (leftR_ok T A w hs hi h)
  | false => exact listC_no (leftR_no T A w hs hi h)
/-- what Out gives -/
def Tn.outE (T : Tn) (k : Int) : Int := askE T.ok (within k 0 ((T.nw : Int) - 1))
def Tn.outL (T : Tn) (k : Int) : List Nat := if T.outE k = 0 then T.outs k.toNat else []
def Tn.outR (T : Tn) (k : Int) : Int := if T.outE k = 0 then (if T.outs k.toNat = [] then 3 else 0) else T.outE k
theorem outE_ok {T : Tn} {k : Int} (h : T.outE k = 0) : T.ok = true ∧ ∃ q : Nat, k = (q : Int) ∧ q < T.nw := by
  unfold Tn.outE askE at h
  cases h1 : T.ok with
  | false => rw [h1] at h; simp at h
  | true =>
    rw [h1] at h
    cases h2 : within k 0 ((T.nw : Int) - 1) with
    | false => rw [h2] at h; simp at h
    | true =>
      have := within_iff.1 h2
      exact ⟨rfl, k.toNat, by omega, by omega⟩
theorem outL_len (T : Tn) (k : Int) : (T.outL k).length ≤ maxLen := by
  unfold Tn.outL maxLen
  by_cases h : T.outE k = 0
  · rw [if_pos h]
    have := pick_len (b := fun f => !T.agr k.toNat f) (n := T.nf)
    have := (T.ok_parts (outE_ok h).1).2.2.1
    unfold Tn.outs; omega
  · rw [if_neg h]; simp
theorem outP_c (T : Tn) (A : Adr) (k : Int) (w : World) (hs : T.sized) (hi : TnIn w w.heap.size T A) : ListC 22 #[.agg #[.int .i64 T.wn, .slice A.wp T.nw A.wc, .slice A.fp T.nf A.fc], .int .i64 k] (T.outL k).length (nats (T.outL k)) (T.outR k) w := by
  unfold Tn.outL Tn.outR
  by_cases h : T.outE k = 0
  · simp only [if_pos h]
    obtain ⟨hok, q, rfl, hq⟩ := outE_ok h
    exact listC_own (outP_ok T A q w hs hok hi hq)
  · simp only [if_neg h]
    exact listC_no (outP_no T A k _ w hs hi rfl h)
theorem outR_c (T : Tn) (A : Adr) (k : Int) (w : World) (hs : T.sized) (hi : TnIn w w.heap.size T A) : ListC 23 #[.agg #[.int .i64 T.wn, .slice A.wp T.nw A.wc, .slice A.fp T.nf A.fc], .int .i64 k] (T.outL k).length (nats (T.outL k)) (T.outR k) w := by
  unfold Tn.outL Tn.outR
  by_cases h : T.outE k = 0
  · simp only [if_pos h]
    obtain ⟨hok, q, rfl, hq⟩ := outE_ok h
    exact listC_own (outR_ok T A q w hs hok hi hq)
  · simp only [if_neg h]
    exact listC_no (outR_no T A k _ w hs hi rfl h)
end Go.Proofs.YtdjkbpenppdnlaaDoor
