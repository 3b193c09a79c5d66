/- Shafts: stops, rings, the first foot that falls, plans and what they cost: the maths. -/
import Derived.Test.YtaaocomgmacjnabDoorA9

set_option linter.unusedSimpArgs false

set_option linter.unusedVariables false

namespace Go.Proofs.YtaaocomgmacjnabDoor

open Go.RowKit

/-- a list of numbers lies in w at p -/
def ListIn (w : World) (K : Nat) (l : List Int) (p : Option Addr) : Prop := 0 < l.length → ∃ b o, p = some ⟨b, o, none⟩ ∧ IntsAt w K b o l
theorem ListIn.below {w w' : World} {K : Nat} {l : List Int} {p : Option Addr} (h : ListIn w K l p) (hb : Below K w w') : ListIn w' K l p := fun hs => let ⟨b, o, e, a⟩ := h hs; ⟨b, o, e, a.below hb⟩
theorem ListIn.bel {w w' : World} {l : List Int} {p : Option Addr} (h : ListIn w w.heap.size l p) (hb : Below w.heap.size w w') : ListIn w' w'.heap.size l p := fun hs => let ⟨b, o, e, a⟩ := h hs; ⟨b, o, e, (a.below hb).mono hb.size⟩

/-- a list rises from above a up to n -/
def asc (a n : Int) : List Int → Bool
  | [] => true
  | x :: t => decide (a < x) && (decide (x ≤ n) && asc x n t)
theorem asc_next {a n : Int} {l : List Int} {k : Nat} (hk : k < l.length) : asc a n (l.drop k) = (decide (a < l[k]) && (decide (l[k] ≤ n) && asc l[k] n (l.drop (k + 1)))) := by
  rw [List.drop_eq_getElem_cons hk]; rfl
theorem asc_done {a n : Int} {l : List Int} {k : Nat} (hk : l.length ≤ k) : asc a n (l.drop k) = true := by rw [List.drop_of_length_le hk]; rfl
theorem asc_step {a n : Int} {l : List Int} {k : Nat} {b : Bool} (h : b = asc a n (l.drop k)) (hk : k < l.length) (h1 : a < l[k]) (h2 : l[k] ≤ n) : b = asc l[k] n (l.drop (k + 1)) := by
  rw [h, asc_next hk]; simp [h1, h2]
theorem asc_lo {a n : Int} {l : List Int} {k : Nat} {b : Bool} (h : b = asc a n (l.drop k)) (hk : k < l.length) (h1 : l[k] ≤ a) : b = false := by
  rw [h, asc_next hk]; simp; intro; omega
theorem asc_hi {a n : Int} {l : List Int} {k : Nat} {b : Bool} (h : b = asc a n (l.drop k)) (hk : k < l.length) (h1 : n < l[k]) : b = false := by
  rw [h, asc_next hk]; simp; intro _ h2; omega
theorem asc_mem : ∀ {l : List Int} {a n x : Int}, asc a n l = true → x ∈ l → a < x ∧ x ≤ n
  | [], _, _, _, _, h => by cases h
  | y :: t, a, n, x, h, hx => by
    simp only [asc, Bool.and_eq_true, decide_eq_true_eq] at h
    rcases List.mem_cons.1 hx with rfl | hx
    · exact ⟨h.1, h.2.1⟩
    · have := asc_mem h.2.2 hx; exact ⟨by omega, this.2⟩
theorem asc_at {l : List Int} {a n : Int} (h : asc a n l = true) {k : Nat} (hk : k < l.length) : a < l[k] ∧ l[k] ≤ n := asc_mem h (List.getElem_mem hk)
theorem asc_from {a a' n : Int} {x : Int} {t : List Int} (h : asc a n (x :: t) = true) (h' : a' < x) : asc a' n (x :: t) = true := by
  simp only [asc, Bool.and_eq_true, decide_eq_true_eq] at h ⊢
  exact ⟨h', h.2⟩
def Shaft.stops (S : Shaft) (l : List Int) : Bool := asc 0 (S.F.length : Int) l

/-- the ring above which all is lined when foot f is dug -/
def ringAt (l : List Int) : Nat → Nat
  | 0 => 0
  | f + 1 => if ((f + 1 : Nat) : Int) ∈ l then f + 1 else ringAt l f
theorem ringAt_le (l : List Int) : ∀ f, ringAt l f ≤ f
  | 0 => Nat.le_refl _
  | f + 1 => by
    unfold ringAt; split
    · exact Nat.le_refl _
    · exact Nat.le_succ_of_le (ringAt_le l f)
def Shaft.standsAt (S : Shaft) (a b : Nat) (j : Nat) : Bool := decide ((b : Int) - (a : Int) ≤ (S.rock ((a + j : Nat) : Int)).s)
def Shaft.stands (S : Shaft) (a b : Nat) : Bool := (List.range (b - a)).all (S.standsAt a b)
theorem allTo_range {f : Nat → Bool} {n k : Nat} (h : AllTo f (List.range n) k) (hk : k < n) (e : f k = true) : AllTo f (List.range n) (k + 1) := allTo_succ h (by simpa using hk) (by simpa using e)
theorem range_all {f : Nat → Bool} {n k : Nat} (h : AllTo f (List.range n) k) (hk : n ≤ k) : (List.range n).all f = true := allTo_all h (by simpa using hk)
theorem range_bad {f : Nat → Bool} {n k : Nat} (hk : k < n) (e : f k = false) : (List.range n).all f = false := allTo_bad (k := k) (by simpa using hk) (by simpa using e)
def Shaft.fine (S : Shaft) (l : List Int) (f : Nat) : Bool := S.stands (ringAt l f) (f + 1)
/-- the first foot with which it can fall; -1: none -/
def Shaft.fall (S : Shaft) (l : List Int) : Int := ((((List.range S.F.length).find? fun f => !S.fine l f).map fun f : Nat => (f : Int))).getD (-1)
theorem Shaft.fall_none {S : Shaft} {l : List Int} {k : Nat} (h : AllTo (S.fine l) (List.range S.F.length) k) (hk : S.F.length ≤ k) : S.fall l = -1 := by
  have := range_all h hk
  have h2 : (List.range S.F.length).find? (fun f => !S.fine l f) = none := by
    rw [List.find?_eq_none]; intro x hx; have := List.all_eq_true.1 this x hx; simp [this]
  simp [Shaft.fall, h2]
theorem Shaft.fall_at {S : Shaft} {l : List Int} {k : Nat} (h : AllTo (S.fine l) (List.range S.F.length) k) (hk : k < S.F.length) (e : S.fine l k = false) : S.fall l = (k : Int) := by
  have h2 : (List.range S.F.length).find? (fun f => !S.fine l f) = some k := by
    rw [List.find?_range_eq_some]
    refine ⟨by simp [e], by simpa using hk, fun j hj => ?_⟩
    have := List.all_eq_true.1 h j (by rw [List.take_range]; simp; omega)
    simp [this]
  simp [Shaft.fall, h2]
/-- what is left of the stops, and the ring, ahead of foot k -/
structure Left (l m : List Int) (n : Int) (k r : Nat) : Prop where
  up : asc ((k : Int) - 1) n m = true
  same : ∀ x : Int, (k : Int) ≤ x → (x ∈ l ↔ x ∈ m)
  ring : r = ringAt l (k - 1)
theorem Left.start {l : List Int} {n : Int} (h : asc 0 n l = true) : Left l l n 0 0 := ⟨by
  cases l with
  | nil => rfl
  | cons x t => exact asc_from h (by have := asc_mem h List.mem_cons_self; omega), fun _ _ => Iff.rfl, rfl⟩
theorem Left.hit {l m : List Int} {n : Int} {k r : Nat} (h : Left l m n k r) (hm : 0 < m.length) (e : m[0] = (k : Int)) : Left l (m.drop 1) n (k + 1) k ∧ ringAt l k = k := by
  cases m with
  | nil => simp at hm
  | cons x t =>
    have e : x = (k : Int) := e
    subst e
    have hu := h.up
    simp only [asc, Bool.and_eq_true, decide_eq_true_eq] at hu
    have hr : ringAt l k = k := by
      cases k with
      | zero => rfl
      | succ k => unfold ringAt; rw [if_pos ((h.same _ (Int.le_refl _)).2 List.mem_cons_self)]
    refine ⟨⟨by simpa using hu.2.2, fun y hy => ?_, hr.symm⟩, hr⟩
    rw [h.same y (by omega)]
    simp only [List.mem_cons, List.drop_succ_cons, List.drop_zero]
    exact ⟨fun hh => hh.resolve_left (by omega), Or.inr⟩
theorem Left.miss {l m : List Int} {n : Int} {k r : Nat} (h : Left l m n k r) (e : ∀ hm : 0 < m.length, m[0] ≠ (k : Int)) : Left l m n (k + 1) r ∧ ringAt l k = r := by
  have hno : (k : Int) ∉ m ∧ asc (k : Int) n m = true := by
    cases m with
    | nil => exact ⟨by simp, rfl⟩
    | cons x t =>
      have hx : x ≠ (k : Int) := e (by simp)
      have hu := h.up
      simp only [asc, Bool.and_eq_true, decide_eq_true_eq] at hu
      refine ⟨fun hh => ?_, asc_from h.up (by omega)⟩
      rcases List.mem_cons.1 hh with h1 | h1
      · exact hx h1.symm
      · have := asc_mem hu.2.2 h1; omega
  have hr : ringAt l k = r := by
    cases k with
    | zero => exact h.ring.symm
    | succ k =>
      unfold ringAt
      rw [if_neg (fun hh => hno.1 ((h.same _ (Int.le_refl _)).1 hh))]
      exact h.ring.symm
  refine ⟨⟨by simpa using hno.2, fun y hy => h.same y (by omega), hr.symm⟩, hr⟩

def Shaft.rests (S : Shaft) (d : Int) : Bool := (S.rock (d - 1)).e != -1
def Shaft.ringV (S : Shaft) (d : Int) : Int := (S.rock (d - 1)).e + d * S.H
def ringP (S : Shaft) (d : Int) : Int := if S.rests d then S.ringV d else 0
def bottomV (l : List Int) : Int := (l[l.length - 1]?).getD 0
def Shaft.plan (S : Shaft) (l : List Int) : Bool := S.stops l && (bottomV l == (S.F.length : Int) && (l.all S.rests && S.fall l == -1))
theorem bottom_nil {l : List Int} (h : l.length = 0) : (0 : Int) = bottomV l := by cases l with | nil => rfl | cons => simp at h
theorem bottom_at {l : List Int} (h : 0 < l.length) : l[l.length - 1] = bottomV l := by simp [bottomV, List.getElem?_eq_getElem (show l.length - 1 < l.length by omega)]

/-- sums over the first k -/
def feetP (S : Shaft) : Nat → Int
  | 0 => 0
  | k + 1 => feetP S k + S.price k
def feetH (S : Shaft) : Nat → Int
  | 0 => 0
  | k + 1 => feetH S k + (S.rock k).h
def ringsP (S : Shaft) (l : List Int) : Nat → Int
  | 0 => 0
  | k + 1 => ringsP S l k + S.ringV ((l[k]?).getD 0)
theorem price_bd {S : Shaft} (hok : S.ok = true) {k : Nat} (hk : k < S.F.length) : 0 ≤ S.price k ∧ S.price k ≤ 207 := by
  obtain ⟨_, ⟨a, b⟩, _⟩ := S.rock_bd hok hk
  obtain ⟨_, h12, _, _, ⟨d0, d1⟩, _⟩ := S.ok_parts hok
  obtain ⟨m0, m1⟩ := mul_bd (k := k) (n := 12) (by omega) d0 d1
  unfold Shaft.price; omega
theorem ring_bd {S : Shaft} (hok : S.ok = true) {d : Int} (h0 : 0 < d) (h1 : d ≤ (S.F.length : Int)) : (∃ k : Nat, d = ((k + 1 : Nat) : Int) ∧ d - 1 = (k : Int) ∧ k < S.F.length) ∧ -1 ≤ S.ringV d ∧ S.ringV d ≤ 207 ∧ 0 ≤ d * S.H ∧ d * S.H ≤ 108 := by
  obtain ⟨k, rfl⟩ : ∃ k : Nat, d = ((k + 1 : Nat) : Int) := ⟨(d - 1).toNat, by omega⟩
  have hk : k < S.F.length := by omega
  have e1 : ((k + 1 : Nat) : Int) - 1 = (k : Int) := by omega
  obtain ⟨_, _, _, a, b⟩ := S.rock_bd hok hk
  obtain ⟨_, h12, _, _, _, ⟨d0, d1⟩, _⟩ := S.ok_parts hok
  obtain ⟨m0, m1⟩ := mul_bd (k := k + 1) (n := 12) (by omega) d0 d1
  refine ⟨⟨k, rfl, e1, hk⟩, ?_⟩
  unfold Shaft.ringV; rw [e1]; omega
theorem feetP_bd {S : Shaft} (hok : S.ok = true) : ∀ {k : Nat}, k ≤ S.F.length → 0 ≤ feetP S k ∧ feetP S k ≤ 207 * k
  | 0, _ => by simp [feetP]
  | k + 1, h => by
    have := feetP_bd hok (k := k) (by omega); have := price_bd hok (k := k) (by omega)
    unfold feetP; omega
theorem feetH_bd {S : Shaft} (hok : S.ok = true) : ∀ {k : Nat}, k ≤ S.F.length → 0 ≤ feetH S k ∧ feetH S k ≤ 9 * k
  | 0, _ => by simp [feetH]
  | k + 1, h => by
    have := feetH_bd hok (k := k) (by omega); obtain ⟨⟨a, b⟩, _⟩ := S.rock_bd hok (k := k) (by omega)
    unfold feetH; omega
theorem ringsP_bd {S : Shaft} (hok : S.ok = true) {l : List Int} (hl : S.stops l = true) : ∀ {k : Nat}, k ≤ l.length → -(k : Int) ≤ ringsP S l k ∧ ringsP S l k ≤ 207 * k
  | 0, _ => by simp [ringsP]
  | k + 1, h => by
    have h1 := ringsP_bd hok hl (k := k) (by omega)
    have h2 := asc_at hl (k := k) (by omega)
    have h3 := ring_bd hok h2.1 h2.2
    unfold ringsP; rw [List.getElem?_eq_getElem (by omega)]; simp only [Option.getD_some]; omega
theorem ringsP_succ {S : Shaft} {l : List Int} {k : Nat} (hk : k < l.length) : ringsP S l (k + 1) = ringsP S l k + S.ringV l[k] := by
  rw [ringsP, List.getElem?_eq_getElem hk]; rfl
def Shaft.cost (S : Shaft) (l : List Int) : Int := feetP S S.F.length + ringsP S l l.length
def Shaft.time (S : Shaft) (l : List Int) : Int := feetH S S.F.length + S.T * (l.length : Int)
end Go.Proofs.YtaaocomgmacjnabDoor
