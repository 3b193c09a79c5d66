/- Generic: a region that draws its order, whose last operations, a chain, wait for all others: the others are taken as in a region that holds a condition, the last one behind them. -/
import Derived.Test.YtkdlppekjjbgoaaX1

set_option linter.unusedSimpArgs false

set_option linter.unusedVariables false

namespace Go.Proofs.Ytkdlppekjjbgoaa

open Go

section

variable {P : Program} {ops : Array Oper} {Q : Exit → Act → World → Prop} {md : Region.Mode} {S : World → Prop} {n r : Nat}

/-- whatever order is picked of the first n, each of which leaves S; then number n -/
def wpAnyT2 (P : Program) (md : Region.Mode) (ops : Array Oper) (Q : Exit → Act → World → Prop) (S : World → Prop) (n r : Nat) : Nat → Array Bool → Act → World → Prop
  | 0, listed, a, w => Region.ready md ops listed = [n] ∧ wpAny P md ops Q r listed a w
  | fuel + 1, listed, a, w => Region.ready md ops listed ≠ [] ∧ ∀ i ∈ Region.ready md ops listed, i < n ∧ wpOp P ops Q i (fun a' w' => S w' ∧ wpAnyT2 P md ops Q S n r fuel (listed.setIfInBounds i true) a' w') a w
theorem wpAny_of_T2 : ∀ (fuel : Nat) (listed : Array Bool) (a : Act) (w : World), wpAnyT2 P md ops Q S n r fuel listed a w → wpAny P md ops Q (fuel + r) listed a w
  | 0, listed, a, w, ⟨h1, h2⟩ => by rw [Nat.zero_add]; exact h2
  | fuel + 1, listed, a, w, ⟨h1, h2⟩ => by
    rw [Nat.add_right_comm]
    exact ⟨fun h => absurd h h1, fun i hi => wpOp_mono (fun a' w' h => wpAny_of_T2 fuel _ a' w' h.2) (h2 i hi).2⟩
/-- the same, where the last one has not come up and what came up had what it waits for -/
def wpAnyG2 (P : Program) (md : Region.Mode) (ops : Array Oper) (Q : Exit → Act → World → Prop) (S : World → Prop) (n r fuel : Nat) (listed : Array Bool) (a : Act) (w : World) : Prop :=
  HeadInv md ops n listed → wpAnyT2 P md ops Q S n r fuel listed a w

theorem wpAnyT2_first {i : Nat} {oi : Oper} {v : Value} (hs : Region.sinkB md ops n = true) (hc : Region.chainB md ops n = true) (hn : n < ops.size) (hin : i < n)
    (hi : ops[i]? = some oi) (hsel : ∀ (j : Nat) (o : Oper) cs b, ops[j]? = some o → o.op ≠ .select cs b)
    (hQ : ∀ c a w, Q (.panic c) (a.put oi.dst v) w → Q (.panic c) a w) :
    ∀ (fuel : Nat) (listed : Array Bool) (a : Act) (w : World), HeadInv md ops n listed →
      (∀ j oj, ops[j]? = some oj → j ≠ i → listed.getD j true = false → (∀ e ∈ oj.after, Region.binds md e = true → e.on ≠ i) → oi.apart ops oj = true) →
      i ∈ Region.ready md ops listed → YieldsIf P ops S oi v a → S w →
      wpAnyT2 P md ops Q S n r fuel (listed.setIfInBounds i true) (a.put oi.dst v) w → wpAnyT2 P md ops Q S n r (fuel + 1) listed a w := by
  intro fuel
  induction fuel with
  | zero =>
    intro listed a w inv _ hr hy hS H
    refine ⟨fun h => (by rw [h] at hr; cases hr), fun j hj => ?_⟩
    by_cases hji : j = i
    · subst hji; exact ⟨hin, hy.wpOp hi hS ⟨hS, H⟩⟩
    · have := ready_mono hj hji
      rw [H.1, List.mem_singleton] at this
      subst this
      exact absurd hj (tail_waits hs hc hn inv _ i rfl hin (mem_ready.1 hr).1 _ (Nat.le_refl _))
  | succ fuel ih =>
    intro listed a w inv hfree hr hy hS H
    refine ⟨fun h => (by rw [h] at hr; cases hr), fun j hj => ?_⟩
    by_cases hji : j = i
    · subst hji; exact ⟨hin, hy.wpOp hi hS ⟨hS, H⟩⟩
    · obtain ⟨hjn, h1⟩ := H.2 j (ready_mono hj hji)
      obtain ⟨hjun, oj, hoj, hall⟩ := mem_ready.1 hj
      have hnot : ∀ e ∈ oj.after, Region.binds md e = true → e.on ≠ i := fun e he hb heq => by
        have h1 := hall e he hb
        have h0 := (mem_ready.1 hr).1
        rw [heq] at h1
        rcases Nat.lt_or_ge i listed.size with h' | h'
        · simp [h'] at h0 h1; rw [h0] at h1; cases h1
        · simp [Array.getElem?_eq_none h'] at h1
      have h2 := wpOp_putIf hoj (hfree j oj hoj hji hjun hnot) (fun cs b => hsel i oi cs b hi) (fun cs b => hsel j oj cs b hoj) hQ hy h1
      have hfree' : ∀ k ok, ops[k]? = some ok → k ≠ i → (listed.setIfInBounds j true).getD k true = false →
          (∀ e ∈ ok.after, Region.binds md e = true → e.on ≠ i) → oi.apart ops ok = true := fun k ok hk hki hun hno => by
        refine hfree k ok hk hki ?_ hno
        by_cases hjk : j = k
        · subst hjk; exact hjun
        · rw [getD_set_ne true hjk] at hun; exact hun
      refine ⟨hjn, wpOp_mono (fun a' w' h3 => ⟨h3.2.1, ih (listed.setIfInBounds j true) a' w' (inv.set hj hjn) hfree' (ready_mono hr (Ne.symm hji)) h3.1 h3.2.1 ?_⟩) h2⟩
      rw [Array.setIfInBounds_comm _ _ hji]
      exact h3.2.2
theorem wpAnyG2_take {i : Nat} {oi : Oper} {v : Value} {fuel : Nat} {listed : Array Bool} {a : Act} {w : World} (hh : (Region.sinkB md ops n && Region.chainB md ops n && decide (n < ops.size) && decide (i < n)) = true)
    (hi : ops[i]? = some oi) (hs : Region.noSelect ops = true) (hf : Region.free md ops listed i = true) (hr : (Region.ready md ops listed).contains i = true)
    (hQ : ∀ c a w, Q (.panic c) (a.put oi.dst v) w → Q (.panic c) a w) (hy : YieldsIf P ops S oi v a) (hS : S w)
    (h : wpAnyG2 P md ops Q S n r fuel (listed.setIfInBounds i true) (a.put oi.dst v) w) : wpAnyG2 P md ops Q S n r (fuel + 1) listed a w := fun inv => by
  simp only [Bool.and_eq_true, decide_eq_true_eq] at hh
  have hr' : i ∈ Region.ready md ops listed := by simpa using hr
  exact wpAnyT2_first hh.1.1.1 hh.1.1.2 hh.1.2 hh.2 hi (Region.noSelect_spec hs) hQ fuel listed a w inv (Region.free_spec hi hf) hr' hy hS (h (inv.set hr' hh.2))
theorem wpAnyG2_one {i : Nat} {fuel : Nat} {listed : Array Bool} {a : Act} {w : World} (hr : Region.ready md ops listed = [i]) (hin : i < n)
    (h : wpOp P ops Q i (fun a' w' => S w' ∧ wpAnyG2 P md ops Q S n r fuel (listed.setIfInBounds i true) a' w') a w) : wpAnyG2 P md ops Q S n r (fuel + 1) listed a w := fun inv =>
  ⟨by rw [hr]; simp, fun j hj => by
    have hj' := hj
    rw [hr, List.mem_singleton] at hj'
    subst hj'
    exact ⟨hin, wpOp_mono (fun a' w' h => ⟨h.1, h.2 (inv.set hj hin)⟩) h⟩⟩
theorem wpAnyG2_two {i j : Nat} {fuel : Nat} {listed : Array Bool} {a : Act} {w : World} (hr : Region.ready md ops listed = [i, j]) (hin : i < n) (hjn : j < n)
    (h : wpOp P ops Q i (fun a' w' => S w' ∧ wpAnyG2 P md ops Q S n r fuel (listed.setIfInBounds i true) a' w') a w)
    (h' : wpOp P ops Q j (fun a' w' => S w' ∧ wpAnyG2 P md ops Q S n r fuel (listed.setIfInBounds j true) a' w') a w) : wpAnyG2 P md ops Q S n r (fuel + 1) listed a w := fun inv =>
  ⟨by rw [hr]; simp, fun k hk => by
    have hk' := hk
    rw [hr] at hk'
    simp only [List.mem_cons, List.not_mem_nil, or_false] at hk'
    rcases hk' with rfl | rfl
    · exact ⟨hin, wpOp_mono (fun a' w' h => ⟨h.1, h.2 (inv.set hk hin)⟩) h⟩
    · exact ⟨hjn, wpOp_mono (fun a' w' h => ⟨h.1, h.2 (inv.set hk hjn)⟩) h'⟩⟩
theorem wpAnyG2_done {listed : Array Bool} {a : Act} {w : World} (hr : Region.ready md ops listed = [n]) (h : wpAny P md ops Q r listed a w) : wpAnyG2 P md ops Q S n r 0 listed a w := fun _ => ⟨hr, h⟩
theorem wpAny_one {i fuel : Nat} {listed : Array Bool} {a : Act} {w : World} (hr : Region.ready md ops listed = [i])
    (h : wpOp P ops Q i (fun a' w' => wpAny P md ops Q fuel (listed.setIfInBounds i true) a' w') a w) : wpAny P md ops Q (fuel + 1) listed a w :=
  ⟨fun h => (by rw [hr] at h; cases h), fun j hj => by
    rw [hr, List.mem_singleton] at hj
    subst hj
    exact h⟩
theorem wpAny_end {listed : Array Bool} {a : Act} {w : World} (hr : Region.ready md ops listed = []) (h : Q .normal a w) : wpAny P md ops Q 0 listed a w := ⟨hr, h⟩
/-- the beginning -/
theorem wp_region_tail (S : World → Prop) (n r : Nat) {id : Nat} {a : Act} {w : World} (hm : P.follows .mixedOrders = true) (hn : ops.size = n + r) (hS : S w.drew)
    (h : S w.drew → wpAnyG2 P .any ops Q S n r n (Array.replicate ops.size false) a w.drew) : (Code.region id ops true).wp P Q a w := by
  refine wp_region_any hm ?_
  rw [hn]
  have := wpAny_of_T2 _ _ _ _ (h hS ⟨by simp, fun j oj _ h => (by rw [getD_replicate_false] at h; cases h), fun t _ ht => by simp [ht]⟩)
  rw [hn] at this
  exact this
end

end Go.Proofs.Ytkdlppekjjbgoaa
