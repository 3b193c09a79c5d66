/- Boxes of mouths: shares twice as great, and quarters that are alike by remainders (mathematics). -/
import Derived.Test.YthbicbmlbblflaaM4

import Derived.Test.YthbicbmlbblflaaM5

set_option linter.unusedSimpArgs false

set_option linter.unusedVariables false

namespace Go.Proofs.Ythbicbmlbblflaa

theorem nxA_twice {D D' : Bx} {g : Nat → Int} {n : Nat} (hs : ∀ i, i < n → D'.sh i = 2 * D.sh i) (hm : ∀ i, i < n → D'.mo i = D.mo i) : ∀ {k : Nat}, k ≤ n → nxA D' g k = nxA D g k
  | 0, _ => rfl
  | k + 1, h => by
    have ih := nxA_twice hs hm (g := g) (k := k) (by omega)
    have hb : blk D' g k = blk D g k := by
      unfold blk
      rw [hs k (by omega), hm k (by omega)]
      congr 1
      rw [Bool.eq_iff_iff]; simp only [decide_eq_true_eq]; omega
    unfold nxA
    rw [ih, hb]
    cases hx : nxA D g k with
    | none => rfl
    | some b =>
      have hbl := (nxA_lt hx).1
      have he : btr D' g b k = btr D g b k := by
        unfold btr
        rw [hs b (by omega), hs k (by omega), Int.mul_assoc, Int.mul_assoc]
        rw [Bool.eq_iff_iff]; simp only [decide_eq_true_eq]; omega
      simp only [he]
theorem gv_twice {D D' : Bx} (hn : D'.n = D.n) (hs : ∀ i, i < D.n → D'.sh i = 2 * D.sh i) (hm : ∀ i, i < D.n → D'.mo i = D.mo i) : ∀ f, gv D' f = gv D f
  | 0 => rfl
  | f + 1 => by
    have ih := gv_twice hn hs hm f
    have hx : nx D' (gv D f) = nx D (gv D f) := by
      unfold nx
      rw [hn]
      exact nxA_twice hs hm (Nat.le_refl _)
    show (match nx D' (gv D' f) with | none => gv D' f | some q => up (gv D' f) q) = (match nx D (gv D f) with | none => gv D f | some q => up (gv D f) q)
    rw [ih, hx]
theorem grt_twice {c c' : Nat → Int} (h : ∀ i, c' i = 2 * c i) : ∀ k, grt c' k = grt c k
  | 0 => rfl
  | k + 1 => by
    show (if c' (grt c' k) < c' k then k else grt c' k) = (if c (grt c k) < c k then k else grt c k)
    rw [grt_twice h k, h, h]
    by_cases e : c (grt c k) < c k
    · rw [if_pos e, if_pos (by omega)]
    · rw [if_neg e, if_neg (by omega)]
theorem got_twice {h c c' : Nat → Int} (hc : ∀ i, c' i = 2 * c i) : ∀ j, (got h c' j).1 = (got h c j).1 ∧ (got h c' j).2.1 = (got h c j).2.1 ∧ ∀ i, (got h c' j).2.2 i = 2 * (got h c j).2.2 i
  | 0 => ⟨rfl, rfl, hc⟩
  | j + 1 => by
    obtain ⟨h1, h2, h3⟩ := got_twice hc j
    have hg := grt_twice h3 5
    refine ⟨?_, ?_, fun i => ?_⟩
    · show (got h c' j).1 ++ [grt (got h c' j).2.2 5] = (got h c j).1 ++ [grt (got h c j).2.2 5]
      rw [h1, hg]
    · show up (got h c' j).2.1 (grt (got h c' j).2.2 5) = up (got h c j).2.1 (grt (got h c j).2.2 5)
      rw [h2, hg]
    · show zr (got h c' j).2.2 (grt (got h c' j).2.2 5) i = 2 * zr (got h c j).2.2 (grt (got h c j).2.2 5) i
      unfold zr
      rw [hg]
      split
      · rfl
      · exact h3 i
theorem rm_twice {D D' : Bx} (hok : D.ok = true) (hn : D'.n = D.n) (hs : ∀ i, i < D.n → D'.sh i = 2 * D.sh i) (fl : Int) : RM D' fl = RM D fl := by
  have ha : allS D' = 2 * allS D := by
    unfold allS
    rw [hn, sumN_congr hs]
    exact sumN_mul _
  by_cases h0' : allS D = 0
  · rw [show RM D fl = fun _ => 0 from if_pos h0', show RM D' fl = fun _ => 0 from if_pos (by omega)]
  · have hpos := (allS_bd hok).1
    have hh : h0 D' fl = h0 D fl := by
      funext i
      unfold h0
      rw [hn]
      split
      · rename_i hi
        rw [ha, hs i hi, show fl * (2 * D.sh i) = 2 * (fl * D.sh i) from Int.mul_left_comm _ _ _]
        exact Int.mul_ediv_mul_of_pos _ _ (by omega)
      · rfl
    have hc : ∀ i, c0 D' fl i = 2 * c0 D fl i := fun i => by
      unfold c0
      rw [hn]
      split
      · rename_i hi
        rw [ha, hs i hi, show fl * (2 * D.sh i) = 2 * (fl * D.sh i) from Int.mul_left_comm _ _ _]
        exact Int.mul_emod_mul_of_pos _ _ (by omega)
      · rfl
    have hl : lft D' fl = lft D fl := by unfold lft; rw [hh]
    rw [show RM D fl = (got (h0 D fl) (c0 D fl) (lft D fl).toNat).2.1 from if_neg h0', show RM D' fl = (got (h0 D' fl) (c0 D' fl) (lft D' fl).toNat).2.1 from if_neg (by omega), hl, hh]
    exact (got_twice hc _).2.1
theorem rm_alike {D : Bx} (hok : D.ok = true) {fl : Int} {a b : Nat} (hab : a < b) (hb : b < D.n) (hs : D.sh a = D.sh b) : RM D fl b ≤ RM D fl a ∧ RM D fl a ≤ RM D fl b + 1 := by
  by_cases ha : allS D = 0
  · rw [show RM D fl = fun _ => 0 from if_pos ha]; simp
  · have eh : h0 D fl a = h0 D fl b := by unfold h0; rw [if_pos (by omega), if_pos hb, hs]
    have ec : c0 D fl a = c0 D fl b := by unfold c0; rw [if_pos (by omega), if_pos hb, hs]
    have key : ∀ {j : Nat}, (j : Int) ≤ lft D fl → b ∈ (got (h0 D fl) (c0 D fl) j).1 → a ∈ (got (h0 D fl) (c0 D fl) j).1 := by
      intro j
      induction j with
      | zero => intro _ h; cases h
      | succ j ih =>
        intro hj hm
        have gi := got_inv (fl := fl) hok ha (j := j) (by omega)
        obtain ⟨p1, p2, p3⟩ := gi.pos hok ha (by omega)
        have hm' : b ∈ (got (h0 D fl) (c0 D fl) j).1 ++ [grt (got (h0 D fl) (c0 D fl) j).2.2 5] := hm
        show a ∈ (got (h0 D fl) (c0 D fl) j).1 ++ [grt (got (h0 D fl) (c0 D fl) j).2.2 5]
        rcases List.mem_append.1 hm' with h | h
        · exact List.mem_append_left _ (ih (by omega) h)
        · rw [List.mem_singleton] at h
          by_cases hin : a ∈ (got (h0 D fl) (c0 D fl) j).1
          · exact List.mem_append_left _ hin
          · exfalso
            have h1 := grt_first (got (h0 D fl) (c0 D fl) j).2.2 (k := 5) (i := a) (by omega)
            rw [← h] at h1 p3
            rw [gi.cc a, gi.cc b, if_neg hin, if_neg p3, ec] at h1
            omega
    have gl := got_last (fl := fl) hok ha
    have kl := key (j := (lft D fl).toNat) (by have := (lft_bd (fl := fl) hok ha).1; omega)
    rw [gl.hh a, gl.hh b, eh]
    by_cases h1 : b ∈ (got (h0 D fl) (c0 D fl) (lft D fl).toNat).1
    · rw [if_pos h1, if_pos (kl h1)]; omega
    · rw [if_neg h1]
      split <;> omega
end Go.Proofs.Ythbicbmlbblflaa
