/- Boxes of mouths: by remainders (mathematics). -/
import Derived.Test.YthbicbmlbblflaaM1

set_option linter.unusedSimpArgs false

set_option linter.unusedVariables false

namespace Go.Proofs.Ythbicbmlbblflaa

def allS (D : Bx) : Int := sumN D.sh D.n
def h0 (D : Bx) (fl : Int) : Nat → Int := fun i => if i < D.n then fl * D.sh i / allS D else 0
def c0 (D : Bx) (fl : Int) : Nat → Int := fun i => if i < D.n then fl * D.sh i % allS D else 0
/-- the place of the greatest one of the first numbers, of several the first one -/
def grt (c : Nat → Int) : Nat → Nat
  | 0 => 0
  | k + 1 => if c (grt c k) < c k then k else grt c k
/-- one number set to 0 -/
def zr (c : Nat → Int) (q : Nat) : Nat → Int := fun i => if i = q then 0 else c i
/-- the quarters that have been given one more, the gauges, and what is cut off -/
def got (h c : Nat → Int) : Nat → List Nat × (Nat → Int) × (Nat → Int)
  | 0 => ([], h, c)
  | j + 1 => ((got h c j).1 ++ [grt (got h c j).2.2 5], up (got h c j).2.1 (grt (got h c j).2.2 5), zr (got h c j).2.2 (grt (got h c j).2.2 5))
def lft (D : Bx) (fl : Int) : Int := fl - sumN (h0 D fl) 5
def RM (D : Bx) (fl : Int) : Nat → Int := if allS D = 0 then fun _ => 0 else (got (h0 D fl) (c0 D fl) (lft D fl).toNat).2.1

theorem grt_lt (c : Nat → Int) : ∀ {k : Nat}, 0 < k → grt c k < k
  | 1, _ => by unfold grt grt; split <;> omega
  | k + 2, _ => by
    have := grt_lt c (k := k + 1) (by omega)
    unfold grt
    split <;> omega
theorem grt_ge (c : Nat → Int) : ∀ {k i : Nat}, i < k → c i ≤ c (grt c k)
  | k + 1, i, hi => by
    unfold grt
    rcases Nat.lt_succ_iff_lt_or_eq.1 hi with h | rfl
    · have := grt_ge c h
      split
      · omega
      · exact this
    · split
      · exact Int.le_refl _
      · omega
/-- all ahead of it are less -/
theorem grt_first (c : Nat → Int) : ∀ {k i : Nat}, i < grt c k → c i < c (grt c k)
  | 0, i, h => absurd h (Nat.not_lt_zero _)
  | k + 1, i, h => by
    unfold grt at h ⊢
    split at h
    · rename_i hc
      rw [if_pos hc]
      have := grt_ge c h
      omega
    · rename_i hc
      rw [if_neg hc]
      exact grt_first c h
theorem sumN_add {f g : Nat → Int} : ∀ k, sumN (fun i => f i + g i) k = sumN f k + sumN g k
  | 0 => rfl
  | k + 1 => by
    show sumN (fun i => f i + g i) k + (f k + g k) = sumN f k + f k + (sumN g k + g k)
    rw [sumN_add k]; omega
theorem sumN_mul {f : Nat → Int} {a : Int} : ∀ k, sumN (fun i => a * f i) k = a * sumN f k
  | 0 => by simp [sumN]
  | k + 1 => by
    show sumN (fun i => a * f i) k + a * f k = a * (sumN f k + f k)
    rw [sumN_mul k, Int.mul_add]
theorem sumN_padM {f : Nat → Int} {n : Nat} (h : ∀ i, n ≤ i → f i = 0) : ∀ {m : Nat}, n ≤ m → sumN f m = sumN f n
  | 0, hm => by obtain rfl : n = 0 := by omega
                rfl
  | m + 1, hm => by
    rcases Nat.lt_or_ge m n with h1 | h1
    · obtain rfl : n = m + 1 := by omega
      rfl
    · show sumN f m + f m = _
      rw [sumN_padM h h1, h m h1]; omega
theorem sumN_le_of {f g : Nat → Int} : ∀ {k : Nat}, (∀ i, i < k → f i ≤ g i) → sumN f k ≤ sumN g k
  | 0, _ => Int.le_refl _
  | k + 1, h => by
    have h1 := sumN_le_of (k := k) (fun i hi => h i (by omega))
    have h2 := h k (by omega)
    show sumN f k + f k ≤ sumN g k + g k
    omega
theorem sumN_zr {c : Nat → Int} {q : Nat} : ∀ {k : Nat}, sumN (zr c q) k = sumN c k - if q < k then c q else 0
  | 0 => by simp [sumN]
  | k + 1 => by
    have ih := sumN_zr (c := c) (q := q) (k := k)
    show sumN (zr c q) k + zr c q k = sumN c k + c k - _
    rw [ih]
    by_cases h : k = q
    · subst h; rw [show zr c k k = 0 from if_pos rfl, if_neg (by omega), if_pos (by omega)]; omega
    · rw [show zr c q k = c k from if_neg h]
      by_cases h2 : q < k
      · rw [if_pos h2, if_pos (by omega)]; omega
      · rw [if_neg h2, if_neg (by omega)]; omega
theorem allS_bd {D : Bx} (hok : D.ok = true) : 0 ≤ allS D ∧ allS D ≤ 100 := by
  obtain ⟨o1, o2, o3, o4⟩ := Bx.ok_parts hok
  have h1 := sumN_ge (f := D.sh) (k := D.n) (fun i hi => (o3 i hi).1)
  have h2 := sumN_le (f := D.sh) (c := 20) (k := D.n) (fun i hi => (o3 i hi).2)
  exact ⟨h1, by unfold allS; omega⟩
theorem sh_le_all {D : Bx} (hok : D.ok = true) {i : Nat} (hi : i < D.n) : D.sh i ≤ allS D := by
  obtain ⟨o1, o2, o3, o4⟩ := Bx.ok_parts hok
  suffices h : ∀ k, k ≤ D.n → i < k → D.sh i ≤ sumN D.sh k from h D.n (Nat.le_refl _) hi
  intro k
  induction k with
  | zero => intro _ h; omega
  | succ k ih =>
    intro hk hik
    show D.sh i ≤ sumN D.sh k + D.sh k
    have h1 := sumN_ge (f := D.sh) (k := k) (fun i hi => (o3 i (by omega)).1)
    have h2 := (o3 k (by omega)).1
    rcases Nat.lt_succ_iff_lt_or_eq.1 hik with h | rfl
    · have := ih (by omega) h; omega
    · omega
section

variable {D : Bx} {fl : Int}

theorem part_bd (hok : D.ok = true) (hf : 0 ≤ fl ∧ fl ≤ 40) {i : Nat} (hi : i < D.n) : 0 ≤ fl * D.sh i ∧ fl * D.sh i ≤ 800 := by
  obtain ⟨o1, o2, o3, o4⟩ := Bx.ok_parts hok
  have := o3 i hi
  exact ⟨Int.mul_nonneg hf.1 this.1, Int.le_trans (Int.mul_le_mul hf.2 this.2 this.1 (by omega)) (by omega)⟩
theorem h0_bd (hok : D.ok = true) (ha : allS D ≠ 0) (hf : 0 ≤ fl ∧ fl ≤ 40) (i : Nat) : 0 ≤ h0 D fl i ∧ h0 D fl i ≤ 40 := by
  unfold h0
  split
  · rename_i hi
    have h1 := part_bd hok hf hi
    have h2 := (allS_bd hok).1
    have h3 := sh_le_all hok hi
    refine ⟨Int.ediv_nonneg h1.1 h2, ?_⟩
    have h4 : fl * D.sh i ≤ fl * allS D := Int.mul_le_mul_of_nonneg_left h3 hf.1
    have h5 : fl * D.sh i / allS D ≤ fl * allS D / allS D := Int.ediv_le_ediv (by omega) h4
    rw [Int.mul_ediv_cancel _ ha] at h5
    omega
  · omega
theorem c0_bd (hok : D.ok = true) (ha : allS D ≠ 0) (i : Nat) : 0 ≤ c0 D fl i ∧ c0 D fl i < allS D := by
  have h2 := (allS_bd hok).1
  unfold c0
  split
  · exact ⟨Int.emod_nonneg _ ha, Int.emod_lt_of_pos _ (by omega)⟩
  · omega
theorem h0_out {i : Nat} (h : D.n ≤ i) : h0 D fl i = 0 := if_neg (by omega)
theorem c0_out {i : Nat} (h : D.n ≤ i) : c0 D fl i = 0 := if_neg (by omega)
theorem sum_parts (hok : D.ok = true) (ha : allS D ≠ 0) : sumN (c0 D fl) 5 = allS D * lft D fl := by
  obtain ⟨o1, o2, o3, o4⟩ := Bx.ok_parts hok
  have h1 : sumN (fun i => fl * D.sh i) D.n = sumN (fun i => allS D * h0 D fl i + c0 D fl i) D.n := sumN_congr fun i hi => by
    unfold h0 c0
    rw [if_pos hi, if_pos hi]
    exact (Int.mul_ediv_add_emod _ _).symm
  rw [sumN_mul, sumN_add, sumN_mul] at h1
  have e1 := sumN_padM (f := h0 D fl) (fun i hi => h0_out hi) o1
  have e2 := sumN_padM (f := c0 D fl) (fun i hi => c0_out hi) o1
  unfold lft
  rw [e1, e2, Int.mul_sub]
  have e3 : sumN D.sh D.n = allS D := rfl
  rw [e3, Int.mul_comm fl] at h1
  omega
theorem lft_bd (hok : D.ok = true) (ha : allS D ≠ 0) : 0 ≤ lft D fl ∧ lft D fl ≤ 4 := by
  have h1 := sum_parts (fl := fl) hok ha
  have h2 := (allS_bd hok).1
  have h3 : 0 ≤ sumN (c0 D fl) 5 := sumN_ge fun i _ => (c0_bd hok ha i).1
  have h4 : sumN (c0 D fl) 5 ≤ (allS D - 1) * 5 := sumN_le fun i _ => by have := (c0_bd (fl := fl) hok ha i).2; omega
  constructor
  · rcases (show lft D fl < 0 ∨ 0 ≤ lft D fl by omega) with h | h
    · have : allS D * lft D fl < 0 := Int.mul_neg_of_pos_of_neg (by omega) h
      omega
    · exact h
  · rcases (show 4 < lft D fl ∨ lft D fl ≤ 4 by omega) with h | h
    · have : allS D * 5 ≤ allS D * lft D fl := Int.mul_le_mul_of_nonneg_left (by omega) h2
      omega
    · exact h
/-- what holds when some have been given one more -/
structure GI (D : Bx) (fl : Int) (j : Nat) (g : List Nat) (h c : Nat → Int) : Prop where
  len : g.length = j
  mem : ∀ i, i ∈ g → i < D.n
  nd : g.Nodup
  cc : ∀ i, c i = if i ∈ g then 0 else c0 D fl i
  hh : ∀ i, h i = h0 D fl i + if i ∈ g then 1 else 0
  s : allS D * (lft D fl - j) ≤ sumN c 5
theorem GI.start (hok : D.ok = true) (ha : allS D ≠ 0) : GI D fl 0 [] (h0 D fl) (c0 D fl) :=
  ⟨rfl, fun i h => (by cases h), List.nodup_nil, fun i => by simp, fun i => by simp, by rw [sum_parts hok ha]; simp⟩
theorem GI.pos (hok : D.ok = true) (ha : allS D ≠ 0) {j : Nat} {g : List Nat} {h c : Nat → Int} (hg : GI D fl j g h c) (hj : (j : Int) < lft D fl) : 0 < c (grt c 5) ∧ grt c 5 < D.n ∧ grt c 5 ∉ g := by
  have h2 := (allS_bd hok).1
  have h3 : allS D * 1 ≤ allS D * (lft D fl - j) := Int.mul_le_mul_of_nonneg_left (by omega) h2
  have h4 := hg.s
  have hp : 0 < c (grt c 5) := by
    rcases (show 0 < c (grt c 5) ∨ c (grt c 5) ≤ 0 by omega) with h | h
    · exact h
    · have : sumN c 5 ≤ 0 * 5 := sumN_le fun i hi => by have := grt_ge c hi; omega
      omega
  have hc := hg.cc (grt c 5)
  have hn : grt c 5 ∉ g := fun hm => by rw [if_pos hm] at hc; omega
  rw [if_neg hn] at hc
  refine ⟨hp, ?_, hn⟩
  rcases Nat.lt_or_ge (grt c 5) D.n with h | h
  · exact h
  · rw [c0_out h] at hc; omega
theorem GI.next (hok : D.ok = true) (ha : allS D ≠ 0) {j : Nat} {g : List Nat} {h c : Nat → Int} (hg : GI D fl j g h c) (hj : (j : Int) < lft D fl) : GI D fl (j + 1) (g ++ [grt c 5]) (up h (grt c 5)) (zr c (grt c 5)) := by
  obtain ⟨o1, o2, o3, o4⟩ := Bx.ok_parts hok
  obtain ⟨p1, p2, p3⟩ := hg.pos hok ha hj
  refine ⟨by simp [hg.len], fun i hi => ?_, ?_, fun i => ?_, fun i => ?_, ?_⟩
  · rcases List.mem_append.1 hi with h | h
    · exact hg.mem i h
    · rw [List.mem_singleton] at h; omega
  · rw [List.nodup_append]
    exact ⟨hg.nd, by simp, fun a ha' b hb => by rw [List.mem_singleton] at hb; subst hb; exact fun e => p3 (e ▸ ha')⟩
  · unfold zr
    by_cases e : i = grt c 5
    · rw [if_pos e, if_pos (by simp [e])]
    · rw [if_neg e, hg.cc i]
      by_cases hm : i ∈ g
      · rw [if_pos hm, if_pos (by simp [hm])]
      · rw [if_neg hm, if_neg (by simp [hm, e])]
  · by_cases e : i = grt c 5
    · subst e
      rw [up_same, hg.hh, if_neg p3, if_pos (by simp)]; omega
    · rw [up_ne _ e, hg.hh i]
      by_cases hm : i ∈ g
      · rw [if_pos hm, if_pos (by simp [hm])]
      · rw [if_neg hm, if_neg (by simp [hm, e])]
  · rw [sumN_zr, if_pos (by omega)]
    have h4 := hg.s
    have h5 := hg.cc (grt c 5)
    rw [if_neg p3] at h5
    have h6 := (c0_bd (fl := fl) hok ha (grt c 5)).2
    have e1 : allS D * (lft D fl - ((j + 1 : Nat) : Int)) = allS D * (lft D fl - j) - allS D := by
      rw [show lft D fl - ((j + 1 : Nat) : Int) = (lft D fl - j) - 1 by omega, Int.mul_sub, Int.mul_one]
    rw [e1]
    omega
theorem got_inv (hok : D.ok = true) (ha : allS D ≠ 0) : ∀ {j : Nat}, (j : Int) ≤ lft D fl → GI D fl j (got (h0 D fl) (c0 D fl) j).1 (got (h0 D fl) (c0 D fl) j).2.1 (got (h0 D fl) (c0 D fl) j).2.2
  | 0, _ => GI.start hok ha
  | j + 1, hj => (got_inv hok ha (j := j) (by omega)).next hok ha (by omega)
theorem got_last (hok : D.ok = true) (ha : allS D ≠ 0) : GI D fl (lft D fl).toNat (got (h0 D fl) (c0 D fl) (lft D fl).toNat).1 (RM D fl) (got (h0 D fl) (c0 D fl) (lft D fl).toNat).2.2 := by
  have := got_inv hok ha (fl := fl) (j := (lft D fl).toNat) (by have := (lft_bd (fl := fl) hok ha).1; omega)
  rw [show RM D fl = (got (h0 D fl) (c0 D fl) (lft D fl).toNat).2.1 from if_neg ha]
  exact this
theorem RM_bd (hok : D.ok = true) (hf : 0 ≤ fl ∧ fl ≤ 40) (i : Nat) : 0 ≤ RM D fl i ∧ RM D fl i ≤ 41 := by
  by_cases ha : allS D = 0
  · rw [show RM D fl = fun _ => 0 from if_pos ha]; simp
  · have h1 := (got_last (fl := fl) hok ha).hh i
    have h2 := h0_bd hok ha hf i
    rw [h1]
    split <;> omega
theorem RM_out (hok : D.ok = true) {i : Nat} (hi : D.n ≤ i) : RM D fl i = 0 := by
  by_cases ha : allS D = 0
  · rw [show RM D fl = fun _ => 0 from if_pos ha]
  · have g := got_last (fl := fl) hok ha
    rw [g.hh i, h0_out hi, if_neg (fun hm => by have := g.mem i hm; omega)]; rfl
/-- the greatest one that was not given yet, as the specification looks for it -/
def bR (c : Nat → Int) (g : List Nat) : Nat → Option Nat
  | 0 => none
  | k + 1 => if k ∈ g then bR c g k else
    match bR c g k with
    | none => some k
    | some b => if c b < c k then some k else some b
theorem bR_lt {c : Nat → Int} {g : List Nat} : ∀ {k b : Nat}, bR c g k = some b → b < k ∧ b ∉ g
  | 0, b, h => by cases h
  | k + 1, b, h => by
    unfold bR at h
    split at h
    · have := bR_lt h; exact ⟨by omega, this.2⟩
    · rename_i hk
      split at h
      · cases h; exact ⟨by omega, hk⟩
      · rename_i b' hb
        have := bR_lt hb
        split at h
        · cases h; exact ⟨by omega, hk⟩
        · cases h; exact ⟨by omega, this.2⟩
theorem bR_grt {c e : Nat → Int} {g : List Nat} (hc : ∀ i, 0 ≤ c i) (he : ∀ i, e i = if i ∈ g then 0 else c i) : ∀ k,
    (0 < e (grt e k) ∧ 0 < k ∧ bR c g k = some (grt e k)) ∨ ((∀ i, i < k → e i = 0) ∧ (k = 0 ∨ e (grt e k) = 0) ∧ (bR c g k = none ∨ ∃ b, bR c g k = some b ∧ c b = 0))
  | 0 => .inr ⟨fun i h => absurd h (Nat.not_lt_zero _), .inl rfl, .inl rfl⟩
  | k + 1 => by
    have hek := he k
    have hck := hc k
    rcases bR_grt hc he k with ⟨h1, h2, h3⟩ | ⟨h1, h2, h3⟩
    · have hb := bR_lt h3
      have heb := he (grt e k)
      rw [if_neg hb.2] at heb
      by_cases hm : k ∈ g
      · rw [if_pos hm] at hek
        have e1 : grt e (k + 1) = grt e k := by show (if e (grt e k) < e k then k else grt e k) = _; rw [if_neg (by omega)]
        have e2 : bR c g (k + 1) = bR c g k := by show (if k ∈ g then _ else _) = _; rw [if_pos hm]
        rw [e1, e2]
        exact .inl ⟨h1, by omega, h3⟩
      · rw [if_neg hm] at hek
        have e2 : bR c g (k + 1) = if c (grt e k) < c k then some k else some (grt e k) := by
          show (if k ∈ g then _ else (match bR c g k with | none => some k | some b => if c b < c k then some k else some b)) = _
          rw [if_neg hm, h3]
        by_cases hlt : c (grt e k) < c k
        · have e1 : grt e (k + 1) = k := by show (if e (grt e k) < e k then k else grt e k) = _; rw [if_pos (by omega)]
          rw [e1, e2, if_pos hlt]
          exact .inl ⟨by omega, by omega, rfl⟩
        · have e1 : grt e (k + 1) = grt e k := by show (if e (grt e k) < e k then k else grt e k) = _; rw [if_neg (by omega)]
          rw [e1, e2, if_neg hlt]
          exact .inl ⟨h1, by omega, rfl⟩
    · by_cases hm : k ∈ g
      · rw [if_pos hm] at hek
        have e2 : bR c g (k + 1) = bR c g k := by show (if k ∈ g then _ else _) = _; rw [if_pos hm]
        refine .inr ⟨fun i hi => ?_, .inr ?_, by rw [e2]; exact h3⟩
        · rcases Nat.lt_succ_iff_lt_or_eq.1 hi with h | rfl
          · exact h1 i h
          · exact hek
        · have := grt_lt e (k := k + 1) (by omega)
          rcases Nat.lt_succ_iff_lt_or_eq.1 this with h | h
          · exact h1 _ h
          · rw [h]; exact hek
      · rw [if_neg hm] at hek
        have hg0 : k = 0 ∨ e (grt e k) = 0 := h2
        by_cases hp : 0 < c k
        · have e1 : grt e (k + 1) = k := by
            show (if e (grt e k) < e k then k else grt e k) = _
            rcases hg0 with rfl | h
            · split <;> rfl
            · rw [if_pos (by omega)]
          have e2 : bR c g (k + 1) = some k := by
            show (if k ∈ g then _ else (match bR c g k with | none => some k | some b => if c b < c k then some k else some b)) = _
            rw [if_neg hm]
            rcases h3 with h | ⟨b, h, hb⟩
            · rw [h]
            · rw [h]; show (if c b < c k then some k else some b) = _; rw [if_pos (by omega)]
          rw [e1, e2]
          exact .inl ⟨by omega, by omega, rfl⟩
        · refine .inr ⟨fun i hi => ?_, .inr ?_, .inr ?_⟩
          · rcases Nat.lt_succ_iff_lt_or_eq.1 hi with h | rfl
            · exact h1 i h
            · omega
          · have := grt_lt e (k := k + 1) (by omega)
            rcases Nat.lt_succ_iff_lt_or_eq.1 this with h | h
            · exact h1 _ h
            · rw [h]; omega
          · rcases h3 with h | ⟨b, h, hb⟩
            · refine ⟨k, ?_, by omega⟩
              show (if k ∈ g then _ else (match bR c g k with | none => some k | some b => if c b < c k then some k else some b)) = _
              rw [if_neg hm, h]
            · refine ⟨b, ?_, hb⟩
              show (if k ∈ g then _ else (match bR c g k with | none => some k | some b => if c b < c k then some k else some b)) = _
              rw [if_neg hm, h]
              show (if c b < c k then some k else some b) = _
              rw [if_neg (by omega)]
theorem grt_pad {e : Nat → Int} {n : Nat} (hn : 0 < n) (hz : ∀ i, n ≤ i → e i = 0) (he : ∀ i, 0 ≤ e i) : ∀ {m : Nat}, n ≤ m → grt e m = grt e n
  | 0, hm => by omega
  | m + 1, hm => by
    rcases Nat.lt_or_ge m n with h1 | h1
    · obtain rfl : n = m + 1 := by omega
      rfl
    · show (if e (grt e m) < e m then m else grt e m) = _
      rw [grt_pad hn hz he h1]
      rw [if_neg (by have := hz m h1; have := he (grt e n); omega)]
/-- both sides pick the same -/
theorem bR_is (hok : D.ok = true) (ha : allS D ≠ 0) {j : Nat} {g : List Nat} {h c : Nat → Int} (hg : GI D fl j g h c) (hj : (j : Int) < lft D fl) : bR (c0 D fl) g D.n = some (grt c 5) := by
  obtain ⟨o1, o2, o3, o4⟩ := Bx.ok_parts hok
  obtain ⟨p1, p2, p3⟩ := hg.pos hok ha hj
  have hc0 := fun i => (c0_bd (fl := fl) hok ha i).1
  have hz : ∀ i, D.n ≤ i → c i = 0 := fun i hi => by
    rw [hg.cc i]
    split
    · rfl
    · exact c0_out hi
  have hnn : ∀ i, 0 ≤ c i := fun i => by
    rw [hg.cc i]
    split
    · omega
    · exact hc0 i
  have hpd : grt c 5 = grt c D.n := grt_pad (by omega) hz hnn o1
  rcases bR_grt hc0 hg.cc D.n with ⟨h1, h2, h3⟩ | ⟨h1, h2, h3⟩
  · rw [hpd]; exact h3
  · rcases h2 with h | h
    · omega
    · rw [← hpd] at h; omega
end

end Go.Proofs.Ythbicbmlbblflaa
