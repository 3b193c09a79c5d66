/- Lines of an aqueduct: their numbers, what is valid, clashes, truths and flows (mathematics alone). -/
set_option linter.unusedSimpArgs false

set_option linter.unusedVariables false

namespace Go.Proofs.Ytkdlppekjjbgoaa

structure Duct where
  n : Nat
  m : Nat
  lo : Nat → Int
  hi : Nat → Int
  co : Nat → Int
  od : Nat → Int

def within (n lo hi : Int) : Bool := decide (lo ≤ n ∧ n ≤ hi)
theorem within_tt {n lo hi : Int} (h : lo ≤ n) (h' : n ≤ hi) : within n lo hi = true := by simp [within, h, h']
theorem within_lo {n lo hi : Int} (h : n < lo) : within n lo hi = false := by simp [within]; omega
theorem within_hi {n lo hi : Int} (h : hi < n) : within n lo hi = false := by simp [within]; omega
theorem within_eq {n lo hi : Int} (h : lo ≤ n) : within n lo hi = decide (n ≤ hi) := by simp [within, h]
theorem within_iff {n lo hi : Int} : within n lo hi = true ↔ lo ≤ n ∧ n ≤ hi := by simp [within]

/-- all numbers below k are so -/
def allN (f : Nat → Bool) : Nat → Bool
  | 0 => true
  | k + 1 => allN f k && f k
theorem allN_iff {f : Nat → Bool} : ∀ {k : Nat}, allN f k = true ↔ ∀ i, i < k → f i = true
  | 0 => ⟨fun _ i h => absurd h (Nat.not_lt_zero _), fun _ => rfl⟩
  | k + 1 => by
    have ih := allN_iff (f := f) (k := k)
    constructor
    · intro h i hi
      simp only [allN, Bool.and_eq_true] at h
      rcases Nat.lt_succ_iff_lt_or_eq.1 hi with h1 | rfl
      · exact ih.1 h.1 i h1
      · exact h.2
    · intro h
      simp only [allN, Bool.and_eq_true]
      exact ⟨ih.2 fun i hi => h i (by omega), h k (by omega)⟩
theorem allN_succ {f : Nat → Bool} {k : Nat} (h : allN f k = true) (e : f k = true) : allN f (k + 1) = true := by simp [allN, h, e]
theorem allN_bad {f : Nat → Bool} {k n : Nat} (hk : k < n) (e : f k = false) : allN f n = false := by
  cases h : allN f n with
  | false => rfl
  | true => have := allN_iff.1 h k hk; rw [e] at this; cases this

def ptOk (D : Duct) (k : Nat) : Bool := within (D.lo k) 0 (D.hi k) && (decide (D.hi k ≤ 99) && within (D.co k) 0 20)
def odOk (D : Duct) (k : Nat) : Bool := within (D.od k) 1 9
def Duct.ok (D : Duct) : Bool := decide (D.m ≤ 7) && (decide (D.n = D.m + 1) && (allN (odOk D) D.m && allN (ptOk D) D.n))
theorem ptOk_iff {D : Duct} {k : Nat} : ptOk D k = true ↔ (0 ≤ D.lo k ∧ D.lo k ≤ D.hi k) ∧ D.hi k ≤ 99 ∧ 0 ≤ D.co k ∧ D.co k ≤ 20 := by simp [ptOk, within]
theorem Duct.ok_parts {D : Duct} (h : D.ok = true) : D.m ≤ 7 ∧ D.n = D.m + 1 ∧ (∀ k, k < D.m → 1 ≤ D.od k ∧ D.od k ≤ 9) ∧ ∀ k, k < D.n → (0 ≤ D.lo k ∧ D.lo k ≤ D.hi k) ∧ D.hi k ≤ 99 ∧ 0 ≤ D.co k ∧ D.co k ≤ 20 := by
  simp only [Duct.ok, Bool.and_eq_true, decide_eq_true_eq] at h
  exact ⟨h.1, h.2.1, fun k hk => within_iff.1 (allN_iff.1 h.2.2.1 k hk), fun k hk => ptOk_iff.1 (allN_iff.1 h.2.2.2 k hk)⟩
theorem Duct.ok_mk {D : Duct} (h1 : D.m ≤ 7) (h2 : D.n = D.m + 1) (h3 : allN (odOk D) D.m = true) (h4 : allN (ptOk D) D.n = true) : D.ok = true := by simp only [Duct.ok, h3, h4, Bool.and_true, Bool.and_eq_true, decide_eq_true_eq]; exact ⟨h1, h2⟩
theorem Duct.ok_m {D : Duct} (h : 7 < D.m) : D.ok = false := by simp [Duct.ok]; intro; omega
theorem Duct.ok_n {D : Duct} (h : D.n ≠ D.m + 1) : D.ok = false := by simp [Duct.ok, h]
theorem Duct.ok_od {D : Duct} (h : allN (odOk D) D.m = false) : D.ok = false := by simp [Duct.ok, h]
theorem Duct.ok_pt {D : Duct} (h : allN (ptOk D) D.n = false) : D.ok = false := by simp [Duct.ok, h]

/-- below a: the greatest point past which less flows in any case than past b -/
def cla (D : Duct) (b : Nat) : Nat → Option Nat
  | 0 => none
  | a + 1 => if D.hi a < D.lo b then some a else cla D b a
def clb (D : Duct) : Nat → Option (Nat × Nat)
  | 0 => none
  | k + 1 => match clb D k with
    | some x => some x
    | none => (cla D k k).map fun a => (a, k)
def Duct.clash (D : Duct) : Option (Nat × Nat) := clb D D.n
theorem cla_some {D : Duct} {b a : Nat} : ∀ {k : Nat}, cla D b k = some a → a < k ∧ D.hi a < D.lo b
  | 0, h => by cases h
  | k + 1, h => by
    unfold cla at h
    split at h
    · cases h; exact ⟨Nat.lt_succ_self _, by assumption⟩
    · obtain ⟨h1, h2⟩ := cla_some h; exact ⟨by omega, h2⟩
theorem cla_none {D : Duct} {b : Nat} : ∀ {k : Nat}, cla D b k = none ↔ ∀ a, a < k → D.lo b ≤ D.hi a
  | 0 => ⟨fun _ a h => absurd h (Nat.not_lt_zero _), fun _ => rfl⟩
  | k + 1 => by
    have ih := cla_none (D := D) (b := b) (k := k)
    unfold cla
    split
    · rename_i h
      constructor
      · intro h'; cases h'
      · intro h'; have := h' k (by omega); omega
    · rename_i h
      rw [ih]
      constructor
      · intro h' a ha
        rcases Nat.lt_succ_iff_lt_or_eq.1 ha with h1 | rfl
        · exact h' a h1
        · omega
      · intro h' a ha; exact h' a (by omega)
theorem clb_some {D : Duct} {x : Nat × Nat} : ∀ {k : Nat}, clb D k = some x → x.1 < x.2 ∧ x.2 < k ∧ D.hi x.1 < D.lo x.2
  | 0, h => by cases h
  | k + 1, h => by
    unfold clb at h
    split at h
    · rename_i y hy
      cases h
      obtain ⟨h1, h2, h3⟩ := clb_some hy
      exact ⟨h1, by omega, h3⟩
    · simp only [Option.map_eq_some_iff] at h
      obtain ⟨a, ha, rfl⟩ := h
      obtain ⟨h1, h2⟩ := cla_some ha
      exact ⟨h1, Nat.lt_succ_self _, h2⟩
theorem clb_none {D : Duct} : ∀ {k : Nat}, clb D k = none ↔ ∀ b, b < k → ∀ a, a < b → D.lo b ≤ D.hi a
  | 0 => ⟨fun _ b h => absurd h (Nat.not_lt_zero _), fun _ => rfl⟩
  | k + 1 => by
    have ih := clb_none (D := D) (k := k)
    unfold clb
    split
    · rename_i y hy
      constructor
      · intro h; cases h
      · intro h
        obtain ⟨h1, h2, h3⟩ := clb_some hy
        have := h y.2 (by omega) y.1 h1
        omega
    · rename_i hy
      rw [Option.map_eq_none_iff, cla_none]
      constructor
      · intro h b hb
        rcases Nat.lt_succ_iff_lt_or_eq.1 hb with h1 | rfl
        · exact ih.1 hy b h1
        · exact h
      · intro h; exact h k (by omega)

/-- the greatest flow past a point -/
def fh (D : Duct) : Nat → Int
  | 0 => D.hi 0
  | k + 1 => min (D.hi (k + 1)) (fh D k)
/-- the greatest of the lows of j + 1 points from k on -/
def mx (D : Duct) : Nat → Nat → Int
  | 0, k => D.lo k
  | j + 1, k => max (D.lo k) (mx D j (k + 1))
def fl (D : Duct) (k : Nat) : Int := mx D (D.n - 1 - k) k
theorem fh_le {D : Duct} : ∀ {k : Nat}, fh D k ≤ D.hi k
  | 0 => Int.le_refl _
  | k + 1 => by unfold fh; exact Int.min_le_left _ _
theorem fh_anti {D : Duct} (k : Nat) : fh D (k + 1) ≤ fh D k := by show min _ _ ≤ _; exact Int.min_le_right _ _
theorem fh_mono {D : Duct} {i : Nat} : ∀ {k : Nat}, i ≤ k → fh D k ≤ fh D i
  | 0, h => by
    cases Nat.le_zero.1 h
    exact Int.le_refl _
  | k + 1, h => by
    rcases Nat.lt_or_ge i (k + 1) with h1 | h1
    · exact Int.le_trans (fh_anti k) (fh_mono (by omega))
    · obtain rfl : i = k + 1 := by omega
      exact Int.le_refl _
theorem fh_at {D : Duct} : ∀ {k : Nat}, ∃ a, a ≤ k ∧ fh D k = D.hi a
  | 0 => ⟨0, Nat.le_refl _, rfl⟩
  | k + 1 => by
    obtain ⟨a, ha, e⟩ := fh_at (D := D) (k := k)
    show ∃ a, a ≤ k + 1 ∧ min _ _ = _
    by_cases h : D.hi (k + 1) ≤ fh D k
    · exact ⟨k + 1, Nat.le_refl _, by rw [Int.min_def, if_pos h]⟩
    · exact ⟨a, by omega, by rw [Int.min_def, if_neg h, e]⟩
theorem le_fh {D : Duct} {x : Int} {k : Nat} (h : ∀ a, a ≤ k → x ≤ D.hi a) : x ≤ fh D k := by
  obtain ⟨a, ha, e⟩ := fh_at (D := D) (k := k)
  rw [e]; exact h a ha
theorem mx_ge {D : Duct} : ∀ {j k i : Nat}, k ≤ i → i ≤ k + j → D.lo i ≤ mx D j k
  | 0, k, i, h1, h2 => by
    cases Nat.le_antisymm h1 h2
    exact Int.le_refl _
  | j + 1, k, i, h1, h2 => by
    show _ ≤ max _ _
    rcases Nat.eq_or_lt_of_le h1 with rfl | h3
    · exact Int.le_max_left _ _
    · exact Int.le_trans (mx_ge (j := j) (k := k + 1) (by omega) (by omega)) (Int.le_max_right _ _)
theorem mx_at {D : Duct} : ∀ {j k : Nat}, ∃ i, k ≤ i ∧ i ≤ k + j ∧ mx D j k = D.lo i
  | 0, k => ⟨k, Nat.le_refl _, Nat.le_refl _, rfl⟩
  | j + 1, k => by
    obtain ⟨i, h1, h2, e⟩ := mx_at (D := D) (j := j) (k := k + 1)
    show ∃ i, _ ∧ _ ∧ max _ _ = _
    by_cases h : D.lo k ≤ mx D j (k + 1)
    · exact ⟨i, by omega, by omega, by rw [Int.max_def, if_pos h, e]⟩
    · exact ⟨k, Nat.le_refl _, by omega, by rw [Int.max_def, if_neg h]⟩
theorem fl_ge {D : Duct} {k i : Nat} (h : k ≤ i) (hi : i < D.n) : D.lo i ≤ fl D k := mx_ge h (by omega)
theorem fl_at {D : Duct} {k : Nat} (hk : k < D.n) : ∃ i, k ≤ i ∧ i < D.n ∧ fl D k = D.lo i := by
  obtain ⟨i, h1, h2, e⟩ := mx_at (D := D) (j := D.n - 1 - k) (k := k)
  exact ⟨i, h1, by omega, e⟩
theorem fl_le {D : Duct} {x : Int} {k : Nat} (hk : k < D.n) (h : ∀ i, k ≤ i → i < D.n → D.lo i ≤ x) : fl D k ≤ x := by
  obtain ⟨i, h1, h2, e⟩ := fl_at hk
  rw [e]; exact h i h1 h2
theorem fl_mono {D : Duct} {i k : Nat} (h : i ≤ k) (hk : k < D.n) : fl D k ≤ fl D i := fl_le hk fun j h1 h2 => fl_ge (by omega) h2
theorem fl_last {D : Duct} (h : 0 < D.n) : fl D (D.n - 1) = D.lo (D.n - 1) := by unfold fl; rw [show D.n - 1 - (D.n - 1) = 0 by omega]; rfl
theorem fl_step {D : Duct} {k : Nat} (h : k + 1 < D.n) : fl D k = max (D.lo k) (fl D (k + 1)) := by
  unfold fl
  rw [show D.n - 1 - k = (D.n - 1 - (k + 1)) + 1 by omega]
  rfl
/-- there is a truth -/
def Duct.one (D : Duct) : Bool := allN (fun k => decide (D.lo k ≤ fh D k)) D.n
theorem one_iff {D : Duct} : D.one = true ↔ ∀ k, k < D.n → D.lo k ≤ fh D k := by unfold Duct.one; rw [allN_iff]; simp
theorem clash_one {D : Duct} (hok : D.ok = true) : D.clash = none ↔ D.one = true := by
  obtain ⟨_, _, _, hp⟩ := D.ok_parts hok
  unfold Duct.clash
  rw [clb_none, one_iff]
  constructor
  · intro h k hk
    refine le_fh fun a ha => ?_
    rcases Nat.eq_or_lt_of_le ha with rfl | h1
    · exact (hp a hk).1.2
    · exact h k hk a h1
  · intro h b hb a ha
    exact Int.le_trans (h b hb) (Int.le_trans (fh_mono (Nat.le_of_lt ha)) fh_le)
theorem clash_not {D : Duct} (hok : D.ok = true) : D.clash ≠ none ↔ D.one = false := by
  rw [Ne, clash_one hok]; simp
theorem fl_fh {D : Duct} (h : D.one = true) {k : Nat} (hk : k < D.n) : fl D k ≤ fh D k :=
  fl_le hk fun i h1 h2 => Int.le_trans (one_iff.1 h i h2) (fh_mono h1)
/-- flows t past tl points are a truth -/
def truthAt (D : Duct) (t : Nat → Int) (k : Nat) : Bool := within (t k) (D.lo k) (D.hi k) && !(decide (0 < k) && decide (t (k - 1) < t k))
def Duct.truth (D : Duct) (tl : Nat) (t : Nat → Int) : Bool := decide (tl = D.n) && allN (truthAt D t) D.n
theorem truth_iff {D : Duct} {tl : Nat} {t : Nat → Int} : D.truth tl t = true ↔ tl = D.n ∧ ∀ k, k < D.n → (D.lo k ≤ t k ∧ t k ≤ D.hi k) ∧ (0 < k → t k ≤ t (k - 1)) := by
  simp only [Duct.truth, Bool.and_eq_true, decide_eq_true_eq, allN_iff, truthAt, within_iff, Bool.not_eq_true', Bool.and_eq_false_iff, decide_eq_false_iff_not, Nat.not_lt, Int.not_lt]
  constructor
  · rintro ⟨h1, h2⟩
    refine ⟨h1, fun k hk => ⟨(h2 k hk).1, fun h0 => ?_⟩⟩
    rcases (h2 k hk).2 with h3 | h3
    · omega
    · exact h3
  · rintro ⟨h1, h2⟩
    refine ⟨h1, fun k hk => ⟨(h2 k hk).1, ?_⟩⟩
    rcases Nat.eq_zero_or_pos k with h3 | h3
    · exact Or.inl (by omega)
    · exact Or.inr ((h2 k hk).2 h3)
theorem truth_fh {D : Duct} : D.truth D.n (fh D) = D.one := by
  rw [Bool.eq_iff_iff, truth_iff, one_iff]
  constructor
  · rintro ⟨_, h⟩ k hk; exact (h k hk).1.1
  · intro h
    refine ⟨rfl, fun k hk => ⟨⟨h k hk, fh_le⟩, fun h0 => ?_⟩⟩
    obtain ⟨j, rfl⟩ : ∃ j, k = j + 1 := ⟨k - 1, by omega⟩
    exact fh_anti j
theorem truth_anti {D : Duct} {tl : Nat} {t : Nat → Int} (h : D.truth tl t = true) {i : Nat} : ∀ {k : Nat}, i ≤ k → k < D.n → t k ≤ t i
  | 0, h1, _ => by
    cases Nat.le_zero.1 h1
    exact Int.le_refl _
  | k + 1, h1, h2 => by
    rcases Nat.lt_or_ge i (k + 1) with h3 | h3
    · exact Int.le_trans (((truth_iff.1 h).2 (k + 1) h2).2 (by omega)) (truth_anti h (k := k) (by omega) (by omega))
    · obtain rfl : i = k + 1 := by omega
      exact Int.le_refl _
theorem truth_fl {D : Duct} {tl : Nat} {t : Nat → Int} (h : D.truth tl t = true) {k : Nat} (hk : k < D.n) : fl D k ≤ t k ∧ t k ≤ fh D k :=
  ⟨fl_le hk fun i h1 h2 => Int.le_trans ((truth_iff.1 h).2 i h2).1.1 (truth_anti h h1 h2), le_fh fun a ha => Int.le_trans (truth_anti h ha hk) ((truth_iff.1 h).2 a (by omega)).1.2⟩
theorem truth_one {D : Duct} {tl : Nat} {t : Nat → Int} (h : D.truth tl t = true) : D.one = true :=
  one_iff.2 fun k hk => le_fh fun a ha => Int.le_trans ((truth_iff.1 h).2 k hk).1.1 (Int.le_trans (truth_anti h ha hk) ((truth_iff.1 h).2 a (by omega)).1.2)
/-- the loss from a point to a later one -/
def lsL (D : Duct) (i j : Nat) : Int := if i = j then 0 else max 0 (fl D i - fh D j)
def lsH (D : Duct) (i j : Nat) : Int := if i = j then 0 else fh D i - fl D j
theorem truth_loss {D : Duct} {tl : Nat} {t : Nat → Int} (h : D.truth tl t = true) {i j : Nat} (hij : i ≤ j) (hj : j < D.n) : lsL D i j ≤ t i - t j ∧ t i - t j ≤ lsH D i j := by
  have h1 := truth_fl h (k := i) (by omega)
  have h2 := truth_fl h hj
  have h3 := truth_anti h hij hj
  unfold lsL lsH
  split
  · rename_i e; subst e; omega
  · omega
theorem loss_le {D : Duct} (h : D.one = true) {i j : Nat} (hij : i ≤ j) (hj : j < D.n) : 0 ≤ lsL D i j ∧ lsL D i j ≤ lsH D i j := by
  have h1 := fl_fh h (k := i) (by omega)
  have h2 := fl_fh h hj
  have h3 := fh_mono (D := D) hij
  have h4 := fl_mono hij hj
  unfold lsL lsH
  split <;> omega
theorem fl_bd {D : Duct} (hok : D.ok = true) {k : Nat} (hk : k < D.n) : 0 ≤ fl D k ∧ fl D k ≤ 99 := by
  obtain ⟨i, _, h2, e⟩ := fl_at hk
  have := (D.ok_parts hok).2.2.2 i h2
  omega
theorem fh_bd {D : Duct} (hok : D.ok = true) {k : Nat} (hk : k < D.n) : 0 ≤ fh D k ∧ fh D k ≤ 99 := by
  obtain ⟨i, h2, e⟩ := fh_at (D := D) (k := k)
  have := (D.ok_parts hok).2.2.2 i (by omega)
  omega
end Go.Proofs.Ytkdlppekjjbgoaa
