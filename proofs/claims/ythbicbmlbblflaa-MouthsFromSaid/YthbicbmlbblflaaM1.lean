/- Boxes of mouths: their numbers, what is valid, who has the next gauge (mathematics alone). -/
set_option linter.unusedSimpArgs false

set_option linter.unusedVariables false

namespace Go.Proofs.Ythbicbmlbblflaa

structure Bx where
  n : Nat
  m : Nat
  sh : Nat → Int
  mo : Nat → Int

def within (n lo hi : Int) : Bool := decide (lo ≤ n ∧ n ≤ hi)
theorem within_tt {n lo hi : Int} (h : lo ≤ n) (h' : n ≤ hi) : within n lo hi = true := by simp [within, h, h']
theorem within_lo {n lo hi : Int} (h : n < lo) : within n lo hi = false := by simp [within]; omega
theorem within_hi {n lo hi : Int} (h : hi < n) : within n lo hi = false := by simp [within]; omega
theorem within_eq {n lo hi : Int} (h : lo ≤ n) : within n lo hi = decide (n ≤ hi) := by simp [within, h]
theorem within_iff {n lo hi : Int} : within n lo hi = true ↔ lo ≤ n ∧ n ≤ hi := by simp [within]

/-- all numbers below k are so -/
def allN (f : Nat → Bool) : Nat → Bool
  | 0 => true
  | k + 1 => allN f k && f k
theorem allN_iff {f : Nat → Bool} : ∀ {k : Nat}, allN f k = true ↔ ∀ i, i < k → f i = true
  | 0 => ⟨fun _ i h => absurd h (Nat.not_lt_zero _), fun _ => rfl⟩
  | k + 1 => by
    have ih := allN_iff (f := f) (k := k)
    constructor
    · intro h i hi
      simp only [allN, Bool.and_eq_true] at h
      rcases Nat.lt_succ_iff_lt_or_eq.1 hi with h1 | rfl
      · exact ih.1 h.1 i h1
      · exact h.2
    · intro h
      simp only [allN, Bool.and_eq_true]
      exact ⟨ih.2 fun i hi => h i (by omega), h k (by omega)⟩
theorem allN_succ {f : Nat → Bool} {k : Nat} (h : allN f k = true) (e : f k = true) : allN f (k + 1) = true := by simp [allN, h, e]
theorem allN_bad {f : Nat → Bool} {k n : Nat} (hk : k < n) (e : f k = false) : allN f n = false := by
  cases h : allN f n with
  | false => rfl
  | true => have := allN_iff.1 h k hk; rw [e] at this; cases this


def allW (f : Nat → Int) (lo hi : Int) (n : Nat) : Bool := allN (fun k => within (f k) lo hi) n
def Bx.ok (D : Bx) : Bool := decide (D.n ≤ 5) && (decide (D.m = D.n) && (allW D.sh 0 20 D.n && allW D.mo 0 20 D.m))
theorem allW_iff {f : Nat → Int} {lo hi : Int} {n : Nat} : allW f lo hi n = true ↔ ∀ k, k < n → lo ≤ f k ∧ f k ≤ hi := by
  unfold allW; rw [allN_iff]
  exact ⟨fun h k hk => within_iff.1 (h k hk), fun h k hk => within_iff.2 (h k hk)⟩
theorem Bx.ok_parts {D : Bx} (h : D.ok = true) : D.n ≤ 5 ∧ D.m = D.n ∧ (∀ k, k < D.n → 0 ≤ D.sh k ∧ D.sh k ≤ 20) ∧ ∀ k, k < D.n → 0 ≤ D.mo k ∧ D.mo k ≤ 20 := by
  simp only [Bx.ok, Bool.and_eq_true, decide_eq_true_eq] at h
  exact ⟨h.1, h.2.1, allW_iff.1 h.2.2.1, fun k hk => allW_iff.1 h.2.2.2 k (by rw [h.2.1]; exact hk)⟩
theorem Bx.ok_n {D : Bx} (h : 5 < D.n) : D.ok = false := by simp [Bx.ok]; intro; omega
theorem Bx.ok_m {D : Bx} (h : D.m ≠ D.n) : D.ok = false := by simp [Bx.ok, h]
theorem Bx.ok_eq {D : Bx} (h : D.n ≤ 5) (h2 : D.m = D.n) : D.ok = (allW D.sh 0 20 D.n && allW D.mo 0 20 D.m) := by simp [Bx.ok, h, h2]
theorem Bx.ok_mk {D : Bx} (h : D.n ≤ 5) (h2 : D.m = D.n) (h3 : ∀ k, k < D.n → 0 ≤ D.sh k ∧ D.sh k ≤ 20) (h4 : ∀ k, k < D.n → 0 ≤ D.mo k ∧ D.mo k ≤ 20) : D.ok = true := by
  rw [Bx.ok_eq h h2, allW_iff.2 h3, allW_iff.2 (by rw [h2]; exact h4)]; rfl

/-- whether a quarter can't have a gauge more -/
def blk (D : Bx) (g : Nat → Int) (k : Nat) : Bool := decide (D.sh k = 0) || decide (g k = D.mo k)
/-- whether one more gauge is worth more to k than to b -/
def btr (D : Bx) (g : Nat → Int) (b k : Nat) : Bool := decide (D.sh b * (2 * g k + 1) < D.sh k * (2 * g b + 1))
/-- of the first quarters the one that has the next gauge -/
def nxA (D : Bx) (g : Nat → Int) : Nat → Option Nat
  | 0 => none
  | k + 1 => if blk D g k then nxA D g k else
    match nxA D g k with
    | none => some k
    | some b => if btr D g b k then some k else some b
def nx (D : Bx) (g : Nat → Int) : Option Nat := nxA D g D.n
def onI : Option Nat → Int
  | none => 0
  | some k => (k : Int)
def up (g : Nat → Int) (q : Nat) : Nat → Int := fun i => if i = q then g i + 1 else g i
/-- how many gauges each quarter has of a flow -/
def gv (D : Bx) : Nat → Nat → Int
  | 0 => fun _ => 0
  | f + 1 => match nx D (gv D f) with
    | none => gv D f
    | some q => up (gv D f) q
/-- the quarters that have the gauges of a flow, one after the other -/
def tn (D : Bx) : Nat → List Nat
  | 0 => []
  | f + 1 => match nx D (gv D f) with
    | none => tn D f
    | some q => tn D f ++ [q]
def ups (l : List Nat) : Nat → Int := l.foldl up (fun _ => 0)
theorem ups_snoc (l : List Nat) (q : Nat) : ups (l ++ [q]) = up (ups l) q := by simp [ups]
theorem gv_ups (D : Bx) : ∀ f, gv D f = ups (tn D f)
  | 0 => rfl
  | f + 1 => by
    have ih := gv_ups D f
    unfold gv tn
    cases h : nx D (gv D f) with
    | none => simpa using ih
    | some q => simp only []; rw [ups_snoc, ih]
theorem nxA_blk {D : Bx} {g : Nat → Int} {k : Nat} (h : blk D g k = true) : nxA D g (k + 1) = nxA D g k := by
  show (if blk D g k then nxA D g k else _) = _
  rw [if_pos h]
theorem nxA_first {D : Bx} {g : Nat → Int} {k : Nat} (h : blk D g k = false) (h2 : nxA D g k = none) : nxA D g (k + 1) = some k := by
  unfold nxA; rw [h, h2]; rfl
theorem nxA_btr {D : Bx} {g : Nat → Int} {k b : Nat} (h : blk D g k = false) (h2 : nxA D g k = some b) : nxA D g (k + 1) = if btr D g b k then some k else some b := by
  unfold nxA; rw [h, h2]; rfl
theorem nxA_lt {D : Bx} {g : Nat → Int} : ∀ {k b : Nat}, nxA D g k = some b → b < k ∧ blk D g b = false
  | 0, b, h => by cases h
  | k + 1, b, h => by
    cases hb : blk D g k with
    | true => rw [nxA_blk hb] at h; have := nxA_lt h; exact ⟨by omega, this.2⟩
    | false =>
      cases h2 : nxA D g k with
      | none => rw [nxA_first hb h2] at h; cases h; exact ⟨by omega, hb⟩
      | some c =>
        rw [nxA_btr hb h2] at h
        split at h
        · cases h; exact ⟨by omega, hb⟩
        · cases h; have := nxA_lt h2; exact ⟨by omega, this.2⟩
theorem nxA_none {D : Bx} {g : Nat → Int} : ∀ {k : Nat}, nxA D g k = none ↔ ∀ i, i < k → blk D g i = true
  | 0 => ⟨fun _ i h => absurd h (Nat.not_lt_zero _), fun _ => rfl⟩
  | k + 1 => by
    have ih := nxA_none (D := D) (g := g) (k := k)
    cases hb : blk D g k with
    | true =>
      rw [nxA_blk hb, ih]
      constructor
      · intro h i hi
        rcases Nat.lt_succ_iff_lt_or_eq.1 hi with h1 | rfl
        · exact h i h1
        · exact hb
      · intro h i hi; exact h i (by omega)
    | false =>
      constructor
      · intro h
        cases h2 : nxA D g k with
        | none => rw [nxA_first hb h2] at h; cases h
        | some c => rw [nxA_btr hb h2] at h; split at h <;> cases h
      · intro h; have := h k (by omega); rw [hb] at this; cases this
theorem nx_lt {D : Bx} {g : Nat → Int} {q : Nat} (h : nx D g = some q) : q < D.n ∧ blk D g q = false := nxA_lt h
theorem blk_no {D : Bx} {g : Nat → Int} {k : Nat} (h : blk D g k = false) : D.sh k ≠ 0 ∧ g k ≠ D.mo k := by simpa [blk] using h
theorem up_same (g : Nat → Int) (q : Nat) : up g q q = g q + 1 := by simp [up]
theorem up_ne (g : Nat → Int) {q i : Nat} (h : i ≠ q) : up g q i = g i := by simp [up, h]
/-- what holds of the gauges of any flow -/
theorem gv_bd {D : Bx} (hok : D.ok = true) : ∀ (f i : Nat), 0 ≤ gv D f i ∧ (i < D.n → gv D f i ≤ D.mo i) ∧ (D.n ≤ i → gv D f i = 0) ∧ (D.sh i = 0 → gv D f i = 0)
  | 0, i => ⟨Int.le_refl _, fun hi => ((Bx.ok_parts hok).2.2.2 i hi).1, fun _ => rfl, fun _ => rfl⟩
  | f + 1, i => by
    have ih := gv_bd hok f i
    unfold gv
    cases h : nx D (gv D f) with
    | none => simpa using ih
    | some q =>
      simp only []
      obtain ⟨h1, h2⟩ := nx_lt h
      obtain ⟨h3, h4⟩ := blk_no h2
      by_cases hi : i = q
      · subst hi
        rw [up_same]
        exact ⟨by omega, fun hi => by have := ih.2.1 hi; omega, fun hi => by omega, fun hi => absurd hi h3⟩
      · rw [up_ne _ hi]; exact ih
theorem nx_none_next {D : Bx} {f : Nat} (h : nx D (gv D f) = none) : gv D (f + 1) = gv D f ∧ tn D (f + 1) = tn D f := by
  constructor
  · show (match nx D (gv D f) with | none => gv D f | some q => up (gv D f) q) = _
    rw [h]
  · show (match nx D (gv D f) with | none => tn D f | some q => tn D f ++ [q]) = _
    rw [h]
theorem nx_some_next {D : Bx} {f q : Nat} (h : nx D (gv D f) = some q) : gv D (f + 1) = up (gv D f) q ∧ tn D (f + 1) = tn D f ++ [q] := by
  constructor
  · show (match nx D (gv D f) with | none => gv D f | some q => up (gv D f) q) = _
    rw [h]
  · show (match nx D (gv D f) with | none => tn D f | some q => tn D f ++ [q]) = _
    rw [h]
theorem stop_stays {D : Bx} {f : Nat} (h : nx D (gv D f) = none) : ∀ {e : Nat}, f ≤ e → gv D e = gv D f ∧ tn D e = tn D f
  | 0, he => by obtain rfl : f = 0 := by omega
                exact ⟨rfl, rfl⟩
  | e + 1, he => by
    rcases Nat.lt_or_ge e f with h1 | h1
    · obtain rfl : f = e + 1 := by omega
      exact ⟨rfl, rfl⟩
    · obtain ⟨g1, g2⟩ := stop_stays h h1
      have : nx D (gv D e) = none := by rw [g1]; exact h
      obtain ⟨k1, k2⟩ := nx_none_next this
      exact ⟨k1.trans g1, k2.trans g2⟩
theorem tn_pre {D : Bx} {f : Nat} : ∀ {e : Nat}, f ≤ e → tn D f <+: tn D e
  | 0, he => by obtain rfl : f = 0 := by omega
                exact List.prefix_refl _
  | e + 1, he => by
    rcases Nat.lt_or_ge e f with h1 | h1
    · obtain rfl : f = e + 1 := by omega
      exact List.prefix_refl _
    · refine (tn_pre h1).trans ?_
      cases h : nx D (gv D e) with
      | none => rw [(nx_none_next h).2]; exact List.prefix_refl _
      | some q => rw [(nx_some_next h).2]; exact ⟨[q], rfl⟩
/-- a number of a sum of numbers -/
def sumN (f : Nat → Int) : Nat → Int
  | 0 => 0
  | k + 1 => sumN f k + f k
theorem sumN_ge {f : Nat → Int} : ∀ {k : Nat}, (∀ i, i < k → 0 ≤ f i) → 0 ≤ sumN f k
  | 0, _ => Int.le_refl _
  | k + 1, h => by
    have := sumN_ge (k := k) (fun i hi => h i (by omega))
    have := h k (by omega)
    show 0 ≤ sumN f k + f k
    omega
theorem sumN_le {f : Nat → Int} {c : Int} : ∀ {k : Nat}, (∀ i, i < k → f i ≤ c) → sumN f k ≤ c * k
  | 0, _ => by simp [sumN]
  | k + 1, h => by
    have h1 := sumN_le (k := k) (fun i hi => h i (by omega))
    have h2 := h k (by omega)
    show sumN f k + f k ≤ c * ((k + 1 : Nat) : Int)
    have : c * ((k + 1 : Nat) : Int) = c * k + c := by rw [Int.natCast_add]; rw [Int.mul_add]; simp
    omega
theorem sumN_congr {f g : Nat → Int} : ∀ {k : Nat}, (∀ i, i < k → f i = g i) → sumN f k = sumN g k
  | 0, _ => rfl
  | k + 1, h => by
    have := sumN_congr (k := k) (fun i hi => h i (by omega))
    show sumN f k + f k = sumN g k + g k
    rw [this, h k (by omega)]
theorem sumN_up {g : Nat → Int} {q : Nat} : ∀ {k : Nat}, sumN (up g q) k = sumN g k + if q < k then 1 else 0
  | 0 => by simp [sumN]
  | k + 1 => by
    have := sumN_up (g := g) (q := q) (k := k)
    show sumN (up g q) k + up g q k = sumN g k + g k + _
    rw [this]
    by_cases h : k = q
    · subst h; rw [up_same, if_neg (by omega), if_pos (by omega)]; omega
    · rw [up_ne _ h]
      by_cases h2 : q < k
      · rw [if_pos h2, if_pos (by omega)]; omega
      · rw [if_neg h2, if_neg (by omega)]; omega
theorem tn_len (D : Bx) : ∀ f, ((tn D f).length : Int) = sumN (gv D f) D.n
  | 0 => by
    show (0 : Int) = _
    have : ∀ k, sumN (gv D 0) k = 0 := fun k => by induction k with
      | zero => rfl
      | succ k ih => show sumN (gv D 0) k + gv D 0 k = 0; rw [ih]; rfl
    rw [this]
  | f + 1 => by
    have ih := tn_len D f
    cases h : nx D (gv D f) with
    | none => rw [(nx_none_next h).1, (nx_none_next h).2]; exact ih
    | some q =>
      rw [(nx_some_next h).1, (nx_some_next h).2, sumN_up, if_pos (nx_lt h).1, List.length_append, Int.natCast_add, ih]; rfl
theorem tn_le (D : Bx) : ∀ f, (tn D f).length ≤ f
  | 0 => Nat.le_refl _
  | f + 1 => by
    have ih := tn_le D f
    cases h : nx D (gv D f) with
    | none => rw [(nx_none_next h).2]; omega
    | some q => rw [(nx_some_next h).2, List.length_append]; simp; omega
end Go.Proofs.Ythbicbmlbblflaa
