/- Rosters of hours: their numbers, what is valid, what a new roster is, and what it costs (mathematics alone). -/
set_option linter.unusedSimpArgs false

set_option linter.unusedVariables false

namespace Go.Proofs.Ytegkgfiaegpihaa

structure Ro where
  n : Nat
  m : Nat
  rm : Nat → Int
  hs : Nat → Int
  fr : Nat → Int
  to : Nat → Int
  co : Nat → Int

def within (n lo hi : Int) : Bool := decide (lo ≤ n ∧ n ≤ hi)
theorem within_tt {n lo hi : Int} (h : lo ≤ n) (h' : n ≤ hi) : within n lo hi = true := by simp [within, h, h']
theorem within_lo {n lo hi : Int} (h : n < lo) : within n lo hi = false := by simp [within]; omega
theorem within_hi {n lo hi : Int} (h : hi < n) : within n lo hi = false := by simp [within]; omega
theorem within_eq {n lo hi : Int} (h : lo ≤ n) : within n lo hi = decide (n ≤ hi) := by simp [within, h]
theorem within_iff {n lo hi : Int} : within n lo hi = true ↔ lo ≤ n ∧ n ≤ hi := by simp [within]

/-- all numbers below k are so -/
def allN (f : Nat → Bool) : Nat → Bool
  | 0 => true
  | k + 1 => allN f k && f k
theorem allN_iff {f : Nat → Bool} : ∀ {k : Nat}, allN f k = true ↔ ∀ i, i < k → f i = true
  | 0 => ⟨fun _ i h => absurd h (Nat.not_lt_zero _), fun _ => rfl⟩
  | k + 1 => by
    have ih := allN_iff (f := f) (k := k)
    constructor
    · intro h i hi
      simp only [allN, Bool.and_eq_true] at h
      rcases Nat.lt_succ_iff_lt_or_eq.1 hi with h1 | rfl
      · exact ih.1 h.1 i h1
      · exact h.2
    · intro h
      simp only [allN, Bool.and_eq_true]
      exact ⟨ih.2 fun i hi => h i (by omega), h k (by omega)⟩
theorem allN_succ {f : Nat → Bool} {k : Nat} (h : allN f k = true) (e : f k = true) : allN f (k + 1) = true := by simp [allN, h, e]
theorem allN_bad {f : Nat → Bool} {k n : Nat} (hk : k < n) (e : f k = false) : allN f n = false := by
  cases h : allN f n with
  | false => rfl
  | true => have := allN_iff.1 h k hk; rw [e] at this; cases this

def isH (D : Ro) (x : Int) : Bool := within x 0 ((D.n : Int) - 1)
def isS (D : Ro) (x : Int) : Bool := within x 0 ((D.m : Int) - 1)
theorem isH_iff {D : Ro} {x : Int} : isH D x = true ↔ 0 ≤ x ∧ x < D.n := by unfold isH; rw [within_iff]; omega
theorem isS_iff {D : Ro} {x : Int} : isS D x = true ↔ 0 ≤ x ∧ x < D.m := by unfold isS; rw [within_iff]; omega
def rmOk (D : Ro) (k : Nat) : Bool := within (D.rm k) 0 6
/-- whether the numbers of a street are such as can be -/
def stP (n : Nat) (h f t c : Int) : Bool := (decide (h = -1) || within h 0 ((n : Int) - 1)) && (within f 0 ((n : Int) - 1) && (within t 0 ((n : Int) - 1) && (decide (f ≤ t) && within c 0 9)))
def stOk (D : Ro) (k : Nat) : Bool := stP D.n (D.hs k) (D.fr k) (D.to k) (D.co k)
def Ro.ok (D : Ro) : Bool := decide (D.n ≤ 8) && (decide (D.m ≤ 6) && (allN (rmOk D) D.n && allN (stOk D) D.m))
structure StOk (D : Ro) (k : Nat) : Prop where
  hs : D.hs k = -1 ∨ (0 ≤ D.hs k ∧ D.hs k < D.n)
  fr : 0 ≤ D.fr k ∧ D.fr k < D.n
  to : 0 ≤ D.to k ∧ D.to k < D.n
  ft : D.fr k ≤ D.to k
  co : 0 ≤ D.co k ∧ D.co k ≤ 9
theorem stOk_iff {D : Ro} {k : Nat} : stOk D k = true ↔ StOk D k := by
  simp only [stOk, stP, Bool.and_eq_true, Bool.or_eq_true, within_iff, decide_eq_true_eq]
  exact ⟨fun ⟨a, b, c, d, e⟩ => ⟨by omega, by omega, by omega, d, e⟩, fun ⟨a, b, c, d, e⟩ => ⟨by omega, by omega, by omega, d, e⟩⟩
structure OkP (D : Ro) : Prop where
  n : D.n ≤ 8
  m : D.m ≤ 6
  rm : ∀ k, k < D.n → 0 ≤ D.rm k ∧ D.rm k ≤ 6
  st : ∀ k, k < D.m → StOk D k
theorem Ro.ok_iff {D : Ro} : D.ok = true ↔ OkP D := by
  simp only [Ro.ok, Bool.and_eq_true, decide_eq_true_eq]
  exact ⟨fun h => ⟨h.1, h.2.1, fun k hk => within_iff.1 (allN_iff.1 h.2.2.1 k hk), fun k hk => stOk_iff.1 (allN_iff.1 h.2.2.2 k hk)⟩,
    fun h => ⟨h.n, h.m, allN_iff.2 fun k hk => within_iff.2 (h.rm k hk), allN_iff.2 fun k hk => stOk_iff.2 (h.st k hk)⟩⟩
theorem Ro.ok_n {D : Ro} (h : 8 < D.n) : D.ok = false := by simp [Ro.ok]; intro; omega
theorem Ro.ok_m {D : Ro} (h : 6 < D.m) : D.ok = false := by simp [Ro.ok]; intro _ h'; omega
theorem Ro.ok_rm {D : Ro} (h : allN (rmOk D) D.n = false) : D.ok = false := by simp [Ro.ok, h]
theorem Ro.ok_st {D : Ro} (h : allN (stOk D) D.m = false) : D.ok = false := by simp [Ro.ok, h]
theorem Ro.ok_mk {D : Ro} (h1 : D.n ≤ 8) (h2 : D.m ≤ 6) (h3 : allN (rmOk D) D.n = true) (h4 : allN (stOk D) D.m = true) : D.ok = true := by simp [Ro.ok, h1, h2, h3, h4]

/-- by how many hours a street is moved -/
def mvP (hs h : Int) : Int := if hs = -1 then 0 else max (hs - h) (h - hs)
def mv (D : Ro) (k : Nat) (h : Int) : Int := mvP (D.hs k) h
/-- how many of the first k numbers are h -/
def cnt (f : Nat → Int) (h : Int) : Nat → Nat
  | 0 => 0
  | k + 1 => cnt f h k + (if f k = h then 1 else 0)
theorem cnt_le (f : Nat → Int) (h : Int) : ∀ k, cnt f h k ≤ k
  | 0 => Nat.le_refl _
  | k + 1 => by have := cnt_le f h k; simp only [cnt]; split <;> omega
theorem cnt_mono (f : Nat → Int) (h : Int) {a b : Nat} (hab : a ≤ b) : cnt f h a ≤ cnt f h b := by
  induction b with
  | zero => obtain rfl : a = 0 := by omega
            exact Nat.le_refl _
  | succ b ih =>
    rcases Nat.lt_or_ge b a with h1 | h1
    · obtain rfl : a = b + 1 := by omega
      exact Nat.le_refl _
    · have := ih h1; simp only [cnt]; omega
/-- street k can have its hour if those before it have theirs -/
def newAt (D : Ro) (f : Nat → Int) (k : Nat) : Bool := within (f k) (D.fr k) (D.to k) && decide ((cnt f (f k) k : Int) < D.rm (f k).toNat)
def isNw (D : Ro) (l : Nat) (f : Nat → Int) : Bool := decide (l = D.m) && allN (newAt D f) D.m
/-- a new roster -/
structure NR (D : Ro) (f : Nat → Int) : Prop where
  h : ∀ k, k < D.m → D.fr k ≤ f k ∧ f k ≤ D.to k
  c : ∀ h : Nat, h < D.n → (cnt f h D.m : Int) ≤ D.rm h
theorem newAll_NR {D : Ro} (hD : OkP D) {f : Nat → Int} : allN (newAt D f) D.m = true ↔ NR D f := by
  rw [allN_iff]
  simp only [newAt, Bool.and_eq_true, within_iff, decide_eq_true_eq]
  constructor
  · intro h
    refine ⟨fun k hk => (h k hk).1, fun x hx => ?_⟩
    suffices H : ∀ k, k ≤ D.m → (cnt f x k : Int) ≤ D.rm x from H _ (Nat.le_refl _)
    intro k
    induction k with
    | zero => intro _; have := (hD.rm x hx).1; simpa [cnt] using this
    | succ k ih =>
      intro hk
      have ih := ih (by omega)
      have h2 := h k (by omega)
      simp only [cnt]
      by_cases e : f k = x
      · rw [if_pos e]; rw [e] at h2; simp at h2; omega
      · rw [if_neg e]; simpa using ih
  · intro h k hk
    have h1 := h.h k hk
    have hs := hD.st k hk
    refine ⟨h1, ?_⟩
    have hx : (f k).toNat < D.n := by have := hs.fr; have := hs.to; omega
    have e : (((f k).toNat : Nat) : Int) = f k := by have := hs.fr; omega
    have h2 := h.c (f k).toNat hx
    rw [e] at h2
    have h3 := cnt_mono f (f k) (show k + 1 ≤ D.m by omega)
    simp only [cnt, if_true] at h3
    omega
theorem isNw_iff {D : Ro} (hD : OkP D) {l : Nat} {f : Nat → Int} : isNw D l f = true ↔ l = D.m ∧ NR D f := by
  unfold isNw; rw [Bool.and_eq_true, decide_eq_true_eq, newAll_NR hD]
theorem isNw_len {D : Ro} {l : Nat} {f : Nat → Int} (h : l ≠ D.m) : isNw D l f = false := by simp [isNw, h]
theorem isNw_eq {D : Ro} {f : Nat → Int} : isNw D D.m f = allN (newAt D f) D.m := by simp [isNw]
/-- the numbers of the first k streets together -/
def sumN (g : Nat → Int) : Nat → Int
  | 0 => 0
  | k + 1 => sumN g k + g k
def costF (D : Ro) (f : Nat → Int) (k : Nat) : Int := sumN (fun i => mv D i (f i) * D.co i) k
theorem mvP_bd {n : Nat} {hs h : Int} (h1 : hs = -1 ∨ (0 ≤ hs ∧ hs < n)) (h2 : 0 ≤ h ∧ h < n) : 0 ≤ mvP hs h ∧ mvP hs h < n := by
  unfold mvP; split
  · omega
  · rename_i h3; omega
theorem mul_bd {a b A B : Int} (h1 : 0 ≤ a ∧ a ≤ A) (h2 : 0 ≤ b ∧ b ≤ B) : 0 ≤ a * b ∧ a * b ≤ A * B := by
  refine ⟨Int.mul_nonneg h1.1 h2.1, ?_⟩
  exact Int.mul_le_mul h1.2 h2.2 h2.1 (by omega)
theorem cost1_bd {D : Ro} (hD : OkP D) {k : Nat} (hk : k < D.m) {h : Int} (hh : 0 ≤ h ∧ h < D.n) : 0 ≤ mv D k h * D.co k ∧ mv D k h * D.co k ≤ 63 := by
  have h1 := mvP_bd (hD.st k hk).hs hh
  have h2 := hD.n
  exact mul_bd (A := 7) (B := 9) ⟨h1.1, by unfold mv; omega⟩ (hD.st k hk).co
theorem sumN_bd {g : Nat → Int} {A : Int} : ∀ {k : Nat}, (∀ i, i < k → 0 ≤ g i ∧ g i ≤ A) → 0 ≤ sumN g k ∧ sumN g k ≤ A * k
  | 0, _ => by simp [sumN]
  | k + 1, h => by
    have ih := sumN_bd (k := k) (fun i hi => h i (by omega))
    have h2 := h k (by omega)
    simp only [sumN]
    have : A * ((k + 1 : Nat) : Int) = A * k + A := by rw [Int.natCast_add, Int.mul_add]; simp
    omega
theorem NR.hr {D : Ro} (hD : OkP D) {f : Nat → Int} (h : NR D f) {k : Nat} (hk : k < D.m) : 0 ≤ f k ∧ f k < D.n := by
  have := h.h k hk; have := (hD.st k hk).fr; have := (hD.st k hk).to; omega
theorem cost_bd {D : Ro} (hD : OkP D) {f : Nat → Int} (h : NR D f) {k : Nat} (hk : k ≤ D.m) : 0 ≤ costF D f k ∧ costF D f k ≤ 378 := by
  have h1 := sumN_bd (g := fun i => mv D i (f i) * D.co i) (A := 63) (k := k) (fun i hi => cost1_bd hD (by omega) (h.hr hD (by omega)))
  have := hD.m
  unfold costF; omega
/-- the streets that are moved, of the first k, in their order -/
def movedL (D : Ro) (f : Nat → Int) : Nat → List Nat
  | 0 => []
  | k + 1 => movedL D f k ++ (if 0 < mv D k (f k) then [k] else [])
theorem movedL_len (D : Ro) (f : Nat → Int) : ∀ k, (movedL D f k).length ≤ k
  | 0 => by simp [movedL]
  | k + 1 => by have := movedL_len D f k; simp only [movedL, List.length_append]; split <;> simp <;> omega
/-- by how many hours that street is moved that is moved by most -/
def farF (D : Ro) (f : Nat → Int) : Nat → Int
  | 0 => 0
  | k + 1 => max (farF D f k) (mv D k (f k))
end Go.Proofs.Ytegkgfiaegpihaa
