/- Towns with worlds: what is valid, which worlds are left, spans, who is blamed (mathematics). -/
set_option linter.unusedSimpArgs false

set_option linter.unusedVariables false

namespace Go.Proofs.YtdjkbpenppdnlaaDoor

structure Tn where
  wn : Int
  nw : Nat
  rl : Nat → Nat
  cl : Nat → Nat → Nat
  fa : Nat → Nat → Nat → Int
  nf : Nat
  ff : Nat → Int
  fm : Nat → Int
  ft : Nat → Int
  fl : Nat → Int
  fh : Nat → Int

def within (n lo hi : Int) : Bool := decide (lo ≤ n ∧ n ≤ hi)
theorem within_tt {n lo hi : Int} (h : lo ≤ n) (h' : n ≤ hi) : within n lo hi = true := by simp [within, h, h']
theorem within_lo {n lo hi : Int} (h : n < lo) : within n lo hi = false := by simp [within]; omega
theorem within_hi {n lo hi : Int} (h : hi < n) : within n lo hi = false := by simp [within]; omega
theorem within_iff {n lo hi : Int} : within n lo hi = true ↔ lo ≤ n ∧ n ≤ hi := by simp [within]
def allN (f : Nat → Bool) : Nat → Bool
  | 0 => true
  | k + 1 => allN f k && f k
theorem allN_iff {f : Nat → Bool} : ∀ {k : Nat}, allN f k = true ↔ ∀ i, i < k → f i = true
  | 0 => ⟨fun _ i h => absurd h (Nat.not_lt_zero _), fun _ => rfl⟩
  | k + 1 => by
    have ih := allN_iff (f := f) (k := k)
    constructor
    · intro h i hi
      simp only [allN, Bool.and_eq_true] at h
      rcases Nat.lt_succ_iff_lt_or_eq.1 hi with h1 | rfl
      · exact ih.1 h.1 i h1
      · exact h.2
    · intro h
      simp only [allN, Bool.and_eq_true]
      exact ⟨ih.2 fun i hi => h i (by omega), h k (by omega)⟩
theorem allN_bad {f : Nat → Bool} {k n : Nat} (hk : k < n) (e : f k = false) : allN f n = false := by
  cases h : allN f n with
  | false => rfl
  | true => have := allN_iff.1 h k hk; rw [e] at this; cases this
theorem allN_congr {f g : Nat → Bool} : ∀ {k : Nat}, (∀ i, i < k → f i = g i) → allN f k = allN g k
  | 0, _ => rfl
  | k + 1, h => by unfold allN; rw [allN_congr fun i hi => h i (by omega), h k (by omega)]
/-- one row of a world; a world; a fact -/
def Tn.rowOk (T : Tn) (w i : Nat) : Bool := decide ((T.cl w i : Int) = T.wn) && allN (fun k => within (T.fa w i k) 0 9) (T.cl w i)
def Tn.worldOk (T : Tn) (w : Nat) : Bool := decide ((T.rl w : Int) = T.wn) && allN (T.rowOk w) (T.rl w)
def Tn.well (T : Tn) (k : Int) : Bool := within k 0 (T.wn - 1)
def Tn.factOk (T : Tn) (k : Nat) : Bool := T.well (T.ff k) && (T.well (T.ft k) && (within (T.fm k) 1 9 && (within (T.fh k) 0 99 && within (T.fl k) 0 (T.fh k))))
def Tn.ok (T : Tn) : Bool := within T.wn 0 4 && (decide (T.nw ≤ 6) && (decide (T.nf ≤ 6) && (allN T.worldOk T.nw && allN T.factOk T.nf)))
theorem Tn.ok_parts {T : Tn} (h : T.ok = true) : (0 ≤ T.wn ∧ T.wn ≤ 4) ∧ T.nw ≤ 6 ∧ T.nf ≤ 6 ∧
    (∀ w, w < T.nw → (T.rl w : Int) = T.wn ∧ ∀ i, i < T.rl w → (T.cl w i : Int) = T.wn ∧ ∀ k, k < T.cl w i → 0 ≤ T.fa w i k ∧ T.fa w i k ≤ 9) ∧
    ∀ k, k < T.nf → (0 ≤ T.ff k ∧ T.ff k < T.wn) ∧ (0 ≤ T.ft k ∧ T.ft k < T.wn) ∧ (1 ≤ T.fm k ∧ T.fm k ≤ 9) ∧ (0 ≤ T.fl k ∧ T.fl k ≤ T.fh k) ∧ T.fh k ≤ 99 := by
  simp only [Tn.ok, Bool.and_eq_true, decide_eq_true_eq] at h
  refine ⟨within_iff.1 h.1, h.2.1, h.2.2.1, fun w hw => ?_, fun k hk => ?_⟩
  · have a := allN_iff.1 h.2.2.2.1 w hw
    simp only [Tn.worldOk, Bool.and_eq_true, decide_eq_true_eq] at a
    refine ⟨a.1, fun i hi => ?_⟩
    have b := allN_iff.1 a.2 i hi
    simp only [Tn.rowOk, Bool.and_eq_true, decide_eq_true_eq] at b
    exact ⟨b.1, fun k hk => within_iff.1 (allN_iff.1 b.2 k hk)⟩
  · have a := allN_iff.1 h.2.2.2.2 k hk
    simp only [Tn.factOk, Tn.well, Bool.and_eq_true] at a
    have a1 := within_iff.1 a.1
    have a2 := within_iff.1 a.2.1
    have a3 := within_iff.1 a.2.2.1
    have a4 := within_iff.1 a.2.2.2.1
    have a5 := within_iff.1 a.2.2.2.2
    omega
/-- the fall of a well by another one in a world -/
def Tn.fall (T : Tn) (w : Nat) (i k : Int) : Int := T.fa w i.toNat k.toNat
theorem fall_bd {T : Tn} (hok : T.ok = true) {w : Nat} {i k : Int} (hw : w < T.nw) (hi : 0 ≤ i ∧ i < T.wn) (hk : 0 ≤ k ∧ k < T.wn) : 0 ≤ T.fall w i k ∧ T.fall w i k ≤ 9 := by
  obtain ⟨_, _, _, h, _⟩ := T.ok_parts hok
  obtain ⟨h1, h2⟩ := h w hw
  obtain ⟨h3, h4⟩ := h2 i.toNat (by omega)
  exact h4 k.toNat (by omega)
def Tn.agr (T : Tn) (w k : Nat) : Bool := within (T.fall w (T.ff k) (T.ft k) * T.fm k) (T.fl k) (T.fh k)
def Tn.lft (T : Tn) (w : Nat) : Bool := allN (T.agr w) T.nf
/-- the first numbers of which something is so, ascending -/
def pick (b : Nat → Bool) : Nat → List Nat
  | 0 => []
  | n + 1 => pick b n ++ (if b n then [n] else [])
theorem pick_mem {b : Nat → Bool} {x : Nat} : ∀ {n : Nat}, x ∈ pick b n ↔ x < n ∧ b x = true
  | 0 => by simp [pick]
  | n + 1 => by
    have ih := pick_mem (b := b) (x := x) (n := n)
    unfold pick
    rw [List.mem_append, ih]
    by_cases h : b n = true
    · rw [if_pos h]
      simp only [List.mem_singleton]
      constructor
      · rintro (h1 | rfl)
        · exact ⟨by omega, h1.2⟩
        · exact ⟨Nat.lt_succ_self _, h⟩
      · rintro ⟨h1, h2⟩
        rcases Nat.lt_succ_iff_lt_or_eq.1 h1 with h3 | h3
        · exact Or.inl ⟨h3, h2⟩
        · exact Or.inr h3
    · rw [if_neg h]
      simp only [List.not_mem_nil, or_false]
      constructor
      · rintro ⟨h1, h2⟩; exact ⟨by omega, h2⟩
      · rintro ⟨h1, h2⟩
        rcases Nat.lt_succ_iff_lt_or_eq.1 h1 with h3 | h3
        · exact ⟨h3, h2⟩
        · subst h3; exact absurd h2 h
theorem pick_len {b : Nat → Bool} : ∀ {n : Nat}, (pick b n).length ≤ n
  | 0 => Nat.le_refl _
  | n + 1 => by
    have := pick_len (b := b) (n := n)
    unfold pick
    rw [List.length_append]
    split <;> simp <;> omega
theorem pick_congr {b c : Nat → Bool} : ∀ {n : Nat}, (∀ i, i < n → b i = c i) → pick b n = pick c n
  | 0, _ => rfl
  | n + 1, h => by unfold pick; rw [pick_congr fun i hi => h i (by omega), h n (by omega)]
def Tn.LL (T : Tn) : List Nat := pick T.lft T.nw
def Tn.outs (T : Tn) (w : Nat) : List Nat := pick (fun k => !T.agr w k) T.nf
theorem LL_mem {T : Tn} {w : Nat} : w ∈ T.LL ↔ w < T.nw ∧ T.lft w = true := pick_mem
/-- a world is left just if there is no fact with which it does not agree -/
theorem outs_nil {T : Tn} {w : Nat} : T.outs w = [] ↔ T.lft w = true := by
  constructor
  · intro h
    refine allN_iff.2 fun k hk => ?_
    cases e : T.agr w k with
    | true => rfl
    | false =>
      have : k ∈ T.outs w := pick_mem.2 ⟨hk, by simp [e]⟩
      rw [h] at this; cases this
  · intro h
    refine List.eq_nil_iff_forall_not_mem.2 fun k hk => ?_
    obtain ⟨h1, h2⟩ := pick_mem.1 hk
    have := allN_iff.1 h k h1
    rw [this] at h2; cases h2
/-- the least and the greatest value of a list that is not empty -/
def mnL (f : Nat → Int) : List Nat → Int
  | [] => 0
  | [x] => f x
  | x :: y :: l => min (f x) (mnL f (y :: l))
def mxL (f : Nat → Int) : List Nat → Int
  | [] => 0
  | [x] => f x
  | x :: y :: l => max (f x) (mxL f (y :: l))
theorem mnL_le {f : Nat → Int} : ∀ {l : List Nat} {x : Nat}, x ∈ l → mnL f l ≤ f x
  | [y], x, h => by rw [List.mem_singleton.1 h]; exact Int.le_refl _
  | y :: z :: l, x, h => by
    show min _ _ ≤ _
    rcases List.mem_cons.1 h with rfl | h
    · omega
    · have := mnL_le (f := f) h; omega
theorem mnL_at {f : Nat → Int} : ∀ {l : List Nat}, l ≠ [] → ∃ x, x ∈ l ∧ mnL f l = f x
  | [y], _ => ⟨y, List.mem_singleton.2 rfl, rfl⟩
  | y :: z :: l, _ => by
    obtain ⟨x, h1, h2⟩ := mnL_at (f := f) (l := z :: l) (by simp)
    rcases Int.le_total (f y) (mnL f (z :: l)) with h | h
    · exact ⟨y, List.mem_cons_self, Int.min_eq_left h⟩
    · exact ⟨x, List.mem_cons_of_mem _ h1, (Int.min_eq_right h).trans h2⟩
theorem mxL_ge {f : Nat → Int} : ∀ {l : List Nat} {x : Nat}, x ∈ l → f x ≤ mxL f l
  | [y], x, h => by rw [List.mem_singleton.1 h]; exact Int.le_refl _
  | y :: z :: l, x, h => by
    show _ ≤ max _ _
    rcases List.mem_cons.1 h with rfl | h
    · omega
    · have := mxL_ge (f := f) h; omega
theorem mxL_at {f : Nat → Int} : ∀ {l : List Nat}, l ≠ [] → ∃ x, x ∈ l ∧ mxL f l = f x
  | [y], _ => ⟨y, List.mem_singleton.2 rfl, rfl⟩
  | y :: z :: l, _ => by
    obtain ⟨x, h1, h2⟩ := mxL_at (f := f) (l := z :: l) (by simp)
    rcases Int.le_total (f y) (mxL f (z :: l)) with h | h
    · exact ⟨x, List.mem_cons_of_mem _ h1, (Int.max_eq_right h).trans h2⟩
    · exact ⟨y, List.mem_cons_self, Int.max_eq_left h⟩
/-- as the specification folds them, from the first one on -/
def fdL (g : Int → Int → Int) (f : Nat → Int) : Int → List Nat → Int
  | s, [] => s
  | s, x :: l => fdL g f (g s (f x)) l
theorem fd_min {f : Nat → Int} : ∀ {l : List Nat} {s : Int}, fdL min f s l = if l = [] then s else min s (mnL f l)
  | [], s => rfl
  | [x], s => rfl
  | x :: y :: l, s => by
    show fdL min f (min s (f x)) (y :: l) = min s (min (f x) (mnL f (y :: l)))
    rw [fd_min, if_neg (by simp)]; omega
theorem fd_max {f : Nat → Int} : ∀ {l : List Nat} {s : Int}, fdL max f s l = if l = [] then s else max s (mxL f l)
  | [], s => rfl
  | [x], s => rfl
  | x :: y :: l, s => by
    show fdL max f (max s (f x)) (y :: l) = max s (max (f x) (mxL f (y :: l)))
    rw [fd_max, if_neg (by simp)]; omega
theorem fd_min_first {f : Nat → Int} {x : Nat} {l : List Nat} (h : x ∈ l) : fdL min f (f x) l = mnL f l := by
  rw [fd_min, if_neg (by intro e; rw [e] at h; cases h)]
  have := mnL_le (f := f) h; omega
theorem fd_max_first {f : Nat → Int} {x : Nat} {l : List Nat} (h : x ∈ l) : fdL max f (f x) l = mxL f l := by
  rw [fd_max, if_neg (by intro e; rw [e] at h; cases h)]
  have := mxL_ge (f := f) h; omega
/-- how many are above a law -/
def cntL (f : Nat → Int) (law : Int) : List Nat → Nat
  | [] => 0
  | x :: l => cntL f law l + (if law < f x then 1 else 0)
theorem cntL_le {f : Nat → Int} {law : Int} : ∀ {l : List Nat}, cntL f law l ≤ l.length
  | [] => Nat.le_refl _
  | x :: l => by
    have := cntL_le (f := f) (law := law) (l := l)
    show _ + _ ≤ l.length + 1
    split <;> omega
theorem cntL_all {f : Nat → Int} {law : Int} : ∀ {l : List Nat}, cntL f law l = l.length ↔ ∀ x, x ∈ l → law < f x
  | [] => by simp [cntL]
  | x :: l => by
    have ih := cntL_all (f := f) (law := law) (l := l)
    have hle := cntL_le (f := f) (law := law) (l := l)
    show cntL f law l + (if law < f x then 1 else 0) = l.length + 1 ↔ _
    by_cases h : law < f x
    · rw [if_pos h]
      constructor
      · intro e y hy
        rcases List.mem_cons.1 hy with rfl | hy
        · exact h
        · exact ih.1 (by omega) y hy
      · intro e
        have := ih.2 fun y hy => e y (List.mem_cons_of_mem _ hy)
        omega
    · rw [if_neg h]
      constructor
      · intro e; omega
      · intro e; exact absurd (e x List.mem_cons_self) h
theorem cntL_none {f : Nat → Int} {law : Int} : ∀ {l : List Nat}, cntL f law l = 0 ↔ ∀ x, x ∈ l → f x ≤ law
  | [] => by simp [cntL]
  | x :: l => by
    have ih := cntL_none (f := f) (law := law) (l := l)
    show cntL f law l + (if law < f x then 1 else 0) = 0 ↔ _
    by_cases h : law < f x
    · rw [if_pos h]
      constructor
      · intro e; omega
      · intro e; have := e x List.mem_cons_self; omega
    · rw [if_neg h]
      constructor
      · intro e y hy
        rcases List.mem_cons.1 hy with rfl | hy
        · omega
        · exact ih.1 (by omega) y hy
      · intro e
        have := ih.2 fun y hy => e y (List.mem_cons_of_mem _ hy)
        omega
/-- Harms: 1 surely, 2 never, 3 perhaps by the least and greatest, and by counting: the same -/
theorem harm_all {f : Nat → Int} {law : Int} {l : List Nat} (h : l ≠ []) : law < mnL f l ↔ cntL f law l = l.length := by
  rw [cntL_all]
  obtain ⟨x, h1, h2⟩ := mnL_at (f := f) h
  exact ⟨fun e y hy => by have := mnL_le (f := f) hy; omega, fun e => by rw [h2]; exact e x h1⟩
theorem harm_none {f : Nat → Int} {law : Int} {l : List Nat} (h : l ≠ []) : mxL f l ≤ law ↔ cntL f law l = 0 := by
  rw [cntL_none]
  obtain ⟨x, h1, h2⟩ := mxL_at (f := f) h
  exact ⟨fun e y hy => by have := mxL_ge (f := f) hy; omega, fun e => by rw [h2]; exact e x h1⟩
/-- by how much all wells together lower a well -/
def lowN (T : Tn) (w : Nat) (d : Nat → Int) (k : Int) : Nat → Int
  | 0 => 0
  | i + 1 => lowN T w d k i + d i * T.fall w (i : Int) k
def Tn.low (T : Tn) (w : Nat) (d : Nat → Int) (k : Int) : Int := lowN T w d k T.wn.toNat
theorem lowN_bd {T : Tn} (hok : T.ok = true) {w : Nat} (hw : w < T.nw) {d : Nat → Int} {k : Int} (hk : 0 ≤ k ∧ k < T.wn) : ∀ {i : Nat}, (i : Int) ≤ T.wn → (∀ j, j < i → 0 ≤ d j ∧ d j ≤ 9) → 0 ≤ lowN T w d k i ∧ lowN T w d k i ≤ 81 * (i : Int)
  | 0, _, _ => by unfold lowN; omega
  | i + 1, hi, hd => by
    have a := lowN_bd hok hw (d := d) hk (i := i) (by omega) (fun j hj => hd j (by omega))
    have b := fall_bd hok hw (i := (i : Int)) ⟨by omega, by omega⟩ hk
    have c := hd i (by omega)
    have m1 : 0 ≤ d i * T.fall w (i : Int) k := Int.mul_nonneg c.1 b.1
    have m2 : d i * T.fall w (i : Int) k ≤ 9 * 9 := Int.mul_le_mul c.2 b.2 b.1 (by omega)
    unfold lowN; omega
theorem lowN_add {T : Tn} {w : Nat} {d e : Nat → Int} {k : Int} : ∀ {i : Nat}, lowN T w (fun j => d j + e j) k i = lowN T w d k i + lowN T w e k i
  | 0 => rfl
  | i + 1 => by unfold lowN; rw [lowN_add, Int.add_mul]; omega
theorem lowN_zero {T : Tn} {w : Nat} {k : Int} : ∀ {i : Nat}, lowN T w (fun _ => 0) k i = 0
  | 0 => rfl
  | i + 1 => by unfold lowN; rw [lowN_zero, Int.zero_mul]; rfl
/-- Total of two draws together -/
theorem sum_inside {f g : Nat → Int} {l : List Nat} (h : l ≠ []) : mnL f l + mnL g l ≤ mnL (fun x => f x + g x) l ∧ mxL (fun x => f x + g x) l ≤ mxL f l + mxL g l ∧ mnL (fun x => f x + g x) l ≤ mxL (fun x => f x + g x) l := by
  obtain ⟨x, h1, h2⟩ := mnL_at (f := fun x => f x + g x) h
  obtain ⟨y, h3, h4⟩ := mxL_at (f := fun x => f x + g x) h
  have a := mnL_le (f := f) h1
  have b := mnL_le (f := g) h1
  have c := mxL_ge (f := f) h3
  have e := mxL_ge (f := g) h3
  have u := mxL_ge (f := fun x => f x + g x) h1
  rw [h2, h4]
  refine ⟨by omega, by omega, ?_⟩
  rw [h4] at u; exact u
/-- whether a well lowers another one by more than each other one, and by more than 0, in a world -/
def Tn.worst (T : Tn) (w : Nat) (d : Nat → Int) (i : Nat) (k : Int) : Bool :=
  decide (0 < d i * T.fall w (i : Int) k) && allN (fun j => (decide (j = i) || decide ((j : Int) = k)) || decide (d j * T.fall w (j : Int) k < d i * T.fall w (i : Int) k)) T.wn.toNat
def Tn.blamed (T : Tn) (d : Nat → Int) (k : Int) (i : Nat) : Bool := !decide ((i : Int) = k) && T.LL.all fun w => T.worst w d i k
/-- the first well that is blamed below n -/
def blmF (T : Tn) (d : Nat → Int) (k : Int) : Nat → Option Nat
  | 0 => none
  | n + 1 => match blmF T d k n with
    | some i => some i
    | none => if T.blamed d k n then some n else none
theorem blmF_none {T : Tn} {d : Nat → Int} {k : Int} : ∀ {n : Nat}, blmF T d k n = none ↔ ∀ i, i < n → T.blamed d k i = false
  | 0 => ⟨fun _ i h => absurd h (Nat.not_lt_zero _), fun _ => rfl⟩
  | n + 1 => by
    have ih := blmF_none (T := T) (d := d) (k := k) (n := n)
    unfold blmF
    cases e : blmF T d k n with
    | some i =>
      constructor
      · intro h; cases h
      · intro h
        have := ih.2 fun i hi => h i (by omega)
        rw [e] at this; cases this
    | none =>
      have h0 := ih.1 e
      by_cases hb : T.blamed d k n = true
      · simp only [hb, if_true]
        constructor
        · intro h; cases h
        · intro h; have := h n (by omega); rw [hb] at this; cases this
      · simp only [hb]
        constructor
        · intro _ i hi
          rcases Nat.lt_succ_iff_lt_or_eq.1 hi with h1 | rfl
          · exact h0 i h1
          · simpa using hb
        · intro _; rfl
theorem worst_twice {T : Tn} {w : Nat} {d : Nat → Int} {i : Nat} {k : Int} : T.worst w (fun j => 2 * d j) i k = T.worst w d i k := by
  unfold Tn.worst
  have e : ∀ j : Nat, 2 * d j * T.fall w (j : Int) k = 2 * (d j * T.fall w (j : Int) k) := fun j => Int.mul_assoc _ _ _
  have h1 : decide (0 < 2 * d i * T.fall w (i : Int) k) = decide (0 < d i * T.fall w (i : Int) k) := by rw [e]; exact decide_eq_decide.2 (by omega)
  have h2 : ∀ j : Nat, decide (2 * d j * T.fall w (j : Int) k < 2 * d i * T.fall w (i : Int) k) = decide (d j * T.fall w (j : Int) k < d i * T.fall w (i : Int) k) := fun j => by rw [e, e]; exact decide_eq_decide.2 (by omega)
  rw [h1]
  congr 1
  exact allN_congr fun j _ => by rw [h2 j]
theorem blamed_twice {T : Tn} {d : Nat → Int} {k : Int} {i : Nat} : T.blamed (fun j => 2 * d j) k i = T.blamed d k i := by
  unfold Tn.blamed
  congr 1
  induction T.LL with
  | nil => rfl
  | cons w l ih => simp only [List.all_cons]; rw [worst_twice, ih]
theorem worst_zero {T : Tn} {w i : Nat} {k : Int} : T.worst w (fun _ => 0) i k = false := by unfold Tn.worst; simp
end Go.Proofs.YtdjkbpenppdnlaaDoor
