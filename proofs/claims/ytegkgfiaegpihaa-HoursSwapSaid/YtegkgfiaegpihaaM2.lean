/- Rosters of hours: the cheapest way, street by street, by the room that is left (mathematics alone). -/
import Derived.Test.YtegkgfiaegpihaaM1

set_option linter.unusedSimpArgs false

set_option linter.unusedVariables false

namespace Go.Proofs.Ytegkgfiaegpihaa

structure Ch where
  h : Int
  c : Int
  no : Bool
def dec (L : Nat → Int) (h : Nat) : Nat → Int := fun i => if i = h then L i - 1 else L i
theorem dec_same (L : Nat → Int) (h : Nat) : dec L h h = L h - 1 := if_pos rfl
theorem dec_ne (L : Nat → Int) {h i : Nat} (e : i ≠ h) : dec L h i = L i := if_neg e
abbrev Pr := Nat → Nat → Option Int
/-- the choice of a street if it must have this hour -/
def wiV (V : (Nat → Int) → Ch) (P : Pr) (s h : Nat) (L : Nat → Int) : Ch :=
  match P s h with
  | none => ⟨0, 0, true⟩
  | some c => if L h = 0 then ⟨0, 0, true⟩ else ⟨h, c + (V (dec L h)).c, (V (dec L h)).no⟩
def better (b c : Ch) : Ch := if c.no = false ∧ (b.no = true ∨ c.c < b.c) then c else b
def upTo (g : Nat → Ch) (a : Nat) : Nat → Ch
  | 0 => ⟨0, 0, true⟩
  | k + 1 => better (upTo g a k) (g (a + k))
def wid (D : Ro) (s : Nat) : Nat := (D.to s - D.fr s + 1).toNat
def chV (D : Ro) (P : Pr) : Nat → Nat → (Nat → Int) → Ch
  | 0, _, _ => ⟨0, 0, false⟩
  | j + 1, s, L => upTo (fun h => wiV (chV D P j (s + 1)) P s h L) (D.fr s).toNat (wid D s)
/-- hours for j streets from number s on, with the room that is left -/
def cp (D : Ro) (P : Pr) : Nat → Nat → (Nat → Int) → (Nat → Int) → Prop
  | 0, _, _, _ => True
  | j + 1, s, L, f => (D.fr s ≤ f s ∧ f s ≤ D.to s) ∧ P s (f s).toNat ≠ none ∧ L (f s).toNat ≠ 0 ∧ cp D P j (s + 1) (dec L (f s).toNat) f
def pc (P : Pr) : Nat → Nat → (Nat → Int) → Int
  | 0, _, _ => 0
  | j + 1, s, f => (P s (f s).toNat).getD 0 + pc P j (s + 1) f
theorem cp_congr {D : Ro} {P : Pr} : ∀ {j s : Nat} {L f g : Nat → Int}, (∀ i, s ≤ i → f i = g i) → cp D P j s L f → cp D P j s L g
  | 0, _, _, _, _, _, _ => trivial
  | j + 1, s, L, f, g, e, ⟨a, b, c, d⟩ => by
    have h := e s (Nat.le_refl _)
    refine ⟨by rw [← h]; exact a, by rw [← h]; exact b, by rw [← h]; exact c, ?_⟩
    rw [← h]
    exact cp_congr (fun i hi => e i (by omega)) d
theorem pc_congr {P : Pr} : ∀ {j s : Nat} {f g : Nat → Int}, (∀ i, s ≤ i → f i = g i) → pc P j s f = pc P j s g
  | 0, _, _, _, _ => rfl
  | j + 1, s, f, g, e => by
    simp only [pc]; rw [e s (Nat.le_refl _), pc_congr (fun i hi => e i (by omega))]
theorem upTo_none {g : Nat → Ch} {a : Nat} : ∀ {k : Nat}, (upTo g a k).no = true → upTo g a k = ⟨0, 0, true⟩ ∧ ∀ i, i < k → (g (a + i)).no = true
  | 0, _ => ⟨rfl, fun i h => absurd h (Nat.not_lt_zero _)⟩
  | k + 1, h => by
    simp only [upTo, better] at h ⊢
    split at h
    · rename_i h1; rw [h1.1] at h; cases h
    · rename_i h1
      obtain ⟨e, ih⟩ := upTo_none h
      rw [if_neg h1]
      refine ⟨e, fun i hi => ?_⟩
      rcases Nat.lt_succ_iff_lt_or_eq.1 hi with h2 | rfl
      · exact ih i h2
      · cases hg : (g (a + i)).no with
        | true => rfl
        | false => exact absurd ⟨hg, Or.inl h⟩ h1
/-- the first of the best -/
theorem upTo_some {g : Nat → Ch} {a : Nat} : ∀ {k : Nat}, (upTo g a k).no = false → ∃ i, i < k ∧ upTo g a k = g (a + i) ∧ (∀ u, u < k → (g (a + u)).no = false → (upTo g a k).c ≤ (g (a + u)).c) ∧ ∀ u, u < i → (g (a + u)).no = false → (upTo g a k).c < (g (a + u)).c
  | 0, h => by cases h
  | k + 1, h => by
    simp only [upTo, better] at h ⊢
    by_cases h1 : (g (a + k)).no = false ∧ ((upTo g a k).no = true ∨ (g (a + k)).c < (upTo g a k).c)
    · rw [if_pos h1]
      refine ⟨k, Nat.lt_succ_self _, rfl, fun u hu hg => ?_, fun u hu hg => ?_⟩
      · rcases Nat.lt_succ_iff_lt_or_eq.1 hu with h2 | rfl
        · rcases h1.2 with h3 | h3
          · rw [(upTo_none h3).2 u h2] at hg; cases hg
          · cases hn : (upTo g a k).no with
            | true => rw [(upTo_none hn).2 u h2] at hg; cases hg
            | false => obtain ⟨_, _, _, h4, _⟩ := upTo_some hn; have := h4 u h2 hg; omega
        · exact Int.le_refl _
      · rcases h1.2 with h3 | h3
        · rw [(upTo_none h3).2 u hu] at hg; cases hg
        · cases hn : (upTo g a k).no with
          | true => rw [(upTo_none hn).2 u hu] at hg; cases hg
          | false => obtain ⟨_, _, _, h4, _⟩ := upTo_some hn; have := h4 u hu hg; omega
    · rw [if_neg h1] at h ⊢
      obtain ⟨i, hi, e, h4, h5⟩ := upTo_some h
      refine ⟨i, by omega, e, fun u hu hg => ?_, h5⟩
      rcases Nat.lt_succ_iff_lt_or_eq.1 hu with h2 | rfl
      · exact h4 u h2 hg
      · by_cases h6 : (g (a + u)).c < (upTo g a u).c
        · exact absurd ⟨hg, Or.inr h6⟩ h1
        · omega
theorem wiV_no {V : (Nat → Int) → Ch} {P : Pr} {s h : Nat} {L : Nat → Int} : (wiV V P s h L).no = false ↔ P s h ≠ none ∧ L h ≠ 0 ∧ (V (dec L h)).no = false := by
  unfold wiV
  cases hP : P s h with
  | none => simp
  | some c => simp only; split <;> simp_all
theorem wiV_c {V : (Nat → Int) → Ch} {P : Pr} {s h : Nat} {L : Nat → Int} (hn : (wiV V P s h L).no = false) : (wiV V P s h L).c = (P s h).getD 0 + (V (dec L h)).c ∧ (wiV V P s h L).h = h := by
  have h1 := wiV_no.1 hn
  unfold wiV
  cases hP : P s h with
  | none => exact absurd hP h1.1
  | some c => simp only; rw [if_neg h1.2.1]; simp
/-- what the cheapest way is -/
theorem chV_spec (D : Ro) (P : Pr) (hfr : ∀ s, s < D.m → 0 ≤ D.fr s) : ∀ (j s : Nat) (L : Nat → Int), s + j ≤ D.m →
    (∀ f, cp D P j s L f → (chV D P j s L).no = false ∧ (chV D P j s L).c ≤ pc P j s f) ∧ ((chV D P j s L).no = false → ∃ f, cp D P j s L f ∧ pc P j s f = (chV D P j s L).c)
  | 0, s, L, _ => ⟨fun _ _ => ⟨rfl, Int.le_refl _⟩, fun _ => ⟨fun _ => 0, trivial, rfl⟩⟩
  | j + 1, s, L, hs => by
    have ih := fun L' => chV_spec D P hfr j (s + 1) L' (by omega)
    have h0 := hfr s (by omega)
    simp only [chV]
    generalize hg : (fun h => wiV (chV D P j (s + 1)) P s h L) = g
    refine ⟨fun f hf => ?_, fun hn => ?_⟩
    · obtain ⟨⟨a1, a2⟩, b, c, d⟩ := hf
      obtain ⟨i1, i2⟩ := (ih _).1 f d
      have hgn : (g (f s).toNat).no = false := by rw [← hg]; exact wiV_no.2 ⟨b, c, i1⟩
      have hgc := wiV_c (show (wiV (chV D P j (s + 1)) P s (f s).toNat L).no = false by rw [← hg] at hgn; exact hgn)
      have e : (f s).toNat = (D.fr s).toNat + (f s - D.fr s).toNat := by omega
      have hlt : (f s - D.fr s).toNat < wid D s := by unfold wid; omega
      have hnn : (upTo g (D.fr s).toNat (wid D s)).no = false := by
        cases hh : (upTo g (D.fr s).toNat (wid D s)).no with
        | false => rfl
        | true => have := (upTo_none hh).2 _ hlt; rw [← e, hgn] at this; cases this
      refine ⟨hnn, ?_⟩
      obtain ⟨_, _, _, h4, _⟩ := upTo_some hnn
      have h5 := h4 _ hlt (by rw [← e]; exact hgn)
      rw [← e] at h5
      have h6 : (g (f s).toNat).c = (P s (f s).toNat).getD 0 + (chV D P j (s + 1) (dec L (f s).toNat)).c := by rw [← hg]; exact hgc.1
      simp only [pc]; omega
    · obtain ⟨i, hi, e, _, _⟩ := upTo_some hn
      rw [e] at hn ⊢
      have hw : (wiV (chV D P j (s + 1)) P s ((D.fr s).toNat + i) L).no = false := by rw [← hg] at hn; exact hn
      obtain ⟨b, c, d⟩ := wiV_no.1 hw
      obtain ⟨f, f1, f2⟩ := (ih _).2 d
      have hc := (wiV_c hw).1
      refine ⟨fun k => if k = s then (((D.fr s).toNat + i : Nat) : Int) else f k, ⟨?_, ?_, ?_, ?_⟩, ?_⟩
      · simp only [if_true]; unfold wid at hi; omega
      · simp only [if_true, Int.toNat_natCast]; exact b
      · simp only [if_true, Int.toNat_natCast]; exact c
      · simp only [if_true, Int.toNat_natCast]
        exact cp_congr (fun k hk => by rw [if_neg (by omega)]) f1
      · simp only [pc, if_true, Int.toNat_natCast]
        rw [pc_congr (g := f) (fun k hk => by rw [if_neg (by omega)]), f2, ← hg]
        simp only [hc]
/-- one step of the cheapest way -/
theorem chV_step {D : Ro} {P : Pr} {j s : Nat} {L : Nat → Int} (h0 : 0 ≤ D.fr s) (hn : (chV D P (j + 1) s L).no = false) : ∃ h : Nat, (chV D P (j + 1) s L).h = h ∧ D.fr s ≤ (h : Int) ∧ (h : Int) ≤ D.to s ∧ P s h ≠ none ∧ L h ≠ 0 ∧
    (chV D P j (s + 1) (dec L h)).no = false ∧ (chV D P (j + 1) s L).c = (P s h).getD 0 + (chV D P j (s + 1) (dec L h)).c ∧
    ∀ u : Nat, D.fr s ≤ (u : Int) → u < h → P s u ≠ none → L u ≠ 0 → (chV D P j (s + 1) (dec L u)).no = false → (chV D P (j + 1) s L).c < (P s u).getD 0 + (chV D P j (s + 1) (dec L u)).c := by
  simp only [chV] at hn ⊢
  obtain ⟨i, hi, e, _, h5⟩ := upTo_some hn
  have hn' := hn
  rw [e] at hn
  obtain ⟨b, c, d⟩ := wiV_no.1 hn
  obtain ⟨hc1, hc2⟩ := wiV_c hn
  refine ⟨(D.fr s).toNat + i, by rw [e]; exact hc2, by omega, by unfold wid at hi; omega, b, c, d, by rw [e]; exact hc1, fun u h1 h2 h3 h4 h6 => ?_⟩
  have hw := wiV_no.2 ⟨h3, h4, h6⟩
  have e2 : u = (D.fr s).toNat + (u - (D.fr s).toNat) := by omega
  have h7 := h5 (u - (D.fr s).toNat) (by omega) (by rw [← e2]; exact hw)
  rw [← e2, (wiV_c hw).1] at h7
  exact h7
theorem chV_none {D : Ro} {P : Pr} {j s : Nat} {L : Nat → Int} (hn : (chV D P j s L).no = true) : chV D P j s L = ⟨0, 0, true⟩ := by
  cases j with
  | zero => cases hn
  | succ j => exact (upTo_none hn).1
/-- what an hour costs stays small -/
def PrB (D : Ro) (P : Pr) : Prop := ∀ s h : Nat, s < D.m → h < D.n → ∀ c, P s h = some c → 0 ≤ c ∧ c ≤ 63
theorem chV_bd {D : Ro} {P : Pr} (hD : OkP D) (hP : PrB D P) : ∀ (j s : Nat) (L : Nat → Int), s + j ≤ D.m → 0 ≤ (chV D P j s L).c ∧ (chV D P j s L).c ≤ 63 * j
  | 0, _, _, _ => by simp [chV]
  | j + 1, s, L, h => by
    cases hn : (chV D P (j + 1) s L).no with
    | true => rw [chV_none hn]; simp; omega
    | false =>
      have hs := hD.st s (by omega)
      obtain ⟨x, _, a1, a2, b, _, _, e, _⟩ := chV_step hs.fr.1 hn
      have ih := chV_bd hD hP j (s + 1) (dec L x) (by omega)
      have hx : x < D.n := by have := hs.to; omega
      rw [e]
      cases hp : P s x with
      | none => exact absurd hp b
      | some c => have := hP s x (by omega) hx c hp; simp; omega
theorem chV_h {D : Ro} {P : Pr} (hD : OkP D) (j s : Nat) (L : Nat → Int) (h : s + j ≤ D.m) : 0 ≤ (chV D P j s L).h ∧ (chV D P j s L).h ≤ 8 := by
  cases j with
  | zero => simp [chV]
  | succ j =>
    cases hn : (chV D P (j + 1) s L).no with
    | true => rw [chV_none hn]; simp
    | false =>
      have hs := hD.st s (by omega)
      obtain ⟨x, e, a1, a2, _⟩ := chV_step hs.fr.1 hn
      rw [e]; have := hs.to; have := hD.n; omega
/-- what hours for all streets are, with all room -/
theorem cp_iff {D : Ro} {P : Pr} (hD : OkP D) {f : Nat → Int} : ∀ (j s : Nat) (L : Nat → Int), s + j = D.m → (∀ h : Nat, h < D.n → L h = D.rm h - cnt f h s) →
    (cp D P j s L f ↔ ∀ k, s ≤ k → k < D.m → ((D.fr k ≤ f k ∧ f k ≤ D.to k) ∧ D.rm (f k).toNat ≠ cnt f (f k) k) ∧ P k (f k).toNat ≠ none)
  | 0, s, L, hs, _ => ⟨fun _ k h1 h2 => by omega, fun _ => trivial⟩
  | j + 1, s, L, hs, hL => by
    have hst := hD.st s (by omega)
    have key : D.fr s ≤ f s ∧ f s ≤ D.to s → (L (f s).toNat ≠ 0 ↔ D.rm (f s).toNat ≠ cnt f (f s) s) ∧ (cp D P j (s + 1) (dec L (f s).toNat) f ↔ ∀ k, s + 1 ≤ k → k < D.m → ((D.fr k ≤ f k ∧ f k ≤ D.to k) ∧ D.rm (f k).toNat ≠ cnt f (f k) k) ∧ P k (f k).toNat ≠ none) := fun h => by
      have hx : (f s).toNat < D.n := by have := hst.fr; have := hst.to; omega
      have e : (((f s).toNat : Nat) : Int) = f s := by have := hst.fr; omega
      refine ⟨by rw [hL _ hx, e]; omega, cp_iff hD j (s + 1) _ (by omega) fun h' hh' => ?_⟩
      simp only [cnt]
      by_cases e2 : h' = (f s).toNat
      · subst e2
        rw [dec_same, hL _ hx, if_pos e.symm]; omega
      · rw [dec_ne _ e2, hL _ hh', if_neg (by omega)]; simp
    constructor
    · rintro ⟨a, b, c, d⟩ k h1 h2
      obtain ⟨k1, k2⟩ := key a
      rcases Nat.lt_or_ge s k with h3 | h3
      · exact k2.1 d k h3 h2
      · obtain rfl : k = s := by omega
        exact ⟨⟨a, k1.1 c⟩, b⟩
    · intro h
      obtain ⟨⟨a, c⟩, b⟩ := h s (Nat.le_refl _) (by omega)
      obtain ⟨k1, k2⟩ := key a
      exact ⟨a, b, k1.2 c, k2.2 fun k h1 h2 => h k (by omega) h2⟩
/-- all room, while no street has an hour -/
def lf0 (D : Ro) : Nat → Int := fun h => if h < D.n then D.rm h else 0
def best (D : Ro) (P : Pr) : Ch := chV D P D.m 0 (lf0 D)
theorem cp_all {D : Ro} {P : Pr} (hD : OkP D) {f : Nat → Int} : cp D P D.m 0 (lf0 D) f ↔ NR D f ∧ ∀ k, k < D.m → P k (f k).toNat ≠ none := by
  rw [cp_iff hD D.m 0 (lf0 D) (by omega) (fun h hh => by simp [lf0, hh, cnt])]
  constructor
  · intro h
    refine ⟨(newAll_NR hD).1 (allN_iff.2 fun k hk => ?_), fun k hk => (h k (Nat.zero_le _) hk).2⟩
    -- the room is never less than what is used
    suffices H : ∀ k, k ≤ D.m → ∀ x : Nat, x < D.n → (cnt f x k : Int) ≤ D.rm x by
      have h1 := (h k (Nat.zero_le _) hk).1
      have hs := hD.st k hk
      have hx : (f k).toNat < D.n := by have := hs.fr; have := hs.to; omega
      have e : (((f k).toNat : Nat) : Int) = f k := by have := hs.fr; omega
      have h2 := H k (by omega) _ hx
      rw [e] at h2
      simp only [newAt, Bool.and_eq_true, within_iff, decide_eq_true_eq]
      exact ⟨h1.1, by have := h1.2; omega⟩
    intro k
    induction k with
    | zero => intro _ x hx; have := (hD.rm x hx).1; simpa [cnt] using this
    | succ k ih =>
      intro hk x hx
      have ih := ih (by omega) x hx
      have h2 := (h k (Nat.zero_le _) (by omega)).1.2
      simp only [cnt]
      by_cases e : f k = x
      · rw [if_pos e]; rw [e] at h2; simp at h2; omega
      · rw [if_neg e]; simpa using ih
  · rintro ⟨h1, h2⟩ k - hk
    refine ⟨⟨h1.h k hk, ?_⟩, h2 k hk⟩
    have h3 := allN_iff.1 ((newAll_NR hD).2 h1) k hk
    simp only [newAt, Bool.and_eq_true, within_iff, decide_eq_true_eq] at h3
    omega
def pcA (D : Ro) (P : Pr) (f : Nat → Int) : Int := sumN (fun k => (P k (f k).toNat).getD 0) D.m
theorem sumN_congr {g g' : Nat → Int} : ∀ {k : Nat}, (∀ i, i < k → g i = g' i) → sumN g k = sumN g' k
  | 0, _ => rfl
  | k + 1, h => by simp only [sumN]; rw [sumN_congr (fun i hi => h i (by omega)), h k (by omega)]
theorem pc_sum (P : Pr) (f : Nat → Int) : ∀ (j s : Nat), sumN (fun k => (P k (f k).toNat).getD 0) s + pc P j s f = sumN (fun k => (P k (f k).toNat).getD 0) (s + j)
  | 0, s => by simp [pc]
  | j + 1, s => by
    have := pc_sum P f j (s + 1)
    have e : sumN (fun k => (P k (f k).toNat).getD 0) (s + 1) = sumN (fun k => (P k (f k).toNat).getD 0) s + (P s (f s).toNat).getD 0 := rfl
    rw [show s + (j + 1) = s + 1 + j by omega, ← this, e]
    simp only [pc]; omega
theorem pc_all (D : Ro) (P : Pr) (f : Nat → Int) : pc P D.m 0 f = pcA D P f := by
  have := pc_sum P f D.m 0
  simp only [sumN, Nat.zero_add] at this
  unfold pcA; omega
/-- the least that new rosters cost by a price -/
theorem best_le {D : Ro} {P : Pr} (hD : OkP D) {f : Nat → Int} (h : NR D f) (hp : ∀ k, k < D.m → P k (f k).toNat ≠ none) : (best D P).no = false ∧ (best D P).c ≤ pcA D P f := by
  rw [← pc_all]
  exact (chV_spec D P (fun s hs => (hD.st s hs).fr.1) D.m 0 (lf0 D) (by omega)).1 f ((cp_all hD).2 ⟨h, hp⟩)
theorem best_ex {D : Ro} {P : Pr} (hD : OkP D) (h : (best D P).no = false) : ∃ f, NR D f ∧ (∀ k, k < D.m → P k (f k).toNat ≠ none) ∧ pcA D P f = (best D P).c := by
  obtain ⟨f, h1, h2⟩ := (chV_spec D P (fun s hs => (hD.st s hs).fr.1) D.m 0 (lf0 D) (by omega)).2 h
  obtain ⟨h3, h4⟩ := (cp_all hD).1 h1
  exact ⟨f, h3, h4, by rw [← pc_all]; exact h2⟩
theorem best_bd {D : Ro} {P : Pr} (hD : OkP D) (hP : PrB D P) : 0 ≤ (best D P).c ∧ (best D P).c ≤ 378 := by
  have := chV_bd hD hP D.m 0 (lf0 D) (by omega)
  have := hD.m
  unfold best; omega
/-- the room that is left, and the hour, street by street, by the first of the cheapest ways -/
def lfA (D : Ro) (P : Pr) : Nat → Nat → Int
  | 0 => lf0 D
  | k + 1 => dec (lfA D P k) (chV D P (D.m - k) k (lfA D P k)).h.toNat
def hrA (D : Ro) (P : Pr) (k : Nat) : Int := (chV D P (D.m - k) k (lfA D P k)).h
theorem hr_step {D : Ro} {P : Pr} (hD : OkP D) (hn : (best D P).no = false) : ∀ k, k ≤ D.m → (chV D P (D.m - k) k (lfA D P k)).no = false
  | 0, _ => hn
  | k + 1, hk => by
    have ih := hr_step hD hn k (by omega)
    obtain ⟨j, hj⟩ : ∃ j, D.m - k = j + 1 := ⟨D.m - k - 1, by omega⟩
    obtain ⟨x, e, _, _, _, _, h6, _⟩ := chV_step (j := j) (hD.st k (by omega)).fr.1 (by rw [← hj]; exact ih)
    have : D.m - (k + 1) = j := by omega
    rw [this]
    simp only [lfA, hj, e, Int.toNat_natCast]
    exact h6
theorem hr_cp {D : Ro} {P : Pr} (hD : OkP D) (hn : (best D P).no = false) : ∀ j k, k + j = D.m → cp D P j k (lfA D P k) (hrA D P) ∧ pc P j k (hrA D P) = (chV D P j k (lfA D P k)).c
  | 0, _, _ => ⟨trivial, rfl⟩
  | j + 1, k, hk => by
    have hj : D.m - k = j + 1 := by omega
    have h0 := hr_step hD hn k (by omega)
    rw [hj] at h0
    obtain ⟨x, e, a1, a2, b, c, d, e2, _⟩ := chV_step (hD.st k (by omega)).fr.1 h0
    have hx : hrA D P k = x := by unfold hrA; rw [hj]; exact e
    have hl : lfA D P (k + 1) = dec (lfA D P k) x := by simp only [lfA, hj, e, Int.toNat_natCast]
    obtain ⟨i1, i2⟩ := hr_cp hD hn j (k + 1) (by omega)
    rw [hl] at i1 i2
    refine ⟨⟨by rw [hx]; exact ⟨a1, a2⟩, by rw [hx, Int.toNat_natCast]; exact b, by rw [hx, Int.toNat_natCast]; exact c, by rw [hx, Int.toNat_natCast]; exact i1⟩, ?_⟩
    simp only [pc]
    rw [hx, Int.toNat_natCast, e2, i2]
/-- the first way is a new roster that costs the least -/
theorem hr_new {D : Ro} {P : Pr} (hD : OkP D) (hn : (best D P).no = false) : NR D (hrA D P) ∧ (∀ k, k < D.m → P k (hrA D P k).toNat ≠ none) ∧ pcA D P (hrA D P) = (best D P).c := by
  obtain ⟨h1, h2⟩ := hr_cp hD hn D.m 0 (by omega)
  obtain ⟨h3, h4⟩ := (cp_all hD).1 h1
  exact ⟨h3, h4, by rw [← pc_all]; exact h2⟩
end Go.Proofs.Ytegkgfiaegpihaa
