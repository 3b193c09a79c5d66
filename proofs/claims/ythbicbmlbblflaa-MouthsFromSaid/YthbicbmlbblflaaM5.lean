/- Boxes of mouths: other shares, other mosts, some quarters, and quarters that are alike (mathematics). -/
import Derived.Test.YthbicbmlbblflaaM2

set_option linter.unusedSimpArgs false

set_option linter.unusedVariables false

namespace Go.Proofs.Ythbicbmlbblflaa

def Bx.setSh (D : Bx) (q : Nat) (v : Int) : Bx := { D with sh := fun i => if i = q then v else D.sh i }
def Bx.setMo (D : Bx) (q : Nat) (v : Int) : Bx := { D with mo := fun i => if i = q then v else D.mo i }
theorem Bx.setSh_ok {D : Bx} (h : D.ok = true) (q : Nat) {v : Int} (hv : 0 ≤ v ∧ v ≤ 20) : (D.setSh q v).ok = true := by
  obtain ⟨o1, o2, o3, o4⟩ := Bx.ok_parts h
  refine Bx.ok_mk o1 o2 (fun k hk => ?_) o4
  show 0 ≤ (if k = q then v else D.sh k) ∧ (if k = q then v else D.sh k) ≤ 20
  split
  · exact hv
  · exact o3 k hk
theorem Bx.setMo_ok {D : Bx} (h : D.ok = true) (q : Nat) {v : Int} (hv : 0 ≤ v ∧ v ≤ 20) : (D.setMo q v).ok = true := by
  obtain ⟨o1, o2, o3, o4⟩ := Bx.ok_parts h
  refine Bx.ok_mk o1 o2 o3 (fun k hk => ?_)
  show 0 ≤ (if k = q then v else D.mo k) ∧ (if k = q then v else D.mo k) ≤ 20
  split
  · exact hv
  · exact o4 k hk
/-- the gauge number x of quarter a comes ahead of number y of b -/
def ahd (s t x y : Int) (a b : Nat) : Prop := t * (2 * x + 1) < s * (2 * y + 1) ∨ (t * (2 * x + 1) = s * (2 * y + 1) ∧ a < b)
theorem ahd_not {s t x y : Int} {a b : Nat} (h : ahd s t x y a b) : ¬ ahd t s y x b a := by
  unfold ahd at *
  omega
/-- the next one is ahead of all that can have one more -/
theorem nxA_ahd {D : Bx} {g : Nat → Int} (hg : ∀ i, 0 ≤ g i) : ∀ {k b : Nat}, nxA D g k = some b → ∀ i, i < k → i ≠ b → blk D g i = false → ahd (D.sh b) (D.sh i) (g b) (g i) b i
  | 0, b, h => by cases h
  | k + 1, b, h => by
    intro i hi hib hbi
    have hmax := nxA_max hg h i hi hbi
    cases hb : blk D g k with
    | true =>
      rw [nxA_blk hb] at h
      have : i ≠ k := fun e => by rw [e, hb] at hbi; cases hbi
      exact nxA_ahd hg h i (by omega) hib hbi
    | false =>
      cases h2 : nxA D g k with
      | none =>
        rw [nxA_first hb h2] at h
        cases h
        have := nxA_none.1 h2 i (by omega)
        rw [hbi] at this; cases this
      | some c =>
        rw [nxA_btr hb h2] at h
        split at h
        · rename_i hbt
          cases h
          rw [btr_iff] at hbt
          have gi := hg i; have gk := hg k; have gc := hg c
          rcases Nat.lt_succ_iff_lt_or_eq.1 hi with h3 | rfl
          · have h4 := nxA_max hg h2 i h3 hbi
            left
            -- strictly: i is at most c, c is less than k
            have k1 : (D.sh i * (2 * g c + 1)) * (2 * g k + 1) ≤ (D.sh c * (2 * g i + 1)) * (2 * g k + 1) := Int.mul_le_mul_of_nonneg_right h4 (by omega)
            have k2 : (D.sh c * (2 * g k + 1)) * (2 * g i + 1) < (D.sh k * (2 * g c + 1)) * (2 * g i + 1) := Int.mul_lt_mul_of_pos_right hbt (by omega)
            have e1 : (D.sh i * (2 * g c + 1)) * (2 * g k + 1) = (D.sh i * (2 * g k + 1)) * (2 * g c + 1) := Int.mul_right_comm _ _ _
            have e2 : (D.sh c * (2 * g i + 1)) * (2 * g k + 1) = (D.sh c * (2 * g k + 1)) * (2 * g i + 1) := Int.mul_right_comm _ _ _
            have e3 : (D.sh k * (2 * g c + 1)) * (2 * g i + 1) = (D.sh k * (2 * g i + 1)) * (2 * g c + 1) := Int.mul_right_comm _ _ _
            have k3 : (D.sh i * (2 * g k + 1)) * (2 * g c + 1) < (D.sh k * (2 * g i + 1)) * (2 * g c + 1) := by omega
            exact Int.lt_of_mul_lt_mul_right k3 (by omega)
          · exact absurd rfl hib
        · rename_i hbt
          cases h
          rcases Nat.lt_succ_iff_lt_or_eq.1 hi with h3 | rfl
          · exact nxA_ahd hg h2 i h3 hib hbi
          · have hlt := (nxA_lt h2).1
            unfold ahd
            omega
theorem nx_ahd {D : Bx} {g : Nat → Int} (hg : ∀ i, 0 ≤ g i) {b : Nat} (h : nx D g = some b) {i : Nat} (hi : i < D.n) (hib : i ≠ b) (hb : blk D g i = false) : ahd (D.sh b) (D.sh i) (g b) (g i) b i := nxA_ahd hg h i hi hib hb
/-- who is ahead of all is the next one -/
theorem nx_of {D : Bx} {g : Nat → Int} (hg : ∀ i, 0 ≤ g i) {b : Nat} (hbn : b < D.n) (hb : blk D g b = false) (h : ∀ i, i < D.n → i ≠ b → blk D g i = false → ahd (D.sh b) (D.sh i) (g b) (g i) b i) : nx D g = some b := by
  cases h2 : nx D g with
  | none => have := nxA_none.1 h2 b hbn; rw [hb] at this; cases this
  | some c =>
    by_cases e : c = b
    · rw [e]
    · obtain ⟨h3, h4⟩ := nx_lt h2
      exact absurd (nx_ahd hg h2 hbn (fun e' => e e'.symm) hb) (ahd_not (h c h3 e h4))
theorem gv_nn {D : Bx} (hok : D.ok = true) (f : Nat) : ∀ i, 0 ≤ gv D f i := fun i => (gv_bd hok f i).1
/-- what has been given comes ahead of what has not -/
theorem gv_ahd {D : Bx} (hok : D.ok = true) : ∀ (f a b : Nat), a < D.n → b < D.n → a ≠ b → gv D f a ≠ 0 → D.sh b ≠ 0 → gv D f b ≠ D.mo b → ahd (D.sh a) (D.sh b) (gv D f a - 1) (gv D f b) a b
  | 0, a, b, _, _, _, h, _, _ => absurd rfl h
  | f + 1, a, b, ha, hb, hab, h1, hs, h2 => by
    have g0 := gv_nn hok f
    have ga := g0 a; have gb := g0 b
    obtain ⟨o1, o2, o3, o4⟩ := Bx.ok_parts hok
    cases h : nx D (gv D f) with
    | none => rw [(nx_none_next h).1] at *; exact gv_ahd hok f a b ha hb hab h1 hs h2
    | some q =>
      rw [(nx_some_next h).1] at *
      obtain ⟨hq, hqb⟩ := nx_lt h
      obtain ⟨q1, q2⟩ := blk_no hqb
      by_cases e1 : a = q
      · subst e1
        rw [up_same, up_ne _ (Ne.symm hab)] at *
        rw [show gv D f a + 1 - 1 = gv D f a by omega]
        exact nx_ahd g0 h hb (Ne.symm hab) (blk_mk hs h2)
      · rw [up_ne _ e1] at h1 ⊢
        by_cases e2 : b = q
        · subst e2
          rw [up_same]
          have ih := gv_ahd hok f a b ha hb hab h1 hs q2
          have h5 : D.sh a * (2 * gv D f b + 1) ≤ D.sh a * (2 * (gv D f b + 1) + 1) := Int.mul_le_mul_of_nonneg_left (by omega) (o3 a ha).1
          unfold ahd at *
          rcases ih with h | ⟨h, h'⟩
          · left; omega
          · rcases Int.lt_or_eq_of_le h5 with h6 | h6
            · left; omega
            · right; exact ⟨by omega, h'⟩
        · rw [up_ne _ e2] at h2 ⊢
          exact gv_ahd hok f a b ha hb hab h1 hs h2
/-- if not all of a flow has been given, all is full -/
theorem gv_full {D : Bx} {f : Nat} (h : sumN (gv D f) D.n ≠ (f : Int)) : ∀ i, i < D.n → blk D (gv D f) i = true := by
  induction f with
  | zero => exact absurd (show sumN (gv D 0) D.n = ((0 : Nat) : Int) from (tn_len D 0).symm) h
  | succ f ih =>
    cases hx : nx D (gv D f) with
    | none =>
      rw [(nx_none_next hx).1]
      exact nxA_none.1 hx
    | some q =>
      exfalso
      have h1 : sumN (gv D f) D.n = (f : Int) := by
        by_cases h2 : sumN (gv D f) D.n = (f : Int)
        · exact h2
        · have := ih h2 q (nx_lt hx).1
          rw [(nx_lt hx).2] at this; cases this
      apply h
      rw [(nx_some_next hx).1, sumN_up, if_pos (nx_lt hx).1, h1]; rfl
theorem gv_sum_le (D : Bx) (f : Nat) : sumN (gv D f) D.n ≤ (f : Int) := by
  rw [← tn_len]; have := tn_le D f; omega
theorem sumN_ex {f g : Nat → Int} : ∀ {k : Nat} {i : Nat}, i < k → g i < f i → sumN f k ≤ sumN g k → ∃ j, j < k ∧ f j < g j
  | k + 1, i, hi, hlt, hs => by
    by_cases h : ∃ j, j < k + 1 ∧ f j < g j
    · exact h
    · exfalso
      have hall : ∀ j, j < k + 1 → g j ≤ f j := fun j hj => by
        rcases (show f j < g j ∨ g j ≤ f j by omega) with h1 | h1
        · exact absurd ⟨j, hj, h1⟩ h
        · exact h1
      have key : ∀ m, m ≤ k + 1 → sumN g m ≤ sumN f m ∧ (i < m → sumN g m < sumN f m) := by
        intro m
        induction m with
        | zero => intro _; exact ⟨Int.le_refl _, fun h => by omega⟩
        | succ m ih =>
          intro hm
          have ih := ih (by omega)
          have h1 := hall m (by omega)
          refine ⟨by show sumN g m + g m ≤ sumN f m + f m; omega, fun hi => ?_⟩
          show sumN g m + g m < sumN f m + f m
          rcases Nat.lt_succ_iff_lt_or_eq.1 hi with h2 | rfl
          · have := ih.2 h2; omega
          · omega
      have := (key (k + 1) (Nat.le_refl _)).2 hi
      omega
/-- another box of as many quarters, in which those but one are the same, and that one has no less a share and no less a most -/
structure Grown (D D' : Bx) (q : Nat) : Prop where
  n : D'.n = D.n
  sh : ∀ i, i ≠ q → D'.sh i = D.sh i
  mo : ∀ i, i ≠ q → D'.mo i = D.mo i
  shq : D.sh q ≤ D'.sh q
  moq : D.mo q ≤ D'.mo q
theorem Grown.sh_le {D D' : Bx} {q : Nat} (h : Grown D D' q) (i : Nat) : D.sh i ≤ D'.sh i := by
  by_cases e : i = q
  · subst e; exact h.shq
  · rw [h.sh i e]; exact Int.le_refl _
theorem Grown.mo_le {D D' : Bx} {q : Nat} (h : Grown D D' q) (i : Nat) : D.mo i ≤ D'.mo i := by
  by_cases e : i = q
  · subst e; exact h.moq
  · rw [h.mo i e]; exact Int.le_refl _
theorem ahd_mono {s t x y s' x' t' y' : Int} {a b : Nat} (h : ahd s t x y a b) (hs : s ≤ s') (ht : t' ≤ t) (hx : x' ≤ x) (hy : y ≤ y') (h0 : 0 ≤ t') (h1 : 0 ≤ x') (h2 : 0 ≤ y) (h3 : 0 ≤ s) : ahd s' t' x' y' a b := by
  have k1 : t' * (2 * x' + 1) ≤ t * (2 * x + 1) := Int.mul_le_mul ht (by omega) (by omega) (by omega)
  have k2 : s * (2 * y + 1) ≤ s' * (2 * y' + 1) := Int.mul_le_mul hs (by omega) (by omega) (by omega)
  unfold ahd at *
  rcases h with h | ⟨h, h'⟩
  · left; omega
  · rcases Int.lt_or_eq_of_le k1 with h6 | h6
    · left; omega
    · rcases Int.lt_or_eq_of_le k2 with h7 | h7
      · left; omega
      · right; exact ⟨by omega, h'⟩
/-- no other one has more -/
theorem grown_others {D D' : Bx} {q : Nat} (hok : D.ok = true) (hok' : D'.ok = true) (h : Grown D D' q) (f : Nat) {i : Nat} (hi : i < D.n) (hiq : i ≠ q) : gv D' f i ≤ gv D f i := by
  rcases (show gv D f i < gv D' f i ∨ gv D' f i ≤ gv D f i by omega) with hlt | hle
  case inr => exact hle
  exfalso
  obtain ⟨o1, o2, o3, o4⟩ := Bx.ok_parts hok
  obtain ⟨b1, b2, b3, b4⟩ := gv_bd hok f i
  obtain ⟨c1, c2, c3, c4⟩ := gv_bd hok' f i
  have hn := h.n
  have hsi := h.sh i hiq; have hmi := h.mo i hiq
  have hs0 : D.sh i ≠ 0 := fun e => by have := c4 (by rw [hsi]; exact e); omega
  have hm0 : gv D f i ≠ D.mo i := fun e => by have := c2 (by omega); omega
  have hsum : sumN (gv D f) D.n = (f : Int) := by
    by_cases e : sumN (gv D f) D.n = (f : Int)
    · exact e
    · have := gv_full e i hi
      rw [blk_mk hs0 hm0] at this; cases this
  have hle' := gv_sum_le D' f
  rw [hn] at hle'
  obtain ⟨b, hb, hbl⟩ := sumN_ex hi hlt (by omega)
  obtain ⟨d1, d2, d3, d4⟩ := gv_bd hok f b
  obtain ⟨e1, e2, e3, e4⟩ := gv_bd hok' f b
  have hbi : b ≠ i := fun e => by subst e; omega
  have hsb : D.sh b ≠ 0 := fun e => by have := d4 e; omega
  have hsb2 := h.sh_le b; have hmb := h.mo_le b
  have hsbn := (o3 b hb).1
  have hd2 := d2 hb
  have a1 := gv_ahd hok' f i b (by omega) (by omega) (Ne.symm hbi) (by omega) (by omega) (by omega)
  have a2 := gv_ahd hok f b i hb hi hbi (by omega) hs0 hm0
  have hsi0 := (o3 i hi).1
  refine ahd_not a1 (ahd_mono a2 (h.sh_le b) (by rw [hsi]; exact Int.le_refl _) (by omega) (by omega) (by omega) (by omega) (by omega) (by omega))
/-- that one has no fewer -/
theorem grown_self {D D' : Bx} {q : Nat} (hok : D.ok = true) (hok' : D'.ok = true) (h : Grown D D' q) (f : Nat) (hq : q < D.n) : gv D f q ≤ gv D' f q := by
  rcases (show gv D' f q < gv D f q ∨ gv D f q ≤ gv D' f q by omega) with hlt | hle
  case inr => exact hle
  exfalso
  obtain ⟨o1, o2, o3, o4⟩ := Bx.ok_parts hok
  obtain ⟨b1, b2, b3, b4⟩ := gv_bd hok f q
  obtain ⟨c1, c2, c3, c4⟩ := gv_bd hok' f q
  have hn := h.n
  have hs0 : D.sh q ≠ 0 := fun e => by have := b4 e; omega
  have hsq := h.shq; have hmq := h.moq
  have hb2 := b2 hq
  have hsn := (o3 q hq).1
  have hsum : sumN (gv D' f) D'.n = (f : Int) := by
    by_cases e : sumN (gv D' f) D'.n = (f : Int)
    · exact e
    · have := gv_full e q (by omega)
      rw [blk_mk (by omega) (by omega)] at this; cases this
  have hle' := gv_sum_le D f
  rw [hn] at hsum
  obtain ⟨i, hi, hil⟩ := sumN_ex (f := gv D f) (g := gv D' f) hq hlt (by omega)
  have hiq : i ≠ q := fun e => by subst e; omega
  have := grown_others hok hok' h f hi hiq
  omega
theorem setSh_grown {D : Bx} {q : Nat} {v : Int} (hv : D.sh q ≤ v) : Grown D (D.setSh q v) q :=
  ⟨rfl, fun i hi => if_neg hi, fun _ _ => rfl, by show D.sh q ≤ (if q = q then v else _); rw [if_pos rfl]; exact hv, Int.le_refl _⟩
theorem setMo_grown {D : Bx} {q : Nat} {v : Int} (hv : D.mo q ≤ v) : Grown D (D.setMo q v) q :=
  ⟨rfl, fun _ _ => rfl, fun i hi => if_neg hi, Int.le_refl _, by show D.mo q ≤ (if q = q then v else _); rw [if_pos rfl]; exact hv⟩
theorem gv_mono (D : Bx) (i : Nat) {f : Nat} : ∀ {e : Nat}, f ≤ e → gv D f i ≤ gv D e i
  | 0, he => by obtain rfl : f = 0 := by omega
                exact Int.le_refl _
  | e + 1, he => by
    rcases Nat.lt_or_ge e f with h1 | h1
    · obtain rfl : f = e + 1 := by omega
      exact Int.le_refl _
    · have ih := gv_mono D i h1
      cases h : nx D (gv D e) with
      | none => rw [(nx_none_next h).1]; exact ih
      | some q =>
        rw [(nx_some_next h).1]
        unfold up
        split <;> omega
theorem nxA_congr {D D' : Bx} {g : Nat → Int} (hs : ∀ i, D'.sh i = D.sh i) : ∀ {k : Nat}, (∀ i, i < k → blk D' g i = blk D g i) → nxA D' g k = nxA D g k
  | 0, _ => rfl
  | k + 1, h => by
    have ih := nxA_congr hs (k := k) (fun i hi => h i (by omega))
    have hk := h k (by omega)
    unfold nxA
    rw [ih, hk]
    have hb : ∀ b, btr D' g b k = btr D g b k := fun b => by unfold btr; rw [hs, hs]
    simp only [hb]
/-- if nobody is full, the mosts change nothing -/
theorem gv_wide {D D' : Bx} (hok : D.ok = true) (hok' : D'.ok = true) (hn : D'.n = D.n) (hs : ∀ i, D'.sh i = D.sh i) (hm : ∀ i, i < D.n → D'.mo i = 20) {f : Nat} (hf : ∀ i, i < D.n → gv D f i ≠ D.mo i) : ∀ {e : Nat}, e ≤ f → gv D' e = gv D e
  | 0, _ => rfl
  | e + 1, he => by
    obtain ⟨o1, o2, o3, o4⟩ := Bx.ok_parts hok
    have ih := gv_wide hok hok' hn hs hm hf (e := e) (by omega)
    have hx : nx D' (gv D e) = nx D (gv D e) := by
      unfold nx
      rw [hn]
      refine nxA_congr hs fun i hi => ?_
      have h1 := gv_mono D i (f := e) (e := f) (by omega)
      have h2 := hf i hi
      have h3 := (gv_bd hok f i).2.1 hi
      have h4 := o4 i hi
      unfold blk
      rw [hs, hm i hi, decide_eq_false (show ¬ gv D e i = 20 by omega), decide_eq_false (show ¬ gv D e i = D.mo i by omega)]
    show (match nx D' (gv D' e) with | none => gv D' e | some q => up (gv D' e) q) = (match nx D (gv D e) with | none => gv D e | some q => up (gv D e) q)
    rw [ih, hx]
/-- two that are alike -/
theorem gv_alike {D : Bx} (hok : D.ok = true) {a b : Nat} (hab : a < b) (hb : b < D.n) (hs : D.sh a = D.sh b) (hm : D.mo a = D.mo b) : ∀ f, gv D f b ≤ gv D f a ∧ gv D f a ≤ gv D f b + 1
  | 0 => ⟨Int.le_refl _, by simp [gv]⟩
  | f + 1 => by
    have ih := gv_alike hok hab hb hs hm f
    have g0 := gv_nn hok f
    obtain ⟨o1, o2, o3, o4⟩ := Bx.ok_parts hok
    have ma := (gv_bd hok f a).2.1 (by omega); have mb := (gv_bd hok f b).2.1 hb
    have ga := g0 a; have gb := g0 b
    have sb := (o3 b hb).1
    cases h : nx D (gv D f) with
    | none => rw [(nx_none_next h).1]; exact ih
    | some q =>
      rw [(nx_some_next h).1]
      obtain ⟨hq, hqb⟩ := nx_lt h
      obtain ⟨q1, q2⟩ := blk_no hqb
      by_cases e1 : a = q
      · subst e1
        rw [up_same, up_ne _ (by omega)]
        refine ⟨by omega, ?_⟩
        rcases (show gv D f a = gv D f b ∨ gv D f a = gv D f b + 1 by omega) with e | e
        · omega
        · exfalso
          have := nx_max g0 h hb (blk_mk (by omega) (by omega))
          rw [hs, e] at this
          have h2 := Int.le_of_mul_le_mul_left this (by omega)
          omega
      · rw [up_ne _ e1]
        by_cases e2 : b = q
        · subst e2
          rw [up_same]
          refine ⟨?_, by omega⟩
          rcases (show gv D f a = gv D f b ∨ gv D f a = gv D f b + 1 by omega) with e | e
          · exfalso
            have := nx_ahd g0 h (i := a) (by omega) (by omega) (blk_mk (by omega) (by omega))
            rw [hs, e] at this
            unfold ahd at this
            omega
          · omega
        · rw [up_ne _ e2]; exact ih
end Go.Proofs.Ythbicbmlbblflaa
