/- Lines of an aqueduct: a line past one of whose points just so much flows, and what can flow (mathematics). -/
import Derived.Test.YtkdlppekjjbgoaaC4

set_option linter.unusedSimpArgs false

set_option linter.unusedVariables false

namespace Go.Proofs.Ytkdlppekjjbgoaa

open Go.RowKit

theorem nar_pair {D : Duct} : D.one = true ↔ ∀ i, i < D.n → ∀ a, a ≤ i → D.lo i ≤ D.hi a := by
  rw [one_iff]
  constructor
  · intro h i hi a ha
    exact Int.le_trans (h i hi) (Int.le_trans (fh_mono ha) fh_le)
  · intro h i hi; exact le_fh fun a ha => h i hi a ha
def canV (D : Duct) (k : Nat) (v : Int) : Bool := within v (D.lo k) (D.hi k) && (nar D k v v).one
theorem can_iff {D : Duct} {k : Nat} {v : Int} (ho : D.one = true) (hk : k < D.n) : canV D k v = decide (fl D k ≤ v ∧ v ≤ fh D k) := by
  rw [Bool.eq_iff_iff]
  simp only [canV, Bool.and_eq_true, within_iff, decide_eq_true_eq]
  constructor
  · rintro ⟨⟨h1, h2⟩, h3⟩
    rw [nar_pair] at h3
    constructor
    · refine fl_le hk fun i hi hin => ?_
      rcases Nat.eq_or_lt_of_le hi with rfl | hlt
      · exact h1
      · have := h3 i hin k hi
        rwa [show (nar D k v v).lo i = D.lo i from if_neg (by omega), show (nar D k v v).hi k = v from if_pos rfl] at this
    · refine le_fh fun a ha => ?_
      rcases Nat.eq_or_lt_of_le ha with rfl | hlt
      · exact h2
      · have := h3 k hk a ha
        rwa [show (nar D k v v).lo k = v from if_pos rfl, show (nar D k v v).hi a = D.hi a from if_neg (by omega)] at this
  · rintro ⟨h1, h2⟩
    refine ⟨⟨Int.le_trans (fl_ge (Nat.le_refl _) hk) h1, Int.le_trans h2 fh_le⟩, ?_⟩
    rw [nar_pair] at ho ⊢
    intro i hi a ha
    show (if i = k then v else D.lo i) ≤ (if a = k then v else D.hi a)
    by_cases e1 : i = k
    · rw [if_pos e1]
      by_cases e2 : a = k
      · rw [if_pos e2]; exact Int.le_refl _
      · rw [if_neg e2]; exact Int.le_trans h2 (Int.le_trans (fh_mono (by omega)) fh_le)
    · rw [if_neg e1]
      by_cases e2 : a = k
      · rw [if_pos e2]; exact Int.le_trans (fl_ge (by omega) hi) h1
      · rw [if_neg e2]; exact ho i hi a ha
theorem nar_can {D : Duct} {k : Nat} {v : Int} (ho : D.one = true) (hk : k < D.n) (h : fl D k ≤ v ∧ v ≤ fh D k) : (nar D k v v).one = true ∧ D.lo k ≤ v ∧ v ≤ v ∧ v ≤ D.hi k := by
  have := can_iff (v := v) ho hk
  rw [decide_eq_true h] at this
  simp only [canV, Bool.and_eq_true, within_iff] at this
  exact ⟨this.2, this.1.1, Int.le_refl _, this.1.2⟩
theorem set_fl {D : Duct} {i j : Nat} {v : Int} (hij : i < j) (hj : j < D.n) : fl (nar D i v v) j = fl D j := by
  apply Int.le_antisymm
  · exact fl_le (D := nar D i v v) hj fun k hk hn => by
      rw [show (nar D i v v).lo k = D.lo k from if_neg (by omega)]; exact fl_ge hk hn
  · exact fl_le hj fun k hk hn => by
      have := fl_ge (D := nar D i v v) hk hn
      rwa [show (nar D i v v).lo k = D.lo k from if_neg (by omega)] at this
theorem set_fh {D : Duct} {i j : Nat} {v : Int} (hij : i < j) (hv : v ≤ D.hi i) : fh (nar D i v v) j = min v (fh D j) := by
  apply Int.le_antisymm
  · rw [Int.le_min]
    refine ⟨?_, nar_fh hv j⟩
    have h1 := fh_mono (D := nar D i v v) (i := i) (k := j) (by omega)
    have h2 : fh (nar D i v v) i ≤ (nar D i v v).hi i := fh_le
    rw [show (nar D i v v).hi i = v from if_pos rfl] at h2
    omega
  · refine le_fh fun a ha => ?_
    by_cases e : a = i
    · rw [show (nar D i v v).hi a = v from if_pos e]; exact Int.min_le_left _ _
    · rw [show (nar D i v v).hi a = D.hi a from if_neg e]; exact Int.le_trans (Int.min_le_right _ _) (Int.le_trans (fh_mono ha) fh_le)
theorem set_fl_self {D : Duct} {i : Nat} {v : Int} (hi : i < D.n) (h : fl D i ≤ v) : fl (nar D i v v) i = v := by
  apply Int.le_antisymm
  · refine fl_le (D := nar D i v v) hi fun k hk hn => ?_
    by_cases e : k = i
    · rw [show (nar D i v v).lo k = v from if_pos e]; exact Int.le_refl _
    · rw [show (nar D i v v).lo k = D.lo k from if_neg e]; exact Int.le_trans (fl_ge hk hn) h
  · have := fl_ge (D := nar D i v v) (k := i) (Nat.le_refl _) hi
    rwa [show (nar D i v v).lo i = v from if_pos rfl] at this
theorem set_fh_self {D : Duct} {i : Nat} {v : Int} (h : v ≤ fh D i) : fh (nar D i v v) i = v := by
  apply Int.le_antisymm
  · have := fh_le (D := nar D i v v) (k := i)
    rwa [show (nar D i v v).hi i = v from if_pos rfl] at this
  · refine le_fh fun a ha => ?_
    by_cases e : a = i
    · rw [show (nar D i v v).hi a = v from if_pos e]; exact Int.le_refl _
    · rw [show (nar D i v v).hi a = D.hi a from if_neg e]; exact Int.le_trans h (Int.le_trans (fh_mono ha) fh_le)
end Go.Proofs.Ytkdlppekjjbgoaa
