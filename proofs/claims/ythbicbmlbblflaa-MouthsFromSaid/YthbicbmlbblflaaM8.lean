/- Boxes of mouths: some quarters, rising (mathematics). -/
import Derived.Test.YthbicbmlbblflaaM5

set_option linter.unusedSimpArgs false

set_option linter.unusedVariables false

namespace Go.Proofs.Ythbicbmlbblflaa

/-- number k of a rising list is as it must be -/
def rs1 (f : Nat → Int) (n : Nat) (k : Nat) : Bool := within (f k) 0 ((n : Int) - 1) && (decide (k = 0) || decide (f (k - 1) < f k))
def ris (f : Nat → Int) (n l : Nat) : Bool := allN (rs1 f n) l
theorem ris_lt {f : Nat → Int} {n l : Nat} (h : ris f n l = true) : ∀ i, i < l → 0 ≤ f i ∧ f i < n := fun i hi => by
  have := allN_iff.1 h i hi
  simp only [rs1, Bool.and_eq_true] at this
  have := within_iff.1 this.1
  omega
theorem ris_up {f : Nat → Int} {n l : Nat} (h : ris f n l = true) : ∀ i, i + 1 < l → f i < f (i + 1) := fun i hi => by
  have := allN_iff.1 h (i + 1) hi
  simp only [rs1, Bool.and_eq_true, Bool.or_eq_true, decide_eq_true_eq] at this
  simpa using this.2
theorem ris_ge {f : Nat → Int} {n l : Nat} (h : ris f n l = true) : ∀ i, i < l → (i : Int) ≤ f i
  | 0, hi => by have := ris_lt h 0 hi; omega
  | i + 1, hi => by have := ris_ge h i (by omega); have := ris_up h i hi; omega
theorem ris_len {f : Nat → Int} {n l : Nat} (h : ris f n l = true) : l ≤ n := by
  cases l with
  | zero => omega
  | succ l => have := ris_ge h l (by omega); have := ris_lt h l (by omega); omega
theorem ris_mono {f : Nat → Int} {n l : Nat} (h : ris f n l = true) : ∀ {i j : Nat}, i < j → j < l → f i < f j
  | i, 0, h1, _ => absurd h1 (Nat.not_lt_zero _)
  | i, j + 1, h1, h2 => by
    have hj := ris_up h j h2
    rcases Nat.lt_succ_iff_lt_or_eq.1 h1 with h3 | rfl
    · have := ris_mono h h3 (by omega); omega
    · exact hj
/-- the quarter at a place of the list -/
def qt (f : Nat → Int) (i : Nat) : Nat := (f i).toNat
/-- some quarters alone -/
def subB (D : Bx) (f : Nat → Int) (l : Nat) : Bx := ⟨l, l, fun i => D.sh (qt f i), fun i => D.mo (qt f i)⟩
theorem qt_lt {f : Nat → Int} {n l : Nat} (h : ris f n l = true) {i : Nat} (hi : i < l) : qt f i < n ∧ f i = (qt f i : Int) := by
  have := ris_lt h i hi
  unfold qt; omega
theorem qt_mono {f : Nat → Int} {n l : Nat} (h : ris f n l = true) {i j : Nat} (h1 : i < j) (h2 : j < l) : qt f i < qt f j := by
  have := ris_mono h h1 h2
  have := (qt_lt h (i := i) (by omega)).2; have := (qt_lt h h2).2
  omega
theorem sub_ok {D : Bx} {f : Nat → Int} {l : Nat} (hok : D.ok = true) (h : ris f D.n l = true) : (subB D f l).ok = true := by
  obtain ⟨o1, o2, o3, o4⟩ := Bx.ok_parts hok
  have := ris_len h
  exact Bx.ok_mk (show l ≤ 5 by omega) rfl (fun k hk => o3 _ (qt_lt h hk).1) (fun k hk => o4 _ (by have := (qt_lt h (i := k) hk).1; omega))
/-- whom of them is next when one of them is -/
theorem nx_sub {D : Bx} {f g h : Nat → Int} {l j : Nat} (hr : ris f D.n l = true) (hg : ∀ i, 0 ≤ g i) (hh0 : ∀ i, 0 ≤ h i) (hh : ∀ i, i < l → h i = g (qt f i)) (hj : j < l) (hn : nx D g = some (qt f j)) : nx (subB D f l) h = some j := by
  obtain ⟨hq, hqb⟩ := nx_lt hn
  have hb : ∀ i, i < l → blk (subB D f l) h i = blk D g (qt f i) := fun i hi => by
    show (decide (D.sh (qt f i) = 0) || decide (h i = D.mo (qt f i))) = _
    rw [hh i hi]; rfl
  refine nx_of hh0 hj (by rw [hb j hj]; exact hqb) fun i hi hij hbi => ?_
  have hi' : i < l := hi
  rw [hb i hi'] at hbi
  have hne : qt f i ≠ qt f j := by
    rcases Nat.lt_or_gt_of_ne hij with h1 | h1
    · have := qt_mono hr h1 hj; omega
    · have := qt_mono hr h1 hi'; omega
  have ha := nx_ahd hg hn (qt_lt hr hi').1 hne hbi
  rw [← hh i hi', ← hh j hj] at ha
  show ahd (D.sh (qt f j)) (D.sh (qt f i)) (h j) (h i) j i
  unfold ahd at *
  rcases ha with h1 | ⟨h1, h2⟩
  · exact .inl h1
  · refine .inr ⟨h1, ?_⟩
    rcases Nat.lt_or_gt_of_ne hij with h3 | h3
    · have := qt_mono hr h3 hj; omega
    · exact h3
/-- what they have together -/
def tog (D : Bx) (f : Nat → Int) (F l : Nat) : Int := sumN (fun i => gv D F (qt f i)) l
theorem sub_is {D : Bx} {f : Nat → Int} {l : Nat} (hok : D.ok = true) (hr : ris f D.n l = true) : ∀ F : Nat, ∃ T : Nat, T ≤ F ∧ tog D f F l = (T : Int) ∧ ∀ i, i < l → gv (subB D f l) T i = gv D F (qt f i)
  | 0 => ⟨0, Nat.le_refl _, by
      unfold tog
      have : ∀ k, sumN (fun i => gv D 0 (qt f i)) k = 0 := fun k => by
        induction k with
        | zero => rfl
        | succ k ih => show sumN _ k + gv D 0 (qt f k) = 0; rw [ih]; rfl
      rw [this]; rfl, fun i _ => rfl⟩
  | F + 1 => by
    obtain ⟨T, hT, e1, e2⟩ := sub_is hok hr F
    have g0 := gv_nn hok F
    have h0 := gv_nn (sub_ok hok hr) T
    cases hx : nx D (gv D F) with
    | none =>
      refine ⟨T, by omega, ?_, fun i hi => ?_⟩
      · unfold tog; rw [(nx_none_next hx).1]; exact e1
      · rw [(nx_none_next hx).1]; exact e2 i hi
    | some b =>
      by_cases hex : ∃ j, j < l ∧ qt f j = b
      · obtain ⟨j, hj, rfl⟩ := hex
        have hs := nx_sub hr g0 h0 e2 hj hx
        have hinj : ∀ i, i < l → (qt f i = qt f j ↔ i = j) := fun i hi => ⟨fun e => by
          rcases Nat.lt_trichotomy i j with h1 | h1 | h1
          · have := qt_mono hr h1 hj; omega
          · exact h1
          · have := qt_mono hr h1 hi; omega, fun e => by rw [e]⟩
        have hup : ∀ i, i < l → gv D (F + 1) (qt f i) = up (fun i => gv D F (qt f i)) j i := fun i hi => by
          rw [(nx_some_next hx).1]
          unfold up
          by_cases e : i = j
          · rw [if_pos ((hinj i hi).2 e), if_pos e]
          · rw [if_neg (fun h => e ((hinj i hi).1 h)), if_neg e]
        refine ⟨T + 1, by omega, ?_, fun i hi => ?_⟩
        · unfold tog at *
          rw [sumN_congr hup, sumN_up, if_pos hj, e1]; rfl
        · rw [(nx_some_next hs).1, hup i hi]
          unfold up
          rw [e2 i hi]
      · have hup : ∀ i, i < l → gv D (F + 1) (qt f i) = gv D F (qt f i) := fun i hi => by
          rw [(nx_some_next hx).1, up_ne _ (fun e => hex ⟨i, hi, e⟩)]
        refine ⟨T, by omega, ?_, fun i hi => ?_⟩
        · unfold tog at *
          rw [sumN_congr hup]; exact e1
        · rw [hup i hi]; exact e2 i hi
end Go.Proofs.Ythbicbmlbblflaa
