/- A town whose soundings are all greater by the same number: its levels are, as long as none comes to an end of what can be. -/
import Derived.Test.YtmfbfcknnjbabaaM2
import Derived.Test.YtmfbfcknnjbabaaL6
set_option linter.unusedSimpArgs false
set_option linter.unusedVariables false
namespace Go.Proofs.Ytmfbfcknnjbabaa
open Go.RowKit

def Town.deep (T : Town) (by' : Int) : Town := ⟨T.W, T.s.map fun y => ⟨y.well, y.low + by', y.high + by'⟩, T.r⟩
/-- what all words say, without what each level can be -/
def Wds (T : Town) (x : Nat → Int) : Prop := Sat (fun _ => true) (words T) (words T).length x
theorem wds_iff {T : Town} {x : Nat → Int} : Wds T x ↔ ((∀ y ∈ T.s, y.low ≤ x (y.well.toNat + 1) - x 0 ∧ x (y.well.toNat + 1) - x 0 ≤ y.high) ∧ ∀ y ∈ T.r, y.low ≤ x (y.b.toNat + 1) - x (y.a.toNat + 1) ∧ x (y.b.toNat + 1) - x (y.a.toNat + 1) ≤ y.high) := by
  unfold Wds
  rw [sat_all]
  simp only [words, List.mem_append, List.mem_map]
  constructor
  · intro h
    exact ⟨fun y hy => h _ (.inl ⟨y, hy, rfl⟩), fun y hy => h _ (.inr ⟨y, hy, rfl⟩)⟩
  · rintro ⟨h1, h2⟩ z (⟨y, hy, rfl⟩ | ⟨y, hy, rfl⟩)
    · exact h1 y hy
    · exact h2 y hy
def mnF (x y : Nat → Int) (k : Int) (r : Nat) : Int := if r = 0 then 0 else min (x r) (y r + k)
def mxF (x y : Nat → Int) (k : Int) (r : Nat) : Int := if r = 0 then 0 else max (x r) (y r - k)
theorem mnF_pos {x y : Nat → Int} {k : Int} {r : Nat} (h : r ≠ 0) : mnF x y k r = min (x r) (y r + k) := if_neg h
theorem mxF_pos {x y : Nat → Int} {k : Int} {r : Nat} (h : r ≠ 0) : mxF x y k r = max (x r) (y r - k) := if_neg h
theorem mnF_zero (x y : Nat → Int) (k : Int) : mnF x y k 0 = 0 := rfl
theorem mxF_zero (x y : Nat → Int) (k : Int) : mxF x y k 0 = 0 := rfl
/-- the lesser one of levels, and of others that are raised -/
theorem wds_min {T : Town} {x y : Nat → Int} {k : Int} (hk : 0 ≤ k) (hx : Wds T x) (hy : Wds T y) (x0 : x 0 = 0) (y0 : y 0 = 0) : Wds T (mnF x y k) := by
  rw [wds_iff] at hx hy ⊢
  refine ⟨fun z hz => ?_, fun z hz => ?_⟩
  · have a := hx.1 z hz; have b := hy.1 z hz
    rw [mnF_pos (by omega), mnF_zero]
    omega
  · have a := hx.2 z hz; have b := hy.2 z hz
    rw [mnF_pos (by omega), mnF_pos (by omega)]
    omega
theorem wds_max {T : Town} {x y : Nat → Int} {k : Int} (hk : 0 ≤ k) (hx : Wds T x) (hy : Wds T y) (x0 : x 0 = 0) (y0 : y 0 = 0) : Wds T (mxF x y k) := by
  rw [wds_iff] at hx hy ⊢
  refine ⟨fun z hz => ?_, fun z hz => ?_⟩
  · have a := hx.1 z hz; have b := hy.1 z hz
    rw [mxF_pos (by omega), mxF_zero]
    omega
  · have a := hx.2 z hz; have b := hy.2 z hz
    rw [mxF_pos (by omega), mxF_pos (by omega)]
    omega
/-- levels that keep all words are a truth, where no level of a truth comes to an end of what can be -/
theorem in_fits {T : Town} {M : List Int} {n : Nat} (hok : T.ok = true) (hk : kn T = some M) (hn : T.W = n) (hs : ∀ i, i < n → 0 < -D M (i + 1) 0 ∧ D M 0 (i + 1) < 99)
    {x : Nat → Int} (x0 : x 0 = 0) (hx : Wds T x) (hout : ∀ r, n < r → r < 7 → 0 ≤ x r ∧ x r ≤ 99) : Fits M x := by
  have h := heard_kn hok
  rw [hk] at h
  obtain ⟨hM, h⟩ := h
  have e00 := hM.diag 0 (by omega)
  have flo := dn_fits hM (p := 0) (by omega)
  have fhi := fits_zero hM
  obtain ⟨ulo, wlo⟩ := (h _).1 flo
  obtain ⟨uhi, whi⟩ := (h _).1 fhi
  have lo0 : dn M 0 0 = 0 := by simp [dn]
  have hlo : ∀ r, dn M 0 r = -D M r 0 := fun r => by simp only [dn, e00]; omega
  have blo := (fits_U lo0).1 ulo
  have bhi := (fits_U e00).1 uhi
  have hle : ∀ r, r < 7 → dn M 0 r ≤ D M 0 r := fun r hr => by
    have := clo_le hM (p := 0) (q := r) (by omega) hr
    rw [hlo]; omega
  have z1 : ∀ r, 1 ≤ r → r ≤ n → x r ≤ D M 0 r := fun r h1 h2 => by
    have w1 := wds_max (k := 0) (Int.le_refl _) hx wlo x0 lo0
    have w2 := wds_min (k := 1) (by omega) w1 whi rfl e00
    have f := (h _).2 ⟨(fits_U (mnF_zero (mxF x (dn M 0) 0) (D M 0) 1)).2 fun s hs' => ?_, w2⟩
    · have g := f 0 r (by omega) (by have := ok_W hok; omega)
      rw [mnF_zero, mnF_pos (r := r) (by omega), mxF_pos (r := r) (by omega)] at g
      omega
    · by_cases c : s = 0
      · rw [c, mnF_zero]; omega
      · rw [mnF_pos c, mxF_pos c]
        have a := blo s hs'; have b := hle s hs'
        by_cases c' : s ≤ n
        · have g := hs (s - 1) (by omega)
          rw [show s - 1 + 1 = s by omega] at g
          omega
        · have g := hout s (by omega) hs'
          omega
  have z2 : ∀ r, 1 ≤ r → r ≤ n → -D M r 0 ≤ x r := fun r h1 h2 => by
    have w1 := wds_min (k := 0) (Int.le_refl _) hx whi x0 e00
    have w2 := wds_max (k := 1) (by omega) w1 wlo rfl lo0
    have f := (h _).2 ⟨(fits_U (mxF_zero (mnF x (D M 0) 0) (dn M 0) 1)).2 fun s hs' => ?_, w2⟩
    · have g := f r 0 (by have := ok_W hok; omega) (by omega)
      rw [mxF_zero, mxF_pos (r := r) (by omega), mnF_pos (r := r) (by omega)] at g
      rw [hlo] at g
      omega
    · by_cases c : s = 0
      · rw [c, mxF_zero]; omega
      · rw [mxF_pos c, mnF_pos c]
        have a := bhi s hs'; have b := hle s hs'
        by_cases c' : s ≤ n
        · have g := hs (s - 1) (by omega)
          rw [show s - 1 + 1 = s by omega, ← hlo] at g
          omega
        · have g := hout s (by omega) hs'
          have := blo s hs'
          omega
  refine (h _).2 ⟨(fits_U x0).2 fun r hr => ?_, hx⟩
  by_cases c : r = 0
  · rw [c, x0]; omega
  · by_cases c' : r ≤ n
    · have a := z1 r (by omega) c'; have b := z2 r (by omega) c'
      have g := hs (r - 1) (by omega)
      rw [show r - 1 + 1 = r by omega] at g
      omega
    · exact hout r (by omega) hr
def shf (n : Nat) (k : Int) (x : Nat → Int) (r : Nat) : Int := if r = 0 then 0 else if r ≤ n then x r + k else x r
theorem shf_in {n : Nat} {k : Int} {x : Nat → Int} {r : Nat} (h1 : 1 ≤ r) (h2 : r ≤ n) : shf n k x r = x r + k := by
  unfold shf; rw [if_neg (by omega), if_pos h2]
theorem wds_deep {T : Town} {n : Nat} {k : Int} (hok : T.ok = true) (hn : T.W = n) {x : Nat → Int} (x0 : x 0 = 0) : Wds (T.deep k) (shf n k x) ↔ Wds T x := by
  rw [wds_iff, wds_iff]
  have e0 : shf n k x 0 = 0 := rfl
  have hs : ∀ y ∈ T.s, shf n k x (y.well.toNat + 1) = x (y.well.toNat + 1) + k := fun y hy => by
    have := ok_sOk hok hy
    exact shf_in (by omega) (by omega)
  have hr : ∀ y ∈ T.r, shf n k x (y.a.toNat + 1) = x (y.a.toNat + 1) + k ∧ shf n k x (y.b.toNat + 1) = x (y.b.toNat + 1) + k := fun y hy => by
    have := ok_rOk hok hy
    exact ⟨shf_in (by omega) (by omega), shf_in (by omega) (by omega)⟩
  constructor
  · rintro ⟨a, b⟩
    refine ⟨fun y hy => ?_, fun y hy => ?_⟩
    · have := a ⟨y.well, y.low + k, y.high + k⟩ (List.mem_map.2 ⟨y, hy, rfl⟩)
      simp only [hs y hy, e0] at this
      omega
    · have := b y hy
      rw [(hr y hy).1, (hr y hy).2] at this
      omega
  · rintro ⟨a, b⟩
    refine ⟨fun z hz => ?_, fun y hy => ?_⟩
    · obtain ⟨y, hy, rfl⟩ := List.mem_map.1 hz
      have := a y hy
      simp only [hs y hy, e0]
      omega
    · have := b y hy
      rw [(hr y hy).1, (hr y hy).2]
      omega
theorem D_le {N : List Int} (h : Clo N) {p q : Nat} (hp : p < 7) (hq : q < 7) {c : Int} (hc : ∀ y, Fits N y → y 0 = 0 → y q - y p ≤ c) : D N p q ≤ c := by
  obtain ⟨y, a, b, e⟩ := hit h hp hq (n := D N p q) (by have := clo_le h hp hq; omega) (Int.le_refl _)
  rw [← e]
  exact hc y a b
theorem shf_back {n : Nat} {k : Int} {y : Nat → Int} (y0 : y 0 = 0) : shf n k (shf n (-k) y) = y := by
  funext r
  unfold shf
  by_cases c : r = 0
  · rw [if_pos c, c, y0]
  · rw [if_neg c]
    by_cases c' : r ≤ n
    · rw [if_pos c', if_neg c, if_pos c']; omega
    · rw [if_neg c', if_neg c, if_neg c']
/-- what is known of the deeper town -/
theorem deep_kn {T : Town} {M : List Int} {n : Nat} {k : Int} (hok : T.ok = true) (huk : (T.deep k).ok = true) (hk : kn T = some M) (hn : T.W = n)
    (hs : ∀ i, i < n → (0 < -D M (i + 1) 0 ∧ D M 0 (i + 1) < 99) ∧ 0 < -D M (i + 1) 0 + k ∧ D M 0 (i + 1) + k < 99) :
    ∃ N, kn (T.deep k) = some N ∧ ∀ i, i < n → D N (i + 1) 0 = D M (i + 1) 0 - k ∧ D N 0 (i + 1) = D M 0 (i + 1) + k ∧ ∀ j, j < n → D N (i + 1) (j + 1) = D M (i + 1) (j + 1) := by
  have hW := ok_W hok
  have h := heard_kn hok
  rw [hk] at h
  obtain ⟨hM, h⟩ := h
  have hx : ∀ x, Fits M x → x 0 = 0 → Fits U49 (shf n k x) ∧ Wds (T.deep k) (shf n k x) := fun x fx x0 => by
    obtain ⟨u, v⟩ := (h x).1 fx
    refine ⟨(fits_U (x := shf n k x) rfl).2 fun r hr => ?_, (wds_deep hok hn x0).2 v⟩
    have b := (fits_U x0).1 u r hr
    unfold shf
    by_cases c : r = 0
    · rw [if_pos c]; omega
    · rw [if_neg c]
      by_cases c' : r ≤ n
      · rw [if_pos c']
        have g := hs (r - 1) (by omega)
        rw [show r - 1 + 1 = r by omega] at g
        have f1 := fx 0 r (by omega) hr
        have f2 := fx r 0 hr (by omega)
        omega
      · rw [if_neg c']; exact b
  have h' := heard_kn huk
  cases hN : kn (T.deep k) with
  | none =>
    rw [hN] at h'
    obtain ⟨a, b⟩ := hx _ (fits_zero hM) (hM.diag 0 (by omega))
    exact absurd b (h' _ a)
  | some N =>
    rw [hN] at h'
    obtain ⟨cN, h'⟩ := h'
    have fwd : ∀ x, Fits M x → x 0 = 0 → Fits N (shf n k x) := fun x fx x0 => (h' _).2 (hx x fx x0)
    have bck : ∀ y, Fits N y → y 0 = 0 → Fits M (shf n (-k) y) := fun y fy y0 => by
      obtain ⟨u, v⟩ := (h' y).1 fy
      refine in_fits hok hk hn (fun i hi => (hs i hi).1) rfl ?_ fun r h1 h2 => ?_
      · refine (wds_deep (k := k) (x := shf n (-k) y) hok hn rfl).1 ?_
        rw [shf_back y0]; exact v
      · have b := (fits_U y0).1 u r h2
        unfold shf
        rw [if_neg (by omega), if_neg (by omega)]
        exact b
    refine ⟨N, rfl, fun i hi => ⟨?_, ?_, fun j hj => ?_⟩⟩
    · refine Int.le_antisymm (D_le cN (by omega) (by omega) fun y fy y0 => ?_) ?_
      · have := bck y fy y0 (i + 1) 0 (by omega) (by omega)
        rw [shf_in (r := i + 1) (by omega) (by omega), show shf n (-k) y 0 = 0 from rfl] at this
        omega
      · have := D_le hM (p := i + 1) (q := 0) (c := D N (i + 1) 0 + k) (by omega) (by omega) fun x fx x0 => (by
          have := fwd x fx x0 (i + 1) 0 (by omega) (by omega)
          rw [shf_in (r := i + 1) (by omega) (by omega), show shf n k x 0 = 0 from rfl] at this
          omega)
        omega
    · refine Int.le_antisymm (D_le cN (by omega) (by omega) fun y fy y0 => ?_) ?_
      · have := bck y fy y0 0 (i + 1) (by omega) (by omega)
        rw [shf_in (r := i + 1) (by omega) (by omega), show shf n (-k) y 0 = 0 from rfl] at this
        omega
      · have := D_le hM (p := 0) (q := i + 1) (c := D N 0 (i + 1) - k) (by omega) (by omega) fun x fx x0 => (by
          have := fwd x fx x0 0 (i + 1) (by omega) (by omega)
          rw [shf_in (r := i + 1) (by omega) (by omega), show shf n k x 0 = 0 from rfl] at this
          omega)
        omega
    · refine Int.le_antisymm (D_le cN (by omega) (by omega) fun y fy y0 => ?_) (D_le hM (by omega) (by omega) fun x fx x0 => ?_)
      · have := bck y fy y0 (i + 1) (j + 1) (by omega) (by omega)
        rw [shf_in (r := i + 1) (by omega) (by omega), shf_in (r := j + 1) (by omega) (by omega)] at this
        omega
      · have := fwd x fx x0 (i + 1) (j + 1) (by omega) (by omega)
        rw [shf_in (r := i + 1) (by omega) (by omega), shf_in (r := j + 1) (by omega) (by omega)] at this
        omega
end Go.Proofs.Ytmfbfcknnjbabaa
