/- Shafts: ShaftsRing returns true in every walk, whatever the shaft, the list and the depth . -/
import Derived.Test.YtaaocomgmacjnabDoorD5

import Derived.Test.YtaaocomgmacjnabDoorD6

import Derived.Test.YtaaocomgmacjnabDoorD7

import Derived.Test.YtaaocomgmacjnabDoorD8

import Derived.Test.YtaaocomgmacjnabDoorD9

set_option linter.unusedSimpArgs false

set_option linter.unusedVariables false

namespace Go.Proofs.YtaaocomgmacjnabDoor

open Go.RowKit

theorem flE_of {S : Shaft} {l : List Int} (hok : S.ok = true) (hst : S.stops l = true) : flE S l = if falls S l then 0 else 3 := by unfold flE; rw [hok, hst]; rfl
theorem flV_of {S : Shaft} {l : List Int} (hok : S.ok = true) (hst : S.stops l = true) (hf : falls S l = true) : flV S l = S.fall l := by
  unfold flV fallP; rw [hok, hst]
  have : S.fall l ≠ -1 := by simpa [falls] using hf
  simp [this]
theorem ring_law (S : Shaft) (p q : Option Addr) (c d : Nat) (l : List Int) (pl : Option Addr) (cl : Nat) (y : Int) (w : World) (hgl : GlobsOk laid w) (hF : S.F.length ≤ maxLen) (hR : S.R.length ≤ maxLen) (hl : l.length ≤ maxLen) (ht : ShaftIn w w.heap.size S p q) (hil : ListIn w w.heap.size l pl) :
    Calls Tryd.prog 5 #[.agg #[.slice q S.R.length d, .slice p S.F.length c, .int .i64 S.D, .int .i64 S.H, .int .i64 S.T], .slice pl l.length cl, .int .i64 y] w fun e w' => e = .returned (.bool true) ∧ Below w.heap.size w w' := by
  cases hr : rdy S with
  | false => exact ring_a S p q c d l pl cl y w hgl hF hR hl ht hil hr
  | true =>
  obtain ⟨hg, hok⟩ : hugeS S 0 = false ∧ S.ok = true := by simpa [rdy] using hr
  obtain ⟨hr1, hn1⟩ : S.R.length ≤ 40 ∧ S.F.length ≤ 40 := by
    have : ¬ 40 < S.R.length ∧ ¬ 40 < S.F.length := by simpa [hugeS] using hg
    omega
  by_cases hll : l.length ≤ 40
  case neg => exact ring_b S p q c d l pl cl y w hgl hF hR hl ht hil hr (by omega)
  case pos =>
  cases hst : S.stops l with
  | false => exact ring_c S p q c d l pl cl y w hgl hF hR hl ht hil hr hll (by omega) hst
  | true =>
  cases hwn : within y 1 (S.F.length : Int) with
  | false => exact ring_d S p q c d l pl cl y w hgl hF hR hl ht hil hr hll (by omega) hst hwn
  | true =>
  cases hyl : decide (y ∈ l) with
  | true => exact ring_e S p q c d l pl cl y w hgl hF hR hl ht hil hr hll (by omega) hst hwn hyl
  | false =>
  obtain ⟨h1, h2⟩ := within_iff.1 hwn
  have hsub : ∀ x, x ∈ l → x ∈ oneMore S l y := fun x hx => (more_mem hst h1 h2).2 (Or.inr hx)
  have hmono := fall_mono (S := S) hsub
  have hsm : S.stops (oneMore S l y) = true := more_stops
  have f0 := fun (h : falls S l = true) => (flE_of hok hst).trans (show (if falls S l then (0 : Int) else 3) = 0 from by rw [h]; rfl)
  have f3 := fun (h : falls S l = false) => (flE_of hok hst).trans (show (if falls S l then (0 : Int) else 3) = 3 from by rw [h]; rfl)
  have k0 := fun (h : falls S (oneMore S l y) = true) => (flE_of hok hsm).trans (show (if falls S (oneMore S l y) then (0 : Int) else 3) = 0 from by rw [h]; rfl)
  have k3 := fun (h : falls S (oneMore S l y) = false) => (flE_of hok hsm).trans (show (if falls S (oneMore S l y) then (0 : Int) else 3) = 3 from by rw [h]; rfl)
  cases hpl : S.plan l with
  | true =>
    have e1 : S.fall l = -1 := by
      have h := hpl
      simp only [Shaft.plan, Bool.and_eq_true, beq_iff_eq] at h
      exact h.2.2.2
    have e2 : S.fall (oneMore S l y) = -1 := hmono.resolve_right fun h => h.1 e1
    have g1 : falls S l = false := by simp [falls, e1]
    have g2 : falls S (oneMore S l y) = false := by simp [falls, e2]
    cases hrs : S.rests y with
    | false => exact ring_i S p q c d l pl cl y w hgl hF hR ht hil hr hll hn1 hr1 hst hwn hyl hok (f3 g1) (k3 g2) hpl hrs
    | true => exact ring_j S p q c d l pl cl y w hgl hF hR ht hil hr hll hn1 hr1 hst hwn hyl hok (f3 g1) (k3 g2) hpl hrs
  | false =>
    cases g2 : falls S (oneMore S l y) with
    | true =>
      have n2 : S.fall (oneMore S l y) ≠ -1 := by simpa [falls] using g2
      obtain ⟨n1, n3⟩ := hmono.resolve_left n2
      have g1 : falls S l = true := by simpa [falls] using n1
      exact ring_h S p q c d l pl cl y w hgl hF hR ht hil hr hll hn1 hr1 hst hwn hyl hok (f0 g1) (k0 g2) (by rw [flV_of hok hst g1, flV_of hok hsm g2]; exact decide_eq_false (by omega)) hpl
    | false =>
      cases g1 : falls S l with
      | false => exact ring_g S p q c d l pl cl y w hgl hF hR ht hil hr hll hn1 hr1 hst hwn hyl hok (f3 g1) (k3 g2) hpl
      | true => exact ring_f S p q c d l pl cl y w hgl hF hR ht hil hr hll hn1 hr1 hst hwn hyl hok (f0 g1) (k3 g2) hpl
end Go.Proofs.YtaaocomgmacjnabDoor
