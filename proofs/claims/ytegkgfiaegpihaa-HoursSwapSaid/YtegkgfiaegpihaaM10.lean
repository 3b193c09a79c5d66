/- Rosters of hours: a street less; the new roster that is fair (mathematics alone). -/
import Derived.Test.YtegkgfiaegpihaaM9

set_option linter.unusedSimpArgs false

set_option linter.unusedVariables false

namespace Go.Proofs.Ytegkgfiaegpihaa

open Go.RowKit

def skp (s k : Nat) : Nat := if k < s then k else k + 1
theorem skp_sum (s : Nat) (g : Nat → Int) : ∀ m, s ≤ m → sumN (fun k => g (skp s k)) m = sumN g (m + 1) - g s := by
  intro m hm
  obtain ⟨y, rfl⟩ : ∃ y, m = s + y := ⟨m - s, by omega⟩
  rw [sumN_split (fun k => g (skp s k)) s y, show s + y + 1 = s + (1 + y) by omega, sumN_split g s (1 + y), sumN_split (fun i => g (s + i)) 1 y]
  have e1 : sumN (fun k => g (skp s k)) s = sumN g s := sumN_congr fun k hk => by unfold skp; rw [if_pos hk]
  have e2 : sumN (fun i => g (skp s (s + i))) y = sumN (fun i => g (s + (1 + i))) y := sumN_congr fun k hk => by unfold skp; rw [if_neg (by omega), show s + k + 1 = s + (1 + k) by omega]
  have e3 : sumN (fun i => g (s + i)) 1 = g s := by simp [sumN]
  rw [e1, e2, e3]; omega
/-- the streets but for number s -/
def lsD (D : Ro) (s : Nat) : Ro := { D with m := D.m - 1, hs := fun k => D.hs (skp s k), fr := fun k => D.fr (skp s k), «to» := fun k => D.to (skp s k), co := fun k => D.co (skp s k) }
theorem skp_lt {m s k : Nat} (hk : k < m - 1) : skp s k < m := by unfold skp; split <;> omega
theorem less_ok {D : Ro} (hD : OkP D) (s : Nat) : OkP (lsD D s) := ⟨hD.n, by show D.m - 1 ≤ 6; have := hD.m; omega, hD.rm, fun k hk => by
  have h := hD.st _ (skp_lt (s := s) (show k < D.m - 1 from hk))
  exact ⟨h.hs, h.fr, h.to, h.ft, h.co⟩⟩
theorem less_mv (D : Ro) (s k : Nat) (x : Int) : mv (lsD D s) k x = mv D (skp s k) x := rfl
theorem less_nr {D : Ro} {s : Nat} (hs : s < D.m) {f : Nat → Int} (h : NR D f) : NR (lsD D s) (fun k => f (skp s k)) := by
  refine ⟨fun k hk => h.h _ (skp_lt (show k < D.m - 1 from hk)), fun x hx => ?_⟩
  have h1 := h.c x hx
  rw [cnt_sum] at h1 ⊢
  show sumN (fun k => one (f (skp s k) = x)) (D.m - 1) ≤ D.rm x
  rw [skp_sum s (fun i => one (f i = x)) (D.m - 1) (by omega), show D.m - 1 + 1 = D.m by omega]
  have : 0 ≤ one (f s = x) := by unfold one; split <;> omega
  omega
theorem less_cost {D : Ro} {s : Nat} (hs : s < D.m) (f : Nat → Int) : costF (lsD D s) (fun k => f (skp s k)) (D.m - 1) = costF D f D.m - mv D s (f s) * D.co s := by
  have := skp_sum s (fun i => mv D i (f i) * D.co i) (D.m - 1) (by omega)
  rw [show D.m - 1 + 1 = D.m by omega] at this
  unfold costF; rw [← this]; rfl
theorem less_all {D : Ro} (hD : OkP D) {s : Nat} (hs : s < D.m) (hx : exB D = true) : exB (lsD D s) = true ∧ tM (lsD D s) ≤ tM D ∧ tN (lsD D s) ≤ tN D ∧
    ∀ f, NR D f → costF D f D.m = tL D → tL (lsD D s) ≤ tL D - mv D s (f s) * D.co s ∧ 0 ≤ mv D s (f s) * D.co s := by
  have hE := less_ok hD s
  have hex := (exB_iff hD).1 hx
  have hex2 : Ex (lsD D s) := hex.elim fun f hf => ⟨_, less_nr hs hf⟩
  have hx2 := (exB_iff hE).2 hex2
  unfold tL tM tN
  rw [hx, hx2]
  simp only [if_true]
  obtain ⟨g, g1, g2⟩ := fw_ex hD hex
  obtain ⟨⟨b1, b2⟩, ⟨u, u1, u2⟩, _⟩ := fr_spec hD hex
  have a2 := fw_le hE (less_nr hs g1)
  have a3 := (fr_spec hE hex2).2.2 _ (less_nr hs u1)
  refine ⟨trivial, ?_, ?_, fun f f1 f2 => ?_⟩
  · have : farF (lsD D s) (fun k => u (skp s k)) (lsD D s).m ≤ frC D := by
      rw [← near_iff b1] at u2 ⊢
      intro k hk
      rw [less_mv]; exact u2 _ (skp_lt (show k < D.m - 1 from hk))
    omega
  · have e1 : cntM (lsD D s) (fun k => g (skp s k)) (lsD D s).m ≤ cntM D g D.m := by
      rw [cntM_one, cntM_one]
      have := skp_sum s (fun i => if 0 < mv D i (g i) then 1 else 0) (D.m - 1) (by omega)
      rw [show D.m - 1 + 1 = D.m by omega] at this
      have e : sumN (fun i => if 0 < mv (lsD D s) i (g (skp s i)) then (1 : Int) else 0) (lsD D s).m = sumN (fun k => if 0 < mv D (skp s k) (g (skp s k)) then 1 else 0) (D.m - 1) := rfl
      rw [e, this]
      split <;> omega
    omega
  · have a1 := ls_le hE (less_nr hs f1)
    have e : costF (lsD D s) (fun k => f (skp s k)) (lsD D s).m = costF D f D.m - mv D s (f s) * D.co s := less_cost hs f
    have hb := cost1_bd hD hs (f1.hr hD hs)
    exact ⟨by omega, hb.1⟩
/-- the hours of Fair -/
def faF (D : Ro) : Nat → Int := hrA D (pF D (tM D))
theorem fa_no {D : Ro} (hD : OkP D) (hx : exB D = true) : (best D (pF D (tM D))).no = false := by
  have hex := (exB_iff hD).1 hx
  obtain ⟨⟨b1, b2⟩, ⟨u, u1, u2⟩, _⟩ := fr_spec hD hex
  rw [exF hD]
  refine ⟨u, u1, ?_⟩
  rw [show tM D = frC D by unfold tM; rw [hx]; rfl]
  exact (near_iff b1).2 u2
theorem fa_new {D : Ro} (hD : OkP D) (hx : exB D = true) : NR D (faF D) ∧ tL D ≤ costF D (faF D) D.m ∧ farF D (faF D) D.m = tM D ∧ ∀ f, NR D f → farF D f D.m ≤ tM D → costF D (faF D) D.m ≤ costF D f D.m := by
  have hex := (exB_iff hD).1 hx
  obtain ⟨⟨b1, b2⟩, _, b3⟩ := fr_spec hD hex
  have et : tM D = frC D := by unfold tM; rw [hx]; rfl
  have el : tL D = lsC D := by unfold tL; rw [hx]; rfl
  obtain ⟨h1, h2, h3⟩ := hr_new hD (fa_no hD hx)
  have h0 : 0 ≤ tM D := by omega
  have hn : Near D (hrA D (pF D (tM D))) (tM D) := fun k hk => (pF_some hD h1 hk).1 (h2 k hk)
  refine ⟨h1, by rw [el]; exact ls_le hD h1, ?_, fun f f1 f2 => ?_⟩
  · have := b3 _ h1
    have := (near_iff h0).1 hn
    unfold faF; omega
  · have hb := (best_le hD f1 (P := pF D (tM D)) (fun k hk => (pF_some hD f1 hk).2 ((near_iff h0).2 f2 k hk))).2
    rw [← h3, pcA_F hD h1 hn, pcA_F hD f1 ((near_iff h0).2 f2)] at hb
    exact hb
end Go.Proofs.Ytegkgfiaegpihaa
