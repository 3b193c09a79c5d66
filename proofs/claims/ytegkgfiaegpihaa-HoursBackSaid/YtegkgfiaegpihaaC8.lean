/- Rosters of hours: a copy whose streets are laid anew, one after the other. -/
import Derived.Test.YtegkgfiaegpihaaC7

import Derived.Test.YtegkgfiaegpihaaK2

set_option linter.unusedSimpArgs false

set_option linter.unusedVariables false

namespace Go.Proofs.Ytegkgfiaegpihaa

open Go.RowKit

/-- the streets while the first i are laid anew -/
def mixD (D E : Ro) (i : Nat) : Ro := { D with hs := fun k => if k < i then E.hs k else D.hs k, fr := fun k => if k < i then E.fr k else D.fr k, «to» := fun k => if k < i then E.to k else D.to k, co := fun k => if k < i then E.co k else D.co k }
structure RotS (D E : Ro) (R : Nat → Int) (w1 : World) (ob g2 : Nat) (p' : Option Addr) (c' d' i : Nat) (wr : World) : Prop where
  b : Below w1.heap.size w1 wr
  c0 : wr.cell? ⟨ob, 0, none⟩ = some (.slice p' D.n c')
  c1 : wr.cell? ⟨ob, 1, none⟩ = some (.slice (some ⟨g2, 0, none⟩) D.m d')
  rm : NumIn wr wr.heap.size D.n R p'
  st : StAt wr g2 0 (mixD D E i)
  fz : ∀ i, wr.frozen? ⟨g2, i, none⟩ = false
  l : w1.heap.size ≤ g2 ∧ g2 < wr.heap.size ∧ ob < wr.heap.size ∧ g2 ≠ ob ∧ ∀ g o, 0 < D.n → p' = some ⟨g, o, none⟩ → g ≠ g2
theorem set_four {w : World} {g k : Nat} {a0 a1 a2 a3 : Value} (u0 u1 u2 u3 : Value) (h0 : w.cell? ⟨g, k * 4, none⟩ = some a0) (h1 : w.cell? ⟨g, k * 4 + 1, none⟩ = some a1) (h2 : w.cell? ⟨g, k * 4 + 2, none⟩ = some a2) (h3 : w.cell? ⟨g, k * 4 + 3, none⟩ = some a3) (hf : ∀ i, w.frozen? ⟨g, i, none⟩ = false) :
    ∃ w' : World, (((w.setCell ⟨g, k * 4, none⟩ u0).setCell ⟨g, k * 4 + 1, none⟩ u1).setCell ⟨g, k * 4 + 2, none⟩ u2).setCell ⟨g, k * 4 + 3, none⟩ u3 = w' ∧ w'.cell? ⟨g, k * 4, none⟩ = some u0 ∧ w'.cell? ⟨g, k * 4 + 1, none⟩ = some u1 ∧ w'.cell? ⟨g, k * 4 + 2, none⟩ = some u2 ∧ w'.cell? ⟨g, k * 4 + 3, none⟩ = some u3 ∧
      (∀ i, i < k * 4 ∨ k * 4 + 4 ≤ i → w'.cell? ⟨g, i, none⟩ = w.cell? ⟨g, i, none⟩) ∧ (∀ b, b ≠ g → w'.heap[b]? = w.heap[b]?) ∧ (∀ b i, w'.frozen? ⟨b, i, none⟩ = w.frozen? ⟨b, i, none⟩) ∧ w'.heap.size = w.heap.size ∧ (∀ K, K ≤ g → ∀ v, Below K v w → Below K v w') := by
  refine ⟨_, rfl, ?_, ?_, ?_, ?_, fun i hi => ?_, fun b hb => ?_, fun b i => by simp, by simp, fun K hK v hv => ?_⟩
  · go_simp
  · go_simp
  · go_simp
  · go_simp
  · rw [World.cell?_setCell_other _ _ _ _ (by simp <;> omega), World.cell?_setCell_other _ _ _ _ (by simp <;> omega), World.cell?_setCell_other _ _ _ _ (by simp <;> omega), World.cell?_setCell_other _ _ _ _ (by simp <;> omega)]
  · rw [setCell_block hb, setCell_block hb, setCell_block hb, setCell_block hb]
  · exact (((hv.setCell hK _).setCell hK _).setCell hK _).setCell hK _
theorem RotS.step {D E : Ro} {R : Nat → Int} {w1 : World} {ob g2 : Nat} {p' : Option Addr} {c' d' i : Nat} {wr : World} (h : RotS D E R w1 ob g2 p' c' d' i wr) (hi : i < D.m) :
    ∃ w', (((wr.setCell ⟨g2, i * 4, none⟩ (.int .i64 (E.hs i))).setCell ⟨g2, i * 4 + 1, none⟩ (.int .i64 (E.fr i))).setCell ⟨g2, i * 4 + 2, none⟩ (.int .i64 (E.to i))).setCell ⟨g2, i * 4 + 3, none⟩ (.int .i64 (E.co i)) = w' ∧ RotS D E R w1 ob g2 p' c' d' (i + 1) w' := by
  have s0 := h.st.c0 i hi; have s1 := h.st.c1 i hi; have s2 := h.st.c2 i hi; have s3 := h.st.c3 i hi
  rw [Nat.zero_add] at s0 s1 s2 s3
  obtain ⟨w', e, a0, a1, a2, a3, ao, ab, af, asz, abl⟩ := set_four (.int .i64 (E.hs i)) (.int .i64 (E.fr i)) (.int .i64 (E.to i)) (.int .i64 (E.co i)) s0 s1 s2 s3 h.fz
  obtain ⟨l1, l2, l3, l4, l5⟩ := h.l
  have hk : ∀ k, k < i + 1 → k ≠ i → k < i := fun k _ _ => by omega
  refine ⟨w', e, abl _ l1 _ h.b, (World.cell?_of_block (a := ⟨ob, 0, none⟩) (ab ob (Ne.symm l4))).trans h.c0, (World.cell?_of_block (a := ⟨ob, 1, none⟩) (ab ob (Ne.symm l4))).trans h.c1, fun h0 => ?_, ⟨fun k hk => ?_, fun k hk => ?_, fun k hk => ?_, fun k hk => ?_⟩, fun j => (af g2 j).trans (h.fz j), ⟨l1, by rw [asz]; exact l2, by rw [asz]; exact l3, l4, l5⟩⟩
  · obtain ⟨bb, o, e2, hl, hc⟩ := h.rm h0
    exact ⟨bb, o, e2, by rw [asz]; exact hl, fun k hk => (World.cell?_of_block (a := ⟨bb, o + k, none⟩) (ab bb (l5 bb o h0 e2))).trans (hc k hk)⟩
  · have hold := h.st.c0 k hk
    rw [Nat.zero_add] at hold ⊢
    rcases Nat.lt_trichotomy k i with c | c | c
    · rw [ao _ (by omega), hold]; simp [mixD, c, show k < i + 1 by omega]
    · subst c; rw [a0]; simp [mixD]
    · rw [ao _ (by omega), hold]; simp [mixD, show ¬ k < i by omega, show ¬ k < i + 1 by omega]
  · have hold := h.st.c1 k hk
    rw [Nat.zero_add] at hold ⊢
    rcases Nat.lt_trichotomy k i with c | c | c
    · rw [ao _ (by omega), hold]; simp [mixD, c, show k < i + 1 by omega]
    · subst c; rw [a1]; simp [mixD]
    · rw [ao _ (by omega), hold]; simp [mixD, show ¬ k < i by omega, show ¬ k < i + 1 by omega]
  · have hold := h.st.c2 k hk
    rw [Nat.zero_add] at hold ⊢
    rcases Nat.lt_trichotomy k i with c | c | c
    · rw [ao _ (by omega), hold]; simp [mixD, c, show k < i + 1 by omega]
    · subst c; rw [a2]; simp [mixD]
    · rw [ao _ (by omega), hold]; simp [mixD, show ¬ k < i by omega, show ¬ k < i + 1 by omega]
  · have hold := h.st.c3 k hk
    rw [Nat.zero_add] at hold ⊢
    rcases Nat.lt_trichotomy k i with c | c | c
    · rw [ao _ (by omega), hold]; simp [mixD, c, show k < i + 1 by omega]
    · subst c; rw [a3]; simp [mixD]
    · rw [ao _ (by omega), hold]; simp [mixD, show ¬ k < i by omega, show ¬ k < i + 1 by omega]
theorem RotS.fin {D E : Ro} {R : Nat → Int} {w1 : World} {ob g2 : Nat} {p' : Option Addr} {c' d' : Nat} {wr : World} (h : RotS D E R w1 ob g2 p' c' d' D.m wr) : RoIn wr wr.heap.size { E with n := D.n, m := D.m, rm := R } p' (some ⟨g2, 0, none⟩) :=
  ⟨h.rm, fun _ => ⟨g2, 0, rfl, h.l.2.1, ⟨fun k hk => by have := h.st.c0 k hk; rw [this]; simp [mixD, show k < D.m from hk], fun k hk => by have := h.st.c1 k hk; rw [this]; simp [mixD, show k < D.m from hk], fun k hk => by have := h.st.c2 k hk; rw [this]; simp [mixD, show k < D.m from hk], fun k hk => by have := h.st.c3 k hk; rw [this]; simp [mixD, show k < D.m from hk]⟩⟩⟩
theorem RotS.bel {D E : Ro} {R : Nat → Int} {w1 : World} {ob g2 : Nat} {p' : Option Addr} {c' d' i : Nat} {wr w' : World} (h : RotS D E R w1 ob g2 p' c' d' i wr) (hb : Below wr.heap.size wr w') : RotS D E R w1 ob g2 p' c' d' i w' :=
  ⟨bT h.b hb, (hb.cell (p := ⟨ob, 0, none⟩) h.l.2.2.1).trans h.c0, (hb.cell (p := ⟨ob, 1, none⟩) h.l.2.2.1).trans h.c1, h.rm.bel hb, h.st.below hb h.l.2.1, fun i => (hb.frozen (p := ⟨g2, i, none⟩) h.l.2.1).trans (h.fz i), ⟨h.l.1, Nat.lt_of_lt_of_le h.l.2.1 hb.size, Nat.lt_of_lt_of_le h.l.2.2.1 hb.size, h.l.2.2.2⟩⟩
end Go.Proofs.Ytegkgfiaegpihaa
