/- Lines of an aqueduct: one more gauging (mathematics), and a flow that is stored. -/
import Derived.Test.YtkdlppekjjbgoaaC3

set_option linter.unusedSimpArgs false

set_option linter.unusedVariables false

namespace Go.Proofs.Ytkdlppekjjbgoaa

open Go.RowKit

/-- the line, if past point k flows between a and b -/
def nar (D : Duct) (k : Nat) (a b : Int) : Duct := { D with lo := fun i => if i = k then a else D.lo i, hi := fun i => if i = k then b else D.hi i }
theorem nar_ok {D : Duct} {k : Nat} {a b : Int} (hok : D.ok = true) (hk : k < D.n) (h : D.lo k ≤ a ∧ a ≤ b ∧ b ≤ D.hi k) : (nar D k a b).ok = true := by
  obtain ⟨h1, h2, h3, h4⟩ := D.ok_parts hok
  refine Duct.ok_mk h1 h2 (allN_iff.2 fun i hi => within_tt (h3 i hi).1 (h3 i hi).2) (allN_iff.2 fun i hi => ptOk_iff.2 ?_)
  have := h4 i hi
  show (0 ≤ (if i = k then a else D.lo i) ∧ (if i = k then a else D.lo i) ≤ (if i = k then b else D.hi i)) ∧ (if i = k then b else D.hi i) ≤ 99 ∧ 0 ≤ D.co i ∧ D.co i ≤ 20
  by_cases e : i = k
  · subst e; rw [if_pos rfl, if_pos rfl]; omega
  · rw [if_neg e, if_neg e]; exact this
theorem nar_fh {D : Duct} {k : Nat} {a b : Int} (h : b ≤ D.hi k) : ∀ i, fh (nar D k a b) i ≤ fh D i
  | 0 => by
    show (if 0 = k then b else D.hi 0) ≤ D.hi 0
    by_cases e : 0 = k
    · subst e; rw [if_pos rfl]; exact h
    · rw [if_neg e]; exact Int.le_refl _
  | i + 1 => by
    have ih := nar_fh (a := a) h i
    show min (if i + 1 = k then b else D.hi (i + 1)) _ ≤ min (D.hi (i + 1)) _
    have h2 : (if i + 1 = k then b else D.hi (i + 1)) ≤ D.hi (i + 1) := by
      by_cases e : i + 1 = k
      · rw [if_pos e, e]; exact h
      · rw [if_neg e]; exact Int.le_refl _
    omega
theorem nar_lo {D : Duct} {k : Nat} {a b : Int} (h : D.lo k ≤ a) (i : Nat) : D.lo i ≤ (nar D k a b).lo i := by
  show _ ≤ (if i = k then a else D.lo i)
  by_cases e : i = k
  · rw [if_pos e, e]; exact h
  · rw [if_neg e]; exact Int.le_refl _
theorem nar_fl {D : Duct} {k : Nat} {a b : Int} (h : D.lo k ≤ a) {i : Nat} (hi : i < D.n) : fl D i ≤ fl (nar D k a b) i :=
  fl_le hi fun j h1 h2 => Int.le_trans (nar_lo (b := b) h j) (fl_ge (D := nar D k a b) h1 h2)
theorem nar_one {D : Duct} {k : Nat} {a b : Int} (h1 : D.lo k ≤ a) (h2 : b ≤ D.hi k) (h : (nar D k a b).one = true) : D.one = true :=
  one_iff.2 fun i hi => Int.le_trans (nar_lo (b := b) h1 i) (Int.le_trans (one_iff.1 h i hi) (nar_fh h2 i))
theorem nar_loss {D : Duct} {k : Nat} {a b : Int} (h1 : D.lo k ≤ a) (h2 : b ≤ D.hi k) (h : (nar D k a b).one = true) {i j : Nat} (hij : i ≤ j) (hj : j < D.n) :
    lsL D i j ≤ lsL (nar D k a b) i j ∧ lsL (nar D k a b) i j ≤ lsH (nar D k a b) i j ∧ lsH (nar D k a b) i j ≤ lsH D i j := by
  refine ⟨?_, (loss_le h hij hj).2, ?_⟩
  · have := nar_fl (b := b) h1 (i := i) (by omega)
    have := nar_fh (a := a) h2 j
    unfold lsL; split <;> omega
  · have := nar_fl (b := b) h1 hj
    have := nar_fh (a := a) h2 i
    unfold lsH; split <;> omega
theorem setTwo_same {W : World} {g o : Nat} {u v u0 v0 : Value} (h0 : W.cell? ⟨g, o, none⟩ = some u0) (h1 : W.cell? ⟨g, o + 1, none⟩ = some v0) :
    ((W.setCell ⟨g, o, none⟩ u).setCell ⟨g, o + 1, none⟩ v).cell? ⟨g, o, none⟩ = some u ∧ ((W.setCell ⟨g, o, none⟩ u).setCell ⟨g, o + 1, none⟩ v).cell? ⟨g, o + 1, none⟩ = some v := by
  constructor
  · rw [World.cell?_setCell_other _ _ _ _ (by simp), World.cell?_setCell_same' _ _ _ (by rw [h0]; rfl)]
  · exact World.cell?_setCell_same' _ _ _ (by rw [World.cell?_setCell_other _ _ _ _ (by simp), h1]; rfl)
theorem setTwo_else {W : World} {g o : Nat} {u v : Value} {x : Addr} (h0 : x ≠ ⟨g, o, none⟩) (h1 : x ≠ ⟨g, o + 1, none⟩) : ((W.setCell ⟨g, o, none⟩ u).setCell ⟨g, o + 1, none⟩ v).cell? x = W.cell? x := by
  rw [World.cell?_setCell_other _ _ _ _ (Ne.symm h1), World.cell?_setCell_other _ _ _ _ (Ne.symm h0)]
theorem nar_in {W : World} {K : Nat} {D : Duct} {g o k : Nat} {q : Option Addr} {a b : Int} (h : DuctIn W K D (some ⟨g, o, none⟩) q) (hk : k < D.n) (hq : 0 < D.m → ∀ g2 o2, q = some ⟨g2, o2, none⟩ → g2 ≠ g) :
    DuctIn ((W.setCell ⟨g, o + k * 3, none⟩ (.int .i64 a)).setCell ⟨g, o + k * 3 + 1, none⟩ (.int .i64 b)) K (nar D k a b) (some ⟨g, o, none⟩) q := by
  obtain ⟨g', o', e, hl, hc⟩ := h.pt (by omega)
  cases e
  have hs := setTwo_same (u := .int .i64 a) (v := .int .i64 b) (hc.c0 k hk) (hc.c1 k hk)
  refine ⟨fun _ => ⟨g, o, rfl, hl, fun i hi => ?_, fun i hi => ?_, fun i hi => ?_⟩, fun h0 => ?_⟩
  · show _ = some (Value.int .i64 (if i = k then a else D.lo i))
    by_cases e : i = k
    · subst e; rw [if_pos rfl]; exact hs.1
    · rw [if_neg e, setTwo_else (by simp; try omega) (by simp; try omega)]; exact hc.c0 i hi
  · show _ = some (Value.int .i64 (if i = k then b else D.hi i))
    by_cases e : i = k
    · subst e; rw [if_pos rfl]; exact hs.2
    · rw [if_neg e, setTwo_else (by simp; try omega) (by simp; try omega)]; exact hc.c1 i hi
  · rw [setTwo_else (by simp; try omega) (by simp; try omega)]; exact hc.c2 i hi
  · obtain ⟨g2, o2, e2, l2, c2⟩ := h.od h0
    have hne := hq h0 g2 o2 e2
    exact ⟨g2, o2, e2, l2, fun i hi => by rw [setTwo_else (by simp; try omega) (by simp; try omega)]; exact c2 i hi⟩
structure FiveBox (w : World) (b : Nat) (u0 u1 u2 u3 u4 : Int) : Prop where
  lt : b < w.heap.size
  c0 : w.cell? ⟨b, 0, none⟩ = some (.int .i64 u0)
  c1 : w.cell? ⟨b, 1, none⟩ = some (.int .i64 u1)
  c2 : w.cell? ⟨b, 2, none⟩ = some (.int .i64 u2)
  c3 : w.cell? ⟨b, 3, none⟩ = some (.int .i64 u3)
  c4 : w.cell? ⟨b, 4, none⟩ = some (.int .i64 u4)
theorem FiveBox.bel {w w' : World} {b : Nat} {u0 u1 u2 u3 u4 : Int} (h : FiveBox w b u0 u1 u2 u3 u4) (hb : Below w.heap.size w w') : FiveBox w' b u0 u1 u2 u3 u4 :=
  ⟨Nat.lt_of_lt_of_le h.lt hb.size, (hb.cell h.lt).trans h.c0, (hb.cell h.lt).trans h.c1, (hb.cell h.lt).trans h.c2, (hb.cell h.lt).trans h.c3, (hb.cell h.lt).trans h.c4⟩
theorem mk_five {w0 : World} (x0 : Ext w0) (t : TypeId) (u0 u1 u2 u3 u4 : Int) :
    ∃ (w1 : World) (x : Ext w1), x0.v.alloc (Obj.cells #[.int .i64 u0, .int .i64 u1, .int .i64 u2, .int .i64 u3, .int .i64 u4] t) = x.v ∧ Below w0.heap.size w0 w1 ∧ FiveBox w1 x0.v.heap.size u0 u1 u2 u3 u4 :=
  ⟨_, ⟨_, Below.refl _ _⟩, rfl, bA x0.b _, by simp, by go_simp, by go_simp, by go_simp, by go_simp, by go_simp⟩
theorem LineBox.two {w : World} {b n c m d g o : Nat} {p q : Option Addr} {u v : Value} (h : LineBox w b p n c q m d) (hne : b ≠ g) : LineBox ((w.setCell ⟨g, o, none⟩ u).setCell ⟨g, o + 1, none⟩ v) b p n c q m d :=
  ⟨by simpa using h.lt, by rw [setTwo_else (by simp [hne]) (by simp [hne])]; exact h.c0, by rw [setTwo_else (by simp [hne]) (by simp [hne])]; exact h.c1⟩
theorem TwoBox.two {w : World} {b g : Nat} {a c : Int} {u v : Value} (h : TwoBox w b a c) (hne : b ≠ g) : TwoBox ((w.setCell ⟨g, 0, none⟩ u).setCell ⟨g, 1, none⟩ v) b a c :=
  ⟨by simpa using h.lt, by rw [setTwo_else (o := 0) (by simp [hne]) (by simp [hne])]; exact h.c0, by rw [setTwo_else (o := 0) (by simp [hne]) (by simp [hne])]; exact h.c1, fun i => by simpa using h.fz i⟩
theorem open_nat {D : Duct} {k : Int} (h : isPt D k = true) : ∃ j : Nat, k = (j : Int) ∧ j < D.n := isPt_nat h
end Go.Proofs.Ytkdlppekjjbgoaa
