/- Lines of an aqueduct in memory, of which one number, or point, is changed. -/
import Derived.Test.YtkdlppekjjbgoaaG3

import Derived.Test.YtkdlppekjjbgoaaS2

import Derived.Test.YtkdlppekjjbgoaaW5

set_option linter.unusedSimpArgs false

set_option linter.unusedVariables false

namespace Go.Proofs.Ytkdlppekjjbgoaa

open Go.RowKit

/-- one cost, one point, one of the odds set -/
def setCo (D : Duct) (k : Nat) (v : Int) : Duct := { D with co := fun i => if i = k then v else D.co i }
def setPt (D : Duct) (k : Nat) (a b v : Int) : Duct := { D with lo := fun i => if i = k then a else D.lo i, hi := fun i => if i = k then b else D.hi i, co := fun i => if i = k then v else D.co i }
def setOd (D : Duct) (k : Nat) (v : Int) : Duct := { D with od := fun i => if i = k then v else D.od i }
theorem DuctIn.congr {W : World} {K : Nat} {D E : Duct} {p q : Option Addr} (h : DuctIn W K D p q) (hn : E.n = D.n) (hm : E.m = D.m) (hp : ∀ k, k < D.n → E.lo k = D.lo k ∧ E.hi k = D.hi k ∧ E.co k = D.co k) (ho : ∀ k, k < D.m → E.od k = D.od k) : DuctIn W K E p q := by
  refine ⟨fun h0 => ?_, fun h0 => ?_⟩
  · obtain ⟨b, o, e, hl, hc⟩ := h.pt (by omega)
    exact ⟨b, o, e, hl, fun i hi => by rw [(hp i (by omega)).1]; exact hc.c0 i (by omega), fun i hi => by rw [(hp i (by omega)).2.1]; exact hc.c1 i (by omega), fun i hi => by rw [(hp i (by omega)).2.2]; exact hc.c2 i (by omega)⟩
  · obtain ⟨b, o, e, hl, hc⟩ := h.od (by omega)
    exact ⟨b, o, e, hl, fun i hi => by rw [ho i (by omega)]; exact hc i (by omega)⟩
theorem cell_else {W : World} {g o : Nat} {v : Value} {x : Addr} (h0 : x ≠ ⟨g, o, none⟩) : (W.setCell ⟨g, o, none⟩ v).cell? x = W.cell? x := World.cell?_setCell_other _ _ _ _ (Ne.symm h0)
theorem cell_same {W : World} {g o : Nat} {u v : Value} (h : W.cell? ⟨g, o, none⟩ = some u) : (W.setCell ⟨g, o, none⟩ v).cell? ⟨g, o, none⟩ = some v := World.cell?_setCell_same' _ _ _ (by rw [h]; rfl)
theorem DuctIn.setCo {W : World} {K : Nat} {D : Duct} {g o k : Nat} {q : Option Addr} {v : Int} (h : DuctIn W K D (some ⟨g, o, none⟩) q) (hk : k < D.n) (hq : 0 < D.m → ∀ g2 o2, q = some ⟨g2, o2, none⟩ → g2 ≠ g) :
    DuctIn (W.setCell ⟨g, o + k * 3 + 2, none⟩ (.int .i64 v)) K (setCo D k v) (some ⟨g, o, none⟩) q := by
  obtain ⟨g', o', e, hl, hc⟩ := h.pt (by omega)
  cases e
  refine ⟨fun _ => ⟨g, o, rfl, hl, fun i hi => ?_, fun i hi => ?_, fun i hi => ?_⟩, fun h0 => ?_⟩
  · rw [cell_else (by simp; try omega)]; exact hc.c0 i hi
  · rw [cell_else (by simp; try omega)]; exact hc.c1 i hi
  · show _ = some (Value.int .i64 (if i = k then v else D.co i))
    by_cases e : i = k
    · subst e; rw [if_pos rfl]; exact cell_same (hc.c2 i hi)
    · rw [if_neg e, cell_else (by simp; try omega)]; exact hc.c2 i hi
  · obtain ⟨g2, o2, e2, l2, c2⟩ := h.od h0
    have hne := hq h0 g2 o2 e2
    exact ⟨g2, o2, e2, l2, fun i hi => by rw [cell_else (by simp; try omega)]; exact c2 i hi⟩
theorem DuctIn.setPt {W : World} {K : Nat} {D : Duct} {g o k : Nat} {q : Option Addr} {a b v : Int} (h : DuctIn W K D (some ⟨g, o, none⟩) q) (hk : k < D.n) (hq : 0 < D.m → ∀ g2 o2, q = some ⟨g2, o2, none⟩ → g2 ≠ g) :
    DuctIn (((W.setCell ⟨g, o + k * 3, none⟩ (.int .i64 a)).setCell ⟨g, o + k * 3 + 1, none⟩ (.int .i64 b)).setCell ⟨g, o + k * 3 + 2, none⟩ (.int .i64 v)) K (setPt D k a b v) (some ⟨g, o, none⟩) q := by
  have h2 := (nar_in (a := a) (b := b) h hk hq).setCo (v := v) hk hq
  exact h2.congr rfl rfl (fun i _ => ⟨rfl, rfl, rfl⟩) (fun i _ => rfl)
theorem DuctIn.setOd {W : World} {K : Nat} {D : Duct} {g o k : Nat} {p : Option Addr} {v : Int} (h : DuctIn W K D p (some ⟨g, o, none⟩)) (hk : k < D.m) (hq : 0 < D.n → ∀ g2 o2, p = some ⟨g2, o2, none⟩ → g2 ≠ g) :
    DuctIn (W.setCell ⟨g, o + k, none⟩ (.int .i64 v)) K (setOd D k v) p (some ⟨g, o, none⟩) := by
  refine ⟨fun h0 => ?_, fun h0 => ?_⟩
  · obtain ⟨g2, o2, e2, l2, c2⟩ := h.pt h0
    have hne := hq h0 g2 o2 e2
    exact ⟨g2, o2, e2, l2, fun i hi => by rw [cell_else (by simp; try omega)]; exact c2.c0 i hi, fun i hi => by rw [cell_else (by simp; try omega)]; exact c2.c1 i hi, fun i hi => by rw [cell_else (by simp; try omega)]; exact c2.c2 i hi⟩
  · obtain ⟨g', o', e, hl, hc⟩ := h.od (by omega)
    cases e
    refine ⟨g, o, rfl, hl, fun i hi => ?_⟩
    show _ = some (Value.int .i64 (if i = k then v else D.od i))
    by_cases e : i = k
    · subst e; rw [if_pos rfl]; exact cell_same (hc i hi)
    · rw [if_neg e, cell_else (by simp; try omega)]; exact hc i hi
theorem LineBox.set1 {w : World} {b n c m d g o : Nat} {p q : Option Addr} {u : Value} (h : LineBox w b p n c q m d) (hne : b ≠ g) : LineBox (w.setCell ⟨g, o, none⟩ u) b p n c q m d :=
  ⟨by simpa using h.lt, by rw [cell_else (by simp [hne])]; exact h.c0, by rw [cell_else (by simp [hne])]; exact h.c1⟩
theorem LineBox.set3 {w : World} {b n c m d g o1 o2 o3 : Nat} {p q : Option Addr} {u1 u2 u3 : Value} (h : LineBox w b p n c q m d) (hne : b ≠ g) : LineBox (((w.setCell ⟨g, o1, none⟩ u1).setCell ⟨g, o2, none⟩ u2).setCell ⟨g, o3, none⟩ u3) b p n c q m d :=
  ((h.set1 hne).set1 hne).set1 hne
/-- all costs below i are x -/
def coD (D : Duct) (x : Int) (i : Nat) : Duct := { D with co := fun k => if k < i then x else D.co k }
/-- the cells of a list of numbers -/
def rowL (l : List Nat) : List Value := l.map fun (p : Nat) => Value.int .i64 (p : Int)
theorem rowL_len (l : List Nat) : (rowL l).length = l.length := by simp [rowL]
theorem rowL_snoc (l : List Nat) (x : Nat) : rowL l ++ [.int .i64 (x : Int)] = rowL (l ++ [x]) := by simp [rowL]
theorem rowL_at {l : List Nat} {k : Nat} (h : k < l.length) : (rowL l)[k]? = some (.int .i64 (atL l k)) := by
  unfold rowL atL
  rw [List.getElem?_map, List.getElem?_eq_getElem h, List.getD_eq_getElem?_getD, List.getElem?_eq_getElem h]; rfl
theorem numL_own {w : World} {base : Nat} {v : Value} {l : List Nat} {n : Nat} (h : w.ownsRow base 3 1 v n (rowL l)) (hn : n = l.length) : ∃ p c, v = .slice p n c ∧ NumIn w w.heap.size n (atL l) p := by
  obtain ⟨p, c, rfl, hf⟩ := own_form h
  refine ⟨p, c, rfl, fun h0 => ?_⟩
  obtain ⟨g, rfl, _, hl, hc, _⟩ := hf h0
  exact ⟨g, 0, rfl, hl, fun k hk => by rw [Nat.zero_add, hc k (by omega), rowL_at (by omega)]⟩
end Go.Proofs.Ytkdlppekjjbgoaa
