/- A town at work: falls; the feet in each world that is left. -/
import Derived.Test.YtdjkbpenppdnlaaDoorG2

set_option linter.unusedSimpArgs false

set_option linter.unusedVariables false

namespace Go.Proofs.YtdjkbpenppdnlaaDoor

open Go.RowKit Go.Shelf
attribute [local go_sem] Oper.semAt_some

theorem fall_nat (T : Tn) (k i j : Nat) : T.fall k (i : Int) (j : Int) = T.fa k i j := by simp [Tn.fall]
set_option maxRecDepth 100000 in
set_option maxHeartbeats 2000000 in
theorem fallP_any (T : Tn) (A : Adr) (g k i j : Nat) (w : World) (hok : T.ok = true) (hk : k < T.nw) (hi : (i : Int) < T.wn) (hj : (j : Int) < T.wn) (hT : TnIn w w.heap.size T A) (hW : WkIn w g T A) :
    Calls Tryd.prog 118 #[.pointer (some ⟨g, 0, none⟩), .int .i64 (k : Int), .int .i64 (i : Int), .int .i64 (j : Int)] w fun e w' => e = .returned (.int .i64 (T.fall k (i : Int) (j : Int))) ∧ w = w' := by
  obtain ⟨_, _, _, H1, _⟩ := T.ok_parts hok
  obtain ⟨hrl, hr⟩ := H1 k hk
  obtain ⟨hcl, _⟩ := hr i (by omega)
  have hri : i < T.rl k := by omega
  have hcj : j < T.cl k i := by omega
  obtain ⟨b1, o1, e1, _, h1⟩ := hT.ws (by omega)
  obtain ⟨b2, o2, e2, _, h2⟩ := hT.rs k hk (by omega)
  obtain ⟨b3, o3, e3, _, h3⟩ := hT.is k hk i hri (by omega)
  have c1 := hW.c1
  rw [e1] at c1
  have d1 : w.cell? ⟨b1, o1 + k, none⟩ = some (.slice (A.rp k) (T.rl k) (A.rc k)) := h1 k (by omega)
  have d2 : w.cell? ⟨b2, o2 + i, none⟩ = some (.slice (A.ip k i) (T.cl k i) (A.ic k i)) := h2 i (by omega)
  have d3 : w.cell? ⟨b3, o3 + j, none⟩ = some (.int .i64 (T.fa k i j)) := h3 j (by omega)
  rw [e2] at d1
  rw [e3] at d2
  have q1 : (k : Int) < (T.nw : Int) := by omega
  have q2 : (i : Int) < (T.rl k : Int) := by omega
  have q3 : (j : Int) < (T.cl k i : Int) := by omega
  have HF := Lib.hid (fall_nat T k i j)
  clear h1 h2 h3 hT hW H1 hr e1 e2 e3 hok
  go_enter Tryd.func118, Tryd.ntmps118
  go_wp2
  go_ret
  exact ⟨ret_i HF.out.symm, rfl⟩
/-- what was collected so far -/
structure AVc (wb : World) (vs : List Value) (W : World) : Prop where
  b : Below wb.heap.size wb W
  sz : wb.heap.size + 3 ≤ W.heap.size
  c : ∃ v, W.cell? ⟨wb.heap.size, 0, none⟩ = some v ∧ W.ownsRow (wb.heap.size + 3) 3 1 v vs.length vs
  f : W.frozen? ⟨wb.heap.size, 0, none⟩ = false
theorem AVc.bel {w A B : World} {xs : List Value} (h : AVc w xs A) (hb : Below A.heap.size A B) : AVc w xs B := by
  have h1 := h.sz
  obtain ⟨v, hc, ho⟩ := h.c
  exact ⟨bT h.b hb, Nat.le_trans h1 hb.size, ⟨v, (hb.cell (p := ⟨w.heap.size, 0, none⟩) (by show w.heap.size < _; omega)).trans hc, own_below ho hb⟩, (hb.frozen (p := ⟨w.heap.size, 0, none⟩) (by show w.heap.size < _; omega)).trans h.f⟩
theorem AVc.put {w A : World} {k : Nat} {xs : List Value} (h : AVc w xs A) (o : Obj) (hk : w.heap.size < k) (hk3 : k < w.heap.size + 3) : AVc w xs (A.putObj k o) := by
  have h1 := h.sz
  obtain ⟨v, hc, ho⟩ := h.c
  have e : (A.putObj k o).heap[w.heap.size]? = A.heap[w.heap.size]? := World.putObj_heap_other (by omega)
  refine ⟨h.b.trans (below_putObj _ _ (by omega)), by simp [World.putObj]; omega, ⟨v, (World.cell?_of_block (a := ⟨w.heap.size, 0, none⟩) e).trans hc, ?_⟩, (World.frozen?_of_block (a := ⟨w.heap.size, 0, none⟩) e).trans h.f⟩
  refine ho.kept (row := some k) (grownBy_putObj' _ _ _) ?_
  cases hv : v.ownBlock with
  | none => exact .inl rfl
  | some x => exact .inr (fun e => by have := (ho.lt x hv).1; cases e; omega)
/-- one value more -/
theorem AVc.next {w A w4 : World} {xs : List Value} {v v' x : Value} (h : AVc w xs A) (hc : A.cell? ⟨w.heap.size, 0, none⟩ = some v) (ho : A.ownsRow (w.heap.size + 3) 3 1 v xs.length xs) (hown : w4.ownsRow (w.heap.size + 3) 3 1 v' (xs.length + 1) (xs ++ [x])) (hg : A.grownBy w4 v.ownBlock) :
    AVc w (xs ++ [x]) (w4.setCell ⟨w.heap.size, 0, none⟩ v') ∧ (∀ b, w.heap.size < b → b < w.heap.size + 3 → (w4.setCell ⟨w.heap.size, 0, none⟩ v').heap[b]? = A.heap[b]?) := by
  have h1 := h.sz
  have hne : ∀ b, b < w.heap.size + 3 → w4.heap[b]? = A.heap[b]? := fun b hb' => hg.block b (by omega) (fun e => by have := (ho.lt b e.symm).1; omega)
  have c : w4.cell? ⟨w.heap.size, 0, none⟩ = some v := (World.cell?_of_block (a := ⟨w.heap.size, 0, none⟩) (hne w.heap.size (by omega))).trans hc
  have f : w4.frozen? ⟨w.heap.size, 0, none⟩ = false := (World.frozen?_of_block (a := ⟨w.heap.size, 0, none⟩) (hne w.heap.size (by omega))).trans h.f
  have hb4 := below_grown (a := w) h.b ho (by omega) hg
  have hs := hg.size
  refine ⟨⟨bS hb4 (Nat.le_refl _) _, by simp; omega, ⟨v', by go_simp, ?_⟩, by go_simp⟩, fun b h2 h3 => (setCell_block (by show b ≠ w.heap.size; omega)).trans (hne b h3)⟩
  rw [List.length_append]
  exact own_set hown _ _ (by show w.heap.size < _; omega)
def intsF (f : Nat → Int) (l : List Nat) : List Value := l.map fun x => .int .i64 (f x)
theorem intsF_snoc {f : Nat → Int} {l : List Nat} {x : Nat} : intsF f (l ++ [x]) = intsF f l ++ [.int .i64 (f x)] := by simp [intsF]
theorem intsF_len {f : Nat → Int} {l : List Nat} : (intsF f l).length = l.length := by simp [intsF]
theorem intsF_row {f : Nat → Int} (l : List Nat) : intsF f l = rowG (fun k => .int .i64 (f (l.getD k 0))) l.length := by
  refine List.ext_getElem? fun i => ?_
  by_cases h : i < l.length
  · rw [rowG_at h]
    simp [intsF, List.getD_eq_getElem?_getD, h]
  · rw [List.getElem?_eq_none (by rw [intsF_len]; omega), List.getElem?_eq_none (by rw [rowG_len]; omega)]
theorem bits_left {T : Tn} {x : Nat} {l : List Nat} (hnw : T.nw ≤ 6) (h : l ++ [x] <+: bitsM (mk T.lft T.nw)) : x ∈ T.LL := by
  rw [LL_bits hnw] at h; exact h.subset (by simp)
end Go.Proofs.YtdjkbpenppdnlaaDoor
