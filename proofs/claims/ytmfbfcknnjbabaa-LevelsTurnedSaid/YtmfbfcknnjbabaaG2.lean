/- Marks of ranges over functions among the deferred calls, and how a function leaves with them. -/
import Derived.Test.YtmfbfcknnjbabaaD6
import Derived.RangeFuncBox
set_option linter.unusedSimpArgs false
set_option linter.unusedVariables false
namespace Go.Proofs.Ytmfbfcknnjbabaa
open Go.RowKit Go.Shelf

def mkD (D : Nat) : Deferred := { target := .collected D, args := #[] }
/-- the marks of ranges over functions that are over, all in blocks from B on -/
structure Marks (B : Nat) (W : World) (Ds : List Nat) : Prop where
  nd : Ds.Nodup
  lo : ∀ D ∈ Ds, B ≤ D
  at_ : ∀ D ∈ Ds, W.heap[D]? = some (.deferred (some []))
theorem Marks.nil (B : Nat) (W : World) : Marks B W [] := ⟨List.nodup_nil, fun _ h => (by cases h), fun _ h => (by cases h)⟩
theorem Marks.cons {B : Nat} {W W' : World} {Ds : List Nat} {D : Nat} (h : Marks B W Ds) (hB : B ≤ W.heap.size) (hD : W.heap.size ≤ D) (hk : W'.heap[D]? = some (.deferred (some [])))
    (hs : ∀ k, B ≤ k → k < W.heap.size → W'.heap[k]? = W.heap[k]?) : Marks B W' (D :: Ds) := by
  have hlt : ∀ E ∈ Ds, E < W.heap.size := fun E hE => (Array.getElem?_eq_some_iff.1 (h.at_ E hE)).1
  refine ⟨List.nodup_cons.2 ⟨fun hE => ?_, h.nd⟩, ?_, ?_⟩
  · have := hlt D hE; omega
  · intro E hE
    rcases List.mem_cons.1 hE with rfl | hE
    · omega
    · exact h.lo E hE
  · intro E hE
    rcases List.mem_cons.1 hE with rfl | hE
    · exact hk
    · rw [hs E (h.lo E hE) (hlt E hE)]; exact h.at_ E hE
theorem Marks.below {B : Nat} {W W' : World} {Ds : List Nat} (h : Marks B W Ds) (hb : Below W.heap.size W W') : Marks B W' Ds :=
  ⟨h.nd, h.lo, fun E hE => (hb.block E (Array.getElem?_eq_some_iff.1 (h.at_ E hE)).1).trans (h.at_ E hE)⟩
/-- what is cells is as it was -/
def Kc (W W' : World) : Prop := ∀ (k : Nat) (c : Array Value) (T : TypeId) (f : Nat × Nat), W.heap[k]? = some (Obj.cells c T f) → W'.heap[k]? = some (Obj.cells c T f)
theorem Kc.refl (W : World) : Kc W W := fun _ _ _ _ h => h
theorem Kc.trans {X Y Z : World} (h : Kc X Y) (g : Kc Y Z) : Kc X Z := fun k c T f e => g k c T f (h k c T f e)
theorem kc_put {W : World} {l : Nat} {o : Obj} (h : ∀ (c : Array Value) (T : TypeId) (f : Nat × Nat), W.heap[l]? ≠ some (Obj.cells c T f)) : Kc W (W.putObj l o) := fun k c T f e =>
  (World.putObj_heap_other (by rintro rfl; exact h c T f e)).trans e
theorem own_kc {W W' : World} {base : Nat} {e : TypeId} {size : Nat} {v : Value} {n : Nat} {xs : List Value} (h : W.ownsRow base e size v n xs) (k : Kc W W') : W'.ownsRow base e size v n xs := by
  refine ⟨h.1, ?_⟩
  rcases h.2 with h0 | ⟨g, cap, cur, e, hb, hg, r⟩
  · exact .inl h0
  · exact .inr ⟨g, cap, cur, e, hb, k _ _ _ _ hg, r⟩
theorem boxed_kc {W W' : World} {b : Nat} {T : TypeId} {v : Value} (h : Boxed W b T v) (k : Kc W W') : Boxed W' b T v := k _ _ _ _ h
theorem own_set {W : World} {base b : Nat} {e : TypeId} {size : Nat} {v u : Value} {n : Nat} {xs : List Value} (h : W.ownsRow base e size v n xs) (hb : b < base) : (W.setCell ⟨b, 0, none⟩ u).ownsRow base e size v n xs := by
  refine h.kept (grownBy_setCell' W b u) ?_
  cases hv : v.ownBlock with
  | none => exact .inl rfl
  | some k => exact .inr (by have := (h.lt k hv).1; simp; omega)
theorem Boxed.bel {W W' : World} {b : Nat} {T : TypeId} {v : Value} {B : Nat} (h : Boxed W b T v) (hb : Below B W W') (hl : b < B) : Boxed W' b T v := (hb.block b hl).trans h
theorem Marks.same {B : Nat} {W W' : World} {Ds : List Nat} (h : Marks B W Ds) (hs : ∀ k, B ≤ k → k < W.heap.size → W'.heap[k]? = W.heap[k]?) : Marks B W' Ds :=
  ⟨h.nd, h.lo, fun E hE => (hs E (h.lo E hE) (Array.getElem?_eq_some_iff.1 (h.at_ E hE)).1).trans (h.at_ E hE)⟩
theorem ints_grown {V W : World} {l b o : Nat} {xs : List Int} {r : Loop} (h : IntsAt V V.heap.size b o xs) (hr : V.heap[l]? = some (.loop r)) (hg : V.grownBy W (some l)) : IntsAt W W.heap.size b o xs := by
  refine ⟨Nat.lt_of_lt_of_le h.lt hg.size, fun k hk => ?_⟩
  have hc := h.cell k hk
  have hne : b ≠ l := by
    rintro rfl
    simp [World.cell?, hr] at hc
  exact (World.cell?_of_block (hg.block b h.lt (by simpa using hne))).trans hc
theorem leave_marks {F : Fence} {n : Nat} {P : Program} {fn : Func} {tmps : Array Value} {R : Ending → World → Prop} {B : Nat} : ∀ (Ds : List Nat) (W : World), Marks B W Ds →
    (∀ W', Below B W W' → Kc W W' → LeavesInM F n P fn tmps R [] .returning W') → LeavesInM F n P fn tmps R (Ds.map mkD) .returning W
  | [], W, _, h => h W (Below.refl _ _) (Kc.refl W)
  | D :: Ds, W, hm, h => by
    have hD := hm.at_ D (List.mem_cons_self ..)
    have hB := hm.lo D (List.mem_cons_self ..)
    obtain ⟨hn1, hn2⟩ := List.nodup_cons.1 hm.nd
    refine ⟨by simp, .inl ⟨D, _, rfl, run_takeDeferred hD, ?_⟩⟩
    refine leave_marks Ds _ ⟨hn2, fun E hE => hm.lo E (List.mem_cons_of_mem _ hE), fun E hE => ?_⟩ fun W' hW' hk => h W' ((below_putObj W _ hB).trans hW') ((kc_put (by rw [hD]; intros; simp)).trans hk)
    exact (World.putObj_heap_other (by rintro rfl; exact hn1 hE)).trans (hm.at_ E (List.mem_cons_of_mem _ hE))

/-- results in two cells: a slice, and an error -/
theorem results_cells {fn : Func} {a b : Tmp} {x y : Nat} {W : World} {p : Option Addr} {m c : Nat} {e : Int} (h : fn.results = #[.cell a 26, .cell b 30]) (tmps : Array Value) (ha : tmps.getD a undef = .pointer (some ⟨x, 0, none⟩)) (hb : tmps.getD b undef = .pointer (some ⟨y, 0, none⟩))
    (hx : Boxed W x 26 (.slice p m c)) (hy : Boxed W y 30 (.int .i64 e)) : (results fn tmps).run Try.prog W = .ok (.tuple #[.slice p m c, .int .i64 e]) W := by
  have cx := hx.cell
  have cy := hy.cell
  have ha' : tmps[a]?.getD undef = .pointer (some ⟨x, 0, none⟩) := by simpa using ha
  have hb' : tmps[b]?.getD undef = .pointer (some ⟨y, 0, none⟩) := by simpa using hb
  simp [results, h, ha', hb', asAddr, go_sem, cx, cy]

/-- the first list that answers yes, of those of the first lengths -/
def findTo (p : List Int → Bool) (L : Nat → List (List Int)) : Nat → Option (List Int)
  | 0 => none
  | k + 1 => match findTo p L k with
    | some l => some l
    | none => (L k).find? p
theorem findTo_some {p : List Int → Bool} {L : Nat → List (List Int)} {k : Nat} {l : List Int} (h : findTo p L k = some l) : ∀ j, findTo p L (k + j) = some l
  | 0 => h
  | j + 1 => by rw [← Nat.add_assoc]; simp only [findTo]; rw [findTo_some h j]
theorem find_none {p : List Int → Bool} {l : List (List Int)} (h : ∀ x ∈ l, p x = false) : l.find? p = none := by
  rw [List.find?_eq_none]; intro x hx; simp [h x hx]
theorem find_some_pre {p : List Int → Bool} {l pre : List (List Int)} {x : List Int} (h : (pre ++ [x]) <+: l) (h0 : ∀ y ∈ pre, p y = false) (h1 : p x = true) : l.find? p = some x := by
  obtain ⟨t, rfl⟩ := h
  rw [List.append_assoc, List.find?_append, find_none h0]
  simp [h1]
end Go.Proofs.Ytmfbfcknnjbabaa
