/- Towns with worlds: arguments opened. -/
import Derived.Test.YtdjkbpenppdnlaaDoorR1

import Derived.LaidMore

import Derived.OpenShut

set_option linter.unusedSimpArgs false

set_option linter.unusedVariables false

namespace Go.Proofs.YtdjkbpenppdnlaaDoor

open Go.ChangeShapes Go.WideShapes Go.ChangeAt Go.RowKit Go.Joins Go.Deep

theorem addr_of {w : World} {a : Addr} {v : Value} (h : w.cell? a = some v) : ∃ b o, a = ⟨b, o, none⟩ ∧ b < w.heap.size := by
  obtain ⟨b, o, s⟩ := a
  cases s with
  | none => exact ⟨b, o, rfl, World.block_lt_of_cell? w _ h⟩
  | some x =>
    simp only [World.cell?] at h
    split at h <;> simp at h

theorem add_at' (x o j : Nat) : (⟨x, o, none⟩ : Addr).add j = ⟨x, o + j, none⟩ := by unfold Addr.add; split <;> simp_all
section

variable {H : Type} {enc : TypeId × Value → H} {P : Program} {w : World} {base : Nat} {spare : Nat → Bool} {held : Bool}

theorem open_struct_slice {t e : TypeId} {fs : Array Field} {fuel : Nat} {cs : List Value} {x : DataW H × List MemPlace} (ht : P.underlying t = some (.slice e)) (he : P.underlying e = some (.struct fs))
    (hone : oneCellFields P fs = true) (hC : P.cellsOf e = fs.size) (h : DataW.trod enc P w base spare held fuel t cs = some x) :
    cs = [.slice none 0 0] ∨ ∃ (a : Addr) (len cap : Nat), cs = [.slice (some a) len cap] ∧ cap ≤ maxLen ∧ len ≤ cap ∧
      ∀ i, i < len → ∀ (j : Nat) (f : Field), fs[j]? = some f → ∃ (v : Value) (y : DataW H × List MemPlace) (n : Nat), w.cell? (a.add (i * fs.size + j)) = some v ∧ DataW.trod enc P w base spare held n f.type [v] = some y := by
  rcases open_slice ht h with h0 | ⟨a, len, cap, m, n, D, Pl, hcs, hb, hl, hm, hmm, hx, hi⟩
  · exact .inl h0.1
  · refine .inr ⟨a, len, cap, hcs, hm, hl, fun i hi' j f hj => ?_⟩
    have him : i < m := by rw [hmm]; split <;> omega
    obtain ⟨cs', hc, ht'⟩ := hi i him
    rw [hC] at hc
    obtain ⟨ys, n', hn', hy, hlen, hyl, hf⟩ := DataW.trod_struct he ht'
    obtain ⟨_, hcl, hat⟩ := World.cells?_some hc
    obtain ⟨ho, hk⟩ := hone_of hone j f hj
    have hjl : j < fs.size := (Array.getElem?_eq_some_iff.1 hj).1
    have hcell := hat j hjl
    have hv : cs'[j]? = some (cs'[j]'(by omega)) := List.getElem?_eq_getElem (by omega)
    have h1 := hf j f hj
    rw [ho, hk] at h1
    have hone' : (cs'.drop j).take 1 = [cs'[j]'(by omega)] := by
      rw [List.drop_eq_getElem_cons (by omega)]
      rfl
    rw [hone'] at h1
    have hys : ys[j]? = some (ys[j]'(by omega)) := List.getElem?_eq_getElem (by omega)
    exact ⟨_, _, n', by rw [← Go.Deep.add_add, hcell, hv], h1.trans hys⟩
end

section

variable {H : Type} {enc : TypeId × Value → H} {P : Program} {w : World} {base : Nat} {spare : Nat → Bool} {held : Bool}

/-- a struct of one-cell fields, by value: each field's cell with its reading -/
theorem open_fields {r : Reach} {b0 : Nat} {t : TypeId} {fs : Array Field} {v : Value} {d : DataW H} {p : List MemPlace} (hs : P.underlying t = some (.struct fs)) (hone : oneCellFields P fs = true) (hC : P.cellsOf t = fs.size)
    (hv : Value.okWide P w r b0 t v) (h : DataW.Trod enc P w base spare held t v d p) :
    ∃ cs : Array Value, v = .agg cs ∧ cs.size = fs.size ∧ ∀ (j : Nat) (f : Field), fs[j]? = some f → ∃ (u : Value) (y : DataW H × List MemPlace) (n : Nat), cs[j]? = some u ∧ DataW.trod enc P w base spare held n f.type [u] = some y := by
  obtain ⟨cs, rfl, hsz⟩ := okWide_struct hs hv
  obtain ⟨fuel, hf⟩ := h
  have hsz' : cs.size = fs.size := hsz.trans hC
  refine ⟨cs, rfl, hsz', fun j f hj => ?_⟩
  obtain ⟨ys, n', hn', hy, hlen, hyl, hf⟩ := DataW.trod_struct hs hf
  obtain ⟨ho, hk⟩ := hone_of hone j f hj
  have hjl : j < fs.size := (Array.getElem?_eq_some_iff.1 hj).1
  have h1 := hf j f hj
  rw [ho, hk] at h1
  have hj' : j < cs.toList.length := by simp; omega
  have hone' : ((Value.agg cs).cells.toList.drop j).take 1 = [cs.toList[j]] := by
    show (cs.toList.drop j).take 1 = _
    rw [List.drop_eq_getElem_cons hj']
    rfl
  rw [hone'] at h1
  have hys : ys[j]? = some (ys[j]'(by omega)) := List.getElem?_eq_getElem (by omega)
  exact ⟨cs.toList[j], _, n', by simp, h1.trans hys⟩
end

theorem pick_of {α : Type} [Inhabited α] {P : Nat → α → Prop} {n : Nat} (h : ∀ i, i < n → ∃ x, P i x) : ∃ f : Nat → α, ∀ i, i < n → P i (f i) :=
  ⟨fun i => if hi : i < n then Classical.choose (h i hi) else default, fun i hi => by
    show P i (dite _ _ _)
    rw [dif_pos hi]
    exact Classical.choose_spec (h i hi)⟩
theorem array3 {α : Type} {a : Array α} (h : a.size = 3) : ∃ x0 x1 x2, a = #[x0, x1, x2] := by
  obtain ⟨l⟩ := a
  match l, h with
  | [x0, x1, x2], _ => exact ⟨x0, x1, x2, rfl⟩
section

variable {H : Type} {enc : TypeId × Value → H} {w : World} {spare : Nat → Bool} {held : Bool}

theorem cellsT : Tryd.prog.cellsOf 25 = 3 := by kernel_rfl
theorem cellsW : Tryd.prog.cellsOf 83 = 1 := by kernel_rfl
theorem cellsF : Tryd.prog.cellsOf 72 = 5 := by kernel_rfl
theorem cellsI : Tryd.prog.cellsOf 3 = 1 := by kernel_rfl
theorem cellsL : Tryd.prog.cellsOf 31 = 1 := by kernel_rfl
theorem open_intsB {fuel : Nat} {cs : List Value} {x : DataW H × List MemPlace} (h : DataW.trod enc Tryd.prog w 0 spare held fuel 31 cs = some x) :
    ∃ (l : Nat) (f : Nat → Int) (p : Option Addr) (c : Nat), cs = [.slice p l c] ∧ l ≤ maxLen ∧ At w w.heap.size p l 1 (fun k => .int .i64 (f k)) := by
  rcases open_ints Tryd.underlying31 Tryd.underlying3 cellsI h with ⟨hcs, hx⟩ | ⟨a, len', cap', zs, hcs, _, hl, hm, hz, hx, hcell, hwz⟩
  · subst hcs
    exact ⟨0, fun _ => 0, none, 0, rfl, by unfold maxLen; simp, fun h => by omega⟩
  · subst hcs
    have hlz : len' ≤ zs.length := by rw [hz]; split <;> omega
    refine ⟨len', fun k => zs.getD k 0, some a, cap', rfl, by omega, fun h0 => ?_⟩
    have h1 := hcell 0 (by omega)
    rw [show a.add 0 = a by simp [Addr.add]] at h1
    obtain ⟨b, o, rfl, hb⟩ := addr_of h1
    refine ⟨b, o, rfl, hb, fun k hk => ?_⟩
    have h2 := hcell k (by omega)
    rw [add_at'] at h2
    exact h2
/-- a row of numbers in a cell -/
structure RowD where
  p : Option Addr
  l : Nat
  c : Nat
  f : Nat → Int
instance : Inhabited RowD := ⟨⟨none, 0, 0, fun _ => 0⟩⟩
def RowD.lies (r : RowD) (w : World) : Prop := r.l ≤ maxLen ∧ At w w.heap.size r.p r.l 1 (fun k => .int .i64 (r.f k))
structure RowsD where
  p : Option Addr
  l : Nat
  c : Nat
  f : Nat → RowD
instance : Inhabited RowsD := ⟨⟨none, 0, 0, fun _ => default⟩⟩
def RowsD.lies (r : RowsD) (w : World) : Prop := r.l ≤ maxLen ∧ At w w.heap.size r.p r.l 1 (fun k => .slice (r.f k).p (r.f k).l (r.f k).c) ∧ ∀ i, i < r.l → (r.f i).lies w
theorem open_rowsB {fuel : Nat} {cs : List Value} {x : DataW H × List MemPlace} (h : DataW.trod enc Tryd.prog w 0 spare held fuel 81 cs = some x) :
    ∃ r : RowsD, cs = [.slice r.p r.l r.c] ∧ r.lies w := by
  rcases open_slice Tryd.underlying81 h with h0 | ⟨a, len, cap, m, n, D, Pl, hcs, hb, hl, hm, hmm, hx, hi⟩
  · exact ⟨⟨none, 0, 0, fun _ => default⟩, h0.1, Nat.zero_le _, fun h => absurd h (Nat.lt_irrefl _), fun i h => absurd h (Nat.not_lt_zero _)⟩
  · obtain ⟨f, hf⟩ := pick_of (n := len) (P := fun i (t : RowD) => w.cell? (a.add i) = some (.slice t.p t.l t.c) ∧ t.lies w) fun i hi' => by
      have him : i < m := by rw [hmm]; split <;> omega
      obtain ⟨cs', hc, ht'⟩ := hi i him
      rw [cellsL] at hc
      obtain ⟨_, hcl, hat⟩ := World.cells?_some hc
      match cs', hcl, hat, ht' with
      | [v0], _, hat, ht' =>
        obtain ⟨l, f, p, c, e, h1, h2⟩ := open_intsB ht'
        simp only [List.cons.injEq, and_true] at e
        subst e
        have a0 := hat 0 (by omega)
        rw [Go.Deep.add_add] at a0
        exact ⟨⟨p, l, c, f⟩, by simpa using a0, h1, h2⟩
    refine ⟨⟨some a, len, cap, f⟩, hcs, (by show len ≤ maxLen; omega), fun h0 => ?_, fun i hi => (hf i hi).2⟩
    obtain ⟨z0, _⟩ := hf 0 h0
    rw [show a.add 0 = a by simp [Addr.add]] at z0
    obtain ⟨b, o, rfl, hbl⟩ := addr_of z0
    refine ⟨b, o, rfl, hbl, fun k hk => ?_⟩
    obtain ⟨c0, _⟩ := hf k (by simpa using hk)
    rw [add_at'] at c0
    exact c0
theorem open_worldsB {fuel : Nat} {cs : List Value} {x : DataW H × List MemPlace} (h : DataW.trod enc Tryd.prog w 0 spare held fuel 22 cs = some x) :
    ∃ (n : Nat) (f : Nat → RowsD) (p : Option Addr) (c : Nat), cs = [.slice p n c] ∧ n ≤ maxLen ∧ At w w.heap.size p n 1 (fun k => .slice (f k).p (f k).l (f k).c) ∧ ∀ i, i < n → (f i).lies w := by
  rcases open_struct_slice Tryd.underlying22 Tryd.underlying83 (by kernel_rfl) (by rw [cellsW]; rfl) h with rfl | ⟨a, len, cap, rfl, hc, hl, hf⟩
  · exact ⟨0, fun _ => default, none, 0, rfl, Nat.zero_le _, fun h => absurd h (Nat.lt_irrefl _), fun i h => absurd h (Nat.not_lt_zero _)⟩
  · obtain ⟨f, hf⟩ := pick_of (n := len) (P := fun i (t : RowsD) => w.cell? (a.add i) = some (.slice t.p t.l t.c) ∧ t.lies w) fun i hi => by
      obtain ⟨v0, y0, n0, c0, t0⟩ := hf i hi 0 _ rfl
      obtain ⟨r, e, h1⟩ := open_rowsB t0
      simp only [List.cons.injEq, and_true] at e
      subst e
      exact ⟨r, by simpa using c0, h1⟩
    refine ⟨len, f, some a, cap, rfl, by omega, fun h0 => ?_, fun i hi => (hf i hi).2⟩
    obtain ⟨z0, _⟩ := hf 0 h0
    rw [show a.add 0 = a by simp [Addr.add]] at z0
    obtain ⟨b, o, rfl, hbl⟩ := addr_of z0
    refine ⟨b, o, rfl, hbl, fun k hk => ?_⟩
    obtain ⟨c0, _⟩ := hf k (by simpa using hk)
    rw [add_at'] at c0
    exact c0
theorem open_factsB {fuel : Nat} {cs : List Value} {x : DataW H × List MemPlace} (h : DataW.trod enc Tryd.prog w 0 spare held fuel 23 cs = some x) :
    ∃ (n : Nat) (f : Nat → Int × Int × Int × Int × Int) (p : Option Addr) (c : Nat), cs = [.slice p n c] ∧ n ≤ maxLen ∧ (0 < n → ∃ b o, p = some ⟨b, o, none⟩ ∧ b < w.heap.size ∧ ∀ k, k < n →
      w.cell? ⟨b, o + (k * 5 + 0), none⟩ = some (.int .i64 (f k).1) ∧ w.cell? ⟨b, o + (k * 5 + 1), none⟩ = some (.int .i64 (f k).2.1) ∧ w.cell? ⟨b, o + (k * 5 + 2), none⟩ = some (.int .i64 (f k).2.2.1) ∧ w.cell? ⟨b, o + (k * 5 + 3), none⟩ = some (.int .i64 (f k).2.2.2.1) ∧ w.cell? ⟨b, o + (k * 5 + 4), none⟩ = some (.int .i64 (f k).2.2.2.2)) := by
  rcases open_struct_slice Tryd.underlying23 Tryd.underlying72 (by kernel_rfl) (by rw [cellsF]; rfl) h with rfl | ⟨a, len, cap, rfl, hc, hl, hf⟩
  · exact ⟨0, fun _ => (0, 0, 0, 0, 0), none, 0, rfl, Nat.zero_le _, fun h => absurd h (Nat.lt_irrefl _)⟩
  · obtain ⟨f, hf⟩ := pick_of (n := len) (P := fun i (t : Int × Int × Int × Int × Int) => w.cell? (a.add (i * 5 + 0)) = some (.int .i64 t.1) ∧ w.cell? (a.add (i * 5 + 1)) = some (.int .i64 t.2.1) ∧ w.cell? (a.add (i * 5 + 2)) = some (.int .i64 t.2.2.1) ∧ w.cell? (a.add (i * 5 + 3)) = some (.int .i64 t.2.2.2.1) ∧ w.cell? (a.add (i * 5 + 4)) = some (.int .i64 t.2.2.2.2)) fun i hi => by
      obtain ⟨v0, y0, n0, c0, t0⟩ := hf i hi 0 _ rfl
      obtain ⟨v1, y1, n1, c1, t1⟩ := hf i hi 1 _ rfl
      obtain ⟨v2, y2, n2, c2, t2⟩ := hf i hi 2 _ rfl
      obtain ⟨v3, y3, n3, c3, t3⟩ := hf i hi 3 _ rfl
      obtain ⟨v4, y4, n4, c4, t4⟩ := hf i hi 4 _ rfl
      obtain ⟨m0, e0, _⟩ := DataW.trod_int Tryd.underlying3 t0
      obtain ⟨m1, e1, _⟩ := DataW.trod_int Tryd.underlying3 t1
      obtain ⟨m2, e2, _⟩ := DataW.trod_int Tryd.underlying3 t2
      obtain ⟨m3, e3, _⟩ := DataW.trod_int Tryd.underlying3 t3
      obtain ⟨m4, e4, _⟩ := DataW.trod_int Tryd.underlying3 t4
      cases e0; cases e1; cases e2; cases e3; cases e4
      exact ⟨(m0, m1, m2, m3, m4), c0, c1, c2, c3, c4⟩
    refine ⟨len, f, some a, cap, rfl, by omega, fun h0 => ?_⟩
    obtain ⟨z0, _⟩ := hf 0 h0
    rw [show a.add (0 * 5 + 0) = a by simp [Addr.add]] at z0
    obtain ⟨b, o, rfl, hbl⟩ := addr_of z0
    refine ⟨b, o, rfl, hbl, fun k hk => ?_⟩
    obtain ⟨c0, c1, c2, c3, c4⟩ := hf k hk
    rw [add_at'] at c0 c1 c2 c3 c4
    exact ⟨c0, c1, c2, c3, c4⟩
set_option maxRecDepth 100000 in
/-- an argument that is a town -/
theorem open_town {r : Reach} {b0 : Nat} {v : Value} {d : DataW H} {ps : List MemPlace} (hv : Value.okWide Tryd.prog w r b0 25 v) (h : DataW.Trod enc Tryd.prog w 0 spare held 25 v d ps) :
    ∃ (T : Tn) (A : Adr), v = A.val T ∧ TnIn w w.heap.size T A ∧ T.nw ≤ maxLen ∧ T.nf ≤ maxLen ∧ (∀ k, k < T.nw → T.rl k ≤ maxLen ∧ ∀ i, i < T.rl k → T.cl k i ≤ maxLen) := by
  obtain ⟨cs, rfl, hsz, hf⟩ := open_fields Tryd.underlying25 (by kernel_rfl) cellsT hv h
  obtain ⟨v0, v1, v2, rfl⟩ := array3 hsz
  obtain ⟨u0, y0, n0, c0, t0⟩ := hf 0 _ rfl
  obtain ⟨u1, y1, n1, c1, t1⟩ := hf 1 _ rfl
  obtain ⟨u2, y2, n2, c2, t2⟩ := hf 2 _ rfl
  obtain rfl : v0 = u0 := Option.some.inj c0
  obtain rfl : v1 = u1 := Option.some.inj c1
  obtain rfl : v2 = u2 := Option.some.inj c2
  obtain ⟨wn, e0, _⟩ := DataW.trod_int Tryd.underlying3 t0
  obtain ⟨nw, W, wp, wc, e1, hnw, hW, hWi⟩ := open_worldsB t1
  obtain ⟨nf, F, fp, fc, e2, hnf, hF⟩ := open_factsB t2
  cases e0; cases e1; cases e2
  refine ⟨⟨wn, nw, fun k => (W k).l, fun k i => ((W k).f i).l, fun k i j => ((W k).f i).f j, nf, fun k => (F k).1, fun k => (F k).2.1, fun k => (F k).2.2.1, fun k => (F k).2.2.2.1, fun k => (F k).2.2.2.2⟩,
    ⟨wp, wc, fp, fc, fun k => (W k).p, fun k => (W k).c, fun k i => ((W k).f i).p, fun k i => ((W k).f i).c⟩, rfl, ⟨hW, fun k hk => (hWi k hk).2.1, fun k hk i hi => ((hWi k hk).2.2 i hi).2, fun h0 => ?_⟩, hnw, hnf, fun k hk => ⟨(hWi k hk).1, fun i hi => ((hWi k hk).2.2 i hi).1⟩⟩
  obtain ⟨b, o, e, hb, hc⟩ := hF h0
  refine ⟨b, o, e, hb, fun j hj => ?_⟩
  replace hj : j < nf * 5 := hj
  obtain ⟨k0, k1, k2, k3, k4⟩ := hc (j / 5) (by omega)
  have hm : j % 5 < 5 := Nat.mod_lt _ (by omega)
  show _ = some (Value.int .i64 (if j % 5 = 0 then _ else if j % 5 = 1 then _ else if j % 5 = 2 then _ else if j % 5 = 3 then _ else _))
  rcases (show j % 5 = 0 ∨ j % 5 = 1 ∨ j % 5 = 2 ∨ j % 5 = 3 ∨ j % 5 = 4 by omega) with e5 | e5 | e5 | e5 | e5
  · rw [if_pos e5]; rw [show j / 5 * 5 + 0 = j by omega] at k0; exact k0
  · rw [if_neg (by omega), if_pos e5]; rw [show j / 5 * 5 + 1 = j by omega] at k1; exact k1
  · rw [if_neg (by omega), if_neg (by omega), if_pos e5]; rw [show j / 5 * 5 + 2 = j by omega] at k2; exact k2
  · rw [if_neg (by omega), if_neg (by omega), if_neg (by omega), if_pos e5]; rw [show j / 5 * 5 + 3 = j by omega] at k3; exact k3
  · rw [if_neg (by omega), if_neg (by omega), if_neg (by omega), if_neg (by omega)]; rw [show j / 5 * 5 + 4 = j by omega] at k4; exact k4
end

end Go.Proofs.YtdjkbpenppdnlaaDoor
