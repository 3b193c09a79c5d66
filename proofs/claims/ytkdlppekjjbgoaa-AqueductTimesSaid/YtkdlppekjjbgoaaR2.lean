/- Lines of an aqueduct: arguments opened. -/
import Derived.Test.YtkdlppekjjbgoaaR1

set_option linter.unusedSimpArgs false

set_option linter.unusedVariables false

namespace Go.Proofs.Ytkdlppekjjbgoaa

open Go.ChangeShapes Go.WideShapes Go.ChangeAt Go.RowKit Go.Joins Go.Deep

theorem addr_of {w : World} {a : Addr} {v : Value} (h : w.cell? a = some v) : ∃ b o, a = ⟨b, o, none⟩ ∧ b < w.heap.size := by
  obtain ⟨b, o, s⟩ := a
  cases s with
  | none => exact ⟨b, o, rfl, World.block_lt_of_cell? w _ h⟩
  | some x =>
    simp only [World.cell?] at h
    split at h <;> simp at h

theorem add_at' (x o j : Nat) : (⟨x, o, none⟩ : Addr).add j = ⟨x, o + j, none⟩ := by unfold Addr.add; split <;> simp_all
section

variable {H : Type} {enc : TypeId × Value → H} {P : Program} {w : World} {base : Nat} {spare : Nat → Bool} {held : Bool}

/-- a struct of one-cell fields, by value: each field's cell with its reading -/
theorem open_fields {r : Reach} {b0 : Nat} {t : TypeId} {fs : Array Field} {v : Value} {d : DataW H} {p : List MemPlace} (hs : P.underlying t = some (.struct fs)) (hone : oneCellFields P fs = true) (hC : P.cellsOf t = fs.size)
    (hv : Value.okWide P w r b0 t v) (h : DataW.Trod enc P w base spare held t v d p) :
    ∃ cs : Array Value, v = .agg cs ∧ cs.size = fs.size ∧ ∀ (j : Nat) (f : Field), fs[j]? = some f → ∃ (u : Value) (y : DataW H × List MemPlace) (n : Nat), cs[j]? = some u ∧ DataW.trod enc P w base spare held n f.type [u] = some y := by
  obtain ⟨cs, rfl, hsz⟩ := okWide_struct hs hv
  obtain ⟨fuel, hf⟩ := h
  have hsz' : cs.size = fs.size := hsz.trans hC
  refine ⟨cs, rfl, hsz', fun j f hj => ?_⟩
  obtain ⟨ys, n', hn', hy, hlen, hyl, hf⟩ := DataW.trod_struct hs hf
  obtain ⟨ho, hk⟩ := hone_of hone j f hj
  have hjl : j < fs.size := (Array.getElem?_eq_some_iff.1 hj).1
  have h1 := hf j f hj
  rw [ho, hk] at h1
  have hj' : j < cs.toList.length := by simp; omega
  have hone' : ((Value.agg cs).cells.toList.drop j).take 1 = [cs.toList[j]] := by
    show (cs.toList.drop j).take 1 = _
    rw [List.drop_eq_getElem_cons hj']
    rfl
  rw [hone'] at h1
  have hys : ys[j]? = some (ys[j]'(by omega)) := List.getElem?_eq_getElem (by omega)
  exact ⟨cs.toList[j], _, n', by simp, h1.trans hys⟩
end

theorem pick_of {α : Type} [Inhabited α] {P : Nat → α → Prop} {n : Nat} (h : ∀ i, i < n → ∃ x, P i x) : ∃ f : Nat → α, ∀ i, i < n → P i (f i) :=
  ⟨fun i => if hi : i < n then Classical.choose (h i hi) else default, fun i hi => by
    show P i (dite _ _ _)
    rw [dif_pos hi]
    exact Classical.choose_spec (h i hi)⟩
section

variable {H : Type} {enc : TypeId × Value → H} {w : World} {spare : Nat → Bool} {held : Bool}

theorem cellsL : Try.prog.cellsOf 25 = 2 := by kernel_rfl
theorem cellsP : Try.prog.cellsOf 39 = 3 := by kernel_rfl
theorem cellsSp : Try.prog.cellsOf 34 = 2 := by kernel_rfl
theorem cellsI : Try.prog.cellsOf 3 = 1 := by kernel_rfl
theorem span_of {n : Nat} {base : Nat} {v0 v1 : Value} {y : DataW H × List MemPlace} (h : DataW.trod enc Try.prog w base spare held n 34 [v0, v1] = some y) : ∃ a b : Int, v0 = .int .i64 a ∧ v1 = .int .i64 b := by
  obtain ⟨y0, y1, m, _, _, t0, t1⟩ := trod_struct2 Try.underlying34 h
  obtain ⟨m0, e0, _⟩ := DataW.trod_int Try.underlying3 t0
  obtain ⟨m1, e1, _⟩ := DataW.trod_int Try.underlying3 t1
  simp [cellsI] at e0 e1
  exact ⟨m0, m1, e0, e1⟩
theorem point_of {n : Nat} {base : Nat} {v0 v1 v2 : Value} {y : DataW H × List MemPlace} (h : DataW.trod enc Try.prog w base spare held n 39 [v0, v1, v2] = some y) : ∃ x : Int × Int × Int, v0 = .int .i64 x.1 ∧ v1 = .int .i64 x.2.1 ∧ v2 = .int .i64 x.2.2 := by
  obtain ⟨y0, y1, m, _, _, t0, t1⟩ := trod_struct2 Try.underlying39 h
  simp [cellsSp] at t0
  obtain ⟨a, b, rfl, rfl⟩ := span_of t0
  obtain ⟨m1, e1, _⟩ := DataW.trod_int Try.underlying3 t1
  simp [cellsI] at e1
  exact ⟨(a, b, m1), rfl, rfl, e1⟩
theorem open_pts {fuel : Nat} {cs : List Value} {x : DataW H × List MemPlace} (h : DataW.trod enc Try.prog w 0 spare held fuel 22 cs = some x) :
    ∃ (n : Nat) (f : Nat → Int × Int × Int) (p : Option Addr) (c : Nat), cs = [.slice p n c] ∧ n ≤ maxLen ∧ (0 < n → ∃ b o, p = some ⟨b, o, none⟩ ∧ b < w.heap.size ∧ ∀ k, k < n → w.cell? ⟨b, o + k * 3, none⟩ = some (.int .i64 (f k).1) ∧ w.cell? ⟨b, o + k * 3 + 1, none⟩ = some (.int .i64 (f k).2.1) ∧ w.cell? ⟨b, o + k * 3 + 2, none⟩ = some (.int .i64 (f k).2.2)) := by
  rcases open_slice Try.underlying22 h with h0 | ⟨a, len, cap, m, n, D, Pl, hcs, hb, hl, hm, hmm, hx, hi⟩
  · exact ⟨0, fun _ => (0, 0, 0), none, 0, h0.1, by unfold maxLen; simp, fun h => by omega⟩
  · obtain ⟨f, hf⟩ := pick_of (n := len) (P := fun i (t : Int × Int × Int) => w.cell? (a.add (i * 3)) = some (.int .i64 t.1) ∧ w.cell? (a.add (i * 3 + 1)) = some (.int .i64 t.2.1) ∧ w.cell? (a.add (i * 3 + 2)) = some (.int .i64 t.2.2)) fun i hi' => by
      have him : i < m := by rw [hmm]; split <;> omega
      obtain ⟨cs', hc, ht'⟩ := hi i him
      rw [cellsP] at hc
      obtain ⟨_, hcl, hat⟩ := World.cells?_some hc
      match cs', hcl, hat, ht' with
      | [v0, v1, v2], _, hat, ht' =>
        obtain ⟨t, rfl, rfl, rfl⟩ := point_of ht'
        have a0 := hat 0 (by omega)
        have a1 := hat 1 (by omega)
        have a2 := hat 2 (by omega)
        rw [Go.Deep.add_add] at a0 a1 a2
        exact ⟨t, by simpa using a0, by simpa using a1, by simpa using a2⟩
    refine ⟨len, f, some a, cap, hcs, by omega, fun h0 => ?_⟩
    obtain ⟨z0, _, _⟩ := hf 0 h0
    rw [show a.add (0 * 3) = a by simp [Addr.add]] at z0
    obtain ⟨b, o, rfl, hbl⟩ := addr_of z0
    refine ⟨b, o, rfl, hbl, fun k hk => ?_⟩
    obtain ⟨c0, c1, c2⟩ := hf k hk
    rw [add_at'] at c0 c1 c2
    exact ⟨c0, by rwa [← Nat.add_assoc] at c1, by rwa [← Nat.add_assoc] at c2⟩
theorem open_intsB {fuel : Nat} {cs : List Value} {x : DataW H × List MemPlace} (h : DataW.trod enc Try.prog w 0 spare held fuel 23 cs = some x) :
    ∃ (l : Nat) (f : Nat → Int) (p : Option Addr) (c : Nat), cs = [.slice p l c] ∧ l ≤ maxLen ∧ NumIn w w.heap.size l f p := by
  rcases open_ints Try.underlying23 Try.underlying3 cellsI h with ⟨hcs, hx⟩ | ⟨a, len', cap', zs, hcs, _, hl, hm, hz, hx, hcell, hwz⟩
  · subst hcs
    exact ⟨0, fun _ => 0, none, 0, rfl, by unfold maxLen; simp, fun h => by omega⟩
  · subst hcs
    have hlz : len' ≤ zs.length := by rw [hz]; split <;> omega
    refine ⟨len', fun k => zs.getD k 0, some a, cap', rfl, by omega, fun h0 => ?_⟩
    have h1 := hcell 0 (by omega)
    rw [show a.add 0 = a by simp [Addr.add]] at h1
    obtain ⟨b, o, rfl, hb⟩ := addr_of h1
    refine ⟨b, o, rfl, hb, fun k hk => ?_⟩
    have h2 := hcell k (by omega)
    rw [add_at'] at h2
    exact h2
set_option maxRecDepth 100000 in
/-- an argument that is a list of numbers -/
theorem open_list {v : Value} {d : DataW H} {ps : List MemPlace} {r : Reach} {b0 : Nat} (hv : Value.okWide Try.prog w r b0 23 v) (h : DataW.Trod enc Try.prog w 0 spare held 23 v d ps) :
    ∃ (l : Nat) (f : Nat → Int) (p : Option Addr) (c : Nat), v = .slice p l c ∧ l ≤ maxLen ∧ NumIn w w.heap.size l f p := by
  obtain ⟨a0, len, cap, rfl⟩ := okWide_slice Try.underlying23 hv
  obtain ⟨fuel, hf⟩ := h
  obtain ⟨l, f, p, c, e, hl, hn⟩ := open_intsB hf
  exact ⟨l, f, p, c, by simpa [Value.cells] using e, hl, hn⟩
theorem array2 {α : Type} {a : Array α} (h : a.size = 2) : ∃ x0 x1, a = #[x0, x1] := by
  obtain ⟨l⟩ := a
  match l, h with
  | [x0, x1], _ => exact ⟨x0, x1, rfl⟩
theorem array4 {α : Type} {a : Array α} (h : a.size = 4) : ∃ x0 x1 x2 x3, a = #[x0, x1, x2, x3] := by
  obtain ⟨l⟩ := a
  match l, h with
  | [x0, x1, x2, x3], _ => exact ⟨x0, x1, x2, x3, rfl⟩
theorem array5 {α : Type} {a : Array α} (h : a.size = 5) : ∃ x0 x1 x2 x3 x4, a = #[x0, x1, x2, x3, x4] := by
  obtain ⟨l⟩ := a
  match l, h with
  | [x0, x1, x2, x3, x4], _ => exact ⟨x0, x1, x2, x3, x4, rfl⟩
set_option maxRecDepth 100000 in
/-- an argument that is a line -/
theorem open_line {r : Reach} {b0 : Nat} {v : Value} {d : DataW H} {ps : List MemPlace} (hv : Value.okWide Try.prog w r b0 25 v) (h : DataW.Trod enc Try.prog w 0 spare held 25 v d ps) :
    ∃ (D : Duct) (p q : Option Addr) (c d' : Nat), v = .agg #[.slice p D.n c, .slice q D.m d'] ∧ DuctIn w w.heap.size D p q ∧ D.n ≤ maxLen ∧ D.m ≤ maxLen := by
  obtain ⟨cs, rfl, hsz, hf⟩ := open_fields Try.underlying25 (by kernel_rfl) cellsL hv h
  obtain ⟨v0, v1, rfl⟩ := array2 hsz
  obtain ⟨u0, y0, n0, c0, t0⟩ := hf 0 _ rfl
  obtain ⟨u1, y1, n1, c1, t1⟩ := hf 1 _ rfl
  obtain rfl : v0 = u0 := Option.some.inj c0
  obtain rfl : v1 = u1 := Option.some.inj c1
  obtain ⟨n, f, p, c, e0, hn, h0⟩ := open_pts t0
  obtain ⟨m, g, q, c', e1, hm, h1⟩ := open_intsB t1
  cases e0; cases e1
  refine ⟨⟨n, m, fun k => (f k).1, fun k => (f k).2.1, fun k => (f k).2.2, g⟩, p, q, c, c', rfl, ⟨fun hp => ?_, h1⟩, hn, hm⟩
  obtain ⟨b, o, e, hl, hc⟩ := h0 hp
  exact ⟨b, o, e, hl, ⟨fun k hk => (hc k hk).1, fun k hk => (hc k hk).2.1, fun k hk => (hc k hk).2.2⟩⟩
end

end Go.Proofs.Ytkdlppekjjbgoaa
