/- Rosters of hours: arguments opened. -/
import Derived.Test.YtegkgfiaegpihaaR1

set_option linter.unusedSimpArgs false

set_option linter.unusedVariables false

namespace Go.Proofs.Ytegkgfiaegpihaa

open Go.ChangeShapes Go.WideShapes Go.ChangeAt Go.RowKit Go.Joins Go.Deep

theorem addr_of {w : World} {a : Addr} {v : Value} (h : w.cell? a = some v) : ∃ b o, a = ⟨b, o, none⟩ ∧ b < w.heap.size := by
  obtain ⟨b, o, s⟩ := a
  cases s with
  | none => exact ⟨b, o, rfl, World.block_lt_of_cell? w _ h⟩
  | some x =>
    simp only [World.cell?] at h
    split at h <;> simp at h

theorem add_at' (x o j : Nat) : (⟨x, o, none⟩ : Addr).add j = ⟨x, o + j, none⟩ := by unfold Addr.add; split <;> simp_all
section

variable {H : Type} {enc : TypeId × Value → H} {P : Program} {w : World} {base : Nat} {spare : Nat → Bool} {held : Bool}

/-- a struct of one-cell fields, by value: each field's cell with its reading -/
theorem open_fields {r : Reach} {b0 : Nat} {t : TypeId} {fs : Array Field} {v : Value} {d : DataW H} {p : List MemPlace} (hs : P.underlying t = some (.struct fs)) (hone : oneCellFields P fs = true) (hC : P.cellsOf t = fs.size)
    (hv : Value.okWide P w r b0 t v) (h : DataW.Trod enc P w base spare held t v d p) :
    ∃ cs : Array Value, v = .agg cs ∧ cs.size = fs.size ∧ ∀ (j : Nat) (f : Field), fs[j]? = some f → ∃ (u : Value) (y : DataW H × List MemPlace) (n : Nat), cs[j]? = some u ∧ DataW.trod enc P w base spare held n f.type [u] = some y := by
  obtain ⟨cs, rfl, hsz⟩ := okWide_struct hs hv
  obtain ⟨fuel, hf⟩ := h
  have hsz' : cs.size = fs.size := hsz.trans hC
  refine ⟨cs, rfl, hsz', fun j f hj => ?_⟩
  obtain ⟨ys, n', hn', hy, hlen, hyl, hf⟩ := DataW.trod_struct hs hf
  obtain ⟨ho, hk⟩ := hone_of hone j f hj
  have hjl : j < fs.size := (Array.getElem?_eq_some_iff.1 hj).1
  have h1 := hf j f hj
  rw [ho, hk] at h1
  have hj' : j < cs.toList.length := by simp; omega
  have hone' : ((Value.agg cs).cells.toList.drop j).take 1 = [cs.toList[j]] := by
    show (cs.toList.drop j).take 1 = _
    rw [List.drop_eq_getElem_cons hj']
    rfl
  rw [hone'] at h1
  have hys : ys[j]? = some (ys[j]'(by omega)) := List.getElem?_eq_getElem (by omega)
  exact ⟨cs.toList[j], _, n', by simp, h1.trans hys⟩
end

theorem pick_of {α : Type} [Inhabited α] {P : Nat → α → Prop} {n : Nat} (h : ∀ i, i < n → ∃ x, P i x) : ∃ f : Nat → α, ∀ i, i < n → P i (f i) :=
  ⟨fun i => if hi : i < n then Classical.choose (h i hi) else default, fun i hi => by
    show P i (dite _ _ _)
    rw [dif_pos hi]
    exact Classical.choose_spec (h i hi)⟩
section

variable {H : Type} {enc : TypeId × Value → H} {w : World} {spare : Nat → Bool} {held : Bool}

theorem cellsR : Try.prog.cellsOf 25 = 2 := by kernel_rfl
theorem cellsS : Try.prog.cellsOf 43 = 4 := by kernel_rfl
theorem cellsI : Try.prog.cellsOf 3 = 1 := by kernel_rfl
theorem street_of {n : Nat} {base : Nat} {v0 v1 v2 v3 : Value} {y : DataW H × List MemPlace} (h : DataW.trod enc Try.prog w base spare held n 43 [v0, v1, v2, v3] = some y) : ∃ x : Int × Int × Int × Int, v0 = .int .i64 x.1 ∧ v1 = .int .i64 x.2.1 ∧ v2 = .int .i64 x.2.2.1 ∧ v3 = .int .i64 x.2.2.2 := by
  obtain ⟨y0, y1, y2, y3, m, _, _, t0, t1, t2, t3⟩ := trod_struct4 Try.underlying43 h
  obtain ⟨m0, e0, _⟩ := DataW.trod_int Try.underlying3 t0
  obtain ⟨m1, e1, _⟩ := DataW.trod_int Try.underlying3 t1
  obtain ⟨m2, e2, _⟩ := DataW.trod_int Try.underlying3 t2
  obtain ⟨m3, e3, _⟩ := DataW.trod_int Try.underlying3 t3
  simp [cellsI] at e0 e1 e2 e3
  exact ⟨(m0, m1, m2, m3), e0, e1, e2, e3⟩
theorem open_sts {fuel : Nat} {cs : List Value} {x : DataW H × List MemPlace} (h : DataW.trod enc Try.prog w 0 spare held fuel 23 cs = some x) :
    ∃ (n : Nat) (f : Nat → Int × Int × Int × Int) (p : Option Addr) (c : Nat), cs = [.slice p n c] ∧ n ≤ maxLen ∧ (0 < n → ∃ b o, p = some ⟨b, o, none⟩ ∧ b < w.heap.size ∧ ∀ k, k < n → w.cell? ⟨b, o + k * 4, none⟩ = some (.int .i64 (f k).1) ∧ w.cell? ⟨b, o + k * 4 + 1, none⟩ = some (.int .i64 (f k).2.1) ∧ w.cell? ⟨b, o + k * 4 + 2, none⟩ = some (.int .i64 (f k).2.2.1) ∧ w.cell? ⟨b, o + k * 4 + 3, none⟩ = some (.int .i64 (f k).2.2.2)) := by
  rcases open_slice Try.underlying23 h with h0 | ⟨a, len, cap, m, n, D, Pl, hcs, hb, hl, hm, hmm, hx, hi⟩
  · exact ⟨0, fun _ => (0, 0, 0, 0), none, 0, h0.1, by unfold maxLen; simp, fun h => by omega⟩
  · obtain ⟨f, hf⟩ := pick_of (n := len) (P := fun i (t : Int × Int × Int × Int) => w.cell? (a.add (i * 4)) = some (.int .i64 t.1) ∧ w.cell? (a.add (i * 4 + 1)) = some (.int .i64 t.2.1) ∧ w.cell? (a.add (i * 4 + 2)) = some (.int .i64 t.2.2.1) ∧ w.cell? (a.add (i * 4 + 3)) = some (.int .i64 t.2.2.2)) fun i hi' => by
      have him : i < m := by rw [hmm]; split <;> omega
      obtain ⟨cs', hc, ht'⟩ := hi i him
      rw [cellsS] at hc
      obtain ⟨_, hcl, hat⟩ := World.cells?_some hc
      match cs', hcl, hat, ht' with
      | [v0, v1, v2, v3], _, hat, ht' =>
        obtain ⟨t, rfl, rfl, rfl, rfl⟩ := street_of ht'
        have a0 := hat 0 (by omega)
        have a1 := hat 1 (by omega)
        have a2 := hat 2 (by omega)
        have a3 := hat 3 (by omega)
        rw [Go.Deep.add_add] at a0 a1 a2 a3
        exact ⟨t, by simpa using a0, by simpa using a1, by simpa using a2, by simpa using a3⟩
    refine ⟨len, f, some a, cap, hcs, by omega, fun h0 => ?_⟩
    obtain ⟨z0, _, _⟩ := hf 0 h0
    rw [show a.add (0 * 4) = a by simp [Addr.add]] at z0
    obtain ⟨b, o, rfl, hbl⟩ := addr_of z0
    refine ⟨b, o, rfl, hbl, fun k hk => ?_⟩
    obtain ⟨c0, c1, c2, c3⟩ := hf k hk
    rw [add_at'] at c0 c1 c2 c3
    exact ⟨c0, by rwa [← Nat.add_assoc] at c1, by rwa [← Nat.add_assoc] at c2, by rwa [← Nat.add_assoc] at c3⟩
theorem open_intsB {fuel : Nat} {cs : List Value} {x : DataW H × List MemPlace} (h : DataW.trod enc Try.prog w 0 spare held fuel 22 cs = some x) :
    ∃ (l : Nat) (f : Nat → Int) (p : Option Addr) (c : Nat), cs = [.slice p l c] ∧ l ≤ maxLen ∧ NumIn w w.heap.size l f p := by
  rcases open_ints Try.underlying22 Try.underlying3 cellsI h with ⟨hcs, hx⟩ | ⟨a, len', cap', zs, hcs, _, hl, hm, hz, hx, hcell, hwz⟩
  · subst hcs
    exact ⟨0, fun _ => 0, none, 0, rfl, by unfold maxLen; simp, fun h => by omega⟩
  · subst hcs
    have hlz : len' ≤ zs.length := by rw [hz]; split <;> omega
    refine ⟨len', fun k => zs.getD k 0, some a, cap', rfl, by omega, fun h0 => ?_⟩
    have h1 := hcell 0 (by omega)
    rw [show a.add 0 = a by simp [Addr.add]] at h1
    obtain ⟨b, o, rfl, hb⟩ := addr_of h1
    refine ⟨b, o, rfl, hb, fun k hk => ?_⟩
    have h2 := hcell k (by omega)
    rw [add_at'] at h2
    exact h2
set_option maxRecDepth 100000 in
/-- an argument that is a list of numbers -/
theorem open_list {v : Value} {d : DataW H} {ps : List MemPlace} {r : Reach} {b0 : Nat} (hv : Value.okWide Try.prog w r b0 22 v) (h : DataW.Trod enc Try.prog w 0 spare held 22 v d ps) :
    ∃ (l : Nat) (f : Nat → Int) (p : Option Addr) (c : Nat), v = .slice p l c ∧ l ≤ maxLen ∧ NumIn w w.heap.size l f p := by
  obtain ⟨a0, len, cap, rfl⟩ := okWide_slice Try.underlying22 hv
  obtain ⟨fuel, hf⟩ := h
  obtain ⟨l, f, p, c, e, hl, hn⟩ := open_intsB hf
  exact ⟨l, f, p, c, by simpa [Value.cells] using e, hl, hn⟩
theorem array2 {α : Type} {a : Array α} (h : a.size = 2) : ∃ x0 x1, a = #[x0, x1] := by
  obtain ⟨l⟩ := a
  match l, h with
  | [x0, x1], _ => exact ⟨x0, x1, rfl⟩
theorem array4 {α : Type} {a : Array α} (h : a.size = 4) : ∃ x0 x1 x2 x3, a = #[x0, x1, x2, x3] := by
  obtain ⟨l⟩ := a
  match l, h with
  | [x0, x1, x2, x3], _ => exact ⟨x0, x1, x2, x3, rfl⟩
theorem array5 {α : Type} {a : Array α} (h : a.size = 5) : ∃ x0 x1 x2 x3 x4, a = #[x0, x1, x2, x3, x4] := by
  obtain ⟨l⟩ := a
  match l, h with
  | [x0, x1, x2, x3, x4], _ => exact ⟨x0, x1, x2, x3, x4, rfl⟩
set_option maxRecDepth 100000 in
/-- an argument that is a roster -/
theorem open_ro {r : Reach} {b0 : Nat} {v : Value} {d : DataW H} {ps : List MemPlace} (hv : Value.okWide Try.prog w r b0 25 v) (h : DataW.Trod enc Try.prog w 0 spare held 25 v d ps) :
    ∃ (D : Ro) (p q : Option Addr) (c d' : Nat), v = .agg #[.slice p D.n c, .slice q D.m d'] ∧ RoIn w w.heap.size D p q ∧ D.n ≤ maxLen ∧ D.m ≤ maxLen := by
  obtain ⟨cs, rfl, hsz, hf⟩ := open_fields Try.underlying25 (by kernel_rfl) cellsR hv h
  obtain ⟨v0, v1, rfl⟩ := array2 hsz
  obtain ⟨u0, y0, n0, c0, t0⟩ := hf 0 _ rfl
  obtain ⟨u1, y1, n1, c1, t1⟩ := hf 1 _ rfl
  obtain rfl : v0 = u0 := Option.some.inj c0
  obtain rfl : v1 = u1 := Option.some.inj c1
  obtain ⟨m, g, q, c', e1, hm, h1⟩ := open_intsB t0
  obtain ⟨n, f, p, c, e0, hn, h0⟩ := open_sts t1
  cases e0; cases e1
  refine ⟨⟨m, n, g, fun k => (f k).1, fun k => (f k).2.1, fun k => (f k).2.2.1, fun k => (f k).2.2.2⟩, q, p, c', c, rfl, ⟨h1, fun hp => ?_⟩, hm, hn⟩
  obtain ⟨b, o, e, hl, hc⟩ := h0 hp
  exact ⟨b, o, e, hl, ⟨fun k hk => (hc k hk).1, fun k hk => (hc k hk).2.1, fun k hk => (hc k hk).2.2.1, fun k hk => (hc k hk).2.2.2⟩⟩
theorem cellsM : Try.prog.cellsOf 45 = 5 := by kernel_rfl
set_option maxRecDepth 100000 in
/-- an argument of HoursMore -/
theorem open_more {r : Reach} {b0 : Nat} {v : Value} {d : DataW H} {ps : List MemPlace} (hv : Value.okWide Try.prog w r b0 45 v) (h : DataW.Trod enc Try.prog w 0 spare held 45 v d ps) :
    ∃ (a b c : Int) (x y : Bool), v = .agg #[.int .i64 a, .int .i64 b, .int .i64 c, .bool x, .bool y] := by
  obtain ⟨cs, rfl, hsz, hf⟩ := open_fields Try.underlying45 (by kernel_rfl) cellsM hv h
  obtain ⟨v0, v1, v2, v3, v4, rfl⟩ := array5 hsz
  obtain ⟨u0, y0, n0, c0, t0⟩ := hf 0 _ rfl
  obtain ⟨u1, y1, n1, c1, t1⟩ := hf 1 _ rfl
  obtain ⟨u2, y2, n2, c2, t2⟩ := hf 2 _ rfl
  obtain ⟨u3, y3, n3, c3, t3⟩ := hf 3 _ rfl
  obtain ⟨u4, y4, n4, c4, t4⟩ := hf 4 _ rfl
  obtain rfl : v0 = u0 := Option.some.inj c0
  obtain rfl : v1 = u1 := Option.some.inj c1
  obtain rfl : v2 = u2 := Option.some.inj c2
  obtain rfl : v3 = u3 := Option.some.inj c3
  obtain rfl : v4 = u4 := Option.some.inj c4
  obtain ⟨m0, e0, _⟩ := DataW.trod_int Try.underlying3 t0
  obtain ⟨m1, e1, _⟩ := DataW.trod_int Try.underlying3 t1
  obtain ⟨m2, e2, _⟩ := DataW.trod_int Try.underlying3 t2
  obtain ⟨m3, e3, _⟩ := DataW.trod_bool Try.underlying4 t3
  obtain ⟨m4, e4, _⟩ := DataW.trod_bool Try.underlying4 t4
  simp at e0 e1 e2 e3 e4
  exact ⟨m0, m1, m2, m3, m4, by rw [e0, e1, e2, e3, e4]⟩
end

end Go.Proofs.Ytegkgfiaegpihaa
