/- Lines of an aqueduct: arguments opened, with what the capacity of the odds is; some stretches; times. -/
import Derived.Test.YtkdlppekjjbgoaaR2

set_option linter.unusedSimpArgs false

set_option linter.unusedVariables false

namespace Go.Proofs.Ytkdlppekjjbgoaa

open Go.ChangeShapes Go.WideShapes Go.ChangeAt Go.RowKit Go.Joins Go.Deep

section

variable {H : Type} {enc : TypeId × Value → H} {w : World} {spare : Nat → Bool} {held : Bool}

theorem open_intsC {fuel : Nat} {cs : List Value} {x : DataW H × List MemPlace} (h : DataW.trod enc Try.prog w 0 spare held fuel 23 cs = some x) :
    ∃ (l : Nat) (f : Nat → Int) (p : Option Addr) (c : Nat), cs = [.slice p l c] ∧ l ≤ maxLen ∧ l ≤ c ∧ NumIn w w.heap.size l f p := by
  rcases open_ints Try.underlying23 Try.underlying3 cellsI h with ⟨hcs, hx⟩ | ⟨a, len', cap', zs, hcs, _, hl, hm, hz, hx, hcell, hwz⟩
  · subst hcs
    exact ⟨0, fun _ => 0, none, 0, rfl, by unfold maxLen; simp, Nat.le_refl _, fun h => by omega⟩
  · subst hcs
    have hlz : len' ≤ zs.length := by rw [hz]; split <;> omega
    refine ⟨len', fun k => zs.getD k 0, some a, cap', rfl, by omega, by omega, fun h0 => ?_⟩
    have h1 := hcell 0 (by omega)
    rw [show a.add 0 = a by simp [Addr.add]] at h1
    obtain ⟨b, o, rfl, hb⟩ := addr_of h1
    refine ⟨b, o, rfl, hb, fun k hk => ?_⟩
    have h2 := hcell k (by omega)
    rw [add_at'] at h2
    exact h2
set_option maxRecDepth 100000 in
theorem open_lineC {r : Reach} {b0 : Nat} {v : Value} {d : DataW H} {ps : List MemPlace} (hv : Value.okWide Try.prog w r b0 25 v) (h : DataW.Trod enc Try.prog w 0 spare held 25 v d ps) :
    ∃ (D : Duct) (p q : Option Addr) (c d' : Nat), v = .agg #[.slice p D.n c, .slice q D.m d'] ∧ DuctIn w w.heap.size D p q ∧ D.n ≤ maxLen ∧ D.m ≤ maxLen ∧ D.m ≤ d' := by
  obtain ⟨cs, rfl, hsz, hf⟩ := open_fields Try.underlying25 (by kernel_rfl) cellsL hv h
  obtain ⟨v0, v1, rfl⟩ := array2 hsz
  obtain ⟨u0, y0, n0, c0, t0⟩ := hf 0 _ rfl
  obtain ⟨u1, y1, n1, c1, t1⟩ := hf 1 _ rfl
  obtain rfl : v0 = u0 := Option.some.inj c0
  obtain rfl : v1 = u1 := Option.some.inj c1
  obtain ⟨n, f, p, c, e0, hn, h0⟩ := open_pts t0
  obtain ⟨m, g, q, c', e1, hm, hmc, h1⟩ := open_intsC t1
  cases e0; cases e1
  refine ⟨⟨n, m, fun k => (f k).1, fun k => (f k).2.1, fun k => (f k).2.2, g⟩, p, q, c, c', rfl, ⟨fun hp => ?_, h1⟩, hn, hm, hmc⟩
  obtain ⟨b, o, e, hl, hc⟩ := h0 hp
  exact ⟨b, o, e, hl, ⟨fun k hk => (hc k hk).1, fun k hk => (hc k hk).2.1, fun k hk => (hc k hk).2.2⟩⟩
end

set_option maxRecDepth 100000 in
theorem open_some {H : Type} {enc : TypeId × Value → H} {w : World} {spare : Nat → Bool} {held : Bool} {r : Reach} {b0 : Nat} {v : Value} {d : DataW H} {ps : List MemPlace} (hv : Value.okWide Try.prog w r b0 56 v) (h : DataW.Trod enc Try.prog w 0 spare held 56 v d ps) :
    ∃ g0 g1 g2 g3 : Int, v = .agg #[.int .i64 g0, .int .i64 g1, .int .i64 g2, .int .i64 g3] := by
  obtain ⟨cs, rfl, hsz⟩ := okWide_struct Try.underlying56 hv
  have hc4 : Try.prog.cellsOf 56 = 4 := by kernel_rfl
  obtain ⟨c0, c1, c2, c3, rfl⟩ := array4 (hsz.trans hc4)
  obtain ⟨fuel, hf⟩ := h
  obtain ⟨ys, n, _, _, _, hl, hd⟩ := DataW.trod_struct Try.underlying56 hf
  have h0 := hd 0 _ rfl
  have h1 := hd 1 _ rfl
  have h2 := hd 2 _ rfl
  have h3 := hd 3 _ rfl
  match ys, hl with
  | [y0, y1, y2, y3], _ =>
    simp [Value.cells, cellsI] at h0 h1 h2 h3
    obtain ⟨m0, e0, _⟩ := DataW.trod_int Try.underlying3 h0
    obtain ⟨m1, e1, _⟩ := DataW.trod_int Try.underlying3 h1
    obtain ⟨m2, e2, _⟩ := DataW.trod_int Try.underlying3 h2
    obtain ⟨m3, e3, _⟩ := DataW.trod_int Try.underlying3 h3
    cases e0; cases e1; cases e2; cases e3
    exact ⟨m0, m1, m2, m3, rfl⟩
set_option maxRecDepth 100000 in
theorem open_times {H : Type} {enc : TypeId × Value → H} {w : World} {spare : Nat → Bool} {held : Bool} {r : Reach} {b0 : Nat} {v : Value} {d : DataW H} {ps : List MemPlace} (hv : Value.okWide Try.prog w r b0 64 v) (h : DataW.Trod enc Try.prog w 0 spare held 64 v d ps) :
    ∃ y0 y1 : Int, v = .agg #[.int .i64 y0, .int .i64 y1] := by
  obtain ⟨cs, rfl, hsz⟩ := okWide_struct Try.underlying64 hv
  have hc4 : Try.prog.cellsOf 64 = 2 := by kernel_rfl
  obtain ⟨c0, c1, rfl⟩ := array2 (hsz.trans hc4)
  obtain ⟨fuel, hf⟩ := h
  obtain ⟨ys, n, _, _, _, hl, hd⟩ := DataW.trod_struct Try.underlying64 hf
  have h0 := hd 0 _ rfl
  have h1 := hd 1 _ rfl
  match ys, hl with
  | [y0, y1], _ =>
    simp [Value.cells, cellsI] at h0 h1
    obtain ⟨m0, e0, _⟩ := DataW.trod_int Try.underlying3 h0
    obtain ⟨m1, e1, _⟩ := DataW.trod_int Try.underlying3 h1
    cases e0; cases e1
    exact ⟨m0, m1, rfl⟩
end Go.Proofs.Ytkdlppekjjbgoaa
