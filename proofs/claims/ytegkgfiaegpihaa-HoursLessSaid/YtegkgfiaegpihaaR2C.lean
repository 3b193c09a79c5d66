/- Rosters of hours: arguments opened, with what their capacities are. -/
import Derived.Test.YtegkgfiaegpihaaR2

set_option linter.unusedSimpArgs false

set_option linter.unusedVariables false

namespace Go.Proofs.Ytegkgfiaegpihaa

open Go.ChangeShapes Go.WideShapes Go.ChangeAt Go.RowKit Go.Joins Go.Deep

section

variable {H : Type} {enc : TypeId × Value → H} {w : World} {spare : Nat → Bool} {held : Bool}

theorem open_intsC {fuel : Nat} {cs : List Value} {x : DataW H × List MemPlace} (h : DataW.trod enc Try.prog w 0 spare held fuel 22 cs = some x) :
    ∃ (l : Nat) (f : Nat → Int) (p : Option Addr) (c : Nat), cs = [.slice p l c] ∧ l ≤ maxLen ∧ l ≤ c ∧ NumIn w w.heap.size l f p := by
  rcases open_ints Try.underlying22 Try.underlying3 cellsI h with ⟨hcs, hx⟩ | ⟨a, len', cap', zs, hcs, _, hl, hm, hz, hx, hcell, hwz⟩
  · subst hcs
    exact ⟨0, fun _ => 0, none, 0, rfl, by unfold maxLen; simp, Nat.le_refl _, fun h => by omega⟩
  · subst hcs
    have hlz : len' ≤ zs.length := by rw [hz]; split <;> omega
    refine ⟨len', fun k => zs.getD k 0, some a, cap', rfl, by omega, by omega, fun h0 => ?_⟩
    have h1 := hcell 0 (by omega)
    rw [show a.add 0 = a by simp [Addr.add]] at h1
    obtain ⟨b, o, rfl, hb⟩ := addr_of h1
    refine ⟨b, o, rfl, hb, fun k hk => ?_⟩
    have h2 := hcell k (by omega)
    rw [add_at'] at h2
    exact h2
set_option maxRecDepth 100000 in
/-- an argument that is a roster -/
theorem open_roC {r : Reach} {b0 : Nat} {v : Value} {d : DataW H} {ps : List MemPlace} (hv : Value.okWide Try.prog w r b0 25 v) (h : DataW.Trod enc Try.prog w 0 spare held 25 v d ps) :
    ∃ (D : Ro) (p q : Option Addr) (c d' : Nat), v = .agg #[.slice p D.n c, .slice q D.m d'] ∧ RoIn w w.heap.size D p q ∧ D.n ≤ maxLen ∧ D.m ≤ maxLen ∧ D.n ≤ c := by
  obtain ⟨cs, rfl, hsz, hf⟩ := open_fields Try.underlying25 (by kernel_rfl) cellsR hv h
  obtain ⟨v0, v1, rfl⟩ := array2 hsz
  obtain ⟨u0, y0, n0, c0, t0⟩ := hf 0 _ rfl
  obtain ⟨u1, y1, n1, c1, t1⟩ := hf 1 _ rfl
  obtain rfl : v0 = u0 := Option.some.inj c0
  obtain rfl : v1 = u1 := Option.some.inj c1
  obtain ⟨m, g, q, c', e1, hm, hmc, h1⟩ := open_intsC t0
  obtain ⟨n, f, p, c, e0, hn, h0⟩ := open_sts t1
  cases e0; cases e1
  refine ⟨⟨m, n, g, fun k => (f k).1, fun k => (f k).2.1, fun k => (f k).2.2.1, fun k => (f k).2.2.2⟩, q, p, c', c, rfl, ⟨h1, fun hp => ?_⟩, hm, hn, hmc⟩
  obtain ⟨b, o, e, hl, hc⟩ := h0 hp
  exact ⟨b, o, e, hl, ⟨fun k hk => (hc k hk).1, fun k hk => (hc k hk).2.1, fun k hk => (hc k hk).2.2.1, fun k hk => (hc k hk).2.2.2⟩⟩
end

end Go.Proofs.Ytegkgfiaegpihaa
