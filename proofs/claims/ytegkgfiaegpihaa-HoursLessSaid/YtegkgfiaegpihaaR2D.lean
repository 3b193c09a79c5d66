/- Rosters of hours: arguments opened, with what all their capacities are. -/
import Derived.Test.YtegkgfiaegpihaaR2C

set_option linter.unusedSimpArgs false

set_option linter.unusedVariables false

namespace Go.Proofs.Ytegkgfiaegpihaa

open Go.ChangeShapes Go.WideShapes Go.ChangeAt Go.RowKit Go.Joins Go.Deep

section

variable {H : Type} {enc : TypeId × Value → H} {w : World} {spare : Nat → Bool} {held : Bool}

theorem open_stsC {fuel : Nat} {cs : List Value} {x : DataW H × List MemPlace} (h : DataW.trod enc Try.prog w 0 spare held fuel 23 cs = some x) :
    ∃ (n : Nat) (f : Nat → Int × Int × Int × Int) (p : Option Addr) (c : Nat), cs = [.slice p n c] ∧ n ≤ maxLen ∧ n ≤ c ∧ (0 < n → ∃ b o, p = some ⟨b, o, none⟩ ∧ b < w.heap.size ∧ ∀ k, k < n → w.cell? ⟨b, o + k * 4, none⟩ = some (.int .i64 (f k).1) ∧ w.cell? ⟨b, o + k * 4 + 1, none⟩ = some (.int .i64 (f k).2.1) ∧ w.cell? ⟨b, o + k * 4 + 2, none⟩ = some (.int .i64 (f k).2.2.1) ∧ w.cell? ⟨b, o + k * 4 + 3, none⟩ = some (.int .i64 (f k).2.2.2)) := by
  rcases open_slice Try.underlying23 h with h0 | ⟨a, len, cap, m, n, D, Pl, hcs, hb, hl, hm, hmm, hx, hi⟩
  · exact ⟨0, fun _ => (0, 0, 0, 0), none, 0, h0.1, by unfold maxLen; simp, Nat.le_refl _, fun h => by omega⟩
  · obtain ⟨f, hf⟩ := pick_of (n := len) (P := fun i (t : Int × Int × Int × Int) => w.cell? (a.add (i * 4)) = some (.int .i64 t.1) ∧ w.cell? (a.add (i * 4 + 1)) = some (.int .i64 t.2.1) ∧ w.cell? (a.add (i * 4 + 2)) = some (.int .i64 t.2.2.1) ∧ w.cell? (a.add (i * 4 + 3)) = some (.int .i64 t.2.2.2)) fun i hi' => by
      have him : i < m := by rw [hmm]; split <;> omega
      obtain ⟨cs', hc, ht'⟩ := hi i him
      rw [cellsS] at hc
      obtain ⟨_, hcl, hat⟩ := World.cells?_some hc
      match cs', hcl, hat, ht' with
      | [v0, v1, v2, v3], _, hat, ht' =>
        obtain ⟨t, rfl, rfl, rfl, rfl⟩ := street_of ht'
        have a0 := hat 0 (by omega)
        have a1 := hat 1 (by omega)
        have a2 := hat 2 (by omega)
        have a3 := hat 3 (by omega)
        rw [Go.Deep.add_add] at a0 a1 a2 a3
        exact ⟨t, by simpa using a0, by simpa using a1, by simpa using a2, by simpa using a3⟩
    refine ⟨len, f, some a, cap, hcs, by omega, hl, fun h0 => ?_⟩
    obtain ⟨z0, _, _⟩ := hf 0 h0
    rw [show a.add (0 * 4) = a by simp [Addr.add]] at z0
    obtain ⟨b, o, rfl, hbl⟩ := addr_of z0
    refine ⟨b, o, rfl, hbl, fun k hk => ?_⟩
    obtain ⟨c0, c1, c2, c3⟩ := hf k hk
    rw [add_at'] at c0 c1 c2 c3
    exact ⟨c0, by rwa [← Nat.add_assoc] at c1, by rwa [← Nat.add_assoc] at c2, by rwa [← Nat.add_assoc] at c3⟩
set_option maxRecDepth 100000 in
/-- an argument that is a roster -/
theorem open_roD {r : Reach} {b0 : Nat} {v : Value} {d : DataW H} {ps : List MemPlace} (hv : Value.okWide Try.prog w r b0 25 v) (h : DataW.Trod enc Try.prog w 0 spare held 25 v d ps) :
    ∃ (D : Ro) (p q : Option Addr) (c d' : Nat), v = .agg #[.slice p D.n c, .slice q D.m d'] ∧ RoIn w w.heap.size D p q ∧ D.n ≤ maxLen ∧ D.m ≤ maxLen ∧ D.n ≤ c ∧ D.m ≤ d' := by
  obtain ⟨cs, rfl, hsz, hf⟩ := open_fields Try.underlying25 (by kernel_rfl) cellsR hv h
  obtain ⟨v0, v1, rfl⟩ := array2 hsz
  obtain ⟨u0, y0, n0, c0, t0⟩ := hf 0 _ rfl
  obtain ⟨u1, y1, n1, c1, t1⟩ := hf 1 _ rfl
  obtain rfl : v0 = u0 := Option.some.inj c0
  obtain rfl : v1 = u1 := Option.some.inj c1
  obtain ⟨m, g, q, c', e1, hm, hmc, h1⟩ := open_intsC t0
  obtain ⟨n, f, p, c, e0, hn, hnc, h0⟩ := open_stsC t1
  cases e0; cases e1
  refine ⟨⟨m, n, g, fun k => (f k).1, fun k => (f k).2.1, fun k => (f k).2.2.1, fun k => (f k).2.2.2⟩, q, p, c', c, rfl, ⟨h1, fun hp => ?_⟩, hm, hn, hmc, hnc⟩
  obtain ⟨b, o, e, hl, hc⟩ := h0 hp
  exact ⟨b, o, e, hl, ⟨fun k hk => (hc k hk).1, fun k hk => (hc k hk).2.1, fun k hk => (hc k hk).2.2.1, fun k hk => (hc k hk).2.2.2⟩⟩
end

end Go.Proofs.Ytegkgfiaegpihaa
