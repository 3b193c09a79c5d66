/- Towns with worlds: arguments opened: what is asked, lists. -/
import Derived.Test.YtdjkbpenppdnlaaDoorR3

set_option linter.unusedSimpArgs false

set_option linter.unusedVariables false

namespace Go.Proofs.YtdjkbpenppdnlaaDoor

open Go.ChangeShapes Go.WideShapes Go.ChangeAt Go.RowKit Go.Joins Go.Deep

theorem array4 {α : Type} {a : Array α} (h : a.size = 4) : ∃ x0 x1 x2 x3, a = #[x0, x1, x2, x3] := by
  obtain ⟨l⟩ := a
  match l, h with
  | [x0, x1, x2, x3], _ => exact ⟨x0, x1, x2, x3, rfl⟩
section

variable {H : Type} {enc : TypeId × Value → H} {w : World} {spare : Nat → Bool} {held : Bool}

theorem cellsK : Tryd.prog.cellsOf 39 = 4 := by kernel_rfl
set_option maxRecDepth 100000 in
/-- an argument that says what is asked -/
theorem open_ask {r : Reach} {b0 : Nat} {v : Value} {d : DataW H} {ps : List MemPlace} (hv : Value.okWide Tryd.prog w r b0 39 v) (h : DataW.Trod enc Tryd.prog w 0 spare held 39 v d ps) :
    ∃ (a b c : Int) (m : Nat) (f : Nat → Int) (p : Option Addr) (k : Nat), v = .agg #[.int .i64 a, .int .i64 b, .int .i64 c, .slice p m k] ∧ m ≤ maxLen ∧ At w w.heap.size p m 1 (fun q => .int .i64 (f q)) := by
  obtain ⟨cs, rfl, hsz, hf⟩ := open_fields Tryd.underlying39 (by kernel_rfl) cellsK hv h
  obtain ⟨v0, v1, v2, v3, rfl⟩ := array4 hsz
  obtain ⟨u0, y0, n0, c0, t0⟩ := hf 0 _ rfl
  obtain ⟨u1, y1, n1, c1, t1⟩ := hf 1 _ rfl
  obtain ⟨u2, y2, n2, c2, t2⟩ := hf 2 _ rfl
  obtain ⟨u3, y3, n3, c3, t3⟩ := hf 3 _ rfl
  obtain rfl : v0 = u0 := Option.some.inj c0
  obtain rfl : v1 = u1 := Option.some.inj c1
  obtain rfl : v2 = u2 := Option.some.inj c2
  obtain rfl : v3 = u3 := Option.some.inj c3
  obtain ⟨a, e0, _⟩ := DataW.trod_int Tryd.underlying3 t0
  obtain ⟨b, e1, _⟩ := DataW.trod_int Tryd.underlying3 t1
  obtain ⟨c, e2, _⟩ := DataW.trod_int Tryd.underlying3 t2
  obtain ⟨m, f, p, k, e3, hm, ha⟩ := open_intsB t3
  cases e0; cases e1; cases e2; cases e3
  exact ⟨a, b, c, m, f, p, k, rfl, hm, ha⟩
set_option maxRecDepth 100000 in
/-- an argument that is a list of numbers -/
theorem open_list {r : Reach} {b0 : Nat} {v : Value} {d : DataW H} {ps : List MemPlace} (hv : Value.okWide Tryd.prog w r b0 31 v) (h : DataW.Trod enc Tryd.prog w 0 spare held 31 v d ps) :
    ∃ (l : Nat) (f : Nat → Int) (p : Option Addr) (c : Nat), v = .slice p l c ∧ l ≤ maxLen ∧ At w w.heap.size p l 1 (fun q => .int .i64 (f q)) := by
  obtain ⟨a0, len, cap, rfl⟩ := okWide_slice Tryd.underlying31 hv
  obtain ⟨fuel, hf⟩ := h
  obtain ⟨l, f, p, c, e, hl, hn⟩ := open_intsB hf
  exact ⟨l, f, p, c, by simpa [Value.cells] using e, hl, hn⟩
end

end Go.Proofs.YtdjkbpenppdnlaaDoor
