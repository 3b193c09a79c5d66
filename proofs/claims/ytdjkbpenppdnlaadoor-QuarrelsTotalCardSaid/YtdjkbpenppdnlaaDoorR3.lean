/- Towns with worlds: the condition on the listed variables, opened. -/
import Derived.Test.YtdjkbpenppdnlaaDoorR2

import Derived.Test.YtdjkbpenppdnlaaDoorB1

import Derived.Test.YtdjkbpenppdnlaaDoorTie

import Derived.Stop.Joined

set_option linter.unusedSimpArgs false

set_option linter.unusedVariables false

namespace Go.Proofs.YtdjkbpenppdnlaaDoor

open Go.ChangeShapes Go.WideShapes Go.ChangeAt Go.RowKit Go.Joins Go.Deep

theorem arr_bytes {P : Program} {W : World} {t e : TypeId} {n fuel : Nat} {cs : List Value} {x : DataW Unit × List MemPlace} {sp : Nat → Bool} {hd : Bool} (ht : P.underlying t = some (.array n e)) (he : P.underlying e = some (.int .u8)) (h1 : P.cellsOf e = 1) (hn : P.cellsOf t = n)
    (h : DataW.trod (fun _ => ()) P W 0 sp hd fuel t cs = some x) (L : List Int) (hx : x.1 = .agg (L.map fun i => .lit (.int .u8 i))) : cs = L.map (.int .u8) := by
  obtain ⟨xs, m, _, ex, hlen, hl, hel⟩ := DataW.trod_array ht h
  rw [hn] at hlen
  rw [h1] at hel
  subst ex
  have e3 : xs.map (·.1) = L.map fun i => .lit (.int .u8 i) := DataW.agg.inj hx
  have hL : L.length = n := by have := congrArg List.length e3; simpa [hl] using this.symm
  refine List.ext_getElem (by simp [hlen, hL]) fun i h2 h3 => ?_
  have hin : i < n := by omega
  have k := hel i hin
  rw [Nat.mul_one, List.drop_eq_getElem_cons h2] at k
  simp only [List.take_succ_cons, List.take_zero] at k
  rw [List.getElem?_eq_getElem (by omega)] at k
  obtain ⟨z, a, b, _⟩ := DataW.trod_int he k
  have e4 : (xs.map (·.1))[i]? = (L.map fun i => DataW.lit (.int .u8 i))[i]? := by rw [e3]
  rw [List.getElem?_map, List.getElem?_map, List.getElem?_eq_getElem (show i < xs.length by omega), List.getElem?_eq_getElem (show i < L.length by omega), Option.map_some, Option.map_some] at e4
  rw [b] at e4
  simp only [Option.some.injEq, DataW.lit.injEq, Lit.int.injEq, true_and] at e4
  simp only [List.cons.injEq, and_true] at a
  rw [a, e4]
  simp
/-- the condition on the listed variables -/
abbrev laidL : List (String × DataW Unit) := [("math/bits.deBruijn32tab", Rows.laid_math_bits_deBruijn32tab), ("math/bits.deBruijn64tab", Rows.laid_math_bits_deBruijn64tab)]
theorem g32 : Tryd.prog.globalNamed "math/bits.deBruijn32tab" = some 0 := by kernel_rfl
theorem g64 : Tryd.prog.globalNamed "math/bits.deBruijn64tab" = some 1 := by kernel_rfl
theorem ty32 : (Tryd.prog.globals[0]?).map (·.type) = some 166 := by kernel_rfl
theorem ty64 : (Tryd.prog.globals[1]?).map (·.type) = some 167 := by kernel_rfl
theorem cells32 : Tryd.prog.cellsOf 166 = 32 := by kernel_rfl
theorem cells64 : Tryd.prog.cellsOf 167 = 64 := by kernel_rfl
theorem cells8 : Tryd.prog.cellsOf 5 = 1 := by kernel_rfl
theorem var_heap {P : Program} {W : World} {n : String} {g : Nat} {cs : Array Value} (hg : P.globalNamed n = some g) (h : W.var? P n = some cs) : ∃ t fz, W.heap[g]? = some (.cells cs t fz) := by
  simp only [World.var?, hg, Option.bind_some] at h
  split at h
  · rename_i c t fz hh
    cases h
    exact ⟨_, _, hh⟩
  · cases h
set_option maxRecDepth 100000 in
theorem of_laid {W : World} (h : laidMetH Tryd.prog laidL W) : GlobsOk laid W := by
  rw [MakeChecks.laidMetH_plain _ _ _ (by kernel_rfl)] at h
  obtain ⟨ps, ⟨g0, t0, cs0, f0, p0, q0, hg0, ht0, hv0, hd0, ⟨g1, t1, cs1, f1, p1, q1, hg1, ht1, hv1, hd1, hq1, hps1⟩, hps⟩, hnd, hz⟩ := h
  obtain rfl := Option.some.inj (g32.symm.trans hg0)
  obtain rfl := Option.some.inj (ty32.symm.trans ht0)
  obtain rfl := Option.some.inj (g64.symm.trans hg1)
  obtain rfl := Option.some.inj (ty64.symm.trans ht1)
  obtain ⟨a0, z0, hh0⟩ := var_heap hg0 hv0
  obtain ⟨a1, z1, hh1⟩ := var_heap hg1 hv1
  have e0 := arr_bytes Tryd.underlying166 Tryd.underlying5 cells8 cells32 hd0 tab32 rfl
  have e1 := arr_bytes Tryd.underlying167 Tryd.underlying5 cells8 cells64 hd1 tab64 rfl
  have l0 : cs0 = ⟨bytesV tab32⟩ := by cases cs0; simpa [bytesV] using e0
  have l1 : cs1 = ⟨bytesV tab64⟩ := by cases cs1; simpa [bytesV] using e1
  subst l0 l1
  have y0 : MemPlace.cell 0 0 ∈ ps := by rw [hps]; simp [MemPlace.row, bytesV, tab32]
  have y1 : MemPlace.cell 1 0 ∈ ps := by rw [hps, hps1]; simp [MemPlace.row, bytesV, tab64]
  obtain ⟨⟨c0, t0', hc0⟩, _⟩ := hz 0 0 y0
  obtain ⟨⟨c1, t1', hc1⟩, _⟩ := hz 1 0 y1
  rw [hh0] at hc0
  rw [hh1] at hc1
  cases hc0; cases hc1
  intro pp hp
  simp only [laid, List.mem_cons, List.not_mem_nil, or_false] at hp
  rcases hp with rfl | rfl
  · exact ⟨_, hh0⟩
  · exact ⟨_, hh1⟩
end Go.Proofs.YtdjkbpenppdnlaaDoor
