/- Copies by append to an empty literal; regions that draw and keep a condition. -/
import Derived.Test.YtdjkbpenppdnlaaDoorK2

import Derived.Test.YtdjkbpenppdnlaaDoorX1

import Derived.Deep.AppendLies

set_option linter.unusedSimpArgs false

set_option linter.unusedVariables false

namespace Go.Proofs.YtdjkbpenppdnlaaDoor

open Go.RowKit

theorem wp_region_lastE {P : Program} {ops : Array Oper} {Q : Exit → Act → World → Prop} {w : World} {x : Ext w} (n : Nat) {id : Nat} {a : Act} (hm : P.follows .mixedOrders = true) (hn : ops.size = n + 1)
    (h : ∀ y : Ext w, wpAnyG P .any ops Q (fun w' => ∃ y : Ext w, w' = y.v) n n (Array.replicate ops.size false) a y.v) : (Code.region id ops true).wp P Q a x.v :=
  wp_region_last (fun w' => ∃ y : Ext w, w' = y.v) n hm hn ⟨⟨x.v.drew, bd x.b⟩, rfl⟩ (fun _ => h ⟨x.v.drew, bd x.b⟩)
/-- what a copy by append to an empty literal leaves -/
structure CopiedF (w w' : World) (x : Option Addr) (n : Nat) (y : Option Addr) : Prop where
  below : Below w.heap.size w w'
  here : 0 < n → ∃ b, y = some ⟨b, 0, none⟩ ∧ w.heap.size ≤ b ∧ b < w'.heap.size ∧ ∀ a, x = some a → ∀ j, j < n → w'.cell? ⟨b, j, none⟩ = w.cell? (a.add j)
  open' : 0 < n → ∀ b, y = some ⟨b, 0, none⟩ → ∀ i, w'.frozen? ⟨b, i, none⟩ = false

theorem step_append_copyF {P : Program} {ops : Array Oper} {o : Oper} {a : Act} {w : World} {K : Act → World → Prop} {Q : Exit → Act → World → Prop} {E : Prop}
    (hg : o.guard = none) (s x : Operand) (t : TypeId) (hop : o.op = Op.call { callee := Callee.builtin Builtin.append, args := #[s, x], argTypes := #[t, t] })
    (e : TypeId) (i : TypeInfo) (z : Value) (size bytes : Nat) (h1 : P.underlying t = some (.slice e)) (h2 : P.info? e = some i) (h3 : i.zero = some z) (h4 : i.size = size) (h5 : i.bytes = bytes) (h6 : z.cells.size = size) (h7 : 0 < size)
    (g : Nat) (hs : a.eval s = .slice (some ⟨g, 0, none⟩) 0 0)
    (ad : Option Addr) (m c : Nat) (hx : a.eval x = .slice ad m c)
    (hc : 0 < m → ∃ b o, ad = some ⟨b, o, none⟩ ∧ ∀ j, j < m * size → ∃ u, w.cell? ⟨b, o + j, none⟩ = some u ∧ u.oneCell' = true)
    (b1 : m ≤ maxLen) (b2 : m * bytes ≤ 140737488355328)
    (hK : ∀ y c' w', CopiedF w w' ad (m * size) y → K (a.put o.dst (.slice y m c')) w') :
    if Region.wanted o (yielded ops a.tmps) = true then Oper.wp P o a w K Q else E := by
  by_cases hm : 0 < m
  · obtain ⟨b, of, rfl, hcell⟩ := hc hm
    have hch : ∃ f : Nat → Value, ∀ j, j < m * size → w.cell? ⟨b, of + j, none⟩ = some (f j) ∧ (f j).oneCell' = true :=
      ⟨fun j => (w.cell? ⟨b, of + j, none⟩).getD undef, fun j hj => by obtain ⟨u, hu, hu1⟩ := hcell j hj; simp [hu, hu1]⟩
    obtain ⟨f, hf⟩ := hch
    have hadd : ∀ (x o j : Nat), (⟨x, o, none⟩ : Addr).add j = ⟨x, o + j, none⟩ := fun x o j => by unfold Addr.add; split <;> simp_all
    refine step_append_grows hg s x t hop e i z size bytes h1 h2 h3 h4 h5 h6 h7 (some ⟨g, 0, none⟩) 0 0 [] hs (by simp) (by simp) (by simp) ⟨b, of, none⟩ m c ((List.range (m * size)).map f) hx (by simp) ?_ ?_ (by omega) (by omega) (by rw [Nat.zero_add]; exact b2) ?_
    · intro j u hu
      have hj : j < m * size := by have := (List.getElem?_eq_some_iff.1 hu).1; simpa using this
      simp [hj] at hu
      rw [hadd, (hf j hj).1, hu]
    · intro u hu
      simp at hu
      obtain ⟨j, hj, rfl⟩ := hu
      exact (hf j hj).2
    · intro v' w' hown hgrow
      have hpos : 0 < m * size := Nat.mul_pos hm h7
      rcases hown.2 with ⟨_, h0⟩ | ⟨gb, cap, cur, rfl, hb, hgb, hle, _, hsz, htk⟩
      · omega
      · simp only [Nat.zero_add, List.nil_append] at *
        refine hK _ _ _ ⟨⟨hgrow.os, hgrow.tape, hgrow.output, hgrow.size, fun k hk => hgrow.block k hk (by simp)⟩, fun _ => ⟨gb, rfl, hb, ?_, ?_⟩, fun _ b' hb' i => by simp only [Option.some.injEq, Addr.mk.injEq] at hb'; rw [← hb'.1]; simp [World.frozen?, hgb]⟩
        · exact (Array.getElem?_eq_some_iff.1 hgb).1
        · intro a' ha' j hj
          simp only [Option.some.injEq] at ha'
          subst ha'
          rw [hadd, (hf j hj).1, cell_of_row w' gb j cur e (0, 0) hgb]
          have h2 : (cur.toList.take (m * size))[j]? = some (f j) := by rw [htk]; simp [hj]
          rw [List.getElem?_take_of_lt hj] at h2
          simpa using h2
  · obtain rfl : m = 0 := by omega
    have hw : Region.wanted o (yielded ops a.tmps) = true := by simp [Region.wanted, hg]
    rw [if_pos hw]
    have hrun : (Builtin.append_ #[t, t] o.type #[.slice (some ⟨g, 0, none⟩) 0 0, .slice ad 0 c]).run P w = .ok (.slice (some ⟨g, 0, none⟩) 0 0) w := by
      cases ad <;> simp [Builtin.append_, run_underlying h1, sizeOf, typeInfo, h2, Builtin.lenOf, Builtin.firstCells, loadCells, loadCellsFrom, storeCells, Sem.run_bind]
    unfold Oper.wp
    simp [execOp, hop, resolve, invoke, builtin, hs, hx, hrun, Result.andThen]
    exact hK _ _ _ ⟨Below.refl _ _, fun h => by omega, fun h => by omega⟩


theorem append_copyE {P : Program} {ops : Array Oper} {o : Oper} {a : Act} {w : World} {K : Act → World → Prop} {Q : Exit → Act → World → Prop}
    (hg : o.guard = none) (s x : Operand) (t : TypeId) (hop : o.op = Op.call { callee := Callee.builtin Builtin.append, args := #[s, x], argTypes := #[t, t] })
    (e : TypeId) (i : TypeInfo) (z : Value) (size bytes : Nat) (h1 : P.underlying t = some (.slice e)) (h2 : P.info? e = some i) (h3 : i.zero = some z) (h4 : i.size = size) (h5 : i.bytes = bytes) (h6 : z.cells.size = size) (h7 : 0 < size)
    (g : Nat) (hs : a.eval s = .slice (some ⟨g, 0, none⟩) 0 0)
    (ad : Option Addr) (m c : Nat) (hx : a.eval x = .slice ad m c)
    (hc : 0 < m → ∃ b o, ad = some ⟨b, o, none⟩ ∧ ∀ j, j < m * size → ∃ u, w.cell? ⟨b, o + j, none⟩ = some u ∧ u.oneCell' = true)
    (b1 : m ≤ maxLen) (b2 : m * bytes ≤ 140737488355328)
    (hK : ∀ y c' w', CopiedF w w' ad (m * size) y → K (a.put o.dst (.slice y m c')) w') : Oper.wp P o a w K Q := by
  have h := step_append_copyF (ops := ops) (Q := Q) (E := False) hg s x t hop e i z size bytes h1 h2 h3 h4 h5 h6 h7 g hs ad m c hx hc b1 b2 hK
  rwa [if_pos (by simp [Region.wanted, hg])] at h
theorem wpList_append_copy {P : Program} {ops : Array Oper} {rest : List Oper} {o : Oper} {a : Act} {w : World} {Q : Exit → Act → World → Prop}
    (hg : o.guard = none) (s x : Operand) (t : TypeId) (hop : o.op = Op.call { callee := Callee.builtin Builtin.append, args := #[s, x], argTypes := #[t, t] })
    (e : TypeId) (i : TypeInfo) (z : Value) (size bytes : Nat) (h1 : P.underlying t = some (.slice e)) (h2 : P.info? e = some i) (h3 : i.zero = some z) (h4 : i.size = size) (h5 : i.bytes = bytes) (h6 : z.cells.size = size) (h7 : 0 < size)
    (g : Nat) (hs : a.eval s = .slice (some ⟨g, 0, none⟩) 0 0)
    (ad : Option Addr) (m c : Nat) (hx : a.eval x = .slice ad m c)
    (hc : 0 < m → ∃ b o, ad = some ⟨b, o, none⟩ ∧ ∀ j, j < m * size → ∃ u, w.cell? ⟨b, o + j, none⟩ = some u ∧ u.oneCell' = true)
    (b1 : m ≤ maxLen) (b2 : m * bytes ≤ 140737488355328)
    (hK : ∀ y c' w', CopiedF w w' ad (m * size) y → wpList P ops Q rest (a.put o.dst (.slice y m c')) w') : wpList P ops Q (o :: rest) a w :=
  wpList_plain hg fun K hK' => append_copyE (ops := #[]) hg s x t hop e i z size bytes h1 h2 h3 h4 h5 h6 h7 g hs ad m c hx hc b1 b2 fun y c' w' h => hK' _ _ (hK y c' w' h)
theorem infoF : (Tryd.prog.info? 72).map (fun i => (i.zero, i.size, i.bytes)) = some (some (.agg #[.int .i64 0, .int .i64 0, .int .i64 0, .int .i64 0, .int .i64 0]), 5, 40) := by kernel_rfl
theorem infoL : (Tryd.prog.info? 31).map (fun i => (i.zero, i.size, i.bytes)) = some (some (.slice none 0 0), 1, 24) := by kernel_rfl
theorem infoW : (Tryd.prog.info? 83).map (fun i => (i.zero, i.size, i.bytes)) = some (some (.agg #[.slice none 0 0]), 1, 24) := by kernel_rfl
theorem copied_at {w w' : World} {n sz : Nat} {q y : Option Addr} {f : Nat → Value} (hsz : 0 < sz) (h : At w w.heap.size q n sz f) (hc : CopiedF w w' q (n * sz) y) : Fre w' w.heap.size none (fun W => At W W.heap.size y n sz f) := by
  rcases Nat.eq_zero_or_pos n with rfl | h0
  · exact Fre.triv fun W h => absurd h (Nat.lt_irrefl _)
  · obtain ⟨b, o, rfl, hb, hx⟩ := h h0
    obtain ⟨g, rfl, h1, h2, h3⟩ := hc.here (Nat.mul_pos h0 hsz)
    refine Fre.at (fun _ => ⟨g, 0, rfl, h2, fun k hk => ?_⟩) fun _ b' o' e => ?_
    · rw [Nat.zero_add, h3 _ rfl k hk, add_at5]
      exact hx k hk
    · cases e
      exact ⟨h1, by simp⟩
/-- what a copy by append reads -/
theorem At.src {w : World} {n sz : Nat} {q : Option Addr} {f : Nat → Value} (h : At w w.heap.size q n sz f) (h1 : ∀ j, j < n * sz → (f j).oneCell' = true) : 0 < n → ∃ b o, q = some ⟨b, o, none⟩ ∧ ∀ j, j < n * sz → ∃ u, w.cell? ⟨b, o + j, none⟩ = some u ∧ u.oneCell' = true := fun h0 => by
  obtain ⟨b, o, e, _, c⟩ := h h0
  exact ⟨b, o, e, fun j hj => ⟨_, c j hj, h1 j hj⟩⟩
theorem WIn.mono {w w' : World} {T : Tn} {k : Nat} {u : Wad} (h : WIn w T k u) (hb : Below w.heap.size w w') : WIn w' T k u := ⟨(h.rs.below hb).mono hb.size, fun i hi => ((h.is i hi).below hb).mono hb.size⟩
theorem own_set {w : World} {base : Nat} {e : TypeId} {size : Nat} {v : Value} {n : Nat} {xs : List Value} (h : w.ownsRow base e size v n xs) (p : Addr) (x : Value) (hp : p.block < base) : (w.setCell p x).ownsRow base e size v n xs := by
  have hb := (Below.refl p.block w).setCell (Nat.le_refl _) x
  refine h.kept (row := some p.block) ⟨hb.os, hb.tape, hb.output, hb.size, fun k hk hne => setCell_block (fun e => hne (by rw [e]))⟩ ?_
  cases hv : v.ownBlock with
  | none => exact .inl rfl
  | some g => exact .inr (fun e => by have := (h.lt g hv).1; cases e; omega)
end Go.Proofs.YtdjkbpenppdnlaaDoor
