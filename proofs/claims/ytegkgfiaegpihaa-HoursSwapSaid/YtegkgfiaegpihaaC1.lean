/- Rosters of hours: copies of lists by append, slices.Clone. -/
import Derived.Test.YtegkgfiaegpihaaA2

import Derived.Test.YtegkgfiaegpihaaX1

import Derived.Deep.RegionLawGrows

import Derived.Deep.AppendLies

import Derived.OwnWalk

set_option linter.unusedSimpArgs false

set_option linter.unusedVariables false

namespace Go.Proofs.Ytegkgfiaegpihaa

open Go.RowKit

theorem wp_region_lastE {P : Program} {ops : Array Oper} {Q : Exit → Act → World → Prop} {w : World} {x : Ext w} (n : Nat) {id : Nat} {a : Act} (hm : P.follows .mixedOrders = true) (hn : ops.size = n + 1)
    (h : ∀ y : Ext w, wpAnyG P .any ops Q (fun w' => ∃ y : Ext w, w' = y.v) n n (Array.replicate ops.size false) a y.v) : (Code.region id ops true).wp P Q a x.v :=
  wp_region_last (fun w' => ∃ y : Ext w, w' = y.v) n hm hn ⟨⟨x.v.drew, bd x.b⟩, rfl⟩ (fun _ => h ⟨x.v.drew, bd x.b⟩)
/-- what a copy by append to an empty literal leaves -/
structure CopiedF (w w' : World) (x : Option Addr) (n : Nat) (y : Option Addr) : Prop where
  below : Below w.heap.size w w'
  here : 0 < n → ∃ b, y = some ⟨b, 0, none⟩ ∧ w.heap.size ≤ b ∧ b < w'.heap.size ∧ ∀ a, x = some a → ∀ j, j < n → w'.cell? ⟨b, j, none⟩ = w.cell? (a.add j)
  open' : 0 < n → ∀ b, y = some ⟨b, 0, none⟩ → ∀ i, w'.frozen? ⟨b, i, none⟩ = false

theorem step_append_copyF {P : Program} {ops : Array Oper} {o : Oper} {a : Act} {w : World} {K : Act → World → Prop} {Q : Exit → Act → World → Prop} {E : Prop}
    (hg : o.guard = none) (s x : Operand) (t : TypeId) (hop : o.op = Op.call { callee := Callee.builtin Builtin.append, args := #[s, x], argTypes := #[t, t] })
    (e : TypeId) (i : TypeInfo) (z : Value) (size bytes : Nat) (h1 : P.underlying t = some (.slice e)) (h2 : P.info? e = some i) (h3 : i.zero = some z) (h4 : i.size = size) (h5 : i.bytes = bytes) (h6 : z.cells.size = size) (h7 : 0 < size)
    (g : Nat) (hs : a.eval s = .slice (some ⟨g, 0, none⟩) 0 0)
    (ad : Option Addr) (m c : Nat) (hx : a.eval x = .slice ad m c)
    (hc : 0 < m → ∃ b o, ad = some ⟨b, o, none⟩ ∧ ∀ j, j < m * size → ∃ u, w.cell? ⟨b, o + j, none⟩ = some u ∧ u.oneCell' = true)
    (b1 : m ≤ maxLen) (b2 : m * bytes ≤ 140737488355328)
    (hK : ∀ y c' w', CopiedF w w' ad (m * size) y → K (a.put o.dst (.slice y m c')) w') :
    if Region.wanted o (yielded ops a.tmps) = true then Oper.wp P o a w K Q else E := by
  by_cases hm : 0 < m
  · obtain ⟨b, of, rfl, hcell⟩ := hc hm
    have hch : ∃ f : Nat → Value, ∀ j, j < m * size → w.cell? ⟨b, of + j, none⟩ = some (f j) ∧ (f j).oneCell' = true :=
      ⟨fun j => (w.cell? ⟨b, of + j, none⟩).getD undef, fun j hj => by obtain ⟨u, hu, hu1⟩ := hcell j hj; simp [hu, hu1]⟩
    obtain ⟨f, hf⟩ := hch
    have hadd : ∀ (x o j : Nat), (⟨x, o, none⟩ : Addr).add j = ⟨x, o + j, none⟩ := fun x o j => by unfold Addr.add; split <;> simp_all
    refine step_append_grows hg s x t hop e i z size bytes h1 h2 h3 h4 h5 h6 h7 (some ⟨g, 0, none⟩) 0 0 [] hs (by simp) (by simp) (by simp) ⟨b, of, none⟩ m c ((List.range (m * size)).map f) hx (by simp) ?_ ?_ (by omega) (by omega) (by rw [Nat.zero_add]; exact b2) ?_
    · intro j u hu
      have hj : j < m * size := by have := (List.getElem?_eq_some_iff.1 hu).1; simpa using this
      simp [hj] at hu
      rw [hadd, (hf j hj).1, hu]
    · intro u hu
      simp at hu
      obtain ⟨j, hj, rfl⟩ := hu
      exact (hf j hj).2
    · intro v' w' hown hgrow
      have hpos : 0 < m * size := Nat.mul_pos hm h7
      rcases hown.2 with ⟨_, h0⟩ | ⟨gb, cap, cur, rfl, hb, hgb, hle, _, hsz, htk⟩
      · omega
      · simp only [Nat.zero_add, List.nil_append] at *
        refine hK _ _ _ ⟨⟨hgrow.os, hgrow.tape, hgrow.output, hgrow.size, fun k hk => hgrow.block k hk (by simp)⟩, fun _ => ⟨gb, rfl, hb, ?_, ?_⟩, fun _ b' hb' i => by simp only [Option.some.injEq, Addr.mk.injEq] at hb'; rw [← hb'.1]; simp [World.frozen?, hgb]⟩
        · exact (Array.getElem?_eq_some_iff.1 hgb).1
        · intro a' ha' j hj
          simp only [Option.some.injEq] at ha'
          subst ha'
          rw [hadd, (hf j hj).1, cell_of_row w' gb j cur e (0, 0) hgb]
          have h2 : (cur.toList.take (m * size))[j]? = some (f j) := by rw [htk]; simp [hj]
          rw [List.getElem?_take_of_lt hj] at h2
          simpa using h2
  · obtain rfl : m = 0 := by omega
    have hw : Region.wanted o (yielded ops a.tmps) = true := by simp [Region.wanted, hg]
    rw [if_pos hw]
    have hrun : (Builtin.append_ #[t, t] o.type #[.slice (some ⟨g, 0, none⟩) 0 0, .slice ad 0 c]).run P w = .ok (.slice (some ⟨g, 0, none⟩) 0 0) w := by
      cases ad <;> simp [Builtin.append_, run_underlying h1, sizeOf, typeInfo, h2, Builtin.lenOf, Builtin.firstCells, loadCells, loadCellsFrom, storeCells, Sem.run_bind]
    unfold Oper.wp
    simp [execOp, hop, resolve, invoke, builtin, hs, hx, hrun, Result.andThen]
    exact hK _ _ _ ⟨Below.refl _ _, fun h => by omega, fun h => by omega⟩


theorem append_copyE {P : Program} {ops : Array Oper} {o : Oper} {a : Act} {w : World} {K : Act → World → Prop} {Q : Exit → Act → World → Prop}
    (hg : o.guard = none) (s x : Operand) (t : TypeId) (hop : o.op = Op.call { callee := Callee.builtin Builtin.append, args := #[s, x], argTypes := #[t, t] })
    (e : TypeId) (i : TypeInfo) (z : Value) (size bytes : Nat) (h1 : P.underlying t = some (.slice e)) (h2 : P.info? e = some i) (h3 : i.zero = some z) (h4 : i.size = size) (h5 : i.bytes = bytes) (h6 : z.cells.size = size) (h7 : 0 < size)
    (g : Nat) (hs : a.eval s = .slice (some ⟨g, 0, none⟩) 0 0)
    (ad : Option Addr) (m c : Nat) (hx : a.eval x = .slice ad m c)
    (hc : 0 < m → ∃ b o, ad = some ⟨b, o, none⟩ ∧ ∀ j, j < m * size → ∃ u, w.cell? ⟨b, o + j, none⟩ = some u ∧ u.oneCell' = true)
    (b1 : m ≤ maxLen) (b2 : m * bytes ≤ 140737488355328)
    (hK : ∀ y c' w', CopiedF w w' ad (m * size) y → K (a.put o.dst (.slice y m c')) w') : Oper.wp P o a w K Q := by
  have h := step_append_copyF (ops := ops) (Q := Q) (E := False) hg s x t hop e i z size bytes h1 h2 h3 h4 h5 h6 h7 g hs ad m c hx hc b1 b2 hK
  rwa [if_pos (by simp [Region.wanted, hg])] at h
theorem add_at'' (x o j : Nat) : (⟨x, o, none⟩ : Addr).add j = ⟨x, o + j, none⟩ := by unfold Addr.add; split <;> simp_all
theorem infoI : (Try.prog.info? 3).map (fun i => (i.zero, i.size, i.bytes)) = some (some (.int .i64 0), 1, 8) := by kernel_rfl

theorem wpList_append_copy {P : Program} {ops : Array Oper} {rest : List Oper} {o : Oper} {a : Act} {w : World} {Q : Exit → Act → World → Prop}
    (hg : o.guard = none) (s x : Operand) (t : TypeId) (hop : o.op = Op.call { callee := Callee.builtin Builtin.append, args := #[s, x], argTypes := #[t, t] })
    (e : TypeId) (i : TypeInfo) (z : Value) (size bytes : Nat) (h1 : P.underlying t = some (.slice e)) (h2 : P.info? e = some i) (h3 : i.zero = some z) (h4 : i.size = size) (h5 : i.bytes = bytes) (h6 : z.cells.size = size) (h7 : 0 < size)
    (g : Nat) (hs : a.eval s = .slice (some ⟨g, 0, none⟩) 0 0)
    (ad : Option Addr) (m c : Nat) (hx : a.eval x = .slice ad m c)
    (hc : 0 < m → ∃ b o, ad = some ⟨b, o, none⟩ ∧ ∀ j, j < m * size → ∃ u, w.cell? ⟨b, o + j, none⟩ = some u ∧ u.oneCell' = true)
    (b1 : m ≤ maxLen) (b2 : m * bytes ≤ 140737488355328)
    (hK : ∀ y c' w', CopiedF w w' ad (m * size) y → wpList P ops Q rest (a.put o.dst (.slice y m c')) w') : wpList P ops Q (o :: rest) a w :=
  wpList_plain hg fun K hK' => append_copyE (ops := #[]) hg s x t hop e i z size bytes h1 h2 h3 h4 h5 h6 h7 g hs ad m c hx hc b1 b2 fun y c' w' h => hK' _ _ (hK y c' w' h)
/-- a list of numbers in new memory -/
structure New (w w' : World) (l : Nat) (f : Nat → Int) (y : Option Addr) : Prop where
  below : Below w.heap.size w w'
  here : 0 < l → ∃ g, y = some ⟨g, 0, none⟩ ∧ w.heap.size ≤ g ∧ g < w'.heap.size ∧ NumAt w' g 0 l f ∧ ∀ i, w'.frozen? ⟨g, i, none⟩ = false
theorem New.num {w w' : World} {l : Nat} {f : Nat → Int} {y : Option Addr} (h : New w w' l f y) : NumIn w' w'.heap.size l f y := fun h0 => by
  obtain ⟨g, e, _, h2, h3, _⟩ := h.here h0
  exact ⟨g, 0, e, h2, h3⟩
theorem srcN {w : World} {K l : Nat} {f : Nat → Int} {q : Option Addr} (h : NumIn w K l f q) : 0 < l → ∃ b o, q = some ⟨b, o, none⟩ ∧ ∀ j, j < l * 1 → ∃ u, w.cell? ⟨b, o + j, none⟩ = some u ∧ u.oneCell' = true := fun h0 => by
  obtain ⟨b, o, e, _, hc⟩ := h h0
  exact ⟨b, o, e, fun j hj => ⟨_, hc j (by omega), rfl⟩⟩
theorem copied_new {w0 w w' : World} {K l : Nat} {f : Nat → Int} {q y : Option Addr} (h : NumIn w K l f q) (hb : Below w0.heap.size w0 w) (hc : CopiedF w w' q l y) : New w0 w' l f y := by
  refine ⟨bT hb hc.below, fun h0 => ?_⟩
  obtain ⟨b, o, e, _, hn⟩ := h h0
  obtain ⟨g, e2, h1, h2, h3⟩ := hc.here (by omega)
  refine ⟨g, e2, Nat.le_trans hb.size h1, h2, fun k hk => ?_, hc.open' (by omega) g e2⟩
  rw [Nat.zero_add, h3 _ e k (by omega), add_at'']
  exact hn k hk
set_option maxRecDepth 100000 in
set_option maxHeartbeats 2000000 in
theorem clone_any (l c : Nat) (f : Nat → Int) (b o : Nat) (w : World) (hl : l ≤ 1000) (h : NumIn w w.heap.size l f (some ⟨b, o, none⟩)) :
    Calls Try.prog 99 #[.slice (some ⟨b, o, none⟩) l c] w fun e w' => ∃ y c', e = .returned (.slice y l c') ∧ New w w' l f y := by
  obtain ⟨i3, hi3, hz3, hz3', hz3''⟩ := info_parts infoI
  have I3 := Lib.hid hi3; have Z3 := Lib.hid hz3; have Z3' := Lib.hid hz3'; have Z3'' := Lib.hid hz3''; clear hi3 hz3 hz3' hz3''
  have H := Lib.hid h; clear h
  have S1 := Lib.hid (show l ≤ maxLen by unfold maxLen; omega)
  obtain ⟨w1, hw1⟩ : ∃ w1, w.alloc (Obj.cells #[] 3) = w1 := ⟨_, rfl⟩
  have hb1 : Below w.heap.size w w1 := by rw [← hw1]; exact bA (Below.refl _ _) _
  have HB := Lib.hid hb1; clear hb1
  have q26 : ∀ (w : World) (a : Option Addr) (n c n' c' : Nat), (binOp .eql 22 (.slice a n c) (.slice none n' c')).run Try.prog w = .ok (.bool a.isNone) w := fun w a n c n' c' => Lib.run_eql_slice_nil w _ _ a n c n' c' Try.underlying22
  go_enter Try.func99, Try.ntmps99
  go_wp2_with (at_builtin; refine wpList_append_copy rfl (.tmp 5) (.tmp 6) 22 rfl 3 i3 _ 1 8 Try.underlying22 I3.out Z3.out Z3'.out Z3''.out rfl (by decide) _ (by simp [Act.eval, Act.put]; rfl) (some ⟨b, o, none⟩) l c (by simp [Act.eval, Act.put]) (srcN (H.out.bel HB.out)) S1.out (by omega) ?_)
  intro y c' w' hc
  have HC := Lib.hid (copied_new (H.out.bel HB.out) HB.out (by simpa using hc)); clear hc
  go_wp2
  go_ret
  exact ⟨_, _, rfl, HC.out⟩
end Go.Proofs.Ytegkgfiaegpihaa
