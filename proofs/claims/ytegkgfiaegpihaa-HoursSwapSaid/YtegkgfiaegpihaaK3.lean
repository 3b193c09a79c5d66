/- Rosters of hours: what was found, in a map by the room that is left; arrays of eight numbers in memory; who finds. -/
import Derived.Test.YtegkgfiaegpihaaK2

import Derived.Test.YtegkgfiaegpihaaM3

import Derived.DeepKeys4

import Derived.Maps.Keyed

set_option linter.unusedSimpArgs false

set_option linter.unusedVariables false

namespace Go.Proofs.Ytegkgfiaegpihaa

open Go.RowKit

def arr8 (L : Nat → Int) : Value := .agg #[.int .i64 (L 0), .int .i64 (L 1), .int .i64 (L 2), .int .i64 (L 3), .int .i64 (L 4), .int .i64 (L 5), .int .i64 (L 6), .int .i64 (L 7)]
def chE (c : Ch) : Value := .agg #[.int .i64 c.h, .int .i64 c.c, .bool c.no]
theorem arr8_inj {L M : Nat → Int} (hL : Rm L) (hM : Rm M) (h : arr8 L = arr8 M) : L = M := by
  simp only [arr8, Value.agg.injEq, Array.mk.injEq, List.cons.injEq, Value.int.injEq, true_and, and_true] at h
  obtain ⟨h0, h1, h2, h3, h4, h5, h6, h7⟩ := h
  funext i
  rcases Nat.lt_or_ge i 8 with hi | hi
  · have : i = 0 ∨ i = 1 ∨ i = 2 ∨ i = 3 ∨ i = 4 ∨ i = 5 ∨ i = 6 ∨ i = 7 := by omega
    rcases this with rfl | rfl | rfl | rfl | rfl | rfl | rfl | rfl <;> assumption
  · rw [hL.z i hi, hM.z i hi]
/-- eight numbers in a block -/
structure ArAt (w : World) (b : Nat) (L : Nat → Int) : Prop where
  lt : b < w.heap.size
  c : ∀ i, i < 8 → w.cell? ⟨b, i, none⟩ = some (.int .i64 (L i))
  fz : ∀ i, w.frozen? ⟨b, i, none⟩ = false
theorem ArAt.blk {w w' : World} {b : Nat} {f : Nat → Int} (h : ArAt w b f) (e : w'.heap[b]? = w.heap[b]?) : ArAt w' b f := by
  refine ⟨?_, fun i hi => (World.cell?_of_block (a := ⟨b, i, none⟩) e).trans (h.c i hi), fun i => (World.frozen?_of_block (a := ⟨b, i, none⟩) e).trans (h.fz i)⟩
  rcases Nat.lt_or_ge b w'.heap.size with h' | h'
  · exact h'
  · rw [Array.getElem?_eq_none h', Array.getElem?_eq_getElem h.lt] at e; cases e
theorem ArAt.new (w : World) (L : Nat → Int) : ArAt (w.alloc (Obj.cells #[.int .i64 (L 0), .int .i64 (L 1), .int .i64 (L 2), .int .i64 (L 3), .int .i64 (L 4), .int .i64 (L 5), .int .i64 (L 6), .int .i64 (L 7)] 106)) w.heap.size L := by
  refine ⟨by simp, fun i hi => ?_, fun i => by go_simp⟩
  have : i = 0 ∨ i = 1 ∨ i = 2 ∨ i = 3 ∨ i = 4 ∨ i = 5 ∨ i = 6 ∨ i = 7 := by omega
  rcases this with rfl | rfl | rfl | rfl | rfl | rfl | rfl | rfl <;> go_simp
theorem ArAt.set {w : World} {b q : Nat} {L : Nat → Int} (h : ArAt w b L) (hq : q < 8) (v : Int) (hv : v = L q - 1) : ArAt (w.setCell ⟨b, q, none⟩ (.int .i64 v)) b (dec L q) := by
  subst hv
  have hc := h.c q hq
  refine ⟨by simpa using h.lt, fun i hi => ?_, fun i => by have := h.fz i; simpa using this⟩
  by_cases e : i = q
  · subst e
    have hf := h.fz i
    rw [dec_same]
    go_simp
  · rw [dec_ne _ e, World.cell?_setCell_other _ _ _ _ (by simp [e])]
    exact h.c i hi
/-- a choice in a block -/
structure ChAt (w : World) (b : Nat) (c : Ch) : Prop where
  lt : b < w.heap.size
  c0 : w.cell? ⟨b, 0, none⟩ = some (.int .i64 c.h)
  c1 : w.cell? ⟨b, 1, none⟩ = some (.int .i64 c.c)
  c2 : w.cell? ⟨b, 2, none⟩ = some (.bool c.no)
  fz : ∀ i, w.frozen? ⟨b, i, none⟩ = false
theorem ChAt.blk {w w' : World} {b : Nat} {f : Ch} (h : ChAt w b f) (e : w'.heap[b]? = w.heap[b]?) : ChAt w' b f := by
  refine ⟨?_, (World.cell?_of_block (a := ⟨b, 0, none⟩) e).trans h.c0, (World.cell?_of_block (a := ⟨b, 1, none⟩) e).trans h.c1, (World.cell?_of_block (a := ⟨b, 2, none⟩) e).trans h.c2, fun i => (World.frozen?_of_block (a := ⟨b, i, none⟩) e).trans (h.fz i)⟩
  rcases Nat.lt_or_ge b w'.heap.size with h' | h'
  · exact h'
  · rw [Array.getElem?_eq_none h', Array.getElem?_eq_getElem h.lt] at e; cases e
theorem ChAt.new (w : World) (c : Ch) : ChAt (w.alloc (Obj.cells #[.int .i64 c.h, .int .i64 c.c, .bool c.no] 109)) w.heap.size c :=
  ⟨by simp, by go_simp, by go_simp, by go_simp, fun i => by go_simp⟩
theorem ChAt.set {w : World} {b : Nat} {c d : Ch} (h : ChAt w b c) : ChAt (((w.setCell ⟨b, 0, none⟩ (.int .i64 d.h)).setCell ⟨b, 1, none⟩ (.int .i64 d.c)).setCell ⟨b, 2, none⟩ (.bool d.no)) b d := by
  have h0 := h.c0; have h1 := h.c1; have h2 := h.c2; have hf := h.fz
  exact ⟨by simpa using h.lt, by go_simp, by go_simp, by go_simp, fun i => by have := h.fz i; simpa using this⟩
/-- all that was found is right: block b is a map from room that is left to choices -/
def MapOk (D : Ro) (P : Pr) (w : World) (b : Nat) : Prop := ∃ es clock, w.heap[b]? = some (.map es clock) ∧ ∀ e ∈ es.toList, ∃ L, Rm L ∧ e.key = arr8 L ∧ e.val = chE (fV D P L)
theorem MapOk.lt {D : Ro} {P : Pr} {w : World} {b : Nat} (h : MapOk D P w b) : b < w.heap.size := by
  obtain ⟨es, clock, hb, _⟩ := h
  exact (Array.getElem?_eq_some_iff.1 hb).1
theorem MapOk.blk {D : Ro} {P : Pr} {w w' : World} {b : Nat} (h : MapOk D P w b) (e : w'.heap[b]? = w.heap[b]?) : MapOk D P w' b := by
  obtain ⟨es, clock, hb, he⟩ := h
  exact ⟨es, clock, e.trans hb, he⟩
theorem MapOk.new (D : Ro) (P : Pr) (w : World) : MapOk D P (w.alloc (.map #[] 0)) w.heap.size := ⟨#[], 0, World.alloc_heap_new _ _, by simp⟩

theorem roomRow : 106 < Try.prog.types.size := of_decide_eq_true (by kernel_rfl)
theorem laidOut8 : laidOutB Try.prog = true := by kernel_rfl
theorem roomLaw : WideMaps.KeyLaw Try.prog 106 := deep_law_laid laidOut8 (m := 2) (by omega) roomRow (by kernel_rfl) (by kernel_rfl)
theorem roomKey : Maps.Keyed Try.prog 106 := Maps.Keyed.of_law roomLaw
theorem wf_small {a : Int} (h : 0 ≤ a ∧ a ≤ 6) : (Lit.int .i64 a).wf = true := by
  have : a = 0 ∨ a = 1 ∨ a = 2 ∨ a = 3 ∨ a = 4 ∨ a = 5 ∨ a = 6 := by omega
  rcases this with rfl | rfl | rfl | rfl | rfl | rfl | rfl <;> decide
set_option maxRecDepth 100000 in
theorem keyOf_room {L : Nat → Int} (h : Rm L) : ∃ l, keyOf Try.prog 106 (arr8 L) = some l := by
  have e0 := wf_small (h.b 0); have e1 := wf_small (h.b 1); have e2 := wf_small (h.b 2); have e3 := wf_small (h.b 3)
  have e4 := wf_small (h.b 4); have e5 := wf_small (h.b 5); have e6 := wf_small (h.b 6); have e7 := wf_small (h.b 7)
  obtain ⟨m, hm⟩ : ∃ m, Try.prog.types.size = m + 1 := ⟨Try.prog.types.size - 1, of_decide_eq_true (by kernel_rfl)⟩
  have hk : Try.prog.keyType 106 = true := by kernel_rfl
  have hc8 : Try.prog.cellsOf 106 = 8 := by kernel_rfl
  have hc1 : Try.prog.cellsOf 3 = 1 := by kernel_rfl
  rw [← Option.isSome_iff_exists]
  unfold keyOf
  rw [Try.underlying106]
  simp only [hk, arr8, Value.formed, Try.underlying106, hc8, hm, Program.keyLits, Value.cells]
  simp [hc1, Try.underlying3, e0, e1, e2, e3, e4, e5, e6, e7, List.range_succ, Program.keyLits]
theorem zeroCh (W : World) : (zeroValue 109).run Try.prog W = .ok (chE ⟨0, 0, false⟩) W := by
  have h : (Try.prog.info? 109).map (fun i => i.zero) = some (some (chE ⟨0, 0, false⟩)) := by kernel_rfl
  obtain ⟨i, hi⟩ := Option.map_eq_some_iff.1 h
  simp [zeroValue, typeInfo, hi.1, hi.2]
/-- what was found, asked for -/
theorem MapOk.look {D : Ro} {P : Pr} {w : World} {b : Nat} (h : MapOk D P w b) {L : Nat → Int} (hL : Rm L) :
    (∃ c ok, (Instr.lookup 102 (.map (some b)) (arr8 L) true).run Try.prog w = .ok (.tuple #[chE c, .bool ok]) w ∧ (ok = true → c = fV D P L)) := by
  obtain ⟨es, clock, hb, he⟩ := h
  obtain ⟨kl, hkl⟩ := keyOf_room hL
  rcases roomKey.find w hkl es.toList (fun e hm => by obtain ⟨M, hM, e1, _⟩ := he e hm; rw [e1]; exact keyOf_room hM) with ⟨h1, h2⟩ | ⟨j, e0, h1, h2, h3⟩
  · exact ⟨⟨0, 0, false⟩, false, by simp [Instr.lookup, run_underlying Try.underlying102, MapKept.run_getObj_map hb, roomKey.check w _ hkl, h1, zeroCh, Result.andThen, chE], fun h => by cases h⟩
  · obtain ⟨M, hM, e1, e2⟩ := he e0 (List.mem_of_getElem? h2)
    have : M = L := arr8_inj hM hL (e1.symm.trans h3)
    subst this
    exact ⟨fV D P M, true, by simp [Instr.lookup, run_underlying Try.underlying102, MapKept.run_getObj_map hb, roomKey.check w _ hkl, h1, e2, Result.andThen], fun _ => rfl⟩
/-- what was found, written down -/
theorem MapOk.store {D : Ro} {P : Pr} {w : World} {b : Nat} (h : MapOk D P w b) {L : Nat → Int} (hL : Rm L) :
    ∃ w', (Instr.mapUpdate 102 (.map (some b)) (arr8 L) (chE (fV D P L))).run Try.prog w = .ok () w' ∧ MapOk D P w' b ∧ w.grownBy w' (some b) := by
  obtain ⟨es, clock, hb, he⟩ := h
  obtain ⟨kl, hkl⟩ := keyOf_room hL
  have hs : ∀ o : Obj, w.grownBy { w with heap := w.heap.setIfInBounds b o } (some b) := fun o =>
    ⟨rfl, rfl, rfl, by simp, fun k _ hk => by simp [Array.getElem?_setIfInBounds]; intro e; exact absurd (by rw [e]) hk⟩
  have hlt : b < w.heap.size := (Array.getElem?_eq_some_iff.1 hb).1
  rcases roomKey.find w hkl es.toList (fun e hm => by obtain ⟨M, hM, e1, _⟩ := he e hm; rw [e1]; exact keyOf_room hM) with ⟨h1, h2⟩ | ⟨j, e0, h1, h2, h3⟩
  · refine ⟨{ w with heap := w.heap.setIfInBounds b (.map (es.push ⟨arr8 L, chE (fV D P L), clock⟩) (clock + 1)) }, by simp [Instr.mapUpdate, run_underlying Try.underlying102, MapKept.run_getObj_map hb, roomKey.check w false hkl, h1, MapKept.run_setObj_map _ hb, Result.andThen], ⟨es.push ⟨arr8 L, chE (fV D P L), clock⟩, clock + 1, by simp [hlt], fun e hm => ?_⟩, hs _⟩
    simp only [Array.toList_push, List.mem_append, List.mem_singleton] at hm
    rcases hm with hm | rfl
    · exact he e hm
    · exact ⟨L, hL, rfl, rfl⟩
  · have hj : es[j]? = some e0 := by simpa using h2
    refine ⟨{ w with heap := w.heap.setIfInBounds b (.map (es.modify j fun e => { e with key := arr8 L, val := chE (fV D P L) }) clock) }, by simp [Instr.mapUpdate, run_underlying Try.underlying102, MapKept.run_getObj_map hb, roomKey.check w false hkl, h1, hj, h3, roomKey.stays w hkl, MapKept.run_setObj_map _ hb, Result.andThen], ⟨es.modify j fun e => { e with key := arr8 L, val := chE (fV D P L) }, clock, by simp [hlt], fun e hm => ?_⟩, hs _⟩
    obtain ⟨i, hi⟩ := List.mem_iff_getElem?.1 hm
    rw [Array.getElem?_toList, Array.getElem?_modify] at hi
    split at hi
    · obtain ⟨e', he', rfl⟩ := Option.map_eq_some_iff.1 hi
      exact ⟨L, hL, rfl, rfl⟩
    · exact he e (List.mem_of_getElem? (by rw [Array.getElem?_toList]; exact hi))
end Go.Proofs.Ytegkgfiaegpihaa
