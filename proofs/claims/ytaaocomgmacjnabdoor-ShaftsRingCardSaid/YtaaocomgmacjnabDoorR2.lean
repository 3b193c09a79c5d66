/- Shafts: arguments opened. -/
import Derived.Test.YtaaocomgmacjnabDoorR1

import Derived.Test.YtaaocomgmacjnabDoorA9

import Derived.Test.YtaaocomgmacjnabDoorTie

import Derived.LaidMore

import Derived.OpenShut

import Derived.Stop.Joined

set_option linter.unusedSimpArgs false

set_option linter.unusedVariables false

namespace Go.Proofs.YtaaocomgmacjnabDoor

open Go.ChangeShapes Go.WideShapes Go.ChangeAt Go.RowKit Go.Joins Go.Deep

theorem list_of {α : Type} {P : Nat → α → Prop} : ∀ (n : Nat), (∀ i, i < n → ∃ x, P i x) → ∃ l : List α, l.length = n ∧ ∀ i, (h : i < l.length) → P i l[i]
  | 0, _ => ⟨[], rfl, fun i h => absurd h (Nat.not_lt_zero _)⟩
  | n + 1, h => by
    obtain ⟨l, hl, hp⟩ := list_of n (fun i hi => h i (by omega))
    obtain ⟨x, hx⟩ := h n (by omega)
    refine ⟨l ++ [x], by simp [hl], fun i hi => ?_⟩
    by_cases e : i < l.length
    · rw [List.getElem_append_left e]; exact hp i e
    · have : i = n := by simp at hi; omega
      subst this
      rw [List.getElem_append_right (by omega)]
      simpa [hl] using hx
theorem addr_of {w : World} {a : Addr} {v : Value} (h : w.cell? a = some v) : ∃ b o, a = ⟨b, o, none⟩ ∧ b < w.heap.size := by
  obtain ⟨b, o, s⟩ := a
  cases s with
  | none => exact ⟨b, o, rfl, World.block_lt_of_cell? w _ h⟩
  | some x =>
    simp only [World.cell?] at h
    split at h <;> simp at h

theorem add_at' (x o j : Nat) : (⟨x, o, none⟩ : Addr).add j = ⟨x, o + j, none⟩ := by unfold Addr.add; split <;> simp_all
section

variable {H : Type} {enc : TypeId × Value → H} {P : Program} {w : World} {base : Nat} {spare : Nat → Bool} {held : Bool}

theorem open_struct_slice {t e : TypeId} {fs : Array Field} {fuel : Nat} {cs : List Value} {x : DataW H × List MemPlace} (ht : P.underlying t = some (.slice e)) (he : P.underlying e = some (.struct fs))
    (hone : oneCellFields P fs = true) (hC : P.cellsOf e = fs.size) (h : DataW.trod enc P w base spare held fuel t cs = some x) :
    cs = [.slice none 0 0] ∨ ∃ (a : Addr) (len cap : Nat), cs = [.slice (some a) len cap] ∧ cap ≤ maxLen ∧ len ≤ cap ∧
      ∀ i, i < len → ∀ (j : Nat) (f : Field), fs[j]? = some f → ∃ (v : Value) (y : DataW H × List MemPlace) (n : Nat), w.cell? (a.add (i * fs.size + j)) = some v ∧ DataW.trod enc P w base spare held n f.type [v] = some y := by
  rcases open_slice ht h with h0 | ⟨a, len, cap, m, n, D, Pl, hcs, hb, hl, hm, hmm, hx, hi⟩
  · exact .inl h0.1
  · refine .inr ⟨a, len, cap, hcs, hm, hl, fun i hi' j f hj => ?_⟩
    have him : i < m := by rw [hmm]; split <;> omega
    obtain ⟨cs', hc, ht'⟩ := hi i him
    rw [hC] at hc
    obtain ⟨ys, n', hn', hy, hlen, hyl, hf⟩ := DataW.trod_struct he ht'
    obtain ⟨_, hcl, hat⟩ := World.cells?_some hc
    obtain ⟨ho, hk⟩ := hone_of hone j f hj
    have hjl : j < fs.size := (Array.getElem?_eq_some_iff.1 hj).1
    have hcell := hat j hjl
    have hv : cs'[j]? = some (cs'[j]'(by omega)) := List.getElem?_eq_getElem (by omega)
    have h1 := hf j f hj
    rw [ho, hk] at h1
    have hone' : (cs'.drop j).take 1 = [cs'[j]'(by omega)] := by
      rw [List.drop_eq_getElem_cons (by omega)]
      rfl
    rw [hone'] at h1
    have hys : ys[j]? = some (ys[j]'(by omega)) := List.getElem?_eq_getElem (by omega)
    exact ⟨_, _, n', by rw [← Go.Deep.add_add, hcell, hv], h1.trans hys⟩
end

theorem array5 {α : Type} {a : Array α} (h : a.size = 5) : ∃ x0 x1 x2 x3 x4, a = #[x0, x1, x2, x3, x4] := by
  obtain ⟨l⟩ := a
  match l, h with
  | [x0, x1, x2, x3, x4], _ => exact ⟨x0, x1, x2, x3, x4, rfl⟩
section

variable {H : Type} {enc : TypeId × Value → H} {P : Program} {w : World} {base : Nat} {spare : Nat → Bool} {held : Bool}

/-- a struct of one-cell fields, by value: each field's cell with its reading -/
theorem open_fields {r : Reach} {b0 : Nat} {t : TypeId} {fs : Array Field} {v : Value} {d : DataW H} {p : List MemPlace} (hs : P.underlying t = some (.struct fs)) (hone : oneCellFields P fs = true) (hC : P.cellsOf t = fs.size)
    (hv : Value.okWide P w r b0 t v) (h : DataW.Trod enc P w base spare held t v d p) :
    ∃ cs : Array Value, v = .agg cs ∧ cs.size = fs.size ∧ ∀ (j : Nat) (f : Field), fs[j]? = some f → ∃ (u : Value) (y : DataW H × List MemPlace) (n : Nat), cs[j]? = some u ∧ DataW.trod enc P w base spare held n f.type [u] = some y := by
  obtain ⟨cs, rfl, hsz⟩ := okWide_struct hs hv
  obtain ⟨fuel, hf⟩ := h
  have hsz' : cs.size = fs.size := hsz.trans hC
  refine ⟨cs, rfl, hsz', fun j f hj => ?_⟩
  obtain ⟨ys, n', hn', hy, hlen, hyl, hf⟩ := DataW.trod_struct hs hf
  obtain ⟨ho, hk⟩ := hone_of hone j f hj
  have hjl : j < fs.size := (Array.getElem?_eq_some_iff.1 hj).1
  have h1 := hf j f hj
  rw [ho, hk] at h1
  have hj' : j < cs.toList.length := by simp; omega
  have hone' : ((Value.agg cs).cells.toList.drop j).take 1 = [cs.toList[j]] := by
    show (cs.toList.drop j).take 1 = _
    rw [List.drop_eq_getElem_cons hj']
    rfl
  rw [hone'] at h1
  have hys : ys[j]? = some (ys[j]'(by omega)) := List.getElem?_eq_getElem (by omega)
  exact ⟨cs.toList[j], _, n', by simp, h1.trans hys⟩
end

section

variable {H : Type} {enc : TypeId × Value → H} {w : World} {spare : Nat → Bool} {held : Bool}

theorem cellsB : Tryd.prog.cellsOf 25 = 5 := by kernel_rfl
theorem cellsS : Tryd.prog.cellsOf 55 = 4 := by kernel_rfl
theorem cellsI : Tryd.prog.cellsOf 3 = 1 := by kernel_rfl
theorem open_rocks {fuel : Nat} {cs : List Value} {x : DataW H × List MemPlace} (h : DataW.trod enc Tryd.prog w 0 spare held fuel 22 cs = some x) :
    ∃ (l : List Rock) (p : Option Addr) (c : Nat), cs = [.slice p l.length c] ∧ l.length ≤ maxLen ∧ (0 < l.length → ∃ b o, p = some ⟨b, o, none⟩ ∧ b < w.heap.size ∧ RockAt w b o l) := by
  rcases open_struct_slice Tryd.underlying22 Tryd.underlying55 (by kernel_rfl) (by rw [cellsS]; rfl) h with rfl | ⟨a, len, cap, rfl, hc, hl, hf⟩
  · exact ⟨[], none, 0, rfl, by unfold maxLen; simp, fun h => by simp at h⟩
  · obtain ⟨l, hll, hp⟩ := list_of (P := fun i (s : Rock) => w.cell? (a.add (i * 4 + 0)) = some (.int .i64 s.h) ∧ w.cell? (a.add (i * 4 + 1)) = some (.int .i64 s.p) ∧ w.cell? (a.add (i * 4 + 2)) = some (.int .i64 s.s) ∧ w.cell? (a.add (i * 4 + 3)) = some (.int .i64 s.e)) len fun i hi => by
      obtain ⟨v0, y0, n0, c0, t0⟩ := hf i hi 0 _ rfl
      obtain ⟨v1, y1, n1, c1, t1⟩ := hf i hi 1 _ rfl
      obtain ⟨v2, y2, n2, c2, t2⟩ := hf i hi 2 _ rfl
      obtain ⟨v3, y3, n3, c3, t3⟩ := hf i hi 3 _ rfl
      obtain ⟨m0, e0, _⟩ := DataW.trod_int Tryd.underlying3 t0
      obtain ⟨m1, e1, _⟩ := DataW.trod_int Tryd.underlying3 t1
      obtain ⟨m2, e2, _⟩ := DataW.trod_int Tryd.underlying3 t2
      obtain ⟨m3, e3, _⟩ := DataW.trod_int Tryd.underlying3 t3
      cases e0; cases e1; cases e2; cases e3
      exact ⟨⟨m0, m1, m2, m3⟩, c0, c1, c2, c3⟩
    subst hll
    refine ⟨l, some a, cap, rfl, by omega, fun h0 => ?_⟩
    obtain ⟨z0, _, _⟩ := hp 0 h0
    rw [show a.add (0 * 4 + 0) = a by simp [Addr.add]] at z0
    obtain ⟨b, o, rfl, hb⟩ := addr_of z0
    refine ⟨b, o, rfl, hb, ⟨fun k hk => ?_, fun k hk => ?_, fun k hk => ?_, fun k hk => ?_⟩⟩
    · have := (hp k hk).1; rwa [add_at'] at this
    · have := (hp k hk).2.1; rwa [add_at', ← Nat.add_assoc] at this
    · have := (hp k hk).2.2.1; rwa [add_at', ← Nat.add_assoc] at this
    · have := (hp k hk).2.2.2; rwa [add_at', ← Nat.add_assoc] at this
/-- a list of numbers in a cell -/
theorem open_intsB {fuel : Nat} {cs : List Value} {x : DataW H × List MemPlace} (h : DataW.trod enc Tryd.prog w 0 spare held fuel 23 cs = some x) :
    ∃ (l : List Int) (p : Option Addr) (c : Nat), cs = [.slice p l.length c] ∧ l.length ≤ maxLen ∧ (0 < l.length → ∃ b o, p = some ⟨b, o, none⟩ ∧ IntsAt w w.heap.size b o l) := by
  rcases open_ints Tryd.underlying23 Tryd.underlying3 cellsI h with ⟨hcs, hx⟩ | ⟨a, len', cap', zs, hcs, _, hl, hm, hz, hx, hcell, hwz⟩
  · subst hcs
    exact ⟨[], none, 0, rfl, by unfold maxLen; simp, fun h => by simp at h⟩
  · subst hcs
    have hlz : len' ≤ zs.length := by rw [hz]; split <;> omega
    have hlen : (zs.take len').length = len' := by simp; omega
    refine ⟨zs.take len', some a, cap', by rw [hlen], by omega, fun h0 => ?_⟩
    rw [hlen] at h0
    have h1 := hcell 0 (by omega)
    rw [show a.add 0 = a by simp [Addr.add]] at h1
    obtain ⟨b, o, rfl, hb⟩ := addr_of h1
    refine ⟨b, o, rfl, hb, fun k hk => ?_⟩
    rw [hlen] at hk
    have h2 := hcell k (by omega)
    rw [add_at'] at h2
    rw [h2]
    simp [List.getD_eq_getElem?_getD, List.getElem?_eq_getElem (show k < zs.length by omega)]
set_option maxRecDepth 100000 in
/-- an argument that is a shaft -/
theorem open_shaft {r : Reach} {b0 : Nat} {v : Value} {d : DataW H} {ps : List MemPlace} (hv : Value.okWide Tryd.prog w r b0 25 v) (h : DataW.Trod enc Tryd.prog w 0 spare held 25 v d ps) :
    ∃ (S : Shaft) (p q : Option Addr) (c d' : Nat), v = .agg #[.slice q S.R.length d', .slice p S.F.length c, .int .i64 S.D, .int .i64 S.H, .int .i64 S.T] ∧ ShaftIn w w.heap.size S p q ∧ S.F.length ≤ maxLen ∧ S.R.length ≤ maxLen := by
  obtain ⟨cs, rfl, hsz, hf⟩ := open_fields Tryd.underlying25 (by kernel_rfl) cellsB hv h
  obtain ⟨v0, v1, v2, v3, v4, rfl⟩ := array5 hsz
  obtain ⟨u0, y0, n0, c0, t0⟩ := hf 0 _ rfl
  obtain ⟨u1, y1, n1, c1, t1⟩ := hf 1 _ rfl
  obtain ⟨u2, y2, n2, c2, t2⟩ := hf 2 _ rfl
  obtain ⟨u3, y3, n3, c3, t3⟩ := hf 3 _ rfl
  obtain ⟨u4, y4, n4, c4, t4⟩ := hf 4 _ rfl
  obtain rfl : v0 = u0 := Option.some.inj c0
  obtain rfl : v1 = u1 := Option.some.inj c1
  obtain rfl : v2 = u2 := Option.some.inj c2
  obtain rfl : v3 = u3 := Option.some.inj c3
  obtain rfl : v4 = u4 := Option.some.inj c4
  obtain ⟨R, q, d', e0, hR, h0⟩ := open_rocks t0
  obtain ⟨F, p, c, e1, hF, h1⟩ := open_intsB t1
  obtain ⟨D, e2, _⟩ := DataW.trod_int Tryd.underlying3 t2
  obtain ⟨N, e3, _⟩ := DataW.trod_int Tryd.underlying3 t3
  obtain ⟨P, e4, _⟩ := DataW.trod_int Tryd.underlying3 t4
  cases e0; cases e1; cases e2; cases e3; cases e4
  exact ⟨⟨R, F, D, N, P⟩, p, q, c, d', rfl, ⟨h1, h0⟩, hF, hR⟩
end

/-- an argument that is a list of numbers -/
theorem open_list {H : Type} {enc : TypeId × Value → H} {w : World} {spare : Nat → Bool} {held : Bool} {v : Value} {d : DataW H} {ps : List MemPlace} (h : DataW.Trod enc Tryd.prog w 0 spare held 23 v d ps) (hv : ∃ p n c, v = .slice p n c) :
    ∃ (l : List Int) (p : Option Addr) (c : Nat), v = .slice p l.length c ∧ l.length ≤ maxLen ∧ (0 < l.length → ∃ b o, p = some ⟨b, o, none⟩ ∧ IntsAt w w.heap.size b o l) := by
  obtain ⟨fuel, hf⟩ := h
  obtain ⟨p, n, c, rfl⟩ := hv
  obtain ⟨l, p', c', e, h1, h2⟩ := open_intsB hf
  have e' : [Value.slice p n c] = [Value.slice p' l.length c'] := e
  simp only [List.cons.injEq, and_true] at e'
  exact ⟨l, p', c', e', h1, h2⟩
/-- the condition on the listed variables, opened -/
abbrev laidL : List (String × DataW Unit) := [("steening/shafts.noWay", Rows.laid_steening_shafts_noWay)]
theorem gWay : Tryd.prog.globalNamed "steening/shafts.noWay" = some 0 := by kernel_rfl
theorem tWay : (Tryd.prog.globals[0]?).map (·.type) = some 81 := by kernel_rfl
theorem cellsW : Tryd.prog.cellsOf 81 = 2 := by kernel_rfl
theorem var_heap {P : Program} {W : World} {n : String} {g : Nat} {cs : Array Value} (hg : P.globalNamed n = some g) (h : W.var? P n = some cs) : ∃ t fz, W.heap[g]? = some (.cells cs t fz) := by
  simp only [World.var?, hg, Option.bind_some] at h
  split at h
  · rename_i c t fz hh
    cases h
    exact ⟨_, _, hh⟩
  · cases h
set_option maxRecDepth 100000 in
theorem of_laid {W : World} (h : laidMetH Tryd.prog laidL W) : GlobsOk laid W := by
  rw [MakeChecks.laidMetH_plain _ _ _ (by kernel_rfl)] at h
  obtain ⟨ps, ⟨g0, t0, cs0, f0, p0, q0, hg0, ht0, hv0, hd0, _, hps⟩, hnd, hz⟩ := h
  obtain rfl := Option.some.inj (gWay.symm.trans hg0)
  obtain rfl := Option.some.inj (tWay.symm.trans ht0)
  obtain ⟨t, fz, hh⟩ := var_heap hg0 hv0
  obtain ⟨y0, y1, n, hx, hl, t0, t1⟩ := trod_struct2 Tryd.underlying81 hd0
  rw [cellsW] at hl
  obtain ⟨l⟩ := cs0
  match l, hl with
  | [a, b], _ =>
    have u0 : DataW.trod (fun _ => ()) Tryd.prog W 0 (fun _ => true) false n 3 [a] = some y0 := t0
    have u1 : DataW.trod (fun _ => ()) Tryd.prog W 0 (fun _ => true) false n 3 [b] = some y1 := t1
    obtain ⟨k0, e0, f0, _⟩ := DataW.trod_int Tryd.underlying3 u0
    obtain ⟨k1, e1, f1, _⟩ := DataW.trod_int Tryd.underlying3 u1
    have hk0 : k0 = -1 := by rw [f0, f1] at hx; simp [Rows.laid_steening_shafts_noWay] at hx; omega
    have hk1 : k1 = -1 := by rw [f0, f1] at hx; simp [Rows.laid_steening_shafts_noWay] at hx; omega
    subst hk0 hk1
    simp only [List.cons.injEq, and_true] at e0 e1
    subst e0 e1
    obtain ⟨⟨c, t', hc⟩, _⟩ := hz 0 0 (by rw [hps]; simp [MemPlace.row])
    rw [hh] at hc
    cases hc
    intro pp hp
    simp only [laid, List.mem_singleton] at hp
    subst hp
    exact ⟨_, hh⟩
end Go.Proofs.YtaaocomgmacjnabDoor
