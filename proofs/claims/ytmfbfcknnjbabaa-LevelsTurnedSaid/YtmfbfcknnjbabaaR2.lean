/- LevelsHolds: for every town and list the call returns true, and the arguments read as they did. No condition. -/
import Derived.Test.YtmfbfcknnjbabaaR1
import Derived.Test.YtmfbfcknnjbabaaD3
import Derived.Test.YtmfbfcknnjbabaaG9
set_option linter.unusedSimpArgs false
set_option linter.unusedVariables false
namespace Go.Proofs.Ytmfbfcknnjbabaa
open Go.ChangeShapes Go.WideShapes Go.ChangeAt Go.RowKit Go.Joins Go.Deep

theorem list_of {α : Type} {P : Nat → α → Prop} : ∀ (n : Nat), (∀ i, i < n → ∃ x, P i x) → ∃ l : List α, l.length = n ∧ ∀ i, (h : i < l.length) → P i l[i]
  | 0, _ => ⟨[], rfl, fun i h => absurd h (Nat.not_lt_zero _)⟩
  | n + 1, h => by
    obtain ⟨l, hl, hp⟩ := list_of n (fun i hi => h i (by omega))
    obtain ⟨x, hx⟩ := h n (by omega)
    refine ⟨l ++ [x], by simp [hl], fun i hi => ?_⟩
    by_cases e : i < l.length
    · rw [List.getElem_append_left e]; exact hp i e
    · have : i = n := by simp at hi; omega
      subst this
      rw [List.getElem_append_right (by omega)]
      simpa [hl] using hx
theorem addr_of {w : World} {a : Addr} {v : Value} (h : w.cell? a = some v) : ∃ b o, a = ⟨b, o, none⟩ ∧ b < w.heap.size := by
  obtain ⟨b, o, s⟩ := a
  cases s with
  | none => exact ⟨b, o, rfl, World.block_lt_of_cell? w _ h⟩
  | some x =>
    simp only [World.cell?] at h
    split at h <;> simp at h

section
variable {H : Type} {enc : TypeId × Value → H} {P : Program} {w : World} {base : Nat} {spare : Nat → Bool} {held : Bool}
theorem open_struct_slice {t e : TypeId} {fs : Array Field} {fuel : Nat} {cs : List Value} {x : DataW H × List MemPlace} (ht : P.underlying t = some (.slice e)) (he : P.underlying e = some (.struct fs))
    (hone : oneCellFields P fs = true) (hC : P.cellsOf e = fs.size) (h : DataW.trod enc P w base spare held fuel t cs = some x) :
    cs = [.slice none 0 0] ∨ ∃ (a : Addr) (len cap : Nat), cs = [.slice (some a) len cap] ∧ cap ≤ maxLen ∧ len ≤ cap ∧
      ∀ i, i < len → ∀ (j : Nat) (f : Field), fs[j]? = some f → ∃ (v : Value) (y : DataW H × List MemPlace) (n : Nat), w.cell? (a.add (i * fs.size + j)) = some v ∧ DataW.trod enc P w base spare held n f.type [v] = some y := by
  rcases open_slice ht h with h0 | ⟨a, len, cap, m, n, D, Pl, hcs, hb, hl, hm, hmm, hx, hi⟩
  · exact .inl h0.1
  · refine .inr ⟨a, len, cap, hcs, hm, hl, fun i hi' j f hj => ?_⟩
    have him : i < m := by rw [hmm]; split <;> omega
    obtain ⟨cs', hc, ht'⟩ := hi i him
    rw [hC] at hc
    obtain ⟨ys, n', hn', hy, hlen, hyl, hf⟩ := DataW.trod_struct he ht'
    obtain ⟨_, hcl, hat⟩ := World.cells?_some hc
    obtain ⟨ho, hk⟩ := hone_of hone j f hj
    have hjl : j < fs.size := (Array.getElem?_eq_some_iff.1 hj).1
    have hcell := hat j hjl
    have hv : cs'[j]? = some (cs'[j]'(by omega)) := List.getElem?_eq_getElem (by omega)
    have h1 := hf j f hj
    rw [ho, hk] at h1
    have hone' : (cs'.drop j).take 1 = [cs'[j]'(by omega)] := by
      rw [List.drop_eq_getElem_cons (by omega)]
      rfl
    rw [hone'] at h1
    have hys : ys[j]? = some (ys[j]'(by omega)) := List.getElem?_eq_getElem (by omega)
    exact ⟨_, _, n', by rw [← Go.Deep.add_add, hcell, hv], h1.trans hys⟩
end
section
variable {H : Type} {enc : TypeId × Value → H} {w : World} {spare : Nat → Bool} {held : Bool}
theorem cells62 : Try.prog.cellsOf 62 = 3 := by kernel_rfl
theorem cells58 : Try.prog.cellsOf 58 = 4 := by kernel_rfl
theorem cells25 : Try.prog.cellsOf 25 = 3 := by kernel_rfl
theorem cells3 : Try.prog.cellsOf 3 = 1 := by kernel_rfl
theorem open_snds {fuel : Nat} {cs : List Value} {x : DataW H × List MemPlace} (h : DataW.trod enc Try.prog w 0 spare held fuel 22 cs = some x) :
    ∃ (l : List Snd) (p : Option Addr) (c : Nat), cs = [.slice p l.length c] ∧ l.length ≤ maxLen ∧ (0 < l.length → ∃ b o, p = some ⟨b, o, none⟩ ∧ b < w.heap.size ∧ SndAt w b o l) := by
  rcases open_struct_slice Try.underlying22 Try.underlying62 (by kernel_rfl) (by rw [cells62]; rfl) h with rfl | ⟨a, len, cap, rfl, hc, hl, hf⟩
  · exact ⟨[], none, 0, rfl, by unfold maxLen; simp, fun h => by simp at h⟩
  · obtain ⟨l, hll, hp⟩ := list_of (P := fun i (s : Snd) => w.cell? (a.add (i * 3 + 0)) = some (.int .i64 s.well) ∧ w.cell? (a.add (i * 3 + 1)) = some (.int .i64 s.low) ∧ w.cell? (a.add (i * 3 + 2)) = some (.int .i64 s.high)) len fun i hi => by
      obtain ⟨v0, y0, n0, c0, t0⟩ := hf i hi 0 _ rfl
      obtain ⟨v1, y1, n1, c1, t1⟩ := hf i hi 1 _ rfl
      obtain ⟨v2, y2, n2, c2, t2⟩ := hf i hi 2 _ rfl
      obtain ⟨m0, e0, _⟩ := DataW.trod_int Try.underlying3 t0
      obtain ⟨m1, e1, _⟩ := DataW.trod_int Try.underlying3 t1
      obtain ⟨m2, e2, _⟩ := DataW.trod_int Try.underlying3 t2
      cases e0; cases e1; cases e2
      exact ⟨⟨m0, m1, m2⟩, c0, c1, c2⟩
    subst hll
    refine ⟨l, some a, cap, rfl, by omega, fun h0 => ?_⟩
    obtain ⟨z0, _, _⟩ := hp 0 h0
    rw [show a.add (0 * 3 + 0) = a by simp [Addr.add]] at z0
    obtain ⟨b, o, rfl, hb⟩ := addr_of z0
    refine ⟨b, o, rfl, hb, ⟨fun k hk => ?_, fun k hk => ?_, fun k hk => ?_⟩⟩
    · have := (hp k hk).1; rwa [add_at] at this
    · have := (hp k hk).2.1; rwa [add_at, ← Nat.add_assoc] at this
    · have := (hp k hk).2.2; rwa [add_at, ← Nat.add_assoc] at this
theorem open_slps {fuel : Nat} {cs : List Value} {x : DataW H × List MemPlace} (h : DataW.trod enc Try.prog w 0 spare held fuel 23 cs = some x) :
    ∃ (l : List Slp) (p : Option Addr) (c : Nat), cs = [.slice p l.length c] ∧ l.length ≤ maxLen ∧ (0 < l.length → ∃ b o, p = some ⟨b, o, none⟩ ∧ b < w.heap.size ∧ SlpAt w b o l) := by
  rcases open_struct_slice Try.underlying23 Try.underlying58 (by kernel_rfl) (by rw [cells58]; rfl) h with rfl | ⟨a, len, cap, rfl, hc, hl, hf⟩
  · exact ⟨[], none, 0, rfl, by unfold maxLen; simp, fun h => by simp at h⟩
  · obtain ⟨l, hll, hp⟩ := list_of (P := fun i (s : Slp) => w.cell? (a.add (i * 4 + 0)) = some (.int .i64 s.a) ∧ w.cell? (a.add (i * 4 + 1)) = some (.int .i64 s.b) ∧ w.cell? (a.add (i * 4 + 2)) = some (.int .i64 s.low) ∧ w.cell? (a.add (i * 4 + 3)) = some (.int .i64 s.high)) len fun i hi => by
      obtain ⟨v0, y0, n0, c0, t0⟩ := hf i hi 0 _ rfl
      obtain ⟨v1, y1, n1, c1, t1⟩ := hf i hi 1 _ rfl
      obtain ⟨v2, y2, n2, c2, t2⟩ := hf i hi 2 _ rfl
      obtain ⟨v3, y3, n3, c3, t3⟩ := hf i hi 3 _ rfl
      obtain ⟨m0, e0, _⟩ := DataW.trod_int Try.underlying3 t0
      obtain ⟨m1, e1, _⟩ := DataW.trod_int Try.underlying3 t1
      obtain ⟨m2, e2, _⟩ := DataW.trod_int Try.underlying3 t2
      obtain ⟨m3, e3, _⟩ := DataW.trod_int Try.underlying3 t3
      cases e0; cases e1; cases e2; cases e3
      exact ⟨⟨m0, m1, m2, m3⟩, c0, c1, c2, c3⟩
    subst hll
    refine ⟨l, some a, cap, rfl, by omega, fun h0 => ?_⟩
    obtain ⟨z0, _, _⟩ := hp 0 h0
    rw [show a.add (0 * 4 + 0) = a by simp [Addr.add]] at z0
    obtain ⟨b, o, rfl, hb⟩ := addr_of z0
    refine ⟨b, o, rfl, hb, ⟨fun k hk => ?_, fun k hk => ?_, fun k hk => ?_, fun k hk => ?_⟩⟩
    · have := (hp k hk).1; rwa [add_at] at this
    · have := (hp k hk).2.1; rwa [add_at, ← Nat.add_assoc] at this
    · have := (hp k hk).2.2.1; rwa [add_at, ← Nat.add_assoc] at this
    · have := (hp k hk).2.2.2; rwa [add_at, ← Nat.add_assoc] at this
set_option maxRecDepth 100000 in
/-- an argument that is a town -/
theorem open_town {r : Reach} {b0 : Nat} {v : Value} {d : DataW H} {ps : List MemPlace} (hv : Value.okWide Try.prog w r b0 25 v) (h : DataW.Trod enc Try.prog w 0 spare held 25 v d ps) :
    ∃ (T : Town) (p q : Option Addr) (c d' : Nat), v = .agg #[.int .i64 T.W, .slice p T.s.length c, .slice q T.r.length d'] ∧ TownIn w w.heap.size T p q ∧ T.s.length ≤ maxLen ∧ T.r.length ≤ maxLen := by
  obtain ⟨v0, v1, v2, y0, y1, y2, n, rfl, _, _, t0, t1, t2⟩ := open_agg3 Try.underlying25 (by kernel_rfl) cells25 hv h
  obtain ⟨W, e0, _⟩ := DataW.trod_int Try.underlying3 t0
  cases e0
  obtain ⟨s, p, c, e1, hs, h1⟩ := open_snds t1
  obtain ⟨l, q, d', e2, hr, h2⟩ := open_slps t2
  cases e1; cases e2
  exact ⟨⟨W, s, l⟩, p, q, c, d', rfl, ⟨h1, h2⟩, hs, hr⟩
set_option maxRecDepth 100000 in
/-- an argument that is a list of numbers -/
theorem open_list {v : Value} {d : DataW H} {ps : List MemPlace} {r : Reach} {b0 : Nat} (hv : Value.okWide Try.prog w r b0 26 v) (h : DataW.Trod enc Try.prog w 0 spare held 26 v d ps) : ∃ (l : List Int) (p : Option Addr) (c : Nat), v = .slice p l.length c ∧ l.length ≤ maxLen ∧ Ints w p l := by
  obtain ⟨a0, len, cap, rfl⟩ := okWide_slice Try.underlying26 hv
  obtain ⟨fuel, hf⟩ := h
  rcases open_ints Try.underlying26 Try.underlying3 cells3 hf with ⟨hcs, hx⟩ | ⟨a, len', cap', zs, hcs, _, hl, hm, hz, hx, hcell, hwz⟩
  · simp [Value.cells] at hcs
    obtain ⟨rfl, rfl, rfl⟩ := hcs
    exact ⟨[], none, 0, rfl, by unfold maxLen; simp, fun h => by simp at h⟩
  · simp [Value.cells] at hcs
    obtain ⟨rfl, rfl, rfl⟩ := hcs
    have hlz : len ≤ zs.length := by rw [hz]; split <;> omega
    have hlen : (zs.take len).length = len := by simp; omega
    refine ⟨zs.take len, some a, cap, by rw [hlen], by omega, fun h0 => ?_⟩
    rw [hlen] at h0
    have h1 := hcell 0 (by omega)
    rw [show a.add 0 = a by simp [Addr.add]] at h1
    obtain ⟨b, o, rfl, hb⟩ := addr_of h1
    refine ⟨b, o, rfl, hb, fun k hk => ?_⟩
    rw [hlen] at hk
    have h2 := hcell k (by omega)
    rw [add_at] at h2
    rw [h2, List.getElem?_take_of_lt hk]
    simp
end

set_option maxRecDepth 100000 in
theorem holds_lifted (os : Os) (started : os.Started) (H : Type) (enc : TypeId × Value → H) :
    ReturnsInHanded {} Try.checked os 3 .any (Rows.levelsHoldsSpec.pre6 enc Try.prog Try.f3 Rows.levelsHoldsRow.domain false) (Rows.levelsHoldsSpec.post enc Try.prog Try.f3 false true false false) := by
  refine returnsInHanded_of_change (C := Try.checked) own started (by kernel_rfl) Try.func3
    (ChangeSpec.witness6 (enc := enc) (C := Try.checked) false ⟨#[], #[.agg #[.int .i64 0, .slice none 0 0, .slice none 0 0], .slice none 0 0], []⟩ 8 (by kernel_rfl) (by kernel_rfl) (by kernel_rfl) (by kernel_rfl)) ?_
  intro W base args ds gs before hval0 hW hcnd _
  have hval : ∀ (j : Nat) t v, Try.f3.params[j]? = some t → args[j]? = some v → Value.okWide Try.prog W .any base t v := hval0
  have hW' := hW
  obtain ⟨p, q, hA0, hV, rfl, hfz, hnd⟩ := hW
  have hA : DataW.TrodAll enc Try.prog W 0 (fun _ => true) true Try.f3.params.toList args.toList ds p := hA0
  rw [Try.params3] at hA hval
  obtain ⟨v0, v1, d0, d1, p0, p1, rfl, rfl, rfl, h0, h1⟩ := trodAll_two hA
  obtain ⟨rfl, rfl⟩ := trodVars_none hV
  obtain ⟨T, tp, tq, tc, td, rfl, ht, _, _⟩ := open_town (hval 0 25 v0 rfl rfl) h0
  obtain ⟨l, lp, lc, rfl, hl, hi⟩ := open_list (hval 1 26 v1 rfl rfl) h1
  refine (holds_law T tp tq tc td l lp lc W (by unfold maxLen at hl; omega) ht hi).mono fun e W' ⟨he, hb⟩ => ?_
  subst he
  exact ⟨_, rfl, law_post (f := Try.f3) (s := Rows.levelsHoldsSpec) (by rw [Try.params3]; intro t ht; simp at ht; rcases ht with rfl | rfl <;> exact ⟨by kernel_rfl, of_decide_eq_true (by kernel_rfl)⟩) rfl hW' rfl (by kernel_rfl) hb⟩

theorem holds_holds : Rows.LevelsHoldsSaid :=
  OpenClaim.holds_of_wide 3 Try.f3 rfl rfl rfl rfl rfl rfl rfl ⟨rfl, rfl, rfl, rfl, rfl⟩ rfl rfl rfl rfl rfl (by kernel_rfl) Try.func3 (by kernel_rfl)
    (of_decide_eq_true (by kernel_rfl)) (by unfold Func.isWrapper; first | (rw [if_pos (by decide +kernel)]; kernel_rfl) | (rw [if_neg (by decide +kernel)]; exact ⟨rfl, rfl⟩))
    (fun os started H enc _ => holds_lifted os started H enc)
end Go.Proofs.Ytmfbfcknnjbabaa
