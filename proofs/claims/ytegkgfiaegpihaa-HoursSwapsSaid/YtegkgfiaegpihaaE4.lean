/- The evaluator's operations that leave the memory alone: what they say is so. -/
import Derived.Test.YtegkgfiaegpihaaE3
set_option linter.unusedSimpArgs false
set_option linter.unusedVariables false
namespace Go.Proofs.Ytegkgfiaegpihaa
open Go

theorem pureRun_run {α : Type} {P : Program} : ∀ (s : Sem α) {a : α}, pureRun P s = some a → ∀ w, s.run P w = .ok a w := by
  intro s
  induction s with
  | pure a => intro b h w; simp [pureRun] at h; subst h; rfl
  | program k ih => intro b h w; simp only [pureRun] at h; simp only [Sem.run]; exact ih P h w
  | mark m k ih => intro b h w; simp only [pureRun] at h; simp only [Sem.run]; exact ih h w
  | choose q k ih =>
    intro b h w
    simp only [pureRun] at h
    split at h
    · rename_i hf; simp only [Sem.run, hf, if_true]; exact ih 0 h w
    · cases h
  | _ => intro b h w; simp [pureRun] at h
theorem mapFlat_eq {o : Option Value} {v : AV} (h : mapFlat o = some v) : ∃ u, o = some u ∧ v = .flat u := by
  obtain ⟨u, h1, h2⟩ := ob_eq.1 h
  cases h2
  exact ⟨u, h1, rfl⟩
theorem addr_add (b o j : Nat) : (⟨b, o, none⟩ : Addr).add j = ⟨b, o + j, none⟩ := by unfold Addr.add; split <;> simp_all

section
variable {P : Program} {ι : Nm} {w : World}

theorem run_und {t : TypeId} {d : TypeDesc} (h : P.underlying t = some d) : (underlying t).run P w = .ok d w := by simp [underlying, h]
theorem run_info {t : TypeId} {i : TypeInfo} (h : P.info? t = some i) : (typeInfo t).run P w = .ok i w := by simp [typeInfo, h]
theorem sizeB_eq {t : TypeId} {n : Nat} (h : sizeB P t = some n) : ∃ i, P.info? t = some i ∧ i.size = n := by
  obtain ⟨i, h1, h2⟩ := ob_eq.1 h
  exact ⟨i, h1, by simpa using h2⟩
theorem run_size {t : TypeId} {n : Nat} (h : sizeB P t = some n) : (sizeOf t).run P w = .ok n w := by
  obtain ⟨i, h1, rfl⟩ := sizeB_eq h
  simp [sizeOf, run_info h1]
theorem run_zero {t : TypeId} {z : Value} (h : zeroB P t = some z) : (zeroValue t).run P w = .ok z w := by
  obtain ⟨i, h1, h2⟩ := ob_eq.1 h
  simp [zeroValue, run_info h1, h2]
theorem run_isAgg {t : TypeId} {is : Bool} (h : isAggB P t = some is) : (isAgg t).run P w = .ok is w := by
  obtain ⟨d, h1, h2⟩ := ob_eq.1 h
  simp at h2
  subst h2
  simp only [isAgg, Sem.run_bind, run_und h1, Result.andThen_ok]
  cases d <;> rfl
theorem sliceElem_eq {t e : TypeId} (h : sliceElem P t = some e) : P.underlying t = some (.slice e) := by
  obtain ⟨d, h1, h2⟩ := ob_eq.1 h
  cases d <;> simp at h2
  rw [h1, h2]
theorem structOf_eq {t : TypeId} {fs : List Field} (h : structOf P t = some fs) : P.underlying t = some (.struct ⟨fs⟩) := by
  obtain ⟨d, h1, h2⟩ := ob_eq.1 h
  cases d <;> simp at h2
  rw [h1, ← h2]
theorem arrayOf_eq {t : TypeId} {n : Nat} {e : TypeId} (h : arrayOf P t = some (n, e)) : P.underlying t = some (.array n e) := by
  obtain ⟨d, h1, h2⟩ := ob_eq.1 h
  cases d <;> simp at h2
  rw [h1, h2.1, h2.2]
theorem mapOf_eq {t k e : TypeId} (h : mapOf P t = some (k, e)) : P.underlying t = some (.map k e) := by
  obtain ⟨d, h1, h2⟩ := ob_eq.1 h
  cases d <;> simp at h2
  rw [h1, h2.1, h2.2]
theorem pointerOf_eq {t e : TypeId} (h : pointerOf P t = some e) : P.underlying t = some (.pointer e) := by
  obtain ⟨d, h1, h2⟩ := ob_eq.1 h
  cases d <;> simp at h2
  rw [h1, h2]

/-- a variable of a type out of cells -/
theorem varOf_part {t : TypeId} {cs : List AV} {vs : List Value} {o : Nat} {v : AV} (h : varOf P t cs o = some v) (r : LRel ι cs vs) :
    ∃ v', (part t ⟨vs⟩ o).run P w = .ok v' w ∧ VRel ι v v' := by
  obtain ⟨is, h1, h2⟩ := ob_eq.1 h
  rcases cnd_of h2 with ⟨rfl, h3⟩ | ⟨rfl, h3⟩
  · obtain ⟨n, h4, h5⟩ := ob_eq.1 h3
    obtain ⟨l, h6, h7⟩ := ob_eq.1 h5
    cases h7
    obtain ⟨g1, g2⟩ := r.takeAt h6
    refine ⟨_, ?_, VRel.mkAg g2⟩
    simp only [part, Sem.run_bind, run_isAgg h1, run_size h4, Result.andThen_ok, if_true, Sem.run_pure]
    congr 2
    apply Array.ext'
    rw [Array.toList_extract, List.extract_eq_take_drop, Nat.add_sub_cancel_left]
  · rw [nth_eq] at h3
    obtain ⟨v', h4, h5⟩ := r.get h3
    refine ⟨v', ?_, h5⟩
    simp only [part, Sem.run_bind, run_isAgg h1, Result.andThen_ok, Bool.false_eq_true, if_false]
    have : (⟨vs⟩ : Array Value)[o]? = some v' := by simpa using h4
    rw [this]; rfl
theorem varOf_load {t : TypeId} {cs : List AV} {vs rest : List Value} {o id : Nat} {v : AV} {e : TypeId} {fz : Nat × Nat} (h : varOf P t cs o = some v) (r : LRel ι cs vs) (hw : w.heap[id]? = some (.cells ⟨vs ++ rest⟩ e fz)) :
    ∃ v', (loadVar t ⟨id, o, none⟩).run P w = .ok v' w ∧ VRel ι v v' := by
  have hcell : ∀ k v, vs[k]? = some v → w.cell? ⟨id, k, none⟩ = some v := by
    intro k v hk
    have hlt : k < vs.length := (List.getElem?_eq_some_iff.1 hk).1
    simp [World.cell?, hw, List.getElem?_append_left hlt, hk]
  obtain ⟨is, h1, h2⟩ := ob_eq.1 h
  rcases cnd_of h2 with ⟨rfl, h3⟩ | ⟨rfl, h3⟩
  · obtain ⟨n, h4, h5⟩ := ob_eq.1 h3
    obtain ⟨l, h6, h7⟩ := ob_eq.1 h5
    cases h7
    obtain ⟨g1, g2⟩ := r.takeAt h6
    refine ⟨_, ?_, VRel.mkAg g2⟩
    have hlen : ((vs.drop o).take n).length = n := by simp; omega
    have hl := run_loadCells_list (P := P) w ⟨id, o, none⟩ ((vs.drop o).take n) (fun j u hj => by
      rw [addr_add]
      refine hcell _ _ ?_
      rw [List.getElem?_take] at hj
      split at hj
      · simpa [List.getElem?_drop] using hj
      · cases hj)
    rw [hlen] at hl
    simp only [loadVar, Sem.run_bind, run_isAgg h1, run_size h4, Result.andThen_ok, if_true, hl, Sem.run_pure]
  · rw [nth_eq] at h3
    obtain ⟨v', h4, h5⟩ := r.get h3
    refine ⟨v', ?_, h5⟩
    simp only [loadVar, Sem.run_bind, run_isAgg h1, Result.andThen_ok, Bool.false_eq_true, if_false, run_load, hcell _ _ h4]

theorem cells?_eq {h : AH} {b : Nat} {x : List AV × TypeId} (e : h.cells? b = some x) : h.objs.get b = some (.cells x.1 x.2) := by
  obtain ⟨o, h1, h2⟩ := ob_eq.1 e
  cases o <;> simp [cellsOfObj] at h2
  rw [h1, ← h2]
theorem map?_eq {h : AH} {b : Nat} {x : List MapEntry × Nat} (e : h.map? b = some x) : h.objs.get b = some (.map x.1 x.2) := by
  obtain ⟨o, h1, h2⟩ := ob_eq.1 e
  cases o <;> simp [mapOfObj] at h2
  rw [h1, ← h2]
theorem HRel.cells {g : Nat → Option AObj} (hh : HRel P ι g w) {b : Nat} {cs : List AV} {e : TypeId} (h : g b = some (.cells cs e)) :
    ∃ c vs rest s, ι b = some c ∧ w.heap[c.id]? = some (.cells ⟨vs ++ rest⟩ e (0, 0)) ∧ LRel ι cs vs ∧ sizeB P e = some s ∧ vs.length + rest.length = c.cap * s := by
  obtain ⟨c, C, h1, h2, h3⟩ := hh.obj b _ h trivial
  cases C <;> first | exact h3.elim | skip
  obtain ⟨rfl, rfl, ⟨vs, rest, rfl, h4⟩, s, h5, h6⟩ := h3
  exact ⟨c, vs, rest, s, h1, h2, h4, h5, by simpa using h6⟩
theorem HRel.map {g : Nat → Option AObj} (hh : HRel P ι g w) {b : Nat} {es : List MapEntry} {k : Nat} (h : g b = some (.map es k)) :
    ∃ c, ι b = some c ∧ w.heap[c.id]? = some (.map ⟨es⟩ k) := by
  obtain ⟨c, C, h1, h2, h3⟩ := hh.obj b _ h trivial
  cases C <;> first | exact h3.elim | skip
  obtain ⟨rfl, rfl⟩ := h3
  exact ⟨c, h1, h2⟩

theorem loadA_ok {h : AH} {t : TypeId} {a v : AV} {u : Value} (e : loadA P h t a = some v) (hh : HRel P ι h.objs.get w) (r : VRel ι a u) :
    ∃ v', (Instr.loadAt t u).run P w = .ok v' w ∧ VRel ι v v' := by
  cases a <;> simp only [loadA] at e <;> first | cases e | skip
  · cases r
    unfold loadGlob at e
    split at e
    · rename_i g o
      obtain ⟨x, h1, h2⟩ := ob_eq.1 e
      obtain ⟨vs, h3, h4⟩ := ob_eq.1 h2
      unfold globOf at h3
      split at h3
      · rename_i g' vs'
        obtain ⟨h5, h6⟩ := cnd_eq.1 h3
        cases h6
        obtain ⟨c, C, k1, k2, k3⟩ := hh.obj g _ h1 trivial
        obtain ⟨rfl, ce, rfl⟩ := k3
        rw [beq_eq h5] at k2
        obtain ⟨v', h7, h8⟩ := varOf_load (ι := ι) (rest := []) h4 (LRel.flats vs) (by simpa using k2)
        exact ⟨v', by simpa [Instr.loadAt, Instr.sureAddr] using h7, h8⟩
      · cases h3
    · cases e
  obtain ⟨x, h1, h2⟩ := ob_eq.1 e
  obtain ⟨c, vs, rest, s, g1, g2, g3, _, _⟩ := hh.cells (cells?_eq h1)
  cases r with
  | ptr b o c' hc' =>
    rw [g1] at hc'; cases hc'
    obtain ⟨v', h3, h4⟩ := varOf_load h2 g3 g2
    exact ⟨v', by simpa [Instr.loadAt, Instr.sureAddr] using h3, h4⟩

/-! building values -/
inductive PRel (ι : Nm) : List (Nat × AV) → List (Nat × Value) → Prop
  | nil : PRel ι [] []
  | cons (i : Nat) (a : AV) (v : Value) (l : List (Nat × AV)) (m : List (Nat × Value)) : VRel ι a v → PRel ι l m → PRel ι ((i, a) :: l) ((i, v) :: m)
theorem lay_fold : ∀ (us : List Value) (off j : Nat) (vs : List Value), off + j + us.length ≤ vs.length →
    ((us.zipIdx j).foldl (fun (cs : Array Value) (p : Value × Nat) => cs.setIfInBounds (off + p.2) p.1) (⟨vs⟩ : Array Value)) = ⟨vs.take (off + j) ++ us ++ vs.drop (off + j + us.length)⟩
  | [], off, j, vs, h => by simp
  | u :: us, off, j, vs, h => by
    rw [List.zipIdx_cons, List.foldl_cons]
    have e1 : (⟨vs⟩ : Array Value).setIfInBounds (off + j) u = ⟨vs.set (off + j) u⟩ := by apply Array.ext'; simp
    simp only [e1]
    rw [lay_fold us off (j + 1) (vs.set (off + j) u) (by simp at h ⊢; omega)]
    have := list_seg_step vs (off + j) u us (by simp at h; omega)
    simp only [List.length_cons]
    rw [← this]
    congr 3
theorem lay_fill {v : Value} {cells : List Value} {off : Nat} (h : off + v.cells.toList.length ≤ cells.length) :
    (v.cells.zipIdx.foldl (fun cs (c, j) => cs.setIfInBounds (off + j) c) (⟨cells⟩ : Array Value)) = ⟨cells.take off ++ v.cells.toList ++ cells.drop (off + v.cells.toList.length)⟩ := by
  rw [← Array.foldl_toList, Array.toList_zipIdx]
  have := lay_fold v.cells.toList off 0 cells (by simpa using h)
  simpa using this
theorem fillA_ok {place : Nat → Option (Nat × Nat)} {pl' : Nat → Option (Nat × Nat)} (hp : ∀ i q, place i = some q → pl' i = some q) : ∀ {parts : List (Nat × AV)} {parts' : List (Nat × Value)} {cells r : List AV} {cells' : List Value},
    fillA place parts cells = some r → PRel ι parts parts' → LRel ι cells cells' →
    ∃ r', Instr.fill pl' ⟨cells'⟩ parts' = some ⟨r'⟩ ∧ LRel ι r r' ∧ r'.length = cells'.length
  | [], [], cells, r, cells', e, _, hc => by
    cases (show some cells = some r from e)
    exact ⟨cells', rfl, hc, rfl⟩
  | (i, v) :: parts, (i', v') :: parts', cells, r, cells', e, hpp, hc => by
    obtain ⟨rfl, h2, h3⟩ : i = i' ∧ VRel ι v v' ∧ PRel ι parts parts' := by cases hpp; exact ⟨rfl, ‹_›, ‹_›⟩
    have e' : ob (place i) (fun q => cnd (Nat.beq (lenL v.cells) q.2) (ob (Go.Proofs.Ytegkgfiaegpihaa.layAt cells q.1 v.cells) (fillA place parts)) none) = some r := e
    obtain ⟨⟨off, size⟩, e1, e2⟩ := ob_eq.1 e'
    obtain ⟨e3, e4⟩ := cnd_eq.1 e2
    obtain ⟨s, e5, e6⟩ := ob_eq.1 e4
    have hv := h2.cells
    obtain ⟨g1, g2⟩ := hc.layAt hv e5
    have hlen : v'.cells.size = size := by
      have := beq_eq e3
      rw [lenL_eq, hv.length] at this
      simpa using this
    obtain ⟨r', f1, f2, f3⟩ := fillA_ok hp e6 h3 g2
    refine ⟨r', ?_, f2, by rw [f3]; simp at g1 ⊢; omega⟩
    have g1' : off + v'.cells.toList.length ≤ cells'.length := g1
    simp only [Instr.fill, hp i _ e1]
    rw [if_neg (by simp at g1 ⊢; omega), lay_fill g1']
    exact f1
theorem mapParts_rel {ρ : Operand → AV} {ρ' : Operand → Value} : ∀ {l : List (Nat × Operand)}, (∀ x ∈ l, VRel ι (ρ x.2) (ρ' x.2)) →
    PRel ι (mapParts ρ l) (l.map fun (i, x) => (i, ρ' x))
  | [], _ => .nil
  | (i, x) :: l, h => .cons _ _ _ _ _ (h (i, x) (by simp)) (mapParts_rel fun y hy => h y (by simp [hy]))
theorem fieldPlaces_ok : ∀ {fs : List Field} {pl : List (Nat × Nat)}, fieldPlaces P fs = some pl → (fs.mapM (m := Sem) fun f => do pure (f.offset, ← sizeOf f.type)).run P w = .ok pl w
  | [], pl, e => by cases (show some [] = some pl from e); simp
  | f :: fs, pl, e => by
    have e' : ob (sizeB P f.type) (fun n => ob (fieldPlaces P fs) fun r => some ((f.offset, n) :: r)) = some pl := e
    obtain ⟨n, e1, e2⟩ := ob_eq.1 e'
    obtain ⟨r, e3, e4⟩ := ob_eq.1 e2
    cases e4
    have ih := fieldPlaces_ok e3
    simp only [List.mapM_cons, Sem.run_bind, run_size e1, Result.andThen_ok, Sem.run_pure, ih]
theorem buildA_ok {t : TypeId} {parts : List (Nat × AV)} {parts' : List (Nat × Value)} {v : AV} (e : buildA P t parts = some v) (hp : PRel ι parts parts') :
    ∃ v', (Instr.build t ⟨parts'⟩).run P w = .ok v' w ∧ VRel ι v v' := by
  obtain ⟨z, e1, e2⟩ := ob_eq.1 e
  obtain ⟨d, e3, e4⟩ := ob_eq.1 e2
  have hz : LRel ι (valCells z) z.cells.toList := valCells_rel z
  cases d <;> simp only [buildDesc] at e4 <;> first | cases e4 | skip
  · rename_i len el
    obtain ⟨n, e5, e6⟩ := ob_eq.1 e4
    obtain ⟨r, e7, e8⟩ := ob_eq.1 e6
    cases e8
    obtain ⟨r', f1, f2, _⟩ := fillA_ok (pl' := fun i => some (i * n, n)) (fun i q h => h) e7 hp hz
    have f1' : Instr.fill (fun i => some (i * n, n)) z.cells parts' = some ⟨r'⟩ := f1
    refine ⟨.agg ⟨r'⟩, ?_, VRel.mkAg f2⟩
    simp [Instr.build, run_zero e1, run_und e3, run_size e5, f1']
  · rename_i fs
    obtain ⟨pl, e5, e6⟩ := ob_eq.1 e4
    obtain ⟨r, e7, e8⟩ := ob_eq.1 e6
    cases e8
    obtain ⟨r', f1, f2, _⟩ := fillA_ok (pl' := fun i => (⟨pl⟩ : Array (Nat × Nat))[i]?) (fun i q h => by rw [nth_eq] at h; simpa using h) e7 hp hz
    have f1' : Instr.fill (fun i => (⟨pl⟩ : Array (Nat × Nat))[i]?) z.cells parts' = some ⟨r'⟩ := f1
    have hm : (fs.mapM (m := Sem) fun f => do pure (f.offset, ← sizeOf f.type)).run P w = .ok ⟨pl⟩ w := by
      have := fieldPlaces_ok (w := w) e5
      rw [Array.mapM_eq_mapM_toList]
      simp only [Sem.run_map, this, Result.andThen_ok]
    refine ⟨.agg ⟨r'⟩, ?_, VRel.mkAg f2⟩
    simp only [Instr.build, Sem.run_bind, run_zero e1, run_und e3, Result.andThen_ok, hm, f1', Sem.run_pure]
end
end Go.Proofs.Ytegkgfiaegpihaa
