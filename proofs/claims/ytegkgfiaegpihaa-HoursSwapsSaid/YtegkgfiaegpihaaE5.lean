/- The evaluator's operations that leave the memory alone: the rest of them. -/
import Derived.Test.YtegkgfiaegpihaaE4
set_option linter.unusedSimpArgs false
set_option linter.unusedVariables false
namespace Go.Proofs.Ytegkgfiaegpihaa
open Go

section
variable {P : Program} {ι : Nm} {w : World}

theorem optCase_some {α β : Type} (a : α) (d : β) (f : α → β) : optCase (some a) d f = f a := rfl
theorem optCase_none {α β : Type} (d : β) (f : α → β) : optCase none d f = d := rfl
theorem asIntOf_run {k : IntKind} {n : Int} : (asIntOf (.int k n)).run P w = .ok (k, n) w := rfl
theorem run_sliceBound_in {k : IntKind} {n y : Nat} {code : BoundsCode} (h : n ≤ y) : (Instr.sliceBound (.int k n) y code).run P w = .ok n w := by
  simp [Instr.sliceBound, asIntOf_run, h]

/-- a bound that is given or not -/
inductive BRel (ι : Nm) : Option AV → Option Value → Prop
  | none : BRel ι none none
  | some (a : AV) (v : Value) : VRel ι a v → BRel ι (some a) (some v)
theorem bRel_of {ρ : Operand → AV} {ρ' : Operand → Value} {o : Option Operand} (h : ∀ x, o = some x → VRel ι (ρ x) (ρ' x)) : BRel ι (omapA ρ o) (o.map ρ') := by
  cases o with
  | none => exact .none
  | some x => exact .some _ _ (h x rfl)
theorem boundA_some {a : AV} {v : Value} {d y n : Nat} (e : boundA (some a) d y = some n) (h : VRel ι a v) : ∃ k, v = .int k n ∧ n ≤ y := by
  have e' : ob (natOf a) (fun i => cnd (Nat.ble i y) (some i) none) = some n := e
  obtain ⟨i, e1, e2⟩ := ob_eq.1 e'
  obtain ⟨e3, e4⟩ := cnd_eq.1 e2
  cases e4
  obtain ⟨k, hk⟩ := h.natOf e1
  exact ⟨k, hk, ble_le e3⟩
theorem boundA_none {d y n : Nat} (e : boundA none d y = some n) : n = d := by simpa [boundA, optCase] using e.symm
theorem boundsA_ok {isS : Bool} {n c k : Nat} {ex : Bool} {lo hi mx : Option AV} {lo' hi' mx' : Option Value} {q : Nat × Nat × Nat × Bool}
    (e : boundsA n c ex lo hi mx = some q) (hck : c ≤ k) (hexk : ex = true → k = c) (hl : BRel ι lo lo') (hh : BRel ι hi hi') (hm : BRel ι mx mx') :
    ∃ m, (Instr.sliceBounds isS n k lo' hi' mx').run P w = .ok (q.1, q.2.1, m) w ∧ q.2.2.1 ≤ m ∧ (q.2.2.2 = true → m = q.2.2.1) ∧ (q.2.2.2 = false → m = k) := by
  obtain ⟨m, e1, e2⟩ := ob_eq.1 e
  obtain ⟨hgh, e3, e4⟩ := ob_eq.1 e2
  obtain ⟨l, e5, e6⟩ := ob_eq.1 e4
  cases e6
  cases hm with
  | none =>
    obtain rfl := boundA_none e1
    simp only [optCase_none] at e3
    refine ⟨k, ?_, hck, hexk, fun _ => rfl⟩
    cases hh with
    | none =>
      obtain rfl := boundA_none e3
      cases hl with
      | none => obtain rfl := boundA_none e5; simp [Instr.sliceBounds]
      | some a v r => obtain ⟨k1, rfl, h1⟩ := boundA_some e5 r; simp [Instr.sliceBounds, run_sliceBound_in h1]
    | some a v r =>
      obtain ⟨k2, rfl, h2⟩ := boundA_some e3 r
      cases hl with
      | none => obtain rfl := boundA_none e5; simp [Instr.sliceBounds, run_sliceBound_in (Nat.le_trans h2 hck)]
      | some a v r => obtain ⟨k1, rfl, h1⟩ := boundA_some e5 r; simp [Instr.sliceBounds, run_sliceBound_in h1, run_sliceBound_in (Nat.le_trans h2 hck)]
  | some x v r =>
    obtain ⟨km, rfl, h3⟩ := boundA_some e1 r
    simp only [optCase_some] at e3
    refine ⟨m, ?_, Nat.le_refl _, fun _ => rfl, fun h => by cases h⟩
    cases hh with
    | none => simp only [optCase_none] at e3; cases e3
    | some a v r =>
      simp only [optCase_some] at e3
      obtain ⟨k2, rfl, h2⟩ := boundA_some e3 r
      cases hl with
      | none => obtain rfl := boundA_none e5; simp [Instr.sliceBounds, run_sliceBound_in h2, run_sliceBound_in (Nat.le_trans h3 hck)]
      | some a v r => obtain ⟨k1, rfl, h1⟩ := boundA_some e5 r; simp [Instr.sliceBounds, run_sliceBound_in h1, run_sliceBound_in h2, run_sliceBound_in (Nat.le_trans h3 hck)]
theorem add_if (m l b o s : Nat) : (if m = l then (⟨b, o, none⟩ : Addr) else Addr.add ⟨b, o, none⟩ (l * s)) = ⟨b, cnd (Nat.beq m l) o (Nat.add o (Nat.mul l s)), none⟩ := by
  by_cases h : m = l
  · rw [if_pos h, beq_yes h]; rfl
  · rw [if_neg h, beq_no h, addr_add]; rfl

theorem sliceSl_ok {t : TypeId} {b o n c : Nat} {ex : Bool} {lo hi mx : Option AV} {lo' hi' mx' : Option Value} {v : AV} {u : Value} (e : sliceSl P t b o n c ex lo hi mx = some v)
    (r : VRel ι (.sl b o n c ex) u) (hl : BRel ι lo lo') (hh : BRel ι hi hi') (hm : BRel ι mx mx') :
    ∃ v', (Instr.sliceAt t u lo' hi' mx').run P w = .ok v' w ∧ VRel ι v v' := by
  obtain ⟨el, e1, e2⟩ := ob_eq.1 e
  obtain ⟨size, e3, e4⟩ := ob_eq.1 e2
  obtain ⟨⟨l, h, m, x⟩, e5, e6⟩ := ob_eq.1 e4
  cases r with
  | sl _ _ _ _ _ cc k hc h1 h2 h3 =>
    obtain ⟨mm, f1, f2, f3, f4⟩ := boundsA_ok (P := P) (w := w) (isS := true) e5 h2 h1 hl hh hm
    simp only at f1 f2 f3 f4 e6
    have hu := sliceElem_eq e1
    have hrun : (Instr.sliceAt t (.slice (some ⟨cc.id, o, none⟩) n k) lo' hi' mx').run P w = .ok (.slice (some ⟨cc.id, cnd (Nat.beq mm l) o (Nat.add o (Nat.mul l size)), none⟩) (h - l) (mm - l)) w := by
      simp only [Instr.sliceAt, Sem.run_bind, run_und hu, Result.andThen_ok, Instr.slice, f1, run_size e3, Sem.run_pure]
      rw [← add_if]
      simp only [Option.map_some]
      split <;> rfl
    refine ⟨_, hrun, ?_⟩
    rcases cnd_of e6 with ⟨rfl, e7⟩ | ⟨rfl, e7⟩
    · cases e7
      rw [f3 rfl]
      exact .sl _ _ _ _ _ cc _ hc (fun _ => rfl) (Nat.le_refl _) (fun h => by cases h)
    · have hmm := f4 rfl
      subst hmm
      rcases cnd_of e7 with ⟨e8, e9⟩ | ⟨e8, e9⟩
      · cases e9
        obtain rfl := beq_eq e8
        have ho : cnd (Nat.beq mm 0) o (Nat.add o (Nat.mul 0 size)) = o := by cases Nat.beq mm 0 <;> simp [cnd]
        rw [ho, Nat.sub_zero, Nat.sub_zero]
        rcases ex with _ | _
        · exact .sl _ _ _ _ _ cc _ hc (fun h => by cases h) f2 (fun _ => h3 rfl)
        · refine .sl _ _ _ _ _ cc _ hc (fun h => by cases h) f2 (fun _ ho => ?_)
          exfalso
          have : boundsA n c true lo hi mx = some (0, h, m, false) := e5
          obtain ⟨m', g1, g2⟩ := ob_eq.1 this
          obtain ⟨h', g3, g4⟩ := ob_eq.1 g2
          obtain ⟨l', g5, g6⟩ := ob_eq.1 g4
          cases mx <;> simp [optCase] at g6
      · obtain ⟨e10, e11⟩ := cnd_eq.1 e9
        rcases cnd_of e11 with ⟨_, e12⟩ | ⟨e13, e12⟩
        · cases e12
        · cases e12
          have hlm := ble_le e10
          have hb : Nat.beq mm l = false := beq_no (by omega)
          rw [hb]
          refine .sl _ _ _ _ _ cc _ hc (fun h => by cases h) (by simp; omega) (fun _ ho => ?_)
          exfalso
          have hs : size ≠ 0 := by rintro rfl; cases e13
          have hl0 : l ≠ 0 := by rintro rfl; cases e8
          have : l * size ≠ 0 := Nat.mul_ne_zero hl0 hs
          simp at ho; omega
theorem slicePtr_ok {t : TypeId} {b o : Nat} {lo hi mx : Option AV} {lo' hi' mx' : Option Value} {v : AV} {u : Value} (e : slicePtr P t b o lo hi mx = some v)
    (r : VRel ι (.ptr b o) u) (hl : BRel ι lo lo') (hh : BRel ι hi hi') (hm : BRel ι mx mx') :
    ∃ v', (Instr.sliceAt t u lo' hi' mx').run P w = .ok v' w ∧ VRel ι v v' := by
  obtain ⟨⟨n, el⟩, e1, e2⟩ := ob_eq.1 e
  obtain ⟨size, e3, e4⟩ := ob_eq.1 e2
  obtain ⟨⟨l, h, m, x⟩, e5, e6⟩ := ob_eq.1 e4
  cases e6
  cases r with
  | ptr _ _ cc hc =>
    obtain ⟨mm, f1, f2, f3, f4⟩ := boundsA_ok (P := P) (w := w) (isS := false) e5 (Nat.le_refl _) (fun _ => rfl) hl hh hm
    simp only at f1 f2 f3 f4
    have hmm : mm = m := by
      cases x
      · have := f4 rfl
        have h5 : boundsA n n true lo hi mx = some (l, h, m, false) := e5
        obtain ⟨m', g1, g2⟩ := ob_eq.1 h5
        obtain ⟨h', g3, g4⟩ := ob_eq.1 g2
        obtain ⟨l', g5, g6⟩ := ob_eq.1 g4
        cases mx <;> simp [optCase] at g6
      · exact f3 rfl
    subst hmm
    have hu := arrayOf_eq e1
    refine ⟨.slice (some ⟨cc.id, cnd (Nat.beq mm l) o (Nat.add o (Nat.mul l size)), none⟩) (h - l) (mm - l), ?_, .sl _ _ _ _ _ cc _ hc (fun _ => rfl) (Nat.le_refl _) (fun h => by cases h)⟩
    simp only [Instr.sliceAt, Sem.run_bind, run_und hu, Result.andThen_ok, Instr.sureAddr, f1, run_size e3, Sem.run_pure]
    rw [← add_if]
theorem sliceOpA_ok {ρ : Operand → AV} {ρ' : Operand → Value} {t : TypeId} {lo hi mx : Option Operand} {x v : AV} {u : Value} (e : sliceOpA P ρ t lo hi mx x = some v)
    (r : VRel ι x u) (hl : ∀ x, lo = some x → VRel ι (ρ x) (ρ' x)) (hh : ∀ x, hi = some x → VRel ι (ρ x) (ρ' x)) (hm : ∀ x, mx = some x → VRel ι (ρ x) (ρ' x)) :
    ∃ v', (Instr.sliceAt t u (lo.map ρ') (hi.map ρ') (mx.map ρ')).run P w = .ok v' w ∧ VRel ι v v' := by
  have hv : ∀ {o : Option Operand} {y : Option Value}, omapV ρ o = some y → (∀ x, o = some x → VRel ι (ρ x) (ρ' x)) → o.map ρ' = y := by
    intro o y h1 h2
    cases o with
    | none => cases (show some none = some y from h1); rfl
    | some x =>
      have h1' : ob (ρ x).unflat (fun v => some (some v)) = some y := h1
      obtain ⟨z, h3, h4⟩ := ob_eq.1 h1'
      cases h4
      simp [(h2 x rfl).unflat h3]
  cases x <;> simp only [sliceOpA] at e <;> first | cases e | skip
  · obtain ⟨lo1, e1, e2⟩ := ob_eq.1 e
    obtain ⟨hi1, e3, e4⟩ := ob_eq.1 e2
    obtain ⟨mx1, e5, e6⟩ := ob_eq.1 e4
    obtain ⟨z, e7, rfl⟩ := mapFlat_eq e6
    cases r
    rw [hv e1 hl, hv e3 hh, hv e5 hm]
    exact ⟨z, pureRun_run _ e7 w, .flat z⟩
  · exact slicePtr_ok e r (bRel_of hl) (bRel_of hh) (bRel_of hm)
  · exact sliceSl_ok e r (bRel_of hl) (bRel_of hh) (bRel_of hm)

theorem indexAddrA_ok {t : TypeId} {x ix v : AV} {x' ix' : Value} (e : indexAddrA P t x ix = some v) (r : VRel ι x x') (ri : VRel ι ix ix') :
    ∃ v', (Instr.indexAt t x' ix').run P w = .ok v' w ∧ VRel ι v v' := by
  obtain ⟨i, e1, e2⟩ := ob_eq.1 e
  obtain ⟨k, rfl⟩ := ri.natOf e1
  cases x <;> simp only at e2 <;> first | cases e2 | skip
  · obtain ⟨u, e3, e4⟩ := ob_eq.1 e2
    obtain ⟨v', e5, rfl⟩ := mapFlat_eq e4
    obtain rfl := ri.unflat e3
    cases r
    exact ⟨v', pureRun_run _ e5 w, .flat _⟩
  · rename_i b o
    obtain ⟨⟨n, el⟩, e3, e4⟩ := ob_eq.1 e2
    obtain ⟨size, e5, e6⟩ := ob_eq.1 e4
    obtain ⟨e7, e8⟩ := cnd_eq.1 e6
    cases e8
    have hlt := ble_le e7
    cases r with
    | ptr _ _ c hc =>
      refine ⟨.pointer (some ⟨c.id, o + i * size, none⟩), ?_, .ptr _ _ c hc⟩
      have h1 : (0 : Int) ≤ (i : Int) ∧ (i : Int) < (n : Int) := ⟨by omega, by simp at hlt; omega⟩
      simp [Instr.indexAt, asIntOf_run, run_und (arrayOf_eq e3), Instr.sureAddr, h1, run_size e5, addr_add]
  · rename_i b o n m ex
    obtain ⟨el, e3, e4⟩ := ob_eq.1 e2
    obtain ⟨size, e5, e6⟩ := ob_eq.1 e4
    obtain ⟨e7, e8⟩ := cnd_eq.1 e6
    cases e8
    have hlt := ble_le e7
    cases r with
    | sl _ _ _ _ _ c k hc _ _ _ =>
      refine ⟨.pointer (some ⟨c.id, o + i * size, none⟩), ?_, .ptr _ _ c hc⟩
      have h1 : (0 : Int) ≤ (i : Int) ∧ (i : Int) < (n : Int) := ⟨by omega, by simp at hlt; omega⟩
      simp [Instr.indexAt, asIntOf_run, run_und (sliceElem_eq e3), h1, run_size e5, addr_add]
theorem fieldAddrA_ok {s : TypeId} {f : Nat} {x v : AV} {x' : Value} (e : fieldAddrA P s f x = some v) (r : VRel ι x x') :
    ∃ v', (Instr.fieldAt s x' f).run P w = .ok v' w ∧ VRel ι v v' := by
  cases x <;> simp only [fieldAddrA] at e <;> first | cases e | skip
  · obtain ⟨v', e5, rfl⟩ := mapFlat_eq e
    cases r
    exact ⟨v', pureRun_run _ e5 w, .flat _⟩
  rename_i b o
  obtain ⟨fs, e1, e2⟩ := ob_eq.1 e
  obtain ⟨fd, e3, e4⟩ := ob_eq.1 e2
  obtain ⟨n, e5, e6⟩ := ob_eq.1 e4
  rcases cnd_of e6 with ⟨_, e7⟩ | ⟨e8, e7⟩
  · cases e7
  · cases e7
    have hn : n ≠ 0 := by rintro rfl; cases e8
    rw [nth_eq] at e3
    cases r with
    | ptr _ _ c hc =>
      refine ⟨.pointer (some ⟨c.id, o + fd.offset, none⟩), ?_, .ptr _ _ c hc⟩
      have h3 : (⟨fs⟩ : Array Field)[f]? = some fd := by simpa using e3
      simp only [Instr.fieldAt, Sem.run_bind, run_und (structOf_eq e1), Result.andThen_ok]
      rw [h3]
      simp [Instr.sureAddr, fieldPlace, run_size e5, hn, addr_add]
theorem aggCells_ok {x : AV} {cs : List AV} {x' : Value} (e : aggCells x = some cs) (r : VRel ι x x') : ∃ vs, x' = .agg ⟨vs⟩ ∧ LRel ι cs vs := by
  cases r <;> simp only [aggCells] at e <;> first | cases e | skip
  · split at e <;> cases e
    · rename_i h; cases h
    · rename_i h; cases h; exact ⟨_, rfl, LRel.flats _⟩
  · rename_i h; exact ⟨_, rfl, h⟩
theorem fieldA_ok {t : TypeId} {f : Nat} {x v : AV} {x' : Value} (e : fieldA P t f x = some v) (r : VRel ι x x') :
    ∃ v', (Instr.field t x' f).run P w = .ok v' w ∧ VRel ι v v' := by
  obtain ⟨fs, e1, e2⟩ := ob_eq.1 e
  obtain ⟨fd, e3, e4⟩ := ob_eq.1 e2
  obtain ⟨cs, e5, e6⟩ := ob_eq.1 e4
  obtain ⟨vs, rfl, hr⟩ := aggCells_ok e5 r
  rw [nth_eq] at e3
  obtain ⟨v', h1, h2⟩ := varOf_part (w := w) e6 hr
  refine ⟨v', ?_, h2⟩
  have h3 : (⟨fs⟩ : Array Field)[f]? = some fd := by simpa using e3
  simp only [Instr.field, Sem.run_bind, run_und (structOf_eq e1), Result.andThen_ok]
  rw [h3]
  simp only [Sem.run_bind, asAgg, Sem.run_pure, Result.andThen_ok]
  exact h1
theorem indexA_ok {t : TypeId} {x ix v : AV} {x' ix' : Value} (e : indexA P t x ix = some v) (r : VRel ι x x') (ri : VRel ι ix ix') :
    ∃ v', (Instr.index t x' ix').run P w = .ok v' w ∧ VRel ι v v' := by
  unfold indexA at e
  split at e
  · obtain ⟨i, e1, e2⟩ := ob_eq.1 e
    obtain ⟨z, e3, rfl⟩ := mapFlat_eq e2
    cases r
    rw [ri.unflat e1]
    exact ⟨z, pureRun_run _ e3 w, .flat z⟩
  · obtain ⟨i, e1, e2⟩ := ob_eq.1 e
    obtain ⟨⟨n, el⟩, e3, e4⟩ := ob_eq.1 e2
    obtain ⟨size, e5, e6⟩ := ob_eq.1 e4
    obtain ⟨cs, e7, e8⟩ := ob_eq.1 e6
    obtain ⟨e9, e10⟩ := cnd_eq.1 e8
    obtain ⟨k, rfl⟩ := ri.natOf e1
    obtain ⟨vs, rfl, hr⟩ := aggCells_ok e7 r
    obtain ⟨v', h1, h2⟩ := varOf_part (w := w) e10 hr
    refine ⟨v', ?_, h2⟩
    have hlt := ble_le e9
    have h3 : (0 : Int) ≤ (i : Int) ∧ (i : Int) < (n : Int) := ⟨by omega, by simp at hlt; omega⟩
    simp only [Instr.index, Sem.run_bind, asIntOf_run, run_und (arrayOf_eq e3), Result.andThen_ok, h3, and_self, if_true, run_size e5]
    exact h1
theorem extractA_ok {ix : Nat} {x v : AV} {x' : Value} (e : extractA ix x = some v) (r : VRel ι x x') :
    ∃ v', (Instr.extract x' ix).run P w = .ok v' w ∧ VRel ι v v' := by
  have key : ∀ {l : List AV} {vs : List Value}, nth l ix = some v → LRel ι l vs → ∃ v', (Instr.extract (.tuple ⟨vs⟩) ix).run P w = .ok v' w ∧ VRel ι v v' := by
    intro l vs h1 h2
    rw [nth_eq] at h1
    obtain ⟨v', h3, h4⟩ := h2.get h1
    refine ⟨v', ?_, h4⟩
    have h5 : (⟨vs⟩ : Array Value)[ix]? = some v' := by simpa using h3
    simp only [Instr.extract]
    rw [h5]; rfl
  unfold extractA at e
  split at e
  · cases r with
    | tp vs l h => exact key e h
  · cases r; exact key e (LRel.flats _)
  · cases e
end
end Go.Proofs.Ytegkgfiaegpihaa
