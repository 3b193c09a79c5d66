/- The evaluator's operations that leave the memory alone: all of them together. -/
import Derived.Test.YtegkgfiaegpihaaE5
set_option linter.unusedSimpArgs false
set_option linter.unusedVariables false
namespace Go.Proofs.Ytegkgfiaegpihaa
open Go

section
variable {P : Program} {ι : Nm} {w : World}

theorem lookupA_ok {h : AH} {t : TypeId} {ok : Bool} {x k v : AV} {x' k' : Value} (e : lookupA P h t ok x k = some v) (hh : HRel P ι h.objs.get w) (r : VRel ι x x') (rk : VRel ι k k') :
    ∃ v', (Instr.lookup t x' k' ok).run P w = .ok v' w ∧ VRel ι v v' := by
  cases x <;> simp only [lookupA] at e <;> first | cases e | skip
  rename_i b
  obtain ⟨⟨es, clock⟩, e1, e2⟩ := ob_eq.1 e
  obtain ⟨⟨kt, el⟩, e3, e4⟩ := ob_eq.1 e2
  obtain ⟨kv, e5, e6⟩ := ob_eq.1 e4
  obtain ⟨z, e7, rfl⟩ := mapFlat_eq e6
  obtain rfl := rk.unflat e5
  obtain ⟨c, g1, g2⟩ := hh.map (map?_eq e1)
  cases r with
  | mp _ c' hc =>
    rw [g1] at hc; cases hc
    refine ⟨z, ?_, .flat z⟩
    have hg : (getObj c.id).run P w = .ok (.map ⟨es⟩ clock) w := by simp [getObj, Sem.run, g2]
    have h2 := pureRun_run _ e7 w
    simp only [lookupSem, Sem.run_bind] at h2
    simp only [Instr.lookup, Sem.run_bind, run_und (mapOf_eq e3), Result.andThen_ok, hg, Sem.run_pure]
    have e1 : (⟨es⟩ : Array MapEntry).isEmpty = es.isEmpty := by cases es <;> rfl
    rw [e1]
    show ((Instr.checkKey es.isEmpty 10000 kt k').run P w).andThen _ = _
    cases hc : (Instr.checkKey es.isEmpty 10000 kt k').run P w with
    | halt hx w1 => rw [hc] at h2; cases h2
    | ok a w1 =>
      rw [hc] at h2
      simp only [Result.andThen_ok] at h2 ⊢
      cases hf : (Instr.findKey kt k' es).run P w1 with
      | halt hx w2 => rw [hf] at h2; cases h2
      | ok o w2 =>
        rw [hf] at h2
        simp only [Result.andThen_ok] at h2 ⊢
        cases o with
        | none => simpa using h2
        | some q => cases q; simpa using h2
theorem kindEq_eq {a b : IntKind} (h : kindEq a b = true) : a = b := by
  cases a <;> cases b <;> first | rfl | cases h
theorem intBin_ok {op : BinOp} {k : IntKind} {a b : Int} {t : TypeId} {x y : Operand} {v : Value} (e : intBin op k a b = some v) :
    (do eqGuard op t x y (.int k a) (.int k b); binOp op t (.int k a) (.int k b)).run P w = .ok v w := by
  cases op <;> simp only [intBin] at e <;> first | cases e | skip
  all_goals
    simp only [eqGuard, Bool.not_true, Bool.not_false, Bool.false_eq_true, if_false, if_true, binOp, ne_eq, not_true, Op.intArith, Op.intCmp, Sem.run_bind, Sem.run_pure, Result.andThen_ok]
    try rfl
theorem binGen_ok {op : BinOp} {t : TypeId} {x y : Operand} {a b : Value} {v : AV} (e : binGen P op t x y a b = some v) :
    ∃ z, (do eqGuard op t x y a b; binOp op t a b).run P w = .ok z w ∧ VRel ι v z := by
  obtain ⟨z, e1, rfl⟩ := mapFlat_eq e
  exact ⟨z, pureRun_run _ e1 w, .flat z⟩
theorem binFlat_ok {op : BinOp} {t : TypeId} {x y : Operand} {a b : Value} {v : AV} (e : binFlat P op t x y a b = some v) :
    ∃ z, (do eqGuard op t x y a b; binOp op t a b).run P w = .ok z w ∧ VRel ι v z := by
  unfold binFlat at e
  split at e
  · rename_i k m k' n
    rcases cnd_of e with ⟨e1, e2⟩ | ⟨_, e2⟩
    · obtain rfl := kindEq_eq e1
      cases hi : intBin op k m n with
      | none => rw [hi] at e2; exact binGen_ok e2
      | some u => rw [hi] at e2; cases e2; exact ⟨u, intBin_ok hi, .flat u⟩
    · exact binGen_ok e2
  · exact binGen_ok e
theorem equal_slice {t el : TypeId} (h : P.underlying t = some (.slice el)) (a : Addr) (n k m l : Nat) :
    (Op.equal t (.slice (some a) n k) (.slice none m l)).run P w = .ok false w ∧ (Op.equal t (.slice none m l) (.slice (some a) n k)).run P w = .ok false w := by
  constructor
  · rw [show Op.equal t (.slice (some a) n k) (.slice none m l) = Op.equalIn (9999 + 1) t (.slice (some a) n k) (.slice none m l) from rfl, Op.equalIn]
    simp only [Sem.run_bind, run_und h, Result.andThen_ok]; rfl
  · rw [show Op.equal t (.slice none m l) (.slice (some a) n k) = Op.equalIn (9999 + 1) t (.slice none m l) (.slice (some a) n k) from rfl, Op.equalIn]
    simp only [Sem.run_bind, run_und h, Result.andThen_ok]; rfl
theorem equal_ptr {t el : TypeId} (h : P.underlying t = some (.pointer el)) (a : Addr) :
    (Op.equal t (.pointer (some a)) (.pointer none)).run P w = .ok false w ∧ (Op.equal t (.pointer none) (.pointer (some a))).run P w = .ok false w := by
  constructor
  · rw [show Op.equal t (.pointer (some a)) (.pointer none) = Op.equalIn (9999 + 1) t (.pointer (some a)) (.pointer none) from rfl, Op.equalIn]
    simp only [Sem.run_bind, run_und h, Result.andThen_ok]; rfl
  · rw [show Op.equal t (.pointer none) (.pointer (some a)) = Op.equalIn (9999 + 1) t (.pointer none) (.pointer (some a)) from rfl, Op.equalIn]
    simp only [Sem.run_bind, run_und h, Result.andThen_ok]; rfl
theorem equal_map {t kt el : TypeId} (h : P.underlying t = some (.map kt el)) (a : Nat) :
    (Op.equal t (.map (some a)) (.map none)).run P w = .ok false w ∧ (Op.equal t (.map none) (.map (some a))).run P w = .ok false w := by
  constructor
  · rw [show Op.equal t (.map (some a)) (.map none) = Op.equalIn (9999 + 1) t (.map (some a)) (.map none) from rfl, Op.equalIn]
    simp only [Sem.run_bind, run_und h, Result.andThen_ok]; rfl
  · rw [show Op.equal t (.map none) (.map (some a)) = Op.equalIn (9999 + 1) t (.map none) (.map (some a)) from rfl, Op.equalIn]
    simp only [Sem.run_bind, run_und h, Result.andThen_ok]; rfl
theorem eqNil_ok {t : TypeId} {a b : AV} {a' b' : Value} {r : Bool} (e : eqNil P t a b = some r) (ra : VRel ι a a') (rb : VRel ι b b') (x y : Operand) :
    (do eqGuard .eql t x y a' b'; binOp .eql t a' b').run P w = .ok (.bool r) w ∧ (do eqGuard .neq t x y a' b'; binOp .neq t a' b').run P w = .ok (.bool (!r)) w := by
  unfold eqNil at e
  split at e <;> first | cases e | skip
  · obtain ⟨el, e1, e2⟩ := ob_eq.1 e
    cases e2; cases ra; cases rb
    simp [eqGuard, binOp, (equal_slice (w := w) (sliceElem_eq e1) _ _ _ _ _).1]
  · obtain ⟨el, e1, e2⟩ := ob_eq.1 e
    cases e2; cases ra; cases rb
    simp [eqGuard, binOp, (equal_slice (w := w) (sliceElem_eq e1) _ _ _ _ _).2]
  · obtain ⟨el, e1, e2⟩ := ob_eq.1 e
    cases e2; cases ra; cases rb
    simp [eqGuard, binOp, (equal_ptr (w := w) (pointerOf_eq e1) _).1]
  · obtain ⟨el, e1, e2⟩ := ob_eq.1 e
    cases e2; cases ra; cases rb
    simp [eqGuard, binOp, (equal_ptr (w := w) (pointerOf_eq e1) _).2]
  · obtain ⟨⟨el, el2⟩, e1, e2⟩ := ob_eq.1 e
    cases e2; cases ra; cases rb
    simp [eqGuard, binOp, (equal_map (w := w) (mapOf_eq e1) _).1]
  · obtain ⟨⟨el, el2⟩, e1, e2⟩ := ob_eq.1 e
    cases e2; cases ra; cases rb
    simp [eqGuard, binOp, (equal_map (w := w) (mapOf_eq e1) _).2]
theorem binNil_ok {op : BinOp} {t : TypeId} {a b v : AV} {a' b' : Value} (e : binNil P op t a b = some v) (ra : VRel ι a a') (rb : VRel ι b b') (x y : Operand) :
    ∃ z, (do eqGuard op t x y a' b'; binOp op t a' b').run P w = .ok z w ∧ VRel ι v z := by
  obtain ⟨q, e1, e2⟩ := ob_eq.1 e
  obtain ⟨r, e3, e4⟩ := ob_eq.1 e2
  cases e4
  obtain ⟨h1, h2⟩ := eqNil_ok (w := w) e3 ra rb x y
  cases op <;> simp only [eqlOp] at e1 <;> first | cases e1 | skip
  · exact ⟨_, h1, .flat _⟩
  · exact ⟨_, h2, .flat _⟩
theorem binA_ok {op : BinOp} {t : TypeId} {x y : Operand} {a b v : AV} {a' b' : Value} (e : binA P op t x y a b = some v) (ra : VRel ι a a') (rb : VRel ι b b') :
    ∃ z, (do eqGuard op t x y a' b'; binOp op t a' b').run P w = .ok z w ∧ VRel ι v z := by
  unfold binA at e
  cases ha : a.unflat with
  | none => rw [ha] at e; exact binNil_ok e ra rb x y
  | some u =>
    rw [ha] at e
    simp only [optCase_some] at e
    cases hb : b.unflat with
    | none => rw [hb] at e; exact binNil_ok e ra rb x y
    | some s =>
      rw [hb] at e
      rw [ra.unflat ha, rb.unflat hb]
      exact binFlat_ok e
theorem valMethod_eq {t : TypeId} {name : String} {f : FuncId} (e : valMethod P t name = some f) :
    ∃ i m d, P.info? t = some i ∧ i.methods.find? (·.name == name) = some m ∧ m.path.toList = [] ∧ m.func = some (f, false) ∧ P.underlying t = some d ∧ ptrDesc d = false := by
  unfold valMethod at e
  obtain ⟨i, e1, e⟩ := ob_eq.1 e
  obtain ⟨m, e2, e⟩ := ob_eq.1 e
  rcases cnd_of e with ⟨e3, e⟩ | ⟨_, e⟩
  · unfold okFunc at e
    split at e
    · rename_i g hg
      obtain ⟨d, e4, e⟩ := ob_eq.1 e
      rcases cnd_of e with ⟨_, e⟩ | ⟨e5, e⟩
      · cases e
      · cases e
        refine ⟨i, m, d, e1, by rw [← Array.find?_toList]; exact e2, ?_, hg, e4, e5⟩
        cases hm : m.path.toList with
        | nil => rfl
        | cons a b => rw [hm] at e3; cases e3
    · cases e
  · cases e
theorem run_valMethod {t : TypeId} {name : String} {f : FuncId} (e : valMethod P t name = some f) (n : Nat) (v : Value) : (method (n + 1) t v name).run P w = .ok (f, v) w := by
  obtain ⟨i, m, d, e1, e2, e3, e4, e5, e6⟩ := valMethod_eq e
  simp only [method, Sem.run_bind, run_info e1, Result.andThen_ok, e2, e3, follow, Sem.run_pure, e4]
  cases d <;> first | (cases e6; done) | simp [receiverAt, run_und e5, Place.get]
theorem run_nilAhead {t : TypeId} {name : String} {f : FuncId} (e : valMethod P t name = some f) (n : Nat) (v : Value) : (nilAhead (n + 1) t v name).run P w = .ok (some false) w := by
  obtain ⟨i, m, d, e1, e2, e3, e4, e5, e6⟩ := valMethod_eq e
  simp only [nilAhead, Sem.run_bind, run_info e1, Result.andThen_ok, e2, e3, followBlind, Sem.run_pure, e4]
  cases d <;> first | (cases e6; done) | simp [run_und e5]
theorem nilCheckA_ok {ρ' : Operand → Value} {y : Operand} {x v : AV} {o : Oper} (ho : o.op = .nilCheck y) (e : nilCheckA P x = some v) (r : VRel ι x (ρ' y)) :
    ∃ v', (execOp ρ' o).run P w = .ok (.value v') w ∧ VRel ι v v' := by
  generalize hx : ρ' y = x' at r
  unfold nilCheckA at e
  split at e <;> first | cases e | skip
  · cases r with
    | ptr _ _ c hc => exact ⟨_, by simp [execOp, ho, hx], .ptr _ _ c hc⟩
  · cases r with
    | fn _ _ _ l r h1 h2 => exact ⟨_, by simp [execOp, ho, hx], .fn _ _ _ l r h1 h2⟩
  · unfold methNil at e
    split at e
    · obtain ⟨f, e1, e⟩ := ob_eq.1 e
      cases e
      cases r with
      | fn _ _ _ l r h1 h2 =>
        cases h1 with
        | cons _ u _ us h3 h4 =>
          cases h4
          cases h3 with
          | ifc t z u h5 =>
            exact ⟨_, by simp [execOp, ho, hx, Made.depth, run_nilAhead e1], .fn _ _ _ _ _ (.cons _ _ _ _ (.ifc _ _ _ h5) .nil) h2⟩
    · cases e
  · cases r; exact ⟨_, by simp [execOp, ho, hx], .flat _⟩
theorem funcA_ok {f : Fn} {first cap : List AV} {l r : List Value} (h1 : LRel ι first l) (h2 : LRel ι cap r) : VRel ι (funcA f first cap) (.func f ⟨l⟩ ⟨r⟩) := by
  unfold funcA
  cases ha : unflats first with
  | none => exact .fn _ _ _ _ _ h1 h2
  | some a =>
    simp only [optCase_some]
    cases hb : unflats cap with
    | none => exact .fn _ _ _ _ _ h1 h2
    | some b =>
      rw [h1.unflats ha, h2.unflats hb]
      exact .flat _
theorem ifaceA_ok {t : TypeId} {x v : AV} {x' : Value} (e : ifaceA P t x = some v) (r : VRel ι x x') :
    ∃ v', (Instr.makeInterface t x').run P w = .ok v' w ∧ VRel ι v v' := by
  obtain ⟨d, e1, e2⟩ := ob_eq.1 e
  rcases cnd_of e2 with ⟨_, e3⟩ | ⟨e4, e3⟩
  · cases e3
  · cases e3
    refine ⟨.iface t x', ?_, ?_⟩
    · simp only [Instr.makeInterface, Sem.run_bind, run_und e1, Result.andThen_ok]
      cases d <;> first | rfl | cases e4
    · cases hu : x.unflat with
      | none => exact .ifc _ _ _ r
      | some u => rw [r.unflat hu]; exact .flat _
theorem lensA_ok {h : AH} {t u : TypeId} {x v : AV} {x' : Value} (e : lensA P h t x = some v) (hh : HRel P ι h.objs.get w) (r : VRel ι x x') :
    ∃ v', (Builtin.len_ #[t] u #[x']).run P w = .ok v' w ∧ VRel ι v v' := by
  cases x <;> simp only [lensA] at e <;> first | cases e | skip
  · obtain ⟨z, e1, rfl⟩ := mapFlat_eq e
    cases r
    exact ⟨z, pureRun_run _ e1 w, .flat z⟩
  · obtain ⟨a, e1, e2⟩ := ob_eq.1 e
    obtain ⟨⟨n, el⟩, e3, e4⟩ := ob_eq.1 e2
    cases e4
    cases r
    exact ⟨goInt n, by simp [Builtin.len_, run_und (pointerOf_eq e1), run_und (arrayOf_eq e3)], .flat _⟩
  · obtain ⟨a, e1, e2⟩ := ob_eq.1 e
    cases e2
    cases r
    exact ⟨_, by simp [Builtin.len_, run_und (sliceElem_eq e1)], .flat _⟩
  · obtain ⟨⟨kt, el⟩, e1, e2⟩ := ob_eq.1 e
    obtain ⟨⟨es, clock⟩, e3, e4⟩ := ob_eq.1 e2
    cases e4
    obtain ⟨c, g1, g2⟩ := hh.map (map?_eq e3)
    cases r with
    | mp _ c' hc =>
      rw [g1] at hc; cases hc
      have hg : (getObj c.id).run P w = .ok (.map ⟨es⟩ clock) w := by simp [getObj, Sem.run, g2]
      exact ⟨_, by simp [Builtin.len_, run_und (mapOf_eq e1), hg, lenL_eq], .flat _⟩
  · obtain ⟨⟨n, el⟩, e3, e4⟩ := ob_eq.1 e
    cases e4
    refine ⟨goInt n, ?_, .flat _⟩
    simp only [Builtin.len_, Sem.run_bind, List.getElem?_toArray, List.getElem?_cons_zero, run_und (arrayOf_eq e3), Result.andThen_ok]
    cases x' <;> rfl
theorem run_builtin_len {ρ' : Operand → Value} {o : Oper} {c : Call} (ho : o.op = .call c) (hc : c.callee = .builtin .len) :
    (execOp ρ' o).run P w = ((Builtin.len_ c.argTypes o.type (c.args.map ρ')).run P w).andThen fun v w' => .ok (.value v) w' := by
  simp [execOp, ho, resolve, hc, invoke, builtin]
theorem run_builtin_min {ρ' : Operand → Value} {o : Oper} {c : Call} (ho : o.op = .call c) (hc : c.callee = .builtin .min) :
    (execOp ρ' o).run P w = ((Builtin.min_ c.argTypes o.type (c.args.map ρ')).run P w).andThen fun v w' => .ok (.value v) w' := by
  simp [execOp, ho, resolve, hc, invoke, builtin]
theorem run_builtin_max {ρ' : Operand → Value} {o : Oper} {c : Call} (ho : o.op = .call c) (hc : c.callee = .builtin .max) :
    (execOp ρ' o).run P w = ((Builtin.max_ c.argTypes o.type (c.args.map ρ')).run P w).andThen fun v w' => .ok (.value v) w' := by
  simp [execOp, ho, resolve, hc, invoke, builtin]
theorem mem_callee {c : Call} {o : Oper} (ho : o.op = .call c) {x : Operand} (h : x ∈ c.args) : x ∈ o.op.operands := by
  rw [ho]; simp [Op.operands, Call.operands, h]
theorem args_rel {ρ : Operand → AV} {ρ' : Operand → Value} {c : Call} {o : Oper} (ho : o.op = .call c) (hr : ∀ x ∈ o.op.operands, VRel ι (ρ x) (ρ' x)) :
    LRel ι (mapA ρ c.args.toList) (c.args.map ρ').toList := by
  rw [Array.toList_map]
  exact LRel.mapA fun x hx => hr x (mem_callee ho (by simpa using hx))
theorem pureCallA_ok {ρ : Operand → AV} {ρ' : Operand → Value} {h : AH} {o : Oper} {c : Call} {v : AV} (ho : o.op = .call c) (e : pureCallA P ρ h o.type c.args c.argTypes c.callee = some v)
    (hh : HRel P ι h.objs.get w) (hr : ∀ x ∈ o.op.operands, VRel ι (ρ x) (ρ' x)) : ∃ v', (execOp ρ' o).run P w = .ok (.value v') w ∧ VRel ι v v' := by
  have ha := args_rel ho hr
  generalize hx : mapA ρ c.args.toList = xs at ha
  cases hb : c.callee <;> rw [hb] at e <;> simp only [pureCallA] at e <;> first | cases e | skip
  rename_i b
  cases b <;> simp only [bltA] at e <;> first | cases e | skip
  · rw [run_builtin_len ho hb]
    rw [hx] at e
    unfold lenA at e
    split at e
    · rename_i v0 t0 h0
      have h1 : c.argTypes = #[t0] := by apply Array.ext'; simpa using h0
      cases ha' : (c.args.map ρ').toList with
      | nil => rw [ha'] at ha; cases ha
      | cons y ys =>
        rw [ha'] at ha
        cases ha with
        | cons _ _ _ _ r1 r2 =>
          cases r2
          have h2 : c.args.map ρ' = #[y] := by apply Array.ext'; simpa using ha'
          rw [h1, h2]
          obtain ⟨z, g1, g2⟩ := lensA_ok (u := o.type) e hh r1
          exact ⟨z, by rw [g1]; rfl, g2⟩
    · cases e
  · rw [run_builtin_max ho hb]
    rw [hx] at e
    obtain ⟨vs, e1, e2⟩ := ob_eq.1 e
    obtain ⟨z, e3, rfl⟩ := mapFlat_eq e2
    have h2 : c.args.map ρ' = ⟨vs⟩ := by apply Array.ext'; exact ha.unflats e1
    rw [h2, pureRun_run _ e3 w]
    exact ⟨z, rfl, .flat z⟩
  · rw [run_builtin_min ho hb]
    rw [hx] at e
    obtain ⟨vs, e1, e2⟩ := ob_eq.1 e
    obtain ⟨z, e3, rfl⟩ := mapFlat_eq e2
    have h2 : c.args.map ρ' = ⟨vs⟩ := by apply Array.ext'; exact ha.unflats e1
    rw [h2, pureRun_run _ e3 w]
    exact ⟨z, rfl, .flat z⟩

theorem run_v {s : Sem Value} {v : AV} (h : ∃ v', s.run P w = .ok v' w ∧ VRel ι v v') : ∃ v', (do pure (Next.value (← s)) : Sem Next).run P w = .ok (.value v') w ∧ VRel ι v v' := by
  obtain ⟨v', h1, h2⟩ := h
  exact ⟨v', by simp [h1], h2⟩
theorem flat_v {s : Sem Value} {a : AV} {v : AV} {a' : Value} {s' : Value → Sem Value} (r : VRel ι a a') (e : (ob a.unflat fun v => mapFlat (pureRun P (s' v))) = some v) :
    ∃ v', (s' a').run P w = .ok v' w ∧ VRel ι v v' := by
  obtain ⟨u, e1, e2⟩ := ob_eq.1 e
  obtain ⟨z, e3, rfl⟩ := mapFlat_eq e2
  rw [r.unflat e1]
  exact ⟨z, pureRun_run _ e3 w, .flat z⟩
theorem apureOp_ok {ρ : Operand → AV} {ρ' : Operand → Value} {h : AH} {o : Oper} {v : AV} (e : apureOp P ρ h o.type o.op = some v) (hh : HRel P ι h.objs.get w) (hr : ∀ x ∈ o.op.operands, VRel ι (ρ x) (ρ' x)) :
    ∃ v', (execOp ρ' o).run P w = .ok (.value v') w ∧ VRel ι v v' := by
  cases ho : o.op <;> rw [ho] at e hr <;> simp only [apureOp] at e <;> first | cases e | skip
  case move x => exact ⟨_, by simp [execOp, ho], hr x (by simp [Op.operands])⟩
  case assign x => exact ⟨_, by simp [execOp, ho], hr x (by simp [Op.operands])⟩
  case pick c a b =>
    have h1 := hr c (by simp [Op.operands]); have h2 := hr a (by simp [Op.operands]); have h3 := hr b (by simp [Op.operands])
    unfold pickA at e
    split at e
    · rename_i t ht
      rw [ht] at h1
      generalize hc : ρ' c = c' at h1
      cases h1
      cases e
      refine ⟨if t then ρ' a else ρ' b, by simp [execOp, ho, hc, asBool], ?_⟩
      cases t
      · exact h3
      · exact h2
    · cases e
  case build t parts =>
    have hp : PRel ι (mapParts ρ parts.toList) (parts.map fun (i, x) => (i, ρ' x)).toList := by
      rw [Array.toList_map]
      exact mapParts_rel fun x hx => hr x.2 (by simp [Op.operands]; exact ⟨x.1, by simpa using hx⟩)
    have := run_v (buildA_ok (w := w) e hp)
    simp only [execOp, ho]; exact this
  case load t a =>
    have := run_v (loadA_ok e hh (hr a (by simp [Op.operands])))
    simp only [execOp, ho]; exact this
  case nilCheck x => exact nilCheckA_ok ho e (hr x (by simp [Op.operands]))
  case binOp op t x y yt =>
    have := run_v (binA_ok (w := w) e (hr x (by simp [Op.operands])) (hr y (by simp [Op.operands])))
    simp only [execOp, ho]; exact this
  case unOp op t x =>
    have := run_v (flat_v (w := w) (s := pure .nilFunc) (s' := Op.unary op) (hr x (by simp [Op.operands])) e)
    simp only [execOp, ho]; exact this
  case convert s d x =>
    have := run_v (flat_v (w := w) (s := pure .nilFunc) (s' := convert s d) (hr x (by simp [Op.operands])) e)
    simp only [execOp, ho]; exact this
  case makeInterface t x =>
    have := run_v (ifaceA_ok (w := w) e (hr x (by simp [Op.operands])))
    simp only [execOp, ho]; exact this
  case makeFunc f first cap =>
    have h1 : LRel ι (mapA ρ first.toList) (first.map ρ').toList := by rw [Array.toList_map]; exact LRel.mapA fun x hx => hr x (by simp only [Op.operands, Array.mem_append]; left; simpa using hx)
    have h2 : LRel ι (mapA ρ cap.toList) (cap.map ρ').toList := by rw [Array.toList_map]; exact LRel.mapA fun x hx => hr x (by simp only [Op.operands, Array.mem_append]; right; simpa using hx)
    exact ⟨_, by simp only [execOp, ho, Instr.makeFunc]; rfl, funcA_ok h1 h2⟩
  case slice t x lo hi mx =>
    have := run_v (sliceOpA_ok (w := w) e (hr x (by simp [Op.operands])) (fun y hy => hr y (by simp [Op.operands, hy])) (fun y hy => hr y (by simp [Op.operands, hy])) (fun y hy => hr y (by simp [Op.operands, hy])))
    simp only [execOp, ho]; exact this
  case fieldAddr t x f =>
    have := run_v (fieldAddrA_ok (w := w) e (hr x (by simp [Op.operands])))
    simp only [execOp, ho]; exact this
  case field t x f =>
    have := run_v (fieldA_ok (w := w) e (hr x (by simp [Op.operands])))
    simp only [execOp, ho]; exact this
  case indexAddr t x ix =>
    have := run_v (indexAddrA_ok (w := w) e (hr x (by simp [Op.operands])) (hr ix (by simp [Op.operands])))
    simp only [execOp, ho]; exact this
  case index t x ix =>
    have := run_v (indexA_ok (w := w) e (hr x (by simp [Op.operands])) (hr ix (by simp [Op.operands])))
    simp only [execOp, ho]; exact this
  case lookup t x ix ok =>
    have := run_v (lookupA_ok e hh (hr x (by simp [Op.operands])) (hr ix (by simp [Op.operands])))
    simp only [execOp, ho]; exact this
  case typeAssert x t u ok =>
    have := run_v (flat_v (w := w) (s := pure .nilFunc) (s' := fun v => Instr.typeAssert v t u ok) (hr x (by simp [Op.operands])) e)
    simp only [execOp, ho]; exact this
  case extract x ix =>
    have := run_v (P := P) (extractA_ok (w := w) e (hr x (by simp [Op.operands])))
    simp only [execOp, ho]; exact this
  case call c => exact pureCallA_ok ho e hh (by rw [ho]; exact hr)
end
end Go.Proofs.Ytegkgfiaegpihaa
