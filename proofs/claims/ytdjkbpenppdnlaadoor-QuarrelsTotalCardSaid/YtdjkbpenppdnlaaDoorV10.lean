/- The evaluator's operations that leave the memory alone: all of them together. What a step does to the evaluator's memory and the world's, and the operations that make a block. The operations that write or call: what the evaluator says of them is so. The operations that write or call: all of them together. Operations one after the other, in order. -/
import Derived.Test.YtdjkbpenppdnlaaDoorV5

import Derived.Laws.NewFold

import Derived.Laws.BitsLemmas

import Derived.Laws.AppendOwn

import Derived.LoopNIn

import Derived.OrdersIn

import Derived.RangeFuncNested

set_option linter.unusedSimpArgs false

set_option linter.unusedVariables false

namespace Go.Proofs.YtdjkbpenppdnlaaDoor

open Go

section

variable {P : Program} {ι : Nm} {w : World}

theorem lookupA_ok {h : AH} {t : TypeId} {ok : Bool} {x k v : AV} {x' k' : Value} (e : lookupA P h t ok x k = some v) (hh : HRel P ι h.objs.get w) (r : VRel ι x x') (rk : VRel ι k k') :
    ∃ v', (Instr.lookup t x' k' ok).run P w = .ok v' w ∧ VRel ι v v' := by
  cases x <;> simp only [lookupA] at e <;> first | cases e | skip
  rename_i b
  obtain ⟨⟨es, clock⟩, e1, e2⟩ := ob_eq.1 e
  obtain ⟨⟨kt, el⟩, e3, e4⟩ := ob_eq.1 e2
  obtain ⟨kv, e5, e6⟩ := ob_eq.1 e4
  obtain ⟨z, e7, rfl⟩ := mapFlat_eq e6
  obtain rfl := rk.unflat e5
  obtain ⟨c, g1, g2⟩ := hh.map (map?_eq e1)
  cases r with
  | mp _ c' hc =>
    rw [g1] at hc; cases hc
    refine ⟨z, ?_, .flat z⟩
    have hg : (getObj c.id).run P w = .ok (.map ⟨es⟩ clock) w := by simp [getObj, Sem.run, g2]
    have h2 := pureRun_run _ e7 w
    simp only [lookupSem, Sem.run_bind] at h2
    simp only [Instr.lookup, Sem.run_bind, run_und (mapOf_eq e3), Result.andThen_ok, hg, Sem.run_pure]
    have e1 : (⟨es⟩ : Array MapEntry).isEmpty = es.isEmpty := by cases es <;> rfl
    rw [e1]
    show ((Instr.checkKey es.isEmpty 10000 kt k').run P w).andThen _ = _
    cases hc : (Instr.checkKey es.isEmpty 10000 kt k').run P w with
    | halt hx w1 => rw [hc] at h2; cases h2
    | ok a w1 =>
      rw [hc] at h2
      simp only [Result.andThen_ok] at h2 ⊢
      cases hf : (Instr.findKey kt k' es).run P w1 with
      | halt hx w2 => rw [hf] at h2; cases h2
      | ok o w2 =>
        rw [hf] at h2
        simp only [Result.andThen_ok] at h2 ⊢
        cases o with
        | none => simpa using h2
        | some q => cases q; simpa using h2
theorem kindEq_eq {a b : IntKind} (h : kindEq a b = true) : a = b := by
  cases a <;> cases b <;> first | rfl | cases h
theorem intBin_ok {op : BinOp} {k : IntKind} {a b : Int} {t : TypeId} {x y : Operand} {v : Value} (e : intBin op k a b = some v) :
    (do eqGuard op t x y (.int k a) (.int k b); binOp op t (.int k a) (.int k b)).run P w = .ok v w := by
  cases op <;> simp only [intBin] at e <;> first | cases e | skip
  all_goals
    simp only [eqGuard, Bool.not_true, Bool.not_false, Bool.false_eq_true, if_false, if_true, binOp, ne_eq, not_true, Op.intArith, Op.intCmp, Sem.run_bind, Sem.run_pure, Result.andThen_ok]
    try rfl
theorem binGen_ok {op : BinOp} {t : TypeId} {x y : Operand} {a b : Value} {v : AV} (e : binGen P op t x y a b = some v) :
    ∃ z, (do eqGuard op t x y a b; binOp op t a b).run P w = .ok z w ∧ VRel ι v z := by
  obtain ⟨z, e1, rfl⟩ := mapFlat_eq e
  exact ⟨z, pureRun_run _ e1 w, .flat z⟩
theorem binFlat_ok {op : BinOp} {t : TypeId} {x y : Operand} {a b : Value} {v : AV} (e : binFlat P op t x y a b = some v) :
    ∃ z, (do eqGuard op t x y a b; binOp op t a b).run P w = .ok z w ∧ VRel ι v z := by
  unfold binFlat at e
  split at e
  · rename_i k m k' n
    rcases cnd_of e with ⟨e1, e2⟩ | ⟨_, e2⟩
    · obtain rfl := kindEq_eq e1
      cases hi : intBin op k m n with
      | none => rw [hi] at e2; exact binGen_ok e2
      | some u => rw [hi] at e2; cases e2; exact ⟨u, intBin_ok hi, .flat u⟩
    · exact binGen_ok e2
  · exact binGen_ok e
theorem equal_slice {t el : TypeId} (h : P.underlying t = some (.slice el)) (a : Addr) (n k m l : Nat) :
    (Op.equal t (.slice (some a) n k) (.slice none m l)).run P w = .ok false w ∧ (Op.equal t (.slice none m l) (.slice (some a) n k)).run P w = .ok false w := by
  constructor
  · rw [show Op.equal t (.slice (some a) n k) (.slice none m l) = Op.equalIn (9999 + 1) t (.slice (some a) n k) (.slice none m l) from rfl, Op.equalIn]
    simp only [Sem.run_bind, run_und h, Result.andThen_ok]; rfl
  · rw [show Op.equal t (.slice none m l) (.slice (some a) n k) = Op.equalIn (9999 + 1) t (.slice none m l) (.slice (some a) n k) from rfl, Op.equalIn]
    simp only [Sem.run_bind, run_und h, Result.andThen_ok]; rfl
theorem equal_ptr {t el : TypeId} (h : P.underlying t = some (.pointer el)) (a : Addr) :
    (Op.equal t (.pointer (some a)) (.pointer none)).run P w = .ok false w ∧ (Op.equal t (.pointer none) (.pointer (some a))).run P w = .ok false w := by
  constructor
  · rw [show Op.equal t (.pointer (some a)) (.pointer none) = Op.equalIn (9999 + 1) t (.pointer (some a)) (.pointer none) from rfl, Op.equalIn]
    simp only [Sem.run_bind, run_und h, Result.andThen_ok]; rfl
  · rw [show Op.equal t (.pointer none) (.pointer (some a)) = Op.equalIn (9999 + 1) t (.pointer none) (.pointer (some a)) from rfl, Op.equalIn]
    simp only [Sem.run_bind, run_und h, Result.andThen_ok]; rfl
theorem equal_map {t kt el : TypeId} (h : P.underlying t = some (.map kt el)) (a : Nat) :
    (Op.equal t (.map (some a)) (.map none)).run P w = .ok false w ∧ (Op.equal t (.map none) (.map (some a))).run P w = .ok false w := by
  constructor
  · rw [show Op.equal t (.map (some a)) (.map none) = Op.equalIn (9999 + 1) t (.map (some a)) (.map none) from rfl, Op.equalIn]
    simp only [Sem.run_bind, run_und h, Result.andThen_ok]; rfl
  · rw [show Op.equal t (.map none) (.map (some a)) = Op.equalIn (9999 + 1) t (.map none) (.map (some a)) from rfl, Op.equalIn]
    simp only [Sem.run_bind, run_und h, Result.andThen_ok]; rfl
theorem eqNil_ok {t : TypeId} {a b : AV} {a' b' : Value} {r : Bool} (e : eqNil P t a b = some r) (ra : VRel ι a a') (rb : VRel ι b b') (x y : Operand) :
    (do eqGuard .eql t x y a' b'; binOp .eql t a' b').run P w = .ok (.bool r) w ∧ (do eqGuard .neq t x y a' b'; binOp .neq t a' b').run P w = .ok (.bool (!r)) w := by
  unfold eqNil at e
  split at e <;> first | cases e | skip
  · obtain ⟨el, e1, e2⟩ := ob_eq.1 e
    cases e2; cases ra; cases rb
    simp [eqGuard, binOp, (equal_slice (w := w) (sliceElem_eq e1) _ _ _ _ _).1]
  · obtain ⟨el, e1, e2⟩ := ob_eq.1 e
    cases e2; cases ra; cases rb
    simp [eqGuard, binOp, (equal_slice (w := w) (sliceElem_eq e1) _ _ _ _ _).2]
  · obtain ⟨el, e1, e2⟩ := ob_eq.1 e
    cases e2; cases ra; cases rb
    simp [eqGuard, binOp, (equal_ptr (w := w) (pointerOf_eq e1) _).1]
  · obtain ⟨el, e1, e2⟩ := ob_eq.1 e
    cases e2; cases ra; cases rb
    simp [eqGuard, binOp, (equal_ptr (w := w) (pointerOf_eq e1) _).2]
  · obtain ⟨⟨el, el2⟩, e1, e2⟩ := ob_eq.1 e
    cases e2; cases ra; cases rb
    simp [eqGuard, binOp, (equal_map (w := w) (mapOf_eq e1) _).1]
  · obtain ⟨⟨el, el2⟩, e1, e2⟩ := ob_eq.1 e
    cases e2; cases ra; cases rb
    simp [eqGuard, binOp, (equal_map (w := w) (mapOf_eq e1) _).2]
theorem binNil_ok {op : BinOp} {t : TypeId} {a b v : AV} {a' b' : Value} (e : binNil P op t a b = some v) (ra : VRel ι a a') (rb : VRel ι b b') (x y : Operand) :
    ∃ z, (do eqGuard op t x y a' b'; binOp op t a' b').run P w = .ok z w ∧ VRel ι v z := by
  obtain ⟨q, e1, e2⟩ := ob_eq.1 e
  obtain ⟨r, e3, e4⟩ := ob_eq.1 e2
  cases e4
  obtain ⟨h1, h2⟩ := eqNil_ok (w := w) e3 ra rb x y
  cases op <;> simp only [eqlOp] at e1 <;> first | cases e1 | skip
  · exact ⟨_, h1, .flat _⟩
  · exact ⟨_, h2, .flat _⟩
theorem binA_ok {op : BinOp} {t : TypeId} {x y : Operand} {a b v : AV} {a' b' : Value} (e : binA P op t x y a b = some v) (ra : VRel ι a a') (rb : VRel ι b b') :
    ∃ z, (do eqGuard op t x y a' b'; binOp op t a' b').run P w = .ok z w ∧ VRel ι v z := by
  unfold binA at e
  cases ha : a.unflat with
  | none => rw [ha] at e; exact binNil_ok e ra rb x y
  | some u =>
    rw [ha] at e
    simp only [optCase_some] at e
    cases hb : b.unflat with
    | none => rw [hb] at e; exact binNil_ok e ra rb x y
    | some s =>
      rw [hb] at e
      rw [ra.unflat ha, rb.unflat hb]
      exact binFlat_ok e
theorem valMethod_eq {t : TypeId} {name : String} {f : FuncId} (e : valMethod P t name = some f) :
    ∃ i m d, P.info? t = some i ∧ i.methods.find? (·.name == name) = some m ∧ m.path.toList = [] ∧ m.func = some (f, false) ∧ P.underlying t = some d ∧ ptrDesc d = false := by
  unfold valMethod at e
  obtain ⟨i, e1, e⟩ := ob_eq.1 e
  obtain ⟨m, e2, e⟩ := ob_eq.1 e
  rcases cnd_of e with ⟨e3, e⟩ | ⟨_, e⟩
  · unfold okFunc at e
    split at e
    · rename_i g hg
      obtain ⟨d, e4, e⟩ := ob_eq.1 e
      rcases cnd_of e with ⟨_, e⟩ | ⟨e5, e⟩
      · cases e
      · cases e
        refine ⟨i, m, d, e1, by rw [← Array.find?_toList]; exact e2, ?_, hg, e4, e5⟩
        cases hm : m.path.toList with
        | nil => rfl
        | cons a b => rw [hm] at e3; cases e3
    · cases e
  · cases e
theorem run_valMethod {t : TypeId} {name : String} {f : FuncId} (e : valMethod P t name = some f) (n : Nat) (v : Value) : (method (n + 1) t v name).run P w = .ok (f, v) w := by
  obtain ⟨i, m, d, e1, e2, e3, e4, e5, e6⟩ := valMethod_eq e
  simp only [method, Sem.run_bind, run_info e1, Result.andThen_ok, e2, e3, follow, Sem.run_pure, e4]
  cases d <;> first | (cases e6; done) | simp [receiverAt, run_und e5, Place.get]
theorem run_nilAhead {t : TypeId} {name : String} {f : FuncId} (e : valMethod P t name = some f) (n : Nat) (v : Value) : (nilAhead (n + 1) t v name).run P w = .ok (some false) w := by
  obtain ⟨i, m, d, e1, e2, e3, e4, e5, e6⟩ := valMethod_eq e
  simp only [nilAhead, Sem.run_bind, run_info e1, Result.andThen_ok, e2, e3, followBlind, Sem.run_pure, e4]
  cases d <;> first | (cases e6; done) | simp [run_und e5]
theorem nilCheckA_ok {ρ' : Operand → Value} {y : Operand} {x v : AV} {o : Oper} (ho : o.op = .nilCheck y) (e : nilCheckA P x = some v) (r : VRel ι x (ρ' y)) :
    ∃ v', (execOp ρ' o).run P w = .ok (.value v') w ∧ VRel ι v v' := by
  generalize hx : ρ' y = x' at r
  unfold nilCheckA at e
  split at e <;> first | cases e | skip
  · cases r with
    | ptr _ _ c hc => exact ⟨_, by simp [execOp, ho, hx], .ptr _ _ c hc⟩
  · cases r with
    | fn _ _ _ l r h1 h2 => exact ⟨_, by simp [execOp, ho, hx], .fn _ _ _ l r h1 h2⟩
  · unfold methNil at e
    split at e
    · obtain ⟨f, e1, e⟩ := ob_eq.1 e
      cases e
      cases r with
      | fn _ _ _ l r h1 h2 =>
        cases h1 with
        | cons _ u _ us h3 h4 =>
          cases h4
          cases h3 with
          | ifc t z u h5 =>
            exact ⟨_, by simp [execOp, ho, hx, Made.depth, run_nilAhead e1], .fn _ _ _ _ _ (.cons _ _ _ _ (.ifc _ _ _ h5) .nil) h2⟩
    · cases e
  · cases r; exact ⟨_, by simp [execOp, ho, hx], .flat _⟩
theorem funcA_ok {f : Fn} {first cap : List AV} {l r : List Value} (h1 : LRel ι first l) (h2 : LRel ι cap r) : VRel ι (funcA f first cap) (.func f ⟨l⟩ ⟨r⟩) := by
  unfold funcA
  cases ha : unflats first with
  | none => exact .fn _ _ _ _ _ h1 h2
  | some a =>
    simp only [optCase_some]
    cases hb : unflats cap with
    | none => exact .fn _ _ _ _ _ h1 h2
    | some b =>
      rw [h1.unflats ha, h2.unflats hb]
      exact .flat _
theorem ifaceA_ok {t : TypeId} {x v : AV} {x' : Value} (e : ifaceA P t x = some v) (r : VRel ι x x') :
    ∃ v', (Instr.makeInterface t x').run P w = .ok v' w ∧ VRel ι v v' := by
  obtain ⟨d, e1, e2⟩ := ob_eq.1 e
  rcases cnd_of e2 with ⟨_, e3⟩ | ⟨e4, e3⟩
  · cases e3
  · cases e3
    refine ⟨.iface t x', ?_, ?_⟩
    · simp only [Instr.makeInterface, Sem.run_bind, run_und e1, Result.andThen_ok]
      cases d <;> first | rfl | cases e4
    · cases hu : x.unflat with
      | none => exact .ifc _ _ _ r
      | some u => rw [r.unflat hu]; exact .flat _
theorem lensA_ok {h : AH} {t u : TypeId} {x v : AV} {x' : Value} (e : lensA P h t x = some v) (hh : HRel P ι h.objs.get w) (r : VRel ι x x') :
    ∃ v', (Builtin.len_ #[t] u #[x']).run P w = .ok v' w ∧ VRel ι v v' := by
  cases x <;> simp only [lensA] at e <;> first | cases e | skip
  · obtain ⟨z, e1, rfl⟩ := mapFlat_eq e
    cases r
    exact ⟨z, pureRun_run _ e1 w, .flat z⟩
  · obtain ⟨a, e1, e2⟩ := ob_eq.1 e
    obtain ⟨⟨n, el⟩, e3, e4⟩ := ob_eq.1 e2
    cases e4
    cases r
    exact ⟨goInt n, by simp [Builtin.len_, run_und (pointerOf_eq e1), run_und (arrayOf_eq e3)], .flat _⟩
  · obtain ⟨a, e1, e2⟩ := ob_eq.1 e
    cases e2
    cases r
    exact ⟨_, by simp [Builtin.len_, run_und (sliceElem_eq e1)], .flat _⟩
  · obtain ⟨⟨kt, el⟩, e1, e2⟩ := ob_eq.1 e
    obtain ⟨⟨es, clock⟩, e3, e4⟩ := ob_eq.1 e2
    cases e4
    obtain ⟨c, g1, g2⟩ := hh.map (map?_eq e3)
    cases r with
    | mp _ c' hc =>
      rw [g1] at hc; cases hc
      have hg : (getObj c.id).run P w = .ok (.map ⟨es⟩ clock) w := by simp [getObj, Sem.run, g2]
      exact ⟨_, by simp [Builtin.len_, run_und (mapOf_eq e1), hg, lenL_eq], .flat _⟩
  · obtain ⟨⟨n, el⟩, e3, e4⟩ := ob_eq.1 e
    cases e4
    refine ⟨goInt n, ?_, .flat _⟩
    simp only [Builtin.len_, Sem.run_bind, List.getElem?_toArray, List.getElem?_cons_zero, run_und (arrayOf_eq e3), Result.andThen_ok]
    cases x' <;> rfl
theorem run_builtin_len {ρ' : Operand → Value} {o : Oper} {c : Call} (ho : o.op = .call c) (hc : c.callee = .builtin .len) :
    (execOp ρ' o).run P w = ((Builtin.len_ c.argTypes o.type (c.args.map ρ')).run P w).andThen fun v w' => .ok (.value v) w' := by
  simp [execOp, ho, resolve, hc, invoke, builtin]
theorem run_builtin_min {ρ' : Operand → Value} {o : Oper} {c : Call} (ho : o.op = .call c) (hc : c.callee = .builtin .min) :
    (execOp ρ' o).run P w = ((Builtin.min_ c.argTypes o.type (c.args.map ρ')).run P w).andThen fun v w' => .ok (.value v) w' := by
  simp [execOp, ho, resolve, hc, invoke, builtin]
theorem run_builtin_max {ρ' : Operand → Value} {o : Oper} {c : Call} (ho : o.op = .call c) (hc : c.callee = .builtin .max) :
    (execOp ρ' o).run P w = ((Builtin.max_ c.argTypes o.type (c.args.map ρ')).run P w).andThen fun v w' => .ok (.value v) w' := by
  simp [execOp, ho, resolve, hc, invoke, builtin]
theorem mem_callee {c : Call} {o : Oper} (ho : o.op = .call c) {x : Operand} (h : x ∈ c.args) : x ∈ o.op.operands := by
  rw [ho]; simp [Op.operands, Call.operands, h]
theorem args_rel {ρ : Operand → AV} {ρ' : Operand → Value} {c : Call} {o : Oper} (ho : o.op = .call c) (hr : ∀ x ∈ o.op.operands, VRel ι (ρ x) (ρ' x)) :
    LRel ι (mapA ρ c.args.toList) (c.args.map ρ').toList := by
  rw [Array.toList_map]
  exact LRel.mapA fun x hx => hr x (mem_callee ho (by simpa using hx))
theorem pureCallA_ok {ρ : Operand → AV} {ρ' : Operand → Value} {h : AH} {o : Oper} {c : Call} {v : AV} (ho : o.op = .call c) (e : pureCallA P ρ h o.type c.args c.argTypes c.callee = some v)
    (hh : HRel P ι h.objs.get w) (hr : ∀ x ∈ o.op.operands, VRel ι (ρ x) (ρ' x)) : ∃ v', (execOp ρ' o).run P w = .ok (.value v') w ∧ VRel ι v v' := by
  have ha := args_rel ho hr
  generalize hx : mapA ρ c.args.toList = xs at ha
  cases hb : c.callee <;> rw [hb] at e <;> simp only [pureCallA] at e <;> first | cases e | skip
  rename_i b
  cases b <;> simp only [bltA] at e <;> first | cases e | skip
  · rw [run_builtin_len ho hb]
    rw [hx] at e
    unfold lenA at e
    split at e
    · rename_i v0 t0 h0
      have h1 : c.argTypes = #[t0] := by apply Array.ext'; simpa using h0
      cases ha' : (c.args.map ρ').toList with
      | nil => rw [ha'] at ha; cases ha
      | cons y ys =>
        rw [ha'] at ha
        cases ha with
        | cons _ _ _ _ r1 r2 =>
          cases r2
          have h2 : c.args.map ρ' = #[y] := by apply Array.ext'; simpa using ha'
          rw [h1, h2]
          obtain ⟨z, g1, g2⟩ := lensA_ok (u := o.type) e hh r1
          exact ⟨z, by rw [g1]; rfl, g2⟩
    · cases e
  · rw [run_builtin_max ho hb]
    rw [hx] at e
    obtain ⟨vs, e1, e2⟩ := ob_eq.1 e
    obtain ⟨z, e3, rfl⟩ := mapFlat_eq e2
    have h2 : c.args.map ρ' = ⟨vs⟩ := by apply Array.ext'; exact ha.unflats e1
    rw [h2, pureRun_run _ e3 w]
    exact ⟨z, rfl, .flat z⟩
  · rw [run_builtin_min ho hb]
    rw [hx] at e
    obtain ⟨vs, e1, e2⟩ := ob_eq.1 e
    obtain ⟨z, e3, rfl⟩ := mapFlat_eq e2
    have h2 : c.args.map ρ' = ⟨vs⟩ := by apply Array.ext'; exact ha.unflats e1
    rw [h2, pureRun_run _ e3 w]
    exact ⟨z, rfl, .flat z⟩

theorem run_v {s : Sem Value} {v : AV} (h : ∃ v', s.run P w = .ok v' w ∧ VRel ι v v') : ∃ v', (do pure (Next.value (← s)) : Sem Next).run P w = .ok (.value v') w ∧ VRel ι v v' := by
  obtain ⟨v', h1, h2⟩ := h
  exact ⟨v', by simp [h1], h2⟩
theorem flat_v {s : Sem Value} {a : AV} {v : AV} {a' : Value} {s' : Value → Sem Value} (r : VRel ι a a') (e : (ob a.unflat fun v => mapFlat (pureRun P (s' v))) = some v) :
    ∃ v', (s' a').run P w = .ok v' w ∧ VRel ι v v' := by
  obtain ⟨u, e1, e2⟩ := ob_eq.1 e
  obtain ⟨z, e3, rfl⟩ := mapFlat_eq e2
  rw [r.unflat e1]
  exact ⟨z, pureRun_run _ e3 w, .flat z⟩
theorem apureOp_ok {ρ : Operand → AV} {ρ' : Operand → Value} {h : AH} {o : Oper} {v : AV} (e : apureOp P ρ h o.type o.op = some v) (hh : HRel P ι h.objs.get w) (hr : ∀ x ∈ o.op.operands, VRel ι (ρ x) (ρ' x)) :
    ∃ v', (execOp ρ' o).run P w = .ok (.value v') w ∧ VRel ι v v' := by
  cases ho : o.op <;> rw [ho] at e hr <;> simp only [apureOp] at e <;> first | cases e | skip
  case move x => exact ⟨_, by simp [execOp, ho], hr x (by simp [Op.operands])⟩
  case assign x => exact ⟨_, by simp [execOp, ho], hr x (by simp [Op.operands])⟩
  case pick c a b =>
    have h1 := hr c (by simp [Op.operands]); have h2 := hr a (by simp [Op.operands]); have h3 := hr b (by simp [Op.operands])
    unfold pickA at e
    split at e
    · rename_i t ht
      rw [ht] at h1
      generalize hc : ρ' c = c' at h1
      cases h1
      cases e
      refine ⟨if t then ρ' a else ρ' b, by simp [execOp, ho, hc, asBool], ?_⟩
      cases t
      · exact h3
      · exact h2
    · cases e
  case build t parts =>
    have hp : PRel ι (mapParts ρ parts.toList) (parts.map fun (i, x) => (i, ρ' x)).toList := by
      rw [Array.toList_map]
      exact mapParts_rel fun x hx => hr x.2 (by simp [Op.operands]; exact ⟨x.1, by simpa using hx⟩)
    have := run_v (buildA_ok (w := w) e hp)
    simp only [execOp, ho]; exact this
  case load t a =>
    have := run_v (loadA_ok e hh (hr a (by simp [Op.operands])))
    simp only [execOp, ho]; exact this
  case nilCheck x => exact nilCheckA_ok ho e (hr x (by simp [Op.operands]))
  case binOp op t x y yt =>
    have := run_v (binA_ok (w := w) e (hr x (by simp [Op.operands])) (hr y (by simp [Op.operands])))
    simp only [execOp, ho]; exact this
  case unOp op t x =>
    have := run_v (flat_v (w := w) (s := pure .nilFunc) (s' := Op.unary op) (hr x (by simp [Op.operands])) e)
    simp only [execOp, ho]; exact this
  case convert s d x =>
    have := run_v (flat_v (w := w) (s := pure .nilFunc) (s' := convert s d) (hr x (by simp [Op.operands])) e)
    simp only [execOp, ho]; exact this
  case makeInterface t x =>
    have := run_v (ifaceA_ok (w := w) e (hr x (by simp [Op.operands])))
    simp only [execOp, ho]; exact this
  case makeFunc f first cap =>
    have h1 : LRel ι (mapA ρ first.toList) (first.map ρ').toList := by rw [Array.toList_map]; exact LRel.mapA fun x hx => hr x (by simp only [Op.operands, Array.mem_append]; left; simpa using hx)
    have h2 : LRel ι (mapA ρ cap.toList) (cap.map ρ').toList := by rw [Array.toList_map]; exact LRel.mapA fun x hx => hr x (by simp only [Op.operands, Array.mem_append]; right; simpa using hx)
    exact ⟨_, by simp only [execOp, ho, Instr.makeFunc]; rfl, funcA_ok h1 h2⟩
  case slice t x lo hi mx =>
    have := run_v (sliceOpA_ok (w := w) e (hr x (by simp [Op.operands])) (fun y hy => hr y (by simp [Op.operands, hy])) (fun y hy => hr y (by simp [Op.operands, hy])) (fun y hy => hr y (by simp [Op.operands, hy])))
    simp only [execOp, ho]; exact this
  case fieldAddr t x f =>
    have := run_v (fieldAddrA_ok (w := w) e (hr x (by simp [Op.operands])))
    simp only [execOp, ho]; exact this
  case field t x f =>
    have := run_v (fieldA_ok (w := w) e (hr x (by simp [Op.operands])))
    simp only [execOp, ho]; exact this
  case indexAddr t x ix =>
    have := run_v (indexAddrA_ok (w := w) e (hr x (by simp [Op.operands])) (hr ix (by simp [Op.operands])))
    simp only [execOp, ho]; exact this
  case index t x ix =>
    have := run_v (indexA_ok (w := w) e (hr x (by simp [Op.operands])) (hr ix (by simp [Op.operands])))
    simp only [execOp, ho]; exact this
  case lookup t x ix ok =>
    have := run_v (lookupA_ok e hh (hr x (by simp [Op.operands])) (hr ix (by simp [Op.operands])))
    simp only [execOp, ho]; exact this
  case typeAssert x t u ok =>
    have := run_v (flat_v (w := w) (s := pure .nilFunc) (s' := fun v => Instr.typeAssert v t u ok) (hr x (by simp [Op.operands])) e)
    simp only [execOp, ho]; exact this
  case extract x ix =>
    have := run_v (P := P) (extractA_ok (w := w) e (hr x (by simp [Op.operands])))
    simp only [execOp, ho]; exact this
  case call c => exact pureCallA_ok ho e hh (by rw [ho]; exact hr)
end

end Go.Proofs.YtdjkbpenppdnlaaDoor

namespace Go.Proofs.YtdjkbpenppdnlaaDoor

open Go

def Nm.add (ι : Nm) (b : Nat) (c : Blk) : Nm := fun k => if k = b then some c else ι k
theorem Nm.add_same (ι : Nm) (b : Nat) (c : Blk) : ι.add b c b = some c := if_pos rfl
theorem Nm.add_other {ι : Nm} {b k : Nat} (c : Blk) (h : k ≠ b) : ι.add b c k = ι k := if_neg h
theorem Nm.le_add {ι : Nm} {b : Nat} (c : Blk) (h : ι b = none) : Nm.le ι (ι.add b c) := fun k d hk => by
  by_cases e : k = b
  · subst e; rw [h] at hk; cases hk
  · rw [Nm.add_other c e]; exact hk
structure Out (P : Program) (ι : Nm) (h : AH) (w : World) (κ : Nm) (h' : AH) (w' : World) : Prop where
  evo : Evo ι h.objs.get w κ h'.objs.get w'
  hrel : HRel P κ h'.objs.get w'
  nok : NOk κ h'.next w'
  next : h.next ≤ h'.next
  same : ∀ k, k < h.next → κ k = ι k
  keep : ∀ b, b < h.next → h.objs.get b = none → h'.objs.get b = none
  stay : ∀ b, h.objs.get b ≠ none → h'.objs.get b ≠ none
section

variable {P : Program} {ι κ μ : Nm} {w w' w'' : World} {h h' h'' : AH}

theorem Out.refl (hh : HRel P ι h.objs.get w) (hn : NOk ι h.next w) : Out P ι h w ι h w := ⟨Evo.refl _ _ _, hh, hn, Nat.le_refl _, fun _ _ => rfl, fun _ _ h => h, fun _ h => h⟩
theorem Out.trans (a : Out P ι h w κ h' w') (b : Out P κ h' w' μ h'' w'') : Out P ι h w μ h'' w'' :=
  ⟨a.evo.trans b.evo, b.hrel, b.nok, Nat.le_trans a.next b.next, fun k hk => (b.same k (Nat.lt_of_lt_of_le hk a.next)).trans (a.same k hk), fun k hk e => b.keep k (Nat.lt_of_lt_of_le hk a.next) (a.keep k hk e), fun k e => b.stay k (a.stay k e)⟩
theorem Out.le (a : Out P ι h w κ h' w') : Nm.le ι κ := a.evo.le
theorem Evo.drew {g : Nat → Option AObj} : Evo ι g w ι g w.drew := ⟨Nm.le_refl _, Nat.le_refl _, fun _ _ _ => rfl, fun b o c h1 h2 h3 _ => ⟨b, o, c, h1, ⟨h2, id⟩, h3, rfl⟩, rfl, rfl, rfl⟩
theorem NOk.drew {n : Nat} (hn : NOk ι n w) : NOk ι n w.drew := hn
theorem Out.drew (hh : HRel P ι h.objs.get w) (hn : NOk ι h.next w) : Out P ι h w ι h w.drew := ⟨Evo.drew, hh.drew, hn.drew, Nat.le_refl _, fun _ _ => rfl, fun _ _ h => h, fun _ h => h⟩
theorem HRel.lt {g : Nat → Option AObj} (hh : HRel P ι g w) {b : Nat} {o : AObj} {c : Blk} (h1 : g b = some o) (h2 : Live o) (h3 : ι b = some c) : c.id < w.heap.size := by
  obtain ⟨d, C, e1, e2, _⟩ := hh.obj b o h1 h2
  rw [h3] at e1; cases e1
  exact (Array.getElem?_eq_some_iff.1 e2).1
theorem heap_alloc_old (C : Obj) {k : Nat} (hk : k < w.heap.size) : (w.alloc C).heap[k]? = w.heap[k]? := by
  simp only [World.alloc, Array.getElem?_push]
  rw [if_neg (by omega)]
theorem heap_alloc_new (C : Obj) : (w.alloc C).heap[w.heap.size]? = some C := by simp only [World.alloc, Array.getElem?_push_size]

/-- the tables after one entry was put -/
theorem get_put (h : AH) (b : Nat) (o : AObj) (k : Nat) : (h.put b o).objs.get k = if k = b then some o else h.objs.get k := Tr.get_set _ _ _ _
theorem get_new (h : AH) (o : AObj) (k : Nat) : (h.new o).objs.get k = if k = h.next then some o else h.objs.get k := Tr.get_set _ _ _ _
theorem get_put_fn (h : AH) (b : Nat) (o : AObj) : (h.put b o).objs.get = fun k => if k = b then some o else h.objs.get k := funext (get_put h b o)
theorem get_new_fn (h : AH) (o : AObj) : (h.new o).objs.get = fun k => if k = h.next then some o else h.objs.get k := funext (get_new h o)

/-- a new block under a name that was not given yet -/
theorem HRel.new {g : Nat → Option AObj} (hh : HRel P ι g w) {b cap : Nat} {o : AObj} {C : Obj} (hb : ι b = none) (ho : ORel P (ι.add b ⟨w.heap.size, cap⟩) ⟨w.heap.size, cap⟩ o C) :
    HRel P (ι.add b ⟨w.heap.size, cap⟩) (fun k => if k = b then some o else g k) (w.alloc C) := by
  have hle := Nm.le_add (⟨w.heap.size, cap⟩ : Blk) hb
  constructor
  · intro b' o' h1 h2
    by_cases e : b' = b
    · subst e
      simp only [if_true] at h1
      cases h1
      exact ⟨_, C, Nm.add_same _ _ _, heap_alloc_new C, ho⟩
    · simp only [if_neg e] at h1
      obtain ⟨c, C', e1, e2, e3⟩ := hh.obj b' o' h1 h2
      refine ⟨c, C', hle _ _ e1, ?_, e3.mono hle⟩
      rw [heap_alloc_old C (Array.getElem?_eq_some_iff.1 e2).1, e2]
  · intro b1 b2 o1 o2 c1 c2 h1 h2 h3 h4 h5 h6 h7
    by_cases e1 : b1 = b
    · by_cases e2 : b2 = b
      · rw [e1, e2]
      · subst e1
        simp only [if_neg e2] at h3
        rw [Nm.add_same] at h5; cases h5
        rw [Nm.add_other _ e2] at h6
        have := hh.lt h3 h4 h6
        simp at h7; omega
    · simp only [if_neg e1] at h1
      rw [Nm.add_other _ e1] at h5
      by_cases e2 : b2 = b
      · subst e2
        rw [Nm.add_same] at h6; cases h6
        have := hh.lt h1 h2 h5
        simp at h7; omega
      · simp only [if_neg e2] at h3
        rw [Nm.add_other _ e2] at h6
        exact hh.inj _ _ _ _ _ _ h1 h2 h3 h4 h5 h6 h7
theorem Evo.new {g : Nat → Option AObj} {b cap : Nat} {o : AObj} {C : Obj} (hb : ι b = none) :
    Evo ι g w (ι.add b ⟨w.heap.size, cap⟩) (fun k => if k = b then some o else g k) (w.alloc C) := by
  refine ⟨Nm.le_add _ hb, by simp, fun k hk _ => heap_alloc_old C hk, ?_, rfl, rfl, rfl⟩
  intro b' o' c h1 h2 h3 h4
  by_cases e : b' = b
  · subst e; rw [Nm.add_same] at h3; cases h3; simp at h4
  · simp only [if_neg e] at h1
    rw [Nm.add_other _ e] at h3
    exact ⟨b', o', c, h1, ⟨h2, id⟩, h3, rfl⟩
theorem Out.new (hh : HRel P ι h.objs.get w) (hn : NOk ι h.next w) {cap : Nat} {o : AObj} {C : Obj} (ho : ORel P (ι.add h.next ⟨w.heap.size, cap⟩) ⟨w.heap.size, cap⟩ o C) :
    Out P ι h w (ι.add h.next ⟨w.heap.size, cap⟩) (h.new o) (w.alloc C) := by
  have hb : ι h.next = none := by
    cases e : ι h.next with
    | none => rfl
    | some c => exact absurd (hn _ _ e).1 (Nat.lt_irrefl _)
  refine ⟨by rw [get_new_fn]; exact Evo.new hb, by rw [get_new_fn]; exact hh.new hb ho, ?_, Nat.le_succ _, fun k hk => Nm.add_other _ (by omega), fun k hk e => by rw [get_new, if_neg (by omega)]; exact e, fun k e => by rw [get_new]; split <;> simp_all⟩
  intro k c hk
  show k < h.next + 1 ∧ c.id < (w.alloc C).heap.size
  by_cases e : k = h.next
  · subst e; rw [Nm.add_same] at hk; cases hk; simp
  · rw [Nm.add_other _ e] at hk
    have := hn _ _ hk
    simp; omega

/-! makers -/
theorem orel_new {cs : List AV} {vs : List Value} {e : TypeId} {s : Nat} {k : Blk} (r : LRel κ cs vs) (hs : sizeB P e = some s) (hl : vs.length = k.cap * s) :
    ORel P κ k (.cells cs e) (.cells ⟨vs⟩ e (0, 0)) := ⟨rfl, rfl, ⟨vs, [], by simp, r⟩, s, hs, by simpa using hl⟩
theorem range_cyc (z : List Value) (n : Nat) : ((List.range (n * z.length)).map fun i => z.toArray[i % z.toArray.size]!) = (List.replicate n z).flatten := by
  induction n with
  | zero => simp
  | succ n ih =>
    rw [Nat.succ_mul, Nat.add_comm, List.range_add, List.map_append, List.replicate_succ, List.flatten_cons, ← ih, List.map_map]
    congr 1
    · apply List.ext_getElem
      · simp
      · intro i h1 h2
        simp only [List.length_map, List.length_range] at h1
        simp [Nat.mod_eq_of_lt h2]
        rw [List.getElem?_eq_getElem h2]; rfl
    · apply List.map_congr_left
      intro i _
      simp
theorem array_cyc (z : Array Value) (n : Nat) : ((Array.range (n * z.size)).map fun i => z[i % z.size]!) = ⟨(List.replicate n z.toList).flatten⟩ := by
  apply Array.ext'
  rw [Array.toList_map, Array.toList_range]
  have := range_cyc z.toList n
  simpa using this
theorem fitA_ok {e : TypeId} {cs : List AV} (e1 : fitA P e cs = true) : sizeB P e = some cs.length := by
  unfold fitA at e1
  cases h : sizeB P e with
  | none => rw [h] at e1; cases e1
  | some n => rw [h] at e1; rw [← beq_eq e1, lenL_eq]
theorem allocA_ok {b : Nat} {e : TypeId} {v : AV} {o : AObj} (e1 : allocA P b e = some (v, o)) :
    ∃ C, (Instr.alloc e true (.tuple #[])).run P w = .ok (.pointer (some ⟨w.heap.size, 0, none⟩)) (w.alloc C) ∧ VRel (ι.add b ⟨w.heap.size, 1⟩) v (.pointer (some ⟨w.heap.size, 0, none⟩)) ∧ ORel P (ι.add b ⟨w.heap.size, 1⟩) ⟨w.heap.size, 1⟩ o C ∧ Live o := by
  obtain ⟨z, e2, e3⟩ := ob_eq.1 e1
  obtain ⟨e4, e5⟩ := cnd_eq.1 e3
  cases e5
  have hr : LRel (ι.add b ⟨w.heap.size, 1⟩) (valCells z) z.cells.toList := valCells_rel z
  refine ⟨.cells ⟨z.cells.toList⟩ e (0, 0), ?_, .ptr _ _ _ (Nm.add_same _ _ _), orel_new hr (fitA_ok e4) (by rw [hr.length]; simp), trivial⟩
  simp [Instr.alloc, run_zero e2, newVar, newRow]
theorem boxA_ok {b : Nat} {e : TypeId} {x v : AV} {x' : Value} {o : AObj} (e1 : boxA P b e x = some (v, o)) (hb : ι b = none) (r : VRel ι x x') :
    ∃ C, (Instr.box e x').run P w = .ok (.pointer (some ⟨w.heap.size, 0, none⟩)) (w.alloc C) ∧ VRel (ι.add b ⟨w.heap.size, 1⟩) v (.pointer (some ⟨w.heap.size, 0, none⟩)) ∧ ORel P (ι.add b ⟨w.heap.size, 1⟩) ⟨w.heap.size, 1⟩ o C ∧ Live o := by
  obtain ⟨e4, e5⟩ := cnd_eq.1 e1
  cases e5
  have hr : LRel (ι.add b ⟨w.heap.size, 1⟩) x.cells x'.cells.toList := (r.mono (Nm.le_add _ hb)).cells
  refine ⟨.cells ⟨x'.cells.toList⟩ e (0, 0), ?_, .ptr _ _ _ (Nm.add_same _ _ _), orel_new hr (fitA_ok e4) (by rw [hr.length]; simp), trivial⟩
  simp [Instr.box, newVar, newRow]
theorem PRel.mono (hle : Nm.le ι κ) {l : List (Nat × AV)} {m : List (Nat × Value)} (r : PRel ι l m) : PRel κ l m := by
  induction r with
  | nil => exact .nil
  | cons i a v l m h1 _ ih => exact .cons i a v l m (h1.mono hle) ih
theorem buildSliceA_ok {b : Nat} {t : TypeId} {len : Nat} {parts : List (Nat × AV)} {parts' : List (Nat × Value)} {v : AV} {o : AObj} (e1 : buildSliceA P b t len parts = some (v, o)) (hb : ι b = none) (r : PRel ι parts parts') :
    ∃ v' C, (Instr.buildSlice t len ⟨parts'⟩).run P w = .ok v' (w.alloc C) ∧ VRel (ι.add b ⟨w.heap.size, len⟩) v v' ∧ ORel P (ι.add b ⟨w.heap.size, len⟩) ⟨w.heap.size, len⟩ o C ∧ Live o := by
  obtain ⟨el, e2, e3⟩ := ob_eq.1 e1
  obtain ⟨n, e4, e5⟩ := ob_eq.1 e3
  rcases cnd_of e5 with ⟨_, e6⟩ | ⟨e6, e7⟩
  · cases e6
  obtain ⟨e8, e9⟩ := cnd_eq.1 e7
  obtain ⟨z, e10, e11⟩ := ob_eq.1 e9
  obtain ⟨e12, e13⟩ := cnd_eq.1 e11
  obtain ⟨rs, e14, e15⟩ := ob_eq.1 e13
  cases e15
  have hle := Nm.le_add (⟨w.heap.size, len⟩ : Blk) hb
  have hz : LRel (ι.add b ⟨w.heap.size, len⟩) (valCells z) z.cells.toList := valCells_rel z
  have hzn : z.cells.size = n := by
    have := beq_eq e12
    rw [lenL_eq, hz.length] at this
    simpa using this
  obtain ⟨r', f1, f2, f3⟩ := fillA_ok (pl' := fun i => some (i * n, n)) (fun i q h => h) e14 (r.mono hle) (repeatA_rel hz len)
  have hlen : ((List.replicate len z.cells.toList).flatten).length = len * n := by simp [hzn]
  have hn : n ≠ 0 := by rintro rfl; cases e6
  refine ⟨.slice (some ⟨w.heap.size, 0, none⟩) len len, .cells ⟨r'⟩ el (0, 0), ?_, .sl _ _ _ _ _ _ _ (Nm.add_same _ _ _) (fun _ => rfl) (Nat.le_refl _) (fun h => by cases h), orel_new f2 e4 (by rw [f3, hlen]), trivial⟩
  have hsz : ¬ (len * n > 2 ^ 24) := by
    have := ble_le e8
    simp at this
    omega
  have hcyc := array_cyc z.cells len
  rw [hzn] at hcyc
  simp only [Instr.buildSlice, Sem.run_bind, run_und (sliceElem_eq e2), Result.andThen_ok, run_size e4, if_neg hsz, Sem.run_pure]
  by_cases h0 : len * n = 0
  · have hl0 : len = 0 := by rcases Nat.mul_eq_zero.1 h0 with h | h; exact h; exact absurd h hn
    subst hl0
    simp only [List.replicate_zero, List.flatten_nil] at f1
    have f1' : Instr.fill (fun i => some (i * n, n)) ((Array.range 0).map fun i => (#[] : Array Value)[i % (#[] : Array Value).size]!) parts' = some ⟨r'⟩ := by rw [show ((Array.range 0).map fun i => (#[] : Array Value)[i % (#[] : Array Value).size]!) = ⟨[]⟩ from by apply Array.ext'; simp]; exact f1
    rw [if_pos h0]
    simp only [Sem.run_pure, Result.andThen_ok, Nat.zero_mul, f1', Sem.run_bind, newRow, run_newObj_alloc]
  · rw [if_neg h0]
    simp only [Sem.run_bind, run_zero e10, Result.andThen_ok, Sem.run_pure, hzn, hcyc, f1, newRow, run_newObj_alloc]
theorem makeSliceA_ok {b : Nat} {t : TypeId} {l c v : AV} {l' c' : Value} {o : AObj} (e1 : makeSliceA P b t l c = some (v, o)) (rl : VRel ι l l') (rc : VRel ι c c') :
    ∃ v' C cap, (Instr.makeSlice t l' c').run P w = .ok v' (w.alloc C) ∧ VRel (ι.add b ⟨w.heap.size, cap⟩) v v' ∧ ORel P (ι.add b ⟨w.heap.size, cap⟩) ⟨w.heap.size, cap⟩ o C ∧ Live o := by
  obtain ⟨ln, e2, e3⟩ := ob_eq.1 e1
  obtain ⟨cn, e4, e5⟩ := ob_eq.1 e3
  obtain ⟨el, e6, e7⟩ := ob_eq.1 e5
  obtain ⟨i, e8, e9⟩ := ob_eq.1 e7
  obtain ⟨z, e10, e11⟩ := ob_eq.1 e9
  obtain ⟨e12, e13⟩ := cnd_eq.1 e11
  obtain ⟨e14, e15⟩ := cnd_eq.1 e13
  obtain ⟨e16, e17⟩ := cnd_eq.1 e15
  obtain ⟨e18, e19⟩ := cnd_eq.1 e17
  cases e19
  obtain ⟨k1, rfl⟩ := rl.natOf e2
  obtain ⟨k2, rfl⟩ := rc.natOf e4
  have h12 := ble_le e12; have h14 := ble_le e14; have h16 := ble_le e16
  have hz : LRel (ι.add b ⟨w.heap.size, cn⟩) (valCells z) z.cells.toList := valCells_rel z
  have hzn : z.cells.size = i.size := by
    have := beq_eq e18
    rw [lenL_eq, hz.length] at this
    simpa using this
  have hs : sizeB P el = some i.size := by simp [sizeB, ob, e8]
  have hzero : zeroB P el = some z := by simp [zeroB, ob, e8, e10]
  have hr := repeatA_rel hz cn
  have hlen : ((List.replicate cn z.cells.toList).flatten).length = cn * i.size := by simp [hzn]
  refine ⟨.slice (some ⟨w.heap.size, 0, none⟩) ln cn, .cells ⟨(List.replicate cn z.cells.toList).flatten⟩ el (0, 0), cn, ?_, .sl _ _ _ _ _ _ _ (Nm.add_same _ _ _) (fun _ => rfl) (Nat.le_refl _) (fun h => by cases h), orel_new hr hs hlen, trivial⟩
  have hcyc := array_cyc z.cells cn
  rw [hzn] at hcyc
  have w1 : IntKind.i64.wrap (ln : Int) = ln := by rw [IntKind.wrap_i64]; omega
  have w2 : IntKind.i64.wrap (cn : Int) = cn := by rw [IntKind.wrap_i64]; omega
  have hbytes : i.bytes * cn ≤ 16777216 := Nat.le_trans (Nat.mul_le_mul h16 h14) (by decide)
  have hb1 : ¬ ((i.bytes : Int) * (cn : Int) > 2 ^ 48) := by
    have h2 : (i.bytes : Int) * (cn : Int) ≤ 16777216 := by rw [← Int.natCast_mul]; exact Int.ofNat_le.2 hbytes
    omega
  have hc1 : ¬ ((cn : Int) < 0) := by omega
  have hl1 : ¬ ((ln : Int) < 0) := by omega
  have hl2 : ¬ ((ln : Int) > (cn : Int)) := by omega
  have hb2 : ¬ (281474976710656 < (i.bytes : Int) * (cn : Int)) := by simpa using hb1
  simp only [Instr.makeSlice, Sem.run_bind, run_und (sliceElem_eq e6), Result.andThen_ok, asInt, asIntOf_run, Sem.run_pure, run_info e8, w1, w2]
  simp only [hb1, hc1, hl1, hl2, decide_false, Bool.or_false, Bool.false_or, Bool.false_eq_true, or_self, if_false, Sem.run_bind, Result.andThen_ok, run_askRoom, Int.toNat_natCast, run_size hs]
  by_cases h0 : cn * i.size = 0
  · rw [if_pos h0]
    have : (List.replicate cn z.cells.toList).flatten = [] := by apply List.eq_nil_of_length_eq_zero; rw [hlen, h0]
    rw [this]
    have hx : ((Array.range 0).map fun i => (#[] : Array Value)[i % (#[] : Array Value).size]!) = ⟨[]⟩ := by apply Array.ext'; simp
    simp only [h0, Sem.run_pure, Result.andThen_ok, hx, Sem.run_bind, newRow, run_newObj_alloc]
  · rw [if_neg h0]
    simp only [Sem.run_bind, run_zero hzero, Result.andThen_ok, Sem.run_pure, hzn, hcyc, newRow, run_newObj_alloc]
theorem makerOp_ok {ρ : Operand → AV} {ρ' : Operand → Value} {b : Nat} {o : Oper} {v : AV} {ob' : AObj} (e : makerOp P ρ b o.op = some (v, ob')) (hb : ι b = none) (hr : ∀ x ∈ o.op.operands, VRel ι (ρ x) (ρ' x)) :
    ∃ v' C cap, (execOp ρ' o).run P w = .ok (.value v') (w.alloc C) ∧ VRel (ι.add b ⟨w.heap.size, cap⟩) v v' ∧ ORel P (ι.add b ⟨w.heap.size, cap⟩) ⟨w.heap.size, cap⟩ ob' C ∧ Live ob' := by
  cases ho : o.op <;> rw [ho] at e hr <;> simp only [makerOp] at e <;> first | cases e | skip
  case alloc el =>
    obtain ⟨C, h1, h2, h3, h4⟩ := allocA_ok (w := w) (ι := ι) e
    exact ⟨_, C, 1, by simp only [execOp, ho, Sem.run_bind, h1, Result.andThen_ok, Sem.run_pure], h2, h3, h4⟩
  case box el x =>
    obtain ⟨C, h1, h2, h3, h4⟩ := boxA_ok (w := w) e hb (hr x (by simp [Op.operands]))
    exact ⟨_, C, 1, by simp only [execOp, ho, Sem.run_bind, h1, Result.andThen_ok, Sem.run_pure], h2, h3, h4⟩
  case buildSlice t len parts =>
    have hp : PRel ι (mapParts ρ parts.toList) (parts.map fun (i, x) => (i, ρ' x)).toList := by
      rw [Array.toList_map]
      exact mapParts_rel fun x hx => hr x.2 (by simp [Op.operands]; exact ⟨x.1, by simpa using hx⟩)
    obtain ⟨v', C, h1, h2, h3, h4⟩ := buildSliceA_ok (w := w) e hb hp
    have h1' : (Instr.buildSlice t len (parts.map fun (i, x) => (i, ρ' x))).run P w = .ok v' (w.alloc C) := h1
    exact ⟨v', C, len, by simp only [execOp, ho, Sem.run_bind, h1', Result.andThen_ok, Sem.run_pure], h2, h3, h4⟩
  case makeSlice t l c =>
    obtain ⟨v', C, cap, h1, h2, h3, h4⟩ := makeSliceA_ok (w := w) (ι := ι) e (hr l (by simp [Op.operands])) (hr c (by simp [Op.operands]))
    exact ⟨v', C, cap, by simp only [execOp, ho, Sem.run_bind, h1, Result.andThen_ok, Sem.run_pure], h2, h3, h4⟩
  case makeMap t r =>
    cases r with
    | none =>
      cases (show some (AV.mp b, AObj.map [] 0) = some (v, ob') from e)
      refine ⟨.map (some w.heap.size), .map #[] 0, 0, ?_, .mp _ _ (Nm.add_same _ _ _), ⟨rfl, rfl⟩, trivial⟩
      simp [execOp, ho, Instr.makeMap]
    | some x => cases e
end

end Go.Proofs.YtdjkbpenppdnlaaDoor

namespace Go.Proofs.YtdjkbpenppdnlaaDoor

open Go

section

variable {P : Program} {ι κ μ : Nm} {w w' w'' : World} {h h' h'' : AH}

/-- a row of cells written anew -/
theorem HRel.put {g : Nat → Option AObj} (hh : HRel P ι g w) {b : Nat} {c : Blk} {cs r : List AV} {vs vs' rest : List Value} {e : TypeId} {s : Nat}
    (h1 : g b = some (.cells cs e)) (h2 : ι b = some c) (h3 : w.heap[c.id]? = some (.cells ⟨vs ++ rest⟩ e (0, 0))) (h4 : LRel ι r vs') (h5 : vs'.length = vs.length)
    (h6 : sizeB P e = some s) (h7 : vs.length + rest.length = c.cap * s) :
    HRel P ι (fun k => if k = b then some (.cells r e) else g k) (w.setRow c.id ⟨vs' ++ rest⟩) := by
  constructor
  · intro b' o' k1 k2
    by_cases eb : b' = b
    · subst eb
      simp only [if_true] at k1
      cases k1
      exact ⟨c, _, h2, setRow_heap w c.id _ _ e (0, 0) h3, rfl, rfl, ⟨vs', rest, rfl, h4⟩, s, h6, by simp [h5, h7]⟩
    · simp only [if_neg eb] at k1
      obtain ⟨c', C', e1, e2, e3⟩ := hh.obj b' o' k1 k2
      refine ⟨c', C', e1, ?_, e3⟩
      rw [setRow_other w c.id c'.id _ (fun hid => eb (hh.inj _ _ _ _ _ _ k1 k2 h1 trivial e1 h2 hid)), e2]
  · intro b1 b2 o1 o2 c1 c2 k1 k2 k3 k4 k5 k6 k7
    have conv : ∀ {x : Nat} {o : AObj}, (if x = b then some (AObj.cells r e) else g x) = some o → Live o → ∃ o', g x = some o' ∧ Live o' := by
      intro x o hx ho
      by_cases ex : x = b
      · subst ex; exact ⟨_, h1, trivial⟩
      · rw [if_neg ex] at hx; exact ⟨o, hx, ho⟩
    obtain ⟨o1', m1, m2⟩ := conv k1 k2
    obtain ⟨o2', m3, m4⟩ := conv k3 k4
    exact hh.inj _ _ _ _ _ _ m1 m2 m3 m4 k5 k6 k7
theorem Out.put (hh : HRel P ι h.objs.get w) (hn : NOk ι h.next w) {b : Nat} {c : Blk} {cs r : List AV} {vs vs' rest : List Value} {e : TypeId} {s : Nat}
    (h1 : h.objs.get b = some (.cells cs e)) (h2 : ι b = some c) (h3 : w.heap[c.id]? = some (.cells ⟨vs ++ rest⟩ e (0, 0))) (h4 : LRel ι r vs') (h5 : vs'.length = vs.length)
    (h6 : sizeB P e = some s) (h7 : vs.length + rest.length = c.cap * s) :
    Out P ι h w ι (h.put b (.cells r e)) (w.setRow c.id ⟨vs' ++ rest⟩) := by
  refine ⟨?_, by rw [get_put_fn]; exact hh.put h1 h2 h3 h4 h5 h6 h7, fun k d hk => ⟨(hn k d hk).1, by simpa using (hn k d hk).2⟩, Nat.le_refl _, fun _ _ => rfl, fun k hk e => by rw [get_put]; split <;> simp_all, fun k e => by rw [get_put]; split <;> simp_all⟩
  rw [get_put_fn]
  refine ⟨Nm.le_refl _, by simp, fun k hk hno => setRow_other w c.id k _ (fun hid => hno b _ c h1 trivial h2 hid.symm), ?_, rfl, rfl, rfl⟩
  intro b' o' c' k1 k2 k3 _
  by_cases eb : b' = b
  · subst eb; rw [h2] at k3; cases k3; exact ⟨_, _, _, h1, ⟨trivial, fun _ => trivial⟩, h2, rfl⟩
  · simp only [if_neg eb] at k1; exact ⟨_, _, _, k1, ⟨k2, id⟩, k3, rfl⟩

theorem run_storeRow {id o : Nat} {vs us rest : List Value} {e : TypeId} (h3 : w.heap[id]? = some (.cells ⟨vs ++ rest⟩ e (0, 0))) (hl : o + us.length ≤ vs.length) (h1 : ∀ v ∈ us, v.oneCell' = true) :
    (storeCells ⟨id, o, none⟩ us).run P w = .ok () (w.setRow id ⟨(vs.take o ++ us ++ vs.drop (o + us.length)) ++ rest⟩) := by
  rw [run_storeCells_at P id o e us 0 ⟨vs ++ rest⟩ w h3 (by simp; omega) h1]
  congr 2
  simp [List.take_append_of_le_length (show o ≤ vs.length by omega), List.drop_append_of_le_length hl, List.append_assoc]

theorem storeA_ok {t : TypeId} {a v : AV} {a' v' : Value} (e : storeA P h t v a = some h') (hh : HRel P ι h.objs.get w) (hn : NOk ι h.next w) (ra : VRel ι a a') (rv : VRel ι v v') :
    ∃ w', (Instr.storeAt t a' v').run P w = .ok () w' ∧ Out P ι h w ι h' w' := by
  cases a <;> simp only [storeA] at e <;> first | cases e | skip
  rename_i b o
  obtain ⟨⟨cs, el⟩, e1, e2⟩ := ob_eq.1 e
  obtain ⟨n, e3, e4⟩ := ob_eq.1 e2
  obtain ⟨e5, e6⟩ := cnd_eq.1 e4
  obtain ⟨e7, e8⟩ := cnd_eq.1 e6
  obtain ⟨r, e9, e10⟩ := ob_eq.1 e8
  cases e10
  have hg := cells?_eq e1
  obtain ⟨c, vs, rest, s, g1, g2, g3, g4, g5⟩ := hh.cells hg
  have rc := rv.cells
  have hlen : v'.cells.size = n := by
    have := beq_eq e5
    rw [lenL_eq, rc.length] at this
    simpa using this
  cases ra with
  | ptr _ _ c' hc =>
    rw [g1] at hc; cases hc
    obtain ⟨k1, k2⟩ := g3.layAt rc e9
    refine ⟨_, ?_, Out.put hh hn hg g1 g2 k2 (by simp at k1 ⊢; omega) g4 g5⟩
    simp only [Instr.storeAt, Instr.sureAddr, Sem.run_bind, Sem.run_pure, Result.andThen_ok, storeVar, run_size e3, hlen, ne_eq, not_true, if_false]
    exact run_storeRow g2 k1 (rc.allOne e7)

/-! append and copy -/
/-- what is put behind -/
theorem srcA_ok {size n : Nat} {x : AV} {x' : Value} {l : List AV} (e : srcA h size x = some (n, l)) (hh : HRel P ι h.objs.get w) (r : VRel ι x x') :
    ∃ ls, LRel ι l ls ∧ ls.length = n * size ∧ (Builtin.lenOf x').run P w = .ok n w ∧ ∀ u : World, u.heap = w.heap → (Builtin.firstCells size n x').run P u = .ok ⟨ls⟩ u := by
  unfold srcA at e
  split at e
  · rename_i b o n' m ex
    obtain ⟨⟨cs, el⟩, e1, e2⟩ := ob_eq.1 e
    obtain ⟨q, e3, e4⟩ := ob_eq.1 e2
    cases e4
    obtain ⟨c, vs, rest, s, g1, g2, g3, g4, g5⟩ := hh.cells (cells?_eq e1)
    obtain ⟨k1, k2⟩ := g3.takeAt e3
    cases r with
    | sl _ _ _ _ _ c' k hc _ _ _ =>
      rw [g1] at hc; cases hc
      have hlen : ((vs.drop o).take (Nat.mul n size)).length = n * size := by
        have k0 : n * size = 0 ∨ o + n * size ≤ vs.length := k1
        show ((vs.drop o).take (n * size)).length = n * size
        rw [List.length_take, List.length_drop]
        omega
      refine ⟨_, k2, hlen, rfl, fun u hu => ?_⟩
      have h2 : u.heap[c.id]? = some (.cells ⟨vs ++ rest⟩ el (0, 0)) := by rw [hu]; exact g2
      refine run_firstCells_some u size n ⟨c.id, o, none⟩ n k _ hlen fun j v hj => ?_
      rw [addr_add]
      rw [List.getElem?_take] at hj
      split at hj
      · rw [List.getElem?_drop] at hj
        have hlt := (List.getElem?_eq_some_iff.1 hj).1
        simp [World.cell?, h2, List.getElem?_append_left hlt, hj]
      · cases hj
  · obtain ⟨e1, e2⟩ := cnd_eq.1 e
    cases e2
    cases r
    obtain rfl := beq_eq e1
    exact ⟨[], .nil, by simp, rfl, fun u _ => run_firstCells_none u size 0 0 _⟩
  · rename_i s
    obtain ⟨e1, e2⟩ := cnd_eq.1 e
    cases e2
    cases r
    obtain rfl := beq_eq e1
    have hx : (Array.map (fun b : UInt8 => Value.int IntKind.u8 (b.toNat : Int)) s.data).extract 0 s.size = Array.map (fun b : UInt8 => Value.int IntKind.u8 (b.toNat : Int)) s.data := by
      have hs : s.size = (Array.map (fun b : UInt8 => Value.int IntKind.u8 (b.toNat : Int)) s.data).size := by rw [Array.size_map]; rfl
      rw [hs, Array.extract_size]
    refine ⟨_, LRel.flats _, by simp, rfl, fun u _ => ?_⟩
    have h2 : (s.extract 0 s.size) = s := by simp
    simp [Builtin.firstCells, h2]
    apply Array.ext'; simp
  · cases e

/-- an append that fits -/
theorem run_append_fits {t u ty e : TypeId} {d : TypeDesc} {s n : Nat} {base : Option Addr} {l k : Nat} {x' : Value} {ls : List Value}
    (ht : P.underlying t = some (.slice e)) (hu : P.underlying u = some d) (hd : slStr d = true) (hs : sizeB P e = some s)
    (hlen : (Builtin.lenOf x').run P w = .ok n w) (hfc : (Builtin.firstCells s n x').run P w = .ok ⟨ls⟩ w) (hfit : l + n ≤ k) :
    (Builtin.append_ #[t, u] ty #[.slice base l k, x']).run P w =
      (((match base with | some a => storeCells (a.add (l * s)) ls | none => pure ()) : Sem Unit).run P w).andThen fun _ w' => .ok (.slice base (l + n) k) w' := by
  cases d <;> first | (cases hd; done) | skip
  · simp only [Builtin.append_, List.getElem?_toArray, List.getElem?_cons_zero, List.getElem?_cons_succ, Sem.run_bind, run_und ht, run_und hu, Result.andThen_ok, run_size hs, Sem.run_pure, Bool.false_eq_true, if_false, hlen, hfit, if_true, Bool.not_false, hfc]
    cases base <;> simp
  · simp only [Builtin.append_, List.getElem?_toArray, List.getElem?_cons_zero, List.getElem?_cons_succ, Sem.run_bind, run_und ht, run_und hu, Result.andThen_ok, run_size hs, Sem.run_pure, Bool.false_eq_true, if_false, hlen, hfit, if_true, Bool.not_false, hfc]
    cases base <;> simp
/-- an append that does not fit -/
theorem run_append_more {t u ty e : TypeId} {d : TypeDesc} {i : TypeInfo} {z : Value} {n : Nat} {base : Option Addr} {l k : Nat} {x' : Value} {os ls : List Value}
    (ht : P.underlying t = some (.slice e)) (hu : P.underlying u = some d) (hd : slStr d = true) (hi : P.info? e = some i) (hz : i.zero = some z) (hb : i.bytes ≠ 0) (hb2 : i.bytes ≤ 4096)
    (hlen : (Builtin.lenOf x').run P w = .ok n w) (hfc : (Builtin.firstCells i.size n x').run P w.drew = .ok ⟨ls⟩ w.drew) (hold : (Builtin.firstCells i.size l (.slice base l k)).run P w.drew = .ok ⟨os⟩ w.drew) (hfit : k < l + n) (hsm : l + n ≤ 300000) :
    (Builtin.append_ #[t, u] ty #[.slice base l k, x']).run P w =
      .ok (.slice (some ⟨w.heap.size, 0, none⟩) (l + n) (grownCap w (l + n) k e)) (w.drew.alloc (.cells ⟨os ++ ls ++ (Builtin.zeroCells z.cells (grownCap w (l + n) k e - (l + n))).toList⟩ e)) := by
  have hn : ¬ (l + n ≤ k) := by omega
  have hbb : (l + n) * i.bytes ≤ 140737488355328 := Nat.le_trans (Nat.mul_le_mul hsm hb2) (by decide)
  have h48 : ¬ (Builtin.nextslicecap (l + n) k * i.bytes > 2 ^ 48) := by have := growslice_fits hfit hbb; simp; omega
  have hs : sizeB P e = some i.size := by simp [sizeB, ob, hi]
  have h63' : ¬ (((l + n : Nat) : Int) > IntKind.i64.max) := by
    have : IntKind.i64.max = 9223372036854775807 := rfl
    rw [this]; omega
  have hzr := fun u => run_zero (w := u) (show zeroB P e = some z by simp [zeroB, ob, hi, hz])
  have hq : (Question.appendCap (l + n) k e).forced = false := rfl
  cases d <;> first | (cases hd; done) | skip
  all_goals
    simp only [Builtin.append_, List.getElem?_toArray, List.getElem?_cons_zero, List.getElem?_cons_succ, Sem.run_bind, run_und ht, run_und hu, Result.andThen_ok, run_size hs, Sem.run_pure, Bool.false_eq_true, if_false, hlen, hn, if_true, Bool.not_false, h63', false_and, run_info hi, h48, run_choose_drew, hq, run_askRoom, hold, hfc, hzr, newRow, run_newObj_alloc, Sem.run_ite, gt_iff_lt]
    have hx : ∀ X : Array Value, ((⟨os⟩ : Array Value) ++ ⟨ls⟩ ++ X) = ⟨os ++ ls ++ X.toList⟩ := fun X => by apply Array.ext'; simp
    rw [hx]
    rfl

theorem HRel.kill {g : Nat → Option AObj} (hh : HRel P ι g w) (b : Nat) : HRel P ι (fun k => if k = b then some .dead else g k) w := by
  have conv : ∀ {x : Nat} {o : AObj}, (if x = b then some AObj.dead else g x) = some o → Live o → g x = some o := by
    intro x o hx ho
    by_cases ex : x = b
    · rw [if_pos ex] at hx; cases hx; exact ho.elim
    · rwa [if_neg ex] at hx
  exact ⟨fun b' o' k1 k2 => hh.obj b' o' (conv k1 k2) k2, fun b1 b2 o1 o2 c1 c2 k1 k2 k3 k4 => hh.inj b1 b2 o1 o2 c1 c2 (conv k1 k2) k2 (conv k3 k4) k4⟩
theorem Out.kill (hh : HRel P ι h.objs.get w) (hn : NOk ι h.next w) (b : Nat) (hb : h.objs.get b ≠ none) : Out P ι h w ι (h.put b .dead) w := by
  refine ⟨?_, by rw [get_put_fn]; exact hh.kill b, hn, Nat.le_refl _, fun _ _ => rfl, fun k hk e => by rw [get_put]; split <;> simp_all, fun k e => by rw [get_put]; split <;> simp_all⟩
  rw [get_put_fn]
  refine ⟨Nm.le_refl _, Nat.le_refl _, fun _ _ _ => rfl, ?_, rfl, rfl, rfl⟩
  intro b' o' c k1 k2 k3 _
  by_cases ex : b' = b
  · simp only [if_pos ex] at k1; cases k1; exact k2.elim
  · simp only [if_neg ex] at k1; exact ⟨_, _, _, k1, ⟨k2, id⟩, k3, rfl⟩
theorem NOk.none {n : Nat} (hn : NOk ι n w) : ι n = none := by
  cases e : ι n with
  | none => rfl
  | some c => exact absurd (hn _ _ e).1 (Nat.lt_irrefl _)
/-- a block gets a new name -/
theorem Out.move (hh : HRel P ι h.objs.get w) (hn : NOk ι h.next w) {b : Nat} {c : Blk} {cs : List AV} {e el : TypeId} {A B : Array Value} {o : AObj}
    (h1 : h.objs.get b = some (.cells cs e)) (h2 : ι b = some c) (h3 : w.heap[c.id]? = some (.cells B el (0, 0))) (h4 : ORel P (ι.add h.next c) c o (.cells A el (0, 0))) :
    Out P ι h w (ι.add h.next c) ((h.put b .dead).new o) (w.setRow c.id A) := by
  have hb := hn.none
  have hle := Nm.le_add c hb
  have hbn : b ≠ h.next := by rintro rfl; rw [hb] at h2; cases h2
  have hget : ((h.put b .dead).new o).objs.get = fun k => if k = h.next then some o else if k = b then some .dead else h.objs.get k := by
    funext k
    rw [get_new]
    show (if k = h.next then some o else (h.put b .dead).objs.get k) = _
    rw [get_put]
  have old : ∀ {k : Nat} {q : AObj}, k ≠ h.next → (if k = h.next then some o else if k = b then some AObj.dead else h.objs.get k) = some q → Live q → k ≠ b ∧ h.objs.get k = some q := by
    intro k q hk hq hl
    rw [if_neg hk] at hq
    by_cases ek : k = b
    · rw [if_pos ek] at hq; cases hq; exact hl.elim
    · rw [if_neg ek] at hq; exact ⟨ek, hq⟩
  have hkeep : ∀ k, k < h.next → h.objs.get k = none → ((h.put b .dead).new o).objs.get k = none := fun k hk e => by
    rw [hget]
    simp only
    rw [if_neg (by omega), if_neg (by rintro rfl; rw [h1] at e; cases e)]
    exact e
  have hstay : ∀ k, h.objs.get k ≠ none → ((h.put b .dead).new o).objs.get k ≠ none := fun k e => by
    rw [hget]
    simp only
    split
    · simp
    · split
      · simp
      · exact e
  refine ⟨?_, ?_, ?_, Nat.le_succ _, fun k hk => Nm.add_other _ (by omega), hkeep, hstay⟩
  · rw [hget]
    refine ⟨hle, by simp, fun k hk hno => setRow_other w c.id k _ (fun hid => hno b _ c h1 trivial h2 hid.symm), ?_, rfl, rfl, rfl⟩
    intro b' o' c' k1 k2 k3 k4
    by_cases eb : b' = h.next
    · subst eb; rw [Nm.add_same] at k3; cases k3; exact ⟨b, _, c, h1, ⟨trivial, fun _ => trivial⟩, h2, rfl⟩
    · obtain ⟨m1, m2⟩ := old eb k1 k2
      rw [Nm.add_other _ eb] at k3
      exact ⟨b', o', c', m2, ⟨k2, id⟩, k3, rfl⟩
  · rw [hget]
    constructor
    · intro b' o' k1 k2
      by_cases eb : b' = h.next
      · subst eb
        simp only [if_true] at k1
        cases k1
        exact ⟨c, _, Nm.add_same _ _ _, setRow_heap w c.id _ _ el (0, 0) h3, h4⟩
      · obtain ⟨m1, m2⟩ := old eb k1 k2
        obtain ⟨c', C', e1, e2, e3⟩ := hh.obj b' o' m2 k2
        refine ⟨c', C', hle _ _ e1, ?_, e3.mono hle⟩
        rw [setRow_other w c.id c'.id _ (fun hid => m1 (hh.inj _ _ _ _ _ _ m2 k2 h1 trivial e1 h2 hid)), e2]
    · intro b1 b2 o1 o2 c1 c2 k1 k2 k3 k4 k5 k6 k7
      by_cases e1 : b1 = h.next
      · by_cases e2 : b2 = h.next
        · rw [e1, e2]
        · obtain ⟨m1, m2⟩ := old e2 k3 k4
          subst e1
          rw [Nm.add_same] at k5; cases k5
          rw [Nm.add_other _ e2] at k6
          exact absurd (hh.inj _ _ _ _ _ _ h1 trivial m2 k4 h2 k6 k7).symm m1
      · obtain ⟨m1, m2⟩ := old e1 k1 k2
        rw [Nm.add_other _ e1] at k5
        by_cases e2 : b2 = h.next
        · subst e2
          rw [Nm.add_same] at k6; cases k6
          exact absurd (hh.inj _ _ _ _ _ _ m2 k2 h1 trivial k5 h2 k7) m1
        · obtain ⟨n1, n2⟩ := old e2 k3 k4
          rw [Nm.add_other _ e2] at k6
          exact hh.inj _ _ _ _ _ _ m2 k2 n2 k4 k5 k6 k7
  · intro k d hk
    show k < h.next + 1 ∧ d.id < (w.setRow c.id A).heap.size
    rw [size_setRow]
    by_cases ek : k = h.next
    · subst ek; rw [Nm.add_same] at hk; cases hk
      exact ⟨Nat.lt_succ_self _, (hn _ _ h2).2⟩
    · rw [Nm.add_other _ ek] at hk
      exact ⟨Nat.lt_succ_of_lt (hn _ _ hk).1, (hn _ _ hk).2⟩

theorem grown_ok {t u ty e : TypeId} {d : TypeDesc} {i : TypeInfo} {z : Value} {n l k : Nat} {base : Option Addr} {x' : Value} {new old : List AV} {os ls : List Value} {h0 : AH}
    (ho : Out P ι h w ι h0 w) (hnx : h0.next = h.next)
    (ht : P.underlying t = some (.slice e)) (hu : P.underlying u = some d) (hd : slStr d = true) (hi : P.info? e = some i) (hz : i.zero = some z) (hzl : z.cells.size = i.size) (hb : i.bytes ≠ 0) (hb2 : i.bytes ≤ 4096)
    (hlen : (Builtin.lenOf x').run P w = .ok n w) (hfc : (Builtin.firstCells i.size n x').run P w.drew = .ok ⟨ls⟩ w.drew) (hold : (Builtin.firstCells i.size l (.slice base l k)).run P w.drew = .ok ⟨os⟩ w.drew) (hfit : k < l + n) (hsm : l + n ≤ 300000)
    (r1 : LRel ι old os) (r2 : LRel ι new ls) (l1 : os.length = l * i.size) (l2 : ls.length = n * i.size) :
    ∃ v' w' κ, (Builtin.append_ #[t, u] ty #[.slice base l k, x']).run P w = .ok v' w' ∧ VRel κ (.sl h.next 0 (l + n) (l + n) false) v' ∧ Out P ι h w κ (h0.new (.cells (appL old new) e)) w' := by
  have hs : sizeB P e = some i.size := by simp [sizeB, ob, hi]
  have hcap : l + n ≤ grownCap w (l + n) k e := by unfold grownCap Question.cut; simp
  refine ⟨_, _, ι.add h0.next ⟨w.drew.heap.size, grownCap w (l + n) k e⟩, run_append_more ht hu hd hi hz hb hb2 hlen hfc hold hfit hsm, ?_, (ho.trans (Out.drew ho.hrel ho.nok)).trans (Out.new ho.hrel.drew ho.nok.drew ?_)⟩
  · rw [hnx]
    exact .sl _ _ _ _ _ _ _ (Nm.add_same _ _ _) (fun h => by cases h) hcap (fun _ _ => rfl)
  · have hle := Nm.le_add (⟨w.drew.heap.size, grownCap w (l + n) k e⟩ : Blk) ho.nok.none
    refine ⟨rfl, rfl, ⟨os ++ ls, _, rfl, by rw [appL_eq]; exact (r1.mono hle).append (r2.mono hle)⟩, i.size, hs, ?_⟩
    simp only [List.size_toArray, List.length_append, l1, l2, Array.length_toList, size_zeroCells, hzl]
    rw [← Nat.add_mul, ← Nat.add_mul]
    congr 1
    show l + n + (grownCap w (l + n) k e - (l + n)) = grownCap w (l + n) k e
    omega

theorem appendA_ok {t u ty : TypeId} {s x v : AV} {s' x' : Value} (e : appendA P h t u s x = some (v, h')) (hh : HRel P ι h.objs.get w) (hn : NOk ι h.next w) (rs : VRel ι s s') (rx : VRel ι x x') :
    ∃ v' w' κ, (Builtin.append_ #[t, u] ty #[s', x']).run P w = .ok v' w' ∧ VRel κ v v' ∧ Out P ι h w κ h' w' := by
  obtain ⟨el, e1, e2⟩ := ob_eq.1 e
  obtain ⟨d, e3, e4⟩ := ob_eq.1 e2
  obtain ⟨e5, e6⟩ := cnd_eq.1 e4
  obtain ⟨i, e7, e8⟩ := ob_eq.1 e6
  obtain ⟨z, e9, e10⟩ := ob_eq.1 e8
  rcases cnd_of e10 with ⟨_, c⟩ | ⟨e11, e12⟩
  · cases c
  rcases cnd_of e12 with ⟨_, c⟩ | ⟨e13, e14⟩
  · cases c
  obtain ⟨e15, e16⟩ := cnd_eq.1 e14
  obtain ⟨e17, e18⟩ := cnd_eq.1 e16
  obtain ⟨⟨n, new⟩, e19, e20⟩ := ob_eq.1 e18
  obtain ⟨e21, e22⟩ := cnd_eq.1 e20
  obtain ⟨e23, e24⟩ := cnd_eq.1 e22
  have ht := sliceElem_eq e1
  have hb : i.bytes ≠ 0 := by intro h0; rw [h0] at e13; cases e13
  have hsz : i.size ≠ 0 := by intro h0; rw [h0] at e11; cases e11
  have hb2 := ble_le e15
  have hn3 := ble_le e23
  have hzl : z.cells.size = i.size := by
    have := beq_eq e17
    rw [lenL_eq, (valCells_rel (ι := ι) z).length] at this
    simpa using this
  have hs : sizeB P el = some i.size := by simp [sizeB, ob, e7]
  obtain ⟨ls, f1, f2, f3, f4⟩ := srcA_ok e19 hh rx
  simp only at e24
  split at e24
  · rename_i l c
    obtain ⟨g1, g2⟩ := cnd_eq.1 e24
    obtain ⟨g3, g4⟩ := cnd_eq.1 g2
    obtain rfl := beq_eq g1
    obtain rfl := beq_eq g3
    cases rs
    rcases cnd_of g4 with ⟨g5, g6⟩ | ⟨g5, g6⟩
    · cases g6
      obtain rfl := beq_eq g5
      exact ⟨_, w, ι, by rw [run_append_fits ht e3 e5 hs f3 (f4 w rfl) (Nat.le_refl _)]; rfl, .flat _, Out.refl hh hn⟩
    · cases g6
      have hn0 : n ≠ 0 := by rintro rfl; cases g5
      have := grown_ok (ty := ty) (l := 0) (k := 0) (base := none) (old := []) (os := []) (Out.refl hh hn) rfl ht e3 e5 e7 e9 hzl hb hb2 f3 (f4 w.drew rfl) (run_firstCells_none _ _ _ _ _) (by omega) (by omega) .nil f1 (by simp) f2
      simpa [appL] using this
  · rename_i b o l c ex
    obtain ⟨⟨cs, el'⟩, g1, g2⟩ := ob_eq.1 e24
    obtain ⟨bk, vs, rest, s, k1, k2, k3, k4, k5⟩ := hh.cells (cells?_eq g1)
    cases rs with
    | sl _ _ _ _ _ bk' k hc hex hle hcap =>
      rw [k1] at hc; cases hc
      rcases cnd_of g2 with ⟨g3, g4⟩ | ⟨g3, g4⟩
      · obtain ⟨r, g5, g6⟩ := ob_eq.1 g4
        cases g6
        have hfit : l + n ≤ c := ble_le g3
        obtain ⟨m1, m2⟩ := k3.layAt f1 g5
        refine ⟨.slice (some ⟨bk.id, o, none⟩) (l + n) k, _, ι, ?_, .sl _ _ _ _ _ bk k k1 hex hle hcap, Out.put hh hn (cells?_eq g1) k1 k2 m2 (by simp at m1 ⊢; omega) k4 k5⟩
        rw [run_append_fits ht e3 e5 hs f3 (f4 w rfl) (by omega)]
        simp only [addr_add]
        rw [show storeCells ⟨bk.id, o + l * i.size, none⟩ ls = storeCells ⟨bk.id, Nat.add o (Nat.mul l i.size), none⟩ ls from rfl]
        rw [run_storeRow k2 m1 (f1.allOne e21)]
        rfl
      · obtain ⟨g5, g6⟩ := cnd_eq.1 g4
        obtain ⟨g7, g8⟩ := cnd_eq.1 g6
        obtain ⟨old, g9, g10⟩ := ob_eq.1 g8
        obtain ⟨g11, g12⟩ := cnd_eq.1 g10
        have hl3 := ble_le g5
        obtain ⟨m1, m2⟩ := k3.takeAt g9
        have hlen : ((vs.drop o).take (Nat.mul l i.size)).length = l * i.size := by
          have k0 : l * i.size = 0 ∨ o + l * i.size ≤ vs.length := m1
          show ((vs.drop o).take (l * i.size)).length = l * i.size
          rw [List.length_take, List.length_drop]
          omega
        have hold : (Builtin.firstCells i.size l (.slice (some ⟨bk.id, o, none⟩) l k)).run P w.drew = .ok ⟨(vs.drop o).take (Nat.mul l i.size)⟩ w.drew := by
          refine run_firstCells_some w.drew i.size l ⟨bk.id, o, none⟩ l k _ hlen fun j v hj => ?_
          rw [addr_add]
          rw [List.getElem?_take] at hj
          split at hj
          · rw [List.getElem?_drop] at hj
            have hlt := (List.getElem?_eq_some_iff.1 hj).1
            have h2 : w.drew.heap[bk.id]? = some (.cells ⟨vs ++ rest⟩ el' (0, 0)) := k2
            simp [World.cell?, h2, List.getElem?_append_left hlt, hj]
          · cases hj
        rcases cnd_of g12 with ⟨rfl, g13⟩ | ⟨rfl, g13⟩
        · cases g13
          have hk : k < l + n := by have := hex rfl; have := ble_no g3; simp at this; omega
          exact grown_ok (ty := ty) (Out.refl hh hn) rfl ht e3 e5 e7 e9 hzl hb hb2 f3 (f4 w.drew rfl) hold hk (by omega) m2 f1 hlen f2
        · obtain ⟨g14, g15⟩ := cnd_eq.1 g13
          obtain ⟨g16, g17⟩ := cnd_eq.1 g15
          obtain ⟨g18, g19⟩ := cnd_eq.1 g17
          cases g19
          obtain rfl := beq_eq g16
          obtain rfl := beq_eq g18
          have hvl : vs.length = l * i.size := by
            have := beq_eq g14
            rw [lenL_eq, k3.length] at this
            simpa using this
          have hkc := hcap rfl rfl
          rw [hs] at k4; cases k4
          have hall : (vs.drop 0).take (Nat.mul l i.size) = vs := by
            rw [List.drop_zero]; exact List.take_of_length_le (by rw [hvl]; exact Nat.le_refl _)
          rw [hall] at m2
          by_cases hk : k < l + n
          · exact grown_ok (ty := ty) (Out.kill hh hn b (by rw [cells?_eq g1]; simp)) rfl ht e3 e5 e7 e9 hzl hb hb2 f3 (f4 w.drew rfl) hold hk (by omega) (by rw [hall]; exact m2) f1 hlen f2
          · have hle2 : (l + n) * i.size ≤ k * i.size := Nat.mul_le_mul_right _ (by omega)
            rw [Nat.add_mul] at hle2
            have hrest : n * i.size ≤ rest.length := by rw [hkc] at hle2; omega
            have hle' := Nm.le_add bk hn.none
            refine ⟨.slice (some ⟨bk.id, 0, none⟩) (l + n) k, _, ι.add h.next bk, ?_, .sl _ _ _ _ _ bk k (Nm.add_same _ _ _) (fun h => by cases h) (by show l + n ≤ k; omega) (fun _ _ => hkc),
              Out.move (A := ⟨(vs ++ ls) ++ rest.drop (n * i.size)⟩) hh hn (cells?_eq g1) k1 k2 ⟨rfl, rfl, ⟨vs ++ ls, rest.drop (n * i.size), rfl, by rw [appL_eq]; exact (m2.mono hle').append (f1.mono hle')⟩, i.size, hs, ?_⟩⟩
            · rw [run_append_fits ht e3 e5 hs f3 (f4 w rfl) (by omega)]
              simp only [addr_add, Nat.zero_add]
              rw [run_storeCells_at P bk.id (l * i.size) _ ls 0 ⟨vs ++ rest⟩ w k2 (by simp; omega) (f1.allOne e21)]
              simp only [Result.andThen_ok]
              congr 2
              apply Array.ext'
              simp [hvl.symm, f2, List.drop_append, List.append_assoc]
            · simp only [List.size_toArray, List.length_append, List.length_drop, f2]
              omega
  · cases e24
end

end Go.Proofs.YtdjkbpenppdnlaaDoor

namespace Go.Proofs.YtdjkbpenppdnlaaDoor

open Go

section

variable {P : Program} {ι κ μ : Nm} {w w' w'' : World} {h h' h'' : AH}

theorem minN_eq (a b : Nat) : minN a b = Nat.min a b := by
  unfold minN
  cases e : Nat.ble a b with
  | true => rw [cnd_true]; have := ble_le e; exact (Nat.min_eq_left this).symm
  | false => rw [cnd_false]; have := ble_no e; exact (Nat.min_eq_right (by omega)).symm
theorem copyA_ok {t q ty : TypeId} {d s v : AV} {d' s' : Value} (e : copyA P h t d s = some (v, h')) (hh : HRel P ι h.objs.get w) (hn : NOk ι h.next w) (rd : VRel ι d d') (rs : VRel ι s s') :
    ∃ v' w', (Builtin.copy_ #[t, q] ty #[d', s']).run P w = .ok v' w' ∧ VRel ι v v' ∧ Out P ι h w ι h' w' := by
  obtain ⟨el, e1, e2⟩ := ob_eq.1 e
  obtain ⟨size, e3, e4⟩ := ob_eq.1 e2
  split at e4
  · rename_i b o dn dc ex
    split at e4
    · rename_i b' o' sn sc ex'
      obtain ⟨⟨ys, el1⟩, e5, e6⟩ := ob_eq.1 e4
      obtain ⟨new, e7, e8⟩ := ob_eq.1 e6
      obtain ⟨e9, e10⟩ := cnd_eq.1 e8
      obtain ⟨⟨xs, el2⟩, e11, e12⟩ := ob_eq.1 e10
      obtain ⟨r, e13, e14⟩ := ob_eq.1 e12
      cases e14
      obtain ⟨c1, vs1, rest1, s1, k1, k2, k3, k4, k5⟩ := hh.cells (cells?_eq e5)
      obtain ⟨c2, vs2, rest2, s2, j1, j2, j3, j4, j5⟩ := hh.cells (cells?_eq e11)
      obtain ⟨m1, m2⟩ := k3.takeAt e7
      obtain ⟨p1, p2⟩ := j3.layAt m2 e13
      cases rd with
      | sl _ _ _ _ _ c2' kd hc2 _ _ _ =>
        rw [j1] at hc2; cases hc2
        cases rs with
        | sl _ _ _ _ _ c1' ks hc1 _ _ _ =>
          rw [k1] at hc1; cases hc1
          have hlen : ((vs1.drop o').take (Nat.mul (minN sn dn) size)).length = minN sn dn * size := by
            have k0 : minN sn dn * size = 0 ∨ o' + minN sn dn * size ≤ vs1.length := m1
            show ((vs1.drop o').take (minN sn dn * size)).length = minN sn dn * size
            rw [List.length_take, List.length_drop]
            omega
          have hf : (Builtin.firstCells size (minN sn dn) (.slice (some ⟨c1.id, o', none⟩) sn ks)).run P w = .ok ⟨(vs1.drop o').take (Nat.mul (minN sn dn) size)⟩ w := by
            refine run_firstCells_some w size _ ⟨c1.id, o', none⟩ sn ks _ hlen fun j v hj => ?_
            rw [addr_add]
            rw [List.getElem?_take] at hj
            split at hj
            · rw [List.getElem?_drop] at hj
              have hlt := (List.getElem?_eq_some_iff.1 hj).1
              simp [World.cell?, k2, List.getElem?_append_left hlt, hj]
            · cases hj
          refine ⟨_, _, ?_, .flat _, Out.put hh hn (cells?_eq e11) j1 j2 p2 (by simp at p1 ⊢; omega) j4 j5⟩
          simp only [Builtin.copy_, List.getElem?_toArray, List.getElem?_cons_zero, List.getElem?_cons_succ, Sem.run_bind, run_und (sliceElem_eq e1), Result.andThen_ok, Builtin.lenOf, Sem.run_pure, run_size e3]
          rw [← minN_eq]
          simp only [hf, Result.andThen_ok, Sem.run_bind, Sem.run_pure]
          rw [run_storeRow j2 p1 (m2.allOne e9)]
          rfl
    · cases e4
  · cases e4
theorem HRel.putMap {g : Nat → Option AObj} (hh : HRel P ι g w) {b : Nat} {c : Blk} {es es' : List MapEntry} {k k' : Nat}
    (h1 : g b = some (.map es k)) (h2 : ι b = some c) (h3 : c.id < w.heap.size) :
    HRel P ι (fun j => if j = b then some (.map es' k') else g j) { w with heap := w.heap.setIfInBounds c.id (.map ⟨es'⟩ k') } := by
  constructor
  · intro b' o' k1 k2
    by_cases eb : b' = b
    · subst eb
      simp only [if_true] at k1
      cases k1
      exact ⟨c, .map ⟨es'⟩ k', h2, by simp [h3], rfl, rfl⟩
    · simp only [if_neg eb] at k1
      obtain ⟨c', C', e1, e2, e3⟩ := hh.obj b' o' k1 k2
      refine ⟨c', C', e1, ?_, e3⟩
      have : c.id ≠ c'.id := fun hid => eb (hh.inj _ _ _ _ _ _ k1 k2 h1 trivial e1 h2 hid.symm)
      simp [Array.getElem?_setIfInBounds, this, e2]
  · intro b1 b2 o1 o2 c1 c2 k1 k2 k3 k4 k5 k6 k7
    have conv : ∀ {x : Nat} {o : AObj}, (if x = b then some (AObj.map es' k') else g x) = some o → Live o → ∃ o', g x = some o' ∧ Live o' := by
      intro x o hx ho
      by_cases ex : x = b
      · subst ex; exact ⟨_, h1, trivial⟩
      · rw [if_neg ex] at hx; exact ⟨o, hx, ho⟩
    obtain ⟨o1', m1, m2⟩ := conv k1 k2
    obtain ⟨o2', m3, m4⟩ := conv k3 k4
    exact hh.inj _ _ _ _ _ _ m1 m2 m3 m4 k5 k6 k7
theorem updateA_ok {t : TypeId} {m k v : AV} {m' k' v' : Value} (e : updateA P h t m k v = some h') (hh : HRel P ι h.objs.get w) (hn : NOk ι h.next w) (rm : VRel ι m m') (rk : VRel ι k k') (rv : VRel ι v v') :
    ∃ w', (Instr.mapUpdate t m' k' v').run P w = .ok () w' ∧ Out P ι h w ι h' w' := by
  cases m <;> simp only [updateA] at e <;> first | cases e | skip
  rename_i b
  obtain ⟨⟨es, clock⟩, e1, e2⟩ := ob_eq.1 e
  obtain ⟨⟨kt, el⟩, e3, e4⟩ := ob_eq.1 e2
  obtain ⟨kv, e5, e6⟩ := ob_eq.1 e4
  obtain ⟨vv, e7, e8⟩ := ob_eq.1 e6
  obtain ⟨r, e9, e10⟩ := ob_eq.1 e8
  obtain rfl := rk.unflat e5
  obtain rfl := rv.unflat e7
  cases r with
  | some q => cases e10
  | none =>
    cases e10
    obtain ⟨c, g1, g2⟩ := hh.map (map?_eq e1)
    have hlt : c.id < w.heap.size := (Array.getElem?_eq_some_iff.1 g2).1
    have h2 := pureRun_run _ e9 w
    simp only [Sem.run_bind] at h2
    cases rm with
    | mp _ c' hc =>
      rw [g1] at hc; cases hc
      refine ⟨{ w with heap := w.heap.setIfInBounds c.id (.map ⟨appL es [{ key := k', val := v', born := clock }]⟩ (Nat.succ clock)) }, ?_, ?_⟩
      rotate_left
      · refine ⟨?_, by rw [get_put_fn]; exact hh.putMap (map?_eq e1) g1 hlt, fun k d hk => ⟨(hn k d hk).1, by simpa using (hn k d hk).2⟩, Nat.le_refl _, fun _ _ => rfl, fun k hk e => by rw [get_put]; split <;> simp_all [map?_eq e1], fun k e => by rw [get_put]; split <;> simp_all⟩
        rw [get_put_fn]
        refine ⟨Nm.le_refl _, by simp, fun k hk hno => ?_, ?_, rfl, rfl, rfl⟩
        · have : c.id ≠ k := fun hid => hno b _ c (map?_eq e1) trivial g1 hid
          simp [Array.getElem?_setIfInBounds, this]
        · intro b' o' c' k1 k2 k3 _
          by_cases eb : b' = b
          · subst eb; rw [g1] at k3; cases k3; exact ⟨_, _, _, map?_eq e1, ⟨trivial, fun _ => trivial⟩, g1, rfl⟩
          · simp only [if_neg eb] at k1; exact ⟨_, _, _, k1, ⟨k2, id⟩, k3, rfl⟩
      · have hg : (getObj c.id).run P w = .ok (.map ⟨es⟩ clock) w := by simp [getObj, Sem.run, g2]
        have hset : ∀ o, (setObj c.id o).run P w = .ok () { w with heap := w.heap.setIfInBounds c.id o } := fun o => by simp [setObj, Sem.run, g2]
        simp only [Instr.mapUpdate, Sem.run_bind, run_und (mapOf_eq e3), Result.andThen_ok, hg]
        cases hc : (Instr.checkKey false 10000 kt k').run P w with
        | halt hx w1 => rw [hc] at h2; cases h2
        | ok a w1 =>
          rw [hc] at h2
          simp only [Result.andThen_ok] at h2 ⊢
          cases hf : (Instr.findKey kt k' es).run P w1 with
          | halt hx w2 => rw [hf] at h2; cases h2
          | ok q w2 =>
            rw [hf] at h2
            cases h2
            simp only [Result.andThen_ok, hset]
            rw [appL_eq]
            congr 3
            simp

theorem clearA_ok {t ty : TypeId} {s v : AV} {s' : Value} (e : clearA P h t s = some (v, h')) (hh : HRel P ι h.objs.get w) (hn : NOk ι h.next w) (rs : VRel ι s s') :
    ∃ v' w', (Builtin.clear_ #[t] ty #[s']).run P w = .ok v' w' ∧ VRel ι v v' ∧ Out P ι h w ι h' w' := by
  obtain ⟨d, e0, e1⟩ := ob_eq.1 e
  unfold clearV at e1
  split at e1
  · rename_i b o n m ex
    cases rs with
    | sl _ _ _ _ _ c k hc _ _ _ =>
      rcases cnd_of (show cnd (Nat.beq n 0) _ _ = some (v, h') from e1) with ⟨e2, e3⟩ | ⟨e2, e3⟩
      · cases e3
        obtain rfl := beq_eq e2
        refine ⟨.tuple #[], w, ?_, .flat _, Out.refl hh hn⟩
        simp [Builtin.clear_, run_und e0]
      · obtain ⟨el, e4, e5⟩ := ob_eq.1 e3
        obtain ⟨z, e6, e7⟩ := ob_eq.1 e5
        obtain ⟨⟨xs, el2⟩, e8, e9⟩ := ob_eq.1 e7
        obtain ⟨e10, e11⟩ := cnd_eq.1 e9
        obtain ⟨r, e12, e13⟩ := ob_eq.1 e11
        cases e13
        obtain ⟨c2, vs2, rest2, s2, j1, j2, j3, j4, j5⟩ := hh.cells (cells?_eq e8)
        rw [j1] at hc; cases hc
        have rz : LRel ι (repeatA (valCells z) n) (List.replicate n z.cells.toList).flatten := repeatA_rel (valCells_rel z) n
        obtain ⟨p1, p2⟩ := j3.layAt rz e12
        have hn0 : n ≠ 0 := by rintro rfl; cases e2
        have hz : (Builtin.zeroCells z.cells n).toList = (List.replicate n z.cells.toList).flatten := by
          unfold Builtin.zeroCells
          rw [array_cyc]
        refine ⟨.tuple #[], _, ?_, .flat _, Out.put hh hn (cells?_eq e8) j1 j2 p2 (by simp at p1 ⊢; omega) j4 j5⟩
        have hu := sliceElem_eq e4
        cases n with
        | zero => exact absurd rfl hn0
        | succ n =>
          simp only [Builtin.clear_, List.getElem?_toArray, List.getElem?_cons_zero, Sem.run_bind, run_und hu, Result.andThen_ok, run_zero e6, hz, run_storeRow j2 p1 (rz.allOne e10), Sem.run_pure]
  · cases rs
    cases e1
    refine ⟨.tuple #[], w, ?_, .flat _, Out.refl hh hn⟩
    simp [Builtin.clear_, run_und e0]
  · cases e1

/-- what comes next, as the world sees it -/
def NxOk (P : Program) (κ : Nm) (ρ' : Operand → Value) (o : Oper) (w w' : World) : ANx → Prop
  | .value v => ∃ v', (execOp ρ' o).run P w = .ok (.value v') w' ∧ VRel κ v v'
  | .skip => (execOp ρ' o).run P w = .ok .skip w'
  | .enter f args => ∃ args', (execOp ρ' o).run P w = .ok (.enter f args') w' ∧ LRel κ args args'.toList
  | .round b args => ∃ c args', κ b = some c ∧ LRel κ args args'.toList ∧ w' = w ∧ (execOp ρ' o).run P w = (Instr.yield c.id args').run P w
theorem run_builtin_append {ρ' : Operand → Value} {o : Oper} {c : Call} (ho : o.op = .call c) (hc : c.callee = .builtin .append) :
    (execOp ρ' o).run P w = ((Builtin.append_ c.argTypes o.type (c.args.map ρ')).run P w).andThen fun v w' => .ok (.value v) w' := by
  simp only [execOp, ho, resolve, hc, invoke, builtin, Sem.run_bind, Sem.run_pure, Result.andThen_ok]
theorem run_builtin_copy {ρ' : Operand → Value} {o : Oper} {c : Call} (ho : o.op = .call c) (hc : c.callee = .builtin .copy) :
    (execOp ρ' o).run P w = ((Builtin.copy_ c.argTypes o.type (c.args.map ρ')).run P w).andThen fun v w' => .ok (.value v) w' := by
  simp only [execOp, ho, resolve, hc, invoke, builtin, Sem.run_bind, Sem.run_pure, Result.andThen_ok]
theorem run_builtin_clear {ρ' : Operand → Value} {o : Oper} {c : Call} (ho : o.op = .call c) (hc : c.callee = .builtin .clear) :
    (execOp ρ' o).run P w = ((Builtin.clear_ c.argTypes o.type (c.args.map ρ')).run P w).andThen fun v w' => .ok (.value v) w' := by
  simp only [execOp, ho, resolve, hc, invoke, builtin, Sem.run_bind, Sem.run_pure, Result.andThen_ok]
theorem one_arg {l : List AV} {xs : Array Value} {a : AV} (r : LRel ι l xs.toList) (e : l = [a]) : ∃ x, xs = #[x] ∧ VRel ι a x := by
  subst e
  cases hx : xs.toList with
  | nil => rw [hx] at r; cases r
  | cons x ys =>
    rw [hx] at r
    cases r with
    | cons _ _ _ _ r1 r2 =>
      cases r2
      exact ⟨x, by apply Array.ext'; simpa using hx, r1⟩
theorem two_args {l : List AV} {xs : Array Value} {a b : AV} (r : LRel ι l xs.toList) (e : l = [a, b]) : ∃ x y, xs = #[x, y] ∧ VRel ι a x ∧ VRel ι b y := by
  subst e
  cases hx : xs.toList with
  | nil => rw [hx] at r; cases r
  | cons x ys =>
    rw [hx] at r
    cases r with
    | cons _ _ _ _ r1 r2 =>
      cases r2 with
      | cons _ y _ ys r2 r3 =>
        cases r3
        exact ⟨x, y, by apply Array.ext'; simpa using hx, r1, r2⟩
theorem run_callFunc {f : FuncId} {args : Array Value} (hc : callable P f = true) : (callFunc f args).run P w = .ok (.enter f args) w := by
  unfold callable at hc
  cases hf : P.funcs[f]? with
  | none => rw [hf] at hc; cases hc
  | some fn =>
    rw [hf] at hc
    obtain ⟨h1, h2⟩ := (show fn.body.isSome = true ∧ (!(fn.name == "runtime.NumGoroutine")) = true by
      rcases cnd_of (show cnd fn.body.isSome (!(fn.name == "runtime.NumGoroutine")) false = true from hc) with ⟨a, b⟩ | ⟨_, b⟩
      · exact ⟨a, b⟩
      · cases b)
    have h2' : (fn.name == "runtime.NumGoroutine") = false := by simpa using h2
    have h3 : fn.body.isNone = false := by cases hb : fn.body <;> simp_all
    simp only [callFunc, Sem.run_bind, run_program, Result.andThen_ok, hf, h2', h3, Bool.false_eq_true, if_false, Sem.run_pure]
theorem enterA_ok {ρ : Operand → AV} {ρ' : Operand → Value} {o : Oper} {c : Call} {f : Operand} {n : ANx} (ho : o.op = .call c) (hc : c.callee = .value f)
    (e : enterA P (mapA ρ c.args.toList) (ρ f) = some n) (hr : ∀ x ∈ o.op.operands, VRel ι (ρ x) (ρ' x)) : NxOk P ι ρ' o w w n := by
  have ha := args_rel ho hr
  have hf := hr f (by rw [ho]; simp [Op.operands, Call.operands, hc])
  generalize hx : ρ' f = x' at hf
  have key : ∀ {g : FuncId} {l : List AV} {fl cl : List Value}, x' = .func (.func g) ⟨fl⟩ ⟨cl⟩ → callable P g = true → LRel ι l (fl ++ (c.args.map ρ').toList ++ cl) → NxOk P ι ρ' o w w (.enter g l) := by
    intro g l fl cl h1 h2 h3
    refine ⟨(⟨fl⟩ : Array Value) ++ c.args.map ρ' ++ ⟨cl⟩, ?_, by simpa using h3⟩
    simp only [execOp, ho, resolve, hc, hx, h1, Deferred.ofValue, Sem.run_bind, Sem.run_pure, Result.andThen_ok, invoke, run_callFunc h2]
  unfold enterA at e
  split at e
  · rename_i g first cap hg
    obtain ⟨e1, e2⟩ := cnd_eq.1 e
    cases e2
    rw [hg] at hf
    cases hf
    refine key (fl := first.toList) (cl := cap.toList) rfl e1 ?_
    rw [appL_eq, appL_eq, List.append_assoc]
    exact (LRel.flats _).append (ha.append (LRel.flats _))
  · rename_i g first cap hg
    obtain ⟨e1, e2⟩ := cnd_eq.1 e
    cases e2
    rw [hg] at hf
    cases hf with
    | fn _ _ _ l r h1 h2 =>
      refine key (fl := l) (cl := r) rfl e1 ?_
      rw [appL_eq, appL_eq, List.append_assoc]
      exact h1.append (ha.append h2)
  · rename_i b hg
    cases e
    rw [hg] at hf
    cases hf with
    | yl _ cc hcc =>
      refine ⟨cc, c.args.map ρ', hcc, ha, rfl, ?_⟩
      simp only [execOp, ho, resolve, hc, hx, Deferred.ofValue, Sem.run_bind, Sem.run_pure, Result.andThen_ok, invoke]
      simp
  · cases e
theorem skipNx_eq {x : Option AH} {n : ANx} (e : skipNx x = some (n, h')) : n = .skip ∧ x = some h' := by
  obtain ⟨q, e1, e2⟩ := ob_eq.1 e
  cases e2; exact ⟨rfl, e1⟩
theorem valNx_eq {x : Option (AV × AH)} {n : ANx} (e : valNx x = some (n, h')) : ∃ v, n = .value v ∧ x = some (v, h') := by
  obtain ⟨q, e1, e2⟩ := ob_eq.1 e
  cases e2; exact ⟨_, rfl, e1⟩
theorem invokeA_ok {ρ : Operand → AV} {ρ' : Operand → Value} {o : Oper} {c : Call} {f : Operand} {name : String} {n : ANx} (ho : o.op = .call c) (hc : c.callee = .invoke f name)
    (e : invokeA P name (mapA ρ c.args.toList) (ρ f) = some n) (hr : ∀ x ∈ o.op.operands, VRel ι (ρ x) (ρ' x)) : NxOk P ι ρ' o w w n := by
  have ha := args_rel ho hr
  have hf := hr f (by rw [ho]; simp [Op.operands, Call.operands, hc])
  generalize hx : ρ' f = x' at hf
  unfold invokeA at e
  split at e
  · rename_i t v hg
    obtain ⟨g, e1, e2⟩ := ob_eq.1 e
    obtain ⟨e3, e4⟩ := cnd_eq.1 e2
    cases e4
    rw [hg] at hf
    cases hf with
    | ifc _ _ u h5 =>
      refine ⟨#[u] ++ c.args.map ρ', ?_, ?_⟩
      · have hex : (#[Value.iface t u] ++ c.args.map ρ').extract 1 (#[Value.iface t u] ++ c.args.map ρ').size = c.args.map ρ' := by
          apply Array.ext'; simp; exact List.take_of_length_le (by simp)
        have h0 : (#[Value.iface t u] ++ c.args.map ρ')[0]? = some (Value.iface t u) := by simp [Array.getElem?_append]
        simp only [execOp, ho, resolve, hc, hx, Sem.run_bind, Sem.run_pure, Result.andThen_ok, invoke, h0, hex, callMethod, run_program, Made.depth, run_valMethod e1, run_callFunc e3]
      · have : (#[u] ++ c.args.map ρ').toList = u :: (c.args.map ρ').toList := by simp
        rw [this]; exact .cons _ _ _ _ h5 ha
  · cases e
theorem aactOp_ok {ρ : Operand → AV} {ρ' : Operand → Value} {o : Oper} {n : ANx} (e : aactOp P ρ h o.op = some (n, h')) (hh : HRel P ι h.objs.get w) (hn : NOk ι h.next w) (hr : ∀ x ∈ o.op.operands, VRel ι (ρ x) (ρ' x)) :
    ∃ κ w', Out P ι h w κ h' w' ∧ NxOk P κ ρ' o w w' n := by
  cases ho : o.op <;> rw [ho] at e hr <;> simp only [aactOp] at e <;> first | cases e | skip
  case store t a x =>
    obtain ⟨rfl, e1⟩ := skipNx_eq e
    obtain ⟨w', h1, h2⟩ := storeA_ok e1 hh hn (hr a (by simp [Op.operands])) (hr x (by simp [Op.operands]))
    exact ⟨ι, w', h2, by simp only [NxOk, execOp, ho, Sem.run_bind, h1, Result.andThen_ok, Sem.run_pure]⟩
  case mapUpdate t m k x =>
    obtain ⟨rfl, e1⟩ := skipNx_eq e
    obtain ⟨w', h1, h2⟩ := updateA_ok e1 hh hn (hr m (by simp [Op.operands])) (hr k (by simp [Op.operands])) (hr x (by simp [Op.operands]))
    exact ⟨ι, w', h2, by simp only [NxOk, execOp, ho, Sem.run_bind, h1, Result.andThen_ok, Sem.run_pure]⟩
  case call c =>
    rw [← ho] at hr
    have ha := args_rel ho hr
    cases hb : c.callee <;> rw [hb] at e <;> simp only [actCallA] at e <;> first | cases e | skip
    · obtain ⟨q, e1, e2⟩ := ob_eq.1 e
      cases e2
      exact ⟨ι, w, Out.refl hh hn, enterA_ok ho hb e1 hr⟩
    · obtain ⟨q, e1, e2⟩ := ob_eq.1 e
      cases e2
      exact ⟨ι, w, Out.refl hh hn, invokeA_ok ho hb e1 hr⟩
    · rename_i b
      cases b <;> simp only [actBltA] at e <;> first | cases e | skip
      · obtain ⟨v, rfl, e1⟩ := valNx_eq e
        unfold appendOpA at e1
        split at e1
        · rename_i s x t u h1 h2
          obtain ⟨x', y', h3, r1, r2⟩ := two_args ha h1
          have h4 : c.argTypes = #[t, u] := by apply Array.ext'; simpa using h2
          obtain ⟨v', w', κ, f1, f2, f3⟩ := appendA_ok (ty := o.type) e1 hh hn r1 r2
          exact ⟨κ, w', f3, v', by rw [run_builtin_append ho hb, h3, h4, f1]; rfl, f2⟩
        · cases e1
      · obtain ⟨v, rfl, e1⟩ := valNx_eq e
        unfold clearOpA at e1
        split at e1
        · rename_i s t h1 h2
          obtain ⟨x', h3, r1⟩ := one_arg ha h1
          have h4 : c.argTypes = #[t] := by apply Array.ext'; simpa using h2
          obtain ⟨v', w', f1, f2, f3⟩ := clearA_ok (ty := o.type) e1 hh hn r1
          exact ⟨ι, w', f3, v', by rw [run_builtin_clear ho hb, h3, h4, f1]; rfl, f2⟩
        · cases e1
      · obtain ⟨v, rfl, e1⟩ := valNx_eq e
        unfold copyOpA at e1
        split at e1
        · rename_i s x t u h1 h2
          obtain ⟨x', y', h3, r1, r2⟩ := two_args ha h1
          have h4 : c.argTypes = #[t, u] := by apply Array.ext'; simpa using h2
          obtain ⟨v', w', f1, f2, f3⟩ := copyA_ok (q := u) (ty := o.type) e1 hh hn r1 r2
          exact ⟨ι, w', f3, v', by rw [run_builtin_copy ho hb, h3, h4, f1]; rfl, f2⟩
        · cases e1
end

end Go.Proofs.YtdjkbpenppdnlaaDoor

namespace Go.Proofs.YtdjkbpenppdnlaaDoor

open Go

structure ARel (ι : Nm) (sz : Nat) (T : TM) (a : Act) : Prop where
  size : a.tmps.size = sz
  val : ∀ t, VRel ι (tat T t) (a.tmps.getD t undef)
/-- what a call comes to -/
def CallRel (P : Program) (ι : Nm) (h : AH) (w : World) (v : AV) (h' : AH) : Ending → World → Prop := fun e w' => ∃ κ v', e = .returned v' ∧ VRel κ v v' ∧ Out P ι h w κ h' w'
/-- the fence that shuts nothing out, for a frame of a function, or of a round of the loop l -/
abbrev FW (r : Option Nat) : Fence := { fn := fun _ => True, depth := none, alive := false, round := r }
structure CallOk (P : Program) (call : CallA) : Prop where
  fn : ∀ f args h v h', call (.fn f) args h = some (v, h') → ∀ ι w (vals : Array Value), HRel P ι h.objs.get w → NOk ι h.next w → LRel ι args vals.toList → CallsIn (FW none) 0 P f vals w (CallRel P ι h w v h')
  rnd : ∀ b args h v h', call (.rnd b) args h = some (v, h') → ∀ ι w (vals : Array Value), HRel P ι h.objs.get w → NOk ι h.next w → LRel ι args vals.toList →
    ∃ c L, ι b = some c ∧ w.heap[c.id]? = some (.loop L) ∧ vals.size = L.params.size ∧
      RoundIn (FW none) 0 P c.id L.fn ((L.params.zip vals).foldl (fun tmps (t, a) => tmps.setIfInBounds t a) L.tmps) L.assign L.body w (CallRel P ι h w v h')
theorem callsIn_fw {r : Option Nat} {P : Program} {f : FuncId} {args : Array Value} {w : World} {R : Ending → World → Prop} (h : CallsIn (FW none) 0 P f args w R) : CallsIn (FW r) 0 P f args w R := h
theorem roundIn_fw {r : Option Nat} {P : Program} {l : Nat} {f : FuncId} {tmps : Array Value} {assign body : Code} {w : World} {R : Ending → World → Prop} (h : RoundIn (FW none) 0 P l f tmps assign body w R) : RoundIn (FW r) 0 P l f tmps assign body w R := h
theorem nd_act {P : Program} {ρ : Operand → AV} {h : AH} {op : Op} {x : ANx × AH} (e : aactOp P ρ h op = some x) : ∀ c, op ≠ .defer c := by
  rintro c rfl; simp [aactOp] at e
theorem nd_pure {P : Program} {ρ : Operand → AV} {h : AH} {t : TypeId} {op : Op} {x : AV} (e : apureOp P ρ h t op = some x) : ∀ c, op ≠ .defer c := by
  rintro c rfl; simp [apureOp] at e
theorem nd_maker {P : Program} {ρ : Operand → AV} {b : Nat} {op : Op} {x : AV × AObj} (e : makerOp P ρ b op = some x) : ∀ c, op ≠ .defer c := by
  rintro c rfl; simp [makerOp] at e
theorem wp_value {r : Option Nat} {P : Program} {o : Oper} {a : Act} {w w1 : World} {v' : Value} {K : Act → World → Prop} {Q : Exit → Act → World → Prop} (hd : ∀ c, o.op ≠ .defer c)
    (g1 : (execOp a.eval o).run P w = .ok (.value v') w1) (hK : K (a.put o.dst v') w1) : o.wpIn (FW r) 0 P a w K Q := ⟨fun _ _ => trivial, by rw [Oper.semAt_eq _ _ _ hd, g1]; exact hK⟩
theorem wp_skipV {r : Option Nat} {P : Program} {o : Oper} {a : Act} {w w1 : World} {K : Act → World → Prop} {Q : Exit → Act → World → Prop} (hd : ∀ c, o.op ≠ .defer c)
    (g1 : (execOp a.eval o).run P w = .ok .skip w1) (hK : K (a.put o.dst undef) w1) : o.wpIn (FW r) 0 P a w K Q := ⟨fun _ _ => trivial, by rw [Oper.semAt_eq _ _ _ hd, g1]; exact hK⟩

section

variable {P : Program} {ι κ μ : Nm} {w w' w'' : World} {h h' h'' : AH} {sz : Nat} {T T' : TM} {a a' : Act} {Q : Exit → Act → World → Prop} {call : CallA} {r : Option Nat}

theorem ARel.mono (hle : Nm.le ι κ) (r : ARel ι sz T a) : ARel κ sz T a := ⟨r.size, fun t => (r.val t).mono hle⟩
theorem ARel.op (r : ARel ι sz T a) (x : Operand) : VRel ι (evO T x) (a.eval x) := by
  cases x with
  | tmp t => exact r.val t
  | const v => exact .flat v
  | global g => exact .flat _
  | func f => exact .flat _
theorem tat_set (T : TM) (t : Nat) (v : AV) (k : Nat) : tat (T.set t v) k = if k = t then v else tat T k := by
  unfold tat
  rw [Tr.get_set]
  by_cases e : k = t
  · simp [e, optOr]
  · simp [e]
theorem ARel.put {d : Option Nat} {v : AV} {v' : Value} (e : putA sz T d v = some T') (r : ARel ι sz T a) (rv : VRel ι v v') : ARel ι sz T' (a.put d v') := by
  cases d with
  | none => cases (show some T = some T' from e); exact r
  | some t =>
    obtain ⟨e1, e2⟩ := cnd_eq.1 (show cnd (Nat.ble (Nat.succ t) sz) (some (T.set t v)) none = some T' from e)
    cases e2
    have hlt := ble_le e1
    refine ⟨by simp [Act.put, r.size], fun k => ?_⟩
    rw [tat_set]
    by_cases ek : k = t
    · subst ek
      rw [if_pos rfl]
      have : (a.put (some k) v').tmps.getD k undef = v' := by
        simp [Act.put, Array.getD_eq_getD_getElem?, r.size]
        intro h; omega
      rw [this]; exact rv
    · rw [if_neg ek]
      have : (a.put (some t) v').tmps.getD k undef = a.tmps.getD k undef := by
        simp [Act.put, Array.getD_eq_getD_getElem?, Array.getElem?_setIfInBounds, Ne.symm ek]
      rw [this]; exact r.val k
theorem put_defers (d : Option Nat) (v : Value) : (a.put d v).defers = a.defers := by cases d <;> rfl
theorem undef_rel : VRel ι AV.undef undef := .flat _
theorem bool_of {t : Nat} {b : Bool} (r : VRel ι (tat T t) (a.tmps.getD t undef)) (e : tat T t = .flat (.bool b)) : a.tmps[t]? = some (.bool b) := by
  rw [e] at r
  generalize hx : a.tmps.getD t undef = x at r
  cases r
  rw [Array.getD_eq_getD_getElem?] at hx
  cases h : a.tmps[t]? with
  | none => rw [h] at hx; cases hx
  | some y => rw [h] at hx; simp at hx; rw [hx]
theorem wanted_of_val {ops : Array Oper} {o : Oper} (r : ∀ g p d, o.guard = some g → ops[g.1]? = some p → p.dst = some d → VRel ι (tat T d) (a.tmps.getD d undef)) : Region.wanted o (yielded ops a.tmps) = wantA ops.toList T o := by
  unfold Region.wanted wantA
  cases hg : o.guard with
  | none => rfl
  | some g =>
    obtain ⟨j, want⟩ := g
    simp only [optCase_some]
    rw [nth_eq]
    unfold yielded
    rw [Array.getElem?_toList]
    cases hp : ops[j]? with
    | none => rfl
    | some p =>
      simp only [optCase_some, Option.bind_some]
      cases hd : p.dst with
      | none => rfl
      | some d =>
        simp only [optCase_some, Option.bind_some]
        have rv := r (j, want) p d hg hp hd
        cases ht : tat T d with
        | flat v =>
          cases v with
          | bool b =>
            rw [bool_of rv ht]
            cases b <;> cases want <;> rfl
          | _ =>
            have hf : boolIs want (tat T d) = false := by rw [ht]; rfl
            rw [ht] at hf
            rw [hf]
            rw [ht] at rv
            generalize hx : a.tmps.getD d undef = x at rv
            cases rv
            rw [Array.getD_eq_getD_getElem?] at hx
            cases hy : a.tmps[d]? with
            | none => rfl
            | some y => rw [hy] at hx; simp at hx; subst hx; rfl
        | _ =>
            have hf : boolIs want (tat T d) = false := by rw [ht]; rfl
            rw [ht] at hf
            rw [hf]
            rw [ht] at rv
            generalize hx : a.tmps.getD d undef = x at rv
            cases rv
            rw [Array.getD_eq_getD_getElem?] at hx
            cases hy : a.tmps[d]? with
            | none => rfl
            | some y => rw [hy] at hx; simp at hx; subst hx; rfl

/-- an act of the evaluator and its call, in the world -/
theorem act_wp {ρ : Operand → AV} {o : Oper} {n : ANx} {h1 : AH} {v : AV} {K : Act → World → Prop} (hc : CallOk P call) (e : aactOp P ρ h o.op = some (n, h1)) (e2 : nextA call (n, h1) = some (v, h'))
    (hh : HRel P ι h.objs.get w) (hn : NOk ι h.next w) (hr : ∀ x ∈ o.op.operands, VRel ι (ρ x) (a.eval x))
    (hK : ∀ κ v' w', Out P ι h w κ h' w' → VRel κ v v' → K (a.put o.dst v') w') : o.wpIn (FW r) 0 P a w K Q := by
  have hd := nd_act e
  obtain ⟨κ, w1, ho, hx⟩ := aactOp_ok (ρ' := a.eval) e hh hn hr
  cases n with
  | value u =>
    cases (show some (u, h1) = some (v, h') from e2)
    obtain ⟨v', g1, g2⟩ := hx
    exact wp_value hd g1 (hK κ v' w1 ho g2)
  | skip =>
    cases (show some (AV.undef, h1) = some (v, h') from e2)
    have g1 : (execOp a.eval o).run P w = .ok .skip w1 := hx
    exact wp_skipV hd g1 (hK κ undef w1 ho undef_rel)
  | enter f args =>
    obtain ⟨args', g1, g2⟩ := hx
    refine ⟨fun _ _ => trivial, ?_⟩
    rw [Oper.semAt_eq _ _ _ hd, g1, Oper.uponIn_enter]
    refine ⟨fun hx => by simp at hx, callsIn_fw ((hc.fn f args h1 v h' e2 κ w1 args' ho.hrel ho.nok g2).mono fun en w2 hen => ?_)⟩
    obtain ⟨μ, v', rfl, g3, g4⟩ := hen
    exact hK μ v' w2 (ho.trans g4) g3
  | round b args =>
    obtain ⟨c, args', g0, g2, rfl, g1⟩ := hx
    obtain ⟨c2, L, f1, f2, f3, f4⟩ := hc.rnd b args h1 v h' e2 κ w1 args' ho.hrel ho.nok g2
    rw [g0] at f1; cases f1
    refine ⟨fun _ _ => trivial, ?_⟩
    rw [Oper.semAt_eq _ _ _ hd, g1, run_yield f2 f3, Oper.uponIn_round]
    refine ⟨fun hx => by simp at hx, roundIn_fw (f4.mono fun en w2 hen => ?_)⟩
    obtain ⟨μ, v', rfl, g3, g4⟩ := hen
    exact hK μ v' w2 (ho.trans g4) g3
theorem stepK_wp {o : Oper} {v : AV} {k : Nat} {K : Act → World → Prop} (hc : CallOk P call) (e : stepK P call o T h k = some (v, h'))
    (ra : ARel ι sz T a) (hh : HRel P ι h.objs.get w) (hn : NOk ι h.next w)
    (hK : ∀ κ v' w', Out P ι h w κ h' w' → VRel κ v v' → K (a.put o.dst v') w') : o.wpIn (FW r) 0 P a w K Q := by
  have hr : ∀ x ∈ o.op.operands, VRel ι (evO T x) (a.eval x) := fun x _ => ra.op x
  rcases cnd_of (show cnd (Nat.ble k 1) _ _ = some (v, h') from e) with ⟨_, e1⟩ | ⟨_, e1⟩
  · obtain ⟨u, e2, e3⟩ := ob_eq.1 e1
    cases e3
    obtain ⟨v', g1, g2⟩ := apureOp_ok (ρ' := a.eval) e2 hh hr
    exact wp_value (nd_pure e2) g1 (hK ι v' w (Out.refl hh hn) g2)
  · rcases cnd_of e1 with ⟨_, e2⟩ | ⟨_, e2⟩
    · obtain ⟨⟨u, ob'⟩, e3, e4⟩ := ob_eq.1 e2
      cases e4
      obtain ⟨v', C, cap, g1, g2, g3, g4⟩ := makerOp_ok (ρ' := a.eval) (w := w) e3 hn.none hr
      exact wp_value (nd_maker e3) g1 (hK _ v' _ (Out.new hh hn g3) g2)
    · obtain ⟨⟨n, h1⟩, e3, e4⟩ := ob_eq.1 e2
      exact act_wp hc e3 e4 hh hn hr hK

theorem evOps_ok {ops : Array Oper} (hc : CallOk P call) : ∀ (l : List Oper) (m : Nat) (T : TM) (h : AH) (ι : Nm) (a : Act) (w : World), ops.toList.drop m = l →
    evOps P call sz ops.toList l T h = some (T', h') → ARel ι sz T a → HRel P ι h.objs.get w → NOk ι h.next w →
    (∀ κ a' w', Out P ι h w κ h' w' → ARel κ sz T' a' → a'.defers = a.defers → Q .normal a' w') → wpOpsIn (FW r) 0 P ops Q (List.range' m l.length) a w
  | [], m, T, h, ι, a, w, hl, e, ra, hh, hn, hQ => by
    cases (show some (T, h) = some (T', h') from e)
    exact hQ ι a w (Out.refl hh hn) ra rfl
  | o :: l, m, T, h, ι, a, w, hl, e, ra, hh, hn, hQ => by
    obtain ⟨⟨v, h1⟩, e1, e2⟩ := ob_eq.1 (show ob (stepA P call ops.toList o T h) _ = some (T', h') from e)
    obtain ⟨T1, e3, e4⟩ := ob_eq.1 e2
    have ho : ops[m]? = some o := by
      have := congrArg (fun x => x[0]?) hl
      simpa using this
    have hl' : ops.toList.drop (m + 1) = l := by
      have := congrArg List.tail hl
      simpa using this
    have hnext : ∀ κ v' w', Out P ι h w κ h1 w' → VRel κ v v' → wpOpsIn (FW r) 0 P ops Q (List.range' (m + 1) l.length) (a.put o.dst v') w' := fun κ v' w' k1 k2 =>
      evOps_ok hc l (m + 1) T1 h1 κ _ w' hl' e4 ((ra.mono k1.le).put e3 k2) k1.hrel k1.nok fun μ a' w'' g1 g2 g3 => hQ μ a' w'' (k1.trans g1) g2 (by rw [g3, put_defers])
    rw [List.length_cons, List.range'_succ]
    simp only [wpOpsIn, ho]
    rw [wanted_of_val (T := T) (ι := ι) fun g p d _ _ _ => ra.val d]
    rcases cnd_of (show cnd (wantA ops.toList T o) (stepK P call o T h (kindOf o.op)) (some (.undef, h)) = some (v, h1) from e1) with ⟨e5, e6⟩ | ⟨e5, e6⟩
    · rw [if_pos e5]
      exact stepK_wp hc e6 ra hh hn hnext
    · rw [if_neg (by rw [e5]; simp)]
      cases e6
      exact ⟨fun _ _ => trivial, hnext ι undef w (Out.refl hh hn) undef_rel⟩
end

end Go.Proofs.YtdjkbpenppdnlaaDoor
