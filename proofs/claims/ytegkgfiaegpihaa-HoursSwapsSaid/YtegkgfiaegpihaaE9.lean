/- The operations that write or call: all of them together. -/
import Derived.Test.YtegkgfiaegpihaaE8
set_option linter.unusedSimpArgs false
set_option linter.unusedVariables false
namespace Go.Proofs.Ytegkgfiaegpihaa
open Go

section
variable {P : Program} {ι κ μ : Nm} {w w' w'' : World} {h h' h'' : AH}

theorem minN_eq (a b : Nat) : minN a b = Nat.min a b := by
  unfold minN
  cases e : Nat.ble a b with
  | true => rw [cnd_true]; have := ble_le e; exact (Nat.min_eq_left this).symm
  | false => rw [cnd_false]; have := ble_no e; exact (Nat.min_eq_right (by omega)).symm
theorem copyA_ok {t q ty : TypeId} {d s v : AV} {d' s' : Value} (e : copyA P h t d s = some (v, h')) (hh : HRel P ι h.objs.get w) (hn : NOk ι h.next w) (rd : VRel ι d d') (rs : VRel ι s s') :
    ∃ v' w', (Builtin.copy_ #[t, q] ty #[d', s']).run P w = .ok v' w' ∧ VRel ι v v' ∧ Out P ι h w ι h' w' := by
  obtain ⟨el, e1, e2⟩ := ob_eq.1 e
  obtain ⟨size, e3, e4⟩ := ob_eq.1 e2
  split at e4
  · rename_i b o dn dc ex
    split at e4
    · rename_i b' o' sn sc ex'
      obtain ⟨⟨ys, el1⟩, e5, e6⟩ := ob_eq.1 e4
      obtain ⟨new, e7, e8⟩ := ob_eq.1 e6
      obtain ⟨e9, e10⟩ := cnd_eq.1 e8
      obtain ⟨⟨xs, el2⟩, e11, e12⟩ := ob_eq.1 e10
      obtain ⟨r, e13, e14⟩ := ob_eq.1 e12
      cases e14
      obtain ⟨c1, vs1, rest1, s1, k1, k2, k3, k4, k5⟩ := hh.cells (cells?_eq e5)
      obtain ⟨c2, vs2, rest2, s2, j1, j2, j3, j4, j5⟩ := hh.cells (cells?_eq e11)
      obtain ⟨m1, m2⟩ := k3.takeAt e7
      obtain ⟨p1, p2⟩ := j3.layAt m2 e13
      cases rd with
      | sl _ _ _ _ _ c2' kd hc2 _ _ _ =>
        rw [j1] at hc2; cases hc2
        cases rs with
        | sl _ _ _ _ _ c1' ks hc1 _ _ _ =>
          rw [k1] at hc1; cases hc1
          have hlen : ((vs1.drop o').take (Nat.mul (minN sn dn) size)).length = minN sn dn * size := by
            have k0 : minN sn dn * size = 0 ∨ o' + minN sn dn * size ≤ vs1.length := m1
            show ((vs1.drop o').take (minN sn dn * size)).length = minN sn dn * size
            rw [List.length_take, List.length_drop]
            omega
          have hf : (Builtin.firstCells size (minN sn dn) (.slice (some ⟨c1.id, o', none⟩) sn ks)).run P w = .ok ⟨(vs1.drop o').take (Nat.mul (minN sn dn) size)⟩ w := by
            refine run_firstCells_some w size _ ⟨c1.id, o', none⟩ sn ks _ hlen fun j v hj => ?_
            rw [addr_add]
            rw [List.getElem?_take] at hj
            split at hj
            · rw [List.getElem?_drop] at hj
              have hlt := (List.getElem?_eq_some_iff.1 hj).1
              simp [World.cell?, k2, List.getElem?_append_left hlt, hj]
            · cases hj
          refine ⟨_, _, ?_, .flat _, Out.put hh hn (cells?_eq e11) j1 j2 p2 (by simp at p1 ⊢; omega) j4 j5⟩
          simp only [Builtin.copy_, List.getElem?_toArray, List.getElem?_cons_zero, List.getElem?_cons_succ, Sem.run_bind, run_und (sliceElem_eq e1), Result.andThen_ok, Builtin.lenOf, Sem.run_pure, run_size e3]
          rw [← minN_eq]
          simp only [hf, Result.andThen_ok, Sem.run_bind, Sem.run_pure]
          rw [run_storeRow j2 p1 (m2.allOne e9)]
          rfl
    · cases e4
  · cases e4
theorem HRel.putMap {g : Nat → Option AObj} (hh : HRel P ι g w) {b : Nat} {c : Blk} {es es' : List MapEntry} {k k' : Nat}
    (h1 : g b = some (.map es k)) (h2 : ι b = some c) (h3 : c.id < w.heap.size) :
    HRel P ι (fun j => if j = b then some (.map es' k') else g j) { w with heap := w.heap.setIfInBounds c.id (.map ⟨es'⟩ k') } := by
  constructor
  · intro b' o' k1 k2
    by_cases eb : b' = b
    · subst eb
      simp only [if_true] at k1
      cases k1
      exact ⟨c, .map ⟨es'⟩ k', h2, by simp [h3], rfl, rfl⟩
    · simp only [if_neg eb] at k1
      obtain ⟨c', C', e1, e2, e3⟩ := hh.obj b' o' k1 k2
      refine ⟨c', C', e1, ?_, e3⟩
      have : c.id ≠ c'.id := fun hid => eb (hh.inj _ _ _ _ _ _ k1 k2 h1 trivial e1 h2 hid.symm)
      simp [Array.getElem?_setIfInBounds, this, e2]
  · intro b1 b2 o1 o2 c1 c2 k1 k2 k3 k4 k5 k6 k7
    have conv : ∀ {x : Nat} {o : AObj}, (if x = b then some (AObj.map es' k') else g x) = some o → Live o → ∃ o', g x = some o' ∧ Live o' := by
      intro x o hx ho
      by_cases ex : x = b
      · subst ex; exact ⟨_, h1, trivial⟩
      · rw [if_neg ex] at hx; exact ⟨o, hx, ho⟩
    obtain ⟨o1', m1, m2⟩ := conv k1 k2
    obtain ⟨o2', m3, m4⟩ := conv k3 k4
    exact hh.inj _ _ _ _ _ _ m1 m2 m3 m4 k5 k6 k7
theorem updateA_ok {t : TypeId} {m k v : AV} {m' k' v' : Value} (e : updateA P h t m k v = some h') (hh : HRel P ι h.objs.get w) (hn : NOk ι h.next w) (rm : VRel ι m m') (rk : VRel ι k k') (rv : VRel ι v v') :
    ∃ w', (Instr.mapUpdate t m' k' v').run P w = .ok () w' ∧ Out P ι h w ι h' w' := by
  cases m <;> simp only [updateA] at e <;> first | cases e | skip
  rename_i b
  obtain ⟨⟨es, clock⟩, e1, e2⟩ := ob_eq.1 e
  obtain ⟨⟨kt, el⟩, e3, e4⟩ := ob_eq.1 e2
  obtain ⟨kv, e5, e6⟩ := ob_eq.1 e4
  obtain ⟨vv, e7, e8⟩ := ob_eq.1 e6
  obtain ⟨r, e9, e10⟩ := ob_eq.1 e8
  obtain rfl := rk.unflat e5
  obtain rfl := rv.unflat e7
  cases r with
  | some q => cases e10
  | none =>
    cases e10
    obtain ⟨c, g1, g2⟩ := hh.map (map?_eq e1)
    have hlt : c.id < w.heap.size := (Array.getElem?_eq_some_iff.1 g2).1
    have h2 := pureRun_run _ e9 w
    simp only [Sem.run_bind] at h2
    cases rm with
    | mp _ c' hc =>
      rw [g1] at hc; cases hc
      refine ⟨{ w with heap := w.heap.setIfInBounds c.id (.map ⟨appL es [{ key := k', val := v', born := clock }]⟩ (Nat.succ clock)) }, ?_, ?_⟩
      rotate_left
      · refine ⟨?_, by rw [get_put_fn]; exact hh.putMap (map?_eq e1) g1 hlt, fun k d hk => ⟨(hn k d hk).1, by simpa using (hn k d hk).2⟩, Nat.le_refl _, fun _ _ => rfl, fun k hk e => by rw [get_put]; split <;> simp_all [map?_eq e1], fun k e => by rw [get_put]; split <;> simp_all⟩
        rw [get_put_fn]
        refine ⟨Nm.le_refl _, by simp, fun k hk hno => ?_, ?_, rfl, rfl, rfl⟩
        · have : c.id ≠ k := fun hid => hno b _ c (map?_eq e1) trivial g1 hid
          simp [Array.getElem?_setIfInBounds, this]
        · intro b' o' c' k1 k2 k3 _
          by_cases eb : b' = b
          · subst eb; rw [g1] at k3; cases k3; exact ⟨_, _, _, map?_eq e1, ⟨trivial, fun _ => trivial⟩, g1, rfl⟩
          · simp only [if_neg eb] at k1; exact ⟨_, _, _, k1, ⟨k2, id⟩, k3, rfl⟩
      · have hg : (getObj c.id).run P w = .ok (.map ⟨es⟩ clock) w := by simp [getObj, Sem.run, g2]
        have hset : ∀ o, (setObj c.id o).run P w = .ok () { w with heap := w.heap.setIfInBounds c.id o } := fun o => by simp [setObj, Sem.run, g2]
        simp only [Instr.mapUpdate, Sem.run_bind, run_und (mapOf_eq e3), Result.andThen_ok, hg]
        cases hc : (Instr.checkKey false 10000 kt k').run P w with
        | halt hx w1 => rw [hc] at h2; cases h2
        | ok a w1 =>
          rw [hc] at h2
          simp only [Result.andThen_ok] at h2 ⊢
          cases hf : (Instr.findKey kt k' es).run P w1 with
          | halt hx w2 => rw [hf] at h2; cases h2
          | ok q w2 =>
            rw [hf] at h2
            cases h2
            simp only [Result.andThen_ok, hset]
            rw [appL_eq]
            congr 3
            simp

theorem clearA_ok {t ty : TypeId} {s v : AV} {s' : Value} (e : clearA P h t s = some (v, h')) (hh : HRel P ι h.objs.get w) (hn : NOk ι h.next w) (rs : VRel ι s s') :
    ∃ v' w', (Builtin.clear_ #[t] ty #[s']).run P w = .ok v' w' ∧ VRel ι v v' ∧ Out P ι h w ι h' w' := by
  obtain ⟨d, e0, e1⟩ := ob_eq.1 e
  unfold clearV at e1
  split at e1
  · rename_i b o n m ex
    cases rs with
    | sl _ _ _ _ _ c k hc _ _ _ =>
      rcases cnd_of (show cnd (Nat.beq n 0) _ _ = some (v, h') from e1) with ⟨e2, e3⟩ | ⟨e2, e3⟩
      · cases e3
        obtain rfl := beq_eq e2
        refine ⟨.tuple #[], w, ?_, .flat _, Out.refl hh hn⟩
        simp [Builtin.clear_, run_und e0]
      · obtain ⟨el, e4, e5⟩ := ob_eq.1 e3
        obtain ⟨z, e6, e7⟩ := ob_eq.1 e5
        obtain ⟨⟨xs, el2⟩, e8, e9⟩ := ob_eq.1 e7
        obtain ⟨e10, e11⟩ := cnd_eq.1 e9
        obtain ⟨r, e12, e13⟩ := ob_eq.1 e11
        cases e13
        obtain ⟨c2, vs2, rest2, s2, j1, j2, j3, j4, j5⟩ := hh.cells (cells?_eq e8)
        rw [j1] at hc; cases hc
        have rz : LRel ι (repeatA (valCells z) n) (List.replicate n z.cells.toList).flatten := repeatA_rel (valCells_rel z) n
        obtain ⟨p1, p2⟩ := j3.layAt rz e12
        have hn0 : n ≠ 0 := by rintro rfl; cases e2
        have hz : (Builtin.zeroCells z.cells n).toList = (List.replicate n z.cells.toList).flatten := by
          unfold Builtin.zeroCells
          rw [array_cyc]
        refine ⟨.tuple #[], _, ?_, .flat _, Out.put hh hn (cells?_eq e8) j1 j2 p2 (by simp at p1 ⊢; omega) j4 j5⟩
        have hu := sliceElem_eq e4
        cases n with
        | zero => exact absurd rfl hn0
        | succ n =>
          simp only [Builtin.clear_, List.getElem?_toArray, List.getElem?_cons_zero, Sem.run_bind, run_und hu, Result.andThen_ok, run_zero e6, hz, run_storeRow j2 p1 (rz.allOne e10), Sem.run_pure]
  · cases rs
    cases e1
    refine ⟨.tuple #[], w, ?_, .flat _, Out.refl hh hn⟩
    simp [Builtin.clear_, run_und e0]
  · cases e1

/-- what comes next, as the world sees it -/
def NxOk (P : Program) (κ : Nm) (ρ' : Operand → Value) (o : Oper) (w w' : World) : ANx → Prop
  | .value v => ∃ v', (execOp ρ' o).run P w = .ok (.value v') w' ∧ VRel κ v v'
  | .skip => (execOp ρ' o).run P w = .ok .skip w'
  | .enter f args => ∃ args', (execOp ρ' o).run P w = .ok (.enter f args') w' ∧ LRel κ args args'.toList
  | .round b args => ∃ c args', κ b = some c ∧ LRel κ args args'.toList ∧ w' = w ∧ (execOp ρ' o).run P w = (Instr.yield c.id args').run P w
theorem run_builtin_append {ρ' : Operand → Value} {o : Oper} {c : Call} (ho : o.op = .call c) (hc : c.callee = .builtin .append) :
    (execOp ρ' o).run P w = ((Builtin.append_ c.argTypes o.type (c.args.map ρ')).run P w).andThen fun v w' => .ok (.value v) w' := by
  simp only [execOp, ho, resolve, hc, invoke, builtin, Sem.run_bind, Sem.run_pure, Result.andThen_ok]
theorem run_builtin_copy {ρ' : Operand → Value} {o : Oper} {c : Call} (ho : o.op = .call c) (hc : c.callee = .builtin .copy) :
    (execOp ρ' o).run P w = ((Builtin.copy_ c.argTypes o.type (c.args.map ρ')).run P w).andThen fun v w' => .ok (.value v) w' := by
  simp only [execOp, ho, resolve, hc, invoke, builtin, Sem.run_bind, Sem.run_pure, Result.andThen_ok]
theorem run_builtin_clear {ρ' : Operand → Value} {o : Oper} {c : Call} (ho : o.op = .call c) (hc : c.callee = .builtin .clear) :
    (execOp ρ' o).run P w = ((Builtin.clear_ c.argTypes o.type (c.args.map ρ')).run P w).andThen fun v w' => .ok (.value v) w' := by
  simp only [execOp, ho, resolve, hc, invoke, builtin, Sem.run_bind, Sem.run_pure, Result.andThen_ok]
theorem one_arg {l : List AV} {xs : Array Value} {a : AV} (r : LRel ι l xs.toList) (e : l = [a]) : ∃ x, xs = #[x] ∧ VRel ι a x := by
  subst e
  cases hx : xs.toList with
  | nil => rw [hx] at r; cases r
  | cons x ys =>
    rw [hx] at r
    cases r with
    | cons _ _ _ _ r1 r2 =>
      cases r2
      exact ⟨x, by apply Array.ext'; simpa using hx, r1⟩
theorem two_args {l : List AV} {xs : Array Value} {a b : AV} (r : LRel ι l xs.toList) (e : l = [a, b]) : ∃ x y, xs = #[x, y] ∧ VRel ι a x ∧ VRel ι b y := by
  subst e
  cases hx : xs.toList with
  | nil => rw [hx] at r; cases r
  | cons x ys =>
    rw [hx] at r
    cases r with
    | cons _ _ _ _ r1 r2 =>
      cases r2 with
      | cons _ y _ ys r2 r3 =>
        cases r3
        exact ⟨x, y, by apply Array.ext'; simpa using hx, r1, r2⟩
theorem run_callFunc {f : FuncId} {args : Array Value} (hc : callable P f = true) : (callFunc f args).run P w = .ok (.enter f args) w := by
  unfold callable at hc
  cases hf : P.funcs[f]? with
  | none => rw [hf] at hc; cases hc
  | some fn =>
    rw [hf] at hc
    obtain ⟨h1, h2⟩ := (show fn.body.isSome = true ∧ (!(fn.name == "runtime.NumGoroutine")) = true by
      rcases cnd_of (show cnd fn.body.isSome (!(fn.name == "runtime.NumGoroutine")) false = true from hc) with ⟨a, b⟩ | ⟨_, b⟩
      · exact ⟨a, b⟩
      · cases b)
    have h2' : (fn.name == "runtime.NumGoroutine") = false := by simpa using h2
    have h3 : fn.body.isNone = false := by cases hb : fn.body <;> simp_all
    simp only [callFunc, Sem.run_bind, run_program, Result.andThen_ok, hf, h2', h3, Bool.false_eq_true, if_false, Sem.run_pure]
theorem enterA_ok {ρ : Operand → AV} {ρ' : Operand → Value} {o : Oper} {c : Call} {f : Operand} {n : ANx} (ho : o.op = .call c) (hc : c.callee = .value f)
    (e : enterA P (mapA ρ c.args.toList) (ρ f) = some n) (hr : ∀ x ∈ o.op.operands, VRel ι (ρ x) (ρ' x)) : NxOk P ι ρ' o w w n := by
  have ha := args_rel ho hr
  have hf := hr f (by rw [ho]; simp [Op.operands, Call.operands, hc])
  generalize hx : ρ' f = x' at hf
  have key : ∀ {g : FuncId} {l : List AV} {fl cl : List Value}, x' = .func (.func g) ⟨fl⟩ ⟨cl⟩ → callable P g = true → LRel ι l (fl ++ (c.args.map ρ').toList ++ cl) → NxOk P ι ρ' o w w (.enter g l) := by
    intro g l fl cl h1 h2 h3
    refine ⟨(⟨fl⟩ : Array Value) ++ c.args.map ρ' ++ ⟨cl⟩, ?_, by simpa using h3⟩
    simp only [execOp, ho, resolve, hc, hx, h1, Deferred.ofValue, Sem.run_bind, Sem.run_pure, Result.andThen_ok, invoke, run_callFunc h2]
  unfold enterA at e
  split at e
  · rename_i g first cap hg
    obtain ⟨e1, e2⟩ := cnd_eq.1 e
    cases e2
    rw [hg] at hf
    cases hf
    refine key (fl := first.toList) (cl := cap.toList) rfl e1 ?_
    rw [appL_eq, appL_eq, List.append_assoc]
    exact (LRel.flats _).append (ha.append (LRel.flats _))
  · rename_i g first cap hg
    obtain ⟨e1, e2⟩ := cnd_eq.1 e
    cases e2
    rw [hg] at hf
    cases hf with
    | fn _ _ _ l r h1 h2 =>
      refine key (fl := l) (cl := r) rfl e1 ?_
      rw [appL_eq, appL_eq, List.append_assoc]
      exact h1.append (ha.append h2)
  · rename_i b hg
    cases e
    rw [hg] at hf
    cases hf with
    | yl _ cc hcc =>
      refine ⟨cc, c.args.map ρ', hcc, ha, rfl, ?_⟩
      simp only [execOp, ho, resolve, hc, hx, Deferred.ofValue, Sem.run_bind, Sem.run_pure, Result.andThen_ok, invoke]
      simp
  · cases e
theorem skipNx_eq {x : Option AH} {n : ANx} (e : skipNx x = some (n, h')) : n = .skip ∧ x = some h' := by
  obtain ⟨q, e1, e2⟩ := ob_eq.1 e
  cases e2; exact ⟨rfl, e1⟩
theorem valNx_eq {x : Option (AV × AH)} {n : ANx} (e : valNx x = some (n, h')) : ∃ v, n = .value v ∧ x = some (v, h') := by
  obtain ⟨q, e1, e2⟩ := ob_eq.1 e
  cases e2; exact ⟨_, rfl, e1⟩
theorem invokeA_ok {ρ : Operand → AV} {ρ' : Operand → Value} {o : Oper} {c : Call} {f : Operand} {name : String} {n : ANx} (ho : o.op = .call c) (hc : c.callee = .invoke f name)
    (e : invokeA P name (mapA ρ c.args.toList) (ρ f) = some n) (hr : ∀ x ∈ o.op.operands, VRel ι (ρ x) (ρ' x)) : NxOk P ι ρ' o w w n := by
  have ha := args_rel ho hr
  have hf := hr f (by rw [ho]; simp [Op.operands, Call.operands, hc])
  generalize hx : ρ' f = x' at hf
  unfold invokeA at e
  split at e
  · rename_i t v hg
    obtain ⟨g, e1, e2⟩ := ob_eq.1 e
    obtain ⟨e3, e4⟩ := cnd_eq.1 e2
    cases e4
    rw [hg] at hf
    cases hf with
    | ifc _ _ u h5 =>
      refine ⟨#[u] ++ c.args.map ρ', ?_, ?_⟩
      · have hex : (#[Value.iface t u] ++ c.args.map ρ').extract 1 (#[Value.iface t u] ++ c.args.map ρ').size = c.args.map ρ' := by
          apply Array.ext'; simp; exact List.take_of_length_le (by simp)
        have h0 : (#[Value.iface t u] ++ c.args.map ρ')[0]? = some (Value.iface t u) := by simp [Array.getElem?_append]
        simp only [execOp, ho, resolve, hc, hx, Sem.run_bind, Sem.run_pure, Result.andThen_ok, invoke, h0, hex, callMethod, run_program, Made.depth, run_valMethod e1, run_callFunc e3]
      · have : (#[u] ++ c.args.map ρ').toList = u :: (c.args.map ρ').toList := by simp
        rw [this]; exact .cons _ _ _ _ h5 ha
  · cases e
theorem aactOp_ok {ρ : Operand → AV} {ρ' : Operand → Value} {o : Oper} {n : ANx} (e : aactOp P ρ h o.op = some (n, h')) (hh : HRel P ι h.objs.get w) (hn : NOk ι h.next w) (hr : ∀ x ∈ o.op.operands, VRel ι (ρ x) (ρ' x)) :
    ∃ κ w', Out P ι h w κ h' w' ∧ NxOk P κ ρ' o w w' n := by
  cases ho : o.op <;> rw [ho] at e hr <;> simp only [aactOp] at e <;> first | cases e | skip
  case store t a x =>
    obtain ⟨rfl, e1⟩ := skipNx_eq e
    obtain ⟨w', h1, h2⟩ := storeA_ok e1 hh hn (hr a (by simp [Op.operands])) (hr x (by simp [Op.operands]))
    exact ⟨ι, w', h2, by simp only [NxOk, execOp, ho, Sem.run_bind, h1, Result.andThen_ok, Sem.run_pure]⟩
  case mapUpdate t m k x =>
    obtain ⟨rfl, e1⟩ := skipNx_eq e
    obtain ⟨w', h1, h2⟩ := updateA_ok e1 hh hn (hr m (by simp [Op.operands])) (hr k (by simp [Op.operands])) (hr x (by simp [Op.operands]))
    exact ⟨ι, w', h2, by simp only [NxOk, execOp, ho, Sem.run_bind, h1, Result.andThen_ok, Sem.run_pure]⟩
  case call c =>
    rw [← ho] at hr
    have ha := args_rel ho hr
    cases hb : c.callee <;> rw [hb] at e <;> simp only [actCallA] at e <;> first | cases e | skip
    · obtain ⟨q, e1, e2⟩ := ob_eq.1 e
      cases e2
      exact ⟨ι, w, Out.refl hh hn, enterA_ok ho hb e1 hr⟩
    · obtain ⟨q, e1, e2⟩ := ob_eq.1 e
      cases e2
      exact ⟨ι, w, Out.refl hh hn, invokeA_ok ho hb e1 hr⟩
    · rename_i b
      cases b <;> simp only [actBltA] at e <;> first | cases e | skip
      · obtain ⟨v, rfl, e1⟩ := valNx_eq e
        unfold appendOpA at e1
        split at e1
        · rename_i s x t u h1 h2
          obtain ⟨x', y', h3, r1, r2⟩ := two_args ha h1
          have h4 : c.argTypes = #[t, u] := by apply Array.ext'; simpa using h2
          obtain ⟨v', w', κ, f1, f2, f3⟩ := appendA_ok (ty := o.type) e1 hh hn r1 r2
          exact ⟨κ, w', f3, v', by rw [run_builtin_append ho hb, h3, h4, f1]; rfl, f2⟩
        · cases e1
      · obtain ⟨v, rfl, e1⟩ := valNx_eq e
        unfold clearOpA at e1
        split at e1
        · rename_i s t h1 h2
          obtain ⟨x', h3, r1⟩ := one_arg ha h1
          have h4 : c.argTypes = #[t] := by apply Array.ext'; simpa using h2
          obtain ⟨v', w', f1, f2, f3⟩ := clearA_ok (ty := o.type) e1 hh hn r1
          exact ⟨ι, w', f3, v', by rw [run_builtin_clear ho hb, h3, h4, f1]; rfl, f2⟩
        · cases e1
      · obtain ⟨v, rfl, e1⟩ := valNx_eq e
        unfold copyOpA at e1
        split at e1
        · rename_i s x t u h1 h2
          obtain ⟨x', y', h3, r1, r2⟩ := two_args ha h1
          have h4 : c.argTypes = #[t, u] := by apply Array.ext'; simpa using h2
          obtain ⟨v', w', f1, f2, f3⟩ := copyA_ok (q := u) (ty := o.type) e1 hh hn r1 r2
          exact ⟨ι, w', f3, v', by rw [run_builtin_copy ho hb, h3, h4, f1]; rfl, f2⟩
        · cases e1
end
end Go.Proofs.Ytegkgfiaegpihaa
