/- Operations one after the other, in order. -/
import Derived.Test.YtegkgfiaegpihaaE9
import Derived.LoopNIn
import Derived.OrdersIn
import Derived.RangeFuncNested
set_option linter.unusedSimpArgs false
set_option linter.unusedVariables false
namespace Go.Proofs.Ytegkgfiaegpihaa
open Go

structure ARel (ι : Nm) (sz : Nat) (T : TM) (a : Act) : Prop where
  size : a.tmps.size = sz
  val : ∀ t, VRel ι (tat T t) (a.tmps.getD t undef)
/-- what a call comes to -/
def CallRel (P : Program) (ι : Nm) (h : AH) (w : World) (v : AV) (h' : AH) : Ending → World → Prop := fun e w' => ∃ κ v', e = .returned v' ∧ VRel κ v v' ∧ Out P ι h w κ h' w'
/-- the fence that shuts nothing out, for a frame of a function, or of a round of the loop l -/
abbrev FW (r : Option Nat) : Fence := { fn := fun _ => True, depth := none, alive := false, round := r }
structure CallOk (P : Program) (call : CallA) : Prop where
  fn : ∀ f args h v h', call (.fn f) args h = some (v, h') → ∀ ι w (vals : Array Value), HRel P ι h.objs.get w → NOk ι h.next w → LRel ι args vals.toList → CallsIn (FW none) 0 P f vals w (CallRel P ι h w v h')
  rnd : ∀ b args h v h', call (.rnd b) args h = some (v, h') → ∀ ι w (vals : Array Value), HRel P ι h.objs.get w → NOk ι h.next w → LRel ι args vals.toList →
    ∃ c L, ι b = some c ∧ w.heap[c.id]? = some (.loop L) ∧ vals.size = L.params.size ∧
      RoundIn (FW none) 0 P c.id L.fn ((L.params.zip vals).foldl (fun tmps (t, a) => tmps.setIfInBounds t a) L.tmps) L.assign L.body w (CallRel P ι h w v h')
theorem callsIn_fw {r : Option Nat} {P : Program} {f : FuncId} {args : Array Value} {w : World} {R : Ending → World → Prop} (h : CallsIn (FW none) 0 P f args w R) : CallsIn (FW r) 0 P f args w R := h
theorem roundIn_fw {r : Option Nat} {P : Program} {l : Nat} {f : FuncId} {tmps : Array Value} {assign body : Code} {w : World} {R : Ending → World → Prop} (h : RoundIn (FW none) 0 P l f tmps assign body w R) : RoundIn (FW r) 0 P l f tmps assign body w R := h
theorem nd_act {P : Program} {ρ : Operand → AV} {h : AH} {op : Op} {x : ANx × AH} (e : aactOp P ρ h op = some x) : ∀ c, op ≠ .defer c := by
  rintro c rfl; simp [aactOp] at e
theorem nd_pure {P : Program} {ρ : Operand → AV} {h : AH} {t : TypeId} {op : Op} {x : AV} (e : apureOp P ρ h t op = some x) : ∀ c, op ≠ .defer c := by
  rintro c rfl; simp [apureOp] at e
theorem nd_maker {P : Program} {ρ : Operand → AV} {b : Nat} {op : Op} {x : AV × AObj} (e : makerOp P ρ b op = some x) : ∀ c, op ≠ .defer c := by
  rintro c rfl; simp [makerOp] at e
theorem wp_value {r : Option Nat} {P : Program} {o : Oper} {a : Act} {w w1 : World} {v' : Value} {K : Act → World → Prop} {Q : Exit → Act → World → Prop} (hd : ∀ c, o.op ≠ .defer c)
    (g1 : (execOp a.eval o).run P w = .ok (.value v') w1) (hK : K (a.put o.dst v') w1) : o.wpIn (FW r) 0 P a w K Q := ⟨fun _ _ => trivial, by rw [Oper.semAt_eq _ _ _ hd, g1]; exact hK⟩
theorem wp_skipV {r : Option Nat} {P : Program} {o : Oper} {a : Act} {w w1 : World} {K : Act → World → Prop} {Q : Exit → Act → World → Prop} (hd : ∀ c, o.op ≠ .defer c)
    (g1 : (execOp a.eval o).run P w = .ok .skip w1) (hK : K (a.put o.dst undef) w1) : o.wpIn (FW r) 0 P a w K Q := ⟨fun _ _ => trivial, by rw [Oper.semAt_eq _ _ _ hd, g1]; exact hK⟩

section
variable {P : Program} {ι κ μ : Nm} {w w' w'' : World} {h h' h'' : AH} {sz : Nat} {T T' : TM} {a a' : Act} {Q : Exit → Act → World → Prop} {call : CallA} {r : Option Nat}

theorem ARel.mono (hle : Nm.le ι κ) (r : ARel ι sz T a) : ARel κ sz T a := ⟨r.size, fun t => (r.val t).mono hle⟩
theorem ARel.op (r : ARel ι sz T a) (x : Operand) : VRel ι (evO T x) (a.eval x) := by
  cases x with
  | tmp t => exact r.val t
  | const v => exact .flat v
  | global g => exact .flat _
  | func f => exact .flat _
theorem tat_set (T : TM) (t : Nat) (v : AV) (k : Nat) : tat (T.set t v) k = if k = t then v else tat T k := by
  unfold tat
  rw [Tr.get_set]
  by_cases e : k = t
  · simp [e, optOr]
  · simp [e]
theorem ARel.put {d : Option Nat} {v : AV} {v' : Value} (e : putA sz T d v = some T') (r : ARel ι sz T a) (rv : VRel ι v v') : ARel ι sz T' (a.put d v') := by
  cases d with
  | none => cases (show some T = some T' from e); exact r
  | some t =>
    obtain ⟨e1, e2⟩ := cnd_eq.1 (show cnd (Nat.ble (Nat.succ t) sz) (some (T.set t v)) none = some T' from e)
    cases e2
    have hlt := ble_le e1
    refine ⟨by simp [Act.put, r.size], fun k => ?_⟩
    rw [tat_set]
    by_cases ek : k = t
    · subst ek
      rw [if_pos rfl]
      have : (a.put (some k) v').tmps.getD k undef = v' := by
        simp [Act.put, Array.getD_eq_getD_getElem?, r.size]
        intro h; omega
      rw [this]; exact rv
    · rw [if_neg ek]
      have : (a.put (some t) v').tmps.getD k undef = a.tmps.getD k undef := by
        simp [Act.put, Array.getD_eq_getD_getElem?, Array.getElem?_setIfInBounds, Ne.symm ek]
      rw [this]; exact r.val k
theorem put_defers (d : Option Nat) (v : Value) : (a.put d v).defers = a.defers := by cases d <;> rfl
theorem undef_rel : VRel ι AV.undef undef := .flat _
theorem bool_of {t : Nat} {b : Bool} (r : VRel ι (tat T t) (a.tmps.getD t undef)) (e : tat T t = .flat (.bool b)) : a.tmps[t]? = some (.bool b) := by
  rw [e] at r
  generalize hx : a.tmps.getD t undef = x at r
  cases r
  rw [Array.getD_eq_getD_getElem?] at hx
  cases h : a.tmps[t]? with
  | none => rw [h] at hx; cases hx
  | some y => rw [h] at hx; simp at hx; rw [hx]
theorem wanted_of_val {ops : Array Oper} {o : Oper} (r : ∀ g p d, o.guard = some g → ops[g.1]? = some p → p.dst = some d → VRel ι (tat T d) (a.tmps.getD d undef)) : Region.wanted o (yielded ops a.tmps) = wantA ops.toList T o := by
  unfold Region.wanted wantA
  cases hg : o.guard with
  | none => rfl
  | some g =>
    obtain ⟨j, want⟩ := g
    simp only [optCase_some]
    rw [nth_eq]
    unfold yielded
    rw [Array.getElem?_toList]
    cases hp : ops[j]? with
    | none => rfl
    | some p =>
      simp only [optCase_some, Option.bind_some]
      cases hd : p.dst with
      | none => rfl
      | some d =>
        simp only [optCase_some, Option.bind_some]
        have rv := r (j, want) p d hg hp hd
        cases ht : tat T d with
        | flat v =>
          cases v with
          | bool b =>
            rw [bool_of rv ht]
            cases b <;> cases want <;> rfl
          | _ =>
            have hf : boolIs want (tat T d) = false := by rw [ht]; rfl
            rw [ht] at hf
            rw [hf]
            rw [ht] at rv
            generalize hx : a.tmps.getD d undef = x at rv
            cases rv
            rw [Array.getD_eq_getD_getElem?] at hx
            cases hy : a.tmps[d]? with
            | none => rfl
            | some y => rw [hy] at hx; simp at hx; subst hx; rfl
        | _ =>
            have hf : boolIs want (tat T d) = false := by rw [ht]; rfl
            rw [ht] at hf
            rw [hf]
            rw [ht] at rv
            generalize hx : a.tmps.getD d undef = x at rv
            cases rv
            rw [Array.getD_eq_getD_getElem?] at hx
            cases hy : a.tmps[d]? with
            | none => rfl
            | some y => rw [hy] at hx; simp at hx; subst hx; rfl

/-- an act of the evaluator and its call, in the world -/
theorem act_wp {ρ : Operand → AV} {o : Oper} {n : ANx} {h1 : AH} {v : AV} {K : Act → World → Prop} (hc : CallOk P call) (e : aactOp P ρ h o.op = some (n, h1)) (e2 : nextA call (n, h1) = some (v, h'))
    (hh : HRel P ι h.objs.get w) (hn : NOk ι h.next w) (hr : ∀ x ∈ o.op.operands, VRel ι (ρ x) (a.eval x))
    (hK : ∀ κ v' w', Out P ι h w κ h' w' → VRel κ v v' → K (a.put o.dst v') w') : o.wpIn (FW r) 0 P a w K Q := by
  have hd := nd_act e
  obtain ⟨κ, w1, ho, hx⟩ := aactOp_ok (ρ' := a.eval) e hh hn hr
  cases n with
  | value u =>
    cases (show some (u, h1) = some (v, h') from e2)
    obtain ⟨v', g1, g2⟩ := hx
    exact wp_value hd g1 (hK κ v' w1 ho g2)
  | skip =>
    cases (show some (AV.undef, h1) = some (v, h') from e2)
    have g1 : (execOp a.eval o).run P w = .ok .skip w1 := hx
    exact wp_skipV hd g1 (hK κ undef w1 ho undef_rel)
  | enter f args =>
    obtain ⟨args', g1, g2⟩ := hx
    refine ⟨fun _ _ => trivial, ?_⟩
    rw [Oper.semAt_eq _ _ _ hd, g1, Oper.uponIn_enter]
    refine ⟨fun hx => by simp at hx, callsIn_fw ((hc.fn f args h1 v h' e2 κ w1 args' ho.hrel ho.nok g2).mono fun en w2 hen => ?_)⟩
    obtain ⟨μ, v', rfl, g3, g4⟩ := hen
    exact hK μ v' w2 (ho.trans g4) g3
  | round b args =>
    obtain ⟨c, args', g0, g2, rfl, g1⟩ := hx
    obtain ⟨c2, L, f1, f2, f3, f4⟩ := hc.rnd b args h1 v h' e2 κ w1 args' ho.hrel ho.nok g2
    rw [g0] at f1; cases f1
    refine ⟨fun _ _ => trivial, ?_⟩
    rw [Oper.semAt_eq _ _ _ hd, g1, run_yield f2 f3, Oper.uponIn_round]
    refine ⟨fun hx => by simp at hx, roundIn_fw (f4.mono fun en w2 hen => ?_)⟩
    obtain ⟨μ, v', rfl, g3, g4⟩ := hen
    exact hK μ v' w2 (ho.trans g4) g3
theorem stepK_wp {o : Oper} {v : AV} {k : Nat} {K : Act → World → Prop} (hc : CallOk P call) (e : stepK P call o T h k = some (v, h'))
    (ra : ARel ι sz T a) (hh : HRel P ι h.objs.get w) (hn : NOk ι h.next w)
    (hK : ∀ κ v' w', Out P ι h w κ h' w' → VRel κ v v' → K (a.put o.dst v') w') : o.wpIn (FW r) 0 P a w K Q := by
  have hr : ∀ x ∈ o.op.operands, VRel ι (evO T x) (a.eval x) := fun x _ => ra.op x
  rcases cnd_of (show cnd (Nat.ble k 1) _ _ = some (v, h') from e) with ⟨_, e1⟩ | ⟨_, e1⟩
  · obtain ⟨u, e2, e3⟩ := ob_eq.1 e1
    cases e3
    obtain ⟨v', g1, g2⟩ := apureOp_ok (ρ' := a.eval) e2 hh hr
    exact wp_value (nd_pure e2) g1 (hK ι v' w (Out.refl hh hn) g2)
  · rcases cnd_of e1 with ⟨_, e2⟩ | ⟨_, e2⟩
    · obtain ⟨⟨u, ob'⟩, e3, e4⟩ := ob_eq.1 e2
      cases e4
      obtain ⟨v', C, cap, g1, g2, g3, g4⟩ := makerOp_ok (ρ' := a.eval) (w := w) e3 hn.none hr
      exact wp_value (nd_maker e3) g1 (hK _ v' _ (Out.new hh hn g3) g2)
    · obtain ⟨⟨n, h1⟩, e3, e4⟩ := ob_eq.1 e2
      exact act_wp hc e3 e4 hh hn hr hK

theorem evOps_ok {ops : Array Oper} (hc : CallOk P call) : ∀ (l : List Oper) (m : Nat) (T : TM) (h : AH) (ι : Nm) (a : Act) (w : World), ops.toList.drop m = l →
    evOps P call sz ops.toList l T h = some (T', h') → ARel ι sz T a → HRel P ι h.objs.get w → NOk ι h.next w →
    (∀ κ a' w', Out P ι h w κ h' w' → ARel κ sz T' a' → a'.defers = a.defers → Q .normal a' w') → wpOpsIn (FW r) 0 P ops Q (List.range' m l.length) a w
  | [], m, T, h, ι, a, w, hl, e, ra, hh, hn, hQ => by
    cases (show some (T, h) = some (T', h') from e)
    exact hQ ι a w (Out.refl hh hn) ra rfl
  | o :: l, m, T, h, ι, a, w, hl, e, ra, hh, hn, hQ => by
    obtain ⟨⟨v, h1⟩, e1, e2⟩ := ob_eq.1 (show ob (stepA P call ops.toList o T h) _ = some (T', h') from e)
    obtain ⟨T1, e3, e4⟩ := ob_eq.1 e2
    have ho : ops[m]? = some o := by
      have := congrArg (fun x => x[0]?) hl
      simpa using this
    have hl' : ops.toList.drop (m + 1) = l := by
      have := congrArg List.tail hl
      simpa using this
    have hnext : ∀ κ v' w', Out P ι h w κ h1 w' → VRel κ v v' → wpOpsIn (FW r) 0 P ops Q (List.range' (m + 1) l.length) (a.put o.dst v') w' := fun κ v' w' k1 k2 =>
      evOps_ok hc l (m + 1) T1 h1 κ _ w' hl' e4 ((ra.mono k1.le).put e3 k2) k1.hrel k1.nok fun μ a' w'' g1 g2 g3 => hQ μ a' w'' (k1.trans g1) g2 (by rw [g3, put_defers])
    rw [List.length_cons, List.range'_succ]
    simp only [wpOpsIn, ho]
    rw [wanted_of_val (T := T) (ι := ι) fun g p d _ _ _ => ra.val d]
    rcases cnd_of (show cnd (wantA ops.toList T o) (stepK P call o T h (kindOf o.op)) (some (.undef, h)) = some (v, h1) from e1) with ⟨e5, e6⟩ | ⟨e5, e6⟩
    · rw [if_pos e5]
      exact stepK_wp hc e6 ra hh hn hnext
    · rw [if_neg (by rw [e5]; simp)]
      cases e6
      exact ⟨fun _ _ => trivial, hnext ι undef w (Out.refl hh hn) undef_rel⟩
end
end Go.Proofs.Ytegkgfiaegpihaa
