/- Code, functions, calls: what the evaluator says is so. -/
import Derived.Test.YtgpggojpfbhndaaE14
set_option linter.unusedSimpArgs false
set_option linter.unusedVariables false
namespace Go.Proofs.Ytgpggojpfbhndaa
open Go

def toEx : AE → Exit
  | .normal => .normal
  | .exit id => .exit id
  | .goto l => .goto l
  | .ret => .ret
section
variable {P : Program} {ι κ : Nm} {w w' : World} {h h' : AH} {sz : Nat} {T T' : TM} {a a' : Act} {Q : Exit → Act → World → Prop} {call : CallA} {N : Nat}

/-- what is to hold behind a piece of code -/
def CodeOk (P : Program) (call : CallA) (sz : Nat) (c : Code) (f : TM → AH → Option (AE × TM × AH)) : Prop :=
  ∀ (T : TM) (h : AH) (x : AE) (T' : TM) (h' : AH) (ι : Nm) (a : Act) (w : World) (Q : Exit → Act → World → Prop), f T h = some (x, T', h') → ARel ι sz T a → HRel P ι h.objs.get w → NOk ι h.next w →
    (∀ κ a' w', Out P ι h w κ h' w' → ARel κ sz T' a' → a'.defers = a.defers → Q (toEx x) a' w') → c.wp P Q a w
theorem loop_ok {c : Code} {f : TM → AH → Option (AE × TM × AH)} (hf : CodeOk P call sz c f) : ∀ (n : Nat) (T : TM) (h : AH) (x : AE) (T' : TM) (h' : AH) (ι : Nm) (a : Act) (w : World) (Q : Exit → Act → World → Prop), loopN f n T h = some (x, T', h') → ARel ι sz T a → HRel P ι h.objs.get w → NOk ι h.next w →
    (∀ κ a' w', Out P ι h w κ h' w' → ARel κ sz T' a' → a'.defers = a.defers → Q (toEx x) a' w') → Code.rounds P c Q n a w
  | 0, T, h, x, T', h', ι, a, w, Q, e, _, _, _, _ => by cases (show (none : Option (AE × TM × AH)) = some (x, T', h') from e)
  | n + 1, T, h, x, T', h', ι, a, w, Q, e, ra, hh, hn, hQ => by
    obtain ⟨⟨y, T1, h1⟩, e1, e2⟩ := ob_eq.1 (show ob (f T h) _ = some (x, T', h') from e)
    rw [rounds_succ]
    refine hf T h y T1 h1 ι a w _ e1 ra hh hn fun κ a' w' k1 k2 k3 => ?_
    cases y with
    | normal =>
      exact loop_ok hf n T1 h1 x T' h' κ a' w' Q e2 k2 k1.hrel k1.nok fun μ a2 w2 g1 g2 g3 => hQ μ a2 w2 (k1.trans g1) g2 (g3.trans k3)
    | exit id => cases e2; exact hQ κ a' w' k1 k2 k3
    | goto l => cases e2; exact hQ κ a' w' k1 k2 k3
    | ret => cases e2; exact hQ κ a' w' k1 k2 k3
theorem evC_ok (hm : P.follows .mixedOrders = true) (hc : CallOk P call) (c : Code) : CodeOk P call sz c (evC P call sz N c) := by
  induction c with
  | skip =>
    intro T h x T' h' ι a w Q e ra hh hn hQ
    cases (show some (AE.normal, T, h) = some (x, T', h') from e)
    exact wp_skip (hQ ι a w (Out.refl hh hn) ra rfl)
  | region id ops d =>
    intro T h x T' h' ι a w Q e ra hh hn hQ
    obtain ⟨⟨T1, h1⟩, e1, e2⟩ := ob_eq.1 (show ob (cnd d (evDraw P call sz ops.toList T h) (evOps P call sz ops.toList ops.toList T h)) (fun q => some (AE.normal, q)) = some (x, T', h') from e)
    cases e2
    cases d with
    | true => exact evDraw_ok hm hc e1 ra hh hn hQ
    | false =>
      refine wp_region ?_
      have := evOps_ok (P := P) (Q := Q) hc ops.toList 0 T h ι a w (by simp) e1 ra hh hn hQ
      rw [List.range_eq_range']
      simpa using this
  | seq x y ihx ihy =>
    intro T h z T' h' ι a w Q e ra hh hn hQ
    obtain ⟨⟨u, T1, h1⟩, e1, e2⟩ := ob_eq.1 (show ob (evC P call sz N x T h) (thenA (evC P call sz N y)) = some (z, T', h') from e)
    refine wp_seq (ihx T h u T1 h1 ι a w _ e1 ra hh hn fun κ a' w' k1 k2 k3 => ?_)
    cases u with
    | normal => exact ihy T1 h1 z T' h' κ a' w' Q e2 k2 k1.hrel k1.nok fun μ a2 w2 g1 g2 g3 => hQ μ a2 w2 (k1.trans g1) g2 (g3.trans k3)
    | exit id => cases e2; exact hQ κ a' w' k1 k2 k3
    | goto l => cases e2; exact hQ κ a' w' k1 k2 k3
    | ret => cases e2; exact hQ κ a' w' k1 k2 k3
  | cond c x y ihx ihy =>
    intro T h z T' h' ι a w Q e ra hh hn hQ
    have e' : condA (evC P call sz N x) (evC P call sz N y) T h (evO T c) = some (z, T', h') := e
    have hr := ra.op c
    unfold condA at e'
    split at e'
    · rename_i b hb
      rw [hb] at hr
      generalize hv : a.eval c = v at hr
      cases hr
      cases b with
      | true => exact wp_cond_true hv (ihx T h z T' h' ι a w Q e' ra hh hn hQ)
      | false => exact wp_cond_false hv (ihy T h z T' h' ι a w Q e' ra hh hn hQ)
    · cases e'
  | block id c ih =>
    intro T h z T' h' ι a w Q e ra hh hn hQ
    obtain ⟨⟨u, T1, h1⟩, e1, e2⟩ := ob_eq.1 (show ob (evC P call sz N c T h) (blockA id) = some (z, T', h') from e)
    refine wp_block (ih T h u T1 h1 ι a w _ e1 ra hh hn fun κ a' w' k1 k2 k3 => ?_)
    cases u with
    | normal => cases e2; exact hQ κ a' w' k1 k2 k3
    | goto l => cases e2; exact hQ κ a' w' k1 k2 k3
    | ret => cases e2; exact hQ κ a' w' k1 k2 k3
    | exit id' =>
      show if id' = id then Q .normal a' w' else Q (.exit id') a' w'
      rcases cnd_of (show cnd (Nat.beq id' id) (some (AE.normal, T1, h1)) (some (AE.exit id', T1, h1)) = some (z, T', h') from e2) with ⟨e3, e4⟩ | ⟨e3, e4⟩
      · cases e4; rw [if_pos (beq_eq e3)]; exact hQ κ a' w' k1 k2 k3
      · cases e4
        rw [if_neg (by rintro rfl; rw [Nat.beq_refl] at e3; cases e3)]
        exact hQ κ a' w' k1 k2 k3
  | loop c ih =>
    intro T h z T' h' ι a w Q e ra hh hn hQ
    exact wp_loop_rounds N (loop_ok ih N T h z T' h' ι a w Q e ra hh hn hQ)
  | rangeFunc f ps as b _ _ => intro T h z T' h' ι a w Q e; cases (show (none : Option (AE × TM × AH)) = some (z, T', h') from e)
  | exit id =>
    intro T h z T' h' ι a w Q e ra hh hn hQ
    cases (show some (AE.exit id, T, h) = some (z, T', h') from e)
    exact wp_exit (hQ ι a w (Out.refl hh hn) ra rfl)
  | scope c ih =>
    intro T h z T' h' ι a w Q e ra hh hn hQ
    obtain ⟨⟨u, T1, h1⟩, e1, e2⟩ := ob_eq.1 (show ob (evC P call sz N c T h) scopeA = some (z, T', h') from e)
    refine wp_scope_straight (ih T h u T1 h1 ι a w _ e1 ra hh hn fun κ a' w' k1 k2 k3 => ?_)
    cases u with
    | normal => cases e2; exact hQ κ a' w' k1 k2 k3
    | goto l => cases e2
    | ret => cases e2; exact hQ κ a' w' k1 k2 k3
    | exit id' => cases e2; exact hQ κ a' w' k1 k2 k3
  | label l =>
    intro T h z T' h' ι a w Q e ra hh hn hQ
    cases (show some (AE.normal, T, h) = some (z, T', h') from e)
    exact wp_label (hQ ι a w (Out.refl hh hn) ra rfl)
  | goto l =>
    intro T h z T' h' ι a w Q e ra hh hn hQ
    cases (show some (AE.goto l, T, h) = some (z, T', h') from e)
    exact wp_goto (hQ ι a w (Out.refl hh hn) ra rfl)
  | ret =>
    intro T h z T' h' ι a w Q e ra hh hn hQ
    cases (show some (AE.ret, T, h) = some (z, T', h') from e)
    exact wp_ret (hQ ι a w (Out.refl hh hn) ra rfl)
  | refuse s => intro T h z T' h' ι a w Q e; cases (show (none : Option (AE × TM × AH)) = some (z, T', h') from e)

/-! functions -/
def resSem (tmps : Array Value) : ResultVar → Sem Value
  | .tmp t => pure (tmps.getD t undef)
  | .cell a t => do loadVar t (← asAddr (tmps.getD a undef))
theorem resVar_ok {x : ResultVar} {v : AV} (e : resVar P h T x = some v) (ra : ARel ι sz T a) (hh : HRel P ι h.objs.get w) :
    ∃ v', (resSem a.tmps x).run P w = .ok v' w ∧ VRel ι v v' := by
  cases x with
  | tmp t =>
    cases (show some (tat T t) = some v from e)
    exact ⟨_, rfl, ra.val t⟩
  | cell c t =>
    have r := ra.val c
    have e' : loadA P h t (tat T c) = some v := e
    show ∃ v', (do loadVar t (← asAddr (a.tmps.getD c undef)) : Sem Value).run P w = .ok v' w ∧ VRel ι v v'
    generalize a.tmps.getD c undef = y at r ⊢
    obtain ⟨v', h1, h2⟩ := loadA_ok e' hh r
    refine ⟨v', ?_, h2⟩
    generalize hx : tat T c = x at e' r
    cases x <;> simp only [loadA] at e' <;> first | cases e' | skip
    cases r
    simp only [Instr.loadAt, Instr.sureAddr, Sem.run_bind, Sem.run_pure, Result.andThen_ok] at h1
    simp only [asAddr, Sem.run_bind, Sem.run_pure, Result.andThen_ok]
    exact h1
theorem resA_ok (ra : ARel ι sz T a) (hh : HRel P ι h.objs.get w) : ∀ {l : List ResultVar} {vs : List AV}, resA P h T l = some vs →
    ∃ us, (l.mapM (resSem a.tmps)).run P w = .ok us w ∧ LRel ι vs us
  | [], vs, e => by
    cases (show some [] = some vs from e)
    exact ⟨[], by simp, .nil⟩
  | x :: l, vs, e => by
    obtain ⟨v, e1, e2⟩ := ob_eq.1 (show ob (resVar P h T x) (fun v => ob (resA P h T l) fun r => some (v :: r)) = some vs from e)
    obtain ⟨r, e3, e4⟩ := ob_eq.1 e2
    cases e4
    obtain ⟨v', h1, h2⟩ := resVar_ok e1 ra hh
    obtain ⟨us, h3, h4⟩ := resA_ok ra hh e3
    refine ⟨v' :: us, ?_, .cons _ _ _ _ h2 h4⟩
    simp only [List.mapM_cons, Sem.run_bind, h1, Result.andThen_ok, h3, Sem.run_pure]
theorem oneA_ok {l : List AV} {us : List Value} (r : LRel ι l us) : VRel ι (oneA l) (if h : (⟨us⟩ : Array Value).size = 1 then (⟨us⟩ : Array Value)[0] else .tuple ⟨us⟩) := by
  cases r with
  | nil => exact VRel.mkTp .nil
  | cons a v l vs h1 h2 =>
    cases h2 with
    | nil => exact h1
    | cons b u l vs h3 h4 => exact VRel.mkTp (.cons _ _ _ _ h1 (.cons _ _ _ _ h3 h4))
theorem results_ok {fn : Func} {vs : List AV} (e : resA P h T fn.results.toList = some vs) (ra : ARel ι sz T a) (hh : HRel P ι h.objs.get w) :
    ∃ v', (results fn a.tmps).run P w = .ok v' w ∧ VRel ι (oneA vs) v' := by
  obtain ⟨us, h1, h2⟩ := resA_ok ra hh e
  refine ⟨_, ?_, oneA_ok h2⟩
  have hr : results fn a.tmps = (do let vs ← fn.results.mapM (resSem a.tmps); pure (if h : vs.size = 1 then vs[0] else .tuple vs)) := by
    unfold results
    congr 2
  rw [hr, Array.mapM_eq_mapM_toList]
  simp only [Sem.run_bind, Sem.run_map]
  rw [h1]
  simp only [Result.andThen_ok, Sem.run_pure]
theorem layArgs_tat : ∀ (l : List AV) (k t : Nat), tat (layArgs l k) t = if k ≤ t then (l[t - k]?).getD .undef else .undef
  | [], k, t => by
    show tat .leaf t = _
    simp [tat, Tr.get_leaf, optOr]
  | v :: l, k, t => by
    show tat ((layArgs l (k + 1)).set k v) t = _
    rw [tat_set, layArgs_tat l (k + 1) t]
    by_cases e : t = k
    · subst e; simp
    · rw [if_neg e]
      by_cases h1 : k ≤ t
      · rw [if_pos h1, if_pos (by omega), show t - k = (t - (k + 1)) + 1 by omega]; simp
      · rw [if_neg h1, if_neg (by omega)]
theorem args_arel {args : List AV} {vals : Array Value} {n : Nat} (r : LRel ι args vals.toList) (hn : args.length ≤ n) :
    ARel ι n (layArgs args 0) { tmps := vals ++ Array.replicate (n - vals.size) undef, defers := [] } := by
  have hl := r.length
  have hl' : args.length = vals.size := by simpa using hl
  refine ⟨by simp; omega, fun t => ?_⟩
  rw [layArgs_tat, if_pos (Nat.zero_le _), Nat.sub_zero]
  show VRel ι _ ((vals ++ Array.replicate (n - vals.size) undef).getD t undef)
  rw [Array.getD_eq_getD_getElem?]
  rcases Nat.lt_or_ge t vals.size with h | h
  · rw [Array.getElem?_append_left h]
    cases ha : args[t]? with
    | none => rw [List.getElem?_eq_none_iff] at ha; omega
    | some x =>
      obtain ⟨v, h1, h2⟩ := r.get ha
      rw [Array.getElem?_toList] at h1
      rw [h1]; exact h2
  · rw [List.getElem?_eq_none (by omega), Array.getElem?_append_right h, Array.getElem?_replicate]
    have : ((if t - vals.size < n - vals.size then some undef else none).getD undef) = undef := by split <;> rfl
    rw [this]
    exact undef_rel
theorem fn_ok {f : FuncId} {fn : Func} {args : List AV} {v : AV} (hm : P.follows .mixedOrders = true) (hc : CallOk P call) (hf : P.funcs[f]? = some fn) (e : evFn P N call args h fn = some (v, h')) {vals : Array Value}
    (hh : HRel P ι h.objs.get w) (hn : NOk ι h.next w) (r : LRel ι args vals.toList) : Calls P f vals w (CallRel P ι h w v h') := by
  obtain ⟨c, e1, e2⟩ := ob_eq.1 e
  obtain ⟨e3, e4⟩ := cnd_eq.1 e2
  obtain ⟨⟨x, T', h1⟩, e5, e6⟩ := ob_eq.1 e4
  have hle := ble_le e3
  rw [lenL_eq] at hle
  refine calls_of_wp hf e1 (evC_ok hm hc c (layArgs args 0) h x T' h1 ι _ w _ e5 (args_arel r hle) hh hn fun κ a' w' k1 k2 k3 => ?_)
  have fin : ∀ vs, resA P h1 T' fn.results.toList = some vs → oneA vs = v → h1 = h' → a'.defers = [] ∧ ∃ v', (results fn a'.tmps).run P w' = .ok v' w' ∧ CallRel P ι h w v h' (.returned v') w' := by
    intro vs g1 g2 g3
    obtain ⟨v', j1, j2⟩ := results_ok g1 k2 k1.hrel
    subst g3
    rw [g2] at j2
    exact ⟨k3, v', j1, κ, v', rfl, j2, k1⟩
  cases x with
  | normal =>
    obtain ⟨vs, g1, g2⟩ := ob_eq.1 (show ob (resA P h1 T' fn.results.toList) (fun r => some (oneA r, h1)) = some (v, h') from e6)
    have g3 := Option.some.inj g2
    exact fin vs g1 (congrArg Prod.fst g3) (congrArg Prod.snd g3)
  | ret =>
    obtain ⟨vs, g1, g2⟩ := ob_eq.1 (show ob (resA P h1 T' fn.results.toList) (fun r => some (oneA r, h1)) = some (v, h') from e6)
    have g3 := Option.some.inj g2
    exact fin vs g1 (congrArg Prod.fst g3) (congrArg Prod.snd g3)
  | exit id => cases e6
  | goto l => cases e6
theorem evF_ok (hm : P.follows .mixedOrders = true) : ∀ d, CallOk P (evF P N d)
  | 0 => fun f args h v h' e => by cases (show (none : Option (AV × AH)) = some (v, h') from e)
  | d + 1 => fun f args h v h' e ι w vals hh hn r => by
    obtain ⟨fn, e1, e2⟩ := ob_eq.1 (show ob (P.funcs[f]?) (evFn P N (evF P N d) args h) = some (v, h') from e)
    exact fn_ok hm (evF_ok hm d) e1 e2 hh hn r
/-- what a call without arguments says, if the evaluator says 'true' -/
theorem says_true {d f : Nat} (hm : P.follows .mixedOrders = true) (e : saysTrue P N d f = true) (w : World) :
    Calls P f #[] w fun e w' => e = .returned (.bool true) ∧ Go.RowKit.Below w.heap.size w w' := by
  unfold saysTrue at e
  cases h1 : evF P N d (.fn f) [] AH.empty with
  | none => rw [h1] at e; cases e
  | some q =>
    obtain ⟨v, h'⟩ := q
    rw [h1, optCase_some] at e
    have hn : NOk (fun _ => none) AH.empty.next w := fun b c hb => by cases hb
    refine (evF_ok hm d f [] AH.empty v h' h1 (fun _ => none) w #[] hrel_empty hn .nil).mono fun en w' hen => ?_
    obtain ⟨κ, v', rfl, g1, g2⟩ := hen
    unfold isTrue at e
    split at e
    · rename_i h2 heq
      cases heq
      cases g1
      exact ⟨rfl, g2.evo.os, g2.evo.tape, g2.evo.output, g2.evo.size, fun k hk => g2.evo.frame k hk fun b o c hb => by cases hb⟩
    · cases e
end
end Go.Proofs.Ytgpggojpfbhndaa
