/- Code, functions, calls, ranges over functions: what the evaluator says is so. -/
import Derived.Test.YtegkgfiaegpihaaE14
import Derived.Scope
set_option linter.unusedSimpArgs false
set_option linter.unusedVariables false
namespace Go.Proofs.Ytegkgfiaegpihaa
open Go

section
variable {F : Fence} {n : Nat} {P : Program} {b : Frame} {a : Act} {k : List Item} {cs : List Frame} {w : World} {Q : Exit → Act → World → Prop}
theorem stepR_scope {c : Code} : step P (lone (b.atR a (.code (.scope c) :: k)) cs w) = .next (lone (b.atR a (.code c :: .inScope c :: k)) cs w) :=
  step_lone_go (by simp [stepG, stepG.exec, Frame.atR])
theorem stepR_inScope {c : Code} : step P (lone (b.atR a (.inScope c :: k)) cs w) = .next (lone (b.atR a k) cs w) :=
  step_lone_go (by simp [stepG, stepG.exec, Frame.atR])
theorem wpIn_scope {c : Code} (h : c.wpIn F n P (Exit.noGoto Q) a w) : (Code.scope c).wpIn F n P Q a w := by
  intro b k cs hro hb hr
  have h0 : (lone (b.atR a (.code (.scope c) :: k)) cs w).fenced P F := fenced_calm hb hr rfl
  obtain ⟨e, a₁, w₁, hq, harr⟩ := h b (.inScope c :: k) cs hro hb hr
  cases e with
  | normal => exact ⟨.normal, a₁, w₁, hq, .head h0 stepR_scope (StepsIn.trans harr (.one (fenced_calm hb hr rfl) stepR_inScope))⟩
  | exit id =>
    have hx : exitTo id (.inScope c :: k) = exitTo id k := by simp [exitTo]
    exact ⟨_, a₁, w₁, hq, fun k' hk => .head h0 stepR_scope (harr.1 k' (by rw [hx]; exact hk)),
      fun hr' hk => let ⟨k₁, h1, h2⟩ := harr.2 hr' (by rw [hx]; exact hk); ⟨k₁, h1, .head h0 stepR_scope h2⟩⟩
  | goto l => exact hq.elim
  | ret => exact ⟨_, a₁, w₁, hq, .of_steps (.one h0 stepR_scope) harr⟩
  | panic ch => exact ⟨_, a₁, w₁, hq, .of_steps (.one h0 stepR_scope) harr⟩
  | outgrown => exact ⟨_, a₁, w₁, hq, .of_steps (.one h0 stepR_scope) harr⟩
end

def toEx : AE → Exit
  | .normal => .normal
  | .exit id => .exit id
  | .goto l => .goto l
  | .ret => .ret
/-- the marks of loops that range over functions: their blocks are of no name -/
def mkD (k : Nat) : Deferred := { target := .collected k, args := #[] }
def Marks (B : Nat) (g : Nat → Option AObj) (ι : Nm) (w : World) (ds : List Deferred) : Prop :=
  ∃ ks : List Nat, ds = ks.map mkD ∧ ks.Nodup ∧ ∀ k ∈ ks, B ≤ k ∧ w.heap[k]? = some (.deferred (some [])) ∧ ∀ b o c, g b = some o → Live o → ι b = some c → c.id ≠ k
theorem Marks.nil {B : Nat} {g : Nat → Option AObj} {ι : Nm} {w : World} : Marks B g ι w [] := ⟨[], rfl, List.nodup_nil, fun k hk => by cases hk⟩
theorem Marks.step {B : Nat} {g g' : Nat → Option AObj} {ι κ : Nm} {w w' : World} {ds : List Deferred} (m : Marks B g ι w ds) (e : Evo ι g w κ g' w') : Marks B g' κ w' ds := by
  obtain ⟨ks, h1, h2, h3⟩ := m
  refine ⟨ks, h1, h2, fun k hk => ?_⟩
  obtain ⟨g1, g2, g3⟩ := h3 k hk
  have hlt := (Array.getElem?_eq_some_iff.1 g2).1
  refine ⟨g1, (e.frame k hlt fun b o c x1 x2 x3 => g3 b o c x1 x2.live x3).trans g2, fun b o c f1 f2 f3 f4 => ?_⟩
  obtain ⟨b0, o0, c0, q1, q2, q3, q4⟩ := e.img b o c f1 f2 f3 (f4 ▸ hlt)
  exact g3 b0 o0 c0 q1 q2.1 q3 (q4.trans f4)
/-- the frame of a round, and the name of its loop -/
def RR (ι : Nm) : Option Nat → Option Nat → Prop
  | none, none => True
  | some b, some l => ∃ c, ι b = some c ∧ c.id = l
  | _, _ => False
theorem RR.mono {ι κ : Nm} (h : Nm.le ι κ) : ∀ {rb r : Option Nat}, RR ι rb r → RR κ rb r
  | none, none, _ => trivial
  | some b, some l, ⟨c, h1, h2⟩ => ⟨c, h _ _ h1, h2⟩
  | none, some _, h => h.elim
  | some _, none, h => h.elim

section
variable {P : Program} {ι κ : Nm} {w w' : World} {h h' : AH} {sz : Nat} {T T' : TM} {a a' : Act} {Q : Exit → Act → World → Prop} {call : CallA} {N : Nat}

/-! blocks of no name, blocks that are no cells -/
theorem HRel.free {g : Nat → Option AObj} (hh : HRel P ι g w) {w' : World} (hs : ∀ b o c, g b = some o → Live o → ι b = some c → w'.heap[c.id]? = w.heap[c.id]?) : HRel P ι g w' := by
  refine ⟨fun b o h1 h2 => ?_, hh.inj⟩
  obtain ⟨c, C, e1, e2, e3⟩ := hh.obj b o h1 h2
  exact ⟨c, C, e1, (hs b o c h1 h2 e1).trans e2, e3⟩
theorem Out.allocFree (hh : HRel P ι h.objs.get w) (hn : NOk ι h.next w) (C : Obj) : Out P ι h w ι h (w.alloc C) := by
  refine ⟨⟨Nm.le_refl _, by simp, fun k hk _ => heap_alloc_old C hk, fun b o c h1 h2 h3 _ => ⟨b, o, c, h1, ⟨h2, id⟩, h3, rfl⟩, rfl, rfl, rfl⟩, hh.free fun b o c h1 h2 h3 => heap_alloc_old C (hh.lt h1 h2 h3), fun b c hb => ?_, Nat.le_refl _, fun _ _ => rfl, fun _ _ h => h, fun _ h => h⟩
  have := hn b c hb
  exact ⟨this.1, by simp; omega⟩
/-- a block of no name, that is behind w, is turned -/
theorem Out.putFree (o : Out P ι h w κ h' w') {k : Nat} (C : Obj) (hk : w.heap.size ≤ k) (hf : ∀ b o c, h'.objs.get b = some o → Live o → κ b = some c → c.id ≠ k) : Out P ι h w κ h' (w'.putObj k C) := by
  refine ⟨⟨o.evo.le, by simpa using o.evo.size, fun i hi hno => (World.putObj_heap_other (by omega)).trans (o.evo.frame i hi hno), o.evo.img, o.evo.os, o.evo.tape, o.evo.output⟩,
    o.hrel.free fun b q c h1 h2 h3 => World.putObj_heap_other (hf b q c h1 h2 h3), fun b c hb => ?_, o.next, o.same, o.keep, o.stay⟩
  have := o.nok b c hb
  exact ⟨this.1, by simpa using this.2⟩
/-- a named block is turned -/
theorem Out.turn (hh : HRel P ι h.objs.get w) (hn : NOk ι h.next w) {b : Nat} {c : Blk} {o o' : AObj} {C C' : Obj} (h1 : h.objs.get b = some o) (hl : Live o) (hmu : Mut o) (h2 : ι b = some c) (h3 : w.heap[c.id]? = some C) (h4 : Live o' → ORel P ι c o' C') :
    Out P ι h w ι (h.put b o') (w.putObj c.id C') := by
  have hlt := (Array.getElem?_eq_some_iff.1 h3).1
  refine ⟨?_, ?_, fun k d hk => ⟨(hn k d hk).1, by simpa using (hn k d hk).2⟩, Nat.le_refl _, fun _ _ => rfl, fun k hk e => by rw [get_put]; split <;> simp_all, fun k e => by rw [get_put]; split <;> simp_all⟩
  · rw [get_put_fn]
    refine ⟨Nm.le_refl _, by simp, fun k hk hno => World.putObj_heap_other (fun hid => hno b _ c h1 hmu h2 hid.symm), ?_, rfl, rfl, rfl⟩
    intro b' q c' k1 k2 k3 _
    by_cases eb : b' = b
    · subst eb; rw [h2] at k3; cases k3; exact ⟨_, _, _, h1, ⟨hl, fun _ => hmu⟩, h2, rfl⟩
    · simp only [if_neg eb] at k1; exact ⟨_, _, _, k1, ⟨k2, id⟩, k3, rfl⟩
  · rw [get_put_fn]
    constructor
    · intro b' q k1 k2
      by_cases eb : b' = b
      · subst eb
        simp only [if_true] at k1
        cases k1
        exact ⟨c, C', h2, World.putObj_heap_same hlt, h4 k2⟩
      · simp only [if_neg eb] at k1
        obtain ⟨c', C2, e1, e2, e3⟩ := hh.obj b' q k1 k2
        exact ⟨c', C2, e1, (World.putObj_heap_other (fun hid => eb (hh.inj _ _ _ _ _ _ k1 k2 h1 hl e1 h2 hid))).trans e2, e3⟩
    · intro b1 b2 o1 o2 c1 c2 k1 k2 k3 k4 k5 k6 k7
      have conv : ∀ {x : Nat} {q : AObj}, (if x = b then some o' else h.objs.get x) = some q → Live q → ∃ q', h.objs.get x = some q' ∧ Live q' := by
        intro x q hx ho
        by_cases ex : x = b
        · subst ex; exact ⟨_, h1, hl⟩
        · rw [if_neg ex] at hx; exact ⟨q, hx, ho⟩
      obtain ⟨o1', m1, m2⟩ := conv k1 k2
      obtain ⟨o2', m3, m4⟩ := conv k3 k4
      exact hh.inj _ _ _ _ _ _ m1 m2 m3 m4 k5 k6 k7
theorem loop_obj (hh : HRel P ι h.objs.get w) {b : Nat} {T : Tr AV} {sz : Nat} {ps : List Nat} {as body : Code} {st : LSt} (e : h.objs.get b = some (.loop T sz ps as body st)) :
    ∃ c L, ι b = some c ∧ w.heap[c.id]? = some (.loop L) ∧ ORel P ι c (.loop T sz ps as body st) (.loop L) := by
  obtain ⟨c, C, h1, h2, h3⟩ := hh.obj b _ e trivial
  cases C <;> first | exact h3.elim | exact ⟨c, _, h1, h2, h3⟩

/-- what is to hold behind a piece of code -/
def CodeOk (P : Program) (call : CallA) (sz : Nat) (rb : Option Nat) (c : Code) (f : TM → AH → Option (AE × TM × AH)) : Prop :=
  ∀ (T : TM) (h : AH) (x : AE) (T' : TM) (h' : AH) (ι : Nm) (a : Act) (w : World) (r : Option Nat) (B : Nat) (Q : Exit → Act → World → Prop), f T h = some (x, T', h') → RR ι rb r → B ≤ w.heap.size → ARel ι sz T a → HRel P ι h.objs.get w → NOk ι h.next w → Marks B h.objs.get ι w a.defers →
    (∀ κ a' w', Out P ι h w κ h' w' → ARel κ sz T' a' → Marks B h'.objs.get κ w' a'.defers → Q (toEx x) a' w') → c.wpIn (FW r) 0 P Q a w
theorem loop_ok {rb : Option Nat} {c : Code} {f : TM → AH → Option (AE × TM × AH)} (hf : CodeOk P call sz rb c f) : ∀ (n : Nat) (T : TM) (h : AH) (x : AE) (T' : TM) (h' : AH) (ι : Nm) (a : Act) (w : World) (r : Option Nat) (B : Nat) (Q : Exit → Act → World → Prop), loopN f n T h = some (x, T', h') → RR ι rb r → B ≤ w.heap.size → ARel ι sz T a → HRel P ι h.objs.get w → NOk ι h.next w → Marks B h.objs.get ι w a.defers →
    (∀ κ a' w', Out P ι h w κ h' w' → ARel κ sz T' a' → Marks B h'.objs.get κ w' a'.defers → Q (toEx x) a' w') → Code.roundsIn (FW r) 0 P c Q n a w
  | 0, T, h, x, T', h', ι, a, w, r, B, Q, e, _, _, _, _, _, _, _ => by cases (show (none : Option (AE × TM × AH)) = some (x, T', h') from e)
  | n + 1, T, h, x, T', h', ι, a, w, r, B, Q, e, rr, hB, ra, hh, hn, hm, hQ => by
    obtain ⟨⟨y, T1, h1⟩, e1, e2⟩ := ob_eq.1 (show ob (f T h) _ = some (x, T', h') from e)
    rw [roundsIn_succ]
    refine hf T h y T1 h1 ι a w r B _ e1 rr hB ra hh hn hm fun κ a' w' k1 k2 k3 => ?_
    cases y with
    | normal =>
      exact loop_ok hf n T1 h1 x T' h' κ a' w' r B Q e2 (rr.mono k1.le) (Nat.le_trans hB k1.evo.size) k2 k1.hrel k1.nok k3 fun μ a2 w2 g1 g2 g3 => hQ μ a2 w2 (k1.trans g1) g2 g3
    | exit id => cases e2; exact hQ κ a' w' k1 k2 k3
    | goto l => cases e2; exact hQ κ a' w' k1 k2 k3
    | ret => cases e2; exact hQ κ a' w' k1 k2 k3

/-! a range over a function -/
theorem enterR {vs : List AV} {us : List Value} {x : AV} {x' : Value} {n : ANx} (e : enterA P vs x = some n) (r : VRel ι x x') (rv : LRel ι vs us) :
    (∃ gf fl cl args, x' = .func (.func gf) ⟨fl⟩ ⟨cl⟩ ∧ callable P gf = true ∧ n = .enter gf args ∧ LRel ι args (fl ++ us ++ cl)) ∨ ∃ b, n = .round b vs := by
  unfold enterA at e
  split at e
  · rename_i g first cap
    obtain ⟨e1, e2⟩ := cnd_eq.1 e
    cases e2
    cases r
    refine .inl ⟨g, first.toList, cap.toList, _, rfl, e1, rfl, ?_⟩
    rw [appL_eq, appL_eq, List.append_assoc]
    exact (LRel.flats _).append (rv.append (LRel.flats _))
  · rename_i g first cap
    obtain ⟨e1, e2⟩ := cnd_eq.1 e
    cases e2
    cases r with
    | fn _ _ _ l r h1 h2 =>
      refine .inl ⟨g, l, r, _, rfl, e1, rfl, ?_⟩
      rw [appL_eq, appL_eq, List.append_assoc]
      exact h1.append (rv.append h2)
  · cases e; exact .inr ⟨_, rfl⟩
  · cases e
theorem resolve_range {g : Operand} {l gf : Nat} {fl cl : List Value} {w1 : World} (hg : a.eval g = .func (.func gf) ⟨fl⟩ ⟨cl⟩) (hc : callable P gf = true) :
    ∃ d, (resolve a.eval (rangeCall g l) 0).run P w1 = .ok d w1 ∧ (invoke d.target d.args).run P w1 = .ok (.enter gf ((⟨fl⟩ : Array Value) ++ #[.func (.yield l) #[] #[]] ++ ⟨cl⟩)) w1 := by
  refine ⟨{ target := .fn (.func gf) ⟨cl⟩, args := (⟨fl⟩ : Array Value) ++ #[.func (.yield l) #[] #[]] }, ?_, ?_⟩
  · simp only [resolve, hg, Deferred.ofValue, Sem.run_bind, Sem.run_pure, Result.andThen_ok]
    simp [Act.eval]
  · simp only [invoke, run_callFunc hc]
theorem jump_wp {r : Option Nat} (x : AE) (hq : Q (toEx x) a w) : (jumpOf x).wpIn (FW r) 0 P Q a w := by
  cases x with
  | normal => exact wpIn_skip hq
  | exit id => exact wpIn_exit hq
  | goto l => exact wpIn_goto hq
  | ret => exact wpIn_ret hq
/-- the call of the function, and what is left to be done behind it -/
theorem range_main {r : Option Nat} {B : Nat} {g : Operand} {ps : Array Tmp} {as body : Code} {x : AE} {w0 : World} {ds : List Deferred} {fn : FuncId} {D : Nat} {n : ANx} (hc : CallOk P call)
    (e : enterA P [.yl h.next] (evO T g) = some n) (e2 : rangeEnter call T h.next (h.new (.loop T sz ps.toList as body .ready)) n = some (x, T', h')) (ra : ARel ι sz T a)
    (o0 : Out P ι h w ι h w0) (hm : Marks B h.objs.get ι w0 ds)
    (hQ : ∀ κ a' w', Out P ι h w κ h' w' → ARel κ sz T' a' → Marks B h'.objs.get κ w' a'.defers → Q (toEx x) a' w') :
    ∃ d f args, (resolve a.eval (rangeCall g w0.heap.size) 0).run P (w0.alloc (.loop { state := .ready, pending := none, fn, tmps := a.tmps, params := ps, assign := as, body, defers := D })) = .ok d (w0.alloc (.loop { state := .ready, pending := none, fn, tmps := a.tmps, params := ps, assign := as, body, defers := D })) ∧
      (invoke d.target d.args).run P (w0.alloc (.loop { state := .ready, pending := none, fn, tmps := a.tmps, params := ps, assign := as, body, defers := D })) = .ok (.enter f args) (w0.alloc (.loop { state := .ready, pending := none, fn, tmps := a.tmps, params := ps, assign := as, body, defers := D })) ∧
      CallsIn (FW r) 0 P f args (w0.alloc (.loop { state := .ready, pending := none, fn, tmps := a.tmps, params := ps, assign := as, body, defers := D })) (rangePost (FW r) 0 P w0.heap.size Q { a with defers := ds }) := by
  have hb0 := o0.nok.none
  have hle1 := Nm.le_add (⟨w0.heap.size, 0⟩ : Blk) hb0
  have o1 : Out P ι h w0 (ι.add h.next ⟨w0.heap.size, 0⟩) (h.new (.loop T sz ps.toList as body .ready)) (w0.alloc (.loop { state := .ready, pending := none, fn, tmps := a.tmps, params := ps, assign := as, body, defers := D })) :=
    Out.new o0.hrel o0.nok ⟨rfl, rfl, rfl, ⟨ra.size, fun t => (ra.val t).mono hle1⟩, rfl, rfl⟩
  have hk1 : (ι.add h.next ⟨w0.heap.size, 0⟩) h.next = some ⟨w0.heap.size, 0⟩ := Nm.add_same _ _ _
  generalize (w0.alloc (.loop { state := .ready, pending := none, fn, tmps := a.tmps, params := ps, assign := as, body, defers := D })) = w1 at o1 ⊢
  generalize (ι.add h.next ⟨w0.heap.size, 0⟩) = κ1 at o1 hk1 hle1
  rcases enterR e ((ra.op g).mono hle1) (.cons _ _ _ _ (.yl _ _ hk1) .nil) with ⟨gf, fl, cl, args, hg, hcl, rfl, hl⟩ | ⟨b, rfl⟩
  · obtain ⟨d, hd1, hd2⟩ := resolve_range (P := P) (a := a) (l := w0.heap.size) (w1 := w1) hg hcl
    refine ⟨d, gf, _, hd1, hd2, callsIn_fw ?_⟩
    obtain ⟨⟨v, h2⟩, e3, e4⟩ := ob_eq.1 (show ob (call (.fn gf) args _) _ = some (x, T', h') from e2)
    obtain ⟨q, e5, e6⟩ := ob_eq.1 e4
    refine (hc.fn gf args _ v h2 e3 κ1 w1 _ o1.hrel o1.nok (by simpa using hl)).mono fun en w3 hen => ?_
    obtain ⟨μ, v', rfl, _, o2⟩ := hen
    cases q <;> simp only [endLoopA] at e6 <;> first | cases e6 | skip
    rename_i T2 sz2 ps2 as2 bd2 st
    obtain ⟨c, L, f1, f2, f3⟩ := loop_obj o2.hrel e5
    have f4 := o2.le _ _ hk1
    rw [f1] at f4
    cases f4
    obtain ⟨_, _, _, _, hst⟩ := f3
    have o3 : Out P μ h2 w3 μ (h2.put h.next .dead) (w3.putObj w0.heap.size (.loop { L with state := .exhausted })) := Out.turn o2.hrel o2.nok e5 trivial trivial f1 f2 (fun hl => hl.elim)
    have oAll := ((o0.trans o1).trans o2).trans o3
    have hmA : Marks B (h2.put h.next .dead).objs.get μ (w3.putObj w0.heap.size (.loop { L with state := .exhausted })) ds := ((hm.step o1.evo).step o2.evo).step o3.evo
    have hra : ∀ T'', T'' = T → ARel μ sz T'' { a with defers := ds } := fun T'' hT => by subst hT; exact ⟨ra.size, fun t => (ra.val t).mono oAll.le⟩
    cases st with
    | ready =>
      cases (show some (AE.normal, T, h2.put h.next .dead) = some (x, T', h') from e6)
      refine ⟨L.pending, w3.putObj w0.heap.size (.loop { L with state := .exhausted }), run_endLoop f2 (by rw [hst.1]; simp), ?_⟩
      generalize w3.putObj w0.heap.size (.loop { L with state := .exhausted }) = W at oAll hmA ⊢
      rw [hst.2]
      exact hQ μ _ _ oAll (hra _ rfl) hmA
    | busy => cases e6
    | done y =>
      cases (show some (y, T, h2.put h.next .dead) = some (x, T', h') from e6)
      refine ⟨L.pending, w3.putObj w0.heap.size (.loop { L with state := .exhausted }), run_endLoop f2 (by rw [hst.1]; simp), ?_⟩
      generalize w3.putObj w0.heap.size (.loop { L with state := .exhausted }) = W at oAll hmA ⊢
      rw [hst.2]
      exact jump_wp _ (hQ μ _ _ oAll (hra _ rfl) hmA)
  · cases (show (none : Option (AE × TM × AH)) = some (x, T', h') from e2)
theorem range_ok {rb r : Option Nat} {B : Nat} {g : Operand} {ps : Array Tmp} {as body : Code} {x : AE} (hc : CallOk P call) (e : rangeA P call sz rb g ps as body T h = some (x, T', h')) (rr : RR ι rb r) (hB : B ≤ w.heap.size) (ra : ARel ι sz T a)
    (hh : HRel P ι h.objs.get w) (hn : NOk ι h.next w) (hm : Marks B h.objs.get ι w a.defers) (hQ : ∀ κ a' w', Out P ι h w κ h' w' → ARel κ sz T' a' → Marks B h'.objs.get κ w' a'.defers → Q (toEx x) a' w') :
    (Code.rangeFunc g ps as body).wpIn (FW r) 0 P Q a w := by
  obtain ⟨e0, e1⟩ := cnd_eq.1 e
  obtain ⟨n, e2, e3⟩ := ob_eq.1 e1
  refine wpIn_rangeFunc fun fn _ => ?_
  cases rb with
  | none =>
    cases r with
    | some l => exact rr.elim
    | none =>
      have o0 := Out.allocFree hh hn (.deferred (some []))
      obtain ⟨ks, m1, m2, m3⟩ := hm
      have hm0 : Marks B h.objs.get ι (w.alloc (.deferred (some []))) ([{ target := .collected w.heap.size, args := #[] }] ++ a.defers) := by
        refine ⟨w.heap.size :: ks, by rw [m1]; rfl, List.nodup_cons.2 ⟨fun hx => ?_, m2⟩, fun k hk => ?_⟩
        · have := (Array.getElem?_eq_some_iff.1 (m3 _ hx).2.1).1; omega
        · rcases List.mem_cons.1 hk with rfl | hk
          · exact ⟨hB, heap_alloc_new _, fun b o c q1 q2 q3 => by have := hh.lt q1 q2 q3; omega⟩
          · obtain ⟨q1, q2, q3⟩ := m3 k hk
            exact ⟨q1, (heap_alloc_old _ (Array.getElem?_eq_some_iff.1 q2).1).trans q2, q3⟩
      obtain ⟨d, f, args, h1, h2, h3⟩ := range_main (r := none) (fn := fn) (D := w.heap.size) hc e2 e3 ra o0 hm0 hQ
      have hs : (w.alloc (.deferred (some []))).heap.size = w.heap.size + 1 := by simp
      rw [hs] at h1 h3
      exact ⟨w.heap.size + 1, _, _, d, _, f, args, _, run_enterLoop_outer fn a.tmps ps as body, h1, fun _ _ => trivial, h2, fun hx => by simp at hx, h3⟩
  | some b0 =>
    cases r with
    | none => exact rr.elim
    | some l =>
      obtain ⟨c0, q1, rfl⟩ := rr
      have hl0 : ∃ r0, w.heap[c0.id]? = some (.loop r0) := by
        have e0' : optCase (h.objs.get b0) false isLoop = true := e0
        cases hx : h.objs.get b0 with
        | none => rw [hx] at e0'; cases e0'
        | some o =>
          rw [hx, optCase_some] at e0'
          cases o <;> simp only [isLoop] at e0' <;> first | cases e0' | skip
          obtain ⟨c, L, f1, f2, _⟩ := loop_obj hh hx
          rw [q1] at f1; cases f1
          exact ⟨L, f2⟩
      obtain ⟨r0, hr0⟩ := hl0
      obtain ⟨d, f, args, h1, h2, h3⟩ := range_main (r := some c0.id) (fn := fn) (D := r0.defers) hc e2 e3 ra (Out.refl hh hn) hm hQ
      exact ⟨w.heap.size, [], _, d, _, f, args, _, run_enterLoop_inner hr0 fn a.tmps ps as body, h1, fun _ _ => trivial, h2, fun hx => by simp at hx, h3⟩
theorem evC_ok (hm : P.follows .mixedOrders = true) (hc : CallOk P call) (rb : Option Nat) (c : Code) : CodeOk P call sz rb c (evC P call sz N rb c) := by
  induction c with
  | skip =>
    intro T h x T' h' ι a w r B Q e rr hB ra hh hn hk hQ
    cases (show some (AE.normal, T, h) = some (x, T', h') from e)
    exact wpIn_skip (hQ ι a w (Out.refl hh hn) ra hk)
  | region id ops d =>
    intro T h x T' h' ι a w r B Q e rr hB ra hh hn hk hQ
    obtain ⟨⟨T1, h1⟩, e1, e2⟩ := ob_eq.1 (show ob (cnd d (evDraw P call sz ops.toList T h) (evOps P call sz ops.toList ops.toList T h)) (fun q => some (AE.normal, q)) = some (x, T', h') from e)
    cases e2
    have hQ' : ∀ κ a' w', Out P ι h w κ h' w' → ARel κ sz T' a' → a'.defers = a.defers → Q .normal a' w' := fun κ a' w' g1 g2 g3 => hQ κ a' w' g1 g2 (by rw [g3]; exact hk.step g1.evo)
    cases d with
    | true => exact evDraw_ok hm hc e1 ra hh hn hQ'
    | false =>
      refine wpIn_region ?_
      have := evOps_ok (P := P) (Q := Q) (r := r) hc ops.toList 0 T h ι a w (by simp) e1 ra hh hn hQ'
      rw [List.range_eq_range']
      simpa using this
  | seq x y ihx ihy =>
    intro T h z T' h' ι a w r B Q e rr hB ra hh hn hk hQ
    obtain ⟨⟨u, T1, h1⟩, e1, e2⟩ := ob_eq.1 (show ob (evC P call sz N rb x T h) (thenA (evC P call sz N rb y)) = some (z, T', h') from e)
    refine wpIn_seq (ihx T h u T1 h1 ι a w r B _ e1 rr hB ra hh hn hk fun κ a' w' k1 k2 k3 => ?_)
    cases u with
    | normal => exact ihy T1 h1 z T' h' κ a' w' r B Q e2 (rr.mono k1.le) (Nat.le_trans hB k1.evo.size) k2 k1.hrel k1.nok k3 fun μ a2 w2 g1 g2 g3 => hQ μ a2 w2 (k1.trans g1) g2 g3
    | exit id => cases e2; exact hQ κ a' w' k1 k2 k3
    | goto l => cases e2; exact hQ κ a' w' k1 k2 k3
    | ret => cases e2; exact hQ κ a' w' k1 k2 k3
  | cond c x y ihx ihy =>
    intro T h z T' h' ι a w r B Q e rr hB ra hh hn hk hQ
    have e' : condA (evC P call sz N rb x) (evC P call sz N rb y) T h (evO T c) = some (z, T', h') := e
    have hr := ra.op c
    unfold condA at e'
    split at e'
    · rename_i b hb
      rw [hb] at hr
      generalize hv : a.eval c = v at hr
      cases hr
      cases b with
      | true => exact wpIn_cond_true hv (ihx T h z T' h' ι a w r B Q e' rr hB ra hh hn hk hQ)
      | false => exact wpIn_cond_false hv (ihy T h z T' h' ι a w r B Q e' rr hB ra hh hn hk hQ)
    · cases e'
  | block id c ih =>
    intro T h z T' h' ι a w r B Q e rr hB ra hh hn hk hQ
    obtain ⟨⟨u, T1, h1⟩, e1, e2⟩ := ob_eq.1 (show ob (evC P call sz N rb c T h) (blockA id) = some (z, T', h') from e)
    refine wpIn_block (ih T h u T1 h1 ι a w r B _ e1 rr hB ra hh hn hk fun κ a' w' k1 k2 k3 => ?_)
    cases u with
    | normal => cases e2; exact hQ κ a' w' k1 k2 k3
    | goto l => cases e2; exact hQ κ a' w' k1 k2 k3
    | ret => cases e2; exact hQ κ a' w' k1 k2 k3
    | exit id' =>
      show if id' = id then Q .normal a' w' else Q (.exit id') a' w'
      rcases cnd_of (show cnd (Nat.beq id' id) (some (AE.normal, T1, h1)) (some (AE.exit id', T1, h1)) = some (z, T', h') from e2) with ⟨e3, e4⟩ | ⟨e3, e4⟩
      · cases e4; rw [if_pos (beq_eq e3)]; exact hQ κ a' w' k1 k2 k3
      · cases e4
        rw [if_neg (by rintro rfl; rw [Nat.beq_refl] at e3; cases e3)]
        exact hQ κ a' w' k1 k2 k3
  | loop c ih =>
    intro T h z T' h' ι a w r B Q e rr hB ra hh hn hk hQ
    exact wpIn_loop_rounds N (loop_ok ih N T h z T' h' ι a w r B Q e rr hB ra hh hn hk hQ)
  | rangeFunc f ps as b _ _ =>
    intro T h z T' h' ι a w r B Q e rr hB ra hh hn hk hQ
    exact range_ok hc e rr hB ra hh hn hk hQ
  | exit id =>
    intro T h z T' h' ι a w r B Q e rr hB ra hh hn hk hQ
    cases (show some (AE.exit id, T, h) = some (z, T', h') from e)
    exact wpIn_exit (hQ ι a w (Out.refl hh hn) ra hk)
  | scope c ih =>
    intro T h z T' h' ι a w r B Q e rr hB ra hh hn hk hQ
    obtain ⟨⟨u, T1, h1⟩, e1, e2⟩ := ob_eq.1 (show ob (evC P call sz N rb c T h) scopeA = some (z, T', h') from e)
    refine wpIn_scope (ih T h u T1 h1 ι a w r B _ e1 rr hB ra hh hn hk fun κ a' w' k1 k2 k3 => ?_)
    cases u with
    | normal => cases e2; exact hQ κ a' w' k1 k2 k3
    | goto l => cases e2
    | ret => cases e2; exact hQ κ a' w' k1 k2 k3
    | exit id' => cases e2; exact hQ κ a' w' k1 k2 k3
  | label l =>
    intro T h z T' h' ι a w r B Q e rr hB ra hh hn hk hQ
    cases (show some (AE.normal, T, h) = some (z, T', h') from e)
    exact wpIn_label (hQ ι a w (Out.refl hh hn) ra hk)
  | goto l =>
    intro T h z T' h' ι a w r B Q e rr hB ra hh hn hk hQ
    cases (show some (AE.goto l, T, h) = some (z, T', h') from e)
    exact wpIn_goto (hQ ι a w (Out.refl hh hn) ra hk)
  | ret =>
    intro T h z T' h' ι a w r B Q e rr hB ra hh hn hk hQ
    cases (show some (AE.ret, T, h) = some (z, T', h') from e)
    exact wpIn_ret (hQ ι a w (Out.refl hh hn) ra hk)
  | refuse s => intro T h z T' h' ι a w r B Q e; cases (show (none : Option (AE × TM × AH)) = some (z, T', h') from e)

/-! functions -/
def resSem (tmps : Array Value) : ResultVar → Sem Value
  | .tmp t => pure (tmps.getD t undef)
  | .cell a t => do loadVar t (← asAddr (tmps.getD a undef))
theorem resVar_ok {x : ResultVar} {v : AV} (e : resVar P h T x = some v) (ra : ARel ι sz T a) (hh : HRel P ι h.objs.get w) :
    ∃ v', (resSem a.tmps x).run P w = .ok v' w ∧ VRel ι v v' := by
  cases x with
  | tmp t =>
    cases (show some (tat T t) = some v from e)
    exact ⟨_, rfl, ra.val t⟩
  | cell c t =>
    have r := ra.val c
    have e' : loadA P h t (tat T c) = some v := e
    show ∃ v', (do loadVar t (← asAddr (a.tmps.getD c undef)) : Sem Value).run P w = .ok v' w ∧ VRel ι v v'
    generalize a.tmps.getD c undef = y at r ⊢
    obtain ⟨v', h1, h2⟩ := loadA_ok e' hh r
    refine ⟨v', ?_, h2⟩
    generalize hx : tat T c = x at e' r
    cases x <;> simp only [loadA] at e' <;> first | cases e' | skip
    · cases r
      unfold loadGlob at e'
      split at e'
      · simp only [Instr.loadAt, Instr.sureAddr, Sem.run_bind, Sem.run_pure, Result.andThen_ok] at h1
        simp only [asAddr, Sem.run_bind, Sem.run_pure, Result.andThen_ok]
        exact h1
      · cases e'
    cases r
    simp only [Instr.loadAt, Instr.sureAddr, Sem.run_bind, Sem.run_pure, Result.andThen_ok] at h1
    simp only [asAddr, Sem.run_bind, Sem.run_pure, Result.andThen_ok]
    exact h1
theorem resA_ok (ra : ARel ι sz T a) (hh : HRel P ι h.objs.get w) : ∀ {l : List ResultVar} {vs : List AV}, resA P h T l = some vs →
    ∃ us, (l.mapM (resSem a.tmps)).run P w = .ok us w ∧ LRel ι vs us
  | [], vs, e => by
    cases (show some [] = some vs from e)
    exact ⟨[], by simp, .nil⟩
  | x :: l, vs, e => by
    obtain ⟨v, e1, e2⟩ := ob_eq.1 (show ob (resVar P h T x) (fun v => ob (resA P h T l) fun r => some (v :: r)) = some vs from e)
    obtain ⟨r, e3, e4⟩ := ob_eq.1 e2
    cases e4
    obtain ⟨v', h1, h2⟩ := resVar_ok e1 ra hh
    obtain ⟨us, h3, h4⟩ := resA_ok ra hh e3
    refine ⟨v' :: us, ?_, .cons _ _ _ _ h2 h4⟩
    simp only [List.mapM_cons, Sem.run_bind, h1, Result.andThen_ok, h3, Sem.run_pure]
theorem oneA_ok {l : List AV} {us : List Value} (r : LRel ι l us) : VRel ι (oneA l) (if h : (⟨us⟩ : Array Value).size = 1 then (⟨us⟩ : Array Value)[0] else .tuple ⟨us⟩) := by
  cases r with
  | nil => exact VRel.mkTp .nil
  | cons a v l vs h1 h2 =>
    cases h2 with
    | nil => exact h1
    | cons b u l vs h3 h4 => exact VRel.mkTp (.cons _ _ _ _ h1 (.cons _ _ _ _ h3 h4))
theorem results_ok {fn : Func} {vs : List AV} (e : resA P h T fn.results.toList = some vs) (ra : ARel ι sz T a) (hh : HRel P ι h.objs.get w) :
    ∃ v', (results fn a.tmps).run P w = .ok v' w ∧ VRel ι (oneA vs) v' := by
  obtain ⟨us, h1, h2⟩ := resA_ok ra hh e
  refine ⟨_, ?_, oneA_ok h2⟩
  have hr : results fn a.tmps = (do let vs ← fn.results.mapM (resSem a.tmps); pure (if h : vs.size = 1 then vs[0] else .tuple vs)) := by
    unfold results
    congr 2
  rw [hr, Array.mapM_eq_mapM_toList]
  simp only [Sem.run_bind, Sem.run_map]
  rw [h1]
  simp only [Result.andThen_ok, Sem.run_pure]
theorem layArgs_tat : ∀ (l : List AV) (k t : Nat), tat (layArgs l k) t = if k ≤ t then (l[t - k]?).getD .undef else .undef
  | [], k, t => by
    show tat .leaf t = _
    simp [tat, Tr.get_leaf, optOr]
  | v :: l, k, t => by
    show tat ((layArgs l (k + 1)).set k v) t = _
    rw [tat_set, layArgs_tat l (k + 1) t]
    by_cases e : t = k
    · subst e; simp
    · rw [if_neg e]
      by_cases h1 : k ≤ t
      · rw [if_pos h1, if_pos (by omega), show t - k = (t - (k + 1)) + 1 by omega]; simp
      · rw [if_neg h1, if_neg (by omega)]
theorem args_arel {args : List AV} {vals : Array Value} {n : Nat} (r : LRel ι args vals.toList) (hn : args.length ≤ n) :
    ARel ι n (layArgs args 0) { tmps := vals ++ Array.replicate (n - vals.size) undef, defers := [] } := by
  have hl := r.length
  have hl' : args.length = vals.size := by simpa using hl
  refine ⟨by simp; omega, fun t => ?_⟩
  rw [layArgs_tat, if_pos (Nat.zero_le _), Nat.sub_zero]
  show VRel ι _ ((vals ++ Array.replicate (n - vals.size) undef).getD t undef)
  rw [Array.getD_eq_getD_getElem?]
  rcases Nat.lt_or_ge t vals.size with h | h
  · rw [Array.getElem?_append_left h]
    cases ha : args[t]? with
    | none => rw [List.getElem?_eq_none_iff] at ha; omega
    | some x =>
      obtain ⟨v, h1, h2⟩ := r.get ha
      rw [Array.getElem?_toList] at h1
      rw [h1]; exact h2
  · rw [List.getElem?_eq_none (by omega), Array.getElem?_append_right h, Array.getElem?_replicate]
    have : ((if t - vals.size < n - vals.size then some undef else none).getD undef) = undef := by split <;> rfl
    rw [this]
    exact undef_rel
/-- the marks of a function that is left -/
theorem leaves_marks {fn : Func} {T : TM} {vs : List AV} {h1 : AH} (e : resA P h1 T fn.results.toList = some vs) : ∀ (ks : List Nat) (w' : World), ks.Nodup → (∀ k ∈ ks, w.heap.size ≤ k ∧ w'.heap[k]? = some (.deferred (some [])) ∧ ∀ b o c, h1.objs.get b = some o → Live o → κ b = some c → c.id ≠ k) →
    Out P ι h w κ h1 w' → ARel κ sz T a' → LeavesInM (FW none) 0 P fn a'.tmps (CallRel P ι h w (oneA vs) h1) (ks.map mkD) .returning w'
  | [], w', _, _, o, ra => by
    obtain ⟨v', j1, j2⟩ := results_ok e ra o.hrel
    exact ⟨v', j1, κ, v', rfl, j2, o⟩
  | k :: ks, w', hnd, hk, o, ra => by
    obtain ⟨q1, q2, q3⟩ := hk k (List.mem_cons_self ..)
    obtain ⟨n1, n2⟩ := List.nodup_cons.1 hnd
    refine ⟨by simp, .inl ⟨k, _, rfl, run_takeDeferred q2, ?_⟩⟩
    refine leaves_marks e ks _ n2 (fun j hj => ?_) (o.putFree _ q1 q3) ra
    obtain ⟨p1, p2, p3⟩ := hk j (List.mem_cons_of_mem _ hj)
    exact ⟨p1, (World.putObj_heap_other (by rintro rfl; exact n1 hj)).trans p2, p3⟩
theorem fn_ok {f : FuncId} {fn : Func} {args : List AV} {v : AV} (hm : P.follows .mixedOrders = true) (hc : CallOk P call) (hf : P.funcs[f]? = some fn) (e : evFn P N call args h fn = some (v, h')) {vals : Array Value}
    (hh : HRel P ι h.objs.get w) (hn : NOk ι h.next w) (r : LRel ι args vals.toList) : CallsIn (FW none) 0 P f vals w (CallRel P ι h w v h') := by
  obtain ⟨c, e1, e2⟩ := ob_eq.1 e
  obtain ⟨e3, e4⟩ := cnd_eq.1 e2
  obtain ⟨⟨x, T', h1⟩, e5, e6⟩ := ob_eq.1 e4
  have hle := ble_le e3
  rw [lenL_eq] at hle
  refine callsIn_of_wp_marks hf e1 trivial (evC_ok hm hc none c (layArgs args 0) h x T' h1 ι _ w none w.heap.size _ e5 trivial (Nat.le_refl _) (args_arel r hle) hh hn Marks.nil fun κ a' w' k1 k2 k3 => ?_)
  obtain ⟨ks, m1, m2, m3⟩ := k3
  cases x with
  | normal =>
    obtain ⟨vs, g1, g2⟩ := ob_eq.1 (show ob (resA P h1 T' fn.results.toList) (fun r => some (oneA r, h1)) = some (v, h') from e6)
    cases g2
    show LeavesInM (FW none) 0 P fn a'.tmps _ a'.defers .returning w'
    rw [m1]
    exact leaves_marks g1 ks w' m2 m3 k1 k2
  | ret =>
    obtain ⟨vs, g1, g2⟩ := ob_eq.1 (show ob (resA P h1 T' fn.results.toList) (fun r => some (oneA r, h1)) = some (v, h') from e6)
    cases g2
    show LeavesInM (FW none) 0 P fn a'.tmps _ a'.defers .returning w'
    rw [m1]
    exact leaves_marks g1 ks w' m2 m3 k1 k2
  | exit id => cases e6
  | goto l => cases e6

/-! rounds -/
theorem setArgs_ok : ∀ {ps : List Nat} {vs : List AV} {us : List Value} {T T1 : TM} {tm : Array Value}, setArgs sz ps vs T = some T1 → LRel ι vs us → TmRel ι sz T tm →
    us.length = ps.length ∧ TmRel ι sz T1 ((ps.zip us).foldl (fun tmps (t, a) => tmps.setIfInBounds t a) tm)
  | [], vs, us, T, T1, tm, e, rv, rt => by
    cases rv with
    | nil => cases (show some T = some T1 from e); exact ⟨rfl, rt⟩
    | cons => exact absurd e (by intro h; cases (show (none : Option TM) = some T1 from h))
  | p :: ps, vs, us, T, T1, tm, e, rv, rt => by
    cases rv with
    | nil => exact absurd e (by intro h; cases (show (none : Option TM) = some T1 from h))
    | cons v u vs us r1 r2 =>
      obtain ⟨T2, e1, e2⟩ := ob_eq.1 (show ob (putA sz T (some p) v) (setArgs sz ps vs) = some T1 from e)
      have ra : ARel ι sz T { tmps := tm, defers := [] } := ⟨rt.1, rt.2⟩
      have r2' := ra.put (d := some p) e1 r1
      obtain ⟨k1, k2⟩ := setArgs_ok e2 r2 (tm := tm.setIfInBounds p u) ⟨r2'.size, r2'.val⟩
      exact ⟨by simp [k1], by simpa using k2⟩
theorem setSt_ok {b : Nat} {st : LSt} (e : setStA h b st = some h') (hh : HRel P ι h.objs.get w) (hn : NOk ι h.next w) {c : Blk} (hb : ι b = some c) :
    ∃ L, w.heap[c.id]? = some (.loop L) ∧ ∀ L' : Loop, L'.params = L.params → L'.assign = L.assign → L'.body = L.body → L'.tmps = L.tmps → StRel st L' → Out P ι h w ι h' (w.putObj c.id (.loop L')) := by
  obtain ⟨o, e1, e2⟩ := ob_eq.1 e
  cases o <;> simp only [setSt] at e2 <;> first | cases e2 | skip
  obtain ⟨c', L, f1, f2, f3, f4, f5, f6, f7⟩ := loop_obj hh e1
  rw [hb] at f1; cases f1
  refine ⟨L, f2, fun L' g1 g2 g3 g4 g5 => Out.turn hh hn e1 trivial trivial hb f2 fun _ => ⟨by rw [g1]; exact f3, by rw [g2]; exact f4, by rw [g3]; exact f5, by rw [g4]; exact f6, g5⟩⟩
theorem endRound_ok {b : Nat} {x : AE} {T3 : TM} {h3 : AH} {v : AV} {w3 : World} {μ : Nm} (e : endRoundA b (x, T3, h3) = some (v, h')) (o : Out P ι h w μ h3 w3) {c : Blk} (hb : μ b = some c) :
    roundPost P c.id (CallRel P ι h w v h') (toEx x) a w3 := by
  have key : ∀ (st : LSt) (jump : Option Code) (bv : Bool), ob (setStA h3 b st) (fun h' => some (AV.flat (.bool bv), h')) = some (v, h') → jump.isNone = bv → (∀ L : Loop, StRel st { L with state := if jump.isNone then .ready else .done, pending := jump }) →
      ∃ u w4, (Instr.endRound c.id jump).run P w3 = .ok u w4 ∧ CallRel P ι h w v h' (.returned u) w4 := by
    intro st jump bv e1 hj hs
    obtain ⟨h4, e2, e3⟩ := ob_eq.1 e1
    cases e3
    obtain ⟨L, f1, f2⟩ := setSt_ok e2 o.hrel o.nok hb
    refine ⟨_, _, run_endRound jump f1, μ, _, rfl, ?_, o.trans (f2 _ rfl rfl rfl rfl (hs L))⟩
    rw [hj]; exact .flat _
  cases x with
  | normal => exact key .ready none true e rfl fun L => ⟨rfl, rfl⟩
  | exit id => exact key (.done (.exit id)) (some (.exit id)) false e rfl fun L => ⟨rfl, rfl⟩
  | goto l => exact key (.done (.goto l)) (some (.goto l)) false e rfl fun L => ⟨rfl, rfl⟩
  | ret => exact key (.done .ret) (some .ret) false e rfl fun L => ⟨rfl, rfl⟩
theorem round_ok {b : Nat} {args : List AV} {v : AV} (hm : P.follows .mixedOrders = true) (hc : CallOk P call) (e : ob (h.objs.get b) (roundA P N call args h b) = some (v, h')) {vals : Array Value}
    (hh : HRel P ι h.objs.get w) (hn : NOk ι h.next w) (r : LRel ι args vals.toList) :
    ∃ c L, ι b = some c ∧ w.heap[c.id]? = some (.loop L) ∧ vals.size = L.params.size ∧
      RoundIn (FW none) 0 P c.id L.fn ((L.params.zip vals).foldl (fun tmps (t, a) => tmps.setIfInBounds t a) L.tmps) L.assign L.body w (CallRel P ι h w v h') := by
  obtain ⟨o, e1, e2⟩ := ob_eq.1 e
  cases o <;> simp only [roundA] at e2 <;> first | cases e2 | skip
  rename_i T sz ps as bd st
  obtain ⟨T1, e3, e4⟩ := ob_eq.1 e2
  obtain ⟨⟨y, T2, h1⟩, e5, e6⟩ := ob_eq.1 e4
  obtain ⟨c, L, f1, f2, f3, f4, f5, f6, f7⟩ := loop_obj hh e1
  obtain ⟨k1, k2⟩ := setArgs_ok e3 r f6
  have hz : vals.size = L.params.size := by rw [← f3] at k1; simpa using k1
  refine ⟨c, L, f1, f2, hz, ?_⟩
  have hfold : (L.params.zip vals).foldl (fun tmps (t, a) => tmps.setIfInBounds t a) L.tmps = (ps.zip vals.toList).foldl (fun tmps (t, a) => tmps.setIfInBounds t a) L.tmps := by
    rw [← Array.foldl_toList, Array.toList_zip, f3]
  rw [hfold, f4, f5]
  refine roundIn_of_wpIn trivial ?_
  refine evC_ok hm hc (some b) as T1 h y T2 h1 ι _ w (some c.id) 0 _ e5 ⟨c, f1, rfl⟩ (Nat.zero_le _) ⟨k2.1, k2.2⟩ hh hn Marks.nil fun κ a1 w1 o1 g2 g3 => ?_
  cases y with
  | normal =>
    obtain ⟨q, e7, e8⟩ := ob_eq.1 (show ob (h1.objs.get b) _ = some (v, h') from e6)
    obtain ⟨e9, e10⟩ := cnd_eq.1 e8
    obtain ⟨h2, e11, e12⟩ := ob_eq.1 e10
    obtain ⟨⟨x, T3, h3⟩, e13, e14⟩ := ob_eq.1 e12
    have hb1 := o1.le _ _ f1
    cases q <;> simp only [readyLoop] at e9 <;> first | cases e9 | skip
    rename_i st1
    obtain ⟨c', L1, p1, p2, _, _, _, _, p7⟩ := loop_obj o1.hrel e7
    rw [hb1] at p1; cases p1
    cases st1 <;> simp only [readySt] at e9 <;> first | cases e9 | skip
    obtain ⟨L2, q1, q2⟩ := setSt_ok e11 o1.hrel o1.nok hb1
    rw [p2] at q1; cases q1
    have o2 := q2 { L1 with state := .busy } rfl rfl rfl rfl rfl
    refine ⟨_, run_beginRound p2 p7.1, ?_⟩
    refine evC_ok hm hc (some b) bd T2 h2 x T3 h3 κ a1 _ (some c.id) 0 _ e13 ⟨c, hb1, rfl⟩ (Nat.zero_le _) g2 o2.hrel o2.nok (g3.step o2.evo) fun μ a3 w3 o3 _ _ => ?_
    exact endRound_ok e14 ((o1.trans o2).trans o3) (o3.le _ _ hb1)
  | exit id => cases e6
  | goto l => cases e6
  | ret => cases e6
theorem evF_ok (hm : P.follows .mixedOrders = true) : ∀ d, CallOk P (evF P N d)
  | 0 => ⟨fun f args h v h' e => (by cases (show (none : Option (AV × AH)) = some (v, h') from e)), fun f args h v h' e => (by cases (show (none : Option (AV × AH)) = some (v, h') from e))⟩
  | d + 1 => ⟨fun f args h v h' e ι w vals hh hn r => (by
      obtain ⟨fn, e1, e2⟩ := ob_eq.1 (show ob (P.funcs[f]?) (evFn P N (evF P N d) args h) = some (v, h') from e)
      exact fn_ok hm (evF_ok hm d) e1 e2 hh hn r),
    fun b args h v h' e ι w vals hh hn r => round_ok hm (evF_ok hm d) (show ob (h.objs.get b) (roundA P N (evF P N d) args h b) = some (v, h') from e) hh hn r⟩

/-! calls without arguments -/
/-- what is known of package variables -/
def GlobsOk (gs : Globs) (w : World) : Prop := ∀ p ∈ gs, ∃ e, w.heap[p.1]? = some (.cells ⟨p.2⟩ e (0, 0))
def globNm (gs : Globs) : Nm := fun b => if (gs.any fun p => p.1 == b) = true then some ⟨b, 0⟩ else none
theorem globHeap_get (gs : Globs) (n b : Nat) {o : AObj} (h : (globHeap gs n).objs.get b = some o) : ∃ p ∈ gs, p.1 = b ∧ o = .glob p.1 p.2 := by
  induction gs with
  | nil => cases (show (none : Option AObj) = some o from h)
  | cons q gs ih =>
    have h' : ((globHeap gs n).objs.set q.1 (.glob q.1 q.2)).get b = some o := h
    rw [Tr.get_set] at h'
    by_cases e : b = q.1
    · rw [if_pos e] at h'; cases h'; exact ⟨q, List.mem_cons_self .., e.symm, rfl⟩
    · rw [if_neg e] at h'
      obtain ⟨p, h1, h2⟩ := ih h'
      exact ⟨p, List.mem_cons_of_mem _ h1, h2⟩
theorem globNm_eq {gs : Globs} {b : Nat} {c : Blk} (h : globNm gs b = some c) : c = ⟨b, 0⟩ ∧ ∃ p ∈ gs, p.1 = b := by
  unfold globNm at h
  split at h
  · rename_i hx
    cases h
    obtain ⟨p, h1, h2⟩ := List.any_eq_true.1 hx
    exact ⟨rfl, p, h1, by simpa using h2⟩
  · cases h
/-- what a call without arguments says, if the evaluator says 'true' -/
theorem says_trueG {d f next : Nat} {gs : Globs} (hm : P.follows .mixedOrders = true) (e : saysTrueG P N d f gs next = true) (w : World) (hg : GlobsOk gs w) :
    Calls P f #[] w fun e w' => e = .returned (.bool true) ∧ Go.RowKit.Below w.heap.size w w' := by
  obtain ⟨e0, e⟩ := cnd3 (show cnd (globsLow gs next) _ false = true from e)
  cases h1 : evF P N d (.fn f) [] (globHeap gs next) with
  | none => rw [h1] at e; cases e
  | some q =>
    obtain ⟨v, h'⟩ := q
    rw [h1, optCase_some] at e
    have hlow : ∀ p ∈ gs, p.1 < next := fun p hp => ble_le (allL_iff.1 e0 p hp)
    have hn : NOk (globNm gs) (globHeap gs next).next w := fun b c hb => by
      obtain ⟨rfl, p, hp, rfl⟩ := globNm_eq hb
      obtain ⟨el, hc⟩ := hg p hp
      exact ⟨hlow p hp, (Array.getElem?_eq_some_iff.1 hc).1⟩
    have hh : HRel P (globNm gs) (globHeap gs next).objs.get w := by
      refine ⟨fun b o k1 k2 => ?_, fun b b' o o' c c' k1 k2 k3 k4 k5 k6 k7 => ?_⟩
      · obtain ⟨p, hp, rfl, rfl⟩ := globHeap_get gs next b k1
        obtain ⟨el, hc⟩ := hg p hp
        refine ⟨⟨p.1, 0⟩, _, ?_, hc, rfl, el, rfl⟩
        unfold globNm
        rw [if_pos (List.any_eq_true.2 ⟨p, hp, by simp⟩)]
      · obtain ⟨rfl, _⟩ := globNm_eq k5
        obtain ⟨rfl, _⟩ := globNm_eq k6
        exact k7
    refine callsIn_wide.1 (CallsIn.mono ((evF_ok hm d).fn f [] _ v h' h1 (globNm gs) w #[] hh hn .nil) fun en w' hen => ?_)
    obtain ⟨κ, v', rfl, g1, g2⟩ := hen
    unfold isTrue at e
    split at e
    · rename_i h2 heq
      cases heq
      cases g1
      refine ⟨rfl, g2.evo.os, g2.evo.tape, g2.evo.output, g2.evo.size, fun k hk => g2.evo.frame k hk fun b o c k1 k2 k3 k4 => ?_⟩
      obtain ⟨p, _, _, rfl⟩ := globHeap_get gs next b k1
      exact k2.elim
    · cases e
theorem says_true {d f : Nat} (hm : P.follows .mixedOrders = true) (e : saysTrue P N d f = true) (w : World) :
    Calls P f #[] w fun e w' => e = .returned (.bool true) ∧ Go.RowKit.Below w.heap.size w w' :=
  says_trueG hm e w fun p hp => by cases hp
end
end Go.Proofs.Ytegkgfiaegpihaa
