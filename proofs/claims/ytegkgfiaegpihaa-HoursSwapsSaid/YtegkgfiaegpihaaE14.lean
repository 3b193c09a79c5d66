/- Regions whose order is drawn: all of it. -/
import Derived.Test.YtegkgfiaegpihaaE13
set_option linter.unusedSimpArgs false
set_option linter.unusedVariables false
namespace Go.Proofs.Ytegkgfiaegpihaa
open Go

section
variable {P : Program} {call : CallA} {sz : Nat} {ops : Array Oper} {bt : Tr Nat} {base : Nat} {Tf : Nat → TM} {Hf : Nat → AH} {Vf : Nat → AV} {Mf : Nat → Tr AObj}
variable {ι0 ι κ : Nm} {g0 : Nat → Option AObj} {w0 w w' : World} {a0 a : Act} {L : Nat → Bool} {k i : Nat} {o : Oper} {Q : Exit → Act → World → Prop} {r : Option Nat}

theorem sameStage_const (tr : Trace P call sz ops bt base Tf Hf Vf Mf) (hs : sameStage (enum ops.toList 0) i k = true) (hi : i ≤ ops.size) (hk : k ≤ ops.size) : Hf i = Hf k := by
  have key : ∀ j o', ops[j]? = some o' → isAct o' = true → (j < k → j < i) ∧ (¬ j < k → ¬ j < i) := by
    intro j o' h1 h2
    have h3 := allL_iff.1 hs (j, o') (mem_enum (by simpa using h1))
    simp only [h2, cnd_true] at h3
    rcases cnd_of h3 with ⟨h4, h5⟩ | ⟨h4, h5⟩
    · have a1 := ble_le h4; have a2 := ble_le h5
      exact ⟨fun _ => a2, fun h => absurd a1 h⟩
    · have a1 := ble_no h4
      have a2 : Nat.ble (j + 1) i = false := by simpa using h5
      have a3 := ble_no a2
      simp at a1 a3
      exact ⟨fun h => by omega, fun _ => by omega⟩
  rcases Nat.le_total k i with h | h
  · exact tr.h_const hi h fun j o' h1 h2 h3 => by
      cases e : isAct o' with
      | false => rfl
      | true => exact absurd h2 ((key j o' h3 e).2 (by omega))
  · exact (tr.h_const hk h fun j o' h1 h2 h3 => by
      cases e : isAct o' with
      | false => rfl
      | true => exact absurd ((key j o' h3 e).1 h2) (by omega)).symm
theorem not_made (tr : Trace P call sz ops bt base Tf Hf Vf Mf) (ho : ops[i]? = some o) (h : kindOf o.op ≠ 2 ∨ wantA ops.toList (Tf i) o = false) : (Mf ops.size).get i = none := by
  cases e : (Mf ops.size).get i with
  | none => rfl
  | some q =>
    obtain ⟨h1, h2, _⟩ := tr.m_made ho (Nat.le_refl _) e
    rcases h with h | h
    · exact absurd h1 h
    · rw [h2] at h; cases h
theorem hrel_empty : HRel P ι AH.empty.objs.get w := ⟨fun b o h1 _ => (by cases h1), fun b b' o o' c c' h1 => (by cases h1)⟩
/-- one operation that is ready -/
theorem draw_step (tr : Trace P call sz ops bt base Tf Hf Vf Mf) (hc : CallOk P call) (d : DInv P sz ops base (Tf 0) Hf Vf (Mf ops.size) ι0 g0 w0 a0 L k ι a w) (ho : ops[i]? = some o) (hun : L i = false)
    (hr : ∀ e ∈ o.after, Region.binds .any e = true → L e.on = true) {K : Act → World → Prop}
    (hK : ∀ k' κ a' w', DInv P sz ops base (Tf 0) Hf Vf (Mf ops.size) ι0 g0 w0 a0 (setL L i) k' κ a' w' → K a' w') : wpOpIn (FW r) 0 P ops Q i K a w := by
  have hi := lt_of_get ho
  have hops := ops_rel tr d.tm d.shut ho hun hr
  have hw := want_eq tr d.tm d.shut ho hun hr
  have hready : ∀ {j}, bit bt i j = true → L j = true := fun hb => d.shut.ready tr.form ho hr hb
  unfold wpOpIn
  rw [ho]
  simp only
  rw [hw]
  obtain ⟨hst, _⟩ := tr.step i o ho
  rcases hst with ⟨hwant, hst⟩ | ⟨hwant, hv, hH, _⟩
  · rw [if_pos hwant]
    have hle := kindOf_le o.op
    generalize hkk : kindOf o.op = kk at hst hle
    match kk, hst, hle with
    | 0, hst, _ =>
      obtain ⟨u, e1, e2⟩ := ob_eq.1 (show ob (apureOp P (evO (Tf i)) (Hf i) o.type o.op) (fun v => some (v, Hf i, Mf i)) = _ from hst)
      have e3 : u = Vf i := congrArg (fun q => q.1) (Option.some.inj e2)
      rw [e3, apureOp_free (h' := AH.empty) hkk] at e1
      have hemp : HRel P ι AH.empty.objs.get w := hrel_empty
      obtain ⟨v', g1, g2⟩ := apureOp_ok (ρ' := a.eval) e1 hemp hops
      refine wp_value (nd_pure e1) g1 ?_
      exact hK k ι _ w (d.quiet tr ho hun hr (by cases e : isAct o with | false => rfl | true => rw [act_kind.1 e] at hkk; cases hkk) (not_made tr ho (.inl (by rw [hkk]; decide))) g2)
    | 1, hst, _ =>
      obtain ⟨u, e1, e2⟩ := ob_eq.1 (show ob (apureOp P (evO (Tf i)) (matA (Mf i) base (matsOf (enum ops.toList 0) bt i i) (Hf i)) o.type o.op) (fun v => some (v, Hf i, Mf i)) = _ from hst)
      have e3 : u = Vf i := congrArg (fun q => q.1) (Option.some.inj e2)
      rw [e3] at e1
      have hna : isAct o = false := by cases e : isAct o with | false => rfl | true => rw [act_kind.1 e] at hkk; cases hkk
      have hms := not_made tr ho (.inl (show kindOf o.op ≠ 2 by rw [hkk]; decide))
      have hex : ∃ v', (execOp a.eval o).run P w = .ok (.value v') w ∧ VRel ι (Vf i) v' := by
        cases hs : sameStage (enum ops.toList 0) i k with
        | true =>
          have hH := sameStage_const tr hs (Nat.le_of_lt hi) d.kle
          rw [hH] at e1
          exact apureOp_ok (ρ' := a.eval) e1 (HRel.sub (mats_sub (fun m hm => hready (mem_mats hm)) fun m q hq => tr.m_mono hq (Nat.le_refl _) (Nat.le_of_lt hi)) d.hrel) hops
        | false =>
          have hso : stageOk (enum ops.toList 0) bt i k = true := by
            refine allL_iff.2 fun p hp => ?_
            have hp' : ops[p.1]? = some p.2 := by have := of_mem_enum hp; simpa using this
            cases hac : isAct p.2 with
            | false => rfl
            | true =>
              rw [cnd_true]
              have hact := d.acts p.1 p.2 hp' hac
              cases hb : Nat.ble (Nat.succ p.1) k with
              | true =>
                rw [cnd_true]
                have hL := hact.2 (ble_le hb)
                cases hbit : bit bt p.1 i with
                | false => rfl
                | true => rw [d.shut.bit tr.form p.1 hL i hbit] at hun; cases hun
              | false =>
                rw [cnd_false]
                have hlt := ble_no hb
                cases hbit : bit bt i p.1 with
                | false => rfl
                | true => have := hact.1 (hready hbit); simp at hlt; omega
          obtain ⟨u2, f1, f2⟩ := tr.reads i o ho hkk hwant _ (mem_stages (by simpa using d.kle) d.kact hs hso)
          rw [avEq_eq f2] at f1
          exact apureOp_ok (ρ' := a.eval) f1 (HRel.sub (mats_sub (fun m hm => hready (mem_mats hm)) fun m q hq => hq) d.hrel) hops
      obtain ⟨v', g1, g2⟩ := hex
      refine wp_value (nd_pure e1) g1 ?_
      exact hK k ι _ w (d.quiet tr ho hun hr hna hms g2)
    | 2, hst, _ =>
      rcases tr.m_succ ho with hm | ⟨q, _, _, e1, e2⟩
      · exfalso
        obtain ⟨u, _, e2⟩ := ob_eq.1 (show ob (makerOp P (evO (Tf i)) (Nat.add base i) o.op) (fun q => some (q.1, Hf i, (Mf i).set i q.2)) = _ from hst)
        have e3 : (Mf i).set i u.2 = Mf (i + 1) := congrArg (fun q => q.2.2) (Option.some.inj e2)
        have h1 : ((Mf i).set i u.2).get i = none := by rw [e3, hm]; exact tr.m_none (Nat.le_of_lt hi) i (Nat.le_refl _)
        rw [Tr.get_set, if_pos rfl] at h1; cases h1
      · have hms : (Mf ops.size).get i = some q := tr.m_mono (i := i + 1) (by rw [e2, Tr.get_set, if_pos rfl]) (Nat.le_refl _) hi
        have hna : isAct o = false := by cases e : isAct o with | false => rfl | true => rw [act_kind.1 e] at hkk; cases hkk
        obtain ⟨v', C, cap, g1, g2, g3, g4⟩ := makerOp_ok (ρ' := a.eval) (w := w) e1 (d.free i hi hun) hops
        refine wp_value (nd_maker e1) g1 ?_
        exact hK k _ _ _ (d.made tr ho hun hr hna hms g2 g3)
    | 3, hst, _ =>
      obtain ⟨⟨n, h1⟩, e1, e2⟩ := ob_eq.1 (show ob (aactOp P (evO (Tf i)) (matA (Mf i) base (matsOf (enum ops.toList 0) bt i i) (Hf i)) o.op) (fun q => ob (nextA call q) fun r => some (r.1, r.2, Mf i)) = _ from hst)
      obtain ⟨⟨v, h2⟩, e3, e4⟩ := ob_eq.1 e2
      have e5 : v = Vf i := congrArg (fun q => q.1) (Option.some.inj e4)
      have e6 : h2 = Hf (i + 1) := congrArg (fun q => q.2.1) (Option.some.inj e4)
      have hac : isAct o = true := act_kind.2 hkk
      have hHk := (d.act_at tr ho hun hr hac).2.1
      rw [hHk] at e1
      have hmats : ∀ m ∈ matsOf (enum ops.toList 0) bt i i, L m = true := fun m hm => hready (mem_mats hm)
      have hmono : ∀ m q, (Mf i).get m = some q → (Mf ops.size).get m = some q := fun m q hq => tr.m_mono hq (Nat.le_refl _) (Nat.le_of_lt hi)
      refine act_wp hc e1 e3 (HRel.sub (mats_sub hmats hmono) d.hrel) (by rw [matA_next]; exact d.nok) hops fun κ v' w' out hv => ?_
      rw [e6] at out
      rw [e5] at hv
      exact hK (i + 1) κ _ w' (d.acted tr ho hun hr hac (not_made tr ho (.inl (by rw [hkk]; decide))) hmats hmono out hv)
  · rw [if_neg (by rw [hwant]; simp)]
    refine ⟨fun _ _ => trivial, ?_⟩
    have hms := not_made tr ho (.inr hwant)
    have hu : VRel ι (Vf i) undef := by rw [hv]; exact undef_rel
    cases hac : isAct o with
    | false => exact hK k ι _ w (d.quiet tr ho hun hr hac hms hu)
    | true => exact hK (i + 1) ι _ w (d.skip tr ho hun hr hac hms hH hu)

def listedL (listed : Array Bool) : Nat → Bool := fun i => listed.getD i false
theorem listedL_set (listed : Array Bool) (i : Nat) (hi : i < listed.size) : listedL (listed.setIfInBounds i true) = setL (listedL listed) i := by
  funext j
  unfold listedL setL
  rw [Array.getD_eq_getD_getElem?, Array.getElem?_setIfInBounds]
  by_cases e : j = i
  · subst e; simp [hi]
  · rw [if_neg (Ne.symm e), if_neg e]; simp [Array.getD_eq_getD_getElem?]
theorem mem_ready' {listed : Array Bool} (hsz : listed.size = ops.size) (h : i ∈ Region.ready .any ops listed) :
    ∃ o, ops[i]? = some o ∧ listedL listed i = false ∧ ∀ e ∈ o.after, Region.binds .any e = true → listedL listed e.on = true := by
  unfold Region.ready at h
  rw [List.mem_filter, Bool.and_eq_true] at h
  obtain ⟨h1, h2, h3⟩ := h
  have hi : i < ops.size := by simpa using h1
  obtain ⟨o, ho⟩ := getOp hi
  rw [ho] at h3
  simp only [Option.map_some, Option.getD_some] at h3
  refine ⟨o, ho, ?_, fun e he hb => ?_⟩
  · have h2' : listed.getD i true = false := by simpa using h2
    unfold listedL
    rw [Array.getD_eq_getD_getElem?] at h2' ⊢
    rw [Array.getElem?_eq_getElem (by omega)] at h2' ⊢
    exact h2'
  · have := (Array.all_eq_true_iff_forall_mem.1 h3) e he
    rw [hb] at this
    show listed.getD e.on false = true
    simpa using this
theorem all_listed (f : Form ops bt) {listed : Array Bool} (hsz : listed.size = ops.size) (h : Region.ready .any ops listed = []) : ∀ i, i < ops.size → listedL listed i = true := by
  intro i
  induction i using Nat.strongRecOn with
  | _ i ih =>
    intro hi
    cases e : listedL listed i with
    | true => rfl
    | false =>
      exfalso
      obtain ⟨o, ho⟩ := getOp hi
      have : i ∈ Region.ready .any ops listed := by
        unfold Region.ready
        rw [List.mem_filter, Bool.and_eq_true]
        refine ⟨by simpa using hi, ?_, ?_⟩
        · unfold listedL at e
          rw [Array.getD_eq_getD_getElem?, Array.getElem?_eq_getElem (by omega)] at e ⊢
          simpa using e
        · rw [ho]
          simp only [Option.map_some, Option.getD_some]
          refine Array.all_eq_true_iff_forall_mem.2 fun x hx => ?_
          cases hb : Region.binds .any x with
          | false => rfl
          | true =>
            have := ih x.on (f.back i o ho x hx hb) (Nat.lt_trans (f.back i o ho x hx hb) hi)
            simpa [listedL] using this
      rw [h] at this; cases this
def leftOver (l : List Bool) : Nat := l.countP fun b => !b
theorem leftOver_set {l : List Bool} {i : Nat} (hi : i < l.length) (h : l[i]? = some false) : leftOver (l.set i true) + 1 = leftOver l := by
  induction l generalizing i with
  | nil => simp at hi
  | cons x l ih =>
    cases i with
    | zero => simp at h; subst h; simp [leftOver]
    | succ i =>
      have := ih (i := i) (by simpa using hi) (by simpa using h)
      simp only [List.set_cons_succ, leftOver, List.countP_cons] at this ⊢
      omega
theorem leftOver_zero {l : List Bool} (h : leftOver l = 0) : ∀ i, i < l.length → l.getD i false = true := by
  intro i hi
  unfold leftOver at h
  rw [List.countP_eq_zero] at h
  have := h l[i] (List.getElem_mem hi)
  rw [List.getD_eq_getElem?_getD, List.getElem?_eq_getElem hi]
  simpa using this

theorem draw_all (tr : Trace P call sz ops bt base Tf Hf Vf Mf) (hc : CallOk P call)
    (hQ : ∀ L k ι a w, (∀ i, i < ops.size → L i = true) → DInv P sz ops base (Tf 0) Hf Vf (Mf ops.size) ι0 g0 w0 a0 L k ι a w → Q .normal a w) :
    ∀ (fuel : Nat) (listed : Array Bool) (k : Nat) (ι : Nm) (a : Act) (w : World), listed.size = ops.size → leftOver listed.toList ≤ fuel →
      DInv P sz ops base (Tf 0) Hf Vf (Mf ops.size) ι0 g0 w0 a0 (listedL listed) k ι a w → wpAnyIn (FW r) 0 P .any ops Q fuel listed a w
  | 0, listed, k, ι, a, w, hsz, hf, d => by
    have hall : ∀ i, i < ops.size → listedL listed i = true := fun i hi => by
      have := leftOver_zero (Nat.le_zero.1 hf) i (by simp; omega)
      unfold listedL
      simpa [Array.getD_eq_getD_getElem?, List.getD_eq_getElem?_getD] using this
    refine ⟨?_, hQ _ k ι a w hall d⟩
    cases hrd : Region.ready .any ops listed with
    | nil => rfl
    | cons i r =>
      obtain ⟨o, h1, h2, _⟩ := mem_ready' hsz (show i ∈ Region.ready .any ops listed by rw [hrd]; simp)
      rw [hall i (lt_of_get h1)] at h2; cases h2
  | fuel + 1, listed, k, ι, a, w, hsz, hf, d => by
    refine ⟨fun h => hQ _ k ι a w (all_listed tr.form hsz h) d, fun i hi => ?_⟩
    obtain ⟨o, h1, h2, h3⟩ := mem_ready' hsz hi
    have hlt := lt_of_get h1
    refine draw_step tr hc d h1 h2 h3 fun k' κ a' w' d' => ?_
    refine draw_all tr hc hQ fuel _ k' κ a' w' (by simp [hsz]) ?_ (by rw [listedL_set listed i (by omega)]; exact d')
    have hget : listed.toList[i]? = some false := by
      unfold listedL at h2
      rw [Array.getD_eq_getD_getElem?, Array.getElem?_eq_getElem (by omega)] at h2
      rw [Array.getElem?_toList, Array.getElem?_eq_getElem (by omega)]
      simpa using h2
    have := leftOver_set (l := listed.toList) (i := i) (by simp; omega) hget
    rw [Array.toList_setIfInBounds]
    omega
theorem evDraw_ok {T T' : TM} {h h' : AH} {id : Nat} (hm : P.follows .mixedOrders = true) (hc : CallOk P call) (e : evDraw P call sz ops.toList T h = some (T', h')) (ra : ARel ι sz T a) (hh : HRel P ι h.objs.get w) (hn : NOk ι h.next w)
    (hQ : ∀ κ a' w', Out P ι h w κ h' w' → ARel κ sz T' a' → a'.defers = a.defers → Q .normal a' w') : (Code.region id ops true).wpIn (FW r) 0 P Q a w := by
  obtain ⟨e1, e2⟩ := cnd_eq.1 e
  obtain ⟨pl, e3, e4⟩ := ob_eq.1 e2
  obtain ⟨⟨trl, T2, hz, msz⟩, e5, e6⟩ := ob_eq.1 e4
  obtain ⟨e7, e8⟩ := cnd_eq.1 e6
  cases e8
  obtain ⟨e9, e10⟩ := cnd_eq.1 (show cnd (formOk ops.toList (bitsOf ops.toList 0 .leaf)) (some _) none = some pl from e3)
  cases e10
  have form := form_of e9
  obtain ⟨Tf, Hf, Vf, Mf, t0, h0, m0, tn, hn', mn, htl, steps⟩ := trace_funs _ _ _ _ _ _ e5
  have hlen : (todosOf ops.toList (enum ops.toList 0) (bitsOf ops.toList 0 .leaf) (enum ops.toList 0)).length = ops.size := by
    have key : ∀ (m : List (Nat × Oper)), (todosOf ops.toList (enum ops.toList 0) (bitsOf ops.toList 0 .leaf) m).length = m.length := by
      intro m
      induction m with
      | nil => rfl
      | cons p m ih => exact congrArg (· + 1) ih
    have key2 : ∀ (l : List Oper) (i : Nat), (enum l i).length = l.length := by
      intro l
      induction l with
      | nil => intro i; rfl
      | cons p m ih => intro i; exact congrArg (· + 1) (ih (i + 1))
    rw [key, key2]; simp
  rw [hlen] at tn hn' mn htl
  have htd : ∀ j o, ops[j]? = some o → (todosOf ops.toList (enum ops.toList 0) (bitsOf ops.toList 0 .leaf) (enum ops.toList 0))[j]? = some (o, todoOf ops.toList (enum ops.toList 0) (bitsOf ops.toList 0 .leaf) j o (kindOf o.op)) := by
    intro j o ho
    rw [todos_get, enum_get, Array.getElem?_toList, ho]
    simp
  have tr : Trace P call sz ops (bitsOf ops.toList 0 .leaf) h.next Tf Hf Vf Mf := by
    refine ⟨form, m0, fun j o ho => ?_, fun j o ho hk hw p hp => ?_⟩
    · have := (steps j _ (htd j o ho)).2
      rw [Nat.zero_add] at this
      exact this
    · -- the check of the readings
      have hchk : ∀ (todo : List (Oper × Todo)) (m : List (TM × AH × AV)), checkD P ops.toList trl hz msz h.next todo m = true → ∀ (j : Nat) (p : Oper × Todo) (x : TM × AH × AV), todo[j]? = some p → m[j]? = some x → checkTodo P ops.toList trl hz msz h.next p.1 x p.2 = true := by
        intro todo
        induction todo with
        | nil => intro m _ j p x hp; simp at hp
        | cons q todo ih =>
          intro m hm j p x hp hx
          cases m with
          | nil => simp at hx
          | cons y m =>
            obtain ⟨h1, h2⟩ := cnd3 (show cnd (checkTodo P ops.toList trl hz msz h.next q.1 y q.2) (checkD P ops.toList trl hz msz h.next todo m) false = true from hm)
            cases j with
            | zero => simp at hp hx; subst hp hx; exact h1
            | succ j => exact ih m h2 j p x (by simpa using hp) (by simpa using hx)
      have h1 := hchk _ _ e7 j _ _ (htd j o ho) (steps j _ (htd j o ho)).1
      rw [hk] at h1
      have h2 : cnd (wantA ops.toList (Tf j) o) (readsOk P trl hz msz h.next o (Tf j) (Vf j) (stagesOf ops.toList (enum ops.toList 0) (bitsOf ops.toList 0 .leaf) j)) true = true := h1
      rw [hw, cnd_true] at h2
      have h3 := allL_iff.1 h2 p hp
      have hp1 : p.1 ≤ ops.size := by
        have key : ∀ (r : List Nat), p ∈ (List.rec (motive := fun _ => List (Nat × List Nat)) [] (fun j' _ ih =>
            cnd (predAct ops.toList j') (cnd (sameStage (enum ops.toList 0) j j') ih (cnd (stageOk (enum ops.toList 0) (bitsOf ops.toList 0 .leaf) j j') ((j', matsOf (enum ops.toList 0) (bitsOf ops.toList 0 .leaf) j j') :: ih) ih)) ih) r) → p.1 ∈ r := by
          intro r
          induction r with
          | nil => intro h; cases h
          | cons x r ih =>
            intro h
            have h' : p ∈ cnd (predAct ops.toList x) (cnd (sameStage (enum ops.toList 0) j x) _ (cnd (stageOk (enum ops.toList 0) (bitsOf ops.toList 0 .leaf) j x) ((x, matsOf (enum ops.toList 0) (bitsOf ops.toList 0 .leaf) j x) :: _) _)) _ := h
            cases h4 : predAct ops.toList x <;> cases h5 : sameStage (enum ops.toList 0) j x <;> cases h6 : stageOk (enum ops.toList 0) (bitsOf ops.toList 0 .leaf) j x <;> rw [h4, h5, h6] at h' <;> simp only [cnd_true, cnd_false] at h' <;>
              first
                | exact List.mem_cons_of_mem _ (ih h')
                | (rcases List.mem_cons.1 h' with h7 | h7
                   · rw [h7]; exact List.mem_cons_self ..
                   · exact List.mem_cons_of_mem _ (ih h7))
        have := key _ hp
        rw [lenL_eq] at this
        simp at this; omega
      have hmem : memAt trl hz p.1 = Hf p.1 := by
        unfold memAt
        rw [nth_eq]
        rcases Nat.lt_or_ge p.1 ops.size with h5 | h5
        · obtain ⟨o2, ho2⟩ := getOp h5
          have := (steps p.1 _ (htd p.1 o2 ho2)).1
          simp only at this
          rw [this, optCase_some]
        · have hnone : trl[p.1]? = none := by
            have hl : trl.length = ops.size := htl
            exact List.getElem?_eq_none (by omega)
          rw [hnone, optCase_none]
          have : p.1 = ops.size := by omega
          rw [this]; exact hn'.symm
      rw [hmem] at h3
      cases hv : apureOp P (evO (Tf j)) (matA msz h.next p.2 (Hf p.1)) o.type o.op with
      | none => rw [hv] at h3; cases h3
      | some u =>
        rw [hv, optCase_some] at h3
        refine ⟨u, ?_, h3⟩
        rw [mn]; exact hv
  have hlenL : lenL ops.toList = ops.size := by rw [lenL_eq]; simp
  have h0n : (Hf 0).next = h.next + ops.size := by rw [h0, ← hlenL]; rfl
  have h0o : (Hf 0).objs = h.objs := by rw [h0]
  have hL0 : ∀ i, listedL (Array.replicate ops.size false) i = false := fun i => by
    unfold listedL
    rw [Array.getD_eq_getD_getElem?, Array.getElem?_replicate]
    split <;> rfl
  have hsub0 : ∀ b q, gL (Hf 0) (Mf ops.size) h.next (listedL (Array.replicate ops.size false)) b = some q → h.objs.get b = some q := fun b q hb => by
    rcases gL_cases hb with h1 | ⟨_, m, _, h2, _⟩
    · rw [h0o] at h1; exact h1
    · rw [hL0] at h2; cases h2
  have d0 : DInv P sz ops h.next (Tf 0) Hf Vf (Mf ops.size) ι h.objs.get w a (listedL (Array.replicate ops.size false)) 0 ι a w.drew := {
    tm := ⟨ra.size, fun j o t _ _ hl => (by rw [hL0] at hl; cases hl), fun t _ => (by rw [t0]; exact ra.val t)⟩
    shut := fun i o _ hl => by rw [hL0] at hl; cases hl
    acts := fun i o _ _ => ⟨fun hl => (by rw [hL0] at hl; cases hl), fun hl => (by omega)⟩
    kle := Nat.zero_le _
    kact := rfl
    hrel := HRel.sub hsub0 hh.drew
    nok := fun b c hb => by have := hn b c hb; rw [h0n]; exact ⟨by omega, this.2⟩
    nx := by rw [h0n]; exact Nat.le_refl _
    free := fun i hi _ => by
      cases e : ι (h.next + i) with
      | none => rfl
      | some c => have := (hn _ _ e).1; omega
    nom := fun i hi _ => by rw [h0o]; exact noneAt_get e1 (by rw [hlenL]; exact hi)
    evo := Evo.sub hsub0 Evo.drew
    same := fun _ _ => rfl
    keep := fun b _ h1 => by rw [h0o]; exact h1
    stay := fun b h1 => by rw [h0o]; exact h1
    defers := rfl }
  refine wpIn_region_any hm ?_
  refine draw_all tr hc (fun L k κ a' w' hall d => ?_) ops.size (Array.replicate ops.size false) 0 ι a w.drew (by simp) (by simp [leftOver, List.countP_replicate]) d0
  have hk : Hf ops.size = Hf k := tr.h_const (Nat.le_refl _) d.kle fun j o h1 h2 h3 => by
    cases e : isAct o with
    | false => rfl
    | true => have := (d.acts j o h3 e).1 (hall j h2); omega
  have hhz : hz = Hf k := by rw [← hk]; exact hn'.symm
  have hmz : msz = Mf ops.size := mn.symm
  have hsub : ∀ b q, (matA msz h.next (restOf (enum ops.toList 0) (bitsOf ops.toList 0 .leaf)) hz).objs.get b = some q → gL (Hf k) (Mf ops.size) h.next L b = some q := by
    intro b q hb
    rw [hhz, hmz] at hb
    rcases matA_get hb with h1 | ⟨h1, m, _, rfl, h3⟩
    · exact gL_mem h1
    · refine gL_pend h1 (hall m ?_) h3
      rcases Nat.lt_or_ge m ops.size with h4 | h4
      · exact h4
      · rw [tr.m_none (Nat.le_refl _) m h4] at h3; cases h3
  have hnx : (matA msz h.next (restOf (enum ops.toList 0) (bitsOf ops.toList 0 .leaf)) hz).next = (Hf k).next := by rw [matA_next, hhz]
  refine hQ κ a' w' ⟨Evo.sub hsub d.evo, HRel.sub hsub d.hrel, by show NOk κ (matA msz h.next _ hz).next w'; rw [hnx]; exact d.nok, ?_, d.same, ?_, ?_⟩ ?_ d.defers
  · show h.next ≤ (matA msz h.next _ hz).next
    rw [hnx]
    have := d.nx; omega
  · intro b hb h1
    show (matA msz h.next _ hz).objs.get b = none
    cases e : (matA msz h.next (restOf (enum ops.toList 0) (bitsOf ops.toList 0 .leaf)) hz).objs.get b with
    | none => rfl
    | some q =>
      exfalso
      rcases matA_get e with h2 | ⟨_, m, _, h3, _⟩
      · rw [hhz, d.keep b hb h1] at h2; cases h2
      · omega
  · intro b h1
    exact matA_stay _ _ (by rw [hhz]; exact d.stay b h1)
  · refine ⟨d.tm.size, fun t => ?_⟩
    show VRel κ (tat T2 t) _
    have hT2 : T2 = Tf ops.size := tn.symm
    rw [hT2]
    by_cases hex : ∃ (j : Nat) (o : Oper), ops[j]? = some o ∧ o.dst = some t
    · obtain ⟨j, o, h1, h2⟩ := hex
      rw [tr.tat_dst h1 h2 (Nat.le_refl _) (lt_of_get h1)]
      exact d.tm.done j o t h1 h2 (hall j (lt_of_get h1))
    · rw [tr.tat_none (Nat.le_refl _) fun j o _ h1 h2 => hex ⟨j, o, h1, h2⟩]
      exact d.tm.old t fun j o h1 h2 => absurd ⟨j, o, h1, h2⟩ hex
end
end Go.Proofs.Ytegkgfiaegpihaa
