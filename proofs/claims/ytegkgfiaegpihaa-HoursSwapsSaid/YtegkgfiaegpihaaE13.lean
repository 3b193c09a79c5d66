/- Regions whose order is drawn: the walk over all orders. -/
import Derived.Test.YtegkgfiaegpihaaE12
set_option linter.unusedSimpArgs false
set_option linter.unusedVariables false
namespace Go.Proofs.Ytegkgfiaegpihaa
open Go

/-- the memory, with what was made and is not laid into it yet -/
noncomputable def gL (H : AH) (MS : Tr AObj) (base : Nat) (L : Nat → Bool) (b : Nat) : Option AObj :=
  match H.objs.get b with
  | some o => some o
  | none => if base ≤ b ∧ L (b - base) = true then MS.get (b - base) else none
theorem gL_mem {H : AH} {MS : Tr AObj} {base : Nat} {L : Nat → Bool} {b : Nat} {o : AObj} (h : H.objs.get b = some o) : gL H MS base L b = some o := by simp [gL, h]
theorem gL_pend {H : AH} {MS : Tr AObj} {base : Nat} {L : Nat → Bool} {m : Nat} {o : AObj} (h : H.objs.get (base + m) = none) (hl : L m = true) (hm : MS.get m = some o) : gL H MS base L (base + m) = some o := by
  simp [gL, h, hl, hm]
theorem gL_cases {H : AH} {MS : Tr AObj} {base : Nat} {L : Nat → Bool} {b : Nat} {o : AObj} (h : gL H MS base L b = some o) :
    H.objs.get b = some o ∨ (H.objs.get b = none ∧ ∃ m, b = base + m ∧ L m = true ∧ MS.get m = some o) := by
  unfold gL at h
  split at h
  · rename_i q hq
    left; rw [hq]; exact h
  · rename_i hq
    right
    split at h
    · rename_i hc
      exact ⟨hq, b - base, by omega, hc.2, h⟩
    · cases h
theorem HRel.sub {P : Program} {ι : Nm} {w : World} {g g' : Nat → Option AObj} (hs : ∀ b o, g' b = some o → g b = some o) (h : HRel P ι g w) : HRel P ι g' w :=
  ⟨fun b o h1 h2 => h.obj b o (hs b o h1) h2, fun b b' o o' c c' h1 h2 h3 h4 => h.inj b b' o o' c c' (hs _ _ h1) h2 (hs _ _ h3) h4⟩
theorem Evo.sub {ι κ : Nm} {w w' : World} {g0 g g' : Nat → Option AObj} (hs : ∀ b o, g' b = some o → g b = some o) (h : Evo ι g0 w κ g w') : Evo ι g0 w κ g' w' :=
  ⟨h.le, h.size, h.frame, fun b o c h1 h2 h3 h4 => h.img b o c (hs _ _ h1) h2 h3 h4, h.os, h.tape, h.output⟩
/-- what the temporaries hold when some operations are done -/
structure TRelL (ops : Array Oper) (sz : Nat) (T0 : TM) (Vf : Nat → AV) (L : Nat → Bool) (κ : Nm) (a : Act) : Prop where
  size : a.tmps.size = sz
  done : ∀ j o t, ops[j]? = some o → o.dst = some t → L j = true → VRel κ (Vf j) (a.tmps.getD t undef)
  old : ∀ t, (∀ j o, ops[j]? = some o → o.dst = some t → L j = false) → VRel κ (tat T0 t) (a.tmps.getD t undef)
structure DInv (P : Program) (sz : Nat) (ops : Array Oper) (base : Nat) (T0 : TM) (Hf : Nat → AH) (Vf : Nat → AV) (MS : Tr AObj) (ι0 : Nm) (g0 : Nat → Option AObj) (w0 : World) (a0 : Act)
    (L : Nat → Bool) (k : Nat) (ι : Nm) (a : Act) (w : World) : Prop where
  tm : TRelL ops sz T0 Vf L ι a
  shut : Shut ops L
  acts : ∀ i o, ops[i]? = some o → isAct o = true → (L i = true ↔ i < k)
  kle : k ≤ ops.size
  kact : predAct ops.toList k = true
  hrel : HRel P ι (gL (Hf k) MS base L) w
  nok : NOk ι (Hf k).next w
  nx : base + ops.size ≤ (Hf k).next
  free : ∀ i, i < ops.size → L i = false → ι (base + i) = none
  nom : ∀ i, i < ops.size → L i = false → (Hf k).objs.get (base + i) = none
  evo : Evo ι0 g0 w0 ι (gL (Hf k) MS base L) w
  same : ∀ b, b < base → ι b = ι0 b
  keep : ∀ b, b < base → g0 b = none → (Hf k).objs.get b = none
  stay : ∀ b, g0 b ≠ none → (Hf k).objs.get b ≠ none
  defers : a.defers = a0.defers
def setL (L : Nat → Bool) (i : Nat) : Nat → Bool := fun j => if j = i then true else L j
theorem setL_same (L : Nat → Bool) (i : Nat) : setL L i i = true := if_pos rfl
theorem setL_other {L : Nat → Bool} {i j : Nat} (h : j ≠ i) : setL L i j = L j := if_neg h
theorem setL_up {L : Nat → Bool} {i j : Nat} (h : L j = true) : setL L i j = true := by unfold setL; split <;> simp_all
theorem setL_false {L : Nat → Bool} {i j : Nat} (h : setL L i j = false) : j ≠ i ∧ L j = false := by
  unfold setL at h
  split at h
  · cases h
  · rename_i hne; exact ⟨hne, h⟩

section
variable {P : Program} {call : CallA} {sz : Nat} {ops : Array Oper} {bt : Tr Nat} {base : Nat} {Tf : Nat → TM} {Hf : Nat → AH} {Vf : Nat → AV} {Mf : Nat → Tr AObj}
variable {ι0 ι κ : Nm} {g0 : Nat → Option AObj} {w0 w w' : World} {a0 a : Act} {L : Nat → Bool} {k i : Nat} {o : Oper} {Q : Exit → Act → World → Prop}

theorem lt_of_get (ho : ops[i]? = some o) : i < ops.size := (Array.getElem?_eq_some_iff.1 ho).1
/-- what a ready operation looks at -/
theorem look_rel (tr : Trace P call sz ops bt base Tf Hf Vf Mf) (tm : TRelL ops sz (Tf 0) Vf L ι a) (hs : Shut ops L) (ho : ops[i]? = some o) (hun : L i = false)
    (hr : ∀ e ∈ o.after, Region.binds .any e = true → L e.on = true) {t : Nat} (hl : looks ops.toList o (some t) = true) : VRel ι (tat (Tf i) t) (a.tmps.getD t undef) := by
  have hi := lt_of_get ho
  by_cases hex : ∃ (j : Nat) (o' : Oper), ops[j]? = some o' ∧ o'.dst = some t
  · obtain ⟨j, o', h1, h2⟩ := hex
    rcases Nat.lt_trichotomy j i with hlt | rfl | hgt
    · rcases tr.form.see i j o o' ho h1 hlt with hb | ⟨h3, _, _⟩
      · rw [tr.tat_dst h1 h2 (Nat.le_of_lt hi) hlt]
        exact tm.done j o' t h1 h2 (hs.ready tr.form ho hr hb)
      · rw [h3 t h2] at hl; cases hl
    · rw [tr.tat_none (Nat.le_of_lt hi) fun j' o2 hj ho2 hd => tr.form.apart j j' o' o2 h1 ho2 hj t h2 hd]
      refine tm.old t fun j' o2 ho2 hd => ?_
      rcases Nat.lt_trichotomy j' j with h5 | rfl | h5
      · exact absurd hd (tr.form.apart j j' o' o2 h1 ho2 h5 t h2)
      · exact hun
      · exact absurd h2 (tr.form.apart j' j o2 o' ho2 h1 h5 t hd)
    · rcases tr.form.see j i o' o h1 ho hgt with hb | ⟨_, h3, _⟩
      · have hLj : L j = false := by
          cases e : L j with
          | false => rfl
          | true => rw [hs.bit tr.form j e i hb] at hun; cases hun
        rw [tr.tat_none (Nat.le_of_lt hi) fun j' o2 hj ho2 hd => tr.form.apart j j' o' o2 h1 ho2 (by omega) t h2 hd]
        refine tm.old t fun j' o2 ho2 hd => ?_
        rcases Nat.lt_trichotomy j' j with h5 | rfl | h5
        · exact absurd hd (tr.form.apart j j' o' o2 h1 ho2 h5 t h2)
        · exact hLj
        · exact absurd h2 (tr.form.apart j' j o2 o' ho2 h1 h5 t hd)
      · rw [h3 t h2] at hl; cases hl
  · rw [tr.tat_none (Nat.le_of_lt hi) fun j o2 _ ho2 hd => hex ⟨j, o2, ho2, hd⟩]
    exact tm.old t fun j o2 ho2 hd => absurd ⟨j, o2, ho2, hd⟩ hex
theorem looks_op {t : Nat} (h : Operand.tmp t ∈ o.op.operands) : looks ops.toList o (some t) = true := by
  show cnd (anyL (opTmp t) o.op.operands.toList) true _ = true
  rw [anyL_iff.2 ⟨.tmp t, by simpa using h, by show Nat.beq t t = true; exact Nat.beq_refl t⟩, cnd_true]
theorem looks_guard {g : Nat × Bool} {p : Oper} {d : Nat} (hg : o.guard = some g) (hp : ops[g.1]? = some p) (hd : p.dst = some d) : looks ops.toList o (some d) = true := by
  show cnd (anyL (opTmp d) o.op.operands.toList) true (optCase o.guard false fun g => optCase (nth ops.toList g.1) false fun p => optEq p.dst (some d)) = true
  have h1 : (optCase o.guard false fun g => optCase (nth ops.toList g.1) false fun p => optEq p.dst (some d)) = true := by
    rw [hg, optCase_some, nth_eq, Array.getElem?_toList, hp, optCase_some, hd]
    exact Nat.beq_refl d
  rw [h1]
  cases anyL (opTmp d) o.op.operands.toList <;> rfl
theorem ops_rel (tr : Trace P call sz ops bt base Tf Hf Vf Mf) (tm : TRelL ops sz (Tf 0) Vf L ι a) (hs : Shut ops L) (ho : ops[i]? = some o) (hun : L i = false)
    (hr : ∀ e ∈ o.after, Region.binds .any e = true → L e.on = true) : ∀ x ∈ o.op.operands, VRel ι (evO (Tf i) x) (a.eval x) := by
  intro x hx
  cases x with
  | tmp t => exact look_rel tr tm hs ho hun hr (looks_op hx)
  | const v => exact .flat v
  | global g => exact .flat _
  | func f => exact .flat _
theorem want_eq (tr : Trace P call sz ops bt base Tf Hf Vf Mf) (tm : TRelL ops sz (Tf 0) Vf L ι a) (hs : Shut ops L) (ho : ops[i]? = some o) (hun : L i = false)
    (hr : ∀ e ∈ o.after, Region.binds .any e = true → L e.on = true) : Region.wanted o (yielded ops a.tmps) = wantA ops.toList (Tf i) o :=
  wanted_of_val (ι := ι) fun g p d hg hp hd => look_rel tr tm hs ho hun hr (looks_guard hg hp hd)
theorem TRelL.put (tr : Trace P call sz ops bt base Tf Hf Vf Mf) (tm : TRelL ops sz (Tf 0) Vf L ι a) (hle : Nm.le ι κ) (ho : ops[i]? = some o) {v' : Value} (hv : VRel κ (Vf i) v') :
    TRelL ops sz (Tf 0) Vf (setL L i) κ (a.put o.dst v') := by
  have hput := (tr.step i o ho).2
  have hget : ∀ t, (a.put o.dst v').tmps.getD t undef = if o.dst = some t then v' else a.tmps.getD t undef := by
    intro t
    cases hd : o.dst with
    | none => simp [Act.put]
    | some d =>
      rw [hd] at hput
      obtain ⟨e1, _⟩ := cnd_eq.1 (show cnd (Nat.ble (Nat.succ d) sz) (some ((Tf i).set d (Vf i))) none = some (Tf (i + 1)) from hput)
      have hlt := ble_le e1
      by_cases et : d = t
      · subst et
        simp [Act.put, Array.getD_eq_getD_getElem?, tm.size]
        intro h; omega
      · simp [Act.put, Array.getD_eq_getD_getElem?, Array.getElem?_setIfInBounds, et]
  constructor
  · have : (a.put o.dst v').tmps.size = a.tmps.size := by cases o.dst <;> simp [Act.put]
    rw [this, tm.size]
  · intro j o' t h1 h2 h3
    rw [hget]
    by_cases e : j = i
    · subst e
      rw [ho] at h1; cases h1
      rw [if_pos h2]; exact hv
    · rw [setL_other e] at h3
      rw [if_neg]
      · exact (tm.done j o' t h1 h2 h3).mono hle
      · intro h4
        rcases Nat.lt_or_gt_of_ne e with h5 | h5
        · exact tr.form.apart i j o o' ho h1 h5 t h4 h2
        · exact tr.form.apart j i o' o h1 ho h5 t h2 h4
  · intro t h
    rw [hget, if_neg]
    · exact (tm.old t fun j o' h1 h2 => (setL_false (h j o' h1 h2)).2).mono hle
    · intro h4
      have := h i o ho h4
      rw [setL_same] at this; cases this
theorem Shut.set (hs : Shut ops L) (ho : ops[i]? = some o) (hr : ∀ e ∈ o.after, Region.binds .any e = true → L e.on = true) : Shut ops (setL L i) := by
  intro j o' h1 h2 e he hb
  by_cases ej : j = i
  · subst ej
    rw [ho] at h1; cases h1
    exact setL_up (hr e he hb)
  · rw [setL_other ej] at h2
    exact setL_up (hs j o' h1 h2 e he hb)
theorem mats_sub {H : AH} {MS MS' : Tr AObj} {mats : List Nat} (hm : ∀ m ∈ mats, L m = true) (hmono : ∀ m q, MS'.get m = some q → MS.get m = some q) :
    ∀ b q, (matA MS' base mats H).objs.get b = some q → gL H MS base L b = some q := by
  intro b q h
  rcases matA_get h with h1 | ⟨h0, m, h1, rfl, h2⟩
  · exact gL_mem h1
  · exact gL_pend h0 (hm m h1) (hmono m q h2)

/-- the step of an operation that does not act and makes nothing -/
theorem DInv.quiet (tr : Trace P call sz ops bt base Tf Hf Vf Mf) (d : DInv P sz ops base (Tf 0) Hf Vf (Mf ops.size) ι0 g0 w0 a0 L k ι a w) (ho : ops[i]? = some o) (hun : L i = false)
    (hr : ∀ e ∈ o.after, Region.binds .any e = true → L e.on = true) (hna : isAct o = false) (hms : (Mf ops.size).get i = none) {v' : Value} (hv : VRel ι (Vf i) v') :
    DInv P sz ops base (Tf 0) Hf Vf (Mf ops.size) ι0 g0 w0 a0 (setL L i) k ι (a.put o.dst v') w := by
  have hg : gL (Hf k) (Mf ops.size) base (setL L i) = gL (Hf k) (Mf ops.size) base L := by
    funext b
    unfold gL
    cases (Hf k).objs.get b with
    | some q => rfl
    | none =>
      by_cases e : b - base = i
      · rw [e, hms]; simp
      · simp only [setL_other e]
  exact {
    tm := d.tm.put tr (Nm.le_refl _) ho hv
    shut := d.shut.set ho hr
    acts := fun j o' h1 h2 => by
      by_cases e : j = i
      · subst e; rw [ho] at h1; cases h1; rw [hna] at h2; cases h2
      · rw [setL_other e]; exact d.acts j o' h1 h2
    kle := d.kle
    kact := d.kact
    hrel := by rw [hg]; exact d.hrel
    nok := d.nok
    nx := d.nx
    free := fun j h1 h2 => d.free j h1 (setL_false h2).2
    nom := fun j h1 h2 => d.nom j h1 (setL_false h2).2
    evo := by rw [hg]; exact d.evo
    same := d.same
    keep := d.keep
    stay := d.stay
    defers := by rw [put_defers]; exact d.defers }
/-- the step of a maker -/
theorem DInv.made (tr : Trace P call sz ops bt base Tf Hf Vf Mf) (d : DInv P sz ops base (Tf 0) Hf Vf (Mf ops.size) ι0 g0 w0 a0 L k ι a w) (ho : ops[i]? = some o) (hun : L i = false)
    (hr : ∀ e ∈ o.after, Region.binds .any e = true → L e.on = true) (hna : isAct o = false) {q : AObj} (hms : (Mf ops.size).get i = some q) {v' : Value} {C : Obj} {cap : Nat}
    (hv : VRel (ι.add (base + i) ⟨w.heap.size, cap⟩) (Vf i) v') (hq : ORel P (ι.add (base + i) ⟨w.heap.size, cap⟩) ⟨w.heap.size, cap⟩ q C) :
    DInv P sz ops base (Tf 0) Hf Vf (Mf ops.size) ι0 g0 w0 a0 (setL L i) k (ι.add (base + i) ⟨w.heap.size, cap⟩) (a.put o.dst v') (w.alloc C) := by
  have hi := lt_of_get ho
  have hb := d.free i hi hun
  have hle := Nm.le_add (⟨w.heap.size, cap⟩ : Blk) hb
  have hg : gL (Hf k) (Mf ops.size) base (setL L i) = fun b => if b = base + i then some q else gL (Hf k) (Mf ops.size) base L b := by
    funext b
    by_cases e : b = base + i
    · subst e
      rw [if_pos rfl]
      exact gL_pend (d.nom i hi hun) (setL_same _ _) hms
    · rw [if_neg e]
      unfold gL
      cases (Hf k).objs.get b with
      | some q => rfl
      | none =>
        by_cases e2 : base ≤ b
        · rw [setL_other (show b - base ≠ i by omega)]
        · simp [e2]
  exact {
    tm := d.tm.put tr hle ho hv
    shut := d.shut.set ho hr
    acts := fun j o' h1 h2 => by
      by_cases e : j = i
      · subst e; rw [ho] at h1; cases h1; rw [hna] at h2; cases h2
      · rw [setL_other e]; exact d.acts j o' h1 h2
    kle := d.kle
    kact := d.kact
    hrel := by rw [hg]; exact d.hrel.new hb hq
    nok := fun b c hc => by
      have hnx := d.nx
      by_cases e : b = base + i
      · subst e; rw [Nm.add_same] at hc; cases hc; simp; omega
      · rw [Nm.add_other _ e] at hc
        have := d.nok b c hc
        simp; omega
    nx := d.nx
    free := fun j h1 h2 => by
      have h3 := setL_false h2
      rw [Nm.add_other _ (show base + j ≠ base + i by have := h3.1; omega)]
      exact d.free j h1 h3.2
    nom := fun j h1 h2 => d.nom j h1 (setL_false h2).2
    evo := by rw [hg]; exact d.evo.trans (Evo.new hb)
    same := fun b hb2 => by rw [Nm.add_other _ (show b ≠ base + i by omega)]; exact d.same b hb2
    keep := d.keep
    stay := d.stay
    defers := by rw [put_defers]; exact d.defers }
/-- where an act stands when it is ready -/
theorem DInv.act_at (tr : Trace P call sz ops bt base Tf Hf Vf Mf) (d : DInv P sz ops base (Tf 0) Hf Vf (Mf ops.size) ι0 g0 w0 a0 L k ι a w) (ho : ops[i]? = some o) (hun : L i = false)
    (hr : ∀ e ∈ o.after, Region.binds .any e = true → L e.on = true) (hac : isAct o = true) : k ≤ i ∧ Hf i = Hf k ∧ (∀ j o', ops[j]? = some o' → isAct o' = true → (setL L i j = true ↔ j < i + 1)) := by
  have hki : k ≤ i := by
    rcases Nat.lt_or_ge i k with h | h
    · rw [(d.acts i o ho hac).2 h] at hun; cases hun
    · exact h
  have hi := lt_of_get ho
  have hbefore : ∀ j o', ops[j]? = some o' → isAct o' = true → j < i → L j = true := fun j o' h1 h2 h3 => by
    rcases tr.form.see i j o o' ho h1 h3 with hb | ⟨_, _, h4⟩
    · exact d.shut.ready tr.form ho hr hb
    · rw [h4 hac] at h2; cases h2
  refine ⟨hki, tr.h_const (Nat.le_of_lt hi) hki fun j o' h1 h2 h3 => ?_, fun j o' h1 h2 => ?_⟩
  · cases e : isAct o' with
    | false => rfl
    | true =>
      have := (d.acts j o' h3 e).1 (hbefore j o' h3 e h2)
      omega
  · rcases Nat.lt_trichotomy j i with h | rfl | h
    · exact ⟨fun _ => by omega, fun _ => setL_up (hbefore j o' h1 h2 h)⟩
    · exact ⟨fun _ => by omega, fun _ => setL_same _ _⟩
    · refine ⟨fun h3 => ?_, fun h3 => by omega⟩
      rw [setL_other (by omega)] at h3
      rcases tr.form.see j i o' o h1 ho h with hb | ⟨_, _, h4⟩
      · rw [d.shut.bit tr.form j h3 i hb] at hun; cases hun
      · rw [h4 h2] at hac; cases hac
theorem predAct_succ (ho : ops[i]? = some o) (hac : isAct o = true) : predAct ops.toList (i + 1) = true := by
  show optCase (nth ops.toList i) false isAct = true
  rw [nth_eq, Array.getElem?_toList, ho]
  exact hac
/-- an act that is not wanted -/
theorem DInv.skip (tr : Trace P call sz ops bt base Tf Hf Vf Mf) (d : DInv P sz ops base (Tf 0) Hf Vf (Mf ops.size) ι0 g0 w0 a0 L k ι a w) (ho : ops[i]? = some o) (hun : L i = false)
    (hr : ∀ e ∈ o.after, Region.binds .any e = true → L e.on = true) (hac : isAct o = true) (hms : (Mf ops.size).get i = none) (hH : Hf (i + 1) = Hf i) {v' : Value} (hv : VRel ι (Vf i) v') :
    DInv P sz ops base (Tf 0) Hf Vf (Mf ops.size) ι0 g0 w0 a0 (setL L i) (i + 1) ι (a.put o.dst v') w := by
  obtain ⟨hki, hHk, hacts⟩ := d.act_at tr ho hun hr hac
  have hi := lt_of_get ho
  have hH2 : Hf (i + 1) = Hf k := hH.trans hHk
  have hg : gL (Hf (i + 1)) (Mf ops.size) base (setL L i) = gL (Hf k) (Mf ops.size) base L := by
    rw [hH2]
    funext b
    unfold gL
    cases (Hf k).objs.get b with
    | some q => rfl
    | none =>
      by_cases e : b - base = i
      · rw [e, hms]; simp
      · simp only [setL_other e]
  exact {
    tm := d.tm.put tr (Nm.le_refl _) ho hv
    shut := d.shut.set ho hr
    acts := hacts
    kle := hi
    kact := predAct_succ ho hac
    hrel := by rw [hg]; exact d.hrel
    nok := by rw [hH2]; exact d.nok
    nx := by rw [hH2]; exact d.nx
    free := fun j h1 h2 => d.free j h1 (setL_false h2).2
    nom := fun j h1 h2 => by rw [hH2]; exact d.nom j h1 (setL_false h2).2
    evo := by rw [hg]; exact d.evo
    same := d.same
    keep := fun b h1 h2 => by rw [hH2]; exact d.keep b h1 h2
    stay := fun b h1 => by rw [hH2]; exact d.stay b h1
    defers := by rw [put_defers]; exact d.defers }
/-- an act -/
theorem DInv.acted (tr : Trace P call sz ops bt base Tf Hf Vf Mf) (d : DInv P sz ops base (Tf 0) Hf Vf (Mf ops.size) ι0 g0 w0 a0 L k ι a w) (ho : ops[i]? = some o) (hun : L i = false)
    (hr : ∀ e ∈ o.after, Region.binds .any e = true → L e.on = true) (hac : isAct o = true) (hms : (Mf ops.size).get i = none) {mats : List Nat} (hmats : ∀ m ∈ mats, L m = true) {MS' : Tr AObj} (hmono : ∀ m q, MS'.get m = some q → (Mf ops.size).get m = some q)
    (out : Out P ι (matA MS' base mats (Hf k)) w κ (Hf (i + 1)) w') {v' : Value} (hv : VRel κ (Vf i) v') :
    DInv P sz ops base (Tf 0) Hf Vf (Mf ops.size) ι0 g0 w0 a0 (setL L i) (i + 1) κ (a.put o.dst v') w' := by
  obtain ⟨hki, hHk, hacts⟩ := d.act_at tr ho hun hr hac
  have hi := lt_of_get ho
  have hsub := mats_sub (base := base) (H := Hf k) (MS := Mf ops.size) hmats hmono
  have hnx : (matA MS' base mats (Hf k)).next = (Hf k).next := matA_next mats (Hf k)
  -- what is made and not laid into the memory is left alone
  have pend : ∀ {b q}, (Hf (i + 1)).objs.get b = none → (∃ m, b = base + m ∧ setL L i m = true ∧ (Mf ops.size).get m = some q) → (matA MS' base mats (Hf k)).objs.get b = none ∧ gL (Hf k) (Mf ops.size) base L b = some q := by
    rintro b q h1 ⟨m, rfl, h3, h4⟩
    have h5 : (matA MS' base mats (Hf k)).objs.get (base + m) = none := by
      cases e : (matA MS' base mats (Hf k)).objs.get (base + m) with
      | none => rfl
      | some q' => exact absurd h1 (out.stay _ (by rw [e]; simp))
    have h6 : (Hf k).objs.get (base + m) = none := by
      cases e : (Hf k).objs.get (base + m) with
      | none => rfl
      | some q' => exact absurd h5 (matA_stay mats (Hf k) (by rw [e]; simp))
    have h7 : L m = true := by
      by_cases em : m = i
      · subst em; rw [hms] at h4; cases h4
      · rwa [setL_other em] at h3
    exact ⟨h5, gL_pend h6 h7 h4⟩
  have pfr : ∀ {b q c}, (matA MS' base mats (Hf k)).objs.get b = none → gL (Hf k) (Mf ops.size) base L b = some q → Live q → ι b = some c → ∀ b' q' c', (matA MS' base mats (Hf k)).objs.get b' = some q' → Live q' → ι b' = some c' → c'.id ≠ c.id := by
    intro b q c h1 h2 h3 h4 b' q' c' h5 h6 h7 h8
    have := d.hrel.inj b' b q' q c' c (hsub _ _ h5) h6 h2 h3 h7 h4 h8
    subst this
    rw [h1] at h5; cases h5
  have hevo : Evo ι (gL (Hf k) (Mf ops.size) base L) w κ (gL (Hf (i + 1)) (Mf ops.size) base (setL L i)) w' := by
    refine ⟨out.evo.le, out.evo.size, fun j hj hno => out.evo.frame j hj fun b q c h1 h2 h3 => hno b q c (hsub _ _ h1) h2 h3, ?_, out.evo.os, out.evo.tape, out.evo.output⟩
    intro b q c h1 h2 h3 h4
    rcases gL_cases h1 with h5 | ⟨h5, h6⟩
    · obtain ⟨b0, o0, c0, e1, e2, e3, e4⟩ := out.evo.img b q c h5 h2 h3 h4
      exact ⟨b0, o0, c0, hsub _ _ e1, e2, e3, e4⟩
    · obtain ⟨h7, h8⟩ := pend h5 h6
      obtain ⟨c', C, e1, e2, e3⟩ := d.hrel.obj b q h8 h2
      have := out.evo.le _ _ e1
      rw [h3] at this; cases this
      exact ⟨b, q, c, h8, ⟨h2, id⟩, e1, rfl⟩
  have hh : HRel P κ (gL (Hf (i + 1)) (Mf ops.size) base (setL L i)) w' := by
    constructor
    · intro b q h1 h2
      rcases gL_cases h1 with h5 | ⟨h5, h6⟩
      · exact out.hrel.obj b q h5 h2
      · obtain ⟨h7, h8⟩ := pend h5 h6
        obtain ⟨c, C, e1, e2, e3⟩ := d.hrel.obj b q h8 h2
        refine ⟨c, C, out.evo.le _ _ e1, ?_, e3.mono out.evo.le⟩
        rw [out.evo.frame c.id (Array.getElem?_eq_some_iff.1 e2).1 (fun b' q' c' x1 x2 x3 => pfr h7 h8 h2 e1 b' q' c' x1 x2.live x3), e2]
    · intro b1 b2 q1 q2 c1 c2 h1 h2 h3 h4 h5 h6 h7
      have back : ∀ {b q c}, (Hf (i + 1)).objs.get b = none → (∃ m, b = base + m ∧ setL L i m = true ∧ (Mf ops.size).get m = some q) → Live q → κ b = some c → ι b = some c ∧ c.id < w.heap.size ∧ (matA MS' base mats (Hf k)).objs.get b = none ∧ gL (Hf k) (Mf ops.size) base L b = some q := by
        intro b q c k1 k2 k3 k4
        obtain ⟨k5, k6⟩ := pend k1 k2
        obtain ⟨c', C, e1, e2, _⟩ := d.hrel.obj b q k6 k3
        have := out.evo.le _ _ e1
        rw [k4] at this; cases this
        exact ⟨e1, (Array.getElem?_eq_some_iff.1 e2).1, k5, k6⟩
      rcases gL_cases h1 with e1 | ⟨e1, e1'⟩
      · rcases gL_cases h3 with e2 | ⟨e2, e2'⟩
        · exact out.hrel.inj _ _ _ _ _ _ e1 h2 e2 h4 h5 h6 h7
        · obtain ⟨f1, f2, f3, f4⟩ := back e2 e2' h4 h6
          obtain ⟨b0, o0, c0, g1, g2, g3, g4⟩ := out.evo.img b1 q1 c1 e1 h2 h5 (by rw [h7]; exact f2)
          exact absurd (g4.trans h7) (pfr f3 f4 h4 f1 b0 o0 c0 g1 g2.1 g3)
      · obtain ⟨f1, f2, f3, f4⟩ := back e1 e1' h2 h5
        rcases gL_cases h3 with e2 | ⟨e2, e2'⟩
        · obtain ⟨b0, o0, c0, g1, g2, g3, g4⟩ := out.evo.img b2 q2 c2 e2 h4 h6 (by rw [← h7]; exact f2)
          exact absurd (g4.trans h7.symm) (pfr f3 f4 h2 f1 b0 o0 c0 g1 g2.1 g3)
        · obtain ⟨k1, k2, k3, k4⟩ := back e2 e2' h4 h6
          exact d.hrel.inj _ _ _ _ _ _ f4 h2 k4 h4 f1 k1 h7
  have hnext := out.next
  rw [hnx] at hnext
  exact {
    tm := d.tm.put tr out.evo.le ho hv
    shut := d.shut.set ho hr
    acts := hacts
    kle := hi
    kact := predAct_succ ho hac
    hrel := hh
    nok := out.nok
    nx := Nat.le_trans d.nx hnext
    free := fun j h1 h2 => by
      have hnx2 := d.nx
      rw [out.same (base + j) (by rw [hnx]; omega)]
      exact d.free j h1 (setL_false h2).2
    nom := fun j h1 h2 => by
      have hnx2 := d.nx
      refine out.keep (base + j) (by rw [hnx]; omega) ?_
      have h3 := (setL_false h2).2
      cases e : (matA MS' base mats (Hf k)).objs.get (base + j) with
      | none => rfl
      | some q =>
        rcases matA_get e with h4 | ⟨_, m, h4, h5, _⟩
        · rw [d.nom j h1 h3] at h4; cases h4
        · obtain rfl : j = m := by omega
          rw [hmats j h4] at h3; cases h3
    evo := d.evo.trans hevo
    same := fun b hb => by
      have hnx2 := d.nx
      rw [out.same b (by rw [hnx]; omega)]
      exact d.same b hb
    keep := fun b hb h1 => by
      have hnx2 := d.nx
      refine out.keep b (by rw [hnx]; omega) ?_
      cases e : (matA MS' base mats (Hf k)).objs.get b with
      | none => rfl
      | some q =>
        rcases matA_get e with h4 | ⟨_, m, h4, h5, _⟩
        · rw [d.keep b hb h1] at h4; cases h4
        · omega
    stay := fun b h1 => out.stay b (matA_stay mats (Hf k) (d.stay b h1))
    defers := by rw [put_defers]; exact d.defers }
end
end Go.Proofs.Ytegkgfiaegpihaa
