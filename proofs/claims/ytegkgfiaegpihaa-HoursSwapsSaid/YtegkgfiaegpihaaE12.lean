/- Regions whose order is drawn: whatever the order is, they come to what the evaluator says. -/
import Derived.Test.YtegkgfiaegpihaaE11
set_option linter.unusedSimpArgs false
set_option linter.unusedVariables false
namespace Go.Proofs.Ytegkgfiaegpihaa
open Go

theorem kindOf_le (op : Op) : kindOf op ≤ 3 := by
  cases op <;> simp only [kindOf] <;> first | omega | skip
  all_goals
    rename_i c
    cases actCallee c.callee <;> simp [cnd]
theorem act_kind {o : Oper} : isAct o = true ↔ kindOf o.op = 3 := ⟨fun h => beq_eq h, fun h => beq_yes h⟩
theorem mem_mats {l : List (Nat × Oper)} {bt : Tr Nat} {i j m : Nat} (h : m ∈ matsOf l bt i j) : bit bt i m = true := by
  have key : ∀ (l' : List (Nat × Oper)) , m ∈ (List.rec (motive := fun _ => List Nat) [] (fun p _ ih =>
      cnd (Nat.beq (kindOf p.2.op) 2) (cnd (bit bt i p.1) (cnd (anyL (fun q : Nat × Oper => cnd (isAct q.2) (cnd (Nat.ble (Nat.succ q.1) j) (bit bt q.1 p.1) false) false) l) ih (p.1 :: ih)) ih) ih) l') → bit bt i m = true := by
    intro l'
    induction l' with
    | nil => intro h; cases h
    | cons p l' ih =>
      intro h
      cases h1 : Nat.beq (kindOf p.2.op) 2 with
      | false => simp only [h1, cnd_false] at h; exact ih h
      | true =>
        simp only [h1, cnd_true] at h
        cases h2 : bit bt i p.1 with
        | false => simp only [h2, cnd_false] at h; exact ih h
        | true =>
          simp only [h2, cnd_true] at h
          cases h3 : anyL (fun q : Nat × Oper => cnd (isAct q.2) (cnd (Nat.ble (Nat.succ q.1) j) (bit bt q.1 p.1) false) false) l with
          | true => simp only [h3, cnd_true] at h; exact ih h
          | false =>
            simp only [h3, cnd_false] at h
            rcases List.mem_cons.1 h with rfl | h
            · exact h2
            · exact ih h
  exact key l h
theorem mem_stages {ops : List Oper} {l : List (Nat × Oper)} {bt : Tr Nat} {i j : Nat} (h1 : j ≤ ops.length) (h2 : predAct ops j = true) (h3 : sameStage l i j = false) (h4 : stageOk l bt i j = true) :
    (j, matsOf l bt i j) ∈ stagesOf ops l bt i := by
  have key : ∀ (r : List Nat), j ∈ r → (j, matsOf l bt i j) ∈ (List.rec (motive := fun _ => List (Nat × List Nat)) [] (fun j _ ih =>
      cnd (predAct ops j) (cnd (sameStage l i j) ih (cnd (stageOk l bt i j) ((j, matsOf l bt i j) :: ih) ih)) ih) r) := by
    intro r
    induction r with
    | nil => intro h; cases h
    | cons x r ih =>
      intro h
      show (j, matsOf l bt i j) ∈ cnd (predAct ops x) (cnd (sameStage l i x) _ (cnd (stageOk l bt i x) ((x, matsOf l bt i x) :: _) _)) _
      rcases List.mem_cons.1 h with rfl | h
      · rw [h2, h3, h4, cnd_true, cnd_false, cnd_true]; exact List.mem_cons_self ..
      · have := ih h
        cases predAct ops x <;> cases sameStage l i x <;> cases stageOk l bt i x <;> simp only [cnd_true, cnd_false] <;> first | exact this | exact List.mem_cons_of_mem _ this
  refine key _ ?_
  rw [lenL_eq]
  simp; omega

theorem allEq_eq {α : Type} {f : α → α → Bool} (hf : ∀ a b, f a b = true → a = b) : ∀ {l m : List α}, allEq f l m = true → l = m
  | [], [], _ => rfl
  | [], _ :: _, h => by cases h
  | _ :: _, [], h => by cases h
  | x :: l, y :: m, h => by
    have h' : cnd (f x y) (allEq f l m) false = true := h
    rcases cnd_of h' with ⟨h1, h2⟩ | ⟨_, h2⟩
    · rw [hf x y h1, allEq_eq hf h2]
    · cases h2
theorem boolEq {a b : Bool} (h : cnd a b (!b) = true) : a = b := by cases a <;> cases b <;> first | rfl | cases h
theorem intEq_eq {a b : Int} (h : intEq a b = true) : a = b := by
  cases a <;> cases b <;> simp only [intEq] at h <;> first | cases h | skip
  · rw [beq_eq h]
  · rw [beq_eq h]
theorem cnd3 {a b : Bool} (h : cnd a b false = true) : a = true ∧ b = true := by cases a <;> cases b <;> first | exact ⟨rfl, rfl⟩ | cases h
theorem valEq0_eq {a b : Value} (h : valEq0 a b = true) : a = b := by
  unfold valEq0 at h
  split at h <;> first | rfl | cases h | skip
  · rw [boolEq h]
  · obtain ⟨h1, h2⟩ := cnd3 h
    rw [kindEq_eq h1, intEq_eq h2]
  · obtain ⟨h1, h2⟩ := cnd3 h
    rw [beq_eq h1, beq_eq h2]
theorem valEq_eq {a b : Value} (h : valEq a b = true) : a = b := by
  unfold valEq at h
  split at h
  · rename_i x y
    have := allEq_eq (fun _ _ => valEq0_eq) h
    congr 1; exact Array.ext' this
  · rename_i x y
    have := allEq_eq (fun _ _ => valEq0_eq) h
    congr 1; exact Array.ext' this
  · rename_i x y
    cases x with
    | mk x =>
      cases y with
      | mk y =>
        have h' : (x == y) = true := h
        rw [eq_of_beq h']
  · exact valEq0_eq h
theorem avEq0_eq {a b : AV} (h : avEq0 a b = true) : a = b := by
  unfold avEq0 at h
  split at h
  · rw [valEq_eq h]
  · obtain ⟨h1, h2⟩ := cnd3 h
    rw [beq_eq h1, beq_eq h2]
  · obtain ⟨h1, h2⟩ := cnd3 h
    obtain ⟨h3, h4⟩ := cnd3 h2
    obtain ⟨h5, h6⟩ := cnd3 h4
    obtain ⟨h7, h8⟩ := cnd3 h6
    rw [beq_eq h1, beq_eq h3, beq_eq h5, beq_eq h7, boolEq h8]
  · rw [beq_eq h]
  · rw [beq_eq h]
  · cases h
theorem avEq_eq {a b : AV} (h : avEq a b = true) : a = b := by
  unfold avEq at h
  split at h
  · rw [allEq_eq (fun _ _ => avEq0_eq) h]
  · obtain ⟨h1, h2⟩ := cnd3 h
    obtain ⟨h3, h4⟩ := cnd3 h2
    rw [beq_eq h1, allEq_eq (fun _ _ => avEq0_eq) h3, allEq_eq (fun _ _ => avEq0_eq) h4]
  · exact avEq0_eq h

theorem apureOp_free {P : Program} {ρ : Operand → AV} {h h' : AH} {t : TypeId} {op : Op} (hk : kindOf op = 0) : apureOp P ρ h t op = apureOp P ρ h' t op := by
  cases op <;> first | rfl | (simp only [kindOf] at hk; first | cases hk | skip)
  rename_i c
  unfold cnd at hk
  cases h1 : actCallee c.callee <;> rw [h1] at hk <;> cases hk

structure Trace (P : Program) (call : CallA) (sz : Nat) (ops : Array Oper) (bt : Tr Nat) (base : Nat) (Tf : Nat → TM) (Hf : Nat → AH) (Vf : Nat → AV) (Mf : Nat → Tr AObj) : Prop where
  form : Form ops bt
  m0 : Mf 0 = .leaf
  step : ∀ j o, ops[j]? = some o → StepOk P call base ops.toList j o (todoOf ops.toList (enum ops.toList 0) bt j o (kindOf o.op)) (Tf j) (Hf j) (Mf j) (Vf j) (Hf (j + 1)) (Mf (j + 1)) ∧ putA sz (Tf j) o.dst (Vf j) = some (Tf (j + 1))
  reads : ∀ j o, ops[j]? = some o → kindOf o.op = 1 → wantA ops.toList (Tf j) o = true → ∀ p ∈ stagesOf ops.toList (enum ops.toList 0) bt j,
    ∃ u, apureOp P (evO (Tf j)) (matA (Mf ops.size) base p.2 (Hf p.1)) o.type o.op = some u ∧ avEq u (Vf j) = true

section
variable {P : Program} {call : CallA} {sz : Nat} {ops : Array Oper} {bt : Tr Nat} {base : Nat} {Tf : Nat → TM} {Hf : Nat → AH} {Vf : Nat → AV} {Mf : Nat → Tr AObj}

theorem tat_put {T T' : TM} {d : Option Nat} {v : AV} (e : putA sz T d v = some T') (t : Nat) : tat T' t = if d = some t then v else tat T t := by
  cases d with
  | none => cases (show some T = some T' from e); simp
  | some q =>
    obtain ⟨_, e2⟩ := cnd_eq.1 (show cnd (Nat.ble (Nat.succ q) sz) (some (T.set q v)) none = some T' from e)
    cases e2
    rw [tat_set]
    by_cases h : t = q
    · subst h; simp
    · rw [if_neg h, if_neg (by intro h2; cases h2; exact h rfl)]
theorem getOp {j : Nat} (h : j < ops.size) : ∃ o, ops[j]? = some o := ⟨ops[j], Array.getElem?_eq_getElem h⟩
theorem Trace.tat_none (tr : Trace P call sz ops bt base Tf Hf Vf Mf) {t : Nat} : ∀ {i : Nat}, i ≤ ops.size → (∀ j o, j < i → ops[j]? = some o → o.dst ≠ some t) → tat (Tf i) t = tat (Tf 0) t
  | 0, _, _ => rfl
  | i + 1, hi, h => by
    obtain ⟨o, ho⟩ := getOp (ops := ops) (j := i) (by omega)
    rw [tat_put (tr.step i o ho).2, if_neg (h i o (by omega) ho), tr.tat_none (by omega) fun j o hj => h j o (by omega)]
theorem Trace.tat_dst (tr : Trace P call sz ops bt base Tf Hf Vf Mf) {t j : Nat} {o : Oper} (ho : ops[j]? = some o) (hd : o.dst = some t) : ∀ {i : Nat}, i ≤ ops.size → j < i → tat (Tf i) t = Vf j
  | i + 1, hi, h => by
    obtain ⟨o', ho'⟩ := getOp (ops := ops) (j := i) (by omega)
    rw [tat_put (tr.step i o' ho').2]
    by_cases e : j = i
    · subst e
      rw [ho] at ho'; cases ho'
      rw [if_pos hd]
    · rw [if_neg (fun h2 => tr.form.apart i j o' o ho' ho (by omega) t h2 hd), tr.tat_dst ho hd (by omega) (by omega)]
theorem Trace.h_succ (tr : Trace P call sz ops bt base Tf Hf Vf Mf) {j : Nat} {o : Oper} (ho : ops[j]? = some o) (ha : isAct o = false) : Hf (j + 1) = Hf j := by
  have hk : kindOf o.op ≠ 3 := fun h => by rw [act_kind.2 h] at ha; cases ha
  rcases (tr.step j o ho).1 with ⟨_, h1⟩ | ⟨_, _, h1, _⟩
  · have hle := kindOf_le o.op
    generalize hkk : kindOf o.op = kk at h1 hk hle
    match kk, h1, hk, hle with
    | 0, h1, _, _ =>
      obtain ⟨u, _, e2⟩ := ob_eq.1 (show ob (apureOp P (evO (Tf j)) (Hf j) o.type o.op) (fun v => some (v, Hf j, Mf j)) = _ from h1)
      exact (congrArg (fun q => q.2.1) (Option.some.inj e2)).symm
    | 1, h1, _, _ =>
      obtain ⟨u, _, e2⟩ := ob_eq.1 (show ob (apureOp P (evO (Tf j)) _ o.type o.op) (fun v => some (v, Hf j, Mf j)) = _ from h1)
      exact (congrArg (fun q => q.2.1) (Option.some.inj e2)).symm
    | 2, h1, _, _ =>
      obtain ⟨u, _, e2⟩ := ob_eq.1 (show ob (makerOp P (evO (Tf j)) (Nat.add base j) o.op) (fun q => some (q.1, Hf j, (Mf j).set j q.2)) = _ from h1)
      exact (congrArg (fun q => q.2.1) (Option.some.inj e2)).symm
    | 3, _, h, _ => exact absurd rfl h
  · exact h1
theorem Trace.h_const (tr : Trace P call sz ops bt base Tf Hf Vf Mf) {k : Nat} : ∀ {i : Nat}, i ≤ ops.size → k ≤ i → (∀ j o, k ≤ j → j < i → ops[j]? = some o → isAct o = false) → Hf i = Hf k
  | 0, _, hk, _ => by obtain rfl : k = 0 := by omega
                      rfl
  | i + 1, hi, hk, h => by
    by_cases e : k = i + 1
    · rw [e]
    · obtain ⟨o, ho⟩ := getOp (ops := ops) (j := i) (by omega)
      rw [tr.h_succ ho (h i o (by omega) (by omega) ho), tr.h_const (by omega) (by omega) fun j o h1 h2 => h j o h1 (by omega)]
/-- what the table of made blocks gets at one place -/
theorem Trace.m_succ (tr : Trace P call sz ops bt base Tf Hf Vf Mf) {j : Nat} {o : Oper} (ho : ops[j]? = some o) :
    Mf (j + 1) = Mf j ∨ ∃ obj, kindOf o.op = 2 ∧ wantA ops.toList (Tf j) o = true ∧ makerOp P (evO (Tf j)) (base + j) o.op = some (Vf j, obj) ∧ Mf (j + 1) = (Mf j).set j obj := by
  rcases (tr.step j o ho).1 with ⟨hw, h1⟩ | ⟨_, _, _, h1⟩
  · have hle := kindOf_le o.op
    generalize hkk : kindOf o.op = kk at h1 hle
    match kk, h1, hle with
    | 0, h1, _ =>
      obtain ⟨u, _, e2⟩ := ob_eq.1 (show ob (apureOp P (evO (Tf j)) (Hf j) o.type o.op) (fun v => some (v, Hf j, Mf j)) = _ from h1)
      exact .inl (congrArg (fun q => q.2.2) (Option.some.inj e2)).symm
    | 1, h1, _ =>
      obtain ⟨u, _, e2⟩ := ob_eq.1 (show ob (apureOp P (evO (Tf j)) _ o.type o.op) (fun v => some (v, Hf j, Mf j)) = _ from h1)
      exact .inl (congrArg (fun q => q.2.2) (Option.some.inj e2)).symm
    | 2, h1, _ =>
      obtain ⟨u, e1, e2⟩ := ob_eq.1 (show ob (makerOp P (evO (Tf j)) (Nat.add base j) o.op) (fun q => some (q.1, Hf j, (Mf j).set j q.2)) = _ from h1)
      have e3 := Option.some.inj e2
      have e4 : u.1 = Vf j := congrArg (fun q => q.1) e3
      have e5 : makerOp P (evO (Tf j)) (base + j) o.op = some (Vf j, u.2) := by rw [← e4]; exact e1
      exact .inr ⟨u.2, rfl, hw, e5, (congrArg (fun q => q.2.2) e3).symm⟩
    | 3, h1, _ =>
      obtain ⟨u, _, e2⟩ := ob_eq.1 (show ob (aactOp P (evO (Tf j)) _ o.op) (fun q => ob (nextA call q) fun r => some (r.1, r.2, Mf j)) = _ from h1)
      obtain ⟨u2, _, e3⟩ := ob_eq.1 e2
      exact .inl (congrArg (fun q => q.2.2) (Option.some.inj e3)).symm
  · left; exact h1
theorem Trace.m_none (tr : Trace P call sz ops bt base Tf Hf Vf Mf) : ∀ {i : Nat}, i ≤ ops.size → ∀ m, i ≤ m → (Mf i).get m = none
  | 0, _, m, _ => by rw [tr.m0]; rfl
  | i + 1, hi, m, hm => by
    obtain ⟨o, ho⟩ := getOp (ops := ops) (j := i) (by omega)
    have ih := tr.m_none (i := i) (by omega) m (by omega)
    rcases tr.m_succ ho with h | ⟨obj, _, _, _, h⟩
    · rw [h, ih]
    · rw [h, Tr.get_set, if_neg (by omega), ih]
theorem Trace.m_mono (tr : Trace P call sz ops bt base Tf Hf Vf Mf) {i m : Nat} {ob' : AObj} (h : (Mf i).get m = some ob') : ∀ {j : Nat}, j ≤ ops.size → i ≤ j → (Mf j).get m = some ob'
  | 0, _, hij => by obtain rfl : i = 0 := by omega
                    exact h
  | j + 1, hj, hij => by
    by_cases e : i = j + 1
    · rw [← e]; exact h
    · have ih := tr.m_mono h (j := j) (by omega) (by omega)
      obtain ⟨o, ho⟩ := getOp (ops := ops) (j := j) (by omega)
      rcases tr.m_succ ho with h2 | ⟨obj, _, _, _, h2⟩
      · rw [h2, ih]
      · rw [h2, Tr.get_set]
        by_cases em : m = j
        · subst em
          rw [tr.m_none (by omega) m (Nat.le_refl _)] at ih; cases ih
        · rw [if_neg em, ih]
theorem Trace.m_made (tr : Trace P call sz ops bt base Tf Hf Vf Mf) {m : Nat} {o : Oper} (ho : ops[m]? = some o) : ∀ {i : Nat}, i ≤ ops.size → ∀ {ob' : AObj}, (Mf i).get m = some ob' → kindOf o.op = 2 ∧ wantA ops.toList (Tf m) o = true ∧ makerOp P (evO (Tf m)) (base + m) o.op = some (Vf m, ob')
  | 0, _, ob', h => by rw [tr.m0] at h; cases h
  | i + 1, hi, ob', h => by
    obtain ⟨o', ho'⟩ := getOp (ops := ops) (j := i) (by omega)
    rcases tr.m_succ ho' with h2 | ⟨obj, k1, k2, k3, h2⟩
    · rw [h2] at h; exact tr.m_made ho (by omega) h
    · rw [h2, Tr.get_set] at h
      by_cases em : m = i
      · subst em
        rw [if_pos rfl] at h; cases h
        rw [ho] at ho'; cases ho'
        exact ⟨k1, k2, k3⟩
      · rw [if_neg em] at h; exact tr.m_made ho (by omega) h
end
end Go.Proofs.Ytegkgfiaegpihaa
