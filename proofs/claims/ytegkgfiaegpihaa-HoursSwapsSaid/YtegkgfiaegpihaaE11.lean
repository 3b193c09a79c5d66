/- Regions whose order is drawn: their form, and what the evaluator's trace says. -/
import Derived.Test.YtegkgfiaegpihaaE10
set_option linter.unusedSimpArgs false
set_option linter.unusedVariables false
namespace Go.Proofs.Ytegkgfiaegpihaa
open Go

theorem allL_iff {α : Type} {f : α → Bool} : ∀ {l : List α}, allL f l = true ↔ ∀ x ∈ l, f x = true
  | [] => by simp [allL]
  | x :: l => by
    show cnd (f x) (allL f l) false = true ↔ _
    have ih := allL_iff (f := f) (l := l)
    cases h : f x with
    | true => rw [cnd_true, ih]; simp [h]
    | false => rw [cnd_false]; simp [h]
theorem anyL_iff {α : Type} {f : α → Bool} : ∀ {l : List α}, anyL f l = true ↔ ∃ x ∈ l, f x = true
  | [] => by simp [anyL]
  | x :: l => by
    show cnd (f x) true (anyL f l) = true ↔ _
    have ih := anyL_iff (f := f) (l := l)
    cases h : f x with
    | true => rw [cnd_true]; simp [h]
    | false => rw [cnd_false, ih]; simp [h]
theorem enum_get {α : Type} : ∀ (l : List α) (i k : Nat), (enum l i)[k]? = (l[k]?).map fun x => (i + k, x)
  | [], i, k => by show ([] : List (Nat × α))[k]? = _; simp
  | x :: l, i, 0 => by show ((i, x) :: enum l (i + 1))[0]? = _; simp
  | x :: l, i, k + 1 => by
    show ((i, x) :: enum l (i + 1))[k + 1]? = _
    rw [List.getElem?_cons_succ, enum_get l (i + 1) k, List.getElem?_cons_succ, Nat.add_right_comm]
    rfl
theorem mem_enum {α : Type} {l : List α} {k : Nat} {x : α} (h : l[k]? = some x) : (k, x) ∈ enum l 0 := by
  have := enum_get l 0 k
  rw [h] at this
  simp at this
  exact List.mem_of_getElem? this
theorem of_mem_enum {α : Type} {l : List α} {p : Nat × α} (h : p ∈ enum l 0) : l[p.1]? = some p.2 := by
  obtain ⟨k, hk⟩ := List.getElem?_of_mem h
  rw [enum_get] at hk
  cases hx : l[k]? with
  | none => rw [hx] at hk; cases hk
  | some x => rw [hx] at hk; simp at hk; subst hk; exact hx

theorem bit_iff {bt : Tr Nat} {i j : Nat} : bit bt i j = true ↔ ∃ m, bt.get i = some m ∧ m.testBit j = true := by
  unfold bit
  cases h : bt.get i with
  | none => simp [optCase]
  | some m =>
    simp only [optCase_some, Option.some.injEq]
    have : Nat.beq (Nat.land (Nat.shiftRight m j) 1) 1 = m.testBit j := by
      rw [Nat.testBit_eq_decide_div_mod_eq]
      have h1 : Nat.land (Nat.shiftRight m j) 1 = m / 2 ^ j % 2 := by
        show (m >>> j) &&& 1 = _
        rw [Nat.and_one_is_mod, Nat.shiftRight_eq_div_pow]
      rw [h1]
      by_cases h2 : m / 2 ^ j % 2 = 1
      · rw [h2]; rfl
      · rw [beq_no h2]; simp [h2]
    rw [this]
    exact ⟨fun h => ⟨m, rfl, h⟩, fun ⟨m', e, h⟩ => e ▸ h⟩
theorem edgeBits_step {bt : Tr Nat} {j : Nat} : ∀ {es : List Edge}, (edgeBits bt es).testBit j = true → ∃ e ∈ es, Region.binds .any e = true ∧ (j = e.on ∨ bit bt e.on j = true)
  | [], h => by have h' : Nat.testBit 0 j = true := h; simp at h'
  | e :: es, h => by
    have h' : (cnd (Region.binds .any e) (Nat.lor (Nat.lor (Nat.shiftLeft 1 e.on) (optOr (bt.get e.on) 0)) (edgeBits bt es)) (edgeBits bt es)).testBit j = true := h
    have rec_ : (edgeBits bt es).testBit j = true → ∃ e' ∈ e :: es, Region.binds .any e' = true ∧ (j = e'.on ∨ bit bt e'.on j = true) := fun h => by
      obtain ⟨e', h1, h2⟩ := edgeBits_step h
      exact ⟨e', List.mem_cons_of_mem _ h1, h2⟩
    cases hb : Region.binds .any e with
    | false => rw [hb, cnd_false] at h'; exact rec_ h'
    | true =>
      rw [hb, cnd_true] at h'
      have h2 : ((1 <<< e.on ||| optOr (bt.get e.on) 0) ||| edgeBits bt es).testBit j = true := h'
      rw [Nat.testBit_or, Nat.testBit_or] at h2
      simp only [Bool.or_eq_true] at h2
      rcases h2 with (h2 | h2) | h2
      · refine ⟨e, List.mem_cons_self .., hb, .inl ?_⟩
        rw [Nat.one_shiftLeft, Nat.testBit_two_pow] at h2
        simpa [eq_comm] using h2
      · refine ⟨e, List.mem_cons_self .., hb, .inr (bit_iff.2 ?_)⟩
        cases hg : bt.get e.on with
        | none => rw [hg] at h2; simp [optOr] at h2
        | some m => rw [hg] at h2; exact ⟨m, rfl, h2⟩
      · exact rec_ h2
theorem bitsOf_step : ∀ (l : List Oper) (i : Nat) (bt : Tr Nat), (∀ k, i ≤ k → bt.get k = none) →
    (∀ k j, k < i → bit bt k j = true → bit (bitsOf l i bt) k j = true) ∧
    ∀ k j, bit (bitsOf l i bt) k j = true → (k < i ∧ bit bt k j = true) ∨ ∃ o, i ≤ k ∧ l[k - i]? = some o ∧ ∃ e ∈ o.after.toList, Region.binds .any e = true ∧ (j = e.on ∨ bit (bitsOf l i bt) e.on j = true)
  | [], i, bt, hn => by
    refine ⟨fun k j _ h => h, fun k j h => .inl ⟨?_, h⟩⟩
    have h' : bit bt k j = true := h
    obtain ⟨m, h1, _⟩ := bit_iff.1 h'
    rcases Nat.lt_or_ge k i with h2 | h2
    · exact h2
    · rw [hn k h2] at h1; cases h1
  | o :: l, i, bt, hn => by
    have e : bitsOf (o :: l) i bt = bitsOf l (i + 1) (bt.set i (edgeBits bt o.after.toList)) := rfl
    rw [e]
    have hn' : ∀ k, i + 1 ≤ k → (bt.set i (edgeBits bt o.after.toList)).get k = none := fun k hk => by
      rw [Tr.get_set, if_neg (by omega)]; exact hn k (by omega)
    obtain ⟨ih1, ih2⟩ := bitsOf_step l (i + 1) _ hn'
    have up : ∀ k j, k < i → bit bt k j = true → bit (bt.set i (edgeBits bt o.after.toList)) k j = true := fun k j hk h => by
      obtain ⟨m, h1, h2⟩ := bit_iff.1 h
      exact bit_iff.2 ⟨m, by rw [Tr.get_set, if_neg (by omega)]; exact h1, h2⟩
    refine ⟨fun k j hk h => ih1 k j (by omega) (up k j hk h), fun k j h => ?_⟩
    rcases ih2 k j h with ⟨h1, h2⟩ | ⟨o', h1, h2, h3⟩
    · obtain ⟨m, h3, h4⟩ := bit_iff.1 h2
      rw [Tr.get_set] at h3
      by_cases ek : k = i
      · subst ek
        rw [if_pos rfl] at h3; cases h3
        refine .inr ⟨o, Nat.le_refl _, by simp, ?_⟩
        obtain ⟨e', g1, g2, g3⟩ := edgeBits_step h4
        refine ⟨e', g1, g2, g3.imp id fun g => ?_⟩
        have hlt : e'.on < k := by
          rcases Nat.lt_or_ge e'.on k with h5 | h5
          · exact h5
          · obtain ⟨m', h6, _⟩ := bit_iff.1 g
            rw [hn _ h5] at h6; cases h6
        exact ih1 _ _ (by omega) (up _ _ hlt g)
      · rw [if_neg ek] at h3
        exact .inl ⟨by omega, bit_iff.2 ⟨m, h3, h4⟩⟩
    · exact .inr ⟨o', by omega, by rw [show k - i = (k - (i + 1)) + 1 by omega]; simpa using h2, h3⟩

/-- the form of a region -/
structure Form (ops : Array Oper) (bt : Tr Nat) : Prop where
  step : ∀ i j, bit bt i j = true → ∃ o, ops[i]? = some o ∧ ∃ e ∈ o.after, Region.binds .any e = true ∧ (j = e.on ∨ bit bt e.on j = true)
  back : ∀ i o, ops[i]? = some o → ∀ e ∈ o.after, Region.binds .any e = true → e.on < i
  apart : ∀ (i j : Nat) (p q : Oper), ops[i]? = some p → ops[j]? = some q → j < i → ∀ t, p.dst = some t → q.dst ≠ some t
  see : ∀ (i j : Nat) (p q : Oper), ops[i]? = some p → ops[j]? = some q → j < i → bit bt i j = true ∨ ((∀ t, q.dst = some t → looks ops.toList p (some t) = false) ∧ (∀ t, p.dst = some t → looks ops.toList q (some t) = false) ∧ (isAct p = true → isAct q = false))
theorem optEq_iff {a b : Option Nat} : optEq a b = true ↔ ∃ t, a = some t ∧ b = some t := by
  cases a <;> cases b <;> simp [optEq, optCase]
  exact eq_comm
theorem form_of {ops : Array Oper} (h : formOk ops.toList (bitsOf ops.toList 0 .leaf) = true) : Form ops (bitsOf ops.toList 0 .leaf) := by
  have hp : ∀ i o, ops[i]? = some o → _ := fun i o hi => allL_iff.1 h (i, o) (mem_enum (by simpa using hi))
  have hpair : ∀ (i j : Nat) (p q : Oper), ops[i]? = some p → ops[j]? = some q → j < i → optEq p.dst q.dst = false ∧ (bit (bitsOf ops.toList 0 .leaf) i j = true ∨ (looks ops.toList p q.dst = false ∧ looks ops.toList q p.dst = false ∧ (isAct p = true → isAct q = false))) := by
    intro i j p q hi hj hlt
    rcases cnd_of (hp i p hi) with ⟨_, h2⟩ | ⟨_, h2⟩
    · have h3 := allL_iff.1 h2 (j, q) (mem_enum (by simpa using hj))
      rcases cnd_of h3 with ⟨_, h4⟩ | ⟨h4, _⟩
      · rcases cnd_of h4 with ⟨_, h5⟩ | ⟨h5, h6⟩
        · cases h5
        · refine ⟨h5, ?_⟩
          rcases cnd_of h6 with ⟨h7, _⟩ | ⟨_, h7⟩
          · exact .inl h7
          · right
            rcases cnd_of h7 with ⟨_, h8⟩ | ⟨h8, h9⟩
            · cases h8
            · rcases cnd_of h9 with ⟨_, h10⟩ | ⟨h10, h11⟩
              · cases h10
              · refine ⟨h8, h10, fun hact => ?_⟩
                rcases cnd_of h11 with ⟨_, h12⟩ | ⟨h12, _⟩
                · simpa using h12
                · have : isAct p = false := h12
                  rw [this] at hact; cases hact
      · have := ble_no h4; exfalso; simp at this; omega
    · cases h2
  constructor
  · intro i j hb
    rcases (bitsOf_step ops.toList 0 .leaf (fun _ _ => rfl)).2 i j hb with ⟨h1, _⟩ | ⟨o, _, h1, e, h2, h3⟩
    · omega
    · exact ⟨o, by simpa using h1, e, by simpa using h2, h3⟩
  · intro i o hi e he hb
    rcases cnd_of (hp i o hi) with ⟨h1, _⟩ | ⟨_, h2⟩
    · have h3 := allL_iff.1 h1 e (by simpa using he)
      rw [hb, cnd_true] at h3
      have := ble_le h3; omega
    · cases h2
  · intro i j p q hi hj hlt t ht hq
    have := (hpair i j p q hi hj hlt).1
    rw [optEq_iff.2 ⟨t, ht, hq⟩] at this; cases this
  · intro i j p q hi hj hlt
    refine (hpair i j p q hi hj hlt).2.imp id fun ⟨h1, h2, h3⟩ => ⟨fun t ht => by rw [← ht]; exact h1, fun t ht => by rw [← ht]; exact h2, h3⟩

/-- sets of operations that hold what each of theirs waits for -/
def Shut (ops : Array Oper) (L : Nat → Bool) : Prop := ∀ i o, ops[i]? = some o → L i = true → ∀ e ∈ o.after, Region.binds .any e = true → L e.on = true
section
variable {ops : Array Oper} {bt : Tr Nat} {L : Nat → Bool}
theorem Shut.bit (hs : Shut ops L) (f : Form ops bt) : ∀ i, L i = true → ∀ j, bit bt i j = true → L j = true := by
  intro i
  induction i using Nat.strongRecOn with
  | _ i ih =>
    intro hi j hb
    obtain ⟨o, h1, e, h2, h3, h4⟩ := f.step i j hb
    have he := hs i o h1 hi e h2 h3
    rcases h4 with rfl | h4
    · exact he
    · exact ih e.on (f.back i o h1 e h2 h3) he j h4
theorem Shut.ready (hs : Shut ops L) (f : Form ops bt) {i : Nat} {o : Oper} (ho : ops[i]? = some o) (hr : ∀ e ∈ o.after, Region.binds .any e = true → L e.on = true) {j : Nat} (hb : Go.Proofs.Ytegkgfiaegpihaa.bit bt i j = true) : L j = true := by
  obtain ⟨o', h1, e, h2, h3, h4⟩ := f.step i j hb
  rw [ho] at h1; cases h1
  have he := hr e h2 h3
  rcases h4 with rfl | h4
  · exact he
  · exact hs.bit f e.on he j h4
end

/-! the trace as functions of the place -/
def StepOk (P : Program) (call : CallA) (base : Nat) (ops : List Oper) (i : Nat) (o : Oper) (td : Todo) (T : TM) (h : AH) (ms : Tr AObj) (v : AV) (h' : AH) (ms' : Tr AObj) : Prop :=
  (wantA ops T o = true ∧ stepD P call base i o T h ms td = some (v, h', ms')) ∨ (wantA ops T o = false ∧ v = .undef ∧ h' = h ∧ ms' = ms)
theorem trace_funs {P : Program} {call : CallA} {sz : Nat} {ops : List Oper} {base : Nat} : ∀ (l : List (Oper × Todo)) (i : Nat) (T : TM) (h : AH) (ms : Tr AObj) (r : List (TM × AH × AV) × TM × AH × Tr AObj),
    traceD P call sz ops base l i T h ms = some r → ∃ (Tf : Nat → TM) (Hf : Nat → AH) (Vf : Nat → AV) (Mf : Nat → Tr AObj), Tf 0 = T ∧ Hf 0 = h ∧ Mf 0 = ms ∧ Tf l.length = r.2.1 ∧ Hf l.length = r.2.2.1 ∧ Mf l.length = r.2.2.2 ∧ r.1.length = l.length ∧
      ∀ j p, l[j]? = some p → r.1[j]? = some (Tf j, Hf j, Vf j) ∧ StepOk P call base ops (i + j) p.1 p.2 (Tf j) (Hf j) (Mf j) (Vf j) (Hf (j + 1)) (Mf (j + 1)) ∧ putA sz (Tf j) p.1.dst (Vf j) = some (Tf (j + 1))
  | [], i, T, h, ms, r, e => by
    cases (show some ([], T, h, ms) = some r from e)
    exact ⟨fun _ => T, fun _ => h, fun _ => .undef, fun _ => ms, rfl, rfl, rfl, rfl, rfl, rfl, rfl, fun j p hp => by simp at hp⟩
  | p :: l, i, T, h, ms, r, e => by
    obtain ⟨⟨v, h1, ms1⟩, e1, e2⟩ := ob_eq.1 (show ob (cnd (wantA ops T p.1) (stepD P call base i p.1 T h ms p.2) (some (.undef, h, ms))) _ = some r from e)
    obtain ⟨T1, e3, e4⟩ := ob_eq.1 e2
    obtain ⟨r1, e5, e6⟩ := ob_eq.1 e4
    cases e6
    obtain ⟨Tf, Hf, Vf, Mf, a1, a2, a3, a4, a5, a6, a7, a8⟩ := trace_funs l (i + 1) T1 h1 ms1 r1 e5
    refine ⟨fun j => Nat.casesOn j T Tf, fun j => Nat.casesOn j h Hf, fun j => Nat.casesOn j v Vf, fun j => Nat.casesOn j ms Mf, rfl, rfl, rfl, a4, a5, a6, by simp [a7], ?_⟩
    intro j q hq
    cases j with
    | zero =>
      simp at hq; subst hq
      refine ⟨rfl, ?_, ?_⟩
      · show StepOk P call base ops (i + 0) p.1 p.2 T h ms v (Hf 0) (Mf 0)
        rw [a2, a3]
        rcases cnd_of e1 with ⟨h1, h2⟩ | ⟨h1, h2⟩
        · exact .inl ⟨h1, h2⟩
        · cases h2; exact .inr ⟨h1, rfl, rfl, rfl⟩
      · show putA sz T p.1.dst v = some (Tf 0)
        rw [a1]; exact e3
    | succ j =>
      have := a8 j q (by simpa using hq)
      rw [show i + (j + 1) = i + 1 + j by omega]
      exact ⟨by simpa using this.1, this.2⟩
theorem todos_get {ops : List Oper} {l : List (Nat × Oper)} {bt : Tr Nat} : ∀ (m : List (Nat × Oper)) (k : Nat), (todosOf ops l bt m)[k]? = (m[k]?).map fun p => (p.2, todoOf ops l bt p.1 p.2 (kindOf p.2.op))
  | [], k => by show ([] : List (Oper × Todo))[k]? = _; simp
  | p :: m, 0 => rfl
  | p :: m, k + 1 => by
    show ((p.2, _) :: todosOf ops l bt m)[k + 1]? = _
    rw [List.getElem?_cons_succ, todos_get m k, List.getElem?_cons_succ]
theorem matA_get {ms : Tr AObj} {base : Nat} : ∀ {l : List Nat} {h : AH} {b : Nat} {o : AObj}, (matA ms base l h).objs.get b = some o → h.objs.get b = some o ∨ (h.objs.get b = none ∧ ∃ m ∈ l, b = base + m ∧ ms.get m = some o)
  | [], h, b, o, e => .inl e
  | m :: l, h, b, o, e => by
    have e' : (optCase ((matA ms base l h).objs.get (base + m)) (optCase (ms.get m) (matA ms base l h) fun o => (matA ms base l h).put (base + m) o) fun _ => matA ms base l h).objs.get b = some o := e
    have rec_ : (matA ms base l h).objs.get b = some o → h.objs.get b = some o ∨ (h.objs.get b = none ∧ ∃ m' ∈ m :: l, b = base + m' ∧ ms.get m' = some o) := fun e => by
      rcases matA_get e with h1 | ⟨h0, m', h1, h2⟩
      · exact .inl h1
      · exact .inr ⟨h0, m', List.mem_cons_of_mem _ h1, h2⟩
    cases h1 : (matA ms base l h).objs.get (base + m) with
    | some q => rw [h1, optCase_some] at e'; exact rec_ e'
    | none =>
      rw [h1, optCase_none] at e'
      cases h2 : ms.get m with
      | none => rw [h2, optCase_none] at e'; exact rec_ e'
      | some q =>
        rw [h2, optCase_some, get_put] at e'
        by_cases eb : b = base + m
        · subst eb
          rw [if_pos rfl] at e'
          cases h3 : h.objs.get (base + m) with
          | none => exact .inr ⟨rfl, m, List.mem_cons_self .., rfl, by rw [h2]; exact e'⟩
          | some q' =>
            exfalso
            have keep : ∀ (l : List Nat), (matA ms base l h).objs.get (base + m) ≠ none := by
              intro l
              induction l with
              | nil => show h.objs.get (base + m) ≠ none; rw [h3]; simp
              | cons k l ih =>
                show (optCase ((matA ms base l h).objs.get (base + k)) (optCase (ms.get k) (matA ms base l h) fun o => (matA ms base l h).put (base + k) o) fun _ => matA ms base l h).objs.get (base + m) ≠ none
                cases (matA ms base l h).objs.get (base + k) with
                | some _ => exact ih
                | none =>
                  cases ms.get k with
                  | none => exact ih
                  | some q2 =>
                    rw [optCase_none, optCase_some, get_put]
                    split
                    · simp
                    · exact ih
            exact keep l h1
        · rw [if_neg eb] at e'; exact rec_ e'
theorem matA_next {ms : Tr AObj} {base : Nat} : ∀ (l : List Nat) (h : AH), (matA ms base l h).next = h.next
  | [], h => rfl
  | m :: l, h => by
    show (optCase ((matA ms base l h).objs.get (base + m)) (optCase (ms.get m) (matA ms base l h) fun o => (matA ms base l h).put (base + m) o) fun _ => matA ms base l h).next = _
    have ih := matA_next (ms := ms) (base := base) l h
    cases (matA ms base l h).objs.get (base + m) with
    | some _ => exact ih
    | none =>
      cases ms.get m with
      | none => exact ih
      | some _ => exact ih
theorem matA_stay {ms : Tr AObj} {base : Nat} {b : Nat} : ∀ (l : List Nat) (h : AH), h.objs.get b ≠ none → (matA ms base l h).objs.get b ≠ none
  | [], h, e => e
  | m :: l, h, e => by
    show (optCase ((matA ms base l h).objs.get (base + m)) (optCase (ms.get m) (matA ms base l h) fun o => (matA ms base l h).put (base + m) o) fun _ => matA ms base l h).objs.get b ≠ none
    have ih := matA_stay (ms := ms) (base := base) l h e
    cases (matA ms base l h).objs.get (base + m) with
    | some _ => exact ih
    | none =>
      cases ms.get m with
      | none => exact ih
      | some q =>
        rw [optCase_none, optCase_some, get_put]
        split
        · simp
        · exact ih
theorem noneAt_get {t : Tr AObj} {base : Nat} : ∀ {n m : Nat}, noneAt t base n = true → m < n → t.get (base + m) = none
  | n + 1, m, e, hm => by
    have e' : optCase (t.get (base + n)) (noneAt t base n) (fun _ => false) = true := e
    cases h : t.get (base + n) with
    | some _ => rw [h] at e'; cases e'
    | none =>
      rw [h] at e'
      by_cases em : m = n
      · subst em; exact h
      · exact noneAt_get e' (by omega)
end Go.Proofs.Ytegkgfiaegpihaa
