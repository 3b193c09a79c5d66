/- Regions whose order is drawn: their form, and what the evaluator's trace says. Regions whose order is drawn: whatever the order is, they come to what the evaluator says. Regions whose order is drawn: the walk over all orders. Regions whose order is drawn: all of it. Code, functions, calls, ranges over functions: what the evaluator says is so. -/
import Derived.Test.YtdjkbpenppdnlaaDoorV10

import Derived.Scope

set_option linter.unusedSimpArgs false

set_option linter.unusedVariables false

namespace Go.Proofs.YtdjkbpenppdnlaaDoor

open Go

theorem allL_iff {α : Type} {f : α → Bool} : ∀ {l : List α}, allL f l = true ↔ ∀ x ∈ l, f x = true
  | [] => by simp [allL]
  | x :: l => by
    show cnd (f x) (allL f l) false = true ↔ _
    have ih := allL_iff (f := f) (l := l)
    cases h : f x with
    | true => rw [cnd_true, ih]; simp [h]
    | false => rw [cnd_false]; simp [h]
theorem anyL_iff {α : Type} {f : α → Bool} : ∀ {l : List α}, anyL f l = true ↔ ∃ x ∈ l, f x = true
  | [] => by simp [anyL]
  | x :: l => by
    show cnd (f x) true (anyL f l) = true ↔ _
    have ih := anyL_iff (f := f) (l := l)
    cases h : f x with
    | true => rw [cnd_true]; simp [h]
    | false => rw [cnd_false, ih]; simp [h]
theorem enum_get {α : Type} : ∀ (l : List α) (i k : Nat), (enum l i)[k]? = (l[k]?).map fun x => (i + k, x)
  | [], i, k => by show ([] : List (Nat × α))[k]? = _; simp
  | x :: l, i, 0 => by show ((i, x) :: enum l (i + 1))[0]? = _; simp
  | x :: l, i, k + 1 => by
    show ((i, x) :: enum l (i + 1))[k + 1]? = _
    rw [List.getElem?_cons_succ, enum_get l (i + 1) k, List.getElem?_cons_succ, Nat.add_right_comm]
    rfl
theorem mem_enum {α : Type} {l : List α} {k : Nat} {x : α} (h : l[k]? = some x) : (k, x) ∈ enum l 0 := by
  have := enum_get l 0 k
  rw [h] at this
  simp at this
  exact List.mem_of_getElem? this
theorem of_mem_enum {α : Type} {l : List α} {p : Nat × α} (h : p ∈ enum l 0) : l[p.1]? = some p.2 := by
  obtain ⟨k, hk⟩ := List.getElem?_of_mem h
  rw [enum_get] at hk
  cases hx : l[k]? with
  | none => rw [hx] at hk; cases hk
  | some x => rw [hx] at hk; simp at hk; subst hk; exact hx

theorem bit_iff {bt : Tr Nat} {i j : Nat} : bit bt i j = true ↔ ∃ m, bt.get i = some m ∧ m.testBit j = true := by
  unfold bit
  cases h : bt.get i with
  | none => simp [optCase]
  | some m =>
    simp only [optCase_some, Option.some.injEq]
    have : Nat.beq (Nat.land (Nat.shiftRight m j) 1) 1 = m.testBit j := by
      rw [Nat.testBit_eq_decide_div_mod_eq]
      have h1 : Nat.land (Nat.shiftRight m j) 1 = m / 2 ^ j % 2 := by
        show (m >>> j) &&& 1 = _
        rw [Nat.and_one_is_mod, Nat.shiftRight_eq_div_pow]
      rw [h1]
      by_cases h2 : m / 2 ^ j % 2 = 1
      · rw [h2]; rfl
      · rw [beq_no h2]; simp [h2]
    rw [this]
    exact ⟨fun h => ⟨m, rfl, h⟩, fun ⟨m', e, h⟩ => e ▸ h⟩
theorem edgeBits_step {bt : Tr Nat} {j : Nat} : ∀ {es : List Edge}, (edgeBits bt es).testBit j = true → ∃ e ∈ es, Region.binds .any e = true ∧ (j = e.on ∨ bit bt e.on j = true)
  | [], h => by have h' : Nat.testBit 0 j = true := h; simp at h'
  | e :: es, h => by
    have h' : (cnd (Region.binds .any e) (Nat.lor (Nat.lor (Nat.shiftLeft 1 e.on) (optOr (bt.get e.on) 0)) (edgeBits bt es)) (edgeBits bt es)).testBit j = true := h
    have rec_ : (edgeBits bt es).testBit j = true → ∃ e' ∈ e :: es, Region.binds .any e' = true ∧ (j = e'.on ∨ bit bt e'.on j = true) := fun h => by
      obtain ⟨e', h1, h2⟩ := edgeBits_step h
      exact ⟨e', List.mem_cons_of_mem _ h1, h2⟩
    cases hb : Region.binds .any e with
    | false => rw [hb, cnd_false] at h'; exact rec_ h'
    | true =>
      rw [hb, cnd_true] at h'
      have h2 : ((1 <<< e.on ||| optOr (bt.get e.on) 0) ||| edgeBits bt es).testBit j = true := h'
      rw [Nat.testBit_or, Nat.testBit_or] at h2
      simp only [Bool.or_eq_true] at h2
      rcases h2 with (h2 | h2) | h2
      · refine ⟨e, List.mem_cons_self .., hb, .inl ?_⟩
        rw [Nat.one_shiftLeft, Nat.testBit_two_pow] at h2
        simpa [eq_comm] using h2
      · refine ⟨e, List.mem_cons_self .., hb, .inr (bit_iff.2 ?_)⟩
        cases hg : bt.get e.on with
        | none => rw [hg] at h2; simp [optOr] at h2
        | some m => rw [hg] at h2; exact ⟨m, rfl, h2⟩
      · exact rec_ h2
theorem bitsOf_step : ∀ (l : List Oper) (i : Nat) (bt : Tr Nat), (∀ k, i ≤ k → bt.get k = none) →
    (∀ k j, k < i → bit bt k j = true → bit (bitsOf l i bt) k j = true) ∧
    ∀ k j, bit (bitsOf l i bt) k j = true → (k < i ∧ bit bt k j = true) ∨ ∃ o, i ≤ k ∧ l[k - i]? = some o ∧ ∃ e ∈ o.after.toList, Region.binds .any e = true ∧ (j = e.on ∨ bit (bitsOf l i bt) e.on j = true)
  | [], i, bt, hn => by
    refine ⟨fun k j _ h => h, fun k j h => .inl ⟨?_, h⟩⟩
    have h' : bit bt k j = true := h
    obtain ⟨m, h1, _⟩ := bit_iff.1 h'
    rcases Nat.lt_or_ge k i with h2 | h2
    · exact h2
    · rw [hn k h2] at h1; cases h1
  | o :: l, i, bt, hn => by
    have e : bitsOf (o :: l) i bt = bitsOf l (i + 1) (bt.set i (edgeBits bt o.after.toList)) := rfl
    rw [e]
    have hn' : ∀ k, i + 1 ≤ k → (bt.set i (edgeBits bt o.after.toList)).get k = none := fun k hk => by
      rw [Tr.get_set, if_neg (by omega)]; exact hn k (by omega)
    obtain ⟨ih1, ih2⟩ := bitsOf_step l (i + 1) _ hn'
    have up : ∀ k j, k < i → bit bt k j = true → bit (bt.set i (edgeBits bt o.after.toList)) k j = true := fun k j hk h => by
      obtain ⟨m, h1, h2⟩ := bit_iff.1 h
      exact bit_iff.2 ⟨m, by rw [Tr.get_set, if_neg (by omega)]; exact h1, h2⟩
    refine ⟨fun k j hk h => ih1 k j (by omega) (up k j hk h), fun k j h => ?_⟩
    rcases ih2 k j h with ⟨h1, h2⟩ | ⟨o', h1, h2, h3⟩
    · obtain ⟨m, h3, h4⟩ := bit_iff.1 h2
      rw [Tr.get_set] at h3
      by_cases ek : k = i
      · subst ek
        rw [if_pos rfl] at h3; cases h3
        refine .inr ⟨o, Nat.le_refl _, by simp, ?_⟩
        obtain ⟨e', g1, g2, g3⟩ := edgeBits_step h4
        refine ⟨e', g1, g2, g3.imp id fun g => ?_⟩
        have hlt : e'.on < k := by
          rcases Nat.lt_or_ge e'.on k with h5 | h5
          · exact h5
          · obtain ⟨m', h6, _⟩ := bit_iff.1 g
            rw [hn _ h5] at h6; cases h6
        exact ih1 _ _ (by omega) (up _ _ hlt g)
      · rw [if_neg ek] at h3
        exact .inl ⟨by omega, bit_iff.2 ⟨m, h3, h4⟩⟩
    · exact .inr ⟨o', by omega, by rw [show k - i = (k - (i + 1)) + 1 by omega]; simpa using h2, h3⟩

/-- the form of a region -/
structure Form (ops : Array Oper) (bt : Tr Nat) : Prop where
  step : ∀ i j, bit bt i j = true → ∃ o, ops[i]? = some o ∧ ∃ e ∈ o.after, Region.binds .any e = true ∧ (j = e.on ∨ bit bt e.on j = true)
  back : ∀ i o, ops[i]? = some o → ∀ e ∈ o.after, Region.binds .any e = true → e.on < i
  apart : ∀ (i j : Nat) (p q : Oper), ops[i]? = some p → ops[j]? = some q → j < i → ∀ t, p.dst = some t → q.dst ≠ some t
  see : ∀ (i j : Nat) (p q : Oper), ops[i]? = some p → ops[j]? = some q → j < i → bit bt i j = true ∨ ((∀ t, q.dst = some t → looks ops.toList p (some t) = false) ∧ (∀ t, p.dst = some t → looks ops.toList q (some t) = false) ∧ (isAct p = true → isAct q = false))
theorem optEq_iff {a b : Option Nat} : optEq a b = true ↔ ∃ t, a = some t ∧ b = some t := by
  cases a <;> cases b <;> simp [optEq, optCase]
  exact eq_comm
theorem form_of {ops : Array Oper} (h : formOk ops.toList (bitsOf ops.toList 0 .leaf) = true) : Form ops (bitsOf ops.toList 0 .leaf) := by
  have hp : ∀ i o, ops[i]? = some o → _ := fun i o hi => allL_iff.1 h (i, o) (mem_enum (by simpa using hi))
  have hpair : ∀ (i j : Nat) (p q : Oper), ops[i]? = some p → ops[j]? = some q → j < i → optEq p.dst q.dst = false ∧ (bit (bitsOf ops.toList 0 .leaf) i j = true ∨ (looks ops.toList p q.dst = false ∧ looks ops.toList q p.dst = false ∧ (isAct p = true → isAct q = false))) := by
    intro i j p q hi hj hlt
    rcases cnd_of (hp i p hi) with ⟨_, h2⟩ | ⟨_, h2⟩
    · have h3 := allL_iff.1 h2 (j, q) (mem_enum (by simpa using hj))
      rcases cnd_of h3 with ⟨_, h4⟩ | ⟨h4, _⟩
      · rcases cnd_of h4 with ⟨_, h5⟩ | ⟨h5, h6⟩
        · cases h5
        · refine ⟨h5, ?_⟩
          rcases cnd_of h6 with ⟨h7, _⟩ | ⟨_, h7⟩
          · exact .inl h7
          · right
            rcases cnd_of h7 with ⟨_, h8⟩ | ⟨h8, h9⟩
            · cases h8
            · rcases cnd_of h9 with ⟨_, h10⟩ | ⟨h10, h11⟩
              · cases h10
              · refine ⟨h8, h10, fun hact => ?_⟩
                rcases cnd_of h11 with ⟨_, h12⟩ | ⟨h12, _⟩
                · simpa using h12
                · have : isAct p = false := h12
                  rw [this] at hact; cases hact
      · have := ble_no h4; exfalso; simp at this; omega
    · cases h2
  constructor
  · intro i j hb
    rcases (bitsOf_step ops.toList 0 .leaf (fun _ _ => rfl)).2 i j hb with ⟨h1, _⟩ | ⟨o, _, h1, e, h2, h3⟩
    · omega
    · exact ⟨o, by simpa using h1, e, by simpa using h2, h3⟩
  · intro i o hi e he hb
    rcases cnd_of (hp i o hi) with ⟨h1, _⟩ | ⟨_, h2⟩
    · have h3 := allL_iff.1 h1 e (by simpa using he)
      rw [hb, cnd_true] at h3
      have := ble_le h3; omega
    · cases h2
  · intro i j p q hi hj hlt t ht hq
    have := (hpair i j p q hi hj hlt).1
    rw [optEq_iff.2 ⟨t, ht, hq⟩] at this; cases this
  · intro i j p q hi hj hlt
    refine (hpair i j p q hi hj hlt).2.imp id fun ⟨h1, h2, h3⟩ => ⟨fun t ht => by rw [← ht]; exact h1, fun t ht => by rw [← ht]; exact h2, h3⟩

/-- sets of operations that hold what each of theirs waits for -/
def Shut (ops : Array Oper) (L : Nat → Bool) : Prop := ∀ i o, ops[i]? = some o → L i = true → ∀ e ∈ o.after, Region.binds .any e = true → L e.on = true
section

variable {ops : Array Oper} {bt : Tr Nat} {L : Nat → Bool}

theorem Shut.bit (hs : Shut ops L) (f : Form ops bt) : ∀ i, L i = true → ∀ j, bit bt i j = true → L j = true := by
  intro i
  induction i using Nat.strongRecOn with
  | _ i ih =>
    intro hi j hb
    obtain ⟨o, h1, e, h2, h3, h4⟩ := f.step i j hb
    have he := hs i o h1 hi e h2 h3
    rcases h4 with rfl | h4
    · exact he
    · exact ih e.on (f.back i o h1 e h2 h3) he j h4
theorem Shut.ready (hs : Shut ops L) (f : Form ops bt) {i : Nat} {o : Oper} (ho : ops[i]? = some o) (hr : ∀ e ∈ o.after, Region.binds .any e = true → L e.on = true) {j : Nat} (hb : Go.Proofs.YtdjkbpenppdnlaaDoor.bit bt i j = true) : L j = true := by
  obtain ⟨o', h1, e, h2, h3, h4⟩ := f.step i j hb
  rw [ho] at h1; cases h1
  have he := hr e h2 h3
  rcases h4 with rfl | h4
  · exact he
  · exact hs.bit f e.on he j h4
end

/-! the trace as functions of the place -/
def StepOk (P : Program) (call : CallA) (base : Nat) (ops : List Oper) (i : Nat) (o : Oper) (td : Todo) (T : TM) (h : AH) (ms : Tr AObj) (v : AV) (h' : AH) (ms' : Tr AObj) : Prop :=
  (wantA ops T o = true ∧ stepD P call base i o T h ms td = some (v, h', ms')) ∨ (wantA ops T o = false ∧ v = .undef ∧ h' = h ∧ ms' = ms)
theorem trace_funs {P : Program} {call : CallA} {sz : Nat} {ops : List Oper} {base : Nat} : ∀ (l : List (Oper × Todo)) (i : Nat) (T : TM) (h : AH) (ms : Tr AObj) (r : List (TM × AH × AV) × TM × AH × Tr AObj),
    traceD P call sz ops base l i T h ms = some r → ∃ (Tf : Nat → TM) (Hf : Nat → AH) (Vf : Nat → AV) (Mf : Nat → Tr AObj), Tf 0 = T ∧ Hf 0 = h ∧ Mf 0 = ms ∧ Tf l.length = r.2.1 ∧ Hf l.length = r.2.2.1 ∧ Mf l.length = r.2.2.2 ∧ r.1.length = l.length ∧
      ∀ j p, l[j]? = some p → r.1[j]? = some (Tf j, Hf j, Vf j) ∧ StepOk P call base ops (i + j) p.1 p.2 (Tf j) (Hf j) (Mf j) (Vf j) (Hf (j + 1)) (Mf (j + 1)) ∧ putA sz (Tf j) p.1.dst (Vf j) = some (Tf (j + 1))
  | [], i, T, h, ms, r, e => by
    cases (show some ([], T, h, ms) = some r from e)
    exact ⟨fun _ => T, fun _ => h, fun _ => .undef, fun _ => ms, rfl, rfl, rfl, rfl, rfl, rfl, rfl, fun j p hp => by simp at hp⟩
  | p :: l, i, T, h, ms, r, e => by
    obtain ⟨⟨v, h1, ms1⟩, e1, e2⟩ := ob_eq.1 (show ob (cnd (wantA ops T p.1) (stepD P call base i p.1 T h ms p.2) (some (.undef, h, ms))) _ = some r from e)
    obtain ⟨T1, e3, e4⟩ := ob_eq.1 e2
    obtain ⟨r1, e5, e6⟩ := ob_eq.1 e4
    cases e6
    obtain ⟨Tf, Hf, Vf, Mf, a1, a2, a3, a4, a5, a6, a7, a8⟩ := trace_funs l (i + 1) T1 h1 ms1 r1 e5
    refine ⟨fun j => Nat.casesOn j T Tf, fun j => Nat.casesOn j h Hf, fun j => Nat.casesOn j v Vf, fun j => Nat.casesOn j ms Mf, rfl, rfl, rfl, a4, a5, a6, by simp [a7], ?_⟩
    intro j q hq
    cases j with
    | zero =>
      simp at hq; subst hq
      refine ⟨rfl, ?_, ?_⟩
      · show StepOk P call base ops (i + 0) p.1 p.2 T h ms v (Hf 0) (Mf 0)
        rw [a2, a3]
        rcases cnd_of e1 with ⟨h1, h2⟩ | ⟨h1, h2⟩
        · exact .inl ⟨h1, h2⟩
        · cases h2; exact .inr ⟨h1, rfl, rfl, rfl⟩
      · show putA sz T p.1.dst v = some (Tf 0)
        rw [a1]; exact e3
    | succ j =>
      have := a8 j q (by simpa using hq)
      rw [show i + (j + 1) = i + 1 + j by omega]
      exact ⟨by simpa using this.1, this.2⟩
theorem todos_get {ops : List Oper} {l : List (Nat × Oper)} {bt : Tr Nat} : ∀ (m : List (Nat × Oper)) (k : Nat), (todosOf ops l bt m)[k]? = (m[k]?).map fun p => (p.2, todoOf ops l bt p.1 p.2 (kindOf p.2.op))
  | [], k => by show ([] : List (Oper × Todo))[k]? = _; simp
  | p :: m, 0 => rfl
  | p :: m, k + 1 => by
    show ((p.2, _) :: todosOf ops l bt m)[k + 1]? = _
    rw [List.getElem?_cons_succ, todos_get m k, List.getElem?_cons_succ]
theorem matA_get {ms : Tr AObj} {base : Nat} : ∀ {l : List Nat} {h : AH} {b : Nat} {o : AObj}, (matA ms base l h).objs.get b = some o → h.objs.get b = some o ∨ (h.objs.get b = none ∧ ∃ m ∈ l, b = base + m ∧ ms.get m = some o)
  | [], h, b, o, e => .inl e
  | m :: l, h, b, o, e => by
    have e' : (optCase ((matA ms base l h).objs.get (base + m)) (optCase (ms.get m) (matA ms base l h) fun o => (matA ms base l h).put (base + m) o) fun _ => matA ms base l h).objs.get b = some o := e
    have rec_ : (matA ms base l h).objs.get b = some o → h.objs.get b = some o ∨ (h.objs.get b = none ∧ ∃ m' ∈ m :: l, b = base + m' ∧ ms.get m' = some o) := fun e => by
      rcases matA_get e with h1 | ⟨h0, m', h1, h2⟩
      · exact .inl h1
      · exact .inr ⟨h0, m', List.mem_cons_of_mem _ h1, h2⟩
    cases h1 : (matA ms base l h).objs.get (base + m) with
    | some q => rw [h1, optCase_some] at e'; exact rec_ e'
    | none =>
      rw [h1, optCase_none] at e'
      cases h2 : ms.get m with
      | none => rw [h2, optCase_none] at e'; exact rec_ e'
      | some q =>
        rw [h2, optCase_some, get_put] at e'
        by_cases eb : b = base + m
        · subst eb
          rw [if_pos rfl] at e'
          cases h3 : h.objs.get (base + m) with
          | none => exact .inr ⟨rfl, m, List.mem_cons_self .., rfl, by rw [h2]; exact e'⟩
          | some q' =>
            exfalso
            have keep : ∀ (l : List Nat), (matA ms base l h).objs.get (base + m) ≠ none := by
              intro l
              induction l with
              | nil => show h.objs.get (base + m) ≠ none; rw [h3]; simp
              | cons k l ih =>
                show (optCase ((matA ms base l h).objs.get (base + k)) (optCase (ms.get k) (matA ms base l h) fun o => (matA ms base l h).put (base + k) o) fun _ => matA ms base l h).objs.get (base + m) ≠ none
                cases (matA ms base l h).objs.get (base + k) with
                | some _ => exact ih
                | none =>
                  cases ms.get k with
                  | none => exact ih
                  | some q2 =>
                    rw [optCase_none, optCase_some, get_put]
                    split
                    · simp
                    · exact ih
            exact keep l h1
        · rw [if_neg eb] at e'; exact rec_ e'
theorem matA_next {ms : Tr AObj} {base : Nat} : ∀ (l : List Nat) (h : AH), (matA ms base l h).next = h.next
  | [], h => rfl
  | m :: l, h => by
    show (optCase ((matA ms base l h).objs.get (base + m)) (optCase (ms.get m) (matA ms base l h) fun o => (matA ms base l h).put (base + m) o) fun _ => matA ms base l h).next = _
    have ih := matA_next (ms := ms) (base := base) l h
    cases (matA ms base l h).objs.get (base + m) with
    | some _ => exact ih
    | none =>
      cases ms.get m with
      | none => exact ih
      | some _ => exact ih
theorem matA_stay {ms : Tr AObj} {base : Nat} {b : Nat} : ∀ (l : List Nat) (h : AH), h.objs.get b ≠ none → (matA ms base l h).objs.get b ≠ none
  | [], h, e => e
  | m :: l, h, e => by
    show (optCase ((matA ms base l h).objs.get (base + m)) (optCase (ms.get m) (matA ms base l h) fun o => (matA ms base l h).put (base + m) o) fun _ => matA ms base l h).objs.get b ≠ none
    have ih := matA_stay (ms := ms) (base := base) l h e
    cases (matA ms base l h).objs.get (base + m) with
    | some _ => exact ih
    | none =>
      cases ms.get m with
      | none => exact ih
      | some q =>
        rw [optCase_none, optCase_some, get_put]
        split
        · simp
        · exact ih
theorem noneAt_get {t : Tr AObj} {base : Nat} : ∀ {n m : Nat}, noneAt t base n = true → m < n → t.get (base + m) = none
  | n + 1, m, e, hm => by
    have e' : optCase (t.get (base + n)) (noneAt t base n) (fun _ => false) = true := e
    cases h : t.get (base + n) with
    | some _ => rw [h] at e'; cases e'
    | none =>
      rw [h] at e'
      by_cases em : m = n
      · subst em; exact h
      · exact noneAt_get e' (by omega)
end Go.Proofs.YtdjkbpenppdnlaaDoor

namespace Go.Proofs.YtdjkbpenppdnlaaDoor

open Go

theorem kindOf_le (op : Op) : kindOf op ≤ 3 := by
  cases op <;> simp only [kindOf] <;> first | omega | skip
  all_goals
    rename_i c
    cases actCallee c.callee <;> simp [cnd]
theorem act_kind {o : Oper} : isAct o = true ↔ kindOf o.op = 3 := ⟨fun h => beq_eq h, fun h => beq_yes h⟩
theorem mem_mats {l : List (Nat × Oper)} {bt : Tr Nat} {i j m : Nat} (h : m ∈ matsOf l bt i j) : bit bt i m = true := by
  have key : ∀ (l' : List (Nat × Oper)) , m ∈ (List.rec (motive := fun _ => List Nat) [] (fun p _ ih =>
      cnd (Nat.beq (kindOf p.2.op) 2) (cnd (bit bt i p.1) (cnd (anyL (fun q : Nat × Oper => cnd (isAct q.2) (cnd (Nat.ble (Nat.succ q.1) j) (bit bt q.1 p.1) false) false) l) ih (p.1 :: ih)) ih) ih) l') → bit bt i m = true := by
    intro l'
    induction l' with
    | nil => intro h; cases h
    | cons p l' ih =>
      intro h
      cases h1 : Nat.beq (kindOf p.2.op) 2 with
      | false => simp only [h1, cnd_false] at h; exact ih h
      | true =>
        simp only [h1, cnd_true] at h
        cases h2 : bit bt i p.1 with
        | false => simp only [h2, cnd_false] at h; exact ih h
        | true =>
          simp only [h2, cnd_true] at h
          cases h3 : anyL (fun q : Nat × Oper => cnd (isAct q.2) (cnd (Nat.ble (Nat.succ q.1) j) (bit bt q.1 p.1) false) false) l with
          | true => simp only [h3, cnd_true] at h; exact ih h
          | false =>
            simp only [h3, cnd_false] at h
            rcases List.mem_cons.1 h with rfl | h
            · exact h2
            · exact ih h
  exact key l h
theorem mem_stages {ops : List Oper} {l : List (Nat × Oper)} {bt : Tr Nat} {i j : Nat} (h1 : j ≤ ops.length) (h2 : predAct ops j = true) (h3 : sameStage l i j = false) (h4 : stageOk l bt i j = true) :
    (j, matsOf l bt i j) ∈ stagesOf ops l bt i := by
  have key : ∀ (r : List Nat), j ∈ r → (j, matsOf l bt i j) ∈ (List.rec (motive := fun _ => List (Nat × List Nat)) [] (fun j _ ih =>
      cnd (predAct ops j) (cnd (sameStage l i j) ih (cnd (stageOk l bt i j) ((j, matsOf l bt i j) :: ih) ih)) ih) r) := by
    intro r
    induction r with
    | nil => intro h; cases h
    | cons x r ih =>
      intro h
      show (j, matsOf l bt i j) ∈ cnd (predAct ops x) (cnd (sameStage l i x) _ (cnd (stageOk l bt i x) ((x, matsOf l bt i x) :: _) _)) _
      rcases List.mem_cons.1 h with rfl | h
      · rw [h2, h3, h4, cnd_true, cnd_false, cnd_true]; exact List.mem_cons_self ..
      · have := ih h
        cases predAct ops x <;> cases sameStage l i x <;> cases stageOk l bt i x <;> simp only [cnd_true, cnd_false] <;> first | exact this | exact List.mem_cons_of_mem _ this
  refine key _ ?_
  rw [lenL_eq]
  simp; omega

theorem allEq_eq {α : Type} {f : α → α → Bool} (hf : ∀ a b, f a b = true → a = b) : ∀ {l m : List α}, allEq f l m = true → l = m
  | [], [], _ => rfl
  | [], _ :: _, h => by cases h
  | _ :: _, [], h => by cases h
  | x :: l, y :: m, h => by
    have h' : cnd (f x y) (allEq f l m) false = true := h
    rcases cnd_of h' with ⟨h1, h2⟩ | ⟨_, h2⟩
    · rw [hf x y h1, allEq_eq hf h2]
    · cases h2
theorem boolEq {a b : Bool} (h : cnd a b (!b) = true) : a = b := by cases a <;> cases b <;> first | rfl | cases h
theorem intEq_eq {a b : Int} (h : intEq a b = true) : a = b := by
  cases a <;> cases b <;> simp only [intEq] at h <;> first | cases h | skip
  · rw [beq_eq h]
  · rw [beq_eq h]
theorem cnd3 {a b : Bool} (h : cnd a b false = true) : a = true ∧ b = true := by cases a <;> cases b <;> first | exact ⟨rfl, rfl⟩ | cases h
theorem valEq0_eq {a b : Value} (h : valEq0 a b = true) : a = b := by
  unfold valEq0 at h
  split at h <;> first | rfl | cases h | skip
  · rw [boolEq h]
  · obtain ⟨h1, h2⟩ := cnd3 h
    rw [kindEq_eq h1, intEq_eq h2]
  · obtain ⟨h1, h2⟩ := cnd3 h
    rw [beq_eq h1, beq_eq h2]
theorem valEq_eq {a b : Value} (h : valEq a b = true) : a = b := by
  unfold valEq at h
  split at h
  · rename_i x y
    have := allEq_eq (fun _ _ => valEq0_eq) h
    congr 1; exact Array.ext' this
  · rename_i x y
    have := allEq_eq (fun _ _ => valEq0_eq) h
    congr 1; exact Array.ext' this
  · rename_i x y
    cases x with
    | mk x =>
      cases y with
      | mk y =>
        have h' : (x == y) = true := h
        rw [eq_of_beq h']
  · exact valEq0_eq h
theorem avEq0_eq {a b : AV} (h : avEq0 a b = true) : a = b := by
  unfold avEq0 at h
  split at h
  · rw [valEq_eq h]
  · obtain ⟨h1, h2⟩ := cnd3 h
    rw [beq_eq h1, beq_eq h2]
  · obtain ⟨h1, h2⟩ := cnd3 h
    obtain ⟨h3, h4⟩ := cnd3 h2
    obtain ⟨h5, h6⟩ := cnd3 h4
    obtain ⟨h7, h8⟩ := cnd3 h6
    rw [beq_eq h1, beq_eq h3, beq_eq h5, beq_eq h7, boolEq h8]
  · rw [beq_eq h]
  · rw [beq_eq h]
  · cases h
theorem avEq_eq {a b : AV} (h : avEq a b = true) : a = b := by
  unfold avEq at h
  split at h
  · rw [allEq_eq (fun _ _ => avEq0_eq) h]
  · obtain ⟨h1, h2⟩ := cnd3 h
    obtain ⟨h3, h4⟩ := cnd3 h2
    rw [beq_eq h1, allEq_eq (fun _ _ => avEq0_eq) h3, allEq_eq (fun _ _ => avEq0_eq) h4]
  · exact avEq0_eq h

theorem apureOp_free {P : Program} {ρ : Operand → AV} {h h' : AH} {t : TypeId} {op : Op} (hk : kindOf op = 0) : apureOp P ρ h t op = apureOp P ρ h' t op := by
  cases op <;> first | rfl | (simp only [kindOf] at hk; first | cases hk | skip)
  rename_i c
  unfold cnd at hk
  cases h1 : actCallee c.callee <;> rw [h1] at hk <;> cases hk

structure Trace (P : Program) (call : CallA) (sz : Nat) (ops : Array Oper) (bt : Tr Nat) (base : Nat) (Tf : Nat → TM) (Hf : Nat → AH) (Vf : Nat → AV) (Mf : Nat → Tr AObj) : Prop where
  form : Form ops bt
  m0 : Mf 0 = .leaf
  step : ∀ j o, ops[j]? = some o → StepOk P call base ops.toList j o (todoOf ops.toList (enum ops.toList 0) bt j o (kindOf o.op)) (Tf j) (Hf j) (Mf j) (Vf j) (Hf (j + 1)) (Mf (j + 1)) ∧ putA sz (Tf j) o.dst (Vf j) = some (Tf (j + 1))
  reads : ∀ j o, ops[j]? = some o → kindOf o.op = 1 → wantA ops.toList (Tf j) o = true → ∀ p ∈ stagesOf ops.toList (enum ops.toList 0) bt j,
    ∃ u, apureOp P (evO (Tf j)) (matA (Mf ops.size) base p.2 (Hf p.1)) o.type o.op = some u ∧ avEq u (Vf j) = true

section

variable {P : Program} {call : CallA} {sz : Nat} {ops : Array Oper} {bt : Tr Nat} {base : Nat} {Tf : Nat → TM} {Hf : Nat → AH} {Vf : Nat → AV} {Mf : Nat → Tr AObj}

theorem tat_put {T T' : TM} {d : Option Nat} {v : AV} (e : putA sz T d v = some T') (t : Nat) : tat T' t = if d = some t then v else tat T t := by
  cases d with
  | none => cases (show some T = some T' from e); simp
  | some q =>
    obtain ⟨_, e2⟩ := cnd_eq.1 (show cnd (Nat.ble (Nat.succ q) sz) (some (T.set q v)) none = some T' from e)
    cases e2
    rw [tat_set]
    by_cases h : t = q
    · subst h; simp
    · rw [if_neg h, if_neg (by intro h2; cases h2; exact h rfl)]
theorem getOp {j : Nat} (h : j < ops.size) : ∃ o, ops[j]? = some o := ⟨ops[j], Array.getElem?_eq_getElem h⟩
theorem Trace.tat_none (tr : Trace P call sz ops bt base Tf Hf Vf Mf) {t : Nat} : ∀ {i : Nat}, i ≤ ops.size → (∀ j o, j < i → ops[j]? = some o → o.dst ≠ some t) → tat (Tf i) t = tat (Tf 0) t
  | 0, _, _ => rfl
  | i + 1, hi, h => by
    obtain ⟨o, ho⟩ := getOp (ops := ops) (j := i) (by omega)
    rw [tat_put (tr.step i o ho).2, if_neg (h i o (by omega) ho), tr.tat_none (by omega) fun j o hj => h j o (by omega)]
theorem Trace.tat_dst (tr : Trace P call sz ops bt base Tf Hf Vf Mf) {t j : Nat} {o : Oper} (ho : ops[j]? = some o) (hd : o.dst = some t) : ∀ {i : Nat}, i ≤ ops.size → j < i → tat (Tf i) t = Vf j
  | i + 1, hi, h => by
    obtain ⟨o', ho'⟩ := getOp (ops := ops) (j := i) (by omega)
    rw [tat_put (tr.step i o' ho').2]
    by_cases e : j = i
    · subst e
      rw [ho] at ho'; cases ho'
      rw [if_pos hd]
    · rw [if_neg (fun h2 => tr.form.apart i j o' o ho' ho (by omega) t h2 hd), tr.tat_dst ho hd (by omega) (by omega)]
theorem Trace.h_succ (tr : Trace P call sz ops bt base Tf Hf Vf Mf) {j : Nat} {o : Oper} (ho : ops[j]? = some o) (ha : isAct o = false) : Hf (j + 1) = Hf j := by
  have hk : kindOf o.op ≠ 3 := fun h => by rw [act_kind.2 h] at ha; cases ha
  rcases (tr.step j o ho).1 with ⟨_, h1⟩ | ⟨_, _, h1, _⟩
  · have hle := kindOf_le o.op
    generalize hkk : kindOf o.op = kk at h1 hk hle
    match kk, h1, hk, hle with
    | 0, h1, _, _ =>
      obtain ⟨u, _, e2⟩ := ob_eq.1 (show ob (apureOp P (evO (Tf j)) (Hf j) o.type o.op) (fun v => some (v, Hf j, Mf j)) = _ from h1)
      exact (congrArg (fun q => q.2.1) (Option.some.inj e2)).symm
    | 1, h1, _, _ =>
      obtain ⟨u, _, e2⟩ := ob_eq.1 (show ob (apureOp P (evO (Tf j)) _ o.type o.op) (fun v => some (v, Hf j, Mf j)) = _ from h1)
      exact (congrArg (fun q => q.2.1) (Option.some.inj e2)).symm
    | 2, h1, _, _ =>
      obtain ⟨u, _, e2⟩ := ob_eq.1 (show ob (makerOp P (evO (Tf j)) (Nat.add base j) o.op) (fun q => some (q.1, Hf j, (Mf j).set j q.2)) = _ from h1)
      exact (congrArg (fun q => q.2.1) (Option.some.inj e2)).symm
    | 3, _, h, _ => exact absurd rfl h
  · exact h1
theorem Trace.h_const (tr : Trace P call sz ops bt base Tf Hf Vf Mf) {k : Nat} : ∀ {i : Nat}, i ≤ ops.size → k ≤ i → (∀ j o, k ≤ j → j < i → ops[j]? = some o → isAct o = false) → Hf i = Hf k
  | 0, _, hk, _ => by obtain rfl : k = 0 := by omega
                      rfl
  | i + 1, hi, hk, h => by
    by_cases e : k = i + 1
    · rw [e]
    · obtain ⟨o, ho⟩ := getOp (ops := ops) (j := i) (by omega)
      rw [tr.h_succ ho (h i o (by omega) (by omega) ho), tr.h_const (by omega) (by omega) fun j o h1 h2 => h j o h1 (by omega)]
/-- what the table of made blocks gets at one place -/
theorem Trace.m_succ (tr : Trace P call sz ops bt base Tf Hf Vf Mf) {j : Nat} {o : Oper} (ho : ops[j]? = some o) :
    Mf (j + 1) = Mf j ∨ ∃ obj, kindOf o.op = 2 ∧ wantA ops.toList (Tf j) o = true ∧ makerOp P (evO (Tf j)) (base + j) o.op = some (Vf j, obj) ∧ Mf (j + 1) = (Mf j).set j obj := by
  rcases (tr.step j o ho).1 with ⟨hw, h1⟩ | ⟨_, _, _, h1⟩
  · have hle := kindOf_le o.op
    generalize hkk : kindOf o.op = kk at h1 hle
    match kk, h1, hle with
    | 0, h1, _ =>
      obtain ⟨u, _, e2⟩ := ob_eq.1 (show ob (apureOp P (evO (Tf j)) (Hf j) o.type o.op) (fun v => some (v, Hf j, Mf j)) = _ from h1)
      exact .inl (congrArg (fun q => q.2.2) (Option.some.inj e2)).symm
    | 1, h1, _ =>
      obtain ⟨u, _, e2⟩ := ob_eq.1 (show ob (apureOp P (evO (Tf j)) _ o.type o.op) (fun v => some (v, Hf j, Mf j)) = _ from h1)
      exact .inl (congrArg (fun q => q.2.2) (Option.some.inj e2)).symm
    | 2, h1, _ =>
      obtain ⟨u, e1, e2⟩ := ob_eq.1 (show ob (makerOp P (evO (Tf j)) (Nat.add base j) o.op) (fun q => some (q.1, Hf j, (Mf j).set j q.2)) = _ from h1)
      have e3 := Option.some.inj e2
      have e4 : u.1 = Vf j := congrArg (fun q => q.1) e3
      have e5 : makerOp P (evO (Tf j)) (base + j) o.op = some (Vf j, u.2) := by rw [← e4]; exact e1
      exact .inr ⟨u.2, rfl, hw, e5, (congrArg (fun q => q.2.2) e3).symm⟩
    | 3, h1, _ =>
      obtain ⟨u, _, e2⟩ := ob_eq.1 (show ob (aactOp P (evO (Tf j)) _ o.op) (fun q => ob (nextA call q) fun r => some (r.1, r.2, Mf j)) = _ from h1)
      obtain ⟨u2, _, e3⟩ := ob_eq.1 e2
      exact .inl (congrArg (fun q => q.2.2) (Option.some.inj e3)).symm
  · left; exact h1
theorem Trace.m_none (tr : Trace P call sz ops bt base Tf Hf Vf Mf) : ∀ {i : Nat}, i ≤ ops.size → ∀ m, i ≤ m → (Mf i).get m = none
  | 0, _, m, _ => by rw [tr.m0]; rfl
  | i + 1, hi, m, hm => by
    obtain ⟨o, ho⟩ := getOp (ops := ops) (j := i) (by omega)
    have ih := tr.m_none (i := i) (by omega) m (by omega)
    rcases tr.m_succ ho with h | ⟨obj, _, _, _, h⟩
    · rw [h, ih]
    · rw [h, Tr.get_set, if_neg (by omega), ih]
theorem Trace.m_mono (tr : Trace P call sz ops bt base Tf Hf Vf Mf) {i m : Nat} {ob' : AObj} (h : (Mf i).get m = some ob') : ∀ {j : Nat}, j ≤ ops.size → i ≤ j → (Mf j).get m = some ob'
  | 0, _, hij => by obtain rfl : i = 0 := by omega
                    exact h
  | j + 1, hj, hij => by
    by_cases e : i = j + 1
    · rw [← e]; exact h
    · have ih := tr.m_mono h (j := j) (by omega) (by omega)
      obtain ⟨o, ho⟩ := getOp (ops := ops) (j := j) (by omega)
      rcases tr.m_succ ho with h2 | ⟨obj, _, _, _, h2⟩
      · rw [h2, ih]
      · rw [h2, Tr.get_set]
        by_cases em : m = j
        · subst em
          rw [tr.m_none (by omega) m (Nat.le_refl _)] at ih; cases ih
        · rw [if_neg em, ih]
theorem Trace.m_made (tr : Trace P call sz ops bt base Tf Hf Vf Mf) {m : Nat} {o : Oper} (ho : ops[m]? = some o) : ∀ {i : Nat}, i ≤ ops.size → ∀ {ob' : AObj}, (Mf i).get m = some ob' → kindOf o.op = 2 ∧ wantA ops.toList (Tf m) o = true ∧ makerOp P (evO (Tf m)) (base + m) o.op = some (Vf m, ob')
  | 0, _, ob', h => by rw [tr.m0] at h; cases h
  | i + 1, hi, ob', h => by
    obtain ⟨o', ho'⟩ := getOp (ops := ops) (j := i) (by omega)
    rcases tr.m_succ ho' with h2 | ⟨obj, k1, k2, k3, h2⟩
    · rw [h2] at h; exact tr.m_made ho (by omega) h
    · rw [h2, Tr.get_set] at h
      by_cases em : m = i
      · subst em
        rw [if_pos rfl] at h; cases h
        rw [ho] at ho'; cases ho'
        exact ⟨k1, k2, k3⟩
      · rw [if_neg em] at h; exact tr.m_made ho (by omega) h
end

end Go.Proofs.YtdjkbpenppdnlaaDoor

namespace Go.Proofs.YtdjkbpenppdnlaaDoor

open Go

/-- the memory, with what was made and is not laid into it yet -/
noncomputable def gL (H : AH) (MS : Tr AObj) (base : Nat) (L : Nat → Bool) (b : Nat) : Option AObj :=
  match H.objs.get b with
  | some o => some o
  | none => if base ≤ b ∧ L (b - base) = true then MS.get (b - base) else none
theorem gL_mem {H : AH} {MS : Tr AObj} {base : Nat} {L : Nat → Bool} {b : Nat} {o : AObj} (h : H.objs.get b = some o) : gL H MS base L b = some o := by simp [gL, h]
theorem gL_pend {H : AH} {MS : Tr AObj} {base : Nat} {L : Nat → Bool} {m : Nat} {o : AObj} (h : H.objs.get (base + m) = none) (hl : L m = true) (hm : MS.get m = some o) : gL H MS base L (base + m) = some o := by
  simp [gL, h, hl, hm]
theorem gL_cases {H : AH} {MS : Tr AObj} {base : Nat} {L : Nat → Bool} {b : Nat} {o : AObj} (h : gL H MS base L b = some o) :
    H.objs.get b = some o ∨ (H.objs.get b = none ∧ ∃ m, b = base + m ∧ L m = true ∧ MS.get m = some o) := by
  unfold gL at h
  split at h
  · rename_i q hq
    left; rw [hq]; exact h
  · rename_i hq
    right
    split at h
    · rename_i hc
      exact ⟨hq, b - base, by omega, hc.2, h⟩
    · cases h
theorem HRel.sub {P : Program} {ι : Nm} {w : World} {g g' : Nat → Option AObj} (hs : ∀ b o, g' b = some o → g b = some o) (h : HRel P ι g w) : HRel P ι g' w :=
  ⟨fun b o h1 h2 => h.obj b o (hs b o h1) h2, fun b b' o o' c c' h1 h2 h3 h4 => h.inj b b' o o' c c' (hs _ _ h1) h2 (hs _ _ h3) h4⟩
theorem Evo.sub {ι κ : Nm} {w w' : World} {g0 g g' : Nat → Option AObj} (hs : ∀ b o, g' b = some o → g b = some o) (h : Evo ι g0 w κ g w') : Evo ι g0 w κ g' w' :=
  ⟨h.le, h.size, h.frame, fun b o c h1 h2 h3 h4 => h.img b o c (hs _ _ h1) h2 h3 h4, h.os, h.tape, h.output⟩
/-- what the temporaries hold when some operations are done -/
structure TRelL (ops : Array Oper) (sz : Nat) (T0 : TM) (Vf : Nat → AV) (L : Nat → Bool) (κ : Nm) (a : Act) : Prop where
  size : a.tmps.size = sz
  done : ∀ j o t, ops[j]? = some o → o.dst = some t → L j = true → VRel κ (Vf j) (a.tmps.getD t undef)
  old : ∀ t, (∀ j o, ops[j]? = some o → o.dst = some t → L j = false) → VRel κ (tat T0 t) (a.tmps.getD t undef)
structure DInv (P : Program) (sz : Nat) (ops : Array Oper) (base : Nat) (T0 : TM) (Hf : Nat → AH) (Vf : Nat → AV) (MS : Tr AObj) (ι0 : Nm) (g0 : Nat → Option AObj) (w0 : World) (a0 : Act)
    (L : Nat → Bool) (k : Nat) (ι : Nm) (a : Act) (w : World) : Prop where
  tm : TRelL ops sz T0 Vf L ι a
  shut : Shut ops L
  acts : ∀ i o, ops[i]? = some o → isAct o = true → (L i = true ↔ i < k)
  kle : k ≤ ops.size
  kact : predAct ops.toList k = true
  hrel : HRel P ι (gL (Hf k) MS base L) w
  nok : NOk ι (Hf k).next w
  nx : base + ops.size ≤ (Hf k).next
  free : ∀ i, i < ops.size → L i = false → ι (base + i) = none
  nom : ∀ i, i < ops.size → L i = false → (Hf k).objs.get (base + i) = none
  evo : Evo ι0 g0 w0 ι (gL (Hf k) MS base L) w
  same : ∀ b, b < base → ι b = ι0 b
  keep : ∀ b, b < base → g0 b = none → (Hf k).objs.get b = none
  stay : ∀ b, g0 b ≠ none → (Hf k).objs.get b ≠ none
  defers : a.defers = a0.defers
def setL (L : Nat → Bool) (i : Nat) : Nat → Bool := fun j => if j = i then true else L j
theorem setL_same (L : Nat → Bool) (i : Nat) : setL L i i = true := if_pos rfl
theorem setL_other {L : Nat → Bool} {i j : Nat} (h : j ≠ i) : setL L i j = L j := if_neg h
theorem setL_up {L : Nat → Bool} {i j : Nat} (h : L j = true) : setL L i j = true := by unfold setL; split <;> simp_all
theorem setL_false {L : Nat → Bool} {i j : Nat} (h : setL L i j = false) : j ≠ i ∧ L j = false := by
  unfold setL at h
  split at h
  · cases h
  · rename_i hne; exact ⟨hne, h⟩

section

variable {P : Program} {call : CallA} {sz : Nat} {ops : Array Oper} {bt : Tr Nat} {base : Nat} {Tf : Nat → TM} {Hf : Nat → AH} {Vf : Nat → AV} {Mf : Nat → Tr AObj}

variable {ι0 ι κ : Nm} {g0 : Nat → Option AObj} {w0 w w' : World} {a0 a : Act} {L : Nat → Bool} {k i : Nat} {o : Oper} {Q : Exit → Act → World → Prop}

theorem lt_of_get (ho : ops[i]? = some o) : i < ops.size := (Array.getElem?_eq_some_iff.1 ho).1
/-- what a ready operation looks at -/
theorem look_rel (tr : Trace P call sz ops bt base Tf Hf Vf Mf) (tm : TRelL ops sz (Tf 0) Vf L ι a) (hs : Shut ops L) (ho : ops[i]? = some o) (hun : L i = false)
    (hr : ∀ e ∈ o.after, Region.binds .any e = true → L e.on = true) {t : Nat} (hl : looks ops.toList o (some t) = true) : VRel ι (tat (Tf i) t) (a.tmps.getD t undef) := by
  have hi := lt_of_get ho
  by_cases hex : ∃ (j : Nat) (o' : Oper), ops[j]? = some o' ∧ o'.dst = some t
  · obtain ⟨j, o', h1, h2⟩ := hex
    rcases Nat.lt_trichotomy j i with hlt | rfl | hgt
    · rcases tr.form.see i j o o' ho h1 hlt with hb | ⟨h3, _, _⟩
      · rw [tr.tat_dst h1 h2 (Nat.le_of_lt hi) hlt]
        exact tm.done j o' t h1 h2 (hs.ready tr.form ho hr hb)
      · rw [h3 t h2] at hl; cases hl
    · rw [tr.tat_none (Nat.le_of_lt hi) fun j' o2 hj ho2 hd => tr.form.apart j j' o' o2 h1 ho2 hj t h2 hd]
      refine tm.old t fun j' o2 ho2 hd => ?_
      rcases Nat.lt_trichotomy j' j with h5 | rfl | h5
      · exact absurd hd (tr.form.apart j j' o' o2 h1 ho2 h5 t h2)
      · exact hun
      · exact absurd h2 (tr.form.apart j' j o2 o' ho2 h1 h5 t hd)
    · rcases tr.form.see j i o' o h1 ho hgt with hb | ⟨_, h3, _⟩
      · have hLj : L j = false := by
          cases e : L j with
          | false => rfl
          | true => rw [hs.bit tr.form j e i hb] at hun; cases hun
        rw [tr.tat_none (Nat.le_of_lt hi) fun j' o2 hj ho2 hd => tr.form.apart j j' o' o2 h1 ho2 (by omega) t h2 hd]
        refine tm.old t fun j' o2 ho2 hd => ?_
        rcases Nat.lt_trichotomy j' j with h5 | rfl | h5
        · exact absurd hd (tr.form.apart j j' o' o2 h1 ho2 h5 t h2)
        · exact hLj
        · exact absurd h2 (tr.form.apart j' j o2 o' ho2 h1 h5 t hd)
      · rw [h3 t h2] at hl; cases hl
  · rw [tr.tat_none (Nat.le_of_lt hi) fun j o2 _ ho2 hd => hex ⟨j, o2, ho2, hd⟩]
    exact tm.old t fun j o2 ho2 hd => absurd ⟨j, o2, ho2, hd⟩ hex
theorem looks_op {t : Nat} (h : Operand.tmp t ∈ o.op.operands) : looks ops.toList o (some t) = true := by
  show cnd (anyL (opTmp t) o.op.operands.toList) true _ = true
  rw [anyL_iff.2 ⟨.tmp t, by simpa using h, by show Nat.beq t t = true; exact Nat.beq_refl t⟩, cnd_true]
theorem looks_guard {g : Nat × Bool} {p : Oper} {d : Nat} (hg : o.guard = some g) (hp : ops[g.1]? = some p) (hd : p.dst = some d) : looks ops.toList o (some d) = true := by
  show cnd (anyL (opTmp d) o.op.operands.toList) true (optCase o.guard false fun g => optCase (nth ops.toList g.1) false fun p => optEq p.dst (some d)) = true
  have h1 : (optCase o.guard false fun g => optCase (nth ops.toList g.1) false fun p => optEq p.dst (some d)) = true := by
    rw [hg, optCase_some, nth_eq, Array.getElem?_toList, hp, optCase_some, hd]
    exact Nat.beq_refl d
  rw [h1]
  cases anyL (opTmp d) o.op.operands.toList <;> rfl
theorem ops_rel (tr : Trace P call sz ops bt base Tf Hf Vf Mf) (tm : TRelL ops sz (Tf 0) Vf L ι a) (hs : Shut ops L) (ho : ops[i]? = some o) (hun : L i = false)
    (hr : ∀ e ∈ o.after, Region.binds .any e = true → L e.on = true) : ∀ x ∈ o.op.operands, VRel ι (evO (Tf i) x) (a.eval x) := by
  intro x hx
  cases x with
  | tmp t => exact look_rel tr tm hs ho hun hr (looks_op hx)
  | const v => exact .flat v
  | global g => exact .flat _
  | func f => exact .flat _
theorem want_eq (tr : Trace P call sz ops bt base Tf Hf Vf Mf) (tm : TRelL ops sz (Tf 0) Vf L ι a) (hs : Shut ops L) (ho : ops[i]? = some o) (hun : L i = false)
    (hr : ∀ e ∈ o.after, Region.binds .any e = true → L e.on = true) : Region.wanted o (yielded ops a.tmps) = wantA ops.toList (Tf i) o :=
  wanted_of_val (ι := ι) fun g p d hg hp hd => look_rel tr tm hs ho hun hr (looks_guard hg hp hd)
theorem TRelL.put (tr : Trace P call sz ops bt base Tf Hf Vf Mf) (tm : TRelL ops sz (Tf 0) Vf L ι a) (hle : Nm.le ι κ) (ho : ops[i]? = some o) {v' : Value} (hv : VRel κ (Vf i) v') :
    TRelL ops sz (Tf 0) Vf (setL L i) κ (a.put o.dst v') := by
  have hput := (tr.step i o ho).2
  have hget : ∀ t, (a.put o.dst v').tmps.getD t undef = if o.dst = some t then v' else a.tmps.getD t undef := by
    intro t
    cases hd : o.dst with
    | none => simp [Act.put]
    | some d =>
      rw [hd] at hput
      obtain ⟨e1, _⟩ := cnd_eq.1 (show cnd (Nat.ble (Nat.succ d) sz) (some ((Tf i).set d (Vf i))) none = some (Tf (i + 1)) from hput)
      have hlt := ble_le e1
      by_cases et : d = t
      · subst et
        simp [Act.put, Array.getD_eq_getD_getElem?, tm.size]
        intro h; omega
      · simp [Act.put, Array.getD_eq_getD_getElem?, Array.getElem?_setIfInBounds, et]
  constructor
  · have : (a.put o.dst v').tmps.size = a.tmps.size := by cases o.dst <;> simp [Act.put]
    rw [this, tm.size]
  · intro j o' t h1 h2 h3
    rw [hget]
    by_cases e : j = i
    · subst e
      rw [ho] at h1; cases h1
      rw [if_pos h2]; exact hv
    · rw [setL_other e] at h3
      rw [if_neg]
      · exact (tm.done j o' t h1 h2 h3).mono hle
      · intro h4
        rcases Nat.lt_or_gt_of_ne e with h5 | h5
        · exact tr.form.apart i j o o' ho h1 h5 t h4 h2
        · exact tr.form.apart j i o' o h1 ho h5 t h2 h4
  · intro t h
    rw [hget, if_neg]
    · exact (tm.old t fun j o' h1 h2 => (setL_false (h j o' h1 h2)).2).mono hle
    · intro h4
      have := h i o ho h4
      rw [setL_same] at this; cases this
theorem Shut.set (hs : Shut ops L) (ho : ops[i]? = some o) (hr : ∀ e ∈ o.after, Region.binds .any e = true → L e.on = true) : Shut ops (setL L i) := by
  intro j o' h1 h2 e he hb
  by_cases ej : j = i
  · subst ej
    rw [ho] at h1; cases h1
    exact setL_up (hr e he hb)
  · rw [setL_other ej] at h2
    exact setL_up (hs j o' h1 h2 e he hb)
theorem mats_sub {H : AH} {MS MS' : Tr AObj} {mats : List Nat} (hm : ∀ m ∈ mats, L m = true) (hmono : ∀ m q, MS'.get m = some q → MS.get m = some q) :
    ∀ b q, (matA MS' base mats H).objs.get b = some q → gL H MS base L b = some q := by
  intro b q h
  rcases matA_get h with h1 | ⟨h0, m, h1, rfl, h2⟩
  · exact gL_mem h1
  · exact gL_pend h0 (hm m h1) (hmono m q h2)

/-- the step of an operation that does not act and makes nothing -/
theorem DInv.quiet (tr : Trace P call sz ops bt base Tf Hf Vf Mf) (d : DInv P sz ops base (Tf 0) Hf Vf (Mf ops.size) ι0 g0 w0 a0 L k ι a w) (ho : ops[i]? = some o) (hun : L i = false)
    (hr : ∀ e ∈ o.after, Region.binds .any e = true → L e.on = true) (hna : isAct o = false) (hms : (Mf ops.size).get i = none) {v' : Value} (hv : VRel ι (Vf i) v') :
    DInv P sz ops base (Tf 0) Hf Vf (Mf ops.size) ι0 g0 w0 a0 (setL L i) k ι (a.put o.dst v') w := by
  have hg : gL (Hf k) (Mf ops.size) base (setL L i) = gL (Hf k) (Mf ops.size) base L := by
    funext b
    unfold gL
    cases (Hf k).objs.get b with
    | some q => rfl
    | none =>
      by_cases e : b - base = i
      · rw [e, hms]; simp
      · simp only [setL_other e]
  exact {
    tm := d.tm.put tr (Nm.le_refl _) ho hv
    shut := d.shut.set ho hr
    acts := fun j o' h1 h2 => by
      by_cases e : j = i
      · subst e; rw [ho] at h1; cases h1; rw [hna] at h2; cases h2
      · rw [setL_other e]; exact d.acts j o' h1 h2
    kle := d.kle
    kact := d.kact
    hrel := by rw [hg]; exact d.hrel
    nok := d.nok
    nx := d.nx
    free := fun j h1 h2 => d.free j h1 (setL_false h2).2
    nom := fun j h1 h2 => d.nom j h1 (setL_false h2).2
    evo := by rw [hg]; exact d.evo
    same := d.same
    keep := d.keep
    stay := d.stay
    defers := by rw [put_defers]; exact d.defers }
/-- the step of a maker -/
theorem DInv.made (tr : Trace P call sz ops bt base Tf Hf Vf Mf) (d : DInv P sz ops base (Tf 0) Hf Vf (Mf ops.size) ι0 g0 w0 a0 L k ι a w) (ho : ops[i]? = some o) (hun : L i = false)
    (hr : ∀ e ∈ o.after, Region.binds .any e = true → L e.on = true) (hna : isAct o = false) {q : AObj} (hms : (Mf ops.size).get i = some q) {v' : Value} {C : Obj} {cap : Nat}
    (hv : VRel (ι.add (base + i) ⟨w.heap.size, cap⟩) (Vf i) v') (hq : ORel P (ι.add (base + i) ⟨w.heap.size, cap⟩) ⟨w.heap.size, cap⟩ q C) :
    DInv P sz ops base (Tf 0) Hf Vf (Mf ops.size) ι0 g0 w0 a0 (setL L i) k (ι.add (base + i) ⟨w.heap.size, cap⟩) (a.put o.dst v') (w.alloc C) := by
  have hi := lt_of_get ho
  have hb := d.free i hi hun
  have hle := Nm.le_add (⟨w.heap.size, cap⟩ : Blk) hb
  have hg : gL (Hf k) (Mf ops.size) base (setL L i) = fun b => if b = base + i then some q else gL (Hf k) (Mf ops.size) base L b := by
    funext b
    by_cases e : b = base + i
    · subst e
      rw [if_pos rfl]
      exact gL_pend (d.nom i hi hun) (setL_same _ _) hms
    · rw [if_neg e]
      unfold gL
      cases (Hf k).objs.get b with
      | some q => rfl
      | none =>
        by_cases e2 : base ≤ b
        · rw [setL_other (show b - base ≠ i by omega)]
        · simp [e2]
  exact {
    tm := d.tm.put tr hle ho hv
    shut := d.shut.set ho hr
    acts := fun j o' h1 h2 => by
      by_cases e : j = i
      · subst e; rw [ho] at h1; cases h1; rw [hna] at h2; cases h2
      · rw [setL_other e]; exact d.acts j o' h1 h2
    kle := d.kle
    kact := d.kact
    hrel := by rw [hg]; exact d.hrel.new hb hq
    nok := fun b c hc => by
      have hnx := d.nx
      by_cases e : b = base + i
      · subst e; rw [Nm.add_same] at hc; cases hc; simp; omega
      · rw [Nm.add_other _ e] at hc
        have := d.nok b c hc
        simp; omega
    nx := d.nx
    free := fun j h1 h2 => by
      have h3 := setL_false h2
      rw [Nm.add_other _ (show base + j ≠ base + i by have := h3.1; omega)]
      exact d.free j h1 h3.2
    nom := fun j h1 h2 => d.nom j h1 (setL_false h2).2
    evo := by rw [hg]; exact d.evo.trans (Evo.new hb)
    same := fun b hb2 => by rw [Nm.add_other _ (show b ≠ base + i by omega)]; exact d.same b hb2
    keep := d.keep
    stay := d.stay
    defers := by rw [put_defers]; exact d.defers }
/-- where an act stands when it is ready -/
theorem DInv.act_at (tr : Trace P call sz ops bt base Tf Hf Vf Mf) (d : DInv P sz ops base (Tf 0) Hf Vf (Mf ops.size) ι0 g0 w0 a0 L k ι a w) (ho : ops[i]? = some o) (hun : L i = false)
    (hr : ∀ e ∈ o.after, Region.binds .any e = true → L e.on = true) (hac : isAct o = true) : k ≤ i ∧ Hf i = Hf k ∧ (∀ j o', ops[j]? = some o' → isAct o' = true → (setL L i j = true ↔ j < i + 1)) := by
  have hki : k ≤ i := by
    rcases Nat.lt_or_ge i k with h | h
    · rw [(d.acts i o ho hac).2 h] at hun; cases hun
    · exact h
  have hi := lt_of_get ho
  have hbefore : ∀ j o', ops[j]? = some o' → isAct o' = true → j < i → L j = true := fun j o' h1 h2 h3 => by
    rcases tr.form.see i j o o' ho h1 h3 with hb | ⟨_, _, h4⟩
    · exact d.shut.ready tr.form ho hr hb
    · rw [h4 hac] at h2; cases h2
  refine ⟨hki, tr.h_const (Nat.le_of_lt hi) hki fun j o' h1 h2 h3 => ?_, fun j o' h1 h2 => ?_⟩
  · cases e : isAct o' with
    | false => rfl
    | true =>
      have := (d.acts j o' h3 e).1 (hbefore j o' h3 e h2)
      omega
  · rcases Nat.lt_trichotomy j i with h | rfl | h
    · exact ⟨fun _ => by omega, fun _ => setL_up (hbefore j o' h1 h2 h)⟩
    · exact ⟨fun _ => by omega, fun _ => setL_same _ _⟩
    · refine ⟨fun h3 => ?_, fun h3 => by omega⟩
      rw [setL_other (by omega)] at h3
      rcases tr.form.see j i o' o h1 ho h with hb | ⟨_, _, h4⟩
      · rw [d.shut.bit tr.form j h3 i hb] at hun; cases hun
      · rw [h4 h2] at hac; cases hac
theorem predAct_succ (ho : ops[i]? = some o) (hac : isAct o = true) : predAct ops.toList (i + 1) = true := by
  show optCase (nth ops.toList i) false isAct = true
  rw [nth_eq, Array.getElem?_toList, ho]
  exact hac
/-- an act that is not wanted -/
theorem DInv.skip (tr : Trace P call sz ops bt base Tf Hf Vf Mf) (d : DInv P sz ops base (Tf 0) Hf Vf (Mf ops.size) ι0 g0 w0 a0 L k ι a w) (ho : ops[i]? = some o) (hun : L i = false)
    (hr : ∀ e ∈ o.after, Region.binds .any e = true → L e.on = true) (hac : isAct o = true) (hms : (Mf ops.size).get i = none) (hH : Hf (i + 1) = Hf i) {v' : Value} (hv : VRel ι (Vf i) v') :
    DInv P sz ops base (Tf 0) Hf Vf (Mf ops.size) ι0 g0 w0 a0 (setL L i) (i + 1) ι (a.put o.dst v') w := by
  obtain ⟨hki, hHk, hacts⟩ := d.act_at tr ho hun hr hac
  have hi := lt_of_get ho
  have hH2 : Hf (i + 1) = Hf k := hH.trans hHk
  have hg : gL (Hf (i + 1)) (Mf ops.size) base (setL L i) = gL (Hf k) (Mf ops.size) base L := by
    rw [hH2]
    funext b
    unfold gL
    cases (Hf k).objs.get b with
    | some q => rfl
    | none =>
      by_cases e : b - base = i
      · rw [e, hms]; simp
      · simp only [setL_other e]
  exact {
    tm := d.tm.put tr (Nm.le_refl _) ho hv
    shut := d.shut.set ho hr
    acts := hacts
    kle := hi
    kact := predAct_succ ho hac
    hrel := by rw [hg]; exact d.hrel
    nok := by rw [hH2]; exact d.nok
    nx := by rw [hH2]; exact d.nx
    free := fun j h1 h2 => d.free j h1 (setL_false h2).2
    nom := fun j h1 h2 => by rw [hH2]; exact d.nom j h1 (setL_false h2).2
    evo := by rw [hg]; exact d.evo
    same := d.same
    keep := fun b h1 h2 => by rw [hH2]; exact d.keep b h1 h2
    stay := fun b h1 => by rw [hH2]; exact d.stay b h1
    defers := by rw [put_defers]; exact d.defers }
/-- an act -/
theorem DInv.acted (tr : Trace P call sz ops bt base Tf Hf Vf Mf) (d : DInv P sz ops base (Tf 0) Hf Vf (Mf ops.size) ι0 g0 w0 a0 L k ι a w) (ho : ops[i]? = some o) (hun : L i = false)
    (hr : ∀ e ∈ o.after, Region.binds .any e = true → L e.on = true) (hac : isAct o = true) (hms : (Mf ops.size).get i = none) {mats : List Nat} (hmats : ∀ m ∈ mats, L m = true) {MS' : Tr AObj} (hmono : ∀ m q, MS'.get m = some q → (Mf ops.size).get m = some q)
    (out : Out P ι (matA MS' base mats (Hf k)) w κ (Hf (i + 1)) w') {v' : Value} (hv : VRel κ (Vf i) v') :
    DInv P sz ops base (Tf 0) Hf Vf (Mf ops.size) ι0 g0 w0 a0 (setL L i) (i + 1) κ (a.put o.dst v') w' := by
  obtain ⟨hki, hHk, hacts⟩ := d.act_at tr ho hun hr hac
  have hi := lt_of_get ho
  have hsub := mats_sub (base := base) (H := Hf k) (MS := Mf ops.size) hmats hmono
  have hnx : (matA MS' base mats (Hf k)).next = (Hf k).next := matA_next mats (Hf k)
  -- what is made and not laid into the memory is left alone
  have pend : ∀ {b q}, (Hf (i + 1)).objs.get b = none → (∃ m, b = base + m ∧ setL L i m = true ∧ (Mf ops.size).get m = some q) → (matA MS' base mats (Hf k)).objs.get b = none ∧ gL (Hf k) (Mf ops.size) base L b = some q := by
    rintro b q h1 ⟨m, rfl, h3, h4⟩
    have h5 : (matA MS' base mats (Hf k)).objs.get (base + m) = none := by
      cases e : (matA MS' base mats (Hf k)).objs.get (base + m) with
      | none => rfl
      | some q' => exact absurd h1 (out.stay _ (by rw [e]; simp))
    have h6 : (Hf k).objs.get (base + m) = none := by
      cases e : (Hf k).objs.get (base + m) with
      | none => rfl
      | some q' => exact absurd h5 (matA_stay mats (Hf k) (by rw [e]; simp))
    have h7 : L m = true := by
      by_cases em : m = i
      · subst em; rw [hms] at h4; cases h4
      · rwa [setL_other em] at h3
    exact ⟨h5, gL_pend h6 h7 h4⟩
  have pfr : ∀ {b q c}, (matA MS' base mats (Hf k)).objs.get b = none → gL (Hf k) (Mf ops.size) base L b = some q → Live q → ι b = some c → ∀ b' q' c', (matA MS' base mats (Hf k)).objs.get b' = some q' → Live q' → ι b' = some c' → c'.id ≠ c.id := by
    intro b q c h1 h2 h3 h4 b' q' c' h5 h6 h7 h8
    have := d.hrel.inj b' b q' q c' c (hsub _ _ h5) h6 h2 h3 h7 h4 h8
    subst this
    rw [h1] at h5; cases h5
  have hevo : Evo ι (gL (Hf k) (Mf ops.size) base L) w κ (gL (Hf (i + 1)) (Mf ops.size) base (setL L i)) w' := by
    refine ⟨out.evo.le, out.evo.size, fun j hj hno => out.evo.frame j hj fun b q c h1 h2 h3 => hno b q c (hsub _ _ h1) h2 h3, ?_, out.evo.os, out.evo.tape, out.evo.output⟩
    intro b q c h1 h2 h3 h4
    rcases gL_cases h1 with h5 | ⟨h5, h6⟩
    · obtain ⟨b0, o0, c0, e1, e2, e3, e4⟩ := out.evo.img b q c h5 h2 h3 h4
      exact ⟨b0, o0, c0, hsub _ _ e1, e2, e3, e4⟩
    · obtain ⟨h7, h8⟩ := pend h5 h6
      obtain ⟨c', C, e1, e2, e3⟩ := d.hrel.obj b q h8 h2
      have := out.evo.le _ _ e1
      rw [h3] at this; cases this
      exact ⟨b, q, c, h8, ⟨h2, id⟩, e1, rfl⟩
  have hh : HRel P κ (gL (Hf (i + 1)) (Mf ops.size) base (setL L i)) w' := by
    constructor
    · intro b q h1 h2
      rcases gL_cases h1 with h5 | ⟨h5, h6⟩
      · exact out.hrel.obj b q h5 h2
      · obtain ⟨h7, h8⟩ := pend h5 h6
        obtain ⟨c, C, e1, e2, e3⟩ := d.hrel.obj b q h8 h2
        refine ⟨c, C, out.evo.le _ _ e1, ?_, e3.mono out.evo.le⟩
        rw [out.evo.frame c.id (Array.getElem?_eq_some_iff.1 e2).1 (fun b' q' c' x1 x2 x3 => pfr h7 h8 h2 e1 b' q' c' x1 x2.live x3), e2]
    · intro b1 b2 q1 q2 c1 c2 h1 h2 h3 h4 h5 h6 h7
      have back : ∀ {b q c}, (Hf (i + 1)).objs.get b = none → (∃ m, b = base + m ∧ setL L i m = true ∧ (Mf ops.size).get m = some q) → Live q → κ b = some c → ι b = some c ∧ c.id < w.heap.size ∧ (matA MS' base mats (Hf k)).objs.get b = none ∧ gL (Hf k) (Mf ops.size) base L b = some q := by
        intro b q c k1 k2 k3 k4
        obtain ⟨k5, k6⟩ := pend k1 k2
        obtain ⟨c', C, e1, e2, _⟩ := d.hrel.obj b q k6 k3
        have := out.evo.le _ _ e1
        rw [k4] at this; cases this
        exact ⟨e1, (Array.getElem?_eq_some_iff.1 e2).1, k5, k6⟩
      rcases gL_cases h1 with e1 | ⟨e1, e1'⟩
      · rcases gL_cases h3 with e2 | ⟨e2, e2'⟩
        · exact out.hrel.inj _ _ _ _ _ _ e1 h2 e2 h4 h5 h6 h7
        · obtain ⟨f1, f2, f3, f4⟩ := back e2 e2' h4 h6
          obtain ⟨b0, o0, c0, g1, g2, g3, g4⟩ := out.evo.img b1 q1 c1 e1 h2 h5 (by rw [h7]; exact f2)
          exact absurd (g4.trans h7) (pfr f3 f4 h4 f1 b0 o0 c0 g1 g2.1 g3)
      · obtain ⟨f1, f2, f3, f4⟩ := back e1 e1' h2 h5
        rcases gL_cases h3 with e2 | ⟨e2, e2'⟩
        · obtain ⟨b0, o0, c0, g1, g2, g3, g4⟩ := out.evo.img b2 q2 c2 e2 h4 h6 (by rw [← h7]; exact f2)
          exact absurd (g4.trans h7.symm) (pfr f3 f4 h2 f1 b0 o0 c0 g1 g2.1 g3)
        · obtain ⟨k1, k2, k3, k4⟩ := back e2 e2' h4 h6
          exact d.hrel.inj _ _ _ _ _ _ f4 h2 k4 h4 f1 k1 h7
  have hnext := out.next
  rw [hnx] at hnext
  exact {
    tm := d.tm.put tr out.evo.le ho hv
    shut := d.shut.set ho hr
    acts := hacts
    kle := hi
    kact := predAct_succ ho hac
    hrel := hh
    nok := out.nok
    nx := Nat.le_trans d.nx hnext
    free := fun j h1 h2 => by
      have hnx2 := d.nx
      rw [out.same (base + j) (by rw [hnx]; omega)]
      exact d.free j h1 (setL_false h2).2
    nom := fun j h1 h2 => by
      have hnx2 := d.nx
      refine out.keep (base + j) (by rw [hnx]; omega) ?_
      have h3 := (setL_false h2).2
      cases e : (matA MS' base mats (Hf k)).objs.get (base + j) with
      | none => rfl
      | some q =>
        rcases matA_get e with h4 | ⟨_, m, h4, h5, _⟩
        · rw [d.nom j h1 h3] at h4; cases h4
        · obtain rfl : j = m := by omega
          rw [hmats j h4] at h3; cases h3
    evo := d.evo.trans hevo
    same := fun b hb => by
      have hnx2 := d.nx
      rw [out.same b (by rw [hnx]; omega)]
      exact d.same b hb
    keep := fun b hb h1 => by
      have hnx2 := d.nx
      refine out.keep b (by rw [hnx]; omega) ?_
      cases e : (matA MS' base mats (Hf k)).objs.get b with
      | none => rfl
      | some q =>
        rcases matA_get e with h4 | ⟨_, m, h4, h5, _⟩
        · rw [d.keep b hb h1] at h4; cases h4
        · omega
    stay := fun b h1 => out.stay b (matA_stay mats (Hf k) (d.stay b h1))
    defers := by rw [put_defers]; exact d.defers }
end

end Go.Proofs.YtdjkbpenppdnlaaDoor

namespace Go.Proofs.YtdjkbpenppdnlaaDoor

open Go

section

variable {P : Program} {call : CallA} {sz : Nat} {ops : Array Oper} {bt : Tr Nat} {base : Nat} {Tf : Nat → TM} {Hf : Nat → AH} {Vf : Nat → AV} {Mf : Nat → Tr AObj}

variable {ι0 ι κ : Nm} {g0 : Nat → Option AObj} {w0 w w' : World} {a0 a : Act} {L : Nat → Bool} {k i : Nat} {o : Oper} {Q : Exit → Act → World → Prop} {r : Option Nat}

theorem sameStage_const (tr : Trace P call sz ops bt base Tf Hf Vf Mf) (hs : sameStage (enum ops.toList 0) i k = true) (hi : i ≤ ops.size) (hk : k ≤ ops.size) : Hf i = Hf k := by
  have key : ∀ j o', ops[j]? = some o' → isAct o' = true → (j < k → j < i) ∧ (¬ j < k → ¬ j < i) := by
    intro j o' h1 h2
    have h3 := allL_iff.1 hs (j, o') (mem_enum (by simpa using h1))
    simp only [h2, cnd_true] at h3
    rcases cnd_of h3 with ⟨h4, h5⟩ | ⟨h4, h5⟩
    · have a1 := ble_le h4; have a2 := ble_le h5
      exact ⟨fun _ => a2, fun h => absurd a1 h⟩
    · have a1 := ble_no h4
      have a2 : Nat.ble (j + 1) i = false := by simpa using h5
      have a3 := ble_no a2
      simp at a1 a3
      exact ⟨fun h => by omega, fun _ => by omega⟩
  rcases Nat.le_total k i with h | h
  · exact tr.h_const hi h fun j o' h1 h2 h3 => by
      cases e : isAct o' with
      | false => rfl
      | true => exact absurd h2 ((key j o' h3 e).2 (by omega))
  · exact (tr.h_const hk h fun j o' h1 h2 h3 => by
      cases e : isAct o' with
      | false => rfl
      | true => exact absurd ((key j o' h3 e).1 h2) (by omega)).symm
theorem not_made (tr : Trace P call sz ops bt base Tf Hf Vf Mf) (ho : ops[i]? = some o) (h : kindOf o.op ≠ 2 ∨ wantA ops.toList (Tf i) o = false) : (Mf ops.size).get i = none := by
  cases e : (Mf ops.size).get i with
  | none => rfl
  | some q =>
    obtain ⟨h1, h2, _⟩ := tr.m_made ho (Nat.le_refl _) e
    rcases h with h | h
    · exact absurd h1 h
    · rw [h2] at h; cases h
theorem hrel_empty : HRel P ι AH.empty.objs.get w := ⟨fun b o h1 _ => (by cases h1), fun b b' o o' c c' h1 => (by cases h1)⟩
/-- one operation that is ready -/
theorem draw_step (tr : Trace P call sz ops bt base Tf Hf Vf Mf) (hc : CallOk P call) (d : DInv P sz ops base (Tf 0) Hf Vf (Mf ops.size) ι0 g0 w0 a0 L k ι a w) (ho : ops[i]? = some o) (hun : L i = false)
    (hr : ∀ e ∈ o.after, Region.binds .any e = true → L e.on = true) {K : Act → World → Prop}
    (hK : ∀ k' κ a' w', DInv P sz ops base (Tf 0) Hf Vf (Mf ops.size) ι0 g0 w0 a0 (setL L i) k' κ a' w' → K a' w') : wpOpIn (FW r) 0 P ops Q i K a w := by
  have hi := lt_of_get ho
  have hops := ops_rel tr d.tm d.shut ho hun hr
  have hw := want_eq tr d.tm d.shut ho hun hr
  have hready : ∀ {j}, bit bt i j = true → L j = true := fun hb => d.shut.ready tr.form ho hr hb
  unfold wpOpIn
  rw [ho]
  simp only
  rw [hw]
  obtain ⟨hst, _⟩ := tr.step i o ho
  rcases hst with ⟨hwant, hst⟩ | ⟨hwant, hv, hH, _⟩
  · rw [if_pos hwant]
    have hle := kindOf_le o.op
    generalize hkk : kindOf o.op = kk at hst hle
    match kk, hst, hle with
    | 0, hst, _ =>
      obtain ⟨u, e1, e2⟩ := ob_eq.1 (show ob (apureOp P (evO (Tf i)) (Hf i) o.type o.op) (fun v => some (v, Hf i, Mf i)) = _ from hst)
      have e3 : u = Vf i := congrArg (fun q => q.1) (Option.some.inj e2)
      rw [e3, apureOp_free (h' := AH.empty) hkk] at e1
      have hemp : HRel P ι AH.empty.objs.get w := hrel_empty
      obtain ⟨v', g1, g2⟩ := apureOp_ok (ρ' := a.eval) e1 hemp hops
      refine wp_value (nd_pure e1) g1 ?_
      exact hK k ι _ w (d.quiet tr ho hun hr (by cases e : isAct o with | false => rfl | true => rw [act_kind.1 e] at hkk; cases hkk) (not_made tr ho (.inl (by rw [hkk]; decide))) g2)
    | 1, hst, _ =>
      obtain ⟨u, e1, e2⟩ := ob_eq.1 (show ob (apureOp P (evO (Tf i)) (matA (Mf i) base (matsOf (enum ops.toList 0) bt i i) (Hf i)) o.type o.op) (fun v => some (v, Hf i, Mf i)) = _ from hst)
      have e3 : u = Vf i := congrArg (fun q => q.1) (Option.some.inj e2)
      rw [e3] at e1
      have hna : isAct o = false := by cases e : isAct o with | false => rfl | true => rw [act_kind.1 e] at hkk; cases hkk
      have hms := not_made tr ho (.inl (show kindOf o.op ≠ 2 by rw [hkk]; decide))
      have hex : ∃ v', (execOp a.eval o).run P w = .ok (.value v') w ∧ VRel ι (Vf i) v' := by
        cases hs : sameStage (enum ops.toList 0) i k with
        | true =>
          have hH := sameStage_const tr hs (Nat.le_of_lt hi) d.kle
          rw [hH] at e1
          exact apureOp_ok (ρ' := a.eval) e1 (HRel.sub (mats_sub (fun m hm => hready (mem_mats hm)) fun m q hq => tr.m_mono hq (Nat.le_refl _) (Nat.le_of_lt hi)) d.hrel) hops
        | false =>
          have hso : stageOk (enum ops.toList 0) bt i k = true := by
            refine allL_iff.2 fun p hp => ?_
            have hp' : ops[p.1]? = some p.2 := by have := of_mem_enum hp; simpa using this
            cases hac : isAct p.2 with
            | false => rfl
            | true =>
              rw [cnd_true]
              have hact := d.acts p.1 p.2 hp' hac
              cases hb : Nat.ble (Nat.succ p.1) k with
              | true =>
                rw [cnd_true]
                have hL := hact.2 (ble_le hb)
                cases hbit : bit bt p.1 i with
                | false => rfl
                | true => rw [d.shut.bit tr.form p.1 hL i hbit] at hun; cases hun
              | false =>
                rw [cnd_false]
                have hlt := ble_no hb
                cases hbit : bit bt i p.1 with
                | false => rfl
                | true => have := hact.1 (hready hbit); simp at hlt; omega
          obtain ⟨u2, f1, f2⟩ := tr.reads i o ho hkk hwant _ (mem_stages (by simpa using d.kle) d.kact hs hso)
          rw [avEq_eq f2] at f1
          exact apureOp_ok (ρ' := a.eval) f1 (HRel.sub (mats_sub (fun m hm => hready (mem_mats hm)) fun m q hq => hq) d.hrel) hops
      obtain ⟨v', g1, g2⟩ := hex
      refine wp_value (nd_pure e1) g1 ?_
      exact hK k ι _ w (d.quiet tr ho hun hr hna hms g2)
    | 2, hst, _ =>
      rcases tr.m_succ ho with hm | ⟨q, _, _, e1, e2⟩
      · exfalso
        obtain ⟨u, _, e2⟩ := ob_eq.1 (show ob (makerOp P (evO (Tf i)) (Nat.add base i) o.op) (fun q => some (q.1, Hf i, (Mf i).set i q.2)) = _ from hst)
        have e3 : (Mf i).set i u.2 = Mf (i + 1) := congrArg (fun q => q.2.2) (Option.some.inj e2)
        have h1 : ((Mf i).set i u.2).get i = none := by rw [e3, hm]; exact tr.m_none (Nat.le_of_lt hi) i (Nat.le_refl _)
        rw [Tr.get_set, if_pos rfl] at h1; cases h1
      · have hms : (Mf ops.size).get i = some q := tr.m_mono (i := i + 1) (by rw [e2, Tr.get_set, if_pos rfl]) (Nat.le_refl _) hi
        have hna : isAct o = false := by cases e : isAct o with | false => rfl | true => rw [act_kind.1 e] at hkk; cases hkk
        obtain ⟨v', C, cap, g1, g2, g3, g4⟩ := makerOp_ok (ρ' := a.eval) (w := w) e1 (d.free i hi hun) hops
        refine wp_value (nd_maker e1) g1 ?_
        exact hK k _ _ _ (d.made tr ho hun hr hna hms g2 g3)
    | 3, hst, _ =>
      obtain ⟨⟨n, h1⟩, e1, e2⟩ := ob_eq.1 (show ob (aactOp P (evO (Tf i)) (matA (Mf i) base (matsOf (enum ops.toList 0) bt i i) (Hf i)) o.op) (fun q => ob (nextA call q) fun r => some (r.1, r.2, Mf i)) = _ from hst)
      obtain ⟨⟨v, h2⟩, e3, e4⟩ := ob_eq.1 e2
      have e5 : v = Vf i := congrArg (fun q => q.1) (Option.some.inj e4)
      have e6 : h2 = Hf (i + 1) := congrArg (fun q => q.2.1) (Option.some.inj e4)
      have hac : isAct o = true := act_kind.2 hkk
      have hHk := (d.act_at tr ho hun hr hac).2.1
      rw [hHk] at e1
      have hmats : ∀ m ∈ matsOf (enum ops.toList 0) bt i i, L m = true := fun m hm => hready (mem_mats hm)
      have hmono : ∀ m q, (Mf i).get m = some q → (Mf ops.size).get m = some q := fun m q hq => tr.m_mono hq (Nat.le_refl _) (Nat.le_of_lt hi)
      refine act_wp hc e1 e3 (HRel.sub (mats_sub hmats hmono) d.hrel) (by rw [matA_next]; exact d.nok) hops fun κ v' w' out hv => ?_
      rw [e6] at out
      rw [e5] at hv
      exact hK (i + 1) κ _ w' (d.acted tr ho hun hr hac (not_made tr ho (.inl (by rw [hkk]; decide))) hmats hmono out hv)
  · rw [if_neg (by rw [hwant]; simp)]
    refine ⟨fun _ _ => trivial, ?_⟩
    have hms := not_made tr ho (.inr hwant)
    have hu : VRel ι (Vf i) undef := by rw [hv]; exact undef_rel
    cases hac : isAct o with
    | false => exact hK k ι _ w (d.quiet tr ho hun hr hac hms hu)
    | true => exact hK (i + 1) ι _ w (d.skip tr ho hun hr hac hms hH hu)

def listedL (listed : Array Bool) : Nat → Bool := fun i => listed.getD i false
theorem listedL_set (listed : Array Bool) (i : Nat) (hi : i < listed.size) : listedL (listed.setIfInBounds i true) = setL (listedL listed) i := by
  funext j
  unfold listedL setL
  rw [Array.getD_eq_getD_getElem?, Array.getElem?_setIfInBounds]
  by_cases e : j = i
  · subst e; simp [hi]
  · rw [if_neg (Ne.symm e), if_neg e]; simp [Array.getD_eq_getD_getElem?]
theorem mem_ready' {listed : Array Bool} (hsz : listed.size = ops.size) (h : i ∈ Region.ready .any ops listed) :
    ∃ o, ops[i]? = some o ∧ listedL listed i = false ∧ ∀ e ∈ o.after, Region.binds .any e = true → listedL listed e.on = true := by
  unfold Region.ready at h
  rw [List.mem_filter, Bool.and_eq_true] at h
  obtain ⟨h1, h2, h3⟩ := h
  have hi : i < ops.size := by simpa using h1
  obtain ⟨o, ho⟩ := getOp hi
  rw [ho] at h3
  simp only [Option.map_some, Option.getD_some] at h3
  refine ⟨o, ho, ?_, fun e he hb => ?_⟩
  · have h2' : listed.getD i true = false := by simpa using h2
    unfold listedL
    rw [Array.getD_eq_getD_getElem?] at h2' ⊢
    rw [Array.getElem?_eq_getElem (by omega)] at h2' ⊢
    exact h2'
  · have := (Array.all_eq_true_iff_forall_mem.1 h3) e he
    rw [hb] at this
    show listed.getD e.on false = true
    simpa using this
theorem all_listed (f : Form ops bt) {listed : Array Bool} (hsz : listed.size = ops.size) (h : Region.ready .any ops listed = []) : ∀ i, i < ops.size → listedL listed i = true := by
  intro i
  induction i using Nat.strongRecOn with
  | _ i ih =>
    intro hi
    cases e : listedL listed i with
    | true => rfl
    | false =>
      exfalso
      obtain ⟨o, ho⟩ := getOp hi
      have : i ∈ Region.ready .any ops listed := by
        unfold Region.ready
        rw [List.mem_filter, Bool.and_eq_true]
        refine ⟨by simpa using hi, ?_, ?_⟩
        · unfold listedL at e
          rw [Array.getD_eq_getD_getElem?, Array.getElem?_eq_getElem (by omega)] at e ⊢
          simpa using e
        · rw [ho]
          simp only [Option.map_some, Option.getD_some]
          refine Array.all_eq_true_iff_forall_mem.2 fun x hx => ?_
          cases hb : Region.binds .any x with
          | false => rfl
          | true =>
            have := ih x.on (f.back i o ho x hx hb) (Nat.lt_trans (f.back i o ho x hx hb) hi)
            simpa [listedL] using this
      rw [h] at this; cases this
def leftOver (l : List Bool) : Nat := l.countP fun b => !b
theorem leftOver_set {l : List Bool} {i : Nat} (hi : i < l.length) (h : l[i]? = some false) : leftOver (l.set i true) + 1 = leftOver l := by
  induction l generalizing i with
  | nil => simp at hi
  | cons x l ih =>
    cases i with
    | zero => simp at h; subst h; simp [leftOver]
    | succ i =>
      have := ih (i := i) (by simpa using hi) (by simpa using h)
      simp only [List.set_cons_succ, leftOver, List.countP_cons] at this ⊢
      omega
theorem leftOver_zero {l : List Bool} (h : leftOver l = 0) : ∀ i, i < l.length → l.getD i false = true := by
  intro i hi
  unfold leftOver at h
  rw [List.countP_eq_zero] at h
  have := h l[i] (List.getElem_mem hi)
  rw [List.getD_eq_getElem?_getD, List.getElem?_eq_getElem hi]
  simpa using this

theorem draw_all (tr : Trace P call sz ops bt base Tf Hf Vf Mf) (hc : CallOk P call)
    (hQ : ∀ L k ι a w, (∀ i, i < ops.size → L i = true) → DInv P sz ops base (Tf 0) Hf Vf (Mf ops.size) ι0 g0 w0 a0 L k ι a w → Q .normal a w) :
    ∀ (fuel : Nat) (listed : Array Bool) (k : Nat) (ι : Nm) (a : Act) (w : World), listed.size = ops.size → leftOver listed.toList ≤ fuel →
      DInv P sz ops base (Tf 0) Hf Vf (Mf ops.size) ι0 g0 w0 a0 (listedL listed) k ι a w → wpAnyIn (FW r) 0 P .any ops Q fuel listed a w
  | 0, listed, k, ι, a, w, hsz, hf, d => by
    have hall : ∀ i, i < ops.size → listedL listed i = true := fun i hi => by
      have := leftOver_zero (Nat.le_zero.1 hf) i (by simp; omega)
      unfold listedL
      simpa [Array.getD_eq_getD_getElem?, List.getD_eq_getElem?_getD] using this
    refine ⟨?_, hQ _ k ι a w hall d⟩
    cases hrd : Region.ready .any ops listed with
    | nil => rfl
    | cons i r =>
      obtain ⟨o, h1, h2, _⟩ := mem_ready' hsz (show i ∈ Region.ready .any ops listed by rw [hrd]; simp)
      rw [hall i (lt_of_get h1)] at h2; cases h2
  | fuel + 1, listed, k, ι, a, w, hsz, hf, d => by
    refine ⟨fun h => hQ _ k ι a w (all_listed tr.form hsz h) d, fun i hi => ?_⟩
    obtain ⟨o, h1, h2, h3⟩ := mem_ready' hsz hi
    have hlt := lt_of_get h1
    refine draw_step tr hc d h1 h2 h3 fun k' κ a' w' d' => ?_
    refine draw_all tr hc hQ fuel _ k' κ a' w' (by simp [hsz]) ?_ (by rw [listedL_set listed i (by omega)]; exact d')
    have hget : listed.toList[i]? = some false := by
      unfold listedL at h2
      rw [Array.getD_eq_getD_getElem?, Array.getElem?_eq_getElem (by omega)] at h2
      rw [Array.getElem?_toList, Array.getElem?_eq_getElem (by omega)]
      simpa using h2
    have := leftOver_set (l := listed.toList) (i := i) (by simp; omega) hget
    rw [Array.toList_setIfInBounds]
    omega
theorem evDraw_ok {T T' : TM} {h h' : AH} {id : Nat} (hm : P.follows .mixedOrders = true) (hc : CallOk P call) (e : evDraw P call sz ops.toList T h = some (T', h')) (ra : ARel ι sz T a) (hh : HRel P ι h.objs.get w) (hn : NOk ι h.next w)
    (hQ : ∀ κ a' w', Out P ι h w κ h' w' → ARel κ sz T' a' → a'.defers = a.defers → Q .normal a' w') : (Code.region id ops true).wpIn (FW r) 0 P Q a w := by
  obtain ⟨e1, e2⟩ := cnd_eq.1 e
  obtain ⟨pl, e3, e4⟩ := ob_eq.1 e2
  obtain ⟨⟨trl, T2, hz, msz⟩, e5, e6⟩ := ob_eq.1 e4
  obtain ⟨e7, e8⟩ := cnd_eq.1 e6
  cases e8
  obtain ⟨e9, e10⟩ := cnd_eq.1 (show cnd (formOk ops.toList (bitsOf ops.toList 0 .leaf)) (some _) none = some pl from e3)
  cases e10
  have form := form_of e9
  obtain ⟨Tf, Hf, Vf, Mf, t0, h0, m0, tn, hn', mn, htl, steps⟩ := trace_funs _ _ _ _ _ _ e5
  have hlen : (todosOf ops.toList (enum ops.toList 0) (bitsOf ops.toList 0 .leaf) (enum ops.toList 0)).length = ops.size := by
    have key : ∀ (m : List (Nat × Oper)), (todosOf ops.toList (enum ops.toList 0) (bitsOf ops.toList 0 .leaf) m).length = m.length := by
      intro m
      induction m with
      | nil => rfl
      | cons p m ih => exact congrArg (· + 1) ih
    have key2 : ∀ (l : List Oper) (i : Nat), (enum l i).length = l.length := by
      intro l
      induction l with
      | nil => intro i; rfl
      | cons p m ih => intro i; exact congrArg (· + 1) (ih (i + 1))
    rw [key, key2]; simp
  rw [hlen] at tn hn' mn htl
  have htd : ∀ j o, ops[j]? = some o → (todosOf ops.toList (enum ops.toList 0) (bitsOf ops.toList 0 .leaf) (enum ops.toList 0))[j]? = some (o, todoOf ops.toList (enum ops.toList 0) (bitsOf ops.toList 0 .leaf) j o (kindOf o.op)) := by
    intro j o ho
    rw [todos_get, enum_get, Array.getElem?_toList, ho]
    simp
  have tr : Trace P call sz ops (bitsOf ops.toList 0 .leaf) h.next Tf Hf Vf Mf := by
    refine ⟨form, m0, fun j o ho => ?_, fun j o ho hk hw p hp => ?_⟩
    · have := (steps j _ (htd j o ho)).2
      rw [Nat.zero_add] at this
      exact this
    · -- the check of the readings
      have hchk : ∀ (todo : List (Oper × Todo)) (m : List (TM × AH × AV)), checkD P ops.toList trl hz msz h.next todo m = true → ∀ (j : Nat) (p : Oper × Todo) (x : TM × AH × AV), todo[j]? = some p → m[j]? = some x → checkTodo P ops.toList trl hz msz h.next p.1 x p.2 = true := by
        intro todo
        induction todo with
        | nil => intro m _ j p x hp; simp at hp
        | cons q todo ih =>
          intro m hm j p x hp hx
          cases m with
          | nil => simp at hx
          | cons y m =>
            obtain ⟨h1, h2⟩ := cnd3 (show cnd (checkTodo P ops.toList trl hz msz h.next q.1 y q.2) (checkD P ops.toList trl hz msz h.next todo m) false = true from hm)
            cases j with
            | zero => simp at hp hx; subst hp hx; exact h1
            | succ j => exact ih m h2 j p x (by simpa using hp) (by simpa using hx)
      have h1 := hchk _ _ e7 j _ _ (htd j o ho) (steps j _ (htd j o ho)).1
      rw [hk] at h1
      have h2 : cnd (wantA ops.toList (Tf j) o) (readsOk P trl hz msz h.next o (Tf j) (Vf j) (stagesOf ops.toList (enum ops.toList 0) (bitsOf ops.toList 0 .leaf) j)) true = true := h1
      rw [hw, cnd_true] at h2
      have h3 := allL_iff.1 h2 p hp
      have hp1 : p.1 ≤ ops.size := by
        have key : ∀ (r : List Nat), p ∈ (List.rec (motive := fun _ => List (Nat × List Nat)) [] (fun j' _ ih =>
            cnd (predAct ops.toList j') (cnd (sameStage (enum ops.toList 0) j j') ih (cnd (stageOk (enum ops.toList 0) (bitsOf ops.toList 0 .leaf) j j') ((j', matsOf (enum ops.toList 0) (bitsOf ops.toList 0 .leaf) j j') :: ih) ih)) ih) r) → p.1 ∈ r := by
          intro r
          induction r with
          | nil => intro h; cases h
          | cons x r ih =>
            intro h
            have h' : p ∈ cnd (predAct ops.toList x) (cnd (sameStage (enum ops.toList 0) j x) _ (cnd (stageOk (enum ops.toList 0) (bitsOf ops.toList 0 .leaf) j x) ((x, matsOf (enum ops.toList 0) (bitsOf ops.toList 0 .leaf) j x) :: _) _)) _ := h
            cases h4 : predAct ops.toList x <;> cases h5 : sameStage (enum ops.toList 0) j x <;> cases h6 : stageOk (enum ops.toList 0) (bitsOf ops.toList 0 .leaf) j x <;> rw [h4, h5, h6] at h' <;> simp only [cnd_true, cnd_false] at h' <;>
              first
                | exact List.mem_cons_of_mem _ (ih h')
                | (rcases List.mem_cons.1 h' with h7 | h7
                   · rw [h7]; exact List.mem_cons_self ..
                   · exact List.mem_cons_of_mem _ (ih h7))
        have := key _ hp
        rw [lenL_eq] at this
        simp at this; omega
      have hmem : memAt trl hz p.1 = Hf p.1 := by
        unfold memAt
        rw [nth_eq]
        rcases Nat.lt_or_ge p.1 ops.size with h5 | h5
        · obtain ⟨o2, ho2⟩ := getOp h5
          have := (steps p.1 _ (htd p.1 o2 ho2)).1
          simp only at this
          rw [this, optCase_some]
        · have hnone : trl[p.1]? = none := by
            have hl : trl.length = ops.size := htl
            exact List.getElem?_eq_none (by omega)
          rw [hnone, optCase_none]
          have : p.1 = ops.size := by omega
          rw [this]; exact hn'.symm
      rw [hmem] at h3
      cases hv : apureOp P (evO (Tf j)) (matA msz h.next p.2 (Hf p.1)) o.type o.op with
      | none => rw [hv] at h3; cases h3
      | some u =>
        rw [hv, optCase_some] at h3
        refine ⟨u, ?_, h3⟩
        rw [mn]; exact hv
  have hlenL : lenL ops.toList = ops.size := by rw [lenL_eq]; simp
  have h0n : (Hf 0).next = h.next + ops.size := by rw [h0, ← hlenL]; rfl
  have h0o : (Hf 0).objs = h.objs := by rw [h0]
  have hL0 : ∀ i, listedL (Array.replicate ops.size false) i = false := fun i => by
    unfold listedL
    rw [Array.getD_eq_getD_getElem?, Array.getElem?_replicate]
    split <;> rfl
  have hsub0 : ∀ b q, gL (Hf 0) (Mf ops.size) h.next (listedL (Array.replicate ops.size false)) b = some q → h.objs.get b = some q := fun b q hb => by
    rcases gL_cases hb with h1 | ⟨_, m, _, h2, _⟩
    · rw [h0o] at h1; exact h1
    · rw [hL0] at h2; cases h2
  have d0 : DInv P sz ops h.next (Tf 0) Hf Vf (Mf ops.size) ι h.objs.get w a (listedL (Array.replicate ops.size false)) 0 ι a w.drew := {
    tm := ⟨ra.size, fun j o t _ _ hl => (by rw [hL0] at hl; cases hl), fun t _ => (by rw [t0]; exact ra.val t)⟩
    shut := fun i o _ hl => by rw [hL0] at hl; cases hl
    acts := fun i o _ _ => ⟨fun hl => (by rw [hL0] at hl; cases hl), fun hl => (by omega)⟩
    kle := Nat.zero_le _
    kact := rfl
    hrel := HRel.sub hsub0 hh.drew
    nok := fun b c hb => by have := hn b c hb; rw [h0n]; exact ⟨by omega, this.2⟩
    nx := by rw [h0n]; exact Nat.le_refl _
    free := fun i hi _ => by
      cases e : ι (h.next + i) with
      | none => rfl
      | some c => have := (hn _ _ e).1; omega
    nom := fun i hi _ => by rw [h0o]; exact noneAt_get e1 (by rw [hlenL]; exact hi)
    evo := Evo.sub hsub0 Evo.drew
    same := fun _ _ => rfl
    keep := fun b _ h1 => by rw [h0o]; exact h1
    stay := fun b h1 => by rw [h0o]; exact h1
    defers := rfl }
  refine wpIn_region_any hm ?_
  refine draw_all tr hc (fun L k κ a' w' hall d => ?_) ops.size (Array.replicate ops.size false) 0 ι a w.drew (by simp) (by simp [leftOver, List.countP_replicate]) d0
  have hk : Hf ops.size = Hf k := tr.h_const (Nat.le_refl _) d.kle fun j o h1 h2 h3 => by
    cases e : isAct o with
    | false => rfl
    | true => have := (d.acts j o h3 e).1 (hall j h2); omega
  have hhz : hz = Hf k := by rw [← hk]; exact hn'.symm
  have hmz : msz = Mf ops.size := mn.symm
  have hsub : ∀ b q, (matA msz h.next (restOf (enum ops.toList 0) (bitsOf ops.toList 0 .leaf)) hz).objs.get b = some q → gL (Hf k) (Mf ops.size) h.next L b = some q := by
    intro b q hb
    rw [hhz, hmz] at hb
    rcases matA_get hb with h1 | ⟨h1, m, _, rfl, h3⟩
    · exact gL_mem h1
    · refine gL_pend h1 (hall m ?_) h3
      rcases Nat.lt_or_ge m ops.size with h4 | h4
      · exact h4
      · rw [tr.m_none (Nat.le_refl _) m h4] at h3; cases h3
  have hnx : (matA msz h.next (restOf (enum ops.toList 0) (bitsOf ops.toList 0 .leaf)) hz).next = (Hf k).next := by rw [matA_next, hhz]
  refine hQ κ a' w' ⟨Evo.sub hsub d.evo, HRel.sub hsub d.hrel, by show NOk κ (matA msz h.next _ hz).next w'; rw [hnx]; exact d.nok, ?_, d.same, ?_, ?_⟩ ?_ d.defers
  · show h.next ≤ (matA msz h.next _ hz).next
    rw [hnx]
    have := d.nx; omega
  · intro b hb h1
    show (matA msz h.next _ hz).objs.get b = none
    cases e : (matA msz h.next (restOf (enum ops.toList 0) (bitsOf ops.toList 0 .leaf)) hz).objs.get b with
    | none => rfl
    | some q =>
      exfalso
      rcases matA_get e with h2 | ⟨_, m, _, h3, _⟩
      · rw [hhz, d.keep b hb h1] at h2; cases h2
      · omega
  · intro b h1
    exact matA_stay _ _ (by rw [hhz]; exact d.stay b h1)
  · refine ⟨d.tm.size, fun t => ?_⟩
    show VRel κ (tat T2 t) _
    have hT2 : T2 = Tf ops.size := tn.symm
    rw [hT2]
    by_cases hex : ∃ (j : Nat) (o : Oper), ops[j]? = some o ∧ o.dst = some t
    · obtain ⟨j, o, h1, h2⟩ := hex
      rw [tr.tat_dst h1 h2 (Nat.le_refl _) (lt_of_get h1)]
      exact d.tm.done j o t h1 h2 (hall j (lt_of_get h1))
    · rw [tr.tat_none (Nat.le_refl _) fun j o _ h1 h2 => hex ⟨j, o, h1, h2⟩]
      exact d.tm.old t fun j o h1 h2 => absurd ⟨j, o, h1, h2⟩ hex
end

end Go.Proofs.YtdjkbpenppdnlaaDoor

namespace Go.Proofs.YtdjkbpenppdnlaaDoor

open Go

section

variable {F : Fence} {n : Nat} {P : Program} {b : Frame} {a : Act} {k : List Item} {cs : List Frame} {w : World} {Q : Exit → Act → World → Prop}

theorem stepR_scope {c : Code} : step P (lone (b.atR a (.code (.scope c) :: k)) cs w) = .next (lone (b.atR a (.code c :: .inScope c :: k)) cs w) :=
  step_lone_go (by simp [stepG, stepG.exec, Frame.atR])
theorem stepR_inScope {c : Code} : step P (lone (b.atR a (.inScope c :: k)) cs w) = .next (lone (b.atR a k) cs w) :=
  step_lone_go (by simp [stepG, stepG.exec, Frame.atR])
theorem wpIn_scope {c : Code} (h : c.wpIn F n P (Exit.noGoto Q) a w) : (Code.scope c).wpIn F n P Q a w := by
  intro b k cs hro hb hr
  have h0 : (lone (b.atR a (.code (.scope c) :: k)) cs w).fenced P F := fenced_calm hb hr rfl
  obtain ⟨e, a₁, w₁, hq, harr⟩ := h b (.inScope c :: k) cs hro hb hr
  cases e with
  | normal => exact ⟨.normal, a₁, w₁, hq, .head h0 stepR_scope (StepsIn.trans harr (.one (fenced_calm hb hr rfl) stepR_inScope))⟩
  | exit id =>
    have hx : exitTo id (.inScope c :: k) = exitTo id k := by simp [exitTo]
    exact ⟨_, a₁, w₁, hq, fun k' hk => .head h0 stepR_scope (harr.1 k' (by rw [hx]; exact hk)),
      fun hr' hk => let ⟨k₁, h1, h2⟩ := harr.2 hr' (by rw [hx]; exact hk); ⟨k₁, h1, .head h0 stepR_scope h2⟩⟩
  | goto l => exact hq.elim
  | ret => exact ⟨_, a₁, w₁, hq, .of_steps (.one h0 stepR_scope) harr⟩
  | panic ch => exact ⟨_, a₁, w₁, hq, .of_steps (.one h0 stepR_scope) harr⟩
  | outgrown => exact ⟨_, a₁, w₁, hq, .of_steps (.one h0 stepR_scope) harr⟩
end

def toEx : AE → Exit
  | .normal => .normal
  | .exit id => .exit id
  | .goto l => .goto l
  | .ret => .ret
/-- the marks of loops that range over functions: their blocks are of no name -/
def mkD (k : Nat) : Deferred := { target := .collected k, args := #[] }
def Marks (B : Nat) (g : Nat → Option AObj) (ι : Nm) (w : World) (ds : List Deferred) : Prop :=
  ∃ ks : List Nat, ds = ks.map mkD ∧ ks.Nodup ∧ ∀ k ∈ ks, B ≤ k ∧ w.heap[k]? = some (.deferred (some [])) ∧ ∀ b o c, g b = some o → Live o → ι b = some c → c.id ≠ k
theorem Marks.nil {B : Nat} {g : Nat → Option AObj} {ι : Nm} {w : World} : Marks B g ι w [] := ⟨[], rfl, List.nodup_nil, fun k hk => by cases hk⟩
theorem Marks.step {B : Nat} {g g' : Nat → Option AObj} {ι κ : Nm} {w w' : World} {ds : List Deferred} (m : Marks B g ι w ds) (e : Evo ι g w κ g' w') : Marks B g' κ w' ds := by
  obtain ⟨ks, h1, h2, h3⟩ := m
  refine ⟨ks, h1, h2, fun k hk => ?_⟩
  obtain ⟨g1, g2, g3⟩ := h3 k hk
  have hlt := (Array.getElem?_eq_some_iff.1 g2).1
  refine ⟨g1, (e.frame k hlt fun b o c x1 x2 x3 => g3 b o c x1 x2.live x3).trans g2, fun b o c f1 f2 f3 f4 => ?_⟩
  obtain ⟨b0, o0, c0, q1, q2, q3, q4⟩ := e.img b o c f1 f2 f3 (f4 ▸ hlt)
  exact g3 b0 o0 c0 q1 q2.1 q3 (q4.trans f4)
/-- the frame of a round, and the name of its loop -/
def RR (ι : Nm) : Option Nat → Option Nat → Prop
  | none, none => True
  | some b, some l => ∃ c, ι b = some c ∧ c.id = l
  | _, _ => False
theorem RR.mono {ι κ : Nm} (h : Nm.le ι κ) : ∀ {rb r : Option Nat}, RR ι rb r → RR κ rb r
  | none, none, _ => trivial
  | some b, some l, ⟨c, h1, h2⟩ => ⟨c, h _ _ h1, h2⟩
  | none, some _, h => h.elim
  | some _, none, h => h.elim

section

variable {P : Program} {ι κ : Nm} {w w' : World} {h h' : AH} {sz : Nat} {T T' : TM} {a a' : Act} {Q : Exit → Act → World → Prop} {call : CallA} {N : Nat}

/-! blocks of no name, blocks that are no cells -/
theorem HRel.free {g : Nat → Option AObj} (hh : HRel P ι g w) {w' : World} (hs : ∀ b o c, g b = some o → Live o → ι b = some c → w'.heap[c.id]? = w.heap[c.id]?) : HRel P ι g w' := by
  refine ⟨fun b o h1 h2 => ?_, hh.inj⟩
  obtain ⟨c, C, e1, e2, e3⟩ := hh.obj b o h1 h2
  exact ⟨c, C, e1, (hs b o c h1 h2 e1).trans e2, e3⟩
theorem Out.allocFree (hh : HRel P ι h.objs.get w) (hn : NOk ι h.next w) (C : Obj) : Out P ι h w ι h (w.alloc C) := by
  refine ⟨⟨Nm.le_refl _, by simp, fun k hk _ => heap_alloc_old C hk, fun b o c h1 h2 h3 _ => ⟨b, o, c, h1, ⟨h2, id⟩, h3, rfl⟩, rfl, rfl, rfl⟩, hh.free fun b o c h1 h2 h3 => heap_alloc_old C (hh.lt h1 h2 h3), fun b c hb => ?_, Nat.le_refl _, fun _ _ => rfl, fun _ _ h => h, fun _ h => h⟩
  have := hn b c hb
  exact ⟨this.1, by simp; omega⟩
/-- a block of no name, that is behind w, is turned -/
theorem Out.putFree (o : Out P ι h w κ h' w') {k : Nat} (C : Obj) (hk : w.heap.size ≤ k) (hf : ∀ b o c, h'.objs.get b = some o → Live o → κ b = some c → c.id ≠ k) : Out P ι h w κ h' (w'.putObj k C) := by
  refine ⟨⟨o.evo.le, by simpa using o.evo.size, fun i hi hno => (World.putObj_heap_other (by omega)).trans (o.evo.frame i hi hno), o.evo.img, o.evo.os, o.evo.tape, o.evo.output⟩,
    o.hrel.free fun b q c h1 h2 h3 => World.putObj_heap_other (hf b q c h1 h2 h3), fun b c hb => ?_, o.next, o.same, o.keep, o.stay⟩
  have := o.nok b c hb
  exact ⟨this.1, by simpa using this.2⟩
/-- a named block is turned -/
theorem Out.turn (hh : HRel P ι h.objs.get w) (hn : NOk ι h.next w) {b : Nat} {c : Blk} {o o' : AObj} {C C' : Obj} (h1 : h.objs.get b = some o) (hl : Live o) (hmu : Mut o) (h2 : ι b = some c) (h3 : w.heap[c.id]? = some C) (h4 : Live o' → ORel P ι c o' C') :
    Out P ι h w ι (h.put b o') (w.putObj c.id C') := by
  have hlt := (Array.getElem?_eq_some_iff.1 h3).1
  refine ⟨?_, ?_, fun k d hk => ⟨(hn k d hk).1, by simpa using (hn k d hk).2⟩, Nat.le_refl _, fun _ _ => rfl, fun k hk e => by rw [get_put]; split <;> simp_all, fun k e => by rw [get_put]; split <;> simp_all⟩
  · rw [get_put_fn]
    refine ⟨Nm.le_refl _, by simp, fun k hk hno => World.putObj_heap_other (fun hid => hno b _ c h1 hmu h2 hid.symm), ?_, rfl, rfl, rfl⟩
    intro b' q c' k1 k2 k3 _
    by_cases eb : b' = b
    · subst eb; rw [h2] at k3; cases k3; exact ⟨_, _, _, h1, ⟨hl, fun _ => hmu⟩, h2, rfl⟩
    · simp only [if_neg eb] at k1; exact ⟨_, _, _, k1, ⟨k2, id⟩, k3, rfl⟩
  · rw [get_put_fn]
    constructor
    · intro b' q k1 k2
      by_cases eb : b' = b
      · subst eb
        simp only [if_true] at k1
        cases k1
        exact ⟨c, C', h2, World.putObj_heap_same hlt, h4 k2⟩
      · simp only [if_neg eb] at k1
        obtain ⟨c', C2, e1, e2, e3⟩ := hh.obj b' q k1 k2
        exact ⟨c', C2, e1, (World.putObj_heap_other (fun hid => eb (hh.inj _ _ _ _ _ _ k1 k2 h1 hl e1 h2 hid))).trans e2, e3⟩
    · intro b1 b2 o1 o2 c1 c2 k1 k2 k3 k4 k5 k6 k7
      have conv : ∀ {x : Nat} {q : AObj}, (if x = b then some o' else h.objs.get x) = some q → Live q → ∃ q', h.objs.get x = some q' ∧ Live q' := by
        intro x q hx ho
        by_cases ex : x = b
        · subst ex; exact ⟨_, h1, hl⟩
        · rw [if_neg ex] at hx; exact ⟨q, hx, ho⟩
      obtain ⟨o1', m1, m2⟩ := conv k1 k2
      obtain ⟨o2', m3, m4⟩ := conv k3 k4
      exact hh.inj _ _ _ _ _ _ m1 m2 m3 m4 k5 k6 k7
theorem loop_obj (hh : HRel P ι h.objs.get w) {b : Nat} {T : Tr AV} {sz : Nat} {ps : List Nat} {as body : Code} {st : LSt} (e : h.objs.get b = some (.loop T sz ps as body st)) :
    ∃ c L, ι b = some c ∧ w.heap[c.id]? = some (.loop L) ∧ ORel P ι c (.loop T sz ps as body st) (.loop L) := by
  obtain ⟨c, C, h1, h2, h3⟩ := hh.obj b _ e trivial
  cases C <;> first | exact h3.elim | exact ⟨c, _, h1, h2, h3⟩

/-- what is to hold behind a piece of code -/
def CodeOk (P : Program) (call : CallA) (sz : Nat) (rb : Option Nat) (c : Code) (f : TM → AH → Option (AE × TM × AH)) : Prop :=
  ∀ (T : TM) (h : AH) (x : AE) (T' : TM) (h' : AH) (ι : Nm) (a : Act) (w : World) (r : Option Nat) (B : Nat) (Q : Exit → Act → World → Prop), f T h = some (x, T', h') → RR ι rb r → B ≤ w.heap.size → ARel ι sz T a → HRel P ι h.objs.get w → NOk ι h.next w → Marks B h.objs.get ι w a.defers →
    (∀ κ a' w', Out P ι h w κ h' w' → ARel κ sz T' a' → Marks B h'.objs.get κ w' a'.defers → Q (toEx x) a' w') → c.wpIn (FW r) 0 P Q a w
theorem loop_ok {rb : Option Nat} {c : Code} {f : TM → AH → Option (AE × TM × AH)} (hf : CodeOk P call sz rb c f) : ∀ (n : Nat) (T : TM) (h : AH) (x : AE) (T' : TM) (h' : AH) (ι : Nm) (a : Act) (w : World) (r : Option Nat) (B : Nat) (Q : Exit → Act → World → Prop), loopN f n T h = some (x, T', h') → RR ι rb r → B ≤ w.heap.size → ARel ι sz T a → HRel P ι h.objs.get w → NOk ι h.next w → Marks B h.objs.get ι w a.defers →
    (∀ κ a' w', Out P ι h w κ h' w' → ARel κ sz T' a' → Marks B h'.objs.get κ w' a'.defers → Q (toEx x) a' w') → Code.roundsIn (FW r) 0 P c Q n a w
  | 0, T, h, x, T', h', ι, a, w, r, B, Q, e, _, _, _, _, _, _, _ => by cases (show (none : Option (AE × TM × AH)) = some (x, T', h') from e)
  | n + 1, T, h, x, T', h', ι, a, w, r, B, Q, e, rr, hB, ra, hh, hn, hm, hQ => by
    obtain ⟨⟨y, T1, h1⟩, e1, e2⟩ := ob_eq.1 (show ob (f T h) _ = some (x, T', h') from e)
    rw [roundsIn_succ]
    refine hf T h y T1 h1 ι a w r B _ e1 rr hB ra hh hn hm fun κ a' w' k1 k2 k3 => ?_
    cases y with
    | normal =>
      exact loop_ok hf n T1 h1 x T' h' κ a' w' r B Q e2 (rr.mono k1.le) (Nat.le_trans hB k1.evo.size) k2 k1.hrel k1.nok k3 fun μ a2 w2 g1 g2 g3 => hQ μ a2 w2 (k1.trans g1) g2 g3
    | exit id => cases e2; exact hQ κ a' w' k1 k2 k3
    | goto l => cases e2; exact hQ κ a' w' k1 k2 k3
    | ret => cases e2; exact hQ κ a' w' k1 k2 k3

/-! a range over a function -/
theorem enterR {vs : List AV} {us : List Value} {x : AV} {x' : Value} {n : ANx} (e : enterA P vs x = some n) (r : VRel ι x x') (rv : LRel ι vs us) :
    (∃ gf fl cl args, x' = .func (.func gf) ⟨fl⟩ ⟨cl⟩ ∧ callable P gf = true ∧ n = .enter gf args ∧ LRel ι args (fl ++ us ++ cl)) ∨ ∃ b, n = .round b vs := by
  unfold enterA at e
  split at e
  · rename_i g first cap
    obtain ⟨e1, e2⟩ := cnd_eq.1 e
    cases e2
    cases r
    refine .inl ⟨g, first.toList, cap.toList, _, rfl, e1, rfl, ?_⟩
    rw [appL_eq, appL_eq, List.append_assoc]
    exact (LRel.flats _).append (rv.append (LRel.flats _))
  · rename_i g first cap
    obtain ⟨e1, e2⟩ := cnd_eq.1 e
    cases e2
    cases r with
    | fn _ _ _ l r h1 h2 =>
      refine .inl ⟨g, l, r, _, rfl, e1, rfl, ?_⟩
      rw [appL_eq, appL_eq, List.append_assoc]
      exact h1.append (rv.append h2)
  · cases e; exact .inr ⟨_, rfl⟩
  · cases e
theorem resolve_range {g : Operand} {l gf : Nat} {fl cl : List Value} {w1 : World} (hg : a.eval g = .func (.func gf) ⟨fl⟩ ⟨cl⟩) (hc : callable P gf = true) :
    ∃ d, (resolve a.eval (rangeCall g l) 0).run P w1 = .ok d w1 ∧ (invoke d.target d.args).run P w1 = .ok (.enter gf ((⟨fl⟩ : Array Value) ++ #[.func (.yield l) #[] #[]] ++ ⟨cl⟩)) w1 := by
  refine ⟨{ target := .fn (.func gf) ⟨cl⟩, args := (⟨fl⟩ : Array Value) ++ #[.func (.yield l) #[] #[]] }, ?_, ?_⟩
  · simp only [resolve, hg, Deferred.ofValue, Sem.run_bind, Sem.run_pure, Result.andThen_ok]
    simp [Act.eval]
  · simp only [invoke, run_callFunc hc]
theorem jump_wp {r : Option Nat} (x : AE) (hq : Q (toEx x) a w) : (jumpOf x).wpIn (FW r) 0 P Q a w := by
  cases x with
  | normal => exact wpIn_skip hq
  | exit id => exact wpIn_exit hq
  | goto l => exact wpIn_goto hq
  | ret => exact wpIn_ret hq
/-- the call of the function, and what is left to be done behind it -/
theorem range_main {r : Option Nat} {B : Nat} {g : Operand} {ps : Array Tmp} {as body : Code} {x : AE} {w0 : World} {ds : List Deferred} {fn : FuncId} {D : Nat} {n : ANx} (hc : CallOk P call)
    (e : enterA P [.yl h.next] (evO T g) = some n) (e2 : rangeEnter call T h.next (h.new (.loop T sz ps.toList as body .ready)) n = some (x, T', h')) (ra : ARel ι sz T a)
    (o0 : Out P ι h w ι h w0) (hm : Marks B h.objs.get ι w0 ds)
    (hQ : ∀ κ a' w', Out P ι h w κ h' w' → ARel κ sz T' a' → Marks B h'.objs.get κ w' a'.defers → Q (toEx x) a' w') :
    ∃ d f args, (resolve a.eval (rangeCall g w0.heap.size) 0).run P (w0.alloc (.loop { state := .ready, pending := none, fn, tmps := a.tmps, params := ps, assign := as, body, defers := D })) = .ok d (w0.alloc (.loop { state := .ready, pending := none, fn, tmps := a.tmps, params := ps, assign := as, body, defers := D })) ∧
      (invoke d.target d.args).run P (w0.alloc (.loop { state := .ready, pending := none, fn, tmps := a.tmps, params := ps, assign := as, body, defers := D })) = .ok (.enter f args) (w0.alloc (.loop { state := .ready, pending := none, fn, tmps := a.tmps, params := ps, assign := as, body, defers := D })) ∧
      CallsIn (FW r) 0 P f args (w0.alloc (.loop { state := .ready, pending := none, fn, tmps := a.tmps, params := ps, assign := as, body, defers := D })) (rangePost (FW r) 0 P w0.heap.size Q { a with defers := ds }) := by
  have hb0 := o0.nok.none
  have hle1 := Nm.le_add (⟨w0.heap.size, 0⟩ : Blk) hb0
  have o1 : Out P ι h w0 (ι.add h.next ⟨w0.heap.size, 0⟩) (h.new (.loop T sz ps.toList as body .ready)) (w0.alloc (.loop { state := .ready, pending := none, fn, tmps := a.tmps, params := ps, assign := as, body, defers := D })) :=
    Out.new o0.hrel o0.nok ⟨rfl, rfl, rfl, ⟨ra.size, fun t => (ra.val t).mono hle1⟩, rfl, rfl⟩
  have hk1 : (ι.add h.next ⟨w0.heap.size, 0⟩) h.next = some ⟨w0.heap.size, 0⟩ := Nm.add_same _ _ _
  generalize (w0.alloc (.loop { state := .ready, pending := none, fn, tmps := a.tmps, params := ps, assign := as, body, defers := D })) = w1 at o1 ⊢
  generalize (ι.add h.next ⟨w0.heap.size, 0⟩) = κ1 at o1 hk1 hle1
  rcases enterR e ((ra.op g).mono hle1) (.cons _ _ _ _ (.yl _ _ hk1) .nil) with ⟨gf, fl, cl, args, hg, hcl, rfl, hl⟩ | ⟨b, rfl⟩
  · obtain ⟨d, hd1, hd2⟩ := resolve_range (P := P) (a := a) (l := w0.heap.size) (w1 := w1) hg hcl
    refine ⟨d, gf, _, hd1, hd2, callsIn_fw ?_⟩
    obtain ⟨⟨v, h2⟩, e3, e4⟩ := ob_eq.1 (show ob (call (.fn gf) args _) _ = some (x, T', h') from e2)
    obtain ⟨q, e5, e6⟩ := ob_eq.1 e4
    refine (hc.fn gf args _ v h2 e3 κ1 w1 _ o1.hrel o1.nok (by simpa using hl)).mono fun en w3 hen => ?_
    obtain ⟨μ, v', rfl, _, o2⟩ := hen
    cases q <;> simp only [endLoopA] at e6 <;> first | cases e6 | skip
    rename_i T2 sz2 ps2 as2 bd2 st
    obtain ⟨c, L, f1, f2, f3⟩ := loop_obj o2.hrel e5
    have f4 := o2.le _ _ hk1
    rw [f1] at f4
    cases f4
    obtain ⟨_, _, _, _, hst⟩ := f3
    have o3 : Out P μ h2 w3 μ (h2.put h.next .dead) (w3.putObj w0.heap.size (.loop { L with state := .exhausted })) := Out.turn o2.hrel o2.nok e5 trivial trivial f1 f2 (fun hl => hl.elim)
    have oAll := ((o0.trans o1).trans o2).trans o3
    have hmA : Marks B (h2.put h.next .dead).objs.get μ (w3.putObj w0.heap.size (.loop { L with state := .exhausted })) ds := ((hm.step o1.evo).step o2.evo).step o3.evo
    have hra : ∀ T'', T'' = T → ARel μ sz T'' { a with defers := ds } := fun T'' hT => by subst hT; exact ⟨ra.size, fun t => (ra.val t).mono oAll.le⟩
    cases st with
    | ready =>
      cases (show some (AE.normal, T, h2.put h.next .dead) = some (x, T', h') from e6)
      refine ⟨L.pending, w3.putObj w0.heap.size (.loop { L with state := .exhausted }), run_endLoop f2 (by rw [hst.1]; simp), ?_⟩
      generalize w3.putObj w0.heap.size (.loop { L with state := .exhausted }) = W at oAll hmA ⊢
      rw [hst.2]
      exact hQ μ _ _ oAll (hra _ rfl) hmA
    | busy => cases e6
    | done y =>
      cases (show some (y, T, h2.put h.next .dead) = some (x, T', h') from e6)
      refine ⟨L.pending, w3.putObj w0.heap.size (.loop { L with state := .exhausted }), run_endLoop f2 (by rw [hst.1]; simp), ?_⟩
      generalize w3.putObj w0.heap.size (.loop { L with state := .exhausted }) = W at oAll hmA ⊢
      rw [hst.2]
      exact jump_wp _ (hQ μ _ _ oAll (hra _ rfl) hmA)
  · cases (show (none : Option (AE × TM × AH)) = some (x, T', h') from e2)
theorem range_ok {rb r : Option Nat} {B : Nat} {g : Operand} {ps : Array Tmp} {as body : Code} {x : AE} (hc : CallOk P call) (e : rangeA P call sz rb g ps as body T h = some (x, T', h')) (rr : RR ι rb r) (hB : B ≤ w.heap.size) (ra : ARel ι sz T a)
    (hh : HRel P ι h.objs.get w) (hn : NOk ι h.next w) (hm : Marks B h.objs.get ι w a.defers) (hQ : ∀ κ a' w', Out P ι h w κ h' w' → ARel κ sz T' a' → Marks B h'.objs.get κ w' a'.defers → Q (toEx x) a' w') :
    (Code.rangeFunc g ps as body).wpIn (FW r) 0 P Q a w := by
  obtain ⟨e0, e1⟩ := cnd_eq.1 e
  obtain ⟨n, e2, e3⟩ := ob_eq.1 e1
  refine wpIn_rangeFunc fun fn _ => ?_
  cases rb with
  | none =>
    cases r with
    | some l => exact rr.elim
    | none =>
      have o0 := Out.allocFree hh hn (.deferred (some []))
      obtain ⟨ks, m1, m2, m3⟩ := hm
      have hm0 : Marks B h.objs.get ι (w.alloc (.deferred (some []))) ([{ target := .collected w.heap.size, args := #[] }] ++ a.defers) := by
        refine ⟨w.heap.size :: ks, by rw [m1]; rfl, List.nodup_cons.2 ⟨fun hx => ?_, m2⟩, fun k hk => ?_⟩
        · have := (Array.getElem?_eq_some_iff.1 (m3 _ hx).2.1).1; omega
        · rcases List.mem_cons.1 hk with rfl | hk
          · exact ⟨hB, heap_alloc_new _, fun b o c q1 q2 q3 => by have := hh.lt q1 q2 q3; omega⟩
          · obtain ⟨q1, q2, q3⟩ := m3 k hk
            exact ⟨q1, (heap_alloc_old _ (Array.getElem?_eq_some_iff.1 q2).1).trans q2, q3⟩
      obtain ⟨d, f, args, h1, h2, h3⟩ := range_main (r := none) (fn := fn) (D := w.heap.size) hc e2 e3 ra o0 hm0 hQ
      have hs : (w.alloc (.deferred (some []))).heap.size = w.heap.size + 1 := by simp
      rw [hs] at h1 h3
      exact ⟨w.heap.size + 1, _, _, d, _, f, args, _, run_enterLoop_outer fn a.tmps ps as body, h1, fun _ _ => trivial, h2, fun hx => by simp at hx, h3⟩
  | some b0 =>
    cases r with
    | none => exact rr.elim
    | some l =>
      obtain ⟨c0, q1, rfl⟩ := rr
      have hl0 : ∃ r0, w.heap[c0.id]? = some (.loop r0) := by
        have e0' : optCase (h.objs.get b0) false isLoop = true := e0
        cases hx : h.objs.get b0 with
        | none => rw [hx] at e0'; cases e0'
        | some o =>
          rw [hx, optCase_some] at e0'
          cases o <;> simp only [isLoop] at e0' <;> first | cases e0' | skip
          obtain ⟨c, L, f1, f2, _⟩ := loop_obj hh hx
          rw [q1] at f1; cases f1
          exact ⟨L, f2⟩
      obtain ⟨r0, hr0⟩ := hl0
      obtain ⟨d, f, args, h1, h2, h3⟩ := range_main (r := some c0.id) (fn := fn) (D := r0.defers) hc e2 e3 ra (Out.refl hh hn) hm hQ
      exact ⟨w.heap.size, [], _, d, _, f, args, _, run_enterLoop_inner hr0 fn a.tmps ps as body, h1, fun _ _ => trivial, h2, fun hx => by simp at hx, h3⟩
theorem evC_ok (hm : P.follows .mixedOrders = true) (hc : CallOk P call) (rb : Option Nat) (c : Code) : CodeOk P call sz rb c (evC P call sz N rb c) := by
  induction c with
  | skip =>
    intro T h x T' h' ι a w r B Q e rr hB ra hh hn hk hQ
    cases (show some (AE.normal, T, h) = some (x, T', h') from e)
    exact wpIn_skip (hQ ι a w (Out.refl hh hn) ra hk)
  | region id ops d =>
    intro T h x T' h' ι a w r B Q e rr hB ra hh hn hk hQ
    obtain ⟨⟨T1, h1⟩, e1, e2⟩ := ob_eq.1 (show ob (cnd d (evDraw P call sz ops.toList T h) (evOps P call sz ops.toList ops.toList T h)) (fun q => some (AE.normal, q)) = some (x, T', h') from e)
    cases e2
    have hQ' : ∀ κ a' w', Out P ι h w κ h' w' → ARel κ sz T' a' → a'.defers = a.defers → Q .normal a' w' := fun κ a' w' g1 g2 g3 => hQ κ a' w' g1 g2 (by rw [g3]; exact hk.step g1.evo)
    cases d with
    | true => exact evDraw_ok hm hc e1 ra hh hn hQ'
    | false =>
      refine wpIn_region ?_
      have := evOps_ok (P := P) (Q := Q) (r := r) hc ops.toList 0 T h ι a w (by simp) e1 ra hh hn hQ'
      rw [List.range_eq_range']
      simpa using this
  | seq x y ihx ihy =>
    intro T h z T' h' ι a w r B Q e rr hB ra hh hn hk hQ
    obtain ⟨⟨u, T1, h1⟩, e1, e2⟩ := ob_eq.1 (show ob (evC P call sz N rb x T h) (thenA (evC P call sz N rb y)) = some (z, T', h') from e)
    refine wpIn_seq (ihx T h u T1 h1 ι a w r B _ e1 rr hB ra hh hn hk fun κ a' w' k1 k2 k3 => ?_)
    cases u with
    | normal => exact ihy T1 h1 z T' h' κ a' w' r B Q e2 (rr.mono k1.le) (Nat.le_trans hB k1.evo.size) k2 k1.hrel k1.nok k3 fun μ a2 w2 g1 g2 g3 => hQ μ a2 w2 (k1.trans g1) g2 g3
    | exit id => cases e2; exact hQ κ a' w' k1 k2 k3
    | goto l => cases e2; exact hQ κ a' w' k1 k2 k3
    | ret => cases e2; exact hQ κ a' w' k1 k2 k3
  | cond c x y ihx ihy =>
    intro T h z T' h' ι a w r B Q e rr hB ra hh hn hk hQ
    have e' : condA (evC P call sz N rb x) (evC P call sz N rb y) T h (evO T c) = some (z, T', h') := e
    have hr := ra.op c
    unfold condA at e'
    split at e'
    · rename_i b hb
      rw [hb] at hr
      generalize hv : a.eval c = v at hr
      cases hr
      cases b with
      | true => exact wpIn_cond_true hv (ihx T h z T' h' ι a w r B Q e' rr hB ra hh hn hk hQ)
      | false => exact wpIn_cond_false hv (ihy T h z T' h' ι a w r B Q e' rr hB ra hh hn hk hQ)
    · cases e'
  | block id c ih =>
    intro T h z T' h' ι a w r B Q e rr hB ra hh hn hk hQ
    obtain ⟨⟨u, T1, h1⟩, e1, e2⟩ := ob_eq.1 (show ob (evC P call sz N rb c T h) (blockA id) = some (z, T', h') from e)
    refine wpIn_block (ih T h u T1 h1 ι a w r B _ e1 rr hB ra hh hn hk fun κ a' w' k1 k2 k3 => ?_)
    cases u with
    | normal => cases e2; exact hQ κ a' w' k1 k2 k3
    | goto l => cases e2; exact hQ κ a' w' k1 k2 k3
    | ret => cases e2; exact hQ κ a' w' k1 k2 k3
    | exit id' =>
      show if id' = id then Q .normal a' w' else Q (.exit id') a' w'
      rcases cnd_of (show cnd (Nat.beq id' id) (some (AE.normal, T1, h1)) (some (AE.exit id', T1, h1)) = some (z, T', h') from e2) with ⟨e3, e4⟩ | ⟨e3, e4⟩
      · cases e4; rw [if_pos (beq_eq e3)]; exact hQ κ a' w' k1 k2 k3
      · cases e4
        rw [if_neg (by rintro rfl; rw [Nat.beq_refl] at e3; cases e3)]
        exact hQ κ a' w' k1 k2 k3
  | loop c ih =>
    intro T h z T' h' ι a w r B Q e rr hB ra hh hn hk hQ
    exact wpIn_loop_rounds N (loop_ok ih N T h z T' h' ι a w r B Q e rr hB ra hh hn hk hQ)
  | rangeFunc f ps as b _ _ =>
    intro T h z T' h' ι a w r B Q e rr hB ra hh hn hk hQ
    exact range_ok hc e rr hB ra hh hn hk hQ
  | exit id =>
    intro T h z T' h' ι a w r B Q e rr hB ra hh hn hk hQ
    cases (show some (AE.exit id, T, h) = some (z, T', h') from e)
    exact wpIn_exit (hQ ι a w (Out.refl hh hn) ra hk)
  | scope c ih =>
    intro T h z T' h' ι a w r B Q e rr hB ra hh hn hk hQ
    obtain ⟨⟨u, T1, h1⟩, e1, e2⟩ := ob_eq.1 (show ob (evC P call sz N rb c T h) scopeA = some (z, T', h') from e)
    refine wpIn_scope (ih T h u T1 h1 ι a w r B _ e1 rr hB ra hh hn hk fun κ a' w' k1 k2 k3 => ?_)
    cases u with
    | normal => cases e2; exact hQ κ a' w' k1 k2 k3
    | goto l => cases e2
    | ret => cases e2; exact hQ κ a' w' k1 k2 k3
    | exit id' => cases e2; exact hQ κ a' w' k1 k2 k3
  | label l =>
    intro T h z T' h' ι a w r B Q e rr hB ra hh hn hk hQ
    cases (show some (AE.normal, T, h) = some (z, T', h') from e)
    exact wpIn_label (hQ ι a w (Out.refl hh hn) ra hk)
  | goto l =>
    intro T h z T' h' ι a w r B Q e rr hB ra hh hn hk hQ
    cases (show some (AE.goto l, T, h) = some (z, T', h') from e)
    exact wpIn_goto (hQ ι a w (Out.refl hh hn) ra hk)
  | ret =>
    intro T h z T' h' ι a w r B Q e rr hB ra hh hn hk hQ
    cases (show some (AE.ret, T, h) = some (z, T', h') from e)
    exact wpIn_ret (hQ ι a w (Out.refl hh hn) ra hk)
  | refuse s => intro T h z T' h' ι a w r B Q e; cases (show (none : Option (AE × TM × AH)) = some (z, T', h') from e)

/-! functions -/
def resSem (tmps : Array Value) : ResultVar → Sem Value
  | .tmp t => pure (tmps.getD t undef)
  | .cell a t => do loadVar t (← asAddr (tmps.getD a undef))
theorem resVar_ok {x : ResultVar} {v : AV} (e : resVar P h T x = some v) (ra : ARel ι sz T a) (hh : HRel P ι h.objs.get w) :
    ∃ v', (resSem a.tmps x).run P w = .ok v' w ∧ VRel ι v v' := by
  cases x with
  | tmp t =>
    cases (show some (tat T t) = some v from e)
    exact ⟨_, rfl, ra.val t⟩
  | cell c t =>
    have r := ra.val c
    have e' : loadA P h t (tat T c) = some v := e
    show ∃ v', (do loadVar t (← asAddr (a.tmps.getD c undef)) : Sem Value).run P w = .ok v' w ∧ VRel ι v v'
    generalize a.tmps.getD c undef = y at r ⊢
    obtain ⟨v', h1, h2⟩ := loadA_ok e' hh r
    refine ⟨v', ?_, h2⟩
    generalize hx : tat T c = x at e' r
    cases x <;> simp only [loadA] at e' <;> first | cases e' | skip
    · cases r
      unfold loadGlob at e'
      split at e'
      · simp only [Instr.loadAt, Instr.sureAddr, Sem.run_bind, Sem.run_pure, Result.andThen_ok] at h1
        simp only [asAddr, Sem.run_bind, Sem.run_pure, Result.andThen_ok]
        exact h1
      · cases e'
    cases r
    simp only [Instr.loadAt, Instr.sureAddr, Sem.run_bind, Sem.run_pure, Result.andThen_ok] at h1
    simp only [asAddr, Sem.run_bind, Sem.run_pure, Result.andThen_ok]
    exact h1
theorem resA_ok (ra : ARel ι sz T a) (hh : HRel P ι h.objs.get w) : ∀ {l : List ResultVar} {vs : List AV}, resA P h T l = some vs →
    ∃ us, (l.mapM (resSem a.tmps)).run P w = .ok us w ∧ LRel ι vs us
  | [], vs, e => by
    cases (show some [] = some vs from e)
    exact ⟨[], by simp, .nil⟩
  | x :: l, vs, e => by
    obtain ⟨v, e1, e2⟩ := ob_eq.1 (show ob (resVar P h T x) (fun v => ob (resA P h T l) fun r => some (v :: r)) = some vs from e)
    obtain ⟨r, e3, e4⟩ := ob_eq.1 e2
    cases e4
    obtain ⟨v', h1, h2⟩ := resVar_ok e1 ra hh
    obtain ⟨us, h3, h4⟩ := resA_ok ra hh e3
    refine ⟨v' :: us, ?_, .cons _ _ _ _ h2 h4⟩
    simp only [List.mapM_cons, Sem.run_bind, h1, Result.andThen_ok, h3, Sem.run_pure]
theorem oneA_ok {l : List AV} {us : List Value} (r : LRel ι l us) : VRel ι (oneA l) (if h : (⟨us⟩ : Array Value).size = 1 then (⟨us⟩ : Array Value)[0] else .tuple ⟨us⟩) := by
  cases r with
  | nil => exact VRel.mkTp .nil
  | cons a v l vs h1 h2 =>
    cases h2 with
    | nil => exact h1
    | cons b u l vs h3 h4 => exact VRel.mkTp (.cons _ _ _ _ h1 (.cons _ _ _ _ h3 h4))
theorem results_ok {fn : Func} {vs : List AV} (e : resA P h T fn.results.toList = some vs) (ra : ARel ι sz T a) (hh : HRel P ι h.objs.get w) :
    ∃ v', (results fn a.tmps).run P w = .ok v' w ∧ VRel ι (oneA vs) v' := by
  obtain ⟨us, h1, h2⟩ := resA_ok ra hh e
  refine ⟨_, ?_, oneA_ok h2⟩
  have hr : results fn a.tmps = (do let vs ← fn.results.mapM (resSem a.tmps); pure (if h : vs.size = 1 then vs[0] else .tuple vs)) := by
    unfold results
    congr 2
  rw [hr, Array.mapM_eq_mapM_toList]
  simp only [Sem.run_bind, Sem.run_map]
  rw [h1]
  simp only [Result.andThen_ok, Sem.run_pure]
theorem layArgs_tat : ∀ (l : List AV) (k t : Nat), tat (layArgs l k) t = if k ≤ t then (l[t - k]?).getD .undef else .undef
  | [], k, t => by
    show tat .leaf t = _
    simp [tat, Tr.get_leaf, optOr]
  | v :: l, k, t => by
    show tat ((layArgs l (k + 1)).set k v) t = _
    rw [tat_set, layArgs_tat l (k + 1) t]
    by_cases e : t = k
    · subst e; simp
    · rw [if_neg e]
      by_cases h1 : k ≤ t
      · rw [if_pos h1, if_pos (by omega), show t - k = (t - (k + 1)) + 1 by omega]; simp
      · rw [if_neg h1, if_neg (by omega)]
theorem args_arel {args : List AV} {vals : Array Value} {n : Nat} (r : LRel ι args vals.toList) (hn : args.length ≤ n) :
    ARel ι n (layArgs args 0) { tmps := vals ++ Array.replicate (n - vals.size) undef, defers := [] } := by
  have hl := r.length
  have hl' : args.length = vals.size := by simpa using hl
  refine ⟨by simp; omega, fun t => ?_⟩
  rw [layArgs_tat, if_pos (Nat.zero_le _), Nat.sub_zero]
  show VRel ι _ ((vals ++ Array.replicate (n - vals.size) undef).getD t undef)
  rw [Array.getD_eq_getD_getElem?]
  rcases Nat.lt_or_ge t vals.size with h | h
  · rw [Array.getElem?_append_left h]
    cases ha : args[t]? with
    | none => rw [List.getElem?_eq_none_iff] at ha; omega
    | some x =>
      obtain ⟨v, h1, h2⟩ := r.get ha
      rw [Array.getElem?_toList] at h1
      rw [h1]; exact h2
  · rw [List.getElem?_eq_none (by omega), Array.getElem?_append_right h, Array.getElem?_replicate]
    have : ((if t - vals.size < n - vals.size then some undef else none).getD undef) = undef := by split <;> rfl
    rw [this]
    exact undef_rel
/-- the marks of a function that is left -/
theorem leaves_marks {fn : Func} {T : TM} {vs : List AV} {h1 : AH} (e : resA P h1 T fn.results.toList = some vs) : ∀ (ks : List Nat) (w' : World), ks.Nodup → (∀ k ∈ ks, w.heap.size ≤ k ∧ w'.heap[k]? = some (.deferred (some [])) ∧ ∀ b o c, h1.objs.get b = some o → Live o → κ b = some c → c.id ≠ k) →
    Out P ι h w κ h1 w' → ARel κ sz T a' → LeavesInM (FW none) 0 P fn a'.tmps (CallRel P ι h w (oneA vs) h1) (ks.map mkD) .returning w'
  | [], w', _, _, o, ra => by
    obtain ⟨v', j1, j2⟩ := results_ok e ra o.hrel
    exact ⟨v', j1, κ, v', rfl, j2, o⟩
  | k :: ks, w', hnd, hk, o, ra => by
    obtain ⟨q1, q2, q3⟩ := hk k (List.mem_cons_self ..)
    obtain ⟨n1, n2⟩ := List.nodup_cons.1 hnd
    refine ⟨by simp, .inl ⟨k, _, rfl, run_takeDeferred q2, ?_⟩⟩
    refine leaves_marks e ks _ n2 (fun j hj => ?_) (o.putFree _ q1 q3) ra
    obtain ⟨p1, p2, p3⟩ := hk j (List.mem_cons_of_mem _ hj)
    exact ⟨p1, (World.putObj_heap_other (by rintro rfl; exact n1 hj)).trans p2, p3⟩
theorem fn_ok {f : FuncId} {fn : Func} {args : List AV} {v : AV} (hm : P.follows .mixedOrders = true) (hc : CallOk P call) (hf : P.funcs[f]? = some fn) (e : evFn P N call args h fn = some (v, h')) {vals : Array Value}
    (hh : HRel P ι h.objs.get w) (hn : NOk ι h.next w) (r : LRel ι args vals.toList) : CallsIn (FW none) 0 P f vals w (CallRel P ι h w v h') := by
  obtain ⟨c, e1, e2⟩ := ob_eq.1 e
  obtain ⟨e3, e4⟩ := cnd_eq.1 e2
  obtain ⟨⟨x, T', h1⟩, e5, e6⟩ := ob_eq.1 e4
  have hle := ble_le e3
  rw [lenL_eq] at hle
  refine callsIn_of_wp_marks hf e1 trivial (evC_ok hm hc none c (layArgs args 0) h x T' h1 ι _ w none w.heap.size _ e5 trivial (Nat.le_refl _) (args_arel r hle) hh hn Marks.nil fun κ a' w' k1 k2 k3 => ?_)
  obtain ⟨ks, m1, m2, m3⟩ := k3
  cases x with
  | normal =>
    obtain ⟨vs, g1, g2⟩ := ob_eq.1 (show ob (resA P h1 T' fn.results.toList) (fun r => some (oneA r, h1)) = some (v, h') from e6)
    cases g2
    show LeavesInM (FW none) 0 P fn a'.tmps _ a'.defers .returning w'
    rw [m1]
    exact leaves_marks g1 ks w' m2 m3 k1 k2
  | ret =>
    obtain ⟨vs, g1, g2⟩ := ob_eq.1 (show ob (resA P h1 T' fn.results.toList) (fun r => some (oneA r, h1)) = some (v, h') from e6)
    cases g2
    show LeavesInM (FW none) 0 P fn a'.tmps _ a'.defers .returning w'
    rw [m1]
    exact leaves_marks g1 ks w' m2 m3 k1 k2
  | exit id => cases e6
  | goto l => cases e6

/-! rounds -/
theorem setArgs_ok : ∀ {ps : List Nat} {vs : List AV} {us : List Value} {T T1 : TM} {tm : Array Value}, setArgs sz ps vs T = some T1 → LRel ι vs us → TmRel ι sz T tm →
    us.length = ps.length ∧ TmRel ι sz T1 ((ps.zip us).foldl (fun tmps (t, a) => tmps.setIfInBounds t a) tm)
  | [], vs, us, T, T1, tm, e, rv, rt => by
    cases rv with
    | nil => cases (show some T = some T1 from e); exact ⟨rfl, rt⟩
    | cons => exact absurd e (by intro h; cases (show (none : Option TM) = some T1 from h))
  | p :: ps, vs, us, T, T1, tm, e, rv, rt => by
    cases rv with
    | nil => exact absurd e (by intro h; cases (show (none : Option TM) = some T1 from h))
    | cons v u vs us r1 r2 =>
      obtain ⟨T2, e1, e2⟩ := ob_eq.1 (show ob (putA sz T (some p) v) (setArgs sz ps vs) = some T1 from e)
      have ra : ARel ι sz T { tmps := tm, defers := [] } := ⟨rt.1, rt.2⟩
      have r2' := ra.put (d := some p) e1 r1
      obtain ⟨k1, k2⟩ := setArgs_ok e2 r2 (tm := tm.setIfInBounds p u) ⟨r2'.size, r2'.val⟩
      exact ⟨by simp [k1], by simpa using k2⟩
theorem setSt_ok {b : Nat} {st : LSt} (e : setStA h b st = some h') (hh : HRel P ι h.objs.get w) (hn : NOk ι h.next w) {c : Blk} (hb : ι b = some c) :
    ∃ L, w.heap[c.id]? = some (.loop L) ∧ ∀ L' : Loop, L'.params = L.params → L'.assign = L.assign → L'.body = L.body → L'.tmps = L.tmps → StRel st L' → Out P ι h w ι h' (w.putObj c.id (.loop L')) := by
  obtain ⟨o, e1, e2⟩ := ob_eq.1 e
  cases o <;> simp only [setSt] at e2 <;> first | cases e2 | skip
  obtain ⟨c', L, f1, f2, f3, f4, f5, f6, f7⟩ := loop_obj hh e1
  rw [hb] at f1; cases f1
  refine ⟨L, f2, fun L' g1 g2 g3 g4 g5 => Out.turn hh hn e1 trivial trivial hb f2 fun _ => ⟨by rw [g1]; exact f3, by rw [g2]; exact f4, by rw [g3]; exact f5, by rw [g4]; exact f6, g5⟩⟩
theorem endRound_ok {b : Nat} {x : AE} {T3 : TM} {h3 : AH} {v : AV} {w3 : World} {μ : Nm} (e : endRoundA b (x, T3, h3) = some (v, h')) (o : Out P ι h w μ h3 w3) {c : Blk} (hb : μ b = some c) :
    roundPost P c.id (CallRel P ι h w v h') (toEx x) a w3 := by
  have key : ∀ (st : LSt) (jump : Option Code) (bv : Bool), ob (setStA h3 b st) (fun h' => some (AV.flat (.bool bv), h')) = some (v, h') → jump.isNone = bv → (∀ L : Loop, StRel st { L with state := if jump.isNone then .ready else .done, pending := jump }) →
      ∃ u w4, (Instr.endRound c.id jump).run P w3 = .ok u w4 ∧ CallRel P ι h w v h' (.returned u) w4 := by
    intro st jump bv e1 hj hs
    obtain ⟨h4, e2, e3⟩ := ob_eq.1 e1
    cases e3
    obtain ⟨L, f1, f2⟩ := setSt_ok e2 o.hrel o.nok hb
    refine ⟨_, _, run_endRound jump f1, μ, _, rfl, ?_, o.trans (f2 _ rfl rfl rfl rfl (hs L))⟩
    rw [hj]; exact .flat _
  cases x with
  | normal => exact key .ready none true e rfl fun L => ⟨rfl, rfl⟩
  | exit id => exact key (.done (.exit id)) (some (.exit id)) false e rfl fun L => ⟨rfl, rfl⟩
  | goto l => exact key (.done (.goto l)) (some (.goto l)) false e rfl fun L => ⟨rfl, rfl⟩
  | ret => exact key (.done .ret) (some .ret) false e rfl fun L => ⟨rfl, rfl⟩
theorem round_ok {b : Nat} {args : List AV} {v : AV} (hm : P.follows .mixedOrders = true) (hc : CallOk P call) (e : ob (h.objs.get b) (roundA P N call args h b) = some (v, h')) {vals : Array Value}
    (hh : HRel P ι h.objs.get w) (hn : NOk ι h.next w) (r : LRel ι args vals.toList) :
    ∃ c L, ι b = some c ∧ w.heap[c.id]? = some (.loop L) ∧ vals.size = L.params.size ∧
      RoundIn (FW none) 0 P c.id L.fn ((L.params.zip vals).foldl (fun tmps (t, a) => tmps.setIfInBounds t a) L.tmps) L.assign L.body w (CallRel P ι h w v h') := by
  obtain ⟨o, e1, e2⟩ := ob_eq.1 e
  cases o <;> simp only [roundA] at e2 <;> first | cases e2 | skip
  rename_i T sz ps as bd st
  obtain ⟨T1, e3, e4⟩ := ob_eq.1 e2
  obtain ⟨⟨y, T2, h1⟩, e5, e6⟩ := ob_eq.1 e4
  obtain ⟨c, L, f1, f2, f3, f4, f5, f6, f7⟩ := loop_obj hh e1
  obtain ⟨k1, k2⟩ := setArgs_ok e3 r f6
  have hz : vals.size = L.params.size := by rw [← f3] at k1; simpa using k1
  refine ⟨c, L, f1, f2, hz, ?_⟩
  have hfold : (L.params.zip vals).foldl (fun tmps (t, a) => tmps.setIfInBounds t a) L.tmps = (ps.zip vals.toList).foldl (fun tmps (t, a) => tmps.setIfInBounds t a) L.tmps := by
    rw [← Array.foldl_toList, Array.toList_zip, f3]
  rw [hfold, f4, f5]
  refine roundIn_of_wpIn trivial ?_
  refine evC_ok hm hc (some b) as T1 h y T2 h1 ι _ w (some c.id) 0 _ e5 ⟨c, f1, rfl⟩ (Nat.zero_le _) ⟨k2.1, k2.2⟩ hh hn Marks.nil fun κ a1 w1 o1 g2 g3 => ?_
  cases y with
  | normal =>
    obtain ⟨q, e7, e8⟩ := ob_eq.1 (show ob (h1.objs.get b) _ = some (v, h') from e6)
    obtain ⟨e9, e10⟩ := cnd_eq.1 e8
    obtain ⟨h2, e11, e12⟩ := ob_eq.1 e10
    obtain ⟨⟨x, T3, h3⟩, e13, e14⟩ := ob_eq.1 e12
    have hb1 := o1.le _ _ f1
    cases q <;> simp only [readyLoop] at e9 <;> first | cases e9 | skip
    rename_i st1
    obtain ⟨c', L1, p1, p2, _, _, _, _, p7⟩ := loop_obj o1.hrel e7
    rw [hb1] at p1; cases p1
    cases st1 <;> simp only [readySt] at e9 <;> first | cases e9 | skip
    obtain ⟨L2, q1, q2⟩ := setSt_ok e11 o1.hrel o1.nok hb1
    rw [p2] at q1; cases q1
    have o2 := q2 { L1 with state := .busy } rfl rfl rfl rfl rfl
    refine ⟨_, run_beginRound p2 p7.1, ?_⟩
    refine evC_ok hm hc (some b) bd T2 h2 x T3 h3 κ a1 _ (some c.id) 0 _ e13 ⟨c, hb1, rfl⟩ (Nat.zero_le _) g2 o2.hrel o2.nok (g3.step o2.evo) fun μ a3 w3 o3 _ _ => ?_
    exact endRound_ok e14 ((o1.trans o2).trans o3) (o3.le _ _ hb1)
  | exit id => cases e6
  | goto l => cases e6
  | ret => cases e6
theorem evF_ok (hm : P.follows .mixedOrders = true) : ∀ d, CallOk P (evF P N d)
  | 0 => ⟨fun f args h v h' e => (by cases (show (none : Option (AV × AH)) = some (v, h') from e)), fun f args h v h' e => (by cases (show (none : Option (AV × AH)) = some (v, h') from e))⟩
  | d + 1 => ⟨fun f args h v h' e ι w vals hh hn r => (by
      obtain ⟨fn, e1, e2⟩ := ob_eq.1 (show ob (P.funcs[f]?) (evFn P N (evF P N d) args h) = some (v, h') from e)
      exact fn_ok hm (evF_ok hm d) e1 e2 hh hn r),
    fun b args h v h' e ι w vals hh hn r => round_ok hm (evF_ok hm d) (show ob (h.objs.get b) (roundA P N (evF P N d) args h b) = some (v, h') from e) hh hn r⟩

/-! calls without arguments -/
/-- what is known of package variables -/
def GlobsOk (gs : Globs) (w : World) : Prop := ∀ p ∈ gs, ∃ e, w.heap[p.1]? = some (.cells ⟨p.2⟩ e (0, 0))
def globNm (gs : Globs) : Nm := fun b => if (gs.any fun p => p.1 == b) = true then some ⟨b, 0⟩ else none
theorem globHeap_get (gs : Globs) (n b : Nat) {o : AObj} (h : (globHeap gs n).objs.get b = some o) : ∃ p ∈ gs, p.1 = b ∧ o = .glob p.1 p.2 := by
  induction gs with
  | nil => cases (show (none : Option AObj) = some o from h)
  | cons q gs ih =>
    have h' : ((globHeap gs n).objs.set q.1 (.glob q.1 q.2)).get b = some o := h
    rw [Tr.get_set] at h'
    by_cases e : b = q.1
    · rw [if_pos e] at h'; cases h'; exact ⟨q, List.mem_cons_self .., e.symm, rfl⟩
    · rw [if_neg e] at h'
      obtain ⟨p, h1, h2⟩ := ih h'
      exact ⟨p, List.mem_cons_of_mem _ h1, h2⟩
theorem globNm_eq {gs : Globs} {b : Nat} {c : Blk} (h : globNm gs b = some c) : c = ⟨b, 0⟩ ∧ ∃ p ∈ gs, p.1 = b := by
  unfold globNm at h
  split at h
  · rename_i hx
    cases h
    obtain ⟨p, h1, h2⟩ := List.any_eq_true.1 hx
    exact ⟨rfl, p, h1, by simpa using h2⟩
  · cases h
/-- what a call without arguments says, if the evaluator says 'true' -/
theorem says_trueG {d f next : Nat} {gs : Globs} (hm : P.follows .mixedOrders = true) (e : saysTrueG P N d f gs next = true) (w : World) (hg : GlobsOk gs w) :
    Calls P f #[] w fun e w' => e = .returned (.bool true) ∧ Go.RowKit.Below w.heap.size w w' := by
  obtain ⟨e0, e⟩ := cnd3 (show cnd (globsLow gs next) _ false = true from e)
  cases h1 : evF P N d (.fn f) [] (globHeap gs next) with
  | none => rw [h1] at e; cases e
  | some q =>
    obtain ⟨v, h'⟩ := q
    rw [h1, optCase_some] at e
    have hlow : ∀ p ∈ gs, p.1 < next := fun p hp => ble_le (allL_iff.1 e0 p hp)
    have hn : NOk (globNm gs) (globHeap gs next).next w := fun b c hb => by
      obtain ⟨rfl, p, hp, rfl⟩ := globNm_eq hb
      obtain ⟨el, hc⟩ := hg p hp
      exact ⟨hlow p hp, (Array.getElem?_eq_some_iff.1 hc).1⟩
    have hh : HRel P (globNm gs) (globHeap gs next).objs.get w := by
      refine ⟨fun b o k1 k2 => ?_, fun b b' o o' c c' k1 k2 k3 k4 k5 k6 k7 => ?_⟩
      · obtain ⟨p, hp, rfl, rfl⟩ := globHeap_get gs next b k1
        obtain ⟨el, hc⟩ := hg p hp
        refine ⟨⟨p.1, 0⟩, _, ?_, hc, rfl, el, rfl⟩
        unfold globNm
        rw [if_pos (List.any_eq_true.2 ⟨p, hp, by simp⟩)]
      · obtain ⟨rfl, _⟩ := globNm_eq k5
        obtain ⟨rfl, _⟩ := globNm_eq k6
        exact k7
    refine callsIn_wide.1 (CallsIn.mono ((evF_ok hm d).fn f [] _ v h' h1 (globNm gs) w #[] hh hn .nil) fun en w' hen => ?_)
    obtain ⟨κ, v', rfl, g1, g2⟩ := hen
    unfold isTrue at e
    split at e
    · rename_i h2 heq
      cases heq
      cases g1
      refine ⟨rfl, g2.evo.os, g2.evo.tape, g2.evo.output, g2.evo.size, fun k hk => g2.evo.frame k hk fun b o c k1 k2 k3 k4 => ?_⟩
      obtain ⟨p, _, _, rfl⟩ := globHeap_get gs next b k1
      exact k2.elim
    · cases e
theorem says_true {d f : Nat} (hm : P.follows .mixedOrders = true) (e : saysTrue P N d f = true) (w : World) :
    Calls P f #[] w fun e w' => e = .returned (.bool true) ∧ Go.RowKit.Below w.heap.size w w' :=
  says_trueG hm e w fun p hp => by cases hp
end

end Go.Proofs.YtdjkbpenppdnlaaDoor
