/- Shafts: Huge, Copy, Same. -/
import Derived.Test.YtaaocomgmacjnabDoorA7

import Derived.Deep.RegionLawGrows

import Derived.Deep.AppendLies

import Derived.OwnWalk

import Derived.Deep.RegionHeld3

set_option linter.unusedSimpArgs false

set_option linter.unusedVariables false

namespace Go.Proofs.YtaaocomgmacjnabDoor

open Go.RowKit

/-- what a copy by append to an empty literal leaves -/
structure Copied (w w' : World) (x : Option Addr) (n : Nat) (y : Option Addr) : Prop where
  below : Below w.heap.size w w'
  here : 0 < n → ∃ b, y = some ⟨b, 0, none⟩ ∧ w.heap.size ≤ b ∧ b < w'.heap.size ∧ ∀ a, x = some a → ∀ j, j < n → w'.cell? ⟨b, j, none⟩ = w.cell? (a.add j)

theorem step_append_copy {P : Program} {ops : Array Oper} {o : Oper} {a : Act} {w : World} {K : Act → World → Prop} {Q : Exit → Act → World → Prop} {E : Prop}
    (hg : o.guard = none) (s x : Operand) (t : TypeId) (hop : o.op = Op.call { callee := Callee.builtin Builtin.append, args := #[s, x], argTypes := #[t, t] })
    (e : TypeId) (i : TypeInfo) (z : Value) (size bytes : Nat) (h1 : P.underlying t = some (.slice e)) (h2 : P.info? e = some i) (h3 : i.zero = some z) (h4 : i.size = size) (h5 : i.bytes = bytes) (h6 : z.cells.size = size) (h7 : 0 < size)
    (g : Nat) (hs : a.eval s = .slice (some ⟨g, 0, none⟩) 0 0)
    (ad : Option Addr) (m c : Nat) (hx : a.eval x = .slice ad m c)
    (hc : 0 < m → ∃ b o, ad = some ⟨b, o, none⟩ ∧ ∀ j, j < m * size → ∃ u, w.cell? ⟨b, o + j, none⟩ = some u ∧ u.oneCell' = true)
    (b1 : m ≤ maxLen) (b2 : m * bytes ≤ 140737488355328)
    (hK : ∀ y c' w', Copied w w' ad (m * size) y → K (a.put o.dst (.slice y m c')) w') :
    if Region.wanted o (yielded ops a.tmps) = true then Oper.wp P o a w K Q else E := by
  by_cases hm : 0 < m
  · obtain ⟨b, of, rfl, hcell⟩ := hc hm
    have hch : ∃ f : Nat → Value, ∀ j, j < m * size → w.cell? ⟨b, of + j, none⟩ = some (f j) ∧ (f j).oneCell' = true :=
      ⟨fun j => (w.cell? ⟨b, of + j, none⟩).getD undef, fun j hj => by obtain ⟨u, hu, hu1⟩ := hcell j hj; simp [hu, hu1]⟩
    obtain ⟨f, hf⟩ := hch
    have hadd : ∀ (x o j : Nat), (⟨x, o, none⟩ : Addr).add j = ⟨x, o + j, none⟩ := fun x o j => by unfold Addr.add; split <;> simp_all
    refine step_append_grows hg s x t hop e i z size bytes h1 h2 h3 h4 h5 h6 h7 (some ⟨g, 0, none⟩) 0 0 [] hs (by simp) (by simp) (by simp) ⟨b, of, none⟩ m c ((List.range (m * size)).map f) hx (by simp) ?_ ?_ (by omega) (by omega) (by rw [Nat.zero_add]; exact b2) ?_
    · intro j u hu
      have hj : j < m * size := by have := (List.getElem?_eq_some_iff.1 hu).1; simpa using this
      simp [hj] at hu
      rw [hadd, (hf j hj).1, hu]
    · intro u hu
      simp at hu
      obtain ⟨j, hj, rfl⟩ := hu
      exact (hf j hj).2
    · intro v' w' hown hgrow
      have hpos : 0 < m * size := Nat.mul_pos hm h7
      rcases hown.2 with ⟨_, h0⟩ | ⟨gb, cap, cur, rfl, hb, hgb, hle, _, hsz, htk⟩
      · omega
      · simp only [Nat.zero_add, List.nil_append] at *
        refine hK _ _ _ ⟨⟨hgrow.os, hgrow.tape, hgrow.output, hgrow.size, fun k hk => hgrow.block k hk (by simp)⟩, fun _ => ⟨gb, rfl, hb, ?_, ?_⟩⟩
        · exact (Array.getElem?_eq_some_iff.1 hgb).1
        · intro a' ha' j hj
          simp only [Option.some.injEq] at ha'
          subst ha'
          rw [hadd, (hf j hj).1, cell_of_row w' gb j cur e (0, 0) hgb]
          have h2 : (cur.toList.take (m * size))[j]? = some (f j) := by rw [htk]; simp [hj]
          rw [List.getElem?_take_of_lt hj] at h2
          simpa using h2
  · obtain rfl : m = 0 := by omega
    have hw : Region.wanted o (yielded ops a.tmps) = true := by simp [Region.wanted, hg]
    rw [if_pos hw]
    have hrun : (Builtin.append_ #[t, t] o.type #[.slice (some ⟨g, 0, none⟩) 0 0, .slice ad 0 c]).run P w = .ok (.slice (some ⟨g, 0, none⟩) 0 0) w := by
      cases ad <;> simp [Builtin.append_, run_underlying h1, sizeOf, typeInfo, h2, Builtin.lenOf, Builtin.firstCells, loadCells, loadCellsFrom, storeCells, Sem.run_bind]
    unfold Oper.wp
    simp [execOp, hop, resolve, invoke, builtin, hs, hx, hrun, Result.andThen]
    exact hK _ _ _ ⟨Below.refl _ _, fun h => by omega⟩

/-- as the law, the facts on the source lying in an elder world -/
theorem step_append_copy' {P : Program} {ops : Array Oper} {o : Oper} {a : Act} {w : World} {K : Act → World → Prop} {Q : Exit → Act → World → Prop} {E : Prop} (w0 : World)
    (hg : o.guard = none) (s x : Operand) (t : TypeId) (hop : o.op = Op.call { callee := Callee.builtin Builtin.append, args := #[s, x], argTypes := #[t, t] })
    (e : TypeId) (i : TypeInfo) (z : Value) (size bytes : Nat) (h1 : P.underlying t = some (.slice e)) (h2 : P.info? e = some i) (h3 : i.zero = some z) (h4 : i.size = size) (h5 : i.bytes = bytes) (h6 : z.cells.size = size) (h7 : 0 < size)
    (g : Nat) (hs : a.eval s = .slice (some ⟨g, 0, none⟩) 0 0)
    (ad : Option Addr) (m c : Nat) (hx : a.eval x = .slice ad m c)
    (hc : 0 < m → ∃ b o, ad = some ⟨b, o, none⟩ ∧ b < w0.heap.size ∧ ∀ j, j < m * size → ∃ u, w0.cell? ⟨b, o + j, none⟩ = some u ∧ u.oneCell' = true)
    (b1 : m ≤ maxLen) (b2 : m * bytes ≤ 140737488355328) (hb : Below w0.heap.size w0 w)
    (hK : ∀ y c' w', Below w0.heap.size w0 w' → Below w.heap.size w w' → (0 < m → ∃ b, y = some ⟨b, 0, none⟩ ∧ w.heap.size ≤ b ∧ b < w'.heap.size ∧ ∀ a, ad = some a → ∀ j, j < m * size → w'.cell? ⟨b, j, none⟩ = w0.cell? (a.add j)) → K (a.put o.dst (.slice y m c')) w') :
    if Region.wanted o (yielded ops a.tmps) = true then Oper.wp P o a w K Q else E :=
  step_append_copy hg s x t hop e i z size bytes h1 h2 h3 h4 h5 h6 h7 g hs ad m c hx
    (fun h => let ⟨b, o, e, hl, hu⟩ := hc h; ⟨b, o, e, fun j hj => let ⟨u, hu, h1⟩ := hu j hj; ⟨u, (hb.cell hl).trans hu, h1⟩⟩) b1 b2
    fun y c' w' hco => hK y c' w' (bT hb hco.below) hco.below fun h => by
      obtain ⟨b, o, e, hl, hu⟩ := hc h
      obtain ⟨b', e', h1, h2, h3⟩ := hco.here (Nat.mul_pos h h7)
      refine ⟨b', e', h1, h2, fun a ha j hj => (h3 a ha j hj).trans (hb.cell ?_)⟩
      rw [e] at ha
      simp only [Option.some.injEq] at ha
      subst ha
      unfold Addr.add; split <;> exact hl


theorem add_at (x o j : Nat) : (⟨x, o, none⟩ : Addr).add j = ⟨x, o + j, none⟩ := by unfold Addr.add; split <;> simp_all
def hugeS (S : Shaft) (m : Nat) : Bool := decide (40 < S.R.length) || (decide (40 < S.F.length) || decide (40 < m))
theorem huge_any (S : Shaft) (p q lp : Option Addr) (c d m lc : Nat) (w : World) (hF : S.F.length ≤ maxLen) (hR : S.R.length ≤ maxLen) (hm : m ≤ maxLen) :
    Calls Tryd.prog 6 #[.agg #[.slice q S.R.length d, .slice p S.F.length c, .int .i64 S.D, .int .i64 S.H, .int .i64 S.T], .slice lp m lc] w fun e w' => e = .returned (.bool (hugeS S m)) ∧ Below w.heap.size w w' := by
  unfold maxLen at hF hR hm
  by_cases h1 : 40 < S.R.length
  · have d1 : decide ((40 : Int) < (S.R.length : Int)) = true := by simp; omega
    have HR := Lib.hid (show true = hugeS S m from by simp [hugeS, h1])
    clear h1
    go_enter Tryd.func6, Tryd.ntmps6
    go_wp2
    go_ret
    exact ⟨ret_b HR.out, bA (Below.refl _ _) _⟩
  · have d1 : decide ((40 : Int) < (S.R.length : Int)) = false := by simp; omega
    by_cases h2 : 40 < S.F.length
    · have d2 : decide ((40 : Int) < (S.F.length : Int)) = true := by simp; omega
      have HR := Lib.hid (show true = hugeS S m from by simp [hugeS, h1, h2])
      clear h1 h2
      go_enter Tryd.func6, Tryd.ntmps6
      go_wp2
      go_ret
      exact ⟨ret_b HR.out, bA (Below.refl _ _) _⟩
    · have d2 : decide ((40 : Int) < (S.F.length : Int)) = false := by simp; omega
      by_cases h3 : 40 < m
      · have d3 : decide ((40 : Int) < (m : Int)) = true := by simp; omega
        have HR := Lib.hid (show true = hugeS S m from by simp [hugeS, h1, h2, h3])
        clear h1 h2 h3
        go_enter Tryd.func6, Tryd.ntmps6
        go_wp2
        go_ret
        exact ⟨ret_b HR.out, bA (Below.refl _ _) _⟩
      · have d3 : decide ((40 : Int) < (m : Int)) = false := by simp; omega
        have HR := Lib.hid (show false = hugeS S m from by simp [hugeS, h1, h2, h3])
        clear h1 h2 h3
        go_enter Tryd.func6, Tryd.ntmps6
        go_wp2
        go_ret
        exact ⟨ret_b HR.out, bA (Below.refl _ _) _⟩
theorem IntsAt.cells {w : World} {K b o : Nat} {l : List Int} (h : IntsAt w K b o l) : ∀ j, j < l.length * 1 → ∃ u, w.cell? ⟨b, o + j, none⟩ = some u ∧ u.oneCell' = true := fun j hj => ⟨_, h.cell j (by omega), rfl⟩
theorem RockAt.cells {w : World} {b o : Nat} {l : List Rock} (h : RockAt w b o l) : ∀ j, j < l.length * 4 → ∃ u, w.cell? ⟨b, o + j, none⟩ = some u ∧ u.oneCell' = true := fun j hj => by
  have hk : j / 4 < l.length := by omega
  have h3 : j % 4 = 0 ∨ j % 4 = 1 ∨ j % 4 = 2 ∨ j % 4 = 3 := by omega
  rcases h3 with h3 | h3 | h3 | h3
  · have t := h.c0 _ hk; rw [show o + j / 4 * 4 = o + j by omega] at t; exact ⟨_, t, rfl⟩
  · have t := h.c1 _ hk; rw [show o + j / 4 * 4 + 1 = o + j by omega] at t; exact ⟨_, t, rfl⟩
  · have t := h.c2 _ hk; rw [show o + j / 4 * 4 + 2 = o + j by omega] at t; exact ⟨_, t, rfl⟩
  · have t := h.c3 _ hk; rw [show o + j / 4 * 4 + 3 = o + j by omega] at t; exact ⟨_, t, rfl⟩
theorem ShaftIn.srcF {w : World} {K : Nat} {S : Shaft} {p q : Option Addr} (h : ShaftIn w K S p q) : 0 < S.F.length → ∃ b o, p = some ⟨b, o, none⟩ ∧ b < K ∧ ∀ j, j < S.F.length * 1 → ∃ u, w.cell? ⟨b, o + j, none⟩ = some u ∧ u.oneCell' = true := fun hs => by
  obtain ⟨b, o, e, hi⟩ := h.f hs
  exact ⟨b, o, e, hi.lt, hi.cells⟩
theorem ShaftIn.srcS {w : World} {K : Nat} {S : Shaft} {p q : Option Addr} (h : ShaftIn w K S p q) : 0 < S.R.length → ∃ b o, q = some ⟨b, o, none⟩ ∧ b < K ∧ ∀ j, j < S.R.length * 4 → ∃ u, w.cell? ⟨b, o + j, none⟩ = some u ∧ u.oneCell' = true := fun hs => by
  obtain ⟨b, o, e, hl, hi⟩ := h.s hs
  exact ⟨b, o, e, hl, hi.cells⟩
theorem info_parts {t : TypeId} {z : Value} {s b : Nat} (h : (Tryd.prog.info? t).map (fun i => (i.zero, i.size, i.bytes)) = some (some z, s, b)) : ∃ i, Tryd.prog.info? t = some i ∧ i.zero = some z ∧ i.size = s ∧ i.bytes = b := by
  cases e : Tryd.prog.info? t with
  | none => rw [e] at h; cases h
  | some i => rw [e] at h; simp at h; exact ⟨i, rfl, h.1, h.2.1, h.2.2⟩
theorem infoI : (Tryd.prog.info? 3).map (fun i => (i.zero, i.size, i.bytes)) = some (some (.int .i64 0), 1, 8) := by kernel_rfl
theorem infoS : (Tryd.prog.info? 55).map (fun i => (i.zero, i.size, i.bytes)) = some (some (.agg #[.int .i64 0, .int .i64 0, .int .i64 0, .int .i64 0]), 4, 32) := by kernel_rfl
theorem copy_end {w3 w2 wf : World} {S : Shaft} {p q y1 y2 : Option Addr} (ht : ShaftIn w3 w3.heap.size S p q)
    (h1 : 0 < S.F.length → ∃ b, y1 = some ⟨b, 0, none⟩ ∧ w3.heap.size ≤ b ∧ b < w2.heap.size ∧ ∀ a, p = some a → ∀ j, j < S.F.length * 1 → w2.cell? ⟨b, j, none⟩ = w3.cell? (a.add j))
    (h2 : 0 < S.R.length → ∃ b, y2 = some ⟨b, 0, none⟩ ∧ w3.heap.size ≤ b ∧ b < w2.heap.size ∧ ∀ a, q = some a → ∀ j, j < S.R.length * 4 → w2.cell? ⟨b, j, none⟩ = w3.cell? (a.add j))
    (hc : ∀ b j, w3.heap.size ≤ b → wf.cell? ⟨b, j, none⟩ = w2.cell? ⟨b, j, none⟩) (hz : wf.heap.size = w2.heap.size) : ShaftIn wf wf.heap.size S y1 y2 := by
  refine ⟨fun h => ?_, fun h => ?_⟩
  · obtain ⟨b, e, l1, l2, f⟩ := h1 h
    obtain ⟨b0, o0, rfl, a⟩ := ht.f h
    have g : ∀ j, j < S.F.length * 1 → wf.cell? ⟨b, j, none⟩ = w3.cell? ⟨b0, o0 + j, none⟩ := fun j hj => by rw [hc b j l1, f _ rfl j hj, add_at]
    exact ⟨b, 0, e, by omega, fun k hk => by rw [Nat.zero_add, g k (by omega)]; exact a.cell k hk⟩
  · obtain ⟨b, e, l1, l2, f⟩ := h2 h
    obtain ⟨b0, o0, rfl, _, a⟩ := ht.s h
    have g : ∀ j, j < S.R.length * 4 → wf.cell? ⟨b, j, none⟩ = w3.cell? ⟨b0, o0 + j, none⟩ := fun j hj => by rw [hc b j l1, f _ rfl j hj, add_at]
    refine ⟨b, 0, e, by omega, ⟨fun k hk => ?_, fun k hk => ?_, fun k hk => ?_, fun k hk => ?_⟩⟩
    · rw [Nat.zero_add, g _ (by omega)]; exact a.c0 k hk
    · rw [Nat.zero_add, g _ (by omega)]; exact a.c1 k hk
    · rw [Nat.zero_add, g _ (by omega)]; exact a.c2 k hk
    · rw [Nat.zero_add, g _ (by omega)]; exact a.c3 k hk
theorem three_shafts (w : World) (S : Shaft) (p q : Option Addr) (c d : Nat) : ∃ w3, (((w.alloc (Obj.cells #[Value.slice q S.R.length d, Value.slice p S.F.length c, Value.int IntKind.i64 S.D, Value.int IntKind.i64 S.H, Value.int IntKind.i64 S.T] 25)).alloc (Obj.cells #[Value.slice none 0 0, Value.slice none 0 0, Value.int IntKind.i64 0, Value.int IntKind.i64 0, Value.int IntKind.i64 0] 25)).alloc (Obj.cells #[Value.slice q S.R.length d, Value.slice p S.F.length c, Value.int IntKind.i64 S.D, Value.int IntKind.i64 S.H, Value.int IntKind.i64 S.T] 25)) = w3 ∧ Below w.heap.size w w3 ∧ w3.heap.size = w.heap.size + 3 ∧ w3.cell? ⟨w.heap.size, 0, none⟩ = some (.slice q S.R.length d) ∧ w3.cell? ⟨w.heap.size, 1, none⟩ = some (.slice p S.F.length c) ∧ w3.cell? ⟨w.heap.size + 1 + 1, 0, none⟩ = some (.slice q S.R.length d) ∧ w3.cell? ⟨w.heap.size + 1 + 1, 1, none⟩ = some (.slice p S.F.length c) ∧ w3.cell? ⟨w.heap.size + 1 + 1, 2, none⟩ = some (.int .i64 S.D) ∧ w3.cell? ⟨w.heap.size + 1 + 1, 3, none⟩ = some (.int .i64 S.H) ∧ w3.cell? ⟨w.heap.size + 1 + 1, 4, none⟩ = some (.int .i64 S.T) ∧ w3.cell? ⟨w.heap.size + 1, 0, none⟩ = some (.slice none 0 0) ∧ w3.cell? ⟨w.heap.size + 1, 1, none⟩ = some (.slice none 0 0) ∧ w3.cell? ⟨w.heap.size + 1, 2, none⟩ = some (.int .i64 0) ∧ w3.cell? ⟨w.heap.size + 1, 3, none⟩ = some (.int .i64 0) ∧ w3.cell? ⟨w.heap.size + 1, 4, none⟩ = some (.int .i64 0) ∧ (∀ i, w3.frozen? ⟨w.heap.size + 1 + 1, i, none⟩ = false) ∧ (∀ i, w3.frozen? ⟨w.heap.size + 1, i, none⟩ = false) :=
  ⟨_, rfl, bA (bA (bA (Below.refl _ _) _) _) _, by simp, by go_simp, by go_simp, by go_simp, by go_simp, by go_simp, by go_simp, by go_simp, by go_simp, by go_simp, by go_simp, by go_simp, by go_simp, fun i => by go_simp, fun i => by go_simp⟩
set_option maxRecDepth 100000 in
set_option maxHeartbeats 2000000 in
theorem copy_any (S : Shaft) (p q : Option Addr) (c d : Nat) (w : World) (hF : S.F.length ≤ 1000) (hR : S.R.length ≤ 1000) (ht : ShaftIn w w.heap.size S p q) :
    Calls Tryd.prog 8 #[.agg #[.slice q S.R.length d, .slice p S.F.length c, .int .i64 S.D, .int .i64 S.H, .int .i64 S.T]] w fun e w' => ∃ p' c' q' d', e = .returned (.agg #[.slice q' S.R.length d', .slice p' S.F.length c', .int .i64 S.D, .int .i64 S.H, .int .i64 S.T]) ∧ Below w.heap.size w w' ∧ ShaftIn w' w'.heap.size S p' q' := by
  obtain ⟨i3, hi3, hz3, hz3', hz3''⟩ := info_parts infoI
  obtain ⟨i4, hi4, hz4, hz4', hz4''⟩ := info_parts infoS
  have S1 := Lib.hid (show S.F.length ≤ maxLen by unfold maxLen; omega); have S2 := Lib.hid (show S.R.length ≤ maxLen by unfold maxLen; omega)
  have I3 := Lib.hid hi3; have Z3 := Lib.hid hz3; have Z3' := Lib.hid hz3'; have Z3'' := Lib.hid hz3''; clear hi3 hz3 hz3' hz3''
  have I4 := Lib.hid hi4; have Z4 := Lib.hid hz4; have Z4' := Lib.hid hz4'; have Z4'' := Lib.hid hz4''; clear hi4 hz4 hz4' hz4''
  obtain ⟨w3, hw3, hB3, hsz, k1, k3, o0, o1, o2, o3, o4, r0, r1, r2, r3, r4, fo, fr⟩ := three_shafts w S p q c d
  have HT := Lib.hid (ht.bel hB3)
  have HB := Lib.hid hB3
  have HZ := Lib.hid hsz
  have zl : w.heap.size + 2 < w3.heap.size := by omega
  clear ht hB3 hsz
  go_enter Tryd.func8, Tryd.ntmps8
  go_wp2
  try rw [hw3]
  go_region_held3 (fun w' => w'.cell? ⟨w.heap.size, 0, none⟩ = some (.slice q S.R.length d) ∧ w'.cell? ⟨w.heap.size, 1, none⟩ = some (.slice p S.F.length c))
    (first
      | go_keep
      | exact ⟨k1a, k3a⟩
      | exact ⟨k1b, k3b⟩
      | (refine ⟨?_, ?_⟩ <;> (rw [World.cell?_setCell_other _ _ _ _ (by simp; try omega)]; assumption))
      | (refine ⟨?_, ?_⟩ <;> (rw [World.cell?_setCell_other _ _ _ _ (by simp; try omega), World.cell?_setCell_other _ _ _ _ (by simp; try omega)]; assumption))
      | (constructor <;> simp [World.cell?_setCell_other, *]))
    (first
    | (refine step_append_copy' w3 rfl (.tmp 5) (.tmp 7) 22 rfl 55 i4 _ 4 32 Tryd.underlying22 I4.out Z4.out Z4'.out Z4''.out rfl (by decide) _ (by simp [Act.eval, Act.put]; rfl) q S.R.length d (by simp [Act.eval, Act.put]) HT.out.srcS S2.out (by omega) (by repeat (first | assumption | exact Below.refl _ _ | refine bA ?_ _ | refine bd ?_)) ?_; intro y1 c1 w1 hB1 hb1 hc1; have k1a := (hB1.cell (p := ⟨w.heap.size, 0, none⟩) (by simp only; omega)).trans k1; have k3a := (hB1.cell (p := ⟨w.heap.size, 1, none⟩) (by simp only; omega)).trans k3; have zl1 := Nat.lt_of_lt_of_le zl hB1.size; have HC1 := Lib.hid hc1; clear hc1)
    | (refine step_append_copy' w3 rfl (.tmp 9) (.tmp 11) 23 rfl 3 i3 _ 1 8 Tryd.underlying23 I3.out Z3.out Z3'.out Z3''.out rfl (by decide) _ (by simp [Act.eval, Act.put]; rfl) p S.F.length c (by simp [Act.eval, Act.put]) HT.out.srcF S1.out (by omega) (by repeat (first | assumption | exact Below.refl _ _ | refine bA ?_ _ | refine bd ?_)) ?_; intro y2 c2 w2 hB2 hb2 hc2; have k1b := (hB2.cell (p := ⟨w.heap.size, 0, none⟩) (by simp only; omega)).trans k1; have k3b := (hB2.cell (p := ⟨w.heap.size, 1, none⟩) (by simp only; omega)).trans k3; have o0b := (hB2.cell (p := ⟨w.heap.size + 1 + 1, 0, none⟩) (by simp only; omega)).trans o0; have o1b := (hB2.cell (p := ⟨w.heap.size + 1 + 1, 1, none⟩) (by simp only; omega)).trans o1; have o2b := (hB2.cell (p := ⟨w.heap.size + 1 + 1, 2, none⟩) (by simp only; omega)).trans o2; have o3b := (hB2.cell (p := ⟨w.heap.size + 1 + 1, 3, none⟩) (by simp only; omega)).trans o3; have o4b := (hB2.cell (p := ⟨w.heap.size + 1 + 1, 4, none⟩) (by simp only; omega)).trans o4; have r0b := (hB2.cell (p := ⟨w.heap.size + 1, 0, none⟩) (by simp only; omega)).trans r0; have r1b := (hB2.cell (p := ⟨w.heap.size + 1, 1, none⟩) (by simp only; omega)).trans r1; have r2b := (hB2.cell (p := ⟨w.heap.size + 1, 2, none⟩) (by simp only; omega)).trans r2; have r3b := (hB2.cell (p := ⟨w.heap.size + 1, 3, none⟩) (by simp only; omega)).trans r3; have r4b := (hB2.cell (p := ⟨w.heap.size + 1, 4, none⟩) (by simp only; omega)).trans r4; have fob : ∀ i, w2.frozen? ⟨w.heap.size + 1 + 1, i, none⟩ = false := fun i => (hB2.frozen (p := ⟨w.heap.size + 1 + 1, i, none⟩) (by simp only; omega)).trans (fo i); have frb : ∀ i, w2.frozen? ⟨w.heap.size + 1, i, none⟩ = false := fun i => (hB2.frozen (p := ⟨w.heap.size + 1, i, none⟩) (by simp only; omega)).trans (fr i); have zl2 := Nat.lt_of_lt_of_le zl hB2.size; have HC2 := Lib.hid hc2; clear hc2))
  all_goals
    have K1 : 0 < S.R.length → ∃ b, y1 = some ⟨b, 0, none⟩ ∧ w3.heap.size ≤ b ∧ b < w2.heap.size ∧ ∀ a, q = some a → ∀ j, j < S.R.length * 4 → w2.cell? ⟨b, j, none⟩ = w3.cell? (a.add j) := fun h => by
      obtain ⟨b, e, l1, l2, f⟩ := HC1.out h
      simp at l1
      refine ⟨b, e, by omega, by have t := hb2.size; (try simp at t); omega, fun a ha j hj => ((hb2.cell (by simp; try omega)).trans ?_).trans (f a ha j hj)⟩
      first | rfl | exact World.cell?_alloc_past _ _ _ l2
    have K2 : 0 < S.F.length → ∃ b, y2 = some ⟨b, 0, none⟩ ∧ w3.heap.size ≤ b ∧ b < w2.heap.size ∧ ∀ a, p = some a → ∀ j, j < S.F.length * 1 → w2.cell? ⟨b, j, none⟩ = w3.cell? (a.add j) := fun h => by
      obtain ⟨b, e, l1, l2, f⟩ := HC2.out h
      have t := hb1.size
      have t2 := hB1.size
      simp at l1 t
      exact ⟨b, e, by omega, l2, f⟩
    have HK1 := Lib.hid K1
    have HK2 := Lib.hid K2
    have HB2 := Lib.hid (bT HB.out hB2)
    have HZ3 := HZ.out
    have HL : w.heap.size + 2 < w2.heap.size := zl2
    clear K1 K2 HC1 HC2 hb1 hb2 hB1 hB2 k1 k3 k1a k3a k1b k3b o0 o1 o2 o3 o4 r0 r1 r2 r3 r4 fo fr
    go_wp2
    refine bodyPost_ret (v := .agg #[.slice y1 S.R.length c1, .slice y2 S.F.length c2, .int .i64 S.D, .int .i64 S.H, .int .i64 S.T]) ?_ rfl ?_
    case refine_2 =>
      refine ⟨y2, c2, y1, c1, rfl, ?_,
        copy_end HT.out HK2.out HK1.out (fun b j hb => by
          have g1 : b ≠ w.heap.size + 1 := by omega
          have g2 : b ≠ w.heap.size + 1 + 1 := by omega
          simp [World.cell?_setCell_other, g1, g2, Ne.symm g1, Ne.symm g2]) (by simp)⟩
      iterate 7 (refine bS ?_ (by simp; try omega) _)
      exact HB2.out
    simp [results, Tryd.results8, go_sem, o2b, o3b, o4b, r0b, r1b, r2b, r3b, r4b]
end Go.Proofs.YtaaocomgmacjnabDoor
