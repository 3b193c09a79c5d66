/- Books of dowsers: Huge, Copy. -/
import Derived.Test.YtaaocomgmacjnaaA7

import Derived.Deep.RegionLawGrows

import Derived.Deep.AppendLies

import Derived.OwnWalk

set_option linter.unusedSimpArgs false

set_option linter.unusedVariables false

namespace Go.Proofs.Ytaaocomgmacjnaa

open Go.RowKit

/-- what a copy by append to an empty literal leaves -/
structure Copied (w w' : World) (x : Option Addr) (n : Nat) (y : Option Addr) : Prop where
  below : Below w.heap.size w w'
  here : 0 < n → ∃ b, y = some ⟨b, 0, none⟩ ∧ w.heap.size ≤ b ∧ b < w'.heap.size ∧ ∀ a, x = some a → ∀ j, j < n → w'.cell? ⟨b, j, none⟩ = w.cell? (a.add j)

theorem step_append_copy {P : Program} {ops : Array Oper} {o : Oper} {a : Act} {w : World} {K : Act → World → Prop} {Q : Exit → Act → World → Prop} {E : Prop}
    (hg : o.guard = none) (s x : Operand) (t : TypeId) (hop : o.op = Op.call { callee := Callee.builtin Builtin.append, args := #[s, x], argTypes := #[t, t] })
    (e : TypeId) (i : TypeInfo) (z : Value) (size bytes : Nat) (h1 : P.underlying t = some (.slice e)) (h2 : P.info? e = some i) (h3 : i.zero = some z) (h4 : i.size = size) (h5 : i.bytes = bytes) (h6 : z.cells.size = size) (h7 : 0 < size)
    (g : Nat) (hs : a.eval s = .slice (some ⟨g, 0, none⟩) 0 0)
    (ad : Option Addr) (m c : Nat) (hx : a.eval x = .slice ad m c)
    (hc : 0 < m → ∃ b o, ad = some ⟨b, o, none⟩ ∧ ∀ j, j < m * size → ∃ u, w.cell? ⟨b, o + j, none⟩ = some u ∧ u.oneCell' = true)
    (b1 : m ≤ maxLen) (b2 : m * bytes ≤ 140737488355328)
    (hK : ∀ y c' w', Copied w w' ad (m * size) y → K (a.put o.dst (.slice y m c')) w') :
    if Region.wanted o (yielded ops a.tmps) = true then Oper.wp P o a w K Q else E := by
  by_cases hm : 0 < m
  · obtain ⟨b, of, rfl, hcell⟩ := hc hm
    have hch : ∃ f : Nat → Value, ∀ j, j < m * size → w.cell? ⟨b, of + j, none⟩ = some (f j) ∧ (f j).oneCell' = true :=
      ⟨fun j => (w.cell? ⟨b, of + j, none⟩).getD undef, fun j hj => by obtain ⟨u, hu, hu1⟩ := hcell j hj; simp [hu, hu1]⟩
    obtain ⟨f, hf⟩ := hch
    have hadd : ∀ (x o j : Nat), (⟨x, o, none⟩ : Addr).add j = ⟨x, o + j, none⟩ := fun x o j => by unfold Addr.add; split <;> simp_all
    refine step_append_grows hg s x t hop e i z size bytes h1 h2 h3 h4 h5 h6 h7 (some ⟨g, 0, none⟩) 0 0 [] hs (by simp) (by simp) (by simp) ⟨b, of, none⟩ m c ((List.range (m * size)).map f) hx (by simp) ?_ ?_ (by omega) (by omega) (by rw [Nat.zero_add]; exact b2) ?_
    · intro j u hu
      have hj : j < m * size := by have := (List.getElem?_eq_some_iff.1 hu).1; simpa using this
      simp [hj] at hu
      rw [hadd, (hf j hj).1, hu]
    · intro u hu
      simp at hu
      obtain ⟨j, hj, rfl⟩ := hu
      exact (hf j hj).2
    · intro v' w' hown hgrow
      have hpos : 0 < m * size := Nat.mul_pos hm h7
      rcases hown.2 with ⟨_, h0⟩ | ⟨gb, cap, cur, rfl, hb, hgb, hle, _, hsz, htk⟩
      · omega
      · simp only [Nat.zero_add, List.nil_append] at *
        refine hK _ _ _ ⟨⟨hgrow.os, hgrow.tape, hgrow.output, hgrow.size, fun k hk => hgrow.block k hk (by simp)⟩, fun _ => ⟨gb, rfl, hb, ?_, ?_⟩⟩
        · exact (Array.getElem?_eq_some_iff.1 hgb).1
        · intro a' ha' j hj
          simp only [Option.some.injEq] at ha'
          subst ha'
          rw [hadd, (hf j hj).1, cell_of_row w' gb j cur e (0, 0) hgb]
          have h2 : (cur.toList.take (m * size))[j]? = some (f j) := by rw [htk]; simp [hj]
          rw [List.getElem?_take_of_lt hj] at h2
          simpa using h2
  · obtain rfl : m = 0 := by omega
    have hw : Region.wanted o (yielded ops a.tmps) = true := by simp [Region.wanted, hg]
    rw [if_pos hw]
    have hrun : (Builtin.append_ #[t, t] o.type #[.slice (some ⟨g, 0, none⟩) 0 0, .slice ad 0 c]).run P w = .ok (.slice (some ⟨g, 0, none⟩) 0 0) w := by
      cases ad <;> simp [Builtin.append_, run_underlying h1, sizeOf, typeInfo, h2, Builtin.lenOf, Builtin.firstCells, loadCells, loadCellsFrom, storeCells, Sem.run_bind]
    unfold Oper.wp
    simp [execOp, hop, resolve, invoke, builtin, hs, hx, hrun, Result.andThen]
    exact hK _ _ _ ⟨Below.refl _ _, fun h => by omega⟩

/-- as the law, the facts on the source lying in an elder world -/
theorem step_append_copy' {P : Program} {ops : Array Oper} {o : Oper} {a : Act} {w : World} {K : Act → World → Prop} {Q : Exit → Act → World → Prop} {E : Prop} (w0 : World)
    (hg : o.guard = none) (s x : Operand) (t : TypeId) (hop : o.op = Op.call { callee := Callee.builtin Builtin.append, args := #[s, x], argTypes := #[t, t] })
    (e : TypeId) (i : TypeInfo) (z : Value) (size bytes : Nat) (h1 : P.underlying t = some (.slice e)) (h2 : P.info? e = some i) (h3 : i.zero = some z) (h4 : i.size = size) (h5 : i.bytes = bytes) (h6 : z.cells.size = size) (h7 : 0 < size)
    (g : Nat) (hs : a.eval s = .slice (some ⟨g, 0, none⟩) 0 0)
    (ad : Option Addr) (m c : Nat) (hx : a.eval x = .slice ad m c)
    (hc : 0 < m → ∃ b o, ad = some ⟨b, o, none⟩ ∧ b < w0.heap.size ∧ ∀ j, j < m * size → ∃ u, w0.cell? ⟨b, o + j, none⟩ = some u ∧ u.oneCell' = true)
    (b1 : m ≤ maxLen) (b2 : m * bytes ≤ 140737488355328) (hb : Below w0.heap.size w0 w)
    (hK : ∀ y c' w', Below w0.heap.size w0 w' → Below w.heap.size w w' → (0 < m → ∃ b, y = some ⟨b, 0, none⟩ ∧ w.heap.size ≤ b ∧ b < w'.heap.size ∧ ∀ a, ad = some a → ∀ j, j < m * size → w'.cell? ⟨b, j, none⟩ = w0.cell? (a.add j)) → K (a.put o.dst (.slice y m c')) w') :
    if Region.wanted o (yielded ops a.tmps) = true then Oper.wp P o a w K Q else E :=
  step_append_copy hg s x t hop e i z size bytes h1 h2 h3 h4 h5 h6 h7 g hs ad m c hx
    (fun h => let ⟨b, o, e, hl, hu⟩ := hc h; ⟨b, o, e, fun j hj => let ⟨u, hu, h1⟩ := hu j hj; ⟨u, (hb.cell hl).trans hu, h1⟩⟩) b1 b2
    fun y c' w' hco => hK y c' w' (bT hb hco.below) hco.below fun h => by
      obtain ⟨b, o, e, hl, hu⟩ := hc h
      obtain ⟨b', e', h1, h2, h3⟩ := hco.here (Nat.mul_pos h h7)
      refine ⟨b', e', h1, h2, fun a ha j hj => (h3 a ha j hj).trans (hb.cell ?_)⟩
      rw [e] at ha
      simp only [Option.some.injEq] at ha
      subst ha
      unfold Addr.add; split <;> exact hl


theorem add_at (x o j : Nat) : (⟨x, o, none⟩ : Addr).add j = ⟨x, o + j, none⟩ := by unfold Addr.add; split <;> simp_all
def hugeB (B : Book) : Bool := decide (40 < B.F.length) || decide (40 < B.S.length)
theorem huge_any (B : Book) (p q : Option Addr) (c d : Nat) (w : World) (hF : B.F.length ≤ maxLen) (hS : B.S.length ≤ maxLen) :
    Calls Try.prog 16 #[.agg #[.int .i64 B.D, .slice p B.F.length c, .int .i64 B.N, .slice q B.S.length d, .int .i64 B.P]] w fun e w' => e = .returned (.bool (hugeB B)) ∧ Below w.heap.size w w' := by
  unfold maxLen at hF hS
  by_cases h1 : 40 < B.F.length
  · have d1 : decide ((40 : Int) < (B.F.length : Int)) = true := by simp; omega
    have HR := Lib.hid (show true = hugeB B from by simp [hugeB, h1])
    clear h1
    go_enter Try.func16, Try.ntmps16
    go_wp2
    go_ret
    exact ⟨ret_b HR.out, bA (Below.refl _ _) _⟩
  · have d1 : decide ((40 : Int) < (B.F.length : Int)) = false := by simp; omega
    by_cases h2 : 40 < B.S.length
    · have d2 : decide ((40 : Int) < (B.S.length : Int)) = true := by simp; omega
      have HR := Lib.hid (show true = hugeB B from by simp [hugeB, h2])
      clear h1 h2
      go_enter Try.func16, Try.ntmps16
      go_wp2
      go_ret
      exact ⟨ret_b HR.out, bA (Below.refl _ _) _⟩
    · have d2 : decide ((40 : Int) < (B.S.length : Int)) = false := by simp; omega
      have HR := Lib.hid (show false = hugeB B from by simp [hugeB, h1, h2])
      clear h1 h2
      go_enter Try.func16, Try.ntmps16
      go_wp2
      go_ret
      exact ⟨ret_b HR.out, bA (Below.refl _ _) _⟩
theorem IntsAt.cells {w : World} {K b o : Nat} {l : List Int} (h : IntsAt w K b o l) : ∀ j, j < l.length * 1 → ∃ u, w.cell? ⟨b, o + j, none⟩ = some u ∧ u.oneCell' = true := fun j hj => ⟨_, h.cell j (by omega), rfl⟩
theorem SayAt.cells {w : World} {b o : Nat} {l : List Say} (h : SayAt w b o l) : ∀ j, j < l.length * 4 → ∃ u, w.cell? ⟨b, o + j, none⟩ = some u ∧ u.oneCell' = true := fun j hj => by
  have hk : j / 4 < l.length := by omega
  have h3 : j % 4 = 0 ∨ j % 4 = 1 ∨ j % 4 = 2 ∨ j % 4 = 3 := by omega
  rcases h3 with h3 | h3 | h3 | h3
  · have t := h.c0 _ hk; rw [show o + j / 4 * 4 = o + j by omega] at t; exact ⟨_, t, rfl⟩
  · have t := h.c1 _ hk; rw [show o + j / 4 * 4 + 1 = o + j by omega] at t; exact ⟨_, t, rfl⟩
  · have t := h.c2 _ hk; rw [show o + j / 4 * 4 + 2 = o + j by omega] at t; exact ⟨_, t, rfl⟩
  · have t := h.c3 _ hk; rw [show o + j / 4 * 4 + 3 = o + j by omega] at t; exact ⟨_, t, rfl⟩
theorem BookIn.srcF {w : World} {K : Nat} {B : Book} {p q : Option Addr} (h : BookIn w K B p q) : 0 < B.F.length → ∃ b o, p = some ⟨b, o, none⟩ ∧ b < K ∧ ∀ j, j < B.F.length * 1 → ∃ u, w.cell? ⟨b, o + j, none⟩ = some u ∧ u.oneCell' = true := fun hs => by
  obtain ⟨b, o, e, hi⟩ := h.f hs
  exact ⟨b, o, e, hi.lt, hi.cells⟩
theorem BookIn.srcS {w : World} {K : Nat} {B : Book} {p q : Option Addr} (h : BookIn w K B p q) : 0 < B.S.length → ∃ b o, q = some ⟨b, o, none⟩ ∧ b < K ∧ ∀ j, j < B.S.length * 4 → ∃ u, w.cell? ⟨b, o + j, none⟩ = some u ∧ u.oneCell' = true := fun hs => by
  obtain ⟨b, o, e, hl, hi⟩ := h.s hs
  exact ⟨b, o, e, hl, hi.cells⟩
theorem infoI : (Try.prog.info? 3).map (fun i => (i.zero, i.size, i.bytes)) = some (some (.int .i64 0), 1, 8) := by kernel_rfl
theorem infoS : (Try.prog.info? 33).map (fun i => (i.zero, i.size, i.bytes)) = some (some (.agg #[.int .i64 0, .int .i64 0, .int .i64 0, .int .i64 0]), 4, 32) := by kernel_rfl
theorem copy_end {w3 w2 wf : World} {B : Book} {p q y1 y2 : Option Addr} (ht : BookIn w3 w3.heap.size B p q)
    (h1 : 0 < B.F.length → ∃ b, y1 = some ⟨b, 0, none⟩ ∧ w3.heap.size ≤ b ∧ b < w2.heap.size ∧ ∀ a, p = some a → ∀ j, j < B.F.length * 1 → w2.cell? ⟨b, j, none⟩ = w3.cell? (a.add j))
    (h2 : 0 < B.S.length → ∃ b, y2 = some ⟨b, 0, none⟩ ∧ w3.heap.size ≤ b ∧ b < w2.heap.size ∧ ∀ a, q = some a → ∀ j, j < B.S.length * 4 → w2.cell? ⟨b, j, none⟩ = w3.cell? (a.add j))
    (hc : ∀ b j, w3.heap.size ≤ b → wf.cell? ⟨b, j, none⟩ = w2.cell? ⟨b, j, none⟩) (hz : wf.heap.size = w2.heap.size) : BookIn wf wf.heap.size B y1 y2 := by
  refine ⟨fun h => ?_, fun h => ?_⟩
  · obtain ⟨b, e, l1, l2, f⟩ := h1 h
    obtain ⟨b0, o0, rfl, a⟩ := ht.f h
    have g : ∀ j, j < B.F.length * 1 → wf.cell? ⟨b, j, none⟩ = w3.cell? ⟨b0, o0 + j, none⟩ := fun j hj => by rw [hc b j l1, f _ rfl j hj, add_at]
    exact ⟨b, 0, e, by omega, fun k hk => by rw [Nat.zero_add, g k (by omega)]; exact a.cell k hk⟩
  · obtain ⟨b, e, l1, l2, f⟩ := h2 h
    obtain ⟨b0, o0, rfl, _, a⟩ := ht.s h
    have g : ∀ j, j < B.S.length * 4 → wf.cell? ⟨b, j, none⟩ = w3.cell? ⟨b0, o0 + j, none⟩ := fun j hj => by rw [hc b j l1, f _ rfl j hj, add_at]
    refine ⟨b, 0, e, by omega, ⟨fun k hk => ?_, fun k hk => ?_, fun k hk => ?_, fun k hk => ?_⟩⟩
    · rw [Nat.zero_add, g _ (by omega)]; exact a.c0 k hk
    · rw [Nat.zero_add, g _ (by omega)]; exact a.c1 k hk
    · rw [Nat.zero_add, g _ (by omega)]; exact a.c2 k hk
    · rw [Nat.zero_add, g _ (by omega)]; exact a.c3 k hk
theorem three_books (w : World) (B : Book) (p q : Option Addr) (c d : Nat) : ∃ w3, (((w.alloc (Obj.cells #[Value.int IntKind.i64 B.D, Value.slice p B.F.length c, Value.int IntKind.i64 B.N, Value.slice q B.S.length d, Value.int IntKind.i64 B.P] 25)).alloc (Obj.cells #[Value.int IntKind.i64 0, Value.slice none 0 0, Value.int IntKind.i64 0, Value.slice none 0 0, Value.int IntKind.i64 0] 25)).alloc (Obj.cells #[Value.int IntKind.i64 B.D, Value.slice p B.F.length c, Value.int IntKind.i64 B.N, Value.slice q B.S.length d, Value.int IntKind.i64 B.P] 25)) = w3 ∧ Below w.heap.size w w3 ∧ w3.heap.size = w.heap.size + 3 ∧ w3.cell? ⟨w.heap.size, 1, none⟩ = some (.slice p B.F.length c) ∧ w3.cell? ⟨w.heap.size, 3, none⟩ = some (.slice q B.S.length d) ∧ w3.cell? ⟨w.heap.size + 1 + 1, 0, none⟩ = some (.int .i64 B.D) ∧ w3.cell? ⟨w.heap.size + 1 + 1, 1, none⟩ = some (.slice p B.F.length c) ∧ w3.cell? ⟨w.heap.size + 1 + 1, 2, none⟩ = some (.int .i64 B.N) ∧ w3.cell? ⟨w.heap.size + 1 + 1, 3, none⟩ = some (.slice q B.S.length d) ∧ w3.cell? ⟨w.heap.size + 1 + 1, 4, none⟩ = some (.int .i64 B.P) ∧ w3.cell? ⟨w.heap.size + 1, 0, none⟩ = some (.int .i64 0) ∧ w3.cell? ⟨w.heap.size + 1, 1, none⟩ = some (.slice none 0 0) ∧ w3.cell? ⟨w.heap.size + 1, 2, none⟩ = some (.int .i64 0) ∧ w3.cell? ⟨w.heap.size + 1, 3, none⟩ = some (.slice none 0 0) ∧ w3.cell? ⟨w.heap.size + 1, 4, none⟩ = some (.int .i64 0) ∧ (∀ i, w3.frozen? ⟨w.heap.size + 1 + 1, i, none⟩ = false) ∧ (∀ i, w3.frozen? ⟨w.heap.size + 1, i, none⟩ = false) :=
  ⟨_, rfl, bA (bA (bA (Below.refl _ _) _) _) _, by simp, by go_simp, by go_simp, by go_simp, by go_simp, by go_simp, by go_simp, by go_simp, by go_simp, by go_simp, by go_simp, by go_simp, by go_simp, fun i => by go_simp, fun i => by go_simp⟩
set_option maxRecDepth 100000 in
set_option maxHeartbeats 2000000 in
theorem copy_any (B : Book) (p q : Option Addr) (c d : Nat) (w : World) (hF : B.F.length ≤ 1000) (hS : B.S.length ≤ 1000) (ht : BookIn w w.heap.size B p q) :
    Calls Try.prog 12 #[.agg #[.int .i64 B.D, .slice p B.F.length c, .int .i64 B.N, .slice q B.S.length d, .int .i64 B.P]] w fun e w' => ∃ p' c' q' d', e = .returned (.agg #[.int .i64 B.D, .slice p' B.F.length c', .int .i64 B.N, .slice q' B.S.length d', .int .i64 B.P]) ∧ Below w.heap.size w w' ∧ BookIn w' w'.heap.size B p' q' := by
  obtain ⟨i3, hi3, hz3, hz3', hz3''⟩ := info_parts infoI
  obtain ⟨i4, hi4, hz4, hz4', hz4''⟩ := info_parts infoS
  have S1 := Lib.hid (show B.F.length ≤ maxLen by unfold maxLen; omega); have S2 := Lib.hid (show B.S.length ≤ maxLen by unfold maxLen; omega)
  have I3 := Lib.hid hi3; have Z3 := Lib.hid hz3; have Z3' := Lib.hid hz3'; have Z3'' := Lib.hid hz3''; clear hi3 hz3 hz3' hz3''
  have I4 := Lib.hid hi4; have Z4 := Lib.hid hz4; have Z4' := Lib.hid hz4'; have Z4'' := Lib.hid hz4''; clear hi4 hz4 hz4' hz4''
  obtain ⟨w3, hw3, hB3, hsz, k1, k3, o0, o1, o2, o3, o4, r0, r1, r2, r3, r4, fo, fr⟩ := three_books w B p q c d
  have HT := Lib.hid (ht.bel hB3)
  have HB := Lib.hid hB3
  have HZ := Lib.hid hsz
  have zl : w.heap.size + 2 < w3.heap.size := by omega
  clear ht hB3 hsz
  go_enter Try.func12, Try.ntmps12
  go_wp2
  try rw [hw3]
  go_region_held3 (fun w' => w'.cell? ⟨w.heap.size, 1, none⟩ = some (.slice p B.F.length c) ∧ w'.cell? ⟨w.heap.size, 3, none⟩ = some (.slice q B.S.length d))
    (first
      | go_keep
      | exact ⟨k1a, k3a⟩
      | exact ⟨k1b, k3b⟩
      | (refine ⟨?_, ?_⟩ <;> (rw [World.cell?_setCell_other _ _ _ _ (by simp; try omega)]; assumption))
      | (refine ⟨?_, ?_⟩ <;> (rw [World.cell?_setCell_other _ _ _ _ (by simp; try omega), World.cell?_setCell_other _ _ _ _ (by simp; try omega)]; assumption))
      | (constructor <;> simp [World.cell?_setCell_other, *]))
    (first
    | (refine step_append_copy' w3 rfl (.tmp 5) (.tmp 7) 22 rfl 3 i3 _ 1 8 Try.underlying22 I3.out Z3.out Z3'.out Z3''.out rfl (by decide) _ (by simp [Act.eval, Act.put]; rfl) p B.F.length c (by simp [Act.eval, Act.put]) HT.out.srcF S1.out (by omega) (by repeat (first | assumption | exact Below.refl _ _ | refine bA ?_ _ | refine bd ?_)) ?_; intro y1 c1 w1 hB1 hb1 hc1; have k1a := (hB1.cell (p := ⟨w.heap.size, 1, none⟩) (by simp only; omega)).trans k1; have k3a := (hB1.cell (p := ⟨w.heap.size, 3, none⟩) (by simp only; omega)).trans k3; have zl1 := Nat.lt_of_lt_of_le zl hB1.size; have HC1 := Lib.hid hc1; clear hc1)
    | (refine step_append_copy' w3 rfl (.tmp 9) (.tmp 11) 23 rfl 33 i4 _ 4 32 Try.underlying23 I4.out Z4.out Z4'.out Z4''.out rfl (by decide) _ (by simp [Act.eval, Act.put]; rfl) q B.S.length d (by simp [Act.eval, Act.put]) HT.out.srcS S2.out (by omega) (by repeat (first | assumption | exact Below.refl _ _ | refine bA ?_ _ | refine bd ?_)) ?_; intro y2 c2 w2 hB2 hb2 hc2; have k1b := (hB2.cell (p := ⟨w.heap.size, 1, none⟩) (by simp only; omega)).trans k1; have k3b := (hB2.cell (p := ⟨w.heap.size, 3, none⟩) (by simp only; omega)).trans k3; have o0b := (hB2.cell (p := ⟨w.heap.size + 1 + 1, 0, none⟩) (by simp only; omega)).trans o0; have o1b := (hB2.cell (p := ⟨w.heap.size + 1 + 1, 1, none⟩) (by simp only; omega)).trans o1; have o2b := (hB2.cell (p := ⟨w.heap.size + 1 + 1, 2, none⟩) (by simp only; omega)).trans o2; have o3b := (hB2.cell (p := ⟨w.heap.size + 1 + 1, 3, none⟩) (by simp only; omega)).trans o3; have o4b := (hB2.cell (p := ⟨w.heap.size + 1 + 1, 4, none⟩) (by simp only; omega)).trans o4; have r0b := (hB2.cell (p := ⟨w.heap.size + 1, 0, none⟩) (by simp only; omega)).trans r0; have r1b := (hB2.cell (p := ⟨w.heap.size + 1, 1, none⟩) (by simp only; omega)).trans r1; have r2b := (hB2.cell (p := ⟨w.heap.size + 1, 2, none⟩) (by simp only; omega)).trans r2; have r3b := (hB2.cell (p := ⟨w.heap.size + 1, 3, none⟩) (by simp only; omega)).trans r3; have r4b := (hB2.cell (p := ⟨w.heap.size + 1, 4, none⟩) (by simp only; omega)).trans r4; have fob : ∀ i, w2.frozen? ⟨w.heap.size + 1 + 1, i, none⟩ = false := fun i => (hB2.frozen (p := ⟨w.heap.size + 1 + 1, i, none⟩) (by simp only; omega)).trans (fo i); have frb : ∀ i, w2.frozen? ⟨w.heap.size + 1, i, none⟩ = false := fun i => (hB2.frozen (p := ⟨w.heap.size + 1, i, none⟩) (by simp only; omega)).trans (fr i); have zl2 := Nat.lt_of_lt_of_le zl hB2.size; have HC2 := Lib.hid hc2; clear hc2))
  all_goals
    have K1 : 0 < B.F.length → ∃ b, y1 = some ⟨b, 0, none⟩ ∧ w3.heap.size ≤ b ∧ b < w2.heap.size ∧ ∀ a, p = some a → ∀ j, j < B.F.length * 1 → w2.cell? ⟨b, j, none⟩ = w3.cell? (a.add j) := fun h => by
      obtain ⟨b, e, l1, l2, f⟩ := HC1.out h
      simp at l1
      refine ⟨b, e, by omega, by have t := hb2.size; (try simp at t); omega, fun a ha j hj => ((hb2.cell (by simp; try omega)).trans ?_).trans (f a ha j hj)⟩
      first | rfl | exact World.cell?_alloc_past _ _ _ l2
    have K2 : 0 < B.S.length → ∃ b, y2 = some ⟨b, 0, none⟩ ∧ w3.heap.size ≤ b ∧ b < w2.heap.size ∧ ∀ a, q = some a → ∀ j, j < B.S.length * 4 → w2.cell? ⟨b, j, none⟩ = w3.cell? (a.add j) := fun h => by
      obtain ⟨b, e, l1, l2, f⟩ := HC2.out h
      have t := hb1.size
      have t2 := hB1.size
      simp at l1 t
      exact ⟨b, e, by omega, l2, f⟩
    have HK1 := Lib.hid K1
    have HK2 := Lib.hid K2
    have HB2 := Lib.hid (bT HB.out hB2)
    have HZ3 := HZ.out
    have HL : w.heap.size + 2 < w2.heap.size := zl2
    clear K1 K2 HC1 HC2 hb1 hb2 hB1 hB2 k1 k3 k1a k3a k1b k3b o0 o1 o2 o3 o4 r0 r1 r2 r3 r4 fo fr
    go_wp2
    refine bodyPost_ret (v := .agg #[.int .i64 B.D, .slice y1 B.F.length c1, .int .i64 B.N, .slice y2 B.S.length c2, .int .i64 B.P]) ?_ rfl ?_
    case refine_2 =>
      refine ⟨y1, c1, y2, c2, rfl, ?_,
        copy_end HT.out HK1.out HK2.out (fun b j hb => by
          have g1 : b ≠ w.heap.size + 1 := by omega
          have g2 : b ≠ w.heap.size + 1 + 1 := by omega
          simp [World.cell?_setCell_other, g1, g2, Ne.symm g1, Ne.symm g2]) (by simp)⟩
      iterate 7 (refine bS ?_ (by simp; try omega) _)
      exact HB2.out
    simp [results, Try.results12, go_sem, o0b, o2b, o4b, r0b, r1b, r2b, r3b, r4b]
end Go.Proofs.Ytaaocomgmacjnaa
