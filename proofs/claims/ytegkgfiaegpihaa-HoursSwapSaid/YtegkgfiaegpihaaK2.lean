/- Rosters of hours: rows of numbers that the call owns; SameInts; slices.Clone of any list. -/
import Derived.Test.YtegkgfiaegpihaaC2

import Derived.OwnWalk

import Derived.Deep.RegionLawGrows

import Derived.Deep.DeepAppendRoom

import Derived.Laws.MakeOwn

import Derived.Laws.OwnMore

import Derived.RangeFuncBox

set_option linter.unusedSimpArgs false

set_option linter.unusedVariables false

namespace Go.Proofs.Ytegkgfiaegpihaa

open Go.RowKit

theorem setCell_block {w : World} {p : Addr} {v : Value} {k : Nat} (h : k ≠ p.block) : (w.setCell p v).heap[k]? = w.heap[k]? := Below.heap_setCell _ _ _ _ h
structure RowN (w : World) (b n : Nat) (f : Nat → Int) : Prop where
  lt : b < w.heap.size
  c : ∀ i, i < n → w.cell? ⟨b, i, none⟩ = some (.int .i64 (f i))
  fz : ∀ i, w.frozen? ⟨b, i, none⟩ = false
theorem RowN.blk {w w' : World} {b n : Nat} {f : Nat → Int} (h : RowN w b n f) (e : w'.heap[b]? = w.heap[b]?) : RowN w' b n f := by
  refine ⟨?_, fun i hi => (World.cell?_of_block (a := ⟨b, i, none⟩) e).trans (h.c i hi), fun i => (World.frozen?_of_block (a := ⟨b, i, none⟩) e).trans (h.fz i)⟩
  rcases Nat.lt_or_ge b w'.heap.size with h' | h'
  · exact h'
  · rw [Array.getElem?_eq_none h', Array.getElem?_eq_getElem h.lt] at e; cases e
theorem RowN.bel {w w' : World} {b n : Nat} {f : Nat → Int} (h : RowN w b n f) (hb : Below w.heap.size w w') : RowN w' b n f := h.blk (hb.block b h.lt)
theorem RowN.num {w : World} {b n : Nat} {f : Nat → Int} (h : RowN w b n f) : NumIn w w.heap.size n f (some ⟨b, 0, none⟩) := fun _ => ⟨_, _, rfl, h.lt, fun k hk => by rw [Nat.zero_add]; exact h.c k hk⟩
theorem RowN.set {w : World} {b n q : Nat} {f : Nat → Int} (h : RowN w b n f) (hq : q < n) (v : Int) : RowN (w.setCell ⟨b, q, none⟩ (.int .i64 v)) b n (fun i => if i = q then v else f i) := by
  have hc := h.c q hq
  refine ⟨by simpa using h.lt, fun i hi => ?_, fun i => by have := h.fz i; simpa using this⟩
  by_cases e : i = q
  · subst e
    have hf := h.fz i
    rw [if_pos rfl]
    go_simp
  · rw [if_neg e, World.cell?_setCell_other _ _ _ _ (by simp [e])]
    exact h.c i hi
theorem RowN.made (W : World) (n : Nat) (t : TypeId) : RowN (W.alloc (.cells (madeCells #[.int .i64 0] n) t)) W.heap.size n (fun _ => 0) := by
  refine ⟨by simp, fun i hi => ?_, fun i => by simp⟩
  have h : (madeCells #[Value.int .i64 0] n)[i]? = some (.int .i64 0) := by
    rw [← Array.getElem?_toList, toList_madeCells_one]; simp [hi]
  have h2 : (W.alloc (.cells (madeCells #[.int .i64 0] n) t)).heap[W.heap.size]? = some (.cells (madeCells #[.int .i64 0] n) t (0, 0)) := World.alloc_heap_new _ _
  rw [cell_of_row _ W.heap.size i _ _ (0, 0) h2]
  first | exact h | simpa using h
theorem make_ints (n : Nat) (hn : n ≤ 1000) (W : World) : (Instr.makeSlice 22 (.int .i64 (n : Int)) (.int .i64 (n : Int))).run Try.prog W = .ok (.slice (some ⟨W.heap.size, 0, none⟩) n n) (W.alloc (.cells (madeCells #[.int .i64 0] n) 3)) := by
  obtain ⟨i0, hi, hz, hs, hb⟩ := info_parts infoI
  have := run_make (P := Try.prog) W 22 3 i0 _ Try.underlying22 hi hz .i64 .i64 (n : Int) (n : Int) (by omega) (by omega) (by rw [hb]; omega) (by omega)
  simpa [hs, Value.cells] using this
theorem grown_none {w w' : World} (h : Below w.heap.size w w') : w.grownBy w' none := ⟨h.os, h.tape, h.output, h.size, fun k hk _ => h.block k hk⟩
theorem own_below {w w' : World} {base : Nat} {e : TypeId} {size : Nat} {v : Value} {n : Nat} {xs : List Value} (h : w.ownsRow base e size v n xs) (hb : Below w.heap.size w w') : w'.ownsRow base e size v n xs :=
  h.kept (grown_none hb) (by cases v.ownBlock <;> simp)
theorem own_base {w : World} {base b : Nat} {e : TypeId} {size : Nat} {v : Value} {n : Nat} {xs : List Value} (h : w.ownsRow base e size v n xs) (hb : b ≤ base) : w.ownsRow b e size v n xs :=
  ⟨h.1, h.2.imp id fun ⟨g, cap, cur, a, c, d⟩ => ⟨g, cap, cur, a, Nat.le_trans hb c, d⟩⟩
theorem below_grown {a w w' : World} {base : Nat} {e : TypeId} {size : Nat} {v : Value} {n : Nat} {xs : List Value} (h : Below a.heap.size a w) (ho : w.ownsRow base e size v n xs) (hb : a.heap.size ≤ base) (hg : w.grownBy w' v.ownBlock) : Below a.heap.size a w' :=
  h.grown hg h.size fun k hk => Nat.le_trans hb (ho.lt k hk).1
/-- what an owned value looks like -/
theorem own_form {w : World} {base : Nat} {e : TypeId} {size : Nat} {v : Value} {n : Nat} {xs : List Value} (h : w.ownsRow base e size v n xs) :
    ∃ p cap, v = .slice p n cap ∧ (0 < n → ∃ g, p = some ⟨g, 0, none⟩ ∧ base ≤ g ∧ g < w.heap.size ∧ (∀ j, j < n * size → w.cell? ⟨g, j, none⟩ = xs[j]?) ∧ ∀ j, w.frozen? ⟨g, j, none⟩ = false) := by
  rcases h.2 with ⟨rfl, rfl⟩ | ⟨g, cap, cur, rfl, hb, hg, _⟩
  · exact ⟨_, _, rfl, fun h => by omega⟩
  · exact ⟨_, _, rfl, fun _ => ⟨g, rfl, hb, (Array.getElem?_eq_some_iff.1 hg).1, fun j hj => h.cellAt j hj, fun j => h.frozenAt j⟩⟩
def row1 (f : Nat → Int) : Nat → List Value
  | 0 => []
  | k + 1 => row1 f k ++ [.int .i64 (f k)]
theorem row1_len (f : Nat → Int) : ∀ k, (row1 f k).length = k
  | 0 => rfl
  | k + 1 => by unfold row1; rw [List.length_append, row1_len f k]; rfl
theorem row1_at {f : Nat → Int} : ∀ {n k : Nat}, k < n → (row1 f n)[k]? = some (.int .i64 (f k))
  | 0, k, hk => absurd hk (Nat.not_lt_zero _)
  | n + 1, k, hk => by
    unfold row1
    have hl := row1_len f n
    rcases Nat.lt_succ_iff_lt_or_eq.1 hk with h1 | rfl
    · rw [List.getElem?_append_left (by omega)]
      exact row1_at h1
    · rw [List.getElem?_append_right (by omega), hl]
      simp
theorem lit_cells1 (w : World) (x : Value) (e : TypeId) : ∀ (j : Nat) (u : Value), [x][j]? = some u → (w.alloc (.cells #[x] e)).cell? ((⟨w.heap.size, 0, none⟩ : Addr).add j) = some u := fun j u h => by
  cases j with
  | zero =>
    simp only [List.getElem?_cons_zero, Option.some.injEq] at h
    subst h
    rw [add_at'']
    go_simp
  | succ j => simp at h
theorem num_own {w : World} {base : Nat} {v : Value} {n : Nat} {f : Nat → Int} (h : w.ownsRow base 3 1 v n (row1 f n)) : ∃ p c, v = .slice p n c ∧ NumIn w w.heap.size n f p := by
  obtain ⟨p, c, rfl, hf⟩ := own_form h
  refine ⟨p, c, rfl, fun h0 => ?_⟩
  obtain ⟨g, rfl, _, hl, hc, _⟩ := hf h0
  exact ⟨g, 0, rfl, hl, fun k hk => by rw [Nat.zero_add, hc k (by omega), row1_at hk]⟩

/-- an append to an owned row: the row's block is the same, or a new one -/
theorem wp_append_one {w : World} {P : Program} {o : Oper} {a : Act} {K : Act → World → Prop} {Q : Exit → Act → World → Prop} (hgd : o.guard = none) (s x : Operand) (t : TypeId)
    (ho : o.op = .call { callee := .builtin .append, args := #[s, x], argTypes := #[t, t] })
    (base : Nat) (e : TypeId) (i : TypeInfo) (z : Value) (size bytes : Nat) (ht : P.underlying t = some (.slice e)) (hi : P.info? e = some i) (hz : i.zero = some z)
    (hsize : i.size = size) (hby : i.bytes = bytes) (hzs : z.cells.size = size) (hsz : 0 < size)
    (v : Value) (n : Nat) (xs : List Value) (hs : a.eval s = v) (hown : w.ownsRow base e size v n xs)
    (ad : Addr) (m c : Nat) (news : List Value) (hx : a.eval x = .slice (some ad) m c) (hl : news.length = m * size) (hnews : ∀ j u, news[j]? = some u → w.cell? (ad.add j) = some u) (h1 : ∀ u ∈ news, u.oneCell' = true)
    (hm : 0 < m) (h63 : n + m ≤ maxLen) (hbytes : (n + m) * bytes ≤ 140737488355328) (hbase : base ≤ w.heap.size)
    (h : ∀ v' w', w'.ownsRow base e size v' (n + m) (xs ++ news) → w.grownBy w' v.ownBlock → (∀ g, v'.ownBlock = some g → v.ownBlock = some g ∨ w.heap.size ≤ g) → K (a.put o.dst v') w') : o.wp P a w K Q := by
  have hgrow : ∀ (ao : Option Addr) (cap : Nat), v = .slice ao n cap → (ao = none → n = 0 ∧ cap = 0) → (∀ b, ao = some b → ∀ j u, xs[j]? = some u → w.cell? (b.add j) = some u) → cap < n + m → o.wp P a w K Q := by
    intro ao cap hv hnone hold hfull
    have := step_append_grows (ops := #[]) (Q := Q) (E := False) hgd s x t ho e i z size bytes ht hi hz hsize hby hzs hsz ao n cap xs (by rw [hs, hv]) hnone hown.1 hold ad m c news hx hl hnews h1 hfull h63 hbytes (K := K) (w := w) fun v' w' ho' hg' => by
      refine h v' w' (own_base ho' hbase) ?_ fun g hg => .inr (ho'.lt g hg).1
      exact ⟨hg'.1, hg'.2, hg'.3, hg'.4, fun k hk _ => hg'.5 k hk (by simp)⟩
    rwa [if_pos (by simp [Region.wanted, hgd])] at this
  rcases hown.2 with ⟨hv, hn0⟩ | ⟨g, cap, cur, hv, hbg, hg, hnc, hcm, hcs, htake⟩
  · subst hn0
    have hx0 : xs = [] := List.eq_nil_of_length_eq_zero (by simpa using hown.1)
    exact hgrow none 0 hv (fun _ => ⟨rfl, rfl⟩) (fun b hb => by cases hb) (by omega)
  · by_cases hroom : n + m ≤ cap
    · subst hv
      exact wp_append_own_spare w s x t ho base e i size ht hi hsize g n cap xs hs hown ad m c news hx hl hnews h1 hroom fun w' h2 h3 => h _ w' h2 h3 fun g' hg' => .inl hg'
    · exact hgrow (some ⟨g, 0, none⟩) cap hv (fun h => by cases h) (fun b hb j u hu => by cases hb; exact hown.cells (g := g) (by rw [hv]; rfl) j u hu) (by omega)
theorem own_setQ {w : World} {base b i : Nat} {e : TypeId} {v u : Value} {n : Nat} {xs : List Value} (h : w.ownsRow (base + 1) e 1 v n xs) (hb : b ≤ base) : (w.setCell ⟨b, i, none⟩ u).ownsRow (base + 1) e 1 v n xs := by
  refine h.kept (row := some b) ⟨by first | rfl | simp, by first | rfl | simp, by first | rfl | simp, by first | rfl | simp, fun k _ hk => setCell_block (fun e => hk (by rw [e]))⟩ ?_
  cases hv : v.ownBlock with
  | none => exact .inl rfl
  | some g => exact .inr fun e => by have := (h.lt g hv).1; cases e; omega
theorem lit_cellsQ (w : World) (b : Nat) (x : Value) (e : TypeId) (hb : b = w.heap.size) : ∀ (j : Nat) (u : Value), [x][j]? = some u → (w.alloc (.cells #[x] e)).cell? ((⟨b, 0, none⟩ : Addr).add j) = some u := by subst hb; exact lit_cells1 w x e
def same1 (f g : Nat → Int) (k : Nat) : Bool := f k == g k
set_option maxRecDepth 100000 in
set_option maxHeartbeats 4000000 in
theorem sameG_any (l : Nat) (f g : Nat → Int) (p q : Option Addr) (c d : Nat) (w : World) (hl : l ≤ 1000) (h1 : NumIn w w.heap.size l f p) (h2 : NumIn w w.heap.size l g q) :
    Calls Try.prog 47 #[.slice p l c, .slice q l d] w fun e w' => e = .returned (.bool (allN (same1 f g) l)) ∧ Below w.heap.size w w' := by
  obtain ⟨x, hx⟩ := rebase w
  have H1 : Hid (∀ z : Ext w, NumIn z.v z.v.heap.size l f p) := fun z => h1.bel z.b
  have H2 : Hid (∀ z : Ext w, NumIn z.v z.v.heap.size l g q) := fun z => h2.bel z.b
  have d1 : ((l : Int) != (l : Int)) = false := by simp
  have HG : Hid (∀ w', (∃ z : Ext w, w' = z.v) → Below w.heap.size w w') := fun w' ⟨z, h⟩ => h ▸ z.b
  clear h1 h2
  go_enter Try.func47, Try.ntmps47
  go_wp2
  go_loopw [5] (fun i wr => ∃ k : Nat, i = .int .i64 k ∧ k ≤ l ∧ allN (same1 f g) k = true ∧ ∃ x : Ext w, wr = x.v) (fun i _ => l - (intOf i).toNat)
  case atStart => exact ⟨0, rfl, Nat.zero_le _, rfl, x, by first | exact hx | rfl⟩
  case round =>
    clear hx x
    obtain ⟨k, rfl, hk, hal, y, rfl⟩ := hrel
    have HAL := Lib.hid hal; clear hal
    by_cases hlt : k < l
    · obtain ⟨b1, o1, rfl, _, _⟩ := H1.out y (by omega)
      obtain ⟨b2, o2, rfl, _, _⟩ := H2.out y (by omega)
      have C1 : ∀ z : Ext w, z.v.cell? ⟨b1, o1 + k, none⟩ = some (.int .i64 (f k)) := fun z => ((H1.out z).cell hlt).2
      have C2 : ∀ z : Ext w, z.v.cell? ⟨b2, o2 + k, none⟩ = some (.int .i64 (g k)) := fun z => ((H2.out z).cell hlt).2
      have j : decide ((k : Int) < (l : Int)) = true := by simp; omega
      have j2 : (k : Int) < (l : Int) := by omega
      obtain ⟨a, ha⟩ : ∃ a, f k = a := ⟨_, rfl⟩
      obtain ⟨b, hb⟩ : ∃ b, g k = b := ⟨_, rfl⟩
      have HSM : Hid (same1 f g k = (a == b)) := by unfold same1; rw [ha, hb]; rfl
      rw [ha] at C1; rw [hb] at C2
      clear ha hb
      by_cases he : a = b
      · have HS := Lib.hid (show allN (same1 f g) (k + 1) = true from allN_succ HAL.out (by rw [HSM.out]; simpa using he))
        subst he
        go_wp2
        refine quiet_e (by kernel_rfl) (by kernel_rfl) ?_
        repeat (first | go_big_quiet_step (fail) | quiet_step (fail))
        refine wpQuiet_nil ?_
        intro w6 hw6
        obtain ⟨u2, rfl⟩ := hw6
        go_wp2
        go_roundw
        case rel => exact ⟨k + 1, by go_num, hlt, HS.out, u2, rfl⟩
        case measure => first | (simp [intOf]; done) | (simp [intOf]; omega)
      · have HS := Lib.hid (show allN (same1 f g) l = false from allN_bad hlt (by rw [HSM.out]; simpa using he))
        have jne : (a != b) = true := by simpa using he
        clear he
        go_wp2
        refine quiet_e (by kernel_rfl) (by kernel_rfl) ?_
        repeat (first | go_big_quiet_step (fail) | quiet_step (fail))
        refine wpQuiet_nil ?_
        intro w6 hw6
        obtain ⟨u2, rfl⟩ := hw6
        go_wp2
        go_ret
        exact ⟨by rw [HS.out]; rfl, HG.out _ ⟨u2, rfl⟩⟩
    · have HK := Lib.hid (show k = l by omega)
      have j : decide ((k : Int) < (l : Int)) = false := by simp; omega
      go_wp2
      go_ret
      exact ⟨by rw [← HK.out, HAL.out]; rfl, HG.out _ ⟨y, rfl⟩⟩
def sameL (l l2 : Nat) (f g : Nat → Int) : Bool := decide (l = l2) && allN (same1 f g) l
theorem sameL_any (l l2 : Nat) (f g : Nat → Int) (p q : Option Addr) (c d : Nat) (w : World) (hl : l ≤ 1000) (h1 : NumIn w w.heap.size l f p) (h2 : NumIn w w.heap.size l2 g q) :
    Calls Try.prog 47 #[.slice p l c, .slice q l2 d] w fun e w' => e = .returned (.bool (sameL l l2 f g)) ∧ Below w.heap.size w w' := by
  by_cases e : l = l2
  · subst e
    have := sameG_any l f g p q c d w hl h1 h2
    simpa [sameL] using this
  · have j : ((l : Int) != (l2 : Int)) = true := by simp; omega
    have HR := Lib.hid (show false = sameL l l2 f g by simp [sameL, e])
    clear e
    go_enter Try.func47, Try.ntmps47
    go_wp2
    go_ret
    exact ⟨ret_b HR.out, Below.refl _ _⟩
theorem same_refl {f : Nat → Int} : ∀ {l : Nat}, allN (same1 f f) l = true := fun {l} => allN_iff.2 fun i _ => by simp [same1]
theorem sameL_refl {l : Nat} {f : Nat → Int} : sameL l l f f = true := by simp [sameL, same_refl]
theorem sameL_iff {l l2 : Nat} {f g : Nat → Int} : sameL l l2 f g = true ↔ l = l2 ∧ ∀ i, i < l → f i = g i := by
  simp only [sameL, Bool.and_eq_true, decide_eq_true_eq, allN_iff, same1, beq_iff_eq]
theorem sameInts_is {l : Nat} {f : Nat → Int} {p q : Option Addr} {c d : Nat} (w : World) (hl : l ≤ 1000) (h1 : NumIn w w.heap.size l f p) (h2 : NumIn w w.heap.size l f q) :
    Calls Try.prog 47 #[.slice p l c, .slice q l d] w fun e w' => e = .returned (.bool true) ∧ Below w.heap.size w w' := by
  have := sameL_any l l f f p q c d w hl h1 h2
  rwa [sameL_refl] at this
set_option maxRecDepth 100000 in
set_option maxHeartbeats 2000000 in
theorem clone_p (l c : Nat) (f : Nat → Int) (p : Option Addr) (w : World) (hl : l ≤ 1000) (h : NumIn w w.heap.size l f p) :
    Calls Try.prog 99 #[.slice p l c] w fun e w' => ∃ y c', e = .returned (.slice y l c') ∧ New w w' l f y := by
  cases p with
  | none =>
    obtain rfl : l = 0 := by
      rcases Nat.eq_zero_or_pos l with h0 | h0
      · exact h0
      · obtain ⟨b, o, e, _⟩ := h h0; cases e
    have q26 : ∀ (w : World) (a : Option Addr) (n c n' c' : Nat), (binOp .eql 22 (.slice a n c) (.slice none n' c')).run Try.prog w = .ok (.bool a.isNone) w := fun w a n c n' c' => Lib.run_eql_slice_nil w _ _ a n c n' c' Try.underlying22
    go_enter Try.func99, Try.ntmps99
    go_wp2
    go_ret
    exact ⟨_, _, rfl, Below.refl _ _, fun h => by omega⟩
  | some a =>
    obtain ⟨i3, hi3, hz3, hz3', hz3''⟩ := info_parts infoI
    have I3 := Lib.hid hi3; have Z3 := Lib.hid hz3; have Z3' := Lib.hid hz3'; have Z3'' := Lib.hid hz3''; clear hi3 hz3 hz3' hz3''
    have H := Lib.hid h; clear h
    have S1 := Lib.hid (show l ≤ maxLen by unfold maxLen; omega)
    obtain ⟨w1, hw1⟩ : ∃ w1, w.alloc (Obj.cells #[] 3) = w1 := ⟨_, rfl⟩
    have hb1 : Below w.heap.size w w1 := by rw [← hw1]; exact bA (Below.refl _ _) _
    have HB := Lib.hid hb1; clear hb1
    have q26 : ∀ (w : World) (a : Option Addr) (n c n' c' : Nat), (binOp .eql 22 (.slice a n c) (.slice none n' c')).run Try.prog w = .ok (.bool a.isNone) w := fun w a n c n' c' => Lib.run_eql_slice_nil w _ _ a n c n' c' Try.underlying22
    go_enter Try.func99, Try.ntmps99
    go_wp2_with (at_builtin; refine wpList_append_copy rfl (.tmp 5) (.tmp 6) 22 rfl 3 i3 _ 1 8 Try.underlying22 I3.out Z3.out Z3'.out Z3''.out rfl (by decide) _ (by simp [Act.eval, Act.put]; rfl) (some a) l c (by simp [Act.eval, Act.put]) (srcN (H.out.bel HB.out)) S1.out (by omega) ?_)
    intro y c' w' hc
    have HC := Lib.hid (copied_new (H.out.bel HB.out) HB.out (by simpa using hc)); clear hc
    go_wp2
    go_ret
    exact ⟨_, _, rfl, HC.out⟩
end Go.Proofs.Ytegkgfiaegpihaa
