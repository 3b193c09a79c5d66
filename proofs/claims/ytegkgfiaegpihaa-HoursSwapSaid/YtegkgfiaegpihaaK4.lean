/- Rosters of hours: an append of any number of elements to an owned row; rows of streets. -/
import Derived.Test.YtegkgfiaegpihaaK2

import Derived.Test.YtegkgfiaegpihaaM10

set_option linter.unusedSimpArgs false

set_option linter.unusedVariables false

namespace Go.Proofs.Ytegkgfiaegpihaa

open Go.RowKit

theorem append_zero {P : Program} {w : World} {base : Nat} {e : TypeId} {size n : Nat} {v : Value} {xs : List Value} (t ty : TypeId) (i : TypeInfo) (h1 : P.underlying t = some (.slice e)) (h2 : P.info? e = some i) (hown : w.ownsRow base e size v n xs) (ad : Option Addr) (c : Nat) :
    (Builtin.append_ #[t, t] ty #[v, .slice ad 0 c]).run P w = .ok v w := by
  rcases hown.2 with ⟨rfl, rfl⟩ | ⟨g, cap, cur, rfl, _, _, hnc, _⟩
  · cases ad <;> simp [Builtin.append_, run_underlying h1, sizeOf, typeInfo, h2, Builtin.lenOf, Builtin.firstCells, loadCells, loadCellsFrom, storeCells, Sem.run_bind]
  · cases ad <;> simp [Builtin.append_, run_underlying h1, sizeOf, typeInfo, h2, Builtin.lenOf, Builtin.firstCells, loadCells, loadCellsFrom, storeCells, Sem.run_bind, hnc]
theorem wp_append_any {w : World} {P : Program} {o : Oper} {a : Act} {K : Act → World → Prop} {Q : Exit → Act → World → Prop} (hgd : o.guard = none) (s x : Operand) (t : TypeId)
    (ho : o.op = .call { callee := .builtin .append, args := #[s, x], argTypes := #[t, t] })
    (base : Nat) (e : TypeId) (i : TypeInfo) (z : Value) (size bytes : Nat) (ht : P.underlying t = some (.slice e)) (hi : P.info? e = some i) (hz : i.zero = some z)
    (hsize : i.size = size) (hby : i.bytes = bytes) (hzs : z.cells.size = size) (hsz : 0 < size)
    (v : Value) (n : Nat) (xs : List Value) (hs : a.eval s = v) (hown : w.ownsRow base e size v n xs)
    (ad : Option Addr) (m c : Nat) (news : List Value) (hx : a.eval x = .slice ad m c) (hl : news.length = m * size) (hnews : 0 < m → ∃ a', ad = some a' ∧ ∀ j u, news[j]? = some u → w.cell? (a'.add j) = some u) (h1 : ∀ u ∈ news, u.oneCell' = true)
    (h63 : n + m ≤ maxLen) (hbytes : (n + m) * bytes ≤ 140737488355328) (hbase : base ≤ w.heap.size)
    (h : ∀ v' w', w'.ownsRow base e size v' (n + m) (xs ++ news) → w.grownBy w' v.ownBlock → (∀ g, v'.ownBlock = some g → v.ownBlock = some g ∨ w.heap.size ≤ g) → K (a.put o.dst v') w') : o.wp P a w K Q := by
  rcases Nat.eq_zero_or_pos m with rfl | hm
  · have hn : news = [] := List.eq_nil_of_length_eq_zero (by simpa using hl)
    subst hn
    unfold Oper.wp
    have hrun := append_zero t o.type i ht hi hown ad c
    simp [execOp, ho, resolve, invoke, builtin, hs, hx, hrun, Result.andThen]
    exact h v w (by simpa using hown) ⟨rfl, rfl, rfl, Nat.le_refl _, fun _ _ _ => rfl⟩ (fun g hg => .inl hg)
  · obtain ⟨a', rfl, hc⟩ := hnews hm
    exact wp_append_one hgd s x t ho base e i z size bytes ht hi hz hsize hby hzs hsz v n xs hs hown a' m c news hx hl hc h1 hm h63 hbytes hbase h
theorem own_lit (w : World) (base : Nat) (e : TypeId) (size : Nat) (hb : base ≤ w.heap.size) : (w.alloc (Obj.cells #[] e)).ownsRow base e size (.slice (some ⟨w.heap.size, 0, none⟩) 0 0) 0 [] :=
  ⟨by simp, .inr ⟨w.heap.size, 0, #[], rfl, hb, (by show (w.heap.push (Obj.cells #[] e))[w.heap.size]? = _; simp), Nat.le_refl _, by unfold maxLen; omega, by simp, by simp⟩⟩
/-- the cells of n streets -/
def rowsS (D : Ro) (σ : Nat → Nat) : Nat → List Value
  | 0 => []
  | k + 1 => rowsS D σ k ++ [.int .i64 (D.hs (σ k)), .int .i64 (D.fr (σ k)), .int .i64 (D.to (σ k)), .int .i64 (D.co (σ k))]
theorem rowsS_len (D : Ro) (σ : Nat → Nat) : ∀ n, (rowsS D σ n).length = n * 4
  | 0 => rfl
  | n + 1 => by simp only [rowsS, List.length_append, rowsS_len D σ n, List.length_cons, List.length_nil]; omega
theorem rowsS_one {D : Ro} {σ : Nat → Nat} : ∀ {n : Nat}, ∀ u ∈ rowsS D σ n, u.oneCell' = true
  | 0, u, h => by cases h
  | n + 1, u, h => by
    simp only [rowsS, List.mem_append] at h
    rcases h with h | h
    · exact rowsS_one u h
    · simp only [List.mem_cons, List.not_mem_nil, or_false] at h
      rcases h with rfl | rfl | rfl | rfl <;> rfl
theorem rowsS_at {D : Ro} {σ : Nat → Nat} : ∀ {n k : Nat}, k < n → (rowsS D σ n)[k * 4]? = some (.int .i64 (D.hs (σ k))) ∧ (rowsS D σ n)[k * 4 + 1]? = some (.int .i64 (D.fr (σ k))) ∧ (rowsS D σ n)[k * 4 + 2]? = some (.int .i64 (D.to (σ k))) ∧ (rowsS D σ n)[k * 4 + 3]? = some (.int .i64 (D.co (σ k)))
  | 0, k, h => absurd h (Nat.not_lt_zero _)
  | n + 1, k, h => by
    have hl := rowsS_len D σ n
    simp only [rowsS]
    rcases Nat.lt_succ_iff_lt_or_eq.1 h with h1 | rfl
    · obtain ⟨a, b, c, d⟩ := rowsS_at (D := D) (σ := σ) h1
      rw [List.getElem?_append_left (by omega), List.getElem?_append_left (by omega), List.getElem?_append_left (by omega), List.getElem?_append_left (by omega)]
      exact ⟨a, b, c, d⟩
    · rw [List.getElem?_append_right (by omega), List.getElem?_append_right (by omega), List.getElem?_append_right (by omega), List.getElem?_append_right (by omega)]
      rw [show k * 4 - (rowsS D σ k).length = 0 by omega, show k * 4 + 1 - (rowsS D σ k).length = 1 by omega, show k * 4 + 2 - (rowsS D σ k).length = 2 by omega, show k * 4 + 3 - (rowsS D σ k).length = 3 by omega]
      exact ⟨rfl, rfl, rfl, rfl⟩
theorem rowsS_app {D : Ro} {σ1 σ2 : Nat → Nat} {a : Nat} : ∀ {b : Nat}, rowsS D σ1 a ++ rowsS D σ2 b = rowsS D (fun k => if k < a then σ1 k else σ2 (k - a)) (a + b)
  | 0 => by
    simp only [rowsS, List.append_nil, Nat.add_zero]
    suffices H : ∀ n, n ≤ a → rowsS D σ1 n = rowsS D (fun k => if k < a then σ1 k else σ2 (k - a)) n from H a (Nat.le_refl _)
    intro n
    induction n with
    | zero => intro _; rfl
    | succ n ih => intro hn; simp only [rowsS]; rw [ih (by omega), if_pos (by omega)]
  | b + 1 => by
    rw [show a + (b + 1) = a + b + 1 by omega]
    simp only [rowsS]
    rw [← List.append_assoc, rowsS_app (b := b), if_neg (by omega), show a + b - a = b by omega]
theorem rowsS_congr {D : Ro} {σ τ : Nat → Nat} : ∀ {n : Nat}, (∀ k, k < n → σ k = τ k) → rowsS D σ n = rowsS D τ n
  | 0, _ => rfl
  | n + 1, h => by simp only [rowsS]; rw [rowsS_congr (fun k hk => h k (by omega)), h n (by omega)]
/-- the cells of some streets, in memory -/
theorem rows_src {w : World} {b o : Nat} {D : Ro} (hc : StAt w b o D) {a n : Nat} (h : a + n ≤ D.m) : ∀ j u, (rowsS D (fun k => a + k) n)[j]? = some u → w.cell? ((⟨b, o + a * 4, none⟩ : Addr).add j) = some u := fun j u hu => by
  have hj : j < n * 4 := by have := (List.getElem?_eq_some_iff.1 hu).1; rw [rowsS_len] at this; exact this
  obtain ⟨q, r, hr, rfl⟩ : ∃ q r, r < 4 ∧ j = q * 4 + r := ⟨j / 4, j % 4, Nat.mod_lt _ (by omega), by omega⟩
  have hk : q < n := by omega
  obtain ⟨q0, q1, q2, q3⟩ := rowsS_at (D := D) (σ := fun k => a + k) hk
  rw [add_at'']
  rcases (show r = 0 ∨ r = 1 ∨ r = 2 ∨ r = 3 by omega) with rfl | rfl | rfl | rfl
  · rw [Nat.add_zero, q0] at hu; rw [← hu, Nat.add_zero, show o + a * 4 + q * 4 = o + (a + q) * 4 by omega]; exact hc.c0 (a + q) (by omega)
  · rw [q1] at hu; rw [← hu, show o + a * 4 + (q * 4 + 1) = o + (a + q) * 4 + 1 by omega]; exact hc.c1 (a + q) (by omega)
  · rw [q2] at hu; rw [← hu, show o + a * 4 + (q * 4 + 2) = o + (a + q) * 4 + 2 by omega]; exact hc.c2 (a + q) (by omega)
  · rw [q3] at hu; rw [← hu, show o + a * 4 + (q * 4 + 3) = o + (a + q) * 4 + 3 by omega]; exact hc.c3 (a + q) (by omega)
/-- an owned row of streets, as a roster's -/
theorem rows_own {w : World} {base : Nat} {v : Value} {n : Nat} {D : Ro} {σ : Nat → Nat} (h : w.ownsRow base 43 4 v n (rowsS D σ n)) : ∃ p c, v = .slice p n c ∧ (0 < n → ∃ g, p = some ⟨g, 0, none⟩ ∧ g < w.heap.size ∧ ∀ k, k < n → w.cell? ⟨g, k * 4, none⟩ = some (.int .i64 (D.hs (σ k))) ∧ w.cell? ⟨g, k * 4 + 1, none⟩ = some (.int .i64 (D.fr (σ k))) ∧ w.cell? ⟨g, k * 4 + 2, none⟩ = some (.int .i64 (D.to (σ k))) ∧ w.cell? ⟨g, k * 4 + 3, none⟩ = some (.int .i64 (D.co (σ k)))) := by
  obtain ⟨p, c, rfl, hf⟩ := own_form h
  refine ⟨p, c, rfl, fun h0 => ?_⟩
  obtain ⟨g, e, _, hl, hc, _⟩ := hf h0
  refine ⟨g, e, hl, fun k hk => ?_⟩
  obtain ⟨q0, q1, q2, q3⟩ := rowsS_at (D := D) (σ := σ) hk
  exact ⟨(hc _ (by omega)).trans q0, (hc _ (by omega)).trans q1, (hc _ (by omega)).trans q2, (hc _ (by omega)).trans q3⟩
end Go.Proofs.Ytegkgfiaegpihaa
