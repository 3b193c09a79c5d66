/- What lies in some blocks alone, and owned rows whose values lead there. -/
import Derived.Test.YtdjkbpenppdnlaaDoorK1

set_option linter.unusedSimpArgs false

set_option linter.unusedVariables false

namespace Go.Proofs.YtdjkbpenppdnlaaDoor

open Go.RowKit

/-- something that rests on blocks from lo on alone, none of them a row's -/
def Fre (w : World) (lo : Nat) (row : Option Nat) (P : World → Prop) : Prop :=
  ∃ B : Nat → Prop, (∀ b, B b → lo ≤ b ∧ b < w.heap.size ∧ some b ≠ row) ∧ ∀ w', w.heap.size ≤ w'.heap.size → (∀ b, B b → w'.heap[b]? = w.heap[b]?) → P w'
theorem Fre.out {w : World} {lo : Nat} {row : Option Nat} {P : World → Prop} (h : Fre w lo row P) : P w := by
  obtain ⟨B, _, h⟩ := h
  exact h w (Nat.le_refl _) fun _ _ => rfl
theorem Fre.grown {w w' : World} {lo : Nat} {row row' : Option Nat} {P : World → Prop} (h : Fre w lo row P) (hg : w.grownBy w' row) (hn : ∀ g, row' = some g → row = some g ∨ w.heap.size ≤ g) : Fre w' lo row' P := by
  obtain ⟨B, hB, h⟩ := h
  refine ⟨B, fun b hb => ?_, fun w2 h2 hk => h w2 (Nat.le_trans hg.size h2) fun b hb => ?_⟩
  · obtain ⟨a, c, e⟩ := hB b hb
    refine ⟨a, Nat.lt_of_lt_of_le c hg.size, fun e2 => ?_⟩
    rcases hn b e2.symm with h3 | h3
    · exact e h3.symm
    · omega
  · obtain ⟨a, c, e⟩ := hB b hb
    exact (hk b hb).trans (hg.block b c e)
theorem Fre.bel {w w' : World} {lo : Nat} {row : Option Nat} {P : World → Prop} (h : Fre w lo row P) (hb : Below w.heap.size w w') : Fre w' lo row P := by
  obtain ⟨B, hB, h⟩ := h
  refine ⟨B, fun b hb2 => ?_, fun w2 h2 hk => h w2 (Nat.le_trans hb.size h2) fun b hb2 => ?_⟩
  · obtain ⟨a, c, e⟩ := hB b hb2
    exact ⟨a, Nat.lt_of_lt_of_le c hb.size, e⟩
  · obtain ⟨a, c, e⟩ := hB b hb2
    exact (hk b hb2).trans (hb.block b c)
/-- a store outside -/
theorem Fre.set {w : World} {lo : Nat} {row : Option Nat} {P : World → Prop} (h : Fre w lo row P) (p : Addr) (u : Value) (hp : p.block < lo) : Fre (w.setCell p u) lo row P := by
  obtain ⟨B, hB, h⟩ := h
  refine ⟨B, fun b hb2 => ?_, fun w2 h2 hk => h w2 (by simpa using h2) fun b hb2 => ?_⟩
  · obtain ⟨a, c, e⟩ := hB b hb2
    exact ⟨a, by simpa using c, e⟩
  · obtain ⟨a, c, e⟩ := hB b hb2
    exact (hk b hb2).trans (setCell_block (by omega))
theorem Fre.lo {w : World} {lo lo' : Nat} {row : Option Nat} {P : World → Prop} (h : Fre w lo row P) (hl : lo' ≤ lo) : Fre w lo' row P := by
  obtain ⟨B, hB, h⟩ := h
  exact ⟨B, fun b hb => by obtain ⟨a, c, e⟩ := hB b hb; exact ⟨Nat.le_trans hl a, c, e⟩, h⟩
theorem Fre.row {w : World} {lo : Nat} {row row' : Option Nat} {P : World → Prop} (h : Fre w lo row P) (hl : ∀ g, row' = some g → g < lo) : Fre w lo row' P := by
  obtain ⟨B, hB, h⟩ := h
  refine ⟨B, fun b hb => ?_, h⟩
  obtain ⟨a, c, e⟩ := hB b hb
  exact ⟨a, c, fun e2 => by have := hl b e2.symm; omega⟩
theorem Fre.nil {w : World} {lo : Nat} {row : Option Nat} {P : World → Prop} (h : Fre w lo row P) : Fre w lo none P := by
  obtain ⟨B, hB, h⟩ := h
  exact ⟨B, fun b hb => by obtain ⟨a, c, e⟩ := hB b hb; exact ⟨a, c, by simp⟩, h⟩
theorem Fre.imp {w : World} {lo : Nat} {row : Option Nat} {P Q : World → Prop} (h : Fre w lo row P) (hq : ∀ W, P W → Q W) : Fre w lo row Q := by
  obtain ⟨B, hB, h⟩ := h
  exact ⟨B, hB, fun w' a b => hq _ (h w' a b)⟩
theorem Fre.and {w : World} {lo : Nat} {row : Option Nat} {P Q : World → Prop} (h : Fre w lo row P) (k : Fre w lo row Q) : Fre w lo row (fun W => P W ∧ Q W) := by
  obtain ⟨B, hB, h⟩ := h
  obtain ⟨C, hC, k⟩ := k
  exact ⟨fun b => B b ∨ C b, fun b hb => hb.elim (hB b) (hC b), fun w' a b => ⟨h w' a fun x hx => b x (.inl hx), k w' a fun x hx => b x (.inr hx)⟩⟩
theorem Fre.triv {w : World} {lo : Nat} {row : Option Nat} {P : World → Prop} (h : ∀ W, P W) : Fre w lo row P := ⟨fun _ => False, fun _ h => h.elim, fun W _ _ => h W⟩
/-- cells that lie in one block -/
theorem Fre.at {w : World} {lo n sz : Nat} {row : Option Nat} {q : Option Addr} {f : Nat → Value} (h : At w w.heap.size q n sz f) (hl : 0 < n → ∀ b o, q = some ⟨b, o, none⟩ → lo ≤ b ∧ some b ≠ row) : Fre w lo row (fun W => At W W.heap.size q n sz f) := by
  rcases Nat.eq_zero_or_pos n with rfl | h0
  · exact Fre.triv fun W h => absurd h (Nat.lt_irrefl _)
  · obtain ⟨b, o, rfl, hb, hc⟩ := h h0
    refine ⟨fun x => x = b, ?_, ?_⟩
    · rintro x rfl
      obtain ⟨h1, h2⟩ := hl h0 _ _ rfl
      exact ⟨h1, hb, h2⟩
    · intro W hs hk _
      exact ⟨b, o, rfl, Nat.lt_of_lt_of_le hb hs, fun k hk2 => (World.cell?_of_block (a := ⟨b, o + k, none⟩) (hk b rfl)).trans (hc k hk2)⟩
def upd {α : Type} (u : Nat → α) (k : Nat) (x : α) : Nat → α := fun i => if i = k then x else u i
theorem upd_same {α : Type} {u : Nat → α} {k : Nat} {x : α} : upd u k x k = x := if_pos rfl
theorem upd_ne {α : Type} {u : Nat → α} {k i : Nat} {x : α} (h : i ≠ k) : upd u k x i = u i := if_neg h
theorem rowG_congr {f g : Nat → Value} : ∀ {k : Nat}, (∀ i, i < k → f i = g i) → rowG f k = rowG g k
  | 0, _ => rfl
  | k + 1, h => by unfold rowG; rw [rowG_congr fun i hi => h i (by omega), h k (by omega)]
theorem rowG_upd {α : Type} {u : Nat → α} {k : Nat} {x : α} {F : Nat → α → Value} : rowG (fun i => F i (upd u k x i)) (k + 1) = rowG (fun i => F i (u i)) k ++ [F k x] := by
  show rowG _ k ++ [_] = _
  rw [rowG_congr (g := fun i => F i (u i)) fun i hi => by rw [upd_ne (by omega)]]
  show _ ++ [F k (upd u k x k)] = _
  rw [upd_same]
theorem Fre.step {α : Type} {w : World} {lo k : Nat} {row : Option Nat} {P : Nat → α → World → Prop} {u : Nat → α} {x : α} (h : Fre w lo row (fun W => ∀ i, i < k → P i (u i) W)) (hx : Fre w lo row (P k x)) : Fre w lo row (fun W => ∀ i, i < k + 1 → P i (upd u k x i) W) :=
  (h.and hx).imp fun W ⟨a, b⟩ i hi => by
    rcases Nat.lt_succ_iff_lt_or_eq.1 hi with h1 | rfl
    · rw [upd_ne (by omega)]; exact a i h1
    · rw [upd_same]; exact b
/-- where a world's parts lie -/
structure Wad where
  p : Option Addr
  c : Nat
  ip : Nat → Option Addr
  ic : Nat → Nat
/-- the rows of a world of a town, where they lie -/
structure WIn (w : World) (T : Tn) (k : Nat) (u : Wad) : Prop where
  rs : At w w.heap.size u.p (T.rl k) 1 (fun i => .slice (u.ip i) (T.cl k i) (u.ic i))
  is : ∀ i, i < T.rl k → At w w.heap.size (u.ip i) (T.cl k i) 1 (fun j => .int .i64 (T.fa k i j))
end Go.Proofs.YtdjkbpenppdnlaaDoor
