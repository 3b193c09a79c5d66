/- Shafts: ShaftsRing: what the main walk wants . -/
import Derived.Test.YtaaocomgmacjnabDoorD3

set_option linter.unusedSimpArgs false

set_option linter.unusedVariables false

namespace Go.Proofs.YtaaocomgmacjnabDoor

open Go.RowKit

theorem grown_none {w w' : World} (h : Below w.heap.size w w') : w.grownBy w' none := ⟨h.os, h.tape, h.output, h.size, fun k hk _ => h.block k hk⟩
theorem own_below {w w' : World} {base : Nat} {e : TypeId} {size : Nat} {v : Value} {n : Nat} {xs : List Value} (h : w.ownsRow base e size v n xs) (hb : Below w.heap.size w w') : w'.ownsRow base e size v n xs :=
  h.kept (grown_none hb) (by cases v.ownBlock <;> simp)
theorem own_list {w : World} {base : Nat} {v : Value} {l : List Int} (h : w.ownsRow base 3 1 v l.length (l.map (Value.int .i64))) : ∃ p cap, v = .slice p l.length cap ∧ l.length ≤ cap ∧ ListIn w w.heap.size l p := by
  rcases h.2 with ⟨rfl, h0⟩ | ⟨g, cap, cur, rfl, hb, hg, hle, _, hsz, htk⟩
  · exact ⟨none, 0, by rw [h0], by omega, fun hp => by omega⟩
  · refine ⟨_, cap, rfl, hle, fun hp => ⟨g, 0, rfl, (Array.getElem?_eq_some_iff.1 hg).1, fun k hk => ?_⟩⟩
    rw [Nat.zero_add, cell_of_row w g k cur _ (0, 0) hg]
    have h2 : (cur.toList.take (l.length * 1))[k]? = some (.int .i64 l[k]) := by rw [htk]; simp [hk]
    rw [List.getElem?_take_of_lt (by omega)] at h2
    simpa using h2
theorem lit_cells1 (w : World) (x : Value) (e : TypeId) : ∀ (j : Nat) (u : Value), [x][j]? = some u → (w.alloc (.cells #[x] e)).cell? ((⟨w.heap.size, 0, none⟩ : Addr).add j) = some u := fun j u h => by
  cases j with
  | zero =>
    simp only [List.getElem?_cons_zero, Option.some.injEq] at h
    subst h
    rw [add_at]
    go_simp
  | succ j => simp at h
theorem known0_any (w : World) : Calls Tryd.prog 26 #[.int .i64 0] w fun x w' => x = .returned (.bool true) ∧ w = w' := known_any 0 w
theorem known3_any (w : World) : Calls Tryd.prog 26 #[.int .i64 3] w fun x w' => x = .returned (.bool true) ∧ w = w' := known_any 3 w
theorem own_snoc {w : World} {base : Nat} {v : Value} {c : Int → Bool} {k : Nat} (hc : c ((k : Int) + 1) = true) (h : w.ownsRow base 3 1 v ((mk c k).length + 1) ((mk c k).map (Value.int .i64) ++ [.int .i64 ((k : Int) + 1)])) :
    w.ownsRow base 3 1 v (mk c (k + 1)).length ((mk c (k + 1)).map (Value.int .i64)) := by
  rw [mk_yes (show c ((k + 1 : Nat) : Int) = true from hc)]; simpa using h
theorem mk_skip {c : Int → Bool} {k : Nat} (h : c ((k : Int) + 1) = false) : mk c (k + 1) = mk c k := mk_no (show c ((k + 1 : Nat) : Int) = false from h)
end Go.Proofs.YtaaocomgmacjnabDoor
