/- Shafts: append([]int{}, l...) of the laws. -/
import Derived.Test.YtaaocomgmacjnabDoorA9

import Derived.Test.YtaaocomgmacjnabDoorC1

import Derived.Laws.AppendOwn

set_option linter.unusedSimpArgs false

set_option linter.unusedVariables false

namespace Go.Proofs.YtaaocomgmacjnabDoor

open Go.RowKit

theorem lit_at {X : World} {base g : Nat} {e : TypeId} {size : Nat} (hg : X.heap.size = g) (hb : base ≤ g) : (X.alloc (.cells #[] e)).ownsRow base e size (.slice (some ⟨g, 0, none⟩) 0 0) 0 [] := by
  subst hg; exact World.ownsRow_lit X #[] 0 hb (Nat.zero_le _) (by simp)
theorem below_grown {a w w' : World} {base : Nat} {e : TypeId} {size : Nat} {v : Value} {n : Nat} {xs : List Value} (h : Below a.heap.size a w) (ho : w.ownsRow base e size v n xs) (hb : a.heap.size ≤ base) (hg : w.grownBy w' v.ownBlock) : Below a.heap.size a w' :=
  h.grown hg h.size fun k hk => Nat.le_trans hb (ho.lt k hk).1
theorem append_none (x : Option Addr) (cx g : Nat) (ty : TypeId) (W : World) : Sem.run Tryd.prog (Builtin.append_ #[23, 23] ty #[.slice (some ⟨g, 0, none⟩) 0 0, .slice x 0 cx]) W = .ok (.slice (some ⟨g, 0, none⟩) 0 0) W := by
  obtain ⟨i0, hi, hz0, hz1, hz2⟩ := info_parts infoI
  cases x <;> simp [Builtin.append_, run_underlying Tryd.underlying23, sizeOf, typeInfo, hi, Builtin.lenOf, Builtin.firstCells, loadCells, loadCellsFrom, storeCells, Sem.run_bind]
section

variable {ops : Array Oper} {rest : List Oper} {o : Oper} {a : Act} {w : World} {Q : Exit → Act → World → Prop}

/-- append([]int{}, l...) -/
theorem wpList_append_list (W0 : World) (hgd : o.guard = none) (s x : Operand) (ho : o.op = .call { callee := .builtin .append, args := #[s, x], argTypes := #[23, 23] }) (hW : w = W0.alloc (.cells #[] 3)) (hs : a.eval s = .slice (some ⟨W0.heap.size, 0, none⟩) 0 0)
    (l : List Int) (ad : Option Addr) (cx : Nat) (hx : a.eval x = .slice ad l.length cx) (hi : ListIn w w.heap.size l ad) (hl : l.length ≤ 1000)
    (h : ∀ v c' w', Below W0.heap.size W0 w' → l.length ≤ c' → ListIn w' w'.heap.size l v → wpList Tryd.prog ops Q rest (a.put o.dst (.slice v l.length c')) w') : wpList Tryd.prog ops Q (o :: rest) a w := by
  obtain ⟨i0, hi0, hz0, hz1, hz2⟩ := info_parts infoI
  have hlit : w.ownsRow W0.heap.size 3 1 (.slice (some ⟨W0.heap.size, 0, none⟩) 0 0) 0 [] := by rw [hW]; exact lit_at rfl (Nat.le_refl _)
  have hb0 : Below W0.heap.size W0 w := by rw [hW]; exact bA (Below.refl _ _) _
  cases ad with
  | some ad =>
    refine wpList_append_own w hgd s x 23 ho W0.heap.size 3 i0 _ 1 8 Tryd.underlying23 hi0 hz0 hz1 hz2 rfl (by decide) _ 0 [] hs hlit ad l.length cx (l.map (Value.int .i64)) hx (by simp) ?_ (by intro u hu; obtain ⟨y, _, rfl⟩ := List.mem_map.1 hu; rfl) (by unfold maxLen; omega) (by omega) hb0.size ?_
    · intro j u hu
      have hj : j < l.length := by have := (List.getElem?_eq_some_iff.1 hu).1; simpa using this
      obtain ⟨b, o', e, hc⟩ := hi (by omega)
      cases e
      rw [add_at, hc.cell j hj]
      rw [List.getElem?_map, List.getElem?_eq_getElem hj] at hu
      exact hu
    · intro v' w' hown hgr _
      have hbl := below_grown hb0 hlit (Nat.le_refl _) hgr
      simp only [Nat.zero_add, List.nil_append] at hown
      rcases hown.2 with ⟨rfl, h0⟩ | ⟨g, cap, cur, rfl, hb, hg, hle, _, hsz, htk⟩
      · have hh := h none 0 w' hbl (by omega) (fun hp => by omega)
        rw [h0] at hh; exact hh
      · refine h _ cap w' hbl hle (fun hp => ⟨g, 0, rfl, (Array.getElem?_eq_some_iff.1 hg).1, fun k hk => ?_⟩)
        rw [Nat.zero_add, cell_of_row w' g k cur _ (0, 0) hg]
        have h2 : (cur.toList.take (l.length * 1))[k]? = some (.int .i64 l[k]) := by rw [htk]; simp [hk]
        rw [List.getElem?_take_of_lt (by omega)] at h2
        simpa using h2
  | none =>
    have h0 : l.length = 0 := by
      rcases Nat.eq_zero_or_pos l.length with h | h
      · exact h
      · obtain ⟨b, o', e, _⟩ := hi h; cases e
    have hnil : l = [] := List.eq_nil_of_length_eq_zero h0
    subst hnil
    refine wpList_plain hgd fun K hK => ?_
    have hrun := append_none none cx W0.heap.size o.type w
    unfold Oper.wp
    simp only [List.length_nil] at hx
    simp [execOp, ho, resolve, invoke, builtin, hs, hx, hrun, Result.andThen]
    exact hK _ _ (h (some ⟨W0.heap.size, 0, none⟩) 0 w hb0 (Nat.le_refl _) (fun hp => absurd hp (by simp)))
end

end Go.Proofs.YtaaocomgmacjnabDoor
