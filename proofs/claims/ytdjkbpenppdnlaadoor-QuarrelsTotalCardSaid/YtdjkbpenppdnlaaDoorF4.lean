/- Worlds as bits: what is collected of them. -/
import Derived.Test.YtdjkbpenppdnlaaDoorF3

import Derived.Test.YtdjkbpenppdnlaaDoorK3

import Derived.Test.YtdjkbpenppdnlaaDoorE8

set_option linter.unusedSimpArgs false

set_option linter.unusedVariables false

namespace Go.Proofs.YtdjkbpenppdnlaaDoor

open Go.RowKit Go.Shelf
attribute [local go_sem] Oper.semAt_some

/-- what was collected so far: the variable at block g leads to the row -/
structure AI (w : World) (g : Nat) (xs : List Nat) (W : World) : Prop where
  b : Below w.heap.size w W
  sz : g + 3 ≤ W.heap.size
  c : ∃ v, W.cell? ⟨g, 0, none⟩ = some v ∧ W.ownsRow (g + 3) 3 1 v xs.length (cellsN xs)
  f : W.frozen? ⟨g, 0, none⟩ = false
theorem AI.bel {w A B : World} {g : Nat} {xs : List Nat} (h : AI w g xs A) (hb : Below A.heap.size A B) : AI w g xs B := by
  have h1 := h.sz
  obtain ⟨v, hc, ho⟩ := h.c
  exact ⟨bT h.b hb, Nat.le_trans h1 hb.size, ⟨v, (hb.cell (p := ⟨g, 0, none⟩) (by show g < _; omega)).trans hc, own_below ho hb⟩, (hb.frozen (p := ⟨g, 0, none⟩) (by show g < _; omega)).trans h.f⟩
theorem AI.put {w A : World} {g k : Nat} {xs : List Nat} (h : AI w g xs A) (o : Obj) (hw : w.heap.size ≤ k) (hk : g < k) (hk3 : k < g + 3) : AI w g xs (A.putObj k o) := by
  have h1 := h.sz
  obtain ⟨v, hc, ho⟩ := h.c
  have e : (A.putObj k o).heap[g]? = A.heap[g]? := World.putObj_heap_other (by omega)
  refine ⟨h.b.trans (below_putObj _ _ hw), by simp [World.putObj]; omega, ⟨v, (World.cell?_of_block (a := ⟨g, 0, none⟩) e).trans hc, ?_⟩, (World.frozen?_of_block (a := ⟨g, 0, none⟩) e).trans h.f⟩
  refine ho.kept (row := some k) (grownBy_putObj' _ _ _) ?_
  cases hv : v.ownBlock with
  | none => exact .inl rfl
  | some x => exact .inr (fun e => by have := (ho.lt x hv).1; cases e; omega)
theorem cellsN_snoc {l : List Nat} {x : Nat} : cellsN (l ++ [x]) = cellsN l ++ [.int .i64 (x : Int)] := by simp [cellsN]
set_option maxRecDepth 100000 in
set_option maxHeartbeats 4000000 in
theorem appendSeq_any (m : Nat) (w : World) (hm : m < 64) (hg : GlobsOk laid w) :
    CallsIn Fence.wide 9 Tryd.prog 108 #[.slice none 0 0, .func (.func 73) #[.int .u64 (m : Int)] #[]] w fun e w' => ∃ v, e = .returned v ∧ w'.ownsRow w.heap.size 3 1 v (bitsM m).length (cellsN (bitsM m)) ∧ Below w.heap.size w w' := by
  have HG := Lib.hid hg
  obtain ⟨i3, hi3, hz3, hz3', hz3''⟩ := info_parts infoI
  have I3 := Lib.hid hi3; have Z3 := Lib.hid hz3; have Z3' := Lib.hid hz3'; have Z3'' := Lib.hid hz3''
  have HM := Lib.hid hm
  obtain ⟨w1, hw1⟩ : ∃ w1, w.alloc (Obj.cells #[Value.slice none 0 0] 31) = w1 := ⟨_, rfl⟩
  have hc1 : w1.cell? ⟨w.heap.size, 0, none⟩ = some (.slice none 0 0) := by rw [← hw1]; clear hw1; go_simp
  have hf1 : w1.frozen? ⟨w.heap.size, 0, none⟩ = false := by rw [← hw1]; clear hw1; go_simp
  have hb1 : Below w.heap.size w w1 := by rw [← hw1]; exact bA (Below.refl _ _) _
  have hz1 : w1.heap.size = w.heap.size + 1 := by rw [← hw1]; simp
  have HW1 := Lib.hid (And.intro hc1 (And.intro hf1 (And.intro hb1 hz1)))
  clear hg hi3 hz3 hz3' hz3'' hm hc1 hf1 hb1 hz1
  refine callsIn_of_wp_marks Tryd.func108 rfl trivial ?_ rfl
  simp only [Tryd.ntmps108, List.size_toArray, List.length_cons, List.length_nil, Nat.reduceAdd, Nat.reduceSub, Array.replicate_succ, Array.replicate_zero, List.push_toArray, List.append_toArray, List.nil_append, List.cons_append]
  gi_wp2
  refine rangeN rfl (by omega) (gf := 73) (fb := #[.int .u64 (m : Int)]) (lb := #[]) rfl trivial (enters_of Tryd.func73 (by kernel_rfl) rfl)
    (encs := fun x : Nat => #[Value.int .i64 (x : Int)]) (fun pre x _ => pre ++ [x] <+: bitsM m) (fun xs W => AI w w.heap.size xs W) (fun _ _ _ => False) (fun xs => xs = bitsM m) (fun pre => pre <+: bitsM m) (fun W => GlobsOk laid W) (fun s A h => HG.out.below h.b)
    (fun _ => rfl) ?start (fun s A o h _ _ => h.put o (by have := HW1.out.2.2.2; omega) (by have := HW1.out.2.2.2; omega) (by have := HW1.out.2.2.2; omega)) (fun s A B h k => h.bel k) (fun _ _ _ _ _ h _ => h) ?seq ?round ?done ?stop
  case start =>
    intro B hB hBz
    obtain ⟨hc1, hf1, hb1, hz1⟩ := HW1.out
    refine ⟨bT hb1 hB, ?_, ⟨_, (hB.cell (p := ⟨w.heap.size, 0, none⟩) (by show w.heap.size < _; omega)).trans hc1, ⟨by rfl, .inl ⟨by rfl, by rfl⟩⟩⟩, (hB.frozen (p := ⟨w.heap.size, 0, none⟩) (by show w.heap.size < _; omega)).trans hf1⟩
    omega
  case seq =>
    intro l J Jx W hl1 hl2 hB hJ hJK hY h0
    exact each_any m l _ J Jx W HM.out hJ hJK (fun m pre x A hj hp => yieldAny rfl m (hY pre x A hj hp)) h0
  case round =>
    rintro l pre x W hl hr' hI hx1
    gi_wp2
    refine ⟨Below.refl _ _, fun W₂ hg2 hs2' hz2 hr2 hd2 hI2 => ?_⟩
    obtain ⟨v, hc, ho⟩ := hI2.c
    have hf := hI2.f
    have HA2 := Lib.hid hI2; have HO := Lib.hid ho; have HSZ := Lib.hid hI2.sz; have HBB := Lib.hid hI2.b
    have hx6 := bits_lt hx1
    have hlen := bits_pre hx1
    rw [List.length_append, List.length_singleton] at hlen
    have HLN := Lib.hid hlen
    clear hI hI2 ho hg2 hs2' hz2 hr2 hd2 hr' hw1 hlen
    gi_wp2_with (gi_at_builtin; refine wpListIn_append_own _ rfl (.tmp 8) (.tmp 10) 31 rfl (w.heap.size + 3) 3 i3 _ 1 8 Tryd.underlying31 I3.out Z3.out Z3'.out Z3''.out rfl (by decide) v pre.length (cellsN pre) rfl (HO.out.alloc _) ⟨W₂.heap.size, 0, none⟩ 1 1 [.int .i64 (x : Int)] rfl rfl (lit_cellsQ _ _ _ _ (by simp)) ?c2 ?c3 ?c4 ?c5 ?_)
    case c2 => simp [Value.oneCell']
    case c3 => have := HLN.out; unfold maxLen; omega
    case c4 => have := HLN.out; omega
    case c5 => have := HSZ.out; simp; omega
    intro v' w4 hown hgrow _
    obtain ⟨p', cp', hv', _⟩ := own_form hown
    subst hv'
    have hne : ∀ b, b < w.heap.size + 3 → w4.heap[b]? = W₂.heap[b]? := fun b hb' => (hgrow.block b (by have := HSZ.out; simp; omega) (fun e => by have := (HO.out.lt b e.symm).1; omega)).trans (Below.heap_alloc _ _ _ (by have := HSZ.out; omega))
    have c : w4.cell? ⟨w.heap.size, 0, none⟩ = some v := (World.cell?_of_block (a := ⟨w.heap.size, 0, none⟩) (hne w.heap.size (by omega))).trans hc
    have f : w4.frozen? ⟨w.heap.size, 0, none⟩ = false := (World.frozen?_of_block (a := ⟨w.heap.size, 0, none⟩) (hne w.heap.size (by omega))).trans hf
    have hb4 := below_grown (a := w) (bA HBB.out _) (HO.out.alloc _) (by omega) hgrow
    have hs4 : W₂.heap.size ≤ w4.heap.size := by have := hgrow.size; simp at this; omega
    have HN := Lib.hid (And.intro hown (And.intro hb4 (And.intro hs4 hne)))
    clear hown hgrow hb4 hs4 hne hc hf
    gi_wp2
    have h1 := HN.out.2.2.1; have h2 := HW1.out.2.2.2; have h3 := HSZ.out
    refine ⟨⟨by simpa using h1, (setCell_block (by simp; omega)).trans (HN.out.2.2.2 _ (by omega)), (setCell_block (by simp; omega)).trans (HN.out.2.2.2 _ (by omega))⟩, bS HN.out.2.1 (Nat.le_refl _) _, by simp; omega, ⟨.slice p' (pre.length + 1) cp', by go_simp, ?_⟩, by go_simp⟩
    rw [cellsN_snoc, List.length_append]
    exact own_set HN.out.1 _ _ (by show w.heap.size < _; omega)
  case done =>
    rintro D' xs W rfl rfl hI hK
    obtain ⟨v, hc, ho⟩ := hI.c
    have HA := Lib.hid hI; have HK := Lib.hid hK; have HO := Lib.hid ho
    clear hI hK hw1 ho
    gi_wp2
    refine ⟨by simp, .inl ⟨_, _, rfl, run_takeDeferred HK.out, ?_⟩⟩
    have h2 := HW1.out.2.2.2
    have hA2 := HA.out.put (.deferred none) (k := w1.heap.size) (by omega) (by omega) (by omega)
    refine ⟨v, by simp [results, Tryd.f108, go_sem], v, rfl, ?_, hA2.b⟩
    refine (own_base HO.out (Nat.le_add_right _ 3)).kept (row := some w1.heap.size) (grownBy_putObj' _ _ _) ?_
    cases hv : v.ownBlock with
    | none => exact .inl rfl
    | some x => exact .inr (fun e => by have := (HO.out.lt x hv).1; cases e; omega)
  case stop =>
    rintro D' c' pre W hD hSp h hK
    exact h.elim
theorem collect_any (m : Nat) (w : World) (hm : m < 64) (hg : GlobsOk laid w) :
    Calls Tryd.prog 71 #[.func (.func 73) #[.int .u64 (m : Int)] #[]] w fun e w' => ∃ v, e = .returned v ∧ w'.ownsRow w.heap.size 3 1 v (bitsM m).length (cellsN (bitsM m)) ∧ Below w.heap.size w w' := by
  have HA := Lib.hid (appendSeq_any m w hm hg)
  clear hm hg
  go_enter Tryd.func71, Tryd.ntmps71
  go_wp2_with fail
  refine (callsIn_wide.1 HA.out).mono ?_
  rintro e w' ⟨v, rfl, ho, hb⟩
  have HO := Lib.hid ho; have HB := Lib.hid hb
  clear ho hb
  go_wp2
  go_ret
  exact ⟨v, rfl, HO.out, HB.out⟩
end Go.Proofs.YtdjkbpenppdnlaaDoor
