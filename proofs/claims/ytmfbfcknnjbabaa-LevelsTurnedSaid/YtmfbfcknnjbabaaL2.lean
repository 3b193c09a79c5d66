/- Ends where nothing is known of the truth, sounded, and towns with one word more that are as asked. -/
import Derived.Test.YtmfbfcknnjbabaaL1
import Derived.Test.YtmfbfcknnjbabaaJ3
set_option linter.unusedSimpArgs false
set_option linter.unusedVariables false
namespace Go.Proofs.Ytmfbfcknnjbabaa
open Go.RowKit

theorem ok_slp {T : Town} {y : Slp} (hok : T.ok = true) (hl : T.s.length + T.r.length ≤ 7) (h : rOk T.W y = true) : (T.slp y).ok = true := by
  simp only [Town.ok, Town.slp, Bool.and_eq_true, decide_eq_true_eq, List.all_append, List.length_append, List.length_cons, List.length_nil, List.all_cons, List.all_nil, Bool.and_true] at hok ⊢
  obtain ⟨h1, h2, h3, h4, h5⟩ := hok
  exact ⟨h1, decide_eq_true h2, by simp; omega, h4, h5, h⟩
theorem ok_snd {T : Town} {y : Snd} (hok : T.ok = true) (hl : T.s.length + T.r.length ≤ 7) (h : sOk T.W y = true) : (T.snd y).ok = true := by
  simp only [Town.ok, Town.snd, Bool.and_eq_true, decide_eq_true_eq, List.all_append, List.length_append, List.length_cons, List.length_nil, List.all_cons, List.all_nil, Bool.and_true] at hok ⊢
  obtain ⟨h1, h2, h3, h4, h5⟩ := hok
  exact ⟨h1, by simp; omega, decide_eq_true h3, ⟨h4, h⟩, h5⟩
theorem ends_any (T : Town) (p q : Option Addr) (c d : Nat) (w : World) (hok : T.ok = true) (ht : TownIn w w.heap.size T p q) :
    Calls Try.prog 47 #[.agg #[.int .i64 T.W, .slice p T.s.length c, .slice q T.r.length d]] w fun e w' => ∃ p1 n1 c1 p2 n2 c2, e = .returned (.tuple #[.slice p1 n1 c1, .slice p2 n2 c2, .bool (kn T).isSome, .bool true]) ∧ Below w.heap.size w w' := by
  cases hk : kn T with
  | none => exact (ends_none T p q c d w hok hk ht).mono fun e w' h => ⟨_, _, _, _, _, _, h.1, h.2⟩
  | some M =>
    have hW := ok_W hok
    exact (ends_some T M T.W.toNat p q c d w hok hk (by omega) ht).mono fun e w' ⟨p1, c1, p2, c2, he, _, _, hb⟩ => ⟨_, _, _, _, _, _, he, hb⟩
theorem box_res (w : World) (W : Int) (p q : Option Addr) (m n c d : Nat) :
    ∃ w1, (w.alloc (Obj.cells #[Value.int IntKind.i64 W, Value.slice p m c, Value.slice q n d] 25)).alloc (Obj.cells #[Value.int IntKind.i64 0, Value.slice none 0 0, Value.slice none 0 0] 25) = w1 ∧ Below w.heap.size w w1 ∧ w1.heap.size = w.heap.size + 1 + 1 ∧
      w1.cell? ⟨w.heap.size, 0, none⟩ = some (.int .i64 W) ∧ w1.cell? ⟨w.heap.size, 1, none⟩ = some (.slice p m c) ∧ w1.cell? ⟨w.heap.size, 2, none⟩ = some (.slice q n d) ∧
      w1.heap[w.heap.size + 1]? = some (.cells #[Value.int IntKind.i64 0, Value.slice none 0 0, Value.slice none 0 0] 25 (0, 0)) := by
  refine ⟨_, rfl, bA (bA (Below.refl _ _) _) _, by simp, by go_simp, by go_simp, by go_simp, ?_⟩
  have := heap_alloc_new (w.alloc (Obj.cells #[Value.int IntKind.i64 W, Value.slice p m c, Value.slice q n d] 25)) (Obj.cells #[Value.int IntKind.i64 0, Value.slice none 0 0, Value.slice none 0 0] 25)
  simpa using this

set_option maxRecDepth 100000 in
set_option maxHeartbeats 2000000 in
theorem sounded_in (T : Town) (u n : Int) (p q : Option Addr) (c d : Nat) (w : World) (hs : T.s.length ≤ 100) (hr : T.r.length ≤ 100) (ht : TownIn w w.heap.size T p q) :
    Calls Try.prog 51 #[.agg #[.int .i64 T.W, .slice p T.s.length c, .slice q T.r.length d], .int .i64 u, .int .i64 n] w fun e w' => ∃ p' c' q' d', e = .returned (.agg #[.int .i64 T.W, .slice p' (T.s.length + 1) c', .slice q' T.r.length d']) ∧ Below w.heap.size w w' ∧ TownIn w' w'.heap.size (T.snd ⟨u, n, n⟩) p' q' := by
  obtain ⟨w1, hw1, hb1, hz1, k0, k1, k2, br⟩ := box_res w T.W p q T.s.length T.r.length c d
  have hc := sounded_own T ⟨u, n, n⟩ p q c d w1 hs hr (ht.bel hb1)
  have HC := Lib.hid hc; have HB1 := Lib.hid hb1; have BR := Lib.hid br; have HZ1 := Lib.hid hz1
  have l0 : w.heap.size < w1.heap.size := by omega
  clear hc hb1 br hz1 ht
  go_enter Try.func51, Try.ntmps51
  go_wp2_with fail
  refine HC.out.mono ?_
  rintro e w2 ⟨p2, c2, q2, d2, rfl, hb2, ho2⟩
  have hr2 : w2.heap[w.heap.size + 1]? = some (.cells #[Value.int IntKind.i64 0, Value.slice none 0 0, Value.slice none 0 0] 25 (0, 0)) := (hb2.block _ (by have := HZ1.out; omega)).trans BR.out
  have t0 := cell_of_row w2 (w.heap.size + 1) 0 _ _ _ hr2
  have t1 := cell_of_row w2 (w.heap.size + 1) 1 _ _ _ hr2
  have t2 := cell_of_row w2 (w.heap.size + 1) 2 _ _ _ hr2
  have ft : ∀ i, w2.frozen? ⟨w.heap.size + 1, i, none⟩ = false := fun i => by simp [World.frozen?, hr2]
  simp only [List.getElem?_toArray, List.getElem?_cons_zero, List.getElem?_cons_succ] at t0 t1 t2
  have hz := HZ1.out
  have HTO := Lib.hid (((ho2.set (b := w.heap.size + 1) (o := 0) (u := .int .i64 T.W) (by omega)).set (b := w.heap.size + 1) (o := 1) (u := .slice p2 (T.s.length + 1) c2) (by omega)).set (b := w.heap.size + 1) (o := 2) (u := .slice q2 T.r.length d2) (by omega)).town
  have HB2 := Lib.hid (bT HB1.out hb2)
  clear hb2 ho2 hr2 hz
  go_wp2
  exact bodyPost_ret (v := .agg #[.int .i64 T.W, .slice p2 (T.s.length + 1) c2, .slice q2 T.r.length d2]) (by simp [results, Try.results51, go_sem, t0, t1, t2]) rfl
    ⟨p2, c2, q2, d2, rfl, bS (bS (bS HB2.out (by dsimp only; omega) _) (by dsimp only; omega) _) (by dsimp only; omega) _, HTO.out⟩
end Go.Proofs.Ytmfbfcknnjbabaa
