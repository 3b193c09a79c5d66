/- The contract of Example: the two towns of the chapter. -/
import Derived.Test.YtmfbfcknnjbabaaG5
import Derived.Deep.RegionWith
set_option linter.unusedSimpArgs false
set_option linter.unusedVariables false
namespace Go.Proofs.Ytmfbfcknnjbabaa
open Go.RowKit

def TE : Town := ⟨3, [⟨0, 10, 12⟩, ⟨2, 20, 30⟩], [⟨0, 1, 3, 5⟩, ⟨1, 2, 4, 8⟩]⟩
def QE : Town := TE.snd ⟨1, 18, 19⟩
theorem SndAt.set {w : World} {b0 o0 b o : Nat} {l : List Snd} {u : Value} (h : SndAt w b0 o0 l) (hne : b0 ≠ b) : SndAt (w.setCell ⟨b, o, none⟩ u) b0 o0 l :=
  have e : ∀ j, (w.setCell ⟨b, o, none⟩ u).cell? ⟨b0, j, none⟩ = w.cell? ⟨b0, j, none⟩ := fun j => World.cell?_of_block (Below.heap_setCell w _ u b0 hne)
  ⟨fun k hk => (e _).trans (h.c0 k hk), fun k hk => (e _).trans (h.c1 k hk), fun k hk => (e _).trans (h.c2 k hk)⟩
theorem SlpAt.set {w : World} {b0 o0 b o : Nat} {l : List Slp} {u : Value} (h : SlpAt w b0 o0 l) (hne : b0 ≠ b) : SlpAt (w.setCell ⟨b, o, none⟩ u) b0 o0 l :=
  have e : ∀ j, (w.setCell ⟨b, o, none⟩ u).cell? ⟨b0, j, none⟩ = w.cell? ⟨b0, j, none⟩ := fun j => World.cell?_of_block (Below.heap_setCell w _ u b0 hne)
  ⟨fun k hk => (e _).trans (h.c0 k hk), fun k hk => (e _).trans (h.c1 k hk), fun k hk => (e _).trans (h.c2 k hk), fun k hk => (e _).trans (h.c3 k hk)⟩
theorem TownIn.set {w : World} {B b o : Nat} {T : Town} {p q : Option Addr} {u : Value} (h : TownIn w B T p q) (hp : ∀ a, p = some a → a.block ≠ b) (hq : ∀ a, q = some a → a.block ≠ b) : TownIn (w.setCell ⟨b, o, none⟩ u) B T p q :=
  ⟨fun h0 => let ⟨b0, o0, e, l, a⟩ := h.s h0; ⟨b0, o0, e, l, a.set (hp _ e)⟩, fun h0 => let ⟨b0, o0, e, l, a⟩ := h.r h0; ⟨b0, o0, e, l, a.set (hq _ e)⟩⟩
theorem two_cases {k : Nat} (h : k < 2) : k = 0 ∨ k = 1 := by omega
theorem box_ex (w : World) : ∃ w2, ((((w.alloc
                  (Obj.cells
                    #[Value.int IntKind.i64 3, Value.slice (some { block := w.heap.size + 1 + 1, off := 0 }) 2 2,
                      Value.slice (some { block := w.heap.size + 1 + 1 + 1, off := 0 }) 2 2]
                    25)).alloc
              (Obj.cells #[Value.int IntKind.i64 0, Value.slice none 0 0, Value.slice none 0 0] 25)).alloc
          (Obj.cells
            #[Value.int IntKind.i64 0, Value.int IntKind.i64 10, Value.int IntKind.i64 12, Value.int IntKind.i64 2,
              Value.int IntKind.i64 20, Value.int IntKind.i64 30]
            62)).alloc
      (Obj.cells
        #[Value.int IntKind.i64 0, Value.int IntKind.i64 1, Value.int IntKind.i64 3, Value.int IntKind.i64 5,
          Value.int IntKind.i64 1, Value.int IntKind.i64 2, Value.int IntKind.i64 4, Value.int IntKind.i64 8]
        58)) = w2 ∧ Below w.heap.size w w2 ∧ w2.heap.size = w.heap.size + 1 + 1 + 1 + 1 ∧
    w2.heap[w.heap.size]? = some (.cells #[Value.int IntKind.i64 3, Value.slice (some { block := w.heap.size + 1 + 1, off := 0 }) 2 2, Value.slice (some { block := w.heap.size + 1 + 1 + 1, off := 0 }) 2 2] 25 (0, 0)) ∧
    w2.heap[w.heap.size + 1]? = some (.cells #[Value.int IntKind.i64 0, Value.slice none 0 0, Value.slice none 0 0] 25 (0, 0)) ∧
    TownIn w2 w2.heap.size TE (some ⟨w.heap.size + 1 + 1, 0, none⟩) (some ⟨w.heap.size + 1 + 1 + 1, 0, none⟩) := by
  refine ⟨_, rfl, bA (bA (bA (bA (Below.refl _ _) _) _) _) _, by simp, ?_, ?_, ?_⟩
  · exact (Below.heap_alloc _ _ _ (by simp; omega)).trans ((Below.heap_alloc _ _ _ (by simp; omega)).trans ((Below.heap_alloc _ _ _ (by simp)).trans (heap_alloc_new _ _)))
  · refine (Below.heap_alloc _ _ _ (by simp)).trans ((Below.heap_alloc _ _ _ (by simp)).trans ?_)
    have := heap_alloc_new (w.alloc (Obj.cells #[Value.int IntKind.i64 3, Value.slice (some { block := w.heap.size + 1 + 1, off := 0 }) 2 2, Value.slice (some { block := w.heap.size + 1 + 1 + 1, off := 0 }) 2 2] 25)) (Obj.cells #[Value.int IntKind.i64 0, Value.slice none 0 0, Value.slice none 0 0] 25)
    simpa using this
  · refine ⟨fun _ => ⟨_, _, rfl, by simp, ?_⟩, fun _ => ⟨_, _, rfl, by simp, ?_⟩⟩
    · refine ⟨fun k hk => ?_, fun k hk => ?_, fun k hk => ?_⟩ <;> (rcases two_cases hk with rfl | rfl <;> (simp only [TE]; go_simp))
    · refine ⟨fun k hk => ?_, fun k hk => ?_, fun k hk => ?_, fun k hk => ?_⟩ <;> (rcases two_cases hk with rfl | rfl <;> (simp only [TE]; go_simp))

set_option maxRecDepth 100000 in
set_option maxHeartbeats 2000000 in
theorem example_ex (w : World) :
    Calls Try.prog 55 #[] w fun e w' => ∃ p c q d p' c' q' d', e = .returned (.tuple #[.agg #[.int .i64 3, .slice p 2 c, .slice q 2 d], .agg #[.int .i64 3, .slice p' 3 c', .slice q' 2 d']]) ∧ Below w.heap.size w w' ∧ TownIn w' w'.heap.size TE p q ∧ TownIn w' w'.heap.size QE p' q' := by
  obtain ⟨w2, hw2, hb2, hz2, h0, h1, ht⟩ := box_ex w
  have c0 := cell_of_row w2 w.heap.size 0 _ _ _ h0
  have c1 := cell_of_row w2 w.heap.size 1 _ _ _ h0
  have c2 := cell_of_row w2 w.heap.size 2 _ _ _ h0
  simp only [List.getElem?_toArray, List.getElem?_cons_zero, List.getElem?_cons_succ] at c0 c1 c2
  have hcall : ∀ X, Below w2.heap.size w2 X → Calls Try.prog 52 #[.agg #[.int .i64 3, .slice (some ⟨w.heap.size + 1 + 1, 0, none⟩) 2 2, .slice (some ⟨w.heap.size + 1 + 1 + 1, 0, none⟩) 2 2], .agg #[.int .i64 1, .int .i64 18, .int .i64 19]] X fun e w' =>
      ∃ p' c' q' d', e = .returned (.agg #[.int .i64 3, .slice p' 3 c', .slice q' 2 d']) ∧ Below w2.heap.size w2 w' ∧ TownOwn w' w2.heap.size QE p' q' c' d' := fun X hX => by
    refine (sounded_own TE ⟨1, 18, 19⟩ _ _ 2 2 X (by decide) (by decide) ((ht.below hX).mono hX.size)).mono ?_
    rintro e w' ⟨p', c', q', d', rfl, hb, ho⟩
    exact ⟨p', c', q', d', rfl, bT hX hb, ho.mono hX.size⟩
  have HC := Lib.hid hcall; have HB2 := Lib.hid hb2; have HZ2 := Lib.hid hz2; have H0 := Lib.hid h0; have H1 := Lib.hid h1; have HT := Lib.hid ht
  clear hcall hb2 hz2 h0 h1 ht
  go_enter Try.func55, Try.ntmps55
  go_wp2
  go_region_with (go_at_call 52; refine (HC.out _ (by repeat (first | exact Below.refl _ _ | refine bd ?_ | refine bD ?_ _))).mono ?_; rintro e w3 ⟨p', c', q', d', rfl, hb3, ht3⟩; go_must (have HB3 := Lib.hid hb3; have HT3 := Lib.hid ht3; have g0 := (hb3.block w.heap.size (by have := HZ2.out; omega)).trans H0.out; have g1 := (hb3.block (w.heap.size + 1) (by have := HZ2.out; omega)).trans H1.out; have s0 := cell_of_row w3 w.heap.size 0 _ _ _ g0; have s1 := cell_of_row w3 w.heap.size 1 _ _ _ g0; have s2 := cell_of_row w3 w.heap.size 2 _ _ _ g0; have t0 := cell_of_row w3 (w.heap.size + 1) 0 _ _ _ g1; have t1 := cell_of_row w3 (w.heap.size + 1) 1 _ _ _ g1; have t2 := cell_of_row w3 (w.heap.size + 1) 2 _ _ _ g1; have fs : ∀ i, w3.frozen? ⟨w.heap.size, i, none⟩ = false := (fun i => by simp [World.frozen?, g0]); have ft : ∀ i, w3.frozen? ⟨w.heap.size + 1, i, none⟩ = false := (fun i => by simp [World.frozen?, g1]); simp only [List.getElem?_toArray, List.getElem?_cons_zero, List.getElem?_cons_succ] at s0 s1 s2 t0 t1 t2; clear hb3 ht3 g0 g1))
  all_goals
    have z2 := HZ2.out
    have hto := (((((HT3.out.set (b := w.heap.size) (o := 0) (u := .int .i64 3) (by omega)).set (b := w.heap.size) (o := 1) (u := .slice (some ⟨w.heap.size + 1 + 1, 0, none⟩) 2 2) (by omega)).set (b := w.heap.size) (o := 2) (u := .slice (some ⟨w.heap.size + 1 + 1 + 1, 0, none⟩) 2 2) (by omega)).set (b := w.heap.size + 1) (o := 0) (u := .int .i64 3) (by omega)).set (b := w.heap.size + 1) (o := 1) (u := .slice p' 3 c') (by omega)).set (b := w.heap.size + 1) (o := 2) (u := .slice q' 2 d') (by omega)
    have ht0 := HT.out.below HB3.out
    have n1 : ∀ a, (some (⟨w.heap.size + 1 + 1, 0, none⟩ : Addr)) = some a → a.block ≠ w.heap.size := fun a h => by cases h; simp only; omega
    have n2 : ∀ a, (some (⟨w.heap.size + 1 + 1 + 1, 0, none⟩ : Addr)) = some a → a.block ≠ w.heap.size := fun a h => by cases h; simp only; omega
    have n3 : ∀ a, (some (⟨w.heap.size + 1 + 1, 0, none⟩ : Addr)) = some a → a.block ≠ w.heap.size + 1 := fun a h => by cases h; simp only; omega
    have n4 : ∀ a, (some (⟨w.heap.size + 1 + 1 + 1, 0, none⟩ : Addr)) = some a → a.block ≠ w.heap.size + 1 := fun a h => by cases h; simp only; omega
    have hte := (((((ht0.set (b := w.heap.size) (o := 0) (u := .int .i64 3) n1 n2).set (b := w.heap.size) (o := 1) (u := .slice (some ⟨w.heap.size + 1 + 1, 0, none⟩) 2 2) n1 n2).set (b := w.heap.size) (o := 2) (u := .slice (some ⟨w.heap.size + 1 + 1 + 1, 0, none⟩) 2 2) n1 n2).set (b := w.heap.size + 1) (o := 0) (u := .int .i64 3) n3 n4).set (b := w.heap.size + 1) (o := 1) (u := .slice p' 3 c') n3 n4).set (b := w.heap.size + 1) (o := 2) (u := .slice q' 2 d') n3 n4
    have HTO := Lib.hid hto.town; have HTE := Lib.hid hte
    have hb3 : Below w.heap.size w w3 := bT HB2.out HB3.out
    have HBB := Lib.hid hb3
    have hz3 := HB3.out.size
    clear hto ht0 hte n1 n2 n3 n4 hb3 hw2
    go_wp2
    exact bodyPost_ret (v := .tuple #[.agg #[.int .i64 3, .slice (some ⟨w.heap.size + 1 + 1, 0, none⟩) 2 2, .slice (some ⟨w.heap.size + 1 + 1 + 1, 0, none⟩) 2 2], .agg #[.int .i64 3, .slice p' 3 c', .slice q' 2 d']]) (by simp [results, Try.results55, go_sem, s0, s1, s2, t0, t1, t2]) rfl
      ⟨_, _, _, _, p', c', q', d', rfl, bS (bS (bS (bS (bS (bS HBB.out (by simp) _) (by simp) _) (by simp) _) (by simp) _) (by simp) _) (by simp) _, HTE.out.mono (by simp; omega), HTO.out⟩
end Go.Proofs.Ytmfbfcknnjbabaa
