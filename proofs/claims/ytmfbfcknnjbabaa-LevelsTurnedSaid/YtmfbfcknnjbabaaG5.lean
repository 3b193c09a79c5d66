/- The contract of Sounded: the town with one more sounding, in memory of its own. -/
import Derived.Test.YtmfbfcknnjbabaaA9
import Derived.Deep.DeepFit
set_option linter.unusedSimpArgs false
set_option linter.unusedVariables false
namespace Go.Proofs.Ytmfbfcknnjbabaa
open Go.RowKit

def Town.snd (T : Town) (x : Snd) : Town := ⟨T.W, T.s ++ [x], T.r⟩
theorem box_snd (w : World) (W : Int) (p q : Option Addr) (m n c d : Nat) (x : Snd) :
    ∃ w1, ((w.alloc (Obj.cells #[Value.int IntKind.i64 W, Value.slice p m c, Value.slice q n d] 25)).alloc (Obj.cells #[.int .i64 x.well, .int .i64 x.low, .int .i64 x.high] 62)).alloc (Obj.cells #[Value.int IntKind.i64 0, Value.slice none 0 0, Value.slice none 0 0] 25) = w1 ∧ Below w.heap.size w w1 ∧ w1.heap.size = w.heap.size + 1 + 1 + 1 ∧
      w1.cell? ⟨w.heap.size, 0, none⟩ = some (.int .i64 W) ∧ w1.cell? ⟨w.heap.size, 1, none⟩ = some (.slice p m c) ∧ w1.cell? ⟨w.heap.size, 2, none⟩ = some (.slice q n d) ∧
      w1.heap[w.heap.size + 1]? = some (.cells #[.int .i64 x.well, .int .i64 x.low, .int .i64 x.high] 62 (0, 0)) ∧
      w1.heap[w.heap.size + 1 + 1]? = some (.cells #[Value.int IntKind.i64 0, Value.slice none 0 0, Value.slice none 0 0] 25 (0, 0)) := by
  refine ⟨_, rfl, bA (bA (bA (Below.refl _ _) _) _) _, by simp, by go_simp, by go_simp, by go_simp, ?_, ?_⟩
  · refine (Below.heap_alloc _ _ _ (by simp)).trans ?_
    have := heap_alloc_new (w.alloc (Obj.cells #[Value.int IntKind.i64 W, Value.slice p m c, Value.slice q n d] 25)) (Obj.cells #[.int .i64 x.well, .int .i64 x.low, .int .i64 x.high] 62)
    simpa using this
  · have := heap_alloc_new ((w.alloc (Obj.cells #[Value.int IntKind.i64 W, Value.slice p m c, Value.slice q n d] 25)).alloc (Obj.cells #[.int .i64 x.well, .int .i64 x.low, .int .i64 x.high] 62)) (Obj.cells #[Value.int IntKind.i64 0, Value.slice none 0 0, Value.slice none 0 0] 25)
    simpa using this

theorem own_set_ne {W : World} {base b o : Nat} {e T : TypeId} {size : Nat} {v u : Value} {n : Nat} {xs : List Value} {c : Array Value} {f : Nat × Nat} (h : W.ownsRow base e size v n xs) (hb : W.heap[b]? = some (.cells c T f)) (hne : T ≠ e) : (W.setCell ⟨b, o, none⟩ u).ownsRow base e size v n xs := by
  refine ⟨h.1, ?_⟩
  rcases h.2 with h0 | ⟨g, cap, cur, e', hb', hg, r⟩
  · exact .inl h0
  · refine .inr ⟨g, cap, cur, e', hb', (Below.heap_setCell W _ u g ?_).trans hg, r⟩
    rintro rfl
    rw [hb] at hg
    simp only [Option.some.injEq, Obj.cells.injEq] at hg
    exact hne hg.2.1
theorem own_ne {W : World} {base base' : Nat} {e e' : TypeId} {size size' : Nat} {v v' : Value} {n n' : Nat} {xs xs' : List Value} (h : W.ownsRow base e size v n xs) (h' : W.ownsRow base' e' size' v' n' xs') (hne : e ≠ e') : v.ownBlock = none ∨ v.ownBlock ≠ v'.ownBlock := by
  rcases h.2 with ⟨rfl, _⟩ | ⟨g, cap, cur, rfl, hb, hg, r⟩
  · exact .inl rfl
  · rcases h'.2 with ⟨rfl, _⟩ | ⟨g', cap', cur', rfl, hb', hg', r'⟩
    · exact .inr (by simp [Value.ownBlock])
    · refine .inr ?_
      simp only [Value.ownBlock, ne_eq, Option.some.injEq]
      rintro rfl
      rw [hg] at hg'
      simp only [Option.some.injEq, Obj.cells.injEq] at hg'
      exact hne hg'.2.1
theorem own_ne_box {W : World} {base b : Nat} {e T : TypeId} {size : Nat} {v : Value} {n : Nat} {xs : List Value} {c : Array Value} {f : Nat × Nat} (h : W.ownsRow base e size v n xs) (hb : W.heap[b]? = some (.cells c T f)) (hne : T ≠ e) : some b ≠ v.ownBlock := by
  rcases h.2 with ⟨rfl, _⟩ | ⟨g, cap, cur, rfl, hb', hg, r⟩
  · simp [Value.ownBlock]
  · simp only [Value.ownBlock, ne_eq, Option.some.injEq]
    rintro rfl
    rw [hb] at hg
    simp only [Option.some.injEq, Obj.cells.injEq] at hg
    exact hne hg.2.1

set_option maxRecDepth 100000 in
set_option maxHeartbeats 2000000 in
theorem sounded_own (T : Town) (x : Snd) (p q : Option Addr) (c d : Nat) (w : World) (hs : T.s.length ≤ 100) (hr : T.r.length ≤ 100) (ht : TownIn w w.heap.size T p q) :
    Calls Try.prog 52 #[.agg #[.int .i64 T.W, .slice p T.s.length c, .slice q T.r.length d], .agg #[.int .i64 x.well, .int .i64 x.low, .int .i64 x.high]] w fun e w' => ∃ p' c' q' d', e = .returned (.agg #[.int .i64 T.W, .slice p' (T.s.length + 1) c', .slice q' T.r.length d']) ∧ Below w.heap.size w w' ∧ TownOwn w' w.heap.size (T.snd x) p' q' c' d' := by
  obtain ⟨w1, hw1, hb1, hz1, k0, k1, k2, bx, br⟩ := box_snd w T.W p q T.s.length T.r.length c d x
  have hl1 : w.heap.size < w1.heap.size := by omega
  have hcopy := copy_own T p q c d w1 (by omega) (by omega) ((ht.below hb1).mono hb1.size)
  obtain ⟨i3, hi3, hz3, hz3', hz3''⟩ := info_parts info62
  have I3 := Lib.hid hi3; have Z3 := Lib.hid hz3; have Z3' := Lib.hid hz3'; have Z3'' := Lib.hid hz3''; clear hi3 hz3 hz3' hz3''
  have HC := Lib.hid hcopy; have HB1 := Lib.hid hb1; have HZ1 := Lib.hid hz1; have BX := Lib.hid bx; have BR := Lib.hid br
  clear ht hcopy hb1 hz1 bx br
  go_enter Try.func52, Try.ntmps52
  go_wp2_with (first
    | (go_at_call 17; refine HC.out.mono ?_; rintro e w2 ⟨p2, c2, q2, d2, rfl, hb2, ho2⟩; go_must (have HB2 := Lib.hid hb2; have HO2 := Lib.hid ho2; have r0 := (hb2.cell (p := ⟨w.heap.size + 1, 0, none⟩) (by have := HZ1.out; simp only; omega)).trans (cell_of_row _ _ 0 _ _ _ BX.out); have r1 := (hb2.cell (p := ⟨w.heap.size + 1, 1, none⟩) (by have := HZ1.out; simp only; omega)).trans (cell_of_row _ _ 1 _ _ _ BX.out); have r2 := (hb2.cell (p := ⟨w.heap.size + 1, 2, none⟩) (by have := HZ1.out; simp only; omega)).trans (cell_of_row _ _ 2 _ _ _ BX.out); have hl2 : w.heap.size + 1 < w2.heap.size := (by have := HZ1.out; have := hb2.size; omega); simp only [List.getElem?_toArray, List.getElem?_cons_zero, List.getElem?_cons_succ] at r0 r1 r2; clear hb2 ho2))
    | (at_builtin; refine wpList_append_own _ rfl _ _ 22 rfl (w1.heap.size + 2) 62 i3 _ 3 24 Try.underlying22 I3.out Z3.out Z3'.out Z3''.out rfl (by decide) _ _ _ rfl ((HO2.out.s.alloc _).alloc _) ⟨w2.heap.size + 1, 0, none⟩ 1 1 [.int .i64 x.well, .int .i64 x.low, .int .i64 x.high] rfl rfl ?c1 ?c2 ?c3 ?c4 ?c5 ?_))
  case c1 => exact World.news_of_block (cs := #[.int .i64 x.well, .int .i64 x.low, .int .i64 x.high]) (t := 62) (fr := (0, 0)) (by have := heap_alloc_new (w2.alloc (Obj.cells #[Value.int IntKind.i64 T.W, Value.slice p2 T.s.length c2, Value.slice q2 T.r.length d2] 25)) (Obj.cells #[.int .i64 x.well, .int .i64 x.low, .int .i64 x.high] 62); simpa using this)
  case c2 => simp [Value.oneCell']
  case c3 => unfold maxLen; omega
  case c4 => omega
  case c5 => have := HO2.out.s.1; have := HZ1.out; have := HB2.out.size; simp; omega
  intro v' w3 hown hgrow _
  obtain ⟨W', hW'⟩ : ∃ W', (w2.alloc (Obj.cells #[Value.int IntKind.i64 T.W, Value.slice p2 T.s.length c2, Value.slice q2 T.r.length d2] 25)).alloc (Obj.cells #[.int .i64 x.well, .int .i64 x.low, .int .i64 x.high] 62) = W' := ⟨_, rfl⟩
  rw [hW'] at hgrow
  obtain ⟨p3, c3, rfl, _⟩ := own_form hown
  have hbx : W'.heap[w2.heap.size]? = some (.cells #[Value.int IntKind.i64 T.W, Value.slice p2 T.s.length c2, Value.slice q2 T.r.length d2] 25 (0, 0)) := by
    rw [← hW']; exact (Below.heap_alloc _ _ _ (by simp)).trans (heap_alloc_new _ _)
  have hb2W : Below w2.heap.size w2 W' := by rw [← hW']; exact bA (bA (Below.refl _ _) _) _
  have hoS : W'.ownsRow (w1.heap.size + 2) 62 3 (.slice p2 T.s.length c2) T.s.length (flatS T.s) := own_below HO2.out.s hb2W
  have hoR : W'.ownsRow (w1.heap.size + 2) 58 4 (.slice q2 T.r.length d2) T.r.length (flatR T.r) := own_below HO2.out.r hb2W
  have hsz : w2.heap.size < W'.heap.size := (Array.getElem?_eq_some_iff.1 hbx).1
  have hb3 : w3.heap[w2.heap.size]? = some (.cells #[Value.int IntKind.i64 T.W, Value.slice p2 T.s.length c2, Value.slice q2 T.r.length d2] 25 (0, 0)) := (hgrow.block _ hsz (own_ne_box hoS hbx (by decide))).trans hbx
  have hz1 := HZ1.out
  have hbW : Below w1.heap.size w1 W' := bT HB2.out hb2W
  have hrW : W'.heap[w.heap.size + 1 + 1]? = some (.cells #[Value.int IntKind.i64 0, Value.slice none 0 0, Value.slice none 0 0] 25 (0, 0)) := (hbW.block _ (by omega)).trans BR.out
  have hr3 : w3.heap[w.heap.size + 1 + 1]? = some (.cells #[Value.int IntKind.i64 0, Value.slice none 0 0, Value.slice none 0 0] 25 (0, 0)) := (hgrow.block _ (by have := hbW.size; omega) (own_ne_box hoS hrW (by decide))).trans hrW
  have hoR3 : w3.ownsRow (w1.heap.size + 2) 58 4 (.slice q2 T.r.length d2) T.r.length (flatR T.r) := hoR.kept hgrow (own_ne hoR hoS (by decide))
  have hbelow : Below w.heap.size w w3 := below_grown (bT HB1.out hbW) hoS (by have := HB1.out.size; omega) hgrow
  have s0 := cell_of_row w3 w2.heap.size 0 _ _ _ hb3
  have s1 := cell_of_row w3 w2.heap.size 1 _ _ _ hb3
  have s2 := cell_of_row w3 w2.heap.size 2 _ _ _ hb3
  have t0 := cell_of_row w3 (w.heap.size + 1 + 1) 0 _ _ _ hr3
  have t1 := cell_of_row w3 (w.heap.size + 1 + 1) 1 _ _ _ hr3
  have t2 := cell_of_row w3 (w.heap.size + 1 + 1) 2 _ _ _ hr3
  have fs : ∀ i, w3.frozen? ⟨w2.heap.size, i, none⟩ = false := fun i => by simp [World.frozen?, hb3]
  have ft : ∀ i, w3.frozen? ⟨w.heap.size + 1 + 1, i, none⟩ = false := fun i => by simp [World.frozen?, hr3]
  simp only [List.getElem?_toArray, List.getElem?_cons_zero, List.getElem?_cons_succ] at s0 s1 s2 t0 t1 t2
  have hne2 : w.heap.size + 1 + 1 ≠ w2.heap.size := by have := HB2.out.size; omega
  have hne2' : w2.heap.size ≠ w.heap.size + 1 + 1 := fun h => hne2 h.symm
  have HOW := Lib.hid hown; have HOR := Lib.hid hoR3; have HBX := Lib.hid hb3; have HRX := Lib.hid hr3; have HBL := Lib.hid hbelow
  clear hown hgrow hbx hb2W hoS hoR hb3 hrW hr3 hoR3 hbW hbelow hW' HO2 hw1 k0 k1 k2 r0 r1 r2
  have hto : TownOwn (w3.setCell ⟨w2.heap.size, 1, none⟩ (.slice p3 (T.s.length + 1) c3)) (w1.heap.size + 2) (T.snd x) p3 q2 c3 d2 := by
    refine ⟨?_, own_set_ne HOR.out HBX.out (by decide)⟩
    have := own_set_ne (o := 1) (u := .slice p3 (T.s.length + 1) c3) HOW.out HBX.out (by decide)
    simpa [Town.snd, flatS_snoc] using this
  have HTO := Lib.hid ((((hto.set (b := w.heap.size + 1 + 1) (o := 0) (u := .int .i64 T.W) (by omega)).set (b := w.heap.size + 1 + 1) (o := 1) (u := .slice p3 (T.s.length + 1) c3) (by omega)).set (b := w.heap.size + 1 + 1) (o := 2) (u := .slice q2 T.r.length d2) (by omega)).mono (base' := w.heap.size) (by omega))
  have hl2 : w.heap.size ≤ w2.heap.size := by have := HB2.out.size; omega
  clear hto
  go_wp2
  exact bodyPost_ret (v := .agg #[.int .i64 T.W, .slice p3 (T.s.length + 1) c3, .slice q2 T.r.length d2]) (by simp [results, Try.results52, go_sem, t0, t1, t2, hne2, hne2']) rfl
    ⟨p3, c3, q2, d2, rfl, bS (bS (bS (bS HBL.out hl2 _) (by simp; omega) _) (by simp; omega) _) (by simp; omega) _, HTO.out⟩
end Go.Proofs.Ytmfbfcknnjbabaa
