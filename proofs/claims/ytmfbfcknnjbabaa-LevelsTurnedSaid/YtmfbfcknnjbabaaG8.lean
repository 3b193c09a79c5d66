/- What the examples of the chapter come to, by reckoning. works() of layer 1 returns true. -/
import Derived.Test.YtmfbfcknnjbabaaG6
import Derived.Test.YtmfbfcknnjbabaaG4
set_option linter.unusedSimpArgs false
set_option linter.unusedVariables false
namespace Go.Proofs.Ytmfbfcknnjbabaa
open Go.RowKit

theorem ok_sOk {T : Town} (h : T.ok = true) {y : Snd} (hy : y ∈ T.s) : 0 ≤ y.well ∧ y.well < T.W ∧ 0 ≤ y.low ∧ y.low ≤ y.high ∧ y.high ≤ 99 := by
  simp only [Town.ok, Bool.and_eq_true, List.all_eq_true] at h
  have := h.2.2.2.1 y hy
  simp only [sOk, within, Bool.and_eq_true, decide_eq_true_eq] at this
  omega
theorem ok_rOk {T : Town} (h : T.ok = true) {y : Slp} (hy : y ∈ T.r) : 0 ≤ y.a ∧ y.a < T.W ∧ 0 ≤ y.b ∧ y.b < T.W ∧ y.a ≠ y.b ∧ -99 ≤ y.low ∧ y.low ≤ y.high ∧ y.high ≤ 99 := by
  simp only [Town.ok, Bool.and_eq_true, List.all_eq_true] at h
  have := h.2.2.2.2 y hy
  simp only [rOk, within, Bool.and_eq_true, decide_eq_true_eq, Bool.not_eq_true', beq_eq_false_iff_ne] at this
  omega
theorem words_small {T : Town} (hok : T.ok = true) : ∀ y ∈ words T, Small y := by
  intro y hy
  have h1 := words_ok hok y hy
  simp only [words, List.mem_append, List.mem_map] at hy
  rcases hy with ⟨s, hs, rfl⟩ | ⟨s, hs, rfl⟩
  · have := ok_sOk hok hs
    refine ⟨h1.1, h1.2, ?_⟩; simp only [wS]; omega
  · have := ok_rOk hok hs
    refine ⟨h1.1, h1.2, ?_⟩; simp only [wR]; omega
theorem heard_kn {T : Town} (hok : T.ok = true) : Heard (kn T) (Sat (fun _ => true) (words T) (words T).length) := heard (words_small hok) _ (Nat.le_refl _)
theorem kn_clo {T : Town} {M : List Int} (hok : T.ok = true) (hk : kn T = some M) : Clo M := by
  have := heard_kn hok
  rw [hk] at this
  exact this.1
theorem dif_eq {M : List Int} (h : Clo M) {p q : Nat} (hp : p < 7) (hq : q < 7) : dif M p q = (-D M q p, D M p q) := by
  have a := h.ge hq hp
  have b := h.le q p hq hp
  unfold dif
  rw [IntWalk.wrap64_in _ (by simp only [D] at a b; omega)]
  rfl
theorem fine_of {M : List Int} (h : Clo M) {n : Nat} (hn : n ≤ 6) : Fine M n := fun q hq => by
  have a := h.ge (p := q + 1) (q := 0) (by omega) (by omega)
  have b := h.le (q + 1) 0 (by omega) (by omega)
  have c := h.ge (p := 0) (q := q + 1) (by omega) (by omega)
  have d := h.le 0 (q + 1) (by omega) (by omega)
  have e := h.tri 0 (q + 1) 0 (by omega) (by omega) (by omega)
  have f := h.diag 0 (by omega)
  rw [dif_eq h (by omega) (by omega)]
  simp only
  omega
def ME : List Int := (kn TE).getD []
theorem ok_TE : TE.ok = true := by decide +kernel
theorem ok_QE : QE.ok = true := by decide +kernel
theorem kn_TE : kn TE = some ME := by decide +kernel
theorem kn_QE : kn QE = none := by decide +kernel
theorem dif_E1 : dif ME 0 3 = (20, 25) := by decide +kernel
theorem dif_E2 : dif ME 1 3 = (8, 13) := by decide +kernel
theorem low_E : (lv ME 3).map (fun x => x.1) = [10, 13, 20] := by decide +kernel
theorem ask_E : wd ME 3 ≠ 0 ∧ (askSt ME 3 3).1 = 1 := by decide +kernel
theorem why_E : findTo (whyP TE 2 25) (whyL 3) 4 = some [0, 1, 2] := by decide +kernel
theorem clash_E : findTo (clashP (words QE)) (clashL 5) 6 = some [0, 2, 3] := by decide +kernel
end Go.Proofs.Ytmfbfcknnjbabaa

namespace Go.Proofs.Ytmfbfcknnjbabaa
open Go.RowKit

theorem ints_own {w : World} {base n c : Nat} {p : Option Addr} {l : List Int} (h : w.ownsRow base 3 1 (.slice p n c) n (l.map (Value.int .i64))) : Ints w p l := fun h0 => by
  have hn : l.length = n := by have := h.1; simpa using this
  obtain ⟨p', c', e, hc⟩ := own_form h
  simp only [Value.slice.injEq] at e
  obtain ⟨g, e2, _, hl, hcell⟩ := hc (by omega)
  refine ⟨g, 0, by rw [e.1, e2], hl, fun k hk => ?_⟩
  rw [Nat.zero_add, hcell k (by omega)]
  simp [hk]
theorem Ints.below {w w' : World} {p : Option Addr} {l : List Int} (h : Ints w p l) (hb : Below w.heap.size w w') : Ints w' p l := fun h0 =>
  let ⟨b, o, e, hi⟩ := h h0; ⟨b, o, e, (hi.below hb).mono hb.size⟩
theorem level_E (p q : Option Addr) (c d : Nat) (w : World) (ht : TownIn w w.heap.size TE p q) : Calls Try.prog 24 #[.agg #[.int .i64 3, .slice p 2 c, .slice q 2 d], .int .i64 2] w fun e w' => e = .returned (.tuple #[.agg #[.int .i64 20, .int .i64 25], .int .i64 0]) ∧ Below w.heap.size w w' := by
  have := level_ok TE ME 2 p q c d w ok_TE kn_TE (by decide) ht
  rw [dif_E1] at this
  exact this
theorem differ_E (p q : Option Addr) (c d : Nat) (w : World) (ht : TownIn w w.heap.size TE p q) : Calls Try.prog 33 #[.agg #[.int .i64 3, .slice p 2 c, .slice q 2 d], .int .i64 0, .int .i64 2] w fun e w' => e = .returned (.tuple #[.agg #[.int .i64 8, .int .i64 13], .int .i64 0]) ∧ Below w.heap.size w w' := by
  have := differ_ok TE ME 0 2 p q c d w ok_TE kn_TE (by decide) (by decide) ht
  rw [dif_E2] at this
  exact this
theorem lowest_E (p q : Option Addr) (c d : Nat) (w : World) (ht : TownIn w w.heap.size TE p q) : Calls Try.prog 26 #[.agg #[.int .i64 3, .slice p 2 c, .slice q 2 d]] w fun e w' => ∃ p' c', e = .returned (.tuple #[.slice p' 3 c', .int .i64 0]) ∧ Ints w' p' [10, 13, 20] ∧ Below w.heap.size w w' := by
  have := lowest_ok TE ME 3 p q c d w ok_TE kn_TE rfl ht
  refine this.mono ?_
  rintro e w' ⟨v, rfl, ho, hb⟩
  obtain ⟨p', c', rfl, _⟩ := own_form ho
  refine ⟨p', c', rfl, ints_own (n := 3) (c := c') (base := w.heap.size) ?_, hb⟩
  rw [← low_E, List.map_map]
  exact ho
theorem clash_E' (p q : Option Addr) (c d : Nat) (w : World) (ht : TownIn w w.heap.size QE p q) : Calls Try.prog 37 #[.agg #[.int .i64 3, .slice p 3 c, .slice q 2 d]] w fun e w' => ∃ p' c', e = .returned (.tuple #[.slice p' 3 c', .int .i64 0]) ∧ Ints w' p' [0, 2, 3] ∧ Below w.heap.size w w' := by
  have := callsIn_wide.1 (clash_no QE 3 5 p q c d w ok_QE kn_QE rfl rfl ht)
  rw [clash_E] at this
  refine this.mono ?_
  rintro e w' ⟨⟨p', c', rfl, ho⟩, hb⟩
  exact ⟨p', c', rfl, ints_own ho, hb⟩
theorem why_E' (p q : Option Addr) (c d : Nat) (w : World) (ht : TownIn w w.heap.size TE p q) : Calls Try.prog 43 #[.agg #[.int .i64 3, .slice p 2 c, .slice q 2 d], .int .i64 2] w fun e w' => ∃ p' c', e = .returned (.tuple #[.slice p' 3 c', .int .i64 0]) ∧ Ints w' p' [0, 1, 2] ∧ Below w.heap.size w w' := by
  have := callsIn_wide.1 (why_ok TE ME 3 2 p q c d w ok_TE kn_TE rfl (by decide) ht)
  rw [show (dif ME 0 (2 + 1)).2 = 25 by rw [dif_E1]] at this
  rw [show (3 : Nat) + 1 = 4 from rfl, show ((2 : Nat) : Int) = 2 from rfl, why_E] at this
  refine this.mono ?_
  rintro e w' ⟨⟨p', c', rfl, ho⟩, hb⟩
  exact ⟨p', c', rfl, ints_own ho, hb⟩
theorem ask_E' (p q : Option Addr) (c d : Nat) (w : World) (ht : TownIn w w.heap.size TE p q) : Calls Try.prog 41 #[.agg #[.int .i64 3, .slice p 2 c, .slice q 2 d]] w fun e w' => e = .returned (.tuple #[.int .i64 1, .int .i64 0]) ∧ Below w.heap.size w w' := by
  have := ask_ok TE ME 3 p q c d w ok_TE kn_TE rfl (fine_of (kn_clo ok_TE kn_TE) (by decide)) ht
  rw [if_neg ask_E.1, ask_E.2] at this
  exact this
theorem same3 (x y z : Int) (p q : Option Addr) (c d : Nat) (w : World) (h1 : Ints w p [x, y, z]) (h2 : Ints w q [x, y, z]) : Calls Try.prog 23 #[.slice p 3 c, .slice q 3 d] w fun e w' => e = .returned (.bool true) ∧ ∃ n, w' = w.drewN n := by
  have := sameInts_any [x, y, z] [x, y, z] p q c d w (by simp) (by simp) h1 h2
  simpa using this

theorem lit3 {X : World} {g : Nat} (x y z : Int) (hg : X.heap.size = g) : Ints (X.alloc (.cells #[.int .i64 x, .int .i64 y, .int .i64 z] 3)) (some ⟨g, 0, none⟩) [x, y, z] := fun _ => by
  subst hg
  refine ⟨_, _, rfl, by simp, fun k hk => ?_⟩
  have : k = 0 ∨ k = 1 ∨ k = 2 := by simp at hk; omega
  rcases this with rfl | rfl | rfl <;> go_simp
theorem ints_drewN {w : World} {p : Option Addr} {l : List Int} (n : Nat) (h : Ints w p l) : Ints (w.drewN n) p l := h.below (bD (Below.refl _ _) n)
theorem box_two (w : World) (p q p' q' : Option Addr) (c d c' d' : Nat) : ∃ w0, (w.alloc (Obj.cells #[.int .i64 3, .slice p 2 c, .slice q 2 d] 25)).alloc (Obj.cells #[.int .i64 3, .slice p' 3 c', .slice q' 2 d'] 25) = w0 ∧ Below w.heap.size w w0 ∧ w0.heap.size = w.heap.size + 1 + 1 ∧
    w0.cell? ⟨w.heap.size, 0, none⟩ = some (.int .i64 3) ∧ w0.cell? ⟨w.heap.size, 1, none⟩ = some (.slice p 2 c) ∧ w0.cell? ⟨w.heap.size, 2, none⟩ = some (.slice q 2 d) ∧
    w0.cell? ⟨w.heap.size + 1, 0, none⟩ = some (.int .i64 3) ∧ w0.cell? ⟨w.heap.size + 1, 1, none⟩ = some (.slice p' 3 c') ∧ w0.cell? ⟨w.heap.size + 1, 2, none⟩ = some (.slice q' 2 d') :=
  ⟨_, rfl, bA (bA (Below.refl _ _) _) _, by simp, by go_simp, by go_simp, by go_simp, by go_simp, by go_simp, by go_simp⟩
/-- the two towns of the examples lie in their variables -/
structure TwoT (b : Nat) (p q p' q' : Option Addr) (c d c' d' : Nat) (V : World) : Prop where
  t0 : V.cell? ⟨b, 0, none⟩ = some (.int .i64 3)
  t1 : V.cell? ⟨b, 1, none⟩ = some (.slice p 2 c)
  t2 : V.cell? ⟨b, 2, none⟩ = some (.slice q 2 d)
  q0 : V.cell? ⟨b + 1, 0, none⟩ = some (.int .i64 3)
  q1 : V.cell? ⟨b + 1, 1, none⟩ = some (.slice p' 3 c')
  q2 : V.cell? ⟨b + 1, 2, none⟩ = some (.slice q' 2 d')
  tt : TownIn V V.heap.size TE p q
  tq : TownIn V V.heap.size QE p' q'
  lt : b + 1 < V.heap.size
theorem TwoT.below {b : Nat} {p q p' q' : Option Addr} {c d c' d' : Nat} {V V' : World} (h : TwoT b p q p' q' c d c' d' V) (hb : Below V.heap.size V V') : TwoT b p q p' q' c d c' d' V' :=
  have l1 := h.lt
  ⟨(hb.cell (by simp only; omega)).trans h.t0, (hb.cell (by simp only; omega)).trans h.t1, (hb.cell (by simp only; omega)).trans h.t2, (hb.cell (by simp only; omega)).trans h.q0, (hb.cell (by simp only; omega)).trans h.q1, (hb.cell (by simp only; omega)).trans h.q2,
    (h.tt.below hb).mono hb.size, (h.tq.below hb).mono hb.size, Nat.lt_of_lt_of_le h.lt hb.size⟩

set_option maxRecDepth 100000 in
set_option maxHeartbeats 2000000 in
theorem works_ex (w : World) : Calls Try.prog 16 #[] w fun e w' => e = .returned (.bool true) ∧ Below w.heap.size w w' := by
  go_enter Try.func16, Try.ntmps16
  go_wp2_with (first
    | (go_at_call 55; refine (example_ex _).mono ?_; rintro e w1 ⟨p, c, q, d, p', c', q', d', rfl, hb1, ht, hq⟩; go_must (obtain ⟨w0, hw0, hb0, hz0, t0, t1, t2, q0, q1, q2⟩ := box_two w1 p q p' q' c d c' d'; have h2 : TwoT w1.heap.size p q p' q' c d c' d' w0 := ⟨t0, t1, t2, q0, q1, q2, (ht.below hb0).mono hb0.size, (hq.below hb0).mono hb0.size, by omega⟩; have hl0 : w1.heap.size + 1 < w0.heap.size := h2.lt; have HB0 := Lib.hid (bT hb1 hb0); have H0 := Lib.hid h2; clear hb1 hb0 hz0 ht hq h2))
    | (go_at_call 24; refine (level_E _ _ _ _ _ H0.out.tt).mono ?_; rintro e w2 ⟨rfl, hb2⟩; go_must (have HB2 := Lib.hid (bT HB0.out hb2); have h2 := H0.out.below hb2; have hl2 := h2.lt; have hk2 : w1.heap.size < w2.heap.size := (by omega); clear t0 t1 t2 q0 q1 q2; have t0 := h2.t0; have t1 := h2.t1; have t2 := h2.t2; have H2 := Lib.hid h2; clear hb2 h2))
    | (go_at_call 33; refine (differ_E _ _ _ _ _ (H2.out.below (bA (Below.refl _ _) _)).tt).mono ?_; rintro e w3 ⟨rfl, hb3⟩; go_must (have HB3 := Lib.hid (bT (bA HB2.out _) hb3); have S3 := Lib.hid ((hb3.block w2.heap.size (by simp)).trans (heap_alloc_new _ _)); have h3 := (H2.out.below (bA (Below.refl _ _) _)).below hb3; have hl3 := h3.lt; have hk3 : w1.heap.size < w3.heap.size := (by omega); clear t0 t1 t2; have t0 := h3.t0; have t1 := h3.t1; have t2 := h3.t2; have H3 := Lib.hid h3; clear hb3 h3))
    | (go_at_call 26; refine (lowest_E _ _ _ _ _ (H3.out.below (bA (Below.refl _ _) _)).tt).mono ?_; rintro e w4 ⟨p4, c4, rfl, hi4, hb4⟩; go_must (have HB4 := Lib.hid (bT (bA HB3.out _) hb4); have D4 := Lib.hid ((hb4.block w3.heap.size (by simp)).trans (heap_alloc_new _ _)); have S4 := Lib.hid ((bT (bA (Below.refl _ _) _ : Below w3.heap.size w3 _) hb4).block w2.heap.size (Array.getElem?_eq_some_iff.1 S3.out).1 |>.trans S3.out); have h4 := (H3.out.below (bA (Below.refl _ _) _)).below hb4; have hl4 := h4.lt; have hk4 : w1.heap.size < w4.heap.size := (by omega); clear t0 t1 t2; have q0 := h4.q0; have q1 := h4.q1; have q2 := h4.q2; have H4 := Lib.hid h4; have I4 := Lib.hid hi4; clear hb4 h4 hi4))
    | (go_at_call 37; refine (clash_E' _ _ _ _ _ H4.out.tq).mono ?_; rintro e w5 ⟨p5, c5, rfl, hi5, hb5⟩; go_must (have HB5 := Lib.hid (bT HB4.out hb5); have D5 := Lib.hid ((hb5.block w3.heap.size (Array.getElem?_eq_some_iff.1 D4.out).1).trans D4.out); have S5 := Lib.hid ((hb5.block w2.heap.size (Array.getElem?_eq_some_iff.1 S4.out).1).trans S4.out); have h5 := H4.out.below hb5; have hl5 := h5.lt; have hk5 : w1.heap.size < w5.heap.size := (by omega); clear q0 q1 q2; have t0 := h5.t0; have t1 := h5.t1; have t2 := h5.t2; have H5 := Lib.hid h5; have I5 := Lib.hid (I4.out.below hb5); have J5 := Lib.hid hi5; clear hb5 h5 hi5))
    | (go_at_call 41; refine (ask_E' _ _ _ _ _ H5.out.tt).mono ?_; rintro e w6 ⟨rfl, hb6⟩; go_must (have HB6 := Lib.hid (bT HB5.out hb6); have D6 := Lib.hid ((hb6.block w3.heap.size (Array.getElem?_eq_some_iff.1 D5.out).1).trans D5.out); have S6 := Lib.hid ((hb6.block w2.heap.size (Array.getElem?_eq_some_iff.1 S5.out).1).trans S5.out); have h6 := H5.out.below hb6; have hl6 := h6.lt; have hk6 : w1.heap.size < w6.heap.size := (by omega); clear t0 t1 t2; have t0 := h6.t0; have t1 := h6.t1; have t2 := h6.t2; have H6 := Lib.hid h6; have I6 := Lib.hid (I5.out.below hb6); have J6 := Lib.hid (J5.out.below hb6); clear hb6 h6))
    | (go_at_call 43; refine (why_E' _ _ _ _ _ H6.out.tt).mono ?_; rintro e w7 ⟨p7, c7, rfl, hi7, hb7⟩; go_must (have HB7 := Lib.hid (bT HB6.out hb7); have d7 := (hb7.block w3.heap.size (Array.getElem?_eq_some_iff.1 D6.out).1).trans D6.out; have s7 := (hb7.block w2.heap.size (Array.getElem?_eq_some_iff.1 S6.out).1).trans S6.out; clear t0 t1 t2; have s0 := cell_of_row w7 w2.heap.size 0 _ _ _ s7; have s1 := cell_of_row w7 w2.heap.size 1 _ _ _ s7; have d0 := cell_of_row w7 w3.heap.size 0 _ _ _ d7; have d1 := cell_of_row w7 w3.heap.size 1 _ _ _ d7; simp only [List.getElem?_toArray, List.getElem?_cons_zero, List.getElem?_cons_succ] at s0 s1 d0 d1; have I7 := Lib.hid (I6.out.below hb7); have J7 := Lib.hid (J6.out.below hb7); have K7 := Lib.hid hi7; clear hb7 d7 s7 hi7)))
  refine (same3 10 13 20 _ _ _ _ _ (by repeat (first | exact I7.out.below (by repeat (first | exact Below.refl _ _ | refine bA ?_ _ | refine bD ?_ _)))) (by first | exact lit3 _ _ _ (by simp) | exact ints_drewN _ (lit3 _ _ _ (by simp)))).mono ?_
  rintro e w8 ⟨rfl, n8, rfl⟩
  go_wp2_with fail
  refine (same3 0 2 3 _ _ _ _ _ (by repeat (first | exact J7.out.below (by repeat (first | exact Below.refl _ _ | refine bA ?_ _ | refine bD ?_ _)))) (by first | exact lit3 _ _ _ (by simp) | exact ints_drewN _ (lit3 _ _ _ (by simp)))).mono ?_
  rintro e w9 ⟨rfl, n9, rfl⟩
  go_wp2_with fail
  refine (same3 0 1 2 _ _ _ _ _ (by repeat (first | exact K7.out.below (by repeat (first | exact Below.refl _ _ | refine bA ?_ _ | refine bD ?_ _)))) (by first | exact lit3 _ _ _ (by simp) | exact ints_drewN _ (lit3 _ _ _ (by simp)))).mono ?_
  rintro e w10 ⟨rfl, n10, rfl⟩
  go_wp2_with fail
  go_ret
  exact ⟨rfl, by repeat (first | exact HB7.out | refine bA ?_ _ | refine bD ?_ _)⟩
end Go.Proofs.Ytmfbfcknnjbabaa
