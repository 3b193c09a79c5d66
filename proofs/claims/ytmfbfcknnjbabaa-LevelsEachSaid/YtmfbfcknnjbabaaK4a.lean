/- LevelsEach, where nothing is asked. -/
import Derived.Test.YtmfbfcknnjbabaaK3
import Derived.Test.YtmfbfcknnjbabaaJ3
import Derived.BigQuiet
set_option linter.unusedSimpArgs false
set_option linter.unusedVariables false
namespace Go.Proofs.Ytmfbfcknnjbabaa
open Go.RowKit

theorem src_ints {w : World} {x : Option Addr} {xs : List Int} (h : Ints w x xs) : 0 < xs.length → ∃ b o, x = some ⟨b, o, none⟩ ∧ b < w.heap.size ∧ ∀ j u, (xs.map (Value.int .i64))[j]? = some u → w.cell? ⟨b, o + j, none⟩ = some u := fun h0 => by
  obtain ⟨b, o, e, hi⟩ := h h0
  refine ⟨b, o, e, hi.lt, fun j u hu => ?_⟩
  have hj : j < xs.length := by have := (List.getElem?_eq_some_iff.1 hu).1; simpa using this
  rw [hi.cell j hj]
  rw [List.getElem?_map, List.getElem?_eq_getElem hj] at hu
  obtain rfl : Value.int .i64 xs[j] = u := Option.some.inj hu
  simp [hj]
theorem ints_one (xs : List Int) : ∀ u ∈ xs.map (Value.int .i64), u.oneCell' = true := by
  intro u hu; obtain ⟨y, _, rfl⟩ := List.mem_map.1 hu; rfl
theorem holds_t (T : Town) (p q : Option Addr) (c d : Nat) (xs : List Int) (v : Option Addr) (cv : Nat) (w : World) (hx : xs.length ≤ 1000000) (hok : T.ok = true) (hT : truth T xs = true) (ht : TownIn w w.heap.size T p q) (hi : Ints w v xs) :
    Calls Try.prog 18 #[.agg #[.int .i64 T.W, .slice p T.s.length c, .slice q T.r.length d], .slice v xs.length cv] w fun e w' => e = .returned (.tuple #[.bool true, .int .i64 0]) ∧ Below w.heap.size w w' := by
  have hl := ok_len hok
  have := holdsP_any T p q c d xs v cv w (by omega) (by omega) hx ht hi
  rw [hok, hT] at this
  exact this

set_option maxRecDepth 100000 in
set_option maxHeartbeats 4000000 in
theorem each_skip (T : Town) (p q : Option Addr) (c d : Nat) (xs : List Int) (x : Option Addr) (cx : Nat) (a b t y : Int) (w : World) (hx : xs.length ≤ 9223372036854775807) (ht : TownIn w w.heap.size T p q) (hi : Ints w x xs)
    (hs : (rdy T && (decide (xs.length ≤ 40) && truth T xs)) = false) :
    Calls Try.prog 9 #[.agg #[.int .i64 T.W, .slice p T.s.length c, .slice q T.r.length d], .slice x xs.length cx, .agg #[.int .i64 a, .int .i64 b, .int .i64 t, .int .i64 y]] w fun e w' => e = .returned (.bool true) ∧ Below w.heap.size w w' := by
  obtain ⟨w1, hw1, hb1, hz1, k0, k1, k2, k3, k4, k5, k6⟩ := box_ask w T.W p q T.s.length T.r.length c d a b t y
  have l0 : w.heap.size < w1.heap.size := by omega
  have hrdy := ready_any T p q c d w1 (ht.bel hb1)
  have HB1 := Lib.hid hb1
  cases hr : rdy T with
  | false =>
    rw [hr] at hrdy
    have HR := Lib.hid hrdy
    clear hrdy hr hs ht hb1 hi
    go_enter Try.func9, Try.ntmps9
    go_wp2_with (first
      | (go_at_call 45; refine HR.out.mono ?_; rintro e w2 ⟨rfl, hb2⟩; go_must (have HB2 := Lib.hid (bT HB1.out hb2); clear hb2))
      | (go_at_call 16; refine (works_ex _).mono ?_; rintro e w3 ⟨rfl, hb3⟩; go_must (have HB3 := Lib.hid (bT HB2.out hb3); clear hb3)))
    go_ret
    exact ⟨rfl, HB3.out⟩
  | true =>
    obtain ⟨hok, hW5, _⟩ := rdy_ok hr
    rw [hr] at hrdy
    rw [hr, Bool.true_and] at hs
    have HR := Lib.hid hrdy
    by_cases hl : xs.length ≤ 40
    · have d1 : decide ((40 : Int) < (xs.length : Int)) = false := decide_eq_false (by omega)
      rw [decide_eq_true hl, Bool.true_and] at hs
      have htr : ∀ V, Below w.heap.size w V → Calls Try.prog 46 #[.agg #[.int .i64 T.W, .slice p T.s.length c, .slice q T.r.length d], .slice x xs.length cx] V fun e w' => e = .returned (.bool false) ∧ Below V.heap.size V w' := fun V hV => by
        have := isTruthR_any T p q c d xs x cx V (by omega) hok (ht.bel hV) (hi.below hV)
        rw [hs] at this
        exact this
      have HT := Lib.hid htr
      clear hrdy hr hs ht hb1 hi htr hl hok
      go_enter Try.func9, Try.ntmps9
      go_wp2_with (first
        | (go_at_call 45; refine HR.out.mono ?_; rintro e w2 ⟨rfl, hb2⟩; go_must (have HB2 := Lib.hid (bT HB1.out hb2); have j0 := (hb2.cell (p := ⟨w.heap.size, 0, none⟩) l0).trans k0; have j1 := (hb2.cell (p := ⟨w.heap.size, 1, none⟩) l0).trans k1; have j2 := (hb2.cell (p := ⟨w.heap.size, 2, none⟩) l0).trans k2; clear hb2))
        | (go_at_call 46; refine (HT.out _ HB2.out).mono ?_; rintro e w4 ⟨rfl, hb4⟩; go_must (have HB4 := Lib.hid (bT HB2.out hb4); clear hb4))
        | (go_at_call 16; refine (works_ex _).mono ?_; rintro e w3 ⟨rfl, hb3⟩; go_must (have HB3 := Lib.hid (bT HB4.out hb3); clear hb3)))
      go_ret
      exact ⟨rfl, HB3.out⟩
    · have d1 : decide ((40 : Int) < (xs.length : Int)) = true := decide_eq_true (by omega)
      clear hrdy hr hs ht hb1 hi hl hok
      go_enter Try.func9, Try.ntmps9
      go_wp2_with (first
        | (go_at_call 45; refine HR.out.mono ?_; rintro e w2 ⟨rfl, hb2⟩; go_must (have HB2 := Lib.hid (bT HB1.out hb2); clear hb2))
        | (go_at_call 16; refine (works_ex _).mono ?_; rintro e w3 ⟨rfl, hb3⟩; go_must (have HB3 := Lib.hid (bT HB2.out hb3); clear hb3)))
      go_ret
      exact ⟨rfl, HB3.out⟩

end Go.Proofs.Ytmfbfcknnjbabaa
