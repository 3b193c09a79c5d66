/- Shafts: areStops, stands, falls, bottom, ring of the program. -/
import Derived.Test.YtaaocomgmacjnabDoorC1

set_option linter.unusedSimpArgs false

set_option linter.unusedVariables false

namespace Go.Proofs.YtaaocomgmacjnabDoor

open Go.RowKit

theorem ret_ib {a c : Int} {b d : Bool} (h : a = c) (k : b = d) : Ending.returned (.tuple #[.int .i64 a, .bool b]) = .returned (.tuple #[.int .i64 c, .bool d]) := by rw [h, k]
set_option maxRecDepth 100000 in
set_option maxHeartbeats 2000000 in
theorem areStops_any (S : Shaft) (p q : Option Addr) (c d bx : Nat) (l : List Int) (pl : Option Addr) (cl : Nat) (w : World) (hF : S.F.length ≤ 1000000) (hl : l.length ≤ 1000000) (hx : BoxS w bx S p q c d) (hi : ListIn w w.heap.size l pl) :
    Calls Tryd.prog 42 #[.pointer (some ⟨bx, 0, none⟩), .slice pl l.length cl] w fun e w' => e = .returned (.bool (S.stops l)) ∧ Below w.heap.size w w' := by
  have HX := Lib.hid hx; have HI := Lib.hid hi; clear hx hi
  go_enter Tryd.func42, Tryd.ntmps42
  go_wp2
  go_loopw [5, 10] (fun a i wr => ∃ (k : Nat) (v : Int), i = .int .i64 k ∧ k ≤ l.length ∧ a = .int .i64 v ∧ S.stops l = asc v (S.F.length : Int) (l.drop k) ∧ Below w.heap.size w wr) (fun _ i _ => l.length - (intOf i).toNat)
  case atStart => exact ⟨0, 0, rfl, Nat.zero_le _, rfl, rfl, Below.refl _ _⟩
  case round =>
    obtain ⟨k, v, rfl, hk, rfl, hp, hbb⟩ := hrel
    have HP := Lib.hid hp; have HBB := Lib.hid hbb; clear hp hbb
    obtain ⟨g0, g1, g2, g3, g4, g5⟩ := HX.out.below HBB.out
    by_cases hlt : k < l.length
    · obtain ⟨b, o, rfl, hc⟩ := (HI.out.below HBB.out) (by omega)
      have e0 := hc.cell k hlt
      have j1 : decide ((k : Int) < (l.length : Int)) = true := by simp; omega
      clear hc
      by_cases h1 : l[k] ≤ v
      · have d1 : decide (l[k] ≤ v) = true := by simpa using h1
        have HR := Lib.hid (asc_lo HP.out hlt h1)
        clear h1
        go_wp2
        go_ret
        exact ⟨ret_b HR.out.symm, HBB.out⟩
      · have d1 : decide (l[k] ≤ v) = false := by simpa using h1
        by_cases h2 : (S.F.length : Int) < l[k]
        · have d2 : decide ((S.F.length : Int) < l[k]) = true := by simpa using h2
          have HR := Lib.hid (asc_hi HP.out hlt h2)
          clear h1 h2
          go_wp2
          go_ret
          exact ⟨ret_b HR.out.symm, HBB.out⟩
        · have d2 : decide ((S.F.length : Int) < l[k]) = false := by simpa using h2
          have HN := Lib.hid (asc_step HP.out hlt (by omega) (by omega))
          clear h1 h2
          go_wp2
          go_roundw
          case rel => exact ⟨k + 1, _, by go_num, hlt, rfl, HN.out, HBB.out⟩
          case measure => simp [intOf]; omega
    · have j1 : decide ((k : Int) < (l.length : Int)) = false := by simp; omega
      have HR := Lib.hid (show true = S.stops l from by rw [HP.out, asc_done (by omega)])
      go_wp2
      go_ret
      exact ⟨ret_b HR.out, HBB.out⟩

set_option maxRecDepth 100000 in
set_option maxHeartbeats 2000000 in
theorem stands_any (S : Shaft) (p q : Option Addr) (c d bx a b : Nat) (w : World) (hok : S.ok = true) (hab : a ≤ b) (hb' : b ≤ S.F.length) (hx : BoxS w bx S p q c d) (hi : ShaftIn w w.heap.size S p q) :
    Calls Tryd.prog 61 #[.pointer (some ⟨bx, 0, none⟩), .int .i64 (a : Int), .int .i64 (b : Int)] w fun e w' => e = .returned (.bool (S.stands a b)) ∧ Below w.heap.size w w' := by
  obtain ⟨_, h12, _⟩ := S.ok_parts hok
  have HX := Lib.hid hx; have HI := Lib.hid hi; have HOK := Lib.hid hok; clear hx hi hok
  go_enter Tryd.func61, Tryd.ntmps61
  go_wp2
  go_loopw [7] (fun i wr => ∃ k : Nat, i = .int .i64 ((a + k : Nat) : Int) ∧ a + k ≤ b ∧ AllTo (S.standsAt a b) (List.range (b - a)) k ∧ Below w.heap.size w wr) (fun i _ => b - (intOf i).toNat)
  case atStart => exact ⟨0, rfl, by omega, rfl, Below.refl _ _⟩
  case round =>
    obtain ⟨k, rfl, hk, hp, hbb⟩ := hrel
    have HP := Lib.hid hp; have HBB := Lib.hid hbb; clear hp hbb
    by_cases hlt : a + k < b
    · have HRK := Lib.hid (rockP_any S p q c d (a + k) bx wr HOK.out (by omega) (HX.out.below HBB.out) (HI.out.bel HBB.out))
      have j1 : decide (((a + k : Nat) : Int) < (b : Int)) = true := by simp; omega
      cases hs : S.standsAt a b k with
      | false =>
        have HR := Lib.hid (show false = S.stands a b from (range_bad (k := k) (by omega) hs).symm)
        have d1 : decide ((S.rock ((a + k : Nat) : Int)).s < (b : Int) - (a : Int)) = true := by simp only [Shaft.standsAt, decide_eq_false_iff_not] at hs; simp only [decide_eq_true_eq]; omega
        obtain ⟨x, hx'⟩ : ∃ x, S.rock ((a + k : Nat) : Int) = x := ⟨_, rfl⟩
        rw [hx'] at HRK d1
        clear hs hx'
        have fx : ∀ W, (Instr.field 55 (.agg #[.int .i64 x.h, .int .i64 x.p, .int .i64 x.s, .int .i64 x.e]) 2).run Tryd.prog W = .ok (.int .i64 x.s) W := fun _ => by kernel_rfl
        go_wp2_with (go_at_call 60; refine HRK.out.mono ?_; rintro e w2 ⟨rfl, hb2⟩; go_must (have HB2 := Lib.hid hb2; clear hb2))
        go_ret
        exact ⟨ret_b HR.out, bT HBB.out HB2.out⟩
      | true =>
        have HN := Lib.hid (allTo_range HP.out (by omega) hs)
        have d1 : decide ((S.rock ((a + k : Nat) : Int)).s < (b : Int) - (a : Int)) = false := by simp only [Shaft.standsAt, decide_eq_true_eq] at hs; simp only [decide_eq_false_iff_not]; omega
        obtain ⟨x, hx'⟩ : ∃ x, S.rock ((a + k : Nat) : Int) = x := ⟨_, rfl⟩
        rw [hx'] at HRK d1
        clear hs hx'
        have fx : ∀ W, (Instr.field 55 (.agg #[.int .i64 x.h, .int .i64 x.p, .int .i64 x.s, .int .i64 x.e]) 2).run Tryd.prog W = .ok (.int .i64 x.s) W := fun _ => by kernel_rfl
        go_wp2_with (go_at_call 60; refine HRK.out.mono ?_; rintro e w2 ⟨rfl, hb2⟩; go_must (have HB2 := Lib.hid hb2; clear hb2))
        go_roundw
        case rel => exact ⟨k + 1, by go_num, by omega, HN.out, bT HBB.out HB2.out⟩
        case measure => simp [intOf]; omega
    · have j1 : decide (((a + k : Nat) : Int) < (b : Int)) = false := by simp; omega
      have HR := Lib.hid (show true = S.stands a b from (range_all HP.out (by omega)).symm)
      go_wp2
      go_ret
      exact ⟨ret_b HR.out, HBB.out⟩

theorem bottom_any (l : List Int) (pl : Option Addr) (cl : Nat) (w : World) (hl : l.length ≤ 1000000) (hi : ListIn w w.heap.size l pl) :
    Calls Tryd.prog 62 #[.slice pl l.length cl] w fun e w' => e = .returned (.int .i64 (bottomV l)) ∧ Below w.heap.size w w' := by
  by_cases h0 : l.length = 0
  · have j1 : ((l.length : Int) == 0) = true := by simp [h0]
    have HR := Lib.hid (bottom_nil h0)
    clear h0 hi
    go_enter Tryd.func62, Tryd.ntmps62
    go_wp2
    go_ret
    exact ⟨ret_i HR.out, Below.refl _ _⟩
  · have j1 : ((l.length : Int) == 0) = false := by simpa using h0
    obtain ⟨b, o, rfl, hc⟩ := hi (by omega)
    have e0 := hc.cell (l.length - 1) (by omega)
    have HR := Lib.hid (bottom_at (l := l) (by omega))
    obtain ⟨k, hk⟩ : ∃ k, l.length - 1 = k := ⟨_, rfl⟩
    have z1 : IntKind.i64.wrap ((l.length : Int) - 1) = (k : Int) := by rw [show (l.length : Int) - 1 = (k : Int) by omega]; exact IntWalk.i64_in _ (by omega)
    have hk2 : k < l.length := by omega
    simp only [hk] at e0 HR
    clear hc
    go_enter Tryd.func62, Tryd.ntmps62
    go_wp2
    go_ret
    exact ⟨ret_i HR.out, Below.refl _ _⟩

set_option maxRecDepth 100000 in
set_option maxHeartbeats 2000000 in
theorem ringP_any (S : Shaft) (p q : Option Addr) (c d bx : Nat) (n : Int) (w : World) (hok : S.ok = true) (h0 : 0 < n) (h1 : n ≤ (S.F.length : Int)) (hx : BoxS w bx S p q c d) (hi : ShaftIn w w.heap.size S p q) :
    Calls Tryd.prog 63 #[.pointer (some ⟨bx, 0, none⟩), .int .i64 n] w fun e w' => e = .returned (.tuple #[.int .i64 (ringP S n), .bool (S.rests n)]) ∧ Below w.heap.size w w' := by
  obtain ⟨⟨k, rfl, ek, hk⟩, r0, r1, m0, m1⟩ := ring_bd hok h0 h1
  obtain ⟨_, h12, _⟩ := S.ok_parts hok
  have HX := Lib.hid hx
  have HRK := Lib.hid (rockP_any S p q c d k bx w hok hk hx hi)
  obtain ⟨x, hx'⟩ : ∃ x, S.rock (k : Int) = x := ⟨_, rfl⟩
  have HV : S.ringV ((k + 1 : Nat) : Int) = x.e + ((k + 1 : Nat) : Int) * S.H := by unfold Shaft.ringV; rw [ek, hx']
  have HS : S.rests ((k + 1 : Nat) : Int) = (x.e != -1) := by unfold Shaft.rests; rw [ek, hx']
  have HP : ringP S ((k + 1 : Nat) : Int) = if (x.e != -1) then x.e + ((k + 1 : Nat) : Int) * S.H else 0 := by unfold ringP; rw [HS, HV]
  rw [HV] at r0 r1
  rw [hx'] at HRK
  obtain ⟨m, hm⟩ : ∃ m, ((k + 1 : Nat) : Int) * S.H = m := ⟨_, rfl⟩
  rw [hm] at m0 m1 r0 r1 HP
  have W0 : IntKind.i64.wrap (((k + 1 : Nat) : Int) - 1) = (k : Int) := by rw [ek]; exact IntWalk.i64_in _ (by omega)
  have W1 : IntKind.i64.wrap (((k + 1 : Nat) : Int) * S.H) = m := by rw [hm]; exact IntWalk.i64_in _ (by omega)
  have W2 : IntKind.i64.wrap (x.e + m) = x.e + m := IntWalk.i64_in _ (by omega)
  have fx : ∀ W, (Instr.field 55 (.agg #[.int .i64 x.h, .int .i64 x.p, .int .i64 x.s, .int .i64 x.e]) 3).run Tryd.prog W = .ok (.int .i64 x.e) W := fun _ => by kernel_rfl
  generalize ((k + 1 : Nat) : Int) = n at *
  by_cases he : x.e = -1
  · have d1 : (x.e == -1) = true := by simp [he]
    have HR := Lib.hid (show (0 : Int) = ringP S n from by rw [HP]; simp [he])
    have HR2 := Lib.hid (show false = S.rests n from by rw [HS]; simp [he])
    clear hx hi hok HP hm hx' HV HS he
    go_enter Tryd.func63, Tryd.ntmps63
    go_wp2_with (go_at_call 60; refine HRK.out.mono ?_; rintro e w2 ⟨rfl, hb2⟩; go_must (have HB2 := Lib.hid hb2; clear hb2))
    go_ret2
    exact ⟨ret_ib HR.out HR2.out, HB2.out⟩
  · have d1 : (x.e == -1) = false := by simp [he]
    have HR := Lib.hid (show x.e + m = ringP S n from by rw [HP]; simp [he])
    have HR2 := Lib.hid (show true = S.rests n from by rw [HS]; simp [he])
    clear hx hi hok HP hm hx' HV HS he
    go_enter Tryd.func63, Tryd.ntmps63
    go_wp2_with (go_at_call 60; refine HRK.out.mono ?_; rintro e w2 ⟨rfl, hb2⟩; go_must (have h2 := HX.out.below hb2; have j0 := h2.c0; have j1 := h2.c1; have j2 := h2.c2; have j3 := h2.c3; have j4 := h2.c4; have j5 := h2.lt; have HB2 := Lib.hid hb2; clear hb2 h2))
    try go_quiet (fail)
    try go_wp2
    go_ret2
    exact ⟨ret_ib HR.out HR2.out, by first | exact HB2.out | exact bD HB2.out _⟩
end Go.Proofs.YtaaocomgmacjnabDoor
