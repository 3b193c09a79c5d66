/- Shafts: the price of a foot: foot and Price of the program. -/
import Derived.Test.YtaaocomgmacjnabDoorA5

set_option linter.unusedSimpArgs false

set_option linter.unusedVariables false

namespace Go.Proofs.YtaaocomgmacjnabDoor

open Go.RowKit

def Shaft.price (S : Shaft) (n : Int) : Int := (S.rock n).p + n * S.D
def Shaft.isFoot (S : Shaft) (n : Int) : Bool := within n 0 ((S.F.length : Int) - 1)
def prV (S : Shaft) (n : Int) : Int := if S.ok && S.isFoot n then S.price n else 0
def hrV (S : Shaft) (n : Int) : Int := if S.ok && S.isFoot n then (S.rock n).h else 0
theorem ret_2 {a b c d : Int} (h : a = c) (k : b = d) : Ending.returned (.tuple #[.int .i64 a, .int .i64 b]) = .returned (.tuple #[.int .i64 c, .int .i64 d]) := by rw [h, k]
theorem ret_3 {a b c d e f : Int} (h : a = d) (k : b = e) (l : c = f) : Ending.returned (.tuple #[.int .i64 a, .int .i64 b, .int .i64 c]) = .returned (.tuple #[.int .i64 d, .int .i64 e, .int .i64 f]) := by rw [h, k, l]
theorem results_tmp3 {f : Func} {a b c : Nat} (h : f.results = #[.tmp a, .tmp b, .tmp c]) (tmps : Array Value) (P : Program) (w : World) : (results f tmps).run P w = .ok (.tuple #[tmps.getD a undef, tmps.getD b undef, tmps.getD c undef]) w := by
  simp [results, h]
theorem mul_bd {k n : Nat} {D : Int} (h : k ≤ n) (h0 : 0 ≤ D) (h1 : D ≤ 9) : 0 ≤ (k : Int) * D ∧ (k : Int) * D ≤ 9 * n := by
  have a : 0 ≤ (k : Int) * D := Int.mul_nonneg (by omega) h0
  have b : (k : Int) * D ≤ (n : Int) * 9 := Int.mul_le_mul (by omega) h1 h0 (by omega)
  exact ⟨a, by omega⟩
theorem Shaft.rock_bd {S : Shaft} (hok : S.ok = true) {k : Nat} (hk : k < S.F.length) : (0 ≤ (S.rock k).h ∧ (S.rock k).h ≤ 9) ∧ (0 ≤ (S.rock k).p ∧ (S.rock k).p ≤ 99) ∧ (0 ≤ (S.rock k).s ∧ (S.rock k).s ≤ 12) ∧ (-1 ≤ (S.rock k).e ∧ (S.rock k).e ≤ 99) := by
  obtain ⟨j, hj, hfj, hrk, a, b, c, d⟩ := S.look hok hk
  rw [hrk]; exact ⟨b, c, d, a⟩
theorem box_dig (w : World) (S : Shaft) (p q : Option Addr) (c d : Nat) :
    ∃ w1, w.alloc (Obj.cells #[Value.slice q S.R.length d, Value.slice p S.F.length c, Value.int IntKind.i64 S.D, Value.int IntKind.i64 S.H, Value.int IntKind.i64 S.T] 57) = w1 ∧ Below w.heap.size w w1 ∧ w1.heap.size = w.heap.size + 1 ∧ BoxS w1 w.heap.size S p q c d :=
  ⟨_, rfl, bA (Below.refl _ _) _, by simp, by go_simp, by go_simp, by go_simp, by go_simp, by go_simp, by simp⟩

set_option maxRecDepth 100000 in
set_option maxHeartbeats 2000000 in
theorem footP_any (S : Shaft) (p q : Option Addr) (c d k bx : Nat) (w : World) (hok : S.ok = true) (hk : k < S.F.length) (hx : BoxS w bx S p q c d) (hb : ShaftIn w w.heap.size S p q) :
    Calls Tryd.prog 37 #[.pointer (some ⟨bx, 0, none⟩), .int .i64 (k : Int)] w fun e w' => e = .returned (.tuple #[.int .i64 (S.price k), .int .i64 (S.rock k).h]) ∧ Below w.heap.size w w' := by
  obtain ⟨⟨r0, r1⟩, ⟨r2, r3⟩, _⟩ := S.rock_bd hok hk
  obtain ⟨_, h12, _, _, ⟨d0, d1⟩, _⟩ := S.ok_parts hok
  obtain ⟨m0, m1⟩ := mul_bd (k := k) (n := 12) (by omega) d0 d1
  have HRK := Lib.hid (rockP_any S p q c d k bx w hok hk hx hb)
  obtain ⟨x, hx'⟩ : ∃ x, S.rock (k : Int) = x := ⟨_, rfl⟩
  have HP : x.p + (k : Int) * S.D = S.price k := by unfold Shaft.price; rw [hx']
  rw [hx'] at HRK r0 r1 r2 r3 ⊢
  rw [← HP]
  obtain ⟨m, hm⟩ : ∃ m, (k : Int) * S.D = m := ⟨_, rfl⟩
  rw [hm] at m0 m1 ⊢
  have W1 : IntKind.i64.wrap ((k : Int) * S.D) = m := by rw [hm]; exact IntWalk.i64_in _ (by omega)
  have W2 : IntKind.i64.wrap (x.p + m) = x.p + m := IntWalk.i64_in _ (by omega)
  have k2 := hx.c2; have k5 := hx.lt
  clear hx hb hok HP hm hx'
  go_enter Tryd.func37, Tryd.ntmps37
  go_wp2_with (go_at_call 60; refine HRK.out.mono ?_; rintro e w2 ⟨rfl, hb2⟩; go_must (have j2 := (hb2.cell (p := ⟨bx, 2, none⟩) k5).trans k2; have j5 := Nat.lt_of_lt_of_le k5 hb2.size; have HB2 := Lib.hid hb2; clear hb2))
  obtain ⟨w3, hw3, hb3, hz3, q0, q1, q2, q3⟩ := box_rock w2 x.h x.p x.s x.e
  try rw [hw3]
  have l2 := (hb3.cell (p := ⟨bx, 2, none⟩) j5).trans j2
  have HB3 := Lib.hid (bT HB2.out hb3)
  have z3 : w2.heap.size < w3.heap.size := by omega
  clear hb3 j2 k2
  go_quiet (fail)
  go_wp2
  go_ret2
  exact ⟨rfl, bD HB3.out _⟩

set_option maxRecDepth 100000 in
set_option maxHeartbeats 2000000 in
theorem priceP_any (S : Shaft) (p q : Option Addr) (c d : Nat) (n : Int) (w : World) (hF : S.F.length ≤ 1000000) (hR : S.R.length ≤ 1000000) (hb : ShaftIn w w.heap.size S p q) :
    Calls Tryd.prog 11 #[.agg #[.slice q S.R.length d, .slice p S.F.length c, .int .i64 S.D, .int .i64 S.H, .int .i64 S.T], .int .i64 n] w fun e w' => e = .returned (.tuple #[.int .i64 (prV S n), .int .i64 (hrV S n), .int .i64 (askErr S.ok (S.isFoot n))]) ∧ Below w.heap.size w w' := by
  obtain ⟨w1, hw1, hb1, hz1, x1⟩ := box_shaft w S p q c d
  have hbk := hb.bel hb1
  have hv := valid_any S p q c d w1 hF hR hbk
  have HX := Lib.hid x1
  obtain ⟨k0, k1, k2, k3, k4, k5⟩ := x1
  have HB := Lib.hid hb1
  have HT := Lib.hid hbk
  clear hb hb1 hz1 hbk
  rcases Bool.eq_false_or_eq_true S.ok with hok | hok
  case inr =>
    rw [hok] at hv
    have HV := Lib.hid hv; clear hv
    have R1 := Lib.hid (show (0 : Int) = prV S n from by simp [prV, hok])
    have R2 := Lib.hid (show (0 : Int) = hrV S n from by simp [hrV, hok])
    have R3 := Lib.hid (show (20 : Int) = askErr S.ok (S.isFoot n) from by simp [askErr, hok])
    clear hok
    go_enter Tryd.func11, Tryd.ntmps11
    go_wp2_with (go_at_call 34; refine HV.out.mono ?_; rintro e w2 ⟨rfl, hb2⟩; go_must (have h2 := HX.out.below hb2; have j0 := h2.c0; have j1 := h2.c1; have j2 := h2.c2; have j3 := h2.c3; have j4 := h2.c4; have HX2 := Lib.hid h2; have HB2 := Lib.hid (bT HB.out hb2); have HT2 := Lib.hid (HT.out.bel hb2); clear hb2 h2 k0 k1 k2 k3 k4))
    (try simp only [Exit.inBlock, Exit.then]); refine bodyPost_ret (results_tmp3 rfl _ _ _) rfl ?_
    exact ⟨ret_3 R1.out R2.out R3.out, HB2.out⟩
  case inl =>
  rw [hok] at hv
  have HV := Lib.hid hv; clear hv
  have HOK := Lib.hid hok
  cases hin : within n 0 ((S.F.length : Int) - 1) with
  | false =>
    have R1 := Lib.hid (show (0 : Int) = prV S n from by simp [prV, hok, Shaft.isFoot, hin])
    have R2 := Lib.hid (show (0 : Int) = hrV S n from by simp [hrV, hok, Shaft.isFoot, hin])
    have R3 := Lib.hid (show (1 : Int) = askErr S.ok (S.isFoot n) from by simp [askErr, hok, Shaft.isFoot, hin])
    clear hok
    by_cases h0 : n < 0
    · have d0 : decide (n < 0) = true := by simpa using h0
      clear h0 hin
      go_enter Tryd.func11, Tryd.ntmps11
      go_wp2_with (go_at_call 34; refine HV.out.mono ?_; rintro e w2 ⟨rfl, hb2⟩; go_must (have h2 := HX.out.below hb2; have j0 := h2.c0; have j1 := h2.c1; have j2 := h2.c2; have j3 := h2.c3; have j4 := h2.c4; have HX2 := Lib.hid h2; have HB2 := Lib.hid (bT HB.out hb2); have HT2 := Lib.hid (HT.out.bel hb2); clear hb2 h2 k0 k1 k2 k3 k4))
      (try simp only [Exit.inBlock, Exit.then]); refine bodyPost_ret (results_tmp3 rfl _ _ _) rfl ?_
      exact ⟨ret_3 R1.out R2.out R3.out, HB2.out⟩
    · have d0 : decide (n < 0) = false := by simpa using h0
      have d1 : decide ((S.F.length : Int) ≤ n) = true := by
        by_cases hx : (S.F.length : Int) ≤ n
        · simpa using hx
        · rw [within_tt (by omega) (by omega)] at hin; cases hin
      clear h0 hin
      go_enter Tryd.func11, Tryd.ntmps11
      go_wp2_with (go_at_call 34; refine HV.out.mono ?_; rintro e w2 ⟨rfl, hb2⟩; go_must (have h2 := HX.out.below hb2; have j0 := h2.c0; have j1 := h2.c1; have j2 := h2.c2; have j3 := h2.c3; have j4 := h2.c4; have HX2 := Lib.hid h2; have HB2 := Lib.hid (bT HB.out hb2); have HT2 := Lib.hid (HT.out.bel hb2); clear hb2 h2 k0 k1 k2 k3 k4))
      (try simp only [Exit.inBlock, Exit.then]); refine bodyPost_ret (results_tmp3 rfl _ _ _) rfl ?_
      exact ⟨ret_3 R1.out R2.out R3.out, HB2.out⟩
  | true =>
  obtain ⟨i0, i1⟩ := within_iff.1 hin
  obtain ⟨k, rfl⟩ : ∃ k : Nat, n = (k : Int) := ⟨n.toNat, by omega⟩
  have hk : k < S.F.length := by omega
  have R1 := Lib.hid (show S.price k = prV S k from by simp [prV, hok, Shaft.isFoot, hin])
  have R2 := Lib.hid (show (S.rock k).h = hrV S k from by simp [hrV, hok, Shaft.isFoot, hin])
  have R3 := Lib.hid (show (0 : Int) = askErr S.ok (S.isFoot k) from by simp [askErr, hok, Shaft.isFoot, hin])
  have d0 : decide ((k : Int) < 0) = false := by simp
  have d1 : decide ((S.F.length : Int) ≤ (k : Int)) = false := by simp; omega
  clear hok hin
  go_enter Tryd.func11, Tryd.ntmps11
  go_wp2_with (go_at_call 34; refine HV.out.mono ?_; rintro e w2 ⟨rfl, hb2⟩; go_must (have h2 := HX.out.below hb2; have j0 := h2.c0; have j1 := h2.c1; have j2 := h2.c2; have j3 := h2.c3; have j4 := h2.c4; have HX2 := Lib.hid h2; have HB2 := Lib.hid (bT HB.out hb2); have HT2 := Lib.hid (HT.out.bel hb2); clear hb2 h2 k0 k1 k2 k3 k4))
  obtain ⟨w3, hw3, hb3, hz3, x3⟩ := box_dig w2 S p q c d
  try rw [hw3]
  have HF := Lib.hid (footP_any S p q c d k w2.heap.size w3 HOK.out hk x3 (HT2.out.bel hb3))
  have HB3 := Lib.hid (bT HB2.out hb3)
  clear hb3 x3
  go_wp2_with (go_at_call 37; refine HF.out.mono ?_; rintro e w4 ⟨rfl, hb4⟩; go_must (have HB4 := Lib.hid (bT HB3.out hb4); clear hb4))
  (try simp only [Exit.inBlock, Exit.then]); refine bodyPost_ret (results_tmp3 rfl _ _ _) rfl ?_
  exact ⟨ret_3 R1.out R2.out R3.out, HB4.out⟩
end Go.Proofs.YtaaocomgmacjnabDoor
