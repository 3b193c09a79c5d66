/- LevelsThree returns true in every walk. -/
import Derived.Test.YtmfbfcknnjbabaaJ2
set_option linter.unusedSimpArgs false
set_option linter.unusedVariables false
namespace Go.Proofs.Ytmfbfcknnjbabaa
open Go.RowKit

theorem box_ask (w : World) (W : Int) (p q : Option Addr) (m n c d : Nat) (a b t y : Int) :
    ∃ w1, (w.alloc (Obj.cells #[Value.int IntKind.i64 W, Value.slice p m c, Value.slice q n d] 25)).alloc (Obj.cells #[.int .i64 a, .int .i64 b, .int .i64 t, .int .i64 y] 51) = w1 ∧ Below w.heap.size w w1 ∧ w1.heap.size = w.heap.size + 1 + 1 ∧
      w1.cell? ⟨w.heap.size, 0, none⟩ = some (.int .i64 W) ∧ w1.cell? ⟨w.heap.size, 1, none⟩ = some (.slice p m c) ∧ w1.cell? ⟨w.heap.size, 2, none⟩ = some (.slice q n d) ∧
      w1.cell? ⟨w.heap.size + 1, 0, none⟩ = some (.int .i64 a) ∧ w1.cell? ⟨w.heap.size + 1, 1, none⟩ = some (.int .i64 b) ∧ w1.cell? ⟨w.heap.size + 1, 2, none⟩ = some (.int .i64 t) ∧ w1.cell? ⟨w.heap.size + 1, 3, none⟩ = some (.int .i64 y) :=
  ⟨_, rfl, bA (bA (Below.refl _ _) _) _, by simp, by go_simp, by go_simp, by go_simp, by go_simp, by go_simp, by go_simp, by go_simp⟩
theorem Boxed_lt {W : World} {b : Nat} {o : Obj} (h : W.heap[b]? = some o) : b < W.heap.size := (Array.getElem?_eq_some_iff.1 h).1
theorem within_of {W n : Int} (h : within n 0 (W - 1) = true) : ∃ k : Nat, n = k ∧ (k : Int) < W := by
  simp only [within, decide_eq_true_eq] at h
  exact ⟨n.toNat, by omega, by omega⟩
theorem rdy_ok {T : Town} (h : rdy T = true) : T.ok = true ∧ T.W ≤ 5 ∧ T.s.length + T.r.length ≤ 8 := by
  simp only [rdy, Bool.and_eq_true, decide_eq_true_eq] at h
  exact h

set_option maxRecDepth 100000 in
set_option maxHeartbeats 4000000 in
/-- the answer where nothing is asked -/
theorem three_skip (T : Town) (p q : Option Addr) (c d : Nat) (a b t y : Int) (w : World) (ht : TownIn w w.heap.size T p q)
    (hs : (rdy T && (within a 0 (T.W - 1) && (within b 0 (T.W - 1) && within t 0 (T.W - 1)))) = false) :
    Calls Try.prog 12 #[.agg #[.int .i64 T.W, .slice p T.s.length c, .slice q T.r.length d], .agg #[.int .i64 a, .int .i64 b, .int .i64 t, .int .i64 y]] w fun e w' => e = .returned (.bool true) ∧ Below w.heap.size w w' := by
  obtain ⟨w1, hw1, hb1, hz1, k0, k1, k2, k3, k4, k5, k6⟩ := box_ask w T.W p q T.s.length T.r.length c d a b t y
  have l0 : w.heap.size < w1.heap.size := by omega
  have l1 : w.heap.size + 1 < w1.heap.size := by omega
  have hrdy := ready_any T p q c d w1 (ht.bel hb1)
  have HB1 := Lib.hid hb1
  cases hr : rdy T with
  | false =>
    rw [hr] at hrdy
    have HR := Lib.hid hrdy
    clear hrdy hr hs ht hb1
    go_enter Try.func12, Try.ntmps12
    go_wp2_with (first
      | (go_at_call 45; refine HR.out.mono ?_; rintro e w2 ⟨rfl, hb2⟩; go_must (have HB2 := Lib.hid (bT HB1.out hb2); clear hb2))
      | (go_at_call 16; refine (works_ex _).mono ?_; rintro e w3 ⟨rfl, hb3⟩; go_must (have HB3 := Lib.hid (bT HB2.out hb3); clear hb3)))
    go_ret
    exact ⟨rfl, HB3.out⟩
  | true =>
    obtain ⟨hok, hW5, _⟩ := rdy_ok hr
    have hW := ok_W hok
    rw [hr] at hrdy
    rw [hr, Bool.true_and] at hs
    have HR := Lib.hid hrdy
    have hia : ∀ x, within a 0 (T.W - 1) = x → ∀ V, Calls Try.prog 48 #[.agg #[.int .i64 T.W, .slice p T.s.length c, .slice q T.r.length d], .int .i64 a] V fun e w' => e = .returned (.bool x) ∧ Below V.heap.size V w' := fun x hx V => isWell_b T.W a _ _ x V (by omega) (by omega) hx
    have hib : ∀ x, within b 0 (T.W - 1) = x → ∀ V, Calls Try.prog 48 #[.agg #[.int .i64 T.W, .slice p T.s.length c, .slice q T.r.length d], .int .i64 b] V fun e w' => e = .returned (.bool x) ∧ Below V.heap.size V w' := fun x hx V => isWell_b T.W b _ _ x V (by omega) (by omega) hx
    have hit : ∀ x, within t 0 (T.W - 1) = x → ∀ V, Calls Try.prog 48 #[.agg #[.int .i64 T.W, .slice p T.s.length c, .slice q T.r.length d], .int .i64 t] V fun e w' => e = .returned (.bool x) ∧ Below V.heap.size V w' := fun x hx V => isWell_b T.W t _ _ x V (by omega) (by omega) hx
    clear hrdy hr ht hb1
    cases ha : within a 0 (T.W - 1) with
    | false =>
      have HA := Lib.hid (hia false ha)
      clear hia hib hit hs ha
      go_enter Try.func12, Try.ntmps12
      go_wp2_with fail
      refine HR.out.mono ?_
      rintro e w2 ⟨rfl, hb2⟩
      have HB2 := Lib.hid (bT HB1.out hb2)
      have j0 := (hb2.cell (p := ⟨w.heap.size, 0, none⟩) l0).trans k0
      have j1 := (hb2.cell (p := ⟨w.heap.size, 1, none⟩) l0).trans k1
      have j2 := (hb2.cell (p := ⟨w.heap.size, 2, none⟩) l0).trans k2
      have j3 := (hb2.cell (p := ⟨w.heap.size + 1, 0, none⟩) l1).trans k3
      have j4 := (hb2.cell (p := ⟨w.heap.size + 1, 1, none⟩) l1).trans k4
      have j5 := (hb2.cell (p := ⟨w.heap.size + 1, 2, none⟩) l1).trans k5
      have l20 : w.heap.size < w2.heap.size := by have := hb2.size; omega
      have l21 : w.heap.size + 1 < w2.heap.size := by have := hb2.size; omega
      clear hb2
      go_wp2_with fail
      refine (HA.out _).mono ?_
      rintro e w3 ⟨rfl, hb3⟩
      have HB3 := Lib.hid (bT HB2.out hb3)
      have j30 := (hb3.cell (p := ⟨w.heap.size, 0, none⟩) l20).trans j0
      have j31 := (hb3.cell (p := ⟨w.heap.size, 1, none⟩) l20).trans j1
      have j32 := (hb3.cell (p := ⟨w.heap.size, 2, none⟩) l20).trans j2
      have j33 := (hb3.cell (p := ⟨w.heap.size + 1, 0, none⟩) l21).trans j3
      have j34 := (hb3.cell (p := ⟨w.heap.size + 1, 1, none⟩) l21).trans j4
      have j35 := (hb3.cell (p := ⟨w.heap.size + 1, 2, none⟩) l21).trans j5
      have l30 : w.heap.size < w3.heap.size := by have := hb3.size; omega
      have l31 : w.heap.size + 1 < w3.heap.size := by have := hb3.size; omega
      clear hb3
      go_wp2_with fail
      refine (works_ex _).mono ?_
      rintro e w9 ⟨rfl, hb9⟩
      have HB9 := Lib.hid (bT HB3.out hb9)
      clear hb9
      go_wp2_with fail
      go_ret
      exact ⟨rfl, HB9.out⟩
    | true =>
      rw [ha, Bool.true_and] at hs
      have HA := Lib.hid (hia true ha)
      cases hb : within b 0 (T.W - 1) with
      | false =>
        have HB := Lib.hid (hib false hb)
        clear hia hib hit hs ha hb
        go_enter Try.func12, Try.ntmps12
        go_wp2_with fail
        refine HR.out.mono ?_
        rintro e w2 ⟨rfl, hb2⟩
        have HB2 := Lib.hid (bT HB1.out hb2)
        have j0 := (hb2.cell (p := ⟨w.heap.size, 0, none⟩) l0).trans k0
        have j1 := (hb2.cell (p := ⟨w.heap.size, 1, none⟩) l0).trans k1
        have j2 := (hb2.cell (p := ⟨w.heap.size, 2, none⟩) l0).trans k2
        have j3 := (hb2.cell (p := ⟨w.heap.size + 1, 0, none⟩) l1).trans k3
        have j4 := (hb2.cell (p := ⟨w.heap.size + 1, 1, none⟩) l1).trans k4
        have j5 := (hb2.cell (p := ⟨w.heap.size + 1, 2, none⟩) l1).trans k5
        have l20 : w.heap.size < w2.heap.size := by have := hb2.size; omega
        have l21 : w.heap.size + 1 < w2.heap.size := by have := hb2.size; omega
        clear hb2
        go_wp2_with fail
        refine (HA.out _).mono ?_
        rintro e w3 ⟨rfl, hb3⟩
        have HB3 := Lib.hid (bT HB2.out hb3)
        have j30 := (hb3.cell (p := ⟨w.heap.size, 0, none⟩) l20).trans j0
        have j31 := (hb3.cell (p := ⟨w.heap.size, 1, none⟩) l20).trans j1
        have j32 := (hb3.cell (p := ⟨w.heap.size, 2, none⟩) l20).trans j2
        have j33 := (hb3.cell (p := ⟨w.heap.size + 1, 0, none⟩) l21).trans j3
        have j34 := (hb3.cell (p := ⟨w.heap.size + 1, 1, none⟩) l21).trans j4
        have j35 := (hb3.cell (p := ⟨w.heap.size + 1, 2, none⟩) l21).trans j5
        have l30 : w.heap.size < w3.heap.size := by have := hb3.size; omega
        have l31 : w.heap.size + 1 < w3.heap.size := by have := hb3.size; omega
        clear hb3
        go_wp2_with fail
        refine (HB.out _).mono ?_
        rintro e w4 ⟨rfl, hb4⟩
        have HB4 := Lib.hid (bT HB3.out hb4)
        have j40 := (hb4.cell (p := ⟨w.heap.size, 0, none⟩) l30).trans j30
        have j41 := (hb4.cell (p := ⟨w.heap.size, 1, none⟩) l30).trans j31
        have j42 := (hb4.cell (p := ⟨w.heap.size, 2, none⟩) l30).trans j32
        have j43 := (hb4.cell (p := ⟨w.heap.size + 1, 0, none⟩) l31).trans j33
        have j44 := (hb4.cell (p := ⟨w.heap.size + 1, 1, none⟩) l31).trans j34
        have j45 := (hb4.cell (p := ⟨w.heap.size + 1, 2, none⟩) l31).trans j35
        have l40 : w.heap.size < w4.heap.size := by have := hb4.size; omega
        have l41 : w.heap.size + 1 < w4.heap.size := by have := hb4.size; omega
        clear hb4
        go_wp2_with fail
        refine (works_ex _).mono ?_
        rintro e w9 ⟨rfl, hb9⟩
        have HB9 := Lib.hid (bT HB4.out hb9)
        clear hb9
        go_wp2_with fail
        go_ret
        exact ⟨rfl, HB9.out⟩
      | true =>
        rw [hb, Bool.true_and] at hs
        have HB := Lib.hid (hib true hb)
        have HC := Lib.hid (hit false hs)
        clear hia hib hit hs ha hb
        go_enter Try.func12, Try.ntmps12
        go_wp2_with fail
        refine HR.out.mono ?_
        rintro e w2 ⟨rfl, hb2⟩
        have HB2 := Lib.hid (bT HB1.out hb2)
        have j0 := (hb2.cell (p := ⟨w.heap.size, 0, none⟩) l0).trans k0
        have j1 := (hb2.cell (p := ⟨w.heap.size, 1, none⟩) l0).trans k1
        have j2 := (hb2.cell (p := ⟨w.heap.size, 2, none⟩) l0).trans k2
        have j3 := (hb2.cell (p := ⟨w.heap.size + 1, 0, none⟩) l1).trans k3
        have j4 := (hb2.cell (p := ⟨w.heap.size + 1, 1, none⟩) l1).trans k4
        have j5 := (hb2.cell (p := ⟨w.heap.size + 1, 2, none⟩) l1).trans k5
        have l20 : w.heap.size < w2.heap.size := by have := hb2.size; omega
        have l21 : w.heap.size + 1 < w2.heap.size := by have := hb2.size; omega
        clear hb2
        go_wp2_with fail
        refine (HA.out _).mono ?_
        rintro e w3 ⟨rfl, hb3⟩
        have HB3 := Lib.hid (bT HB2.out hb3)
        have j30 := (hb3.cell (p := ⟨w.heap.size, 0, none⟩) l20).trans j0
        have j31 := (hb3.cell (p := ⟨w.heap.size, 1, none⟩) l20).trans j1
        have j32 := (hb3.cell (p := ⟨w.heap.size, 2, none⟩) l20).trans j2
        have j33 := (hb3.cell (p := ⟨w.heap.size + 1, 0, none⟩) l21).trans j3
        have j34 := (hb3.cell (p := ⟨w.heap.size + 1, 1, none⟩) l21).trans j4
        have j35 := (hb3.cell (p := ⟨w.heap.size + 1, 2, none⟩) l21).trans j5
        have l30 : w.heap.size < w3.heap.size := by have := hb3.size; omega
        have l31 : w.heap.size + 1 < w3.heap.size := by have := hb3.size; omega
        clear hb3
        go_wp2_with fail
        refine (HB.out _).mono ?_
        rintro e w4 ⟨rfl, hb4⟩
        have HB4 := Lib.hid (bT HB3.out hb4)
        have j40 := (hb4.cell (p := ⟨w.heap.size, 0, none⟩) l30).trans j30
        have j41 := (hb4.cell (p := ⟨w.heap.size, 1, none⟩) l30).trans j31
        have j42 := (hb4.cell (p := ⟨w.heap.size, 2, none⟩) l30).trans j32
        have j43 := (hb4.cell (p := ⟨w.heap.size + 1, 0, none⟩) l31).trans j33
        have j44 := (hb4.cell (p := ⟨w.heap.size + 1, 1, none⟩) l31).trans j34
        have j45 := (hb4.cell (p := ⟨w.heap.size + 1, 2, none⟩) l31).trans j35
        have l40 : w.heap.size < w4.heap.size := by have := hb4.size; omega
        have l41 : w.heap.size + 1 < w4.heap.size := by have := hb4.size; omega
        clear hb4
        go_wp2_with fail
        refine (HC.out _).mono ?_
        rintro e w5 ⟨rfl, hb5⟩
        have HB5 := Lib.hid (bT HB4.out hb5)
        have j50 := (hb5.cell (p := ⟨w.heap.size, 0, none⟩) l40).trans j40
        have j51 := (hb5.cell (p := ⟨w.heap.size, 1, none⟩) l40).trans j41
        have j52 := (hb5.cell (p := ⟨w.heap.size, 2, none⟩) l40).trans j42
        have j53 := (hb5.cell (p := ⟨w.heap.size + 1, 0, none⟩) l41).trans j43
        have j54 := (hb5.cell (p := ⟨w.heap.size + 1, 1, none⟩) l41).trans j44
        have j55 := (hb5.cell (p := ⟨w.heap.size + 1, 2, none⟩) l41).trans j45
        have l50 : w.heap.size < w5.heap.size := by have := hb5.size; omega
        have l51 : w.heap.size + 1 < w5.heap.size := by have := hb5.size; omega
        clear hb5
        go_wp2_with fail
        refine (works_ex _).mono ?_
        rintro e w9 ⟨rfl, hb9⟩
        have HB9 := Lib.hid (bT HB5.out hb9)
        clear hb9
        go_wp2_with fail
        go_ret
        exact ⟨rfl, HB9.out⟩

set_option maxRecDepth 100000 in
set_option maxHeartbeats 8000000 in
theorem three_none (T : Town) (p q : Option Addr) (c d : Nat) (a b t : Nat) (y : Int) (w : World) (ht : TownIn w w.heap.size T p q) (hr : rdy T = true) (ha : (a : Int) < T.W) (hb : (b : Int) < T.W) (hc : (t : Int) < T.W) (hk : kn T = none) :
    Calls Try.prog 12 #[.agg #[.int .i64 T.W, .slice p T.s.length c, .slice q T.r.length d], .agg #[.int .i64 a, .int .i64 b, .int .i64 t, .int .i64 y]] w fun e w' => e = .returned (.bool true) ∧ Below w.heap.size w w' := by
  obtain ⟨w1, hw1, hb1, hz1, k0, k1, k2, k3, k4, k5, k6⟩ := box_ask w T.W p q T.s.length T.r.length c d a b t y
  have l0 : w.heap.size < w1.heap.size := by omega
  have l1 : w.heap.size + 1 < w1.heap.size := by omega
  obtain ⟨hok, hW5, _⟩ := rdy_ok hr
  have hW := ok_W hok
  have hrdy := ready_any T p q c d w1 (ht.bel hb1)
  rw [hr] at hrdy
  have hia : ∀ (x : Nat), (x : Int) < T.W → ∀ V, Calls Try.prog 48 #[.agg #[.int .i64 T.W, .slice p T.s.length c, .slice q T.r.length d], .int .i64 x] V fun e w' => e = .returned (.bool true) ∧ Below V.heap.size V w' := fun x hx V => isWell_b T.W x _ _ true V (by omega) (by omega) (within_tt (by omega) (by omega))
  have hd : ∀ (u v : Nat), (u : Int) < T.W → (v : Int) < T.W → ∀ V, Below w1.heap.size w1 V → Calls Try.prog 33 #[.agg #[.int .i64 T.W, .slice p T.s.length c, .slice q T.r.length d], .int .i64 u, .int .i64 v] V fun e w' => e = .returned (.tuple #[.agg #[.int .i64 0, .int .i64 0], .int .i64 3]) ∧ Below V.heap.size V w' :=
    fun u v hu hv V hV => differ_no T u v p q c d V hok hk hu hv (ht.bel (bT hb1 hV))
  have HR := Lib.hid hrdy; have HA := Lib.hid (hia a ha); have HB := Lib.hid (hia b hb); have HC := Lib.hid (hia t hc)
  have H1 := Lib.hid (hd a b ha hb); have H2 := Lib.hid (hd b t hb hc); have H3 := Lib.hid (hd a t ha hc); have H4 := Lib.hid (hd b a hb ha); have H5 := Lib.hid (hd a a ha ha)
  have HB1 := Lib.hid hb1; have HBB := Lib.hid (Below.refl w1.heap.size w1)
  clear hrdy hia hd hr ha hb hc hk ht hb1 hok
  go_enter Try.func12, Try.ntmps12
  go_wp2_with fail
  refine HR.out.mono ?_
  rintro e w2 ⟨rfl, hb2⟩
  have HBB2 := Lib.hid (hb2)
  have j20 := (HBB2.out.cell (p := ⟨w.heap.size, 0, none⟩) l0).trans k0
  have j21 := (HBB2.out.cell (p := ⟨w.heap.size, 1, none⟩) l0).trans k1
  have j22 := (HBB2.out.cell (p := ⟨w.heap.size, 2, none⟩) l0).trans k2
  have j23 := (HBB2.out.cell (p := ⟨w.heap.size + 1, 0, none⟩) l1).trans k3
  have j24 := (HBB2.out.cell (p := ⟨w.heap.size + 1, 1, none⟩) l1).trans k4
  have j25 := (HBB2.out.cell (p := ⟨w.heap.size + 1, 2, none⟩) l1).trans k5
  have l20 : w.heap.size < w2.heap.size := by have := HBB2.out.size; omega
  have l21 : w.heap.size + 1 < w2.heap.size := by have := HBB2.out.size; omega
  clear hb2
  go_wp2_with fail
  refine (HA.out _).mono ?_
  rintro e w3 ⟨rfl, hb3⟩
  have HBB3 := Lib.hid (bT HBB2.out hb3)
  have j30 := (HBB3.out.cell (p := ⟨w.heap.size, 0, none⟩) l0).trans k0
  have j31 := (HBB3.out.cell (p := ⟨w.heap.size, 1, none⟩) l0).trans k1
  have j32 := (HBB3.out.cell (p := ⟨w.heap.size, 2, none⟩) l0).trans k2
  have j33 := (HBB3.out.cell (p := ⟨w.heap.size + 1, 0, none⟩) l1).trans k3
  have j34 := (HBB3.out.cell (p := ⟨w.heap.size + 1, 1, none⟩) l1).trans k4
  have j35 := (HBB3.out.cell (p := ⟨w.heap.size + 1, 2, none⟩) l1).trans k5
  have l30 : w.heap.size < w3.heap.size := by have := HBB3.out.size; omega
  have l31 : w.heap.size + 1 < w3.heap.size := by have := HBB3.out.size; omega
  clear hb3
  clear j20 j21 j22 j23 j24 j25
  go_wp2_with fail
  refine (HB.out _).mono ?_
  rintro e w4 ⟨rfl, hb4⟩
  have HBB4 := Lib.hid (bT HBB3.out hb4)
  have j40 := (HBB4.out.cell (p := ⟨w.heap.size, 0, none⟩) l0).trans k0
  have j41 := (HBB4.out.cell (p := ⟨w.heap.size, 1, none⟩) l0).trans k1
  have j42 := (HBB4.out.cell (p := ⟨w.heap.size, 2, none⟩) l0).trans k2
  have j43 := (HBB4.out.cell (p := ⟨w.heap.size + 1, 0, none⟩) l1).trans k3
  have j44 := (HBB4.out.cell (p := ⟨w.heap.size + 1, 1, none⟩) l1).trans k4
  have j45 := (HBB4.out.cell (p := ⟨w.heap.size + 1, 2, none⟩) l1).trans k5
  have l40 : w.heap.size < w4.heap.size := by have := HBB4.out.size; omega
  have l41 : w.heap.size + 1 < w4.heap.size := by have := HBB4.out.size; omega
  clear hb4
  clear j30 j31 j32 j33 j34 j35
  go_wp2_with fail
  refine (HC.out _).mono ?_
  rintro e w5 ⟨rfl, hb5⟩
  have HBB5 := Lib.hid (bT HBB4.out hb5)
  have j50 := (HBB5.out.cell (p := ⟨w.heap.size, 0, none⟩) l0).trans k0
  have j51 := (HBB5.out.cell (p := ⟨w.heap.size, 1, none⟩) l0).trans k1
  have j52 := (HBB5.out.cell (p := ⟨w.heap.size, 2, none⟩) l0).trans k2
  have j53 := (HBB5.out.cell (p := ⟨w.heap.size + 1, 0, none⟩) l1).trans k3
  have j54 := (HBB5.out.cell (p := ⟨w.heap.size + 1, 1, none⟩) l1).trans k4
  have j55 := (HBB5.out.cell (p := ⟨w.heap.size + 1, 2, none⟩) l1).trans k5
  have l50 : w.heap.size < w5.heap.size := by have := HBB5.out.size; omega
  have l51 : w.heap.size + 1 < w5.heap.size := by have := HBB5.out.size; omega
  clear hb5
  clear j40 j41 j42 j43 j44 j45
  go_wp2_with fail
  refine (H1.out _ HBB5.out).mono ?_
  rintro e w6 ⟨rfl, hb6⟩
  have HBB6 := Lib.hid (bT HBB5.out hb6)
  have j60 := (HBB6.out.cell (p := ⟨w.heap.size, 0, none⟩) l0).trans k0
  have j61 := (HBB6.out.cell (p := ⟨w.heap.size, 1, none⟩) l0).trans k1
  have j62 := (HBB6.out.cell (p := ⟨w.heap.size, 2, none⟩) l0).trans k2
  have j63 := (HBB6.out.cell (p := ⟨w.heap.size + 1, 0, none⟩) l1).trans k3
  have j64 := (HBB6.out.cell (p := ⟨w.heap.size + 1, 1, none⟩) l1).trans k4
  have j65 := (HBB6.out.cell (p := ⟨w.heap.size + 1, 2, none⟩) l1).trans k5
  have l60 : w.heap.size < w6.heap.size := by have := HBB6.out.size; omega
  have l61 : w.heap.size + 1 < w6.heap.size := by have := HBB6.out.size; omega
  clear hb6
  clear j50 j51 j52 j53 j54 j55
  go_wp2_with fail
  refine (H2.out _ (bA HBB6.out _)).mono ?_
  rintro e w7 ⟨rfl, hb7⟩
  have HBB7 := Lib.hid (bT (bA HBB6.out _) hb7)
  have j70 := (HBB7.out.cell (p := ⟨w.heap.size, 0, none⟩) l0).trans k0
  have j71 := (HBB7.out.cell (p := ⟨w.heap.size, 1, none⟩) l0).trans k1
  have j72 := (HBB7.out.cell (p := ⟨w.heap.size, 2, none⟩) l0).trans k2
  have j73 := (HBB7.out.cell (p := ⟨w.heap.size + 1, 0, none⟩) l1).trans k3
  have j74 := (HBB7.out.cell (p := ⟨w.heap.size + 1, 1, none⟩) l1).trans k4
  have j75 := (HBB7.out.cell (p := ⟨w.heap.size + 1, 2, none⟩) l1).trans k5
  have l70 : w.heap.size < w7.heap.size := by have := HBB7.out.size; omega
  have l71 : w.heap.size + 1 < w7.heap.size := by have := HBB7.out.size; omega
  have X7_6 := Lib.hid ((hb7.block w6.heap.size (by simp)).trans (heap_alloc_new w6 _))
  clear hb7
  clear j60 j61 j62 j63 j64 j65
  go_wp2_with fail
  refine (H3.out _ (bA HBB7.out _)).mono ?_
  rintro e w8 ⟨rfl, hb8⟩
  have HBB8 := Lib.hid (bT (bA HBB7.out _) hb8)
  have j80 := (HBB8.out.cell (p := ⟨w.heap.size, 0, none⟩) l0).trans k0
  have j81 := (HBB8.out.cell (p := ⟨w.heap.size, 1, none⟩) l0).trans k1
  have j82 := (HBB8.out.cell (p := ⟨w.heap.size, 2, none⟩) l0).trans k2
  have j83 := (HBB8.out.cell (p := ⟨w.heap.size + 1, 0, none⟩) l1).trans k3
  have j84 := (HBB8.out.cell (p := ⟨w.heap.size + 1, 1, none⟩) l1).trans k4
  have j85 := (HBB8.out.cell (p := ⟨w.heap.size + 1, 2, none⟩) l1).trans k5
  have l80 : w.heap.size < w8.heap.size := by have := HBB8.out.size; omega
  have l81 : w.heap.size + 1 < w8.heap.size := by have := HBB8.out.size; omega
  have X8_6 := Lib.hid ((hb8.block w6.heap.size (by have := Boxed_lt X7_6.out; simp; omega)).trans ((Below.heap_alloc _ _ _ (Boxed_lt X7_6.out)).trans X7_6.out))
  have X8_7 := Lib.hid ((hb8.block w7.heap.size (by simp)).trans (heap_alloc_new w7 _))
  clear hb8
  clear j70 j71 j72 j73 j74 j75
  go_wp2_with fail
  refine (H4.out _ (bA HBB8.out _)).mono ?_
  rintro e w9 ⟨rfl, hb9⟩
  have HBB9 := Lib.hid (bT (bA HBB8.out _) hb9)
  have j90 := (HBB9.out.cell (p := ⟨w.heap.size, 0, none⟩) l0).trans k0
  have j91 := (HBB9.out.cell (p := ⟨w.heap.size, 1, none⟩) l0).trans k1
  have j92 := (HBB9.out.cell (p := ⟨w.heap.size, 2, none⟩) l0).trans k2
  have j93 := (HBB9.out.cell (p := ⟨w.heap.size + 1, 0, none⟩) l1).trans k3
  have j94 := (HBB9.out.cell (p := ⟨w.heap.size + 1, 1, none⟩) l1).trans k4
  have j95 := (HBB9.out.cell (p := ⟨w.heap.size + 1, 2, none⟩) l1).trans k5
  have l90 : w.heap.size < w9.heap.size := by have := HBB9.out.size; omega
  have l91 : w.heap.size + 1 < w9.heap.size := by have := HBB9.out.size; omega
  have X9_6 := Lib.hid ((hb9.block w6.heap.size (by have := Boxed_lt X8_6.out; simp; omega)).trans ((Below.heap_alloc _ _ _ (Boxed_lt X8_6.out)).trans X8_6.out))
  have X9_7 := Lib.hid ((hb9.block w7.heap.size (by have := Boxed_lt X8_7.out; simp; omega)).trans ((Below.heap_alloc _ _ _ (Boxed_lt X8_7.out)).trans X8_7.out))
  have X9_8 := Lib.hid ((hb9.block w8.heap.size (by simp)).trans (heap_alloc_new w8 _))
  clear hb9
  clear j80 j81 j82 j83 j84 j85
  go_wp2_with fail
  refine (H5.out _ (bA HBB9.out _)).mono ?_
  rintro e w10 ⟨rfl, hb10⟩
  have HBB10 := Lib.hid (bT (bA HBB9.out _) hb10)
  have j100 := (HBB10.out.cell (p := ⟨w.heap.size, 0, none⟩) l0).trans k0
  have j101 := (HBB10.out.cell (p := ⟨w.heap.size, 1, none⟩) l0).trans k1
  have j102 := (HBB10.out.cell (p := ⟨w.heap.size, 2, none⟩) l0).trans k2
  have j103 := (HBB10.out.cell (p := ⟨w.heap.size + 1, 0, none⟩) l1).trans k3
  have j104 := (HBB10.out.cell (p := ⟨w.heap.size + 1, 1, none⟩) l1).trans k4
  have j105 := (HBB10.out.cell (p := ⟨w.heap.size + 1, 2, none⟩) l1).trans k5
  have l100 : w.heap.size < w10.heap.size := by have := HBB10.out.size; omega
  have l101 : w.heap.size + 1 < w10.heap.size := by have := HBB10.out.size; omega
  have X10_6 := Lib.hid ((hb10.block w6.heap.size (by have := Boxed_lt X9_6.out; simp; omega)).trans ((Below.heap_alloc _ _ _ (Boxed_lt X9_6.out)).trans X9_6.out))
  have X10_7 := Lib.hid ((hb10.block w7.heap.size (by have := Boxed_lt X9_7.out; simp; omega)).trans ((Below.heap_alloc _ _ _ (Boxed_lt X9_7.out)).trans X9_7.out))
  have X10_8 := Lib.hid ((hb10.block w8.heap.size (by have := Boxed_lt X9_8.out; simp; omega)).trans ((Below.heap_alloc _ _ _ (Boxed_lt X9_8.out)).trans X9_8.out))
  have X10_9 := Lib.hid ((hb10.block w9.heap.size (by simp)).trans (heap_alloc_new w9 _))
  clear hb10
  clear j90 j91 j92 j93 j94 j95
  go_wp2_with fail
  refine (works_ex _).mono ?_
  rintro e w11 ⟨rfl, hb11⟩
  have HB11 := Lib.hid (bT (bA (bT HB1.out HBB10.out) _) hb11)
  clear hb11
  go_wp2_with fail
  go_ret
  exact ⟨rfl, HB11.out⟩

set_option maxRecDepth 100000 in
set_option maxHeartbeats 8000000 in
theorem three_some (T : Town) (M : List Int) (p q : Option Addr) (c d : Nat) (a b t : Nat) (y : Int) (w : World) (ht : TownIn w w.heap.size T p q) (hr : rdy T = true) (ha : (a : Int) < T.W) (hb : (b : Int) < T.W) (hc : (t : Int) < T.W) (hk : kn T = some M) :
    Calls Try.prog 12 #[.agg #[.int .i64 T.W, .slice p T.s.length c, .slice q T.r.length d], .agg #[.int .i64 a, .int .i64 b, .int .i64 t, .int .i64 y]] w fun e w' => e = .returned (.bool true) ∧ Below w.heap.size w w' := by
  obtain ⟨w1, hw1, hb1, hz1, k0, k1, k2, k3, k4, k5, k6⟩ := box_ask w T.W p q T.s.length T.r.length c d a b t y
  have l0 : w.heap.size < w1.heap.size := by omega
  have l1 : w.heap.size + 1 < w1.heap.size := by omega
  obtain ⟨hok, hW5, _⟩ := rdy_ok hr
  have hW := ok_W hok
  have hM := kn_clo hok hk
  have hrdy := ready_any T p q c d w1 (ht.bel hb1)
  rw [hr] at hrdy
  have hia : ∀ (x : Nat), (x : Int) < T.W → ∀ V, Calls Try.prog 48 #[.agg #[.int .i64 T.W, .slice p T.s.length c, .slice q T.r.length d], .int .i64 x] V fun e w' => e = .returned (.bool true) ∧ Below V.heap.size V w' := fun x hx V => isWell_b T.W x _ _ true V (by omega) (by omega) (within_tt (by omega) (by omega))
  have hd : ∀ (u v : Nat), (u : Int) < T.W → (v : Int) < T.W → ∀ V, Below w1.heap.size w1 V → Calls Try.prog 33 #[.agg #[.int .i64 T.W, .slice p T.s.length c, .slice q T.r.length d], .int .i64 u, .int .i64 v] V fun e w' => e = .returned (.tuple #[.agg #[.int .i64 (-D M (v + 1) (u + 1)), .int .i64 (D M (u + 1) (v + 1))], .int .i64 0]) ∧ Below V.heap.size V w' :=
    fun u v hu hv V hV => by
      have := differ_ok T M u v p q c d V hok hk hu hv (ht.bel (bT hb1 hV))
      rw [dif_eq hM (by omega) (by omega)] at this
      exact this
  obtain ⟨x1, hx1⟩ : ∃ x, D M (a + 1) (b + 1) = x := ⟨_, rfl⟩
  obtain ⟨y1, hy1⟩ : ∃ x, D M (b + 1) (a + 1) = x := ⟨_, rfl⟩
  obtain ⟨x2, hx2⟩ : ∃ x, D M (b + 1) (t + 1) = x := ⟨_, rfl⟩
  obtain ⟨y2, hy2⟩ : ∃ x, D M (t + 1) (b + 1) = x := ⟨_, rfl⟩
  obtain ⟨x3, hx3⟩ : ∃ x, D M (a + 1) (t + 1) = x := ⟨_, rfl⟩
  obtain ⟨y3, hy3⟩ : ∃ x, D M (t + 1) (a + 1) = x := ⟨_, rfl⟩
  have a7 : a + 1 < 7 := by omega
  have b7 : b + 1 < 7 := by omega
  have t7 : t + 1 < 7 := by omega
  have bd : (-99 ≤ x1 ∧ x1 ≤ 99 ∧ -99 ≤ y1 ∧ y1 ≤ 99) ∧ (-99 ≤ x2 ∧ x2 ≤ 99 ∧ -99 ≤ y2 ∧ y2 ≤ 99) ∧ (-99 ≤ x3 ∧ x3 ≤ 99 ∧ -99 ≤ y3 ∧ y3 ≤ 99) := by
    rw [← hx1, ← hy1, ← hx2, ← hy2, ← hx3, ← hy3]
    exact ⟨⟨hM.ge a7 b7, hM.le _ _ a7 b7, hM.ge b7 a7, hM.le _ _ b7 a7⟩, ⟨hM.ge b7 t7, hM.le _ _ b7 t7, hM.ge t7 b7, hM.le _ _ t7 b7⟩, ⟨hM.ge a7 t7, hM.le _ _ a7 t7, hM.ge t7 a7, hM.le _ _ t7 a7⟩⟩
  obtain ⟨⟨p1, p2, p3, p4⟩, ⟨p5, p6, p7, p8⟩, ⟨p9, p10, p11, p12⟩⟩ := bd
  have i1 : y3 ≤ y2 + y1 := by rw [← hy3, ← hy2, ← hy1]; exact hM.tri _ _ _ t7 b7 a7
  have i2 : x3 ≤ x1 + x2 := by rw [← hx3, ← hx1, ← hx2]; exact hM.tri _ _ _ a7 b7 t7
  have i3 : 0 ≤ x3 + y3 := by rw [← hx3, ← hy3]; have := hM.tri _ _ _ a7 t7 a7; rw [hM.diag _ a7] at this; exact this
  have h1 := hd a b ha hb; have h2 := hd b t hb hc; have h3 := hd a t ha hc; have h4 := hd b a hb ha; have h5 := hd a a ha ha
  rw [hx1, hy1] at h1
  rw [hx2, hy2] at h2
  rw [hx3, hy3] at h3
  rw [hx1, hy1] at h4
  rw [hM.diag _ a7] at h5
  have hins : ∀ V, Calls Try.prog 53 #[.agg #[.int .i64 (-y3), .int .i64 x3], .agg #[.int .i64 (-y1 + -y2), .int .i64 (x1 + x2)]] V fun e w' => e = .returned (.bool true) ∧ Below V.heap.size V w' := fun V => inside_tt _ _ _ _ V (by omega) (by omega) (by omega)
  have HR := Lib.hid hrdy; have HA := Lib.hid (hia a ha); have HB := Lib.hid (hia b hb); have HC := Lib.hid (hia t hc); have HIN := Lib.hid hins
  have H1 := Lib.hid h1; have H2 := Lib.hid h2; have H3 := Lib.hid h3; have H4 := Lib.hid h4; have H5 := Lib.hid h5
  have HB1 := Lib.hid hb1
  clear hrdy hia hd hr ha hb hc hk ht hb1 hok hx1 hx2 hx3 hy1 hy2 hy3 h1 h2 h3 h4 h5 hM hins
  go_enter Try.func12, Try.ntmps12
  go_wp2_with fail
  refine HR.out.mono ?_
  rintro e w2 ⟨rfl, hb2⟩
  have HBB2 := Lib.hid (hb2)
  have j20 := (HBB2.out.cell (p := ⟨w.heap.size, 0, none⟩) l0).trans k0
  have j21 := (HBB2.out.cell (p := ⟨w.heap.size, 1, none⟩) l0).trans k1
  have j22 := (HBB2.out.cell (p := ⟨w.heap.size, 2, none⟩) l0).trans k2
  have j23 := (HBB2.out.cell (p := ⟨w.heap.size + 1, 0, none⟩) l1).trans k3
  have j24 := (HBB2.out.cell (p := ⟨w.heap.size + 1, 1, none⟩) l1).trans k4
  have j25 := (HBB2.out.cell (p := ⟨w.heap.size + 1, 2, none⟩) l1).trans k5
  have l20 : w.heap.size < w2.heap.size := by have := HBB2.out.size; omega
  have l21 : w.heap.size + 1 < w2.heap.size := by have := HBB2.out.size; omega
  clear hb2
  go_wp2_with fail
  refine (HA.out _).mono ?_
  rintro e w3 ⟨rfl, hb3⟩
  have HBB3 := Lib.hid (bT HBB2.out hb3)
  have j30 := (HBB3.out.cell (p := ⟨w.heap.size, 0, none⟩) l0).trans k0
  have j31 := (HBB3.out.cell (p := ⟨w.heap.size, 1, none⟩) l0).trans k1
  have j32 := (HBB3.out.cell (p := ⟨w.heap.size, 2, none⟩) l0).trans k2
  have j33 := (HBB3.out.cell (p := ⟨w.heap.size + 1, 0, none⟩) l1).trans k3
  have j34 := (HBB3.out.cell (p := ⟨w.heap.size + 1, 1, none⟩) l1).trans k4
  have j35 := (HBB3.out.cell (p := ⟨w.heap.size + 1, 2, none⟩) l1).trans k5
  have l30 : w.heap.size < w3.heap.size := by have := HBB3.out.size; omega
  have l31 : w.heap.size + 1 < w3.heap.size := by have := HBB3.out.size; omega
  clear hb3
  clear j20 j21 j22 j23 j24 j25
  go_wp2_with fail
  refine (HB.out _).mono ?_
  rintro e w4 ⟨rfl, hb4⟩
  have HBB4 := Lib.hid (bT HBB3.out hb4)
  have j40 := (HBB4.out.cell (p := ⟨w.heap.size, 0, none⟩) l0).trans k0
  have j41 := (HBB4.out.cell (p := ⟨w.heap.size, 1, none⟩) l0).trans k1
  have j42 := (HBB4.out.cell (p := ⟨w.heap.size, 2, none⟩) l0).trans k2
  have j43 := (HBB4.out.cell (p := ⟨w.heap.size + 1, 0, none⟩) l1).trans k3
  have j44 := (HBB4.out.cell (p := ⟨w.heap.size + 1, 1, none⟩) l1).trans k4
  have j45 := (HBB4.out.cell (p := ⟨w.heap.size + 1, 2, none⟩) l1).trans k5
  have l40 : w.heap.size < w4.heap.size := by have := HBB4.out.size; omega
  have l41 : w.heap.size + 1 < w4.heap.size := by have := HBB4.out.size; omega
  clear hb4
  clear j30 j31 j32 j33 j34 j35
  go_wp2_with fail
  refine (HC.out _).mono ?_
  rintro e w5 ⟨rfl, hb5⟩
  have HBB5 := Lib.hid (bT HBB4.out hb5)
  have j50 := (HBB5.out.cell (p := ⟨w.heap.size, 0, none⟩) l0).trans k0
  have j51 := (HBB5.out.cell (p := ⟨w.heap.size, 1, none⟩) l0).trans k1
  have j52 := (HBB5.out.cell (p := ⟨w.heap.size, 2, none⟩) l0).trans k2
  have j53 := (HBB5.out.cell (p := ⟨w.heap.size + 1, 0, none⟩) l1).trans k3
  have j54 := (HBB5.out.cell (p := ⟨w.heap.size + 1, 1, none⟩) l1).trans k4
  have j55 := (HBB5.out.cell (p := ⟨w.heap.size + 1, 2, none⟩) l1).trans k5
  have l50 : w.heap.size < w5.heap.size := by have := HBB5.out.size; omega
  have l51 : w.heap.size + 1 < w5.heap.size := by have := HBB5.out.size; omega
  clear hb5
  clear j40 j41 j42 j43 j44 j45
  go_wp2_with fail
  refine (H1.out _ HBB5.out).mono ?_
  rintro e w6 ⟨rfl, hb6⟩
  have HBB6 := Lib.hid (bT HBB5.out hb6)
  have j60 := (HBB6.out.cell (p := ⟨w.heap.size, 0, none⟩) l0).trans k0
  have j61 := (HBB6.out.cell (p := ⟨w.heap.size, 1, none⟩) l0).trans k1
  have j62 := (HBB6.out.cell (p := ⟨w.heap.size, 2, none⟩) l0).trans k2
  have j63 := (HBB6.out.cell (p := ⟨w.heap.size + 1, 0, none⟩) l1).trans k3
  have j64 := (HBB6.out.cell (p := ⟨w.heap.size + 1, 1, none⟩) l1).trans k4
  have j65 := (HBB6.out.cell (p := ⟨w.heap.size + 1, 2, none⟩) l1).trans k5
  have l60 : w.heap.size < w6.heap.size := by have := HBB6.out.size; omega
  have l61 : w.heap.size + 1 < w6.heap.size := by have := HBB6.out.size; omega
  clear hb6
  clear j50 j51 j52 j53 j54 j55
  go_wp2_with fail
  refine (H2.out _ (bA HBB6.out _)).mono ?_
  rintro e w7 ⟨rfl, hb7⟩
  have HBB7 := Lib.hid (bT (bA HBB6.out _) hb7)
  have j70 := (HBB7.out.cell (p := ⟨w.heap.size, 0, none⟩) l0).trans k0
  have j71 := (HBB7.out.cell (p := ⟨w.heap.size, 1, none⟩) l0).trans k1
  have j72 := (HBB7.out.cell (p := ⟨w.heap.size, 2, none⟩) l0).trans k2
  have j73 := (HBB7.out.cell (p := ⟨w.heap.size + 1, 0, none⟩) l1).trans k3
  have j74 := (HBB7.out.cell (p := ⟨w.heap.size + 1, 1, none⟩) l1).trans k4
  have j75 := (HBB7.out.cell (p := ⟨w.heap.size + 1, 2, none⟩) l1).trans k5
  have l70 : w.heap.size < w7.heap.size := by have := HBB7.out.size; omega
  have l71 : w.heap.size + 1 < w7.heap.size := by have := HBB7.out.size; omega
  have X7_6 := Lib.hid ((hb7.block w6.heap.size (by simp)).trans (heap_alloc_new w6 _))
  clear hb7
  clear j60 j61 j62 j63 j64 j65
  go_wp2_with fail
  refine (H3.out _ (bA HBB7.out _)).mono ?_
  rintro e w8 ⟨rfl, hb8⟩
  have HBB8 := Lib.hid (bT (bA HBB7.out _) hb8)
  have j80 := (HBB8.out.cell (p := ⟨w.heap.size, 0, none⟩) l0).trans k0
  have j81 := (HBB8.out.cell (p := ⟨w.heap.size, 1, none⟩) l0).trans k1
  have j82 := (HBB8.out.cell (p := ⟨w.heap.size, 2, none⟩) l0).trans k2
  have j83 := (HBB8.out.cell (p := ⟨w.heap.size + 1, 0, none⟩) l1).trans k3
  have j84 := (HBB8.out.cell (p := ⟨w.heap.size + 1, 1, none⟩) l1).trans k4
  have j85 := (HBB8.out.cell (p := ⟨w.heap.size + 1, 2, none⟩) l1).trans k5
  have l80 : w.heap.size < w8.heap.size := by have := HBB8.out.size; omega
  have l81 : w.heap.size + 1 < w8.heap.size := by have := HBB8.out.size; omega
  have X8_6 := Lib.hid ((hb8.block w6.heap.size (by have := Boxed_lt X7_6.out; simp; omega)).trans ((Below.heap_alloc _ _ _ (Boxed_lt X7_6.out)).trans X7_6.out))
  have X8_7 := Lib.hid ((hb8.block w7.heap.size (by simp)).trans (heap_alloc_new w7 _))
  clear hb8
  clear j70 j71 j72 j73 j74 j75
  go_wp2_with fail
  refine (H4.out _ (bA HBB8.out _)).mono ?_
  rintro e w9 ⟨rfl, hb9⟩
  have HBB9 := Lib.hid (bT (bA HBB8.out _) hb9)
  have j90 := (HBB9.out.cell (p := ⟨w.heap.size, 0, none⟩) l0).trans k0
  have j91 := (HBB9.out.cell (p := ⟨w.heap.size, 1, none⟩) l0).trans k1
  have j92 := (HBB9.out.cell (p := ⟨w.heap.size, 2, none⟩) l0).trans k2
  have j93 := (HBB9.out.cell (p := ⟨w.heap.size + 1, 0, none⟩) l1).trans k3
  have j94 := (HBB9.out.cell (p := ⟨w.heap.size + 1, 1, none⟩) l1).trans k4
  have j95 := (HBB9.out.cell (p := ⟨w.heap.size + 1, 2, none⟩) l1).trans k5
  have l90 : w.heap.size < w9.heap.size := by have := HBB9.out.size; omega
  have l91 : w.heap.size + 1 < w9.heap.size := by have := HBB9.out.size; omega
  have X9_6 := Lib.hid ((hb9.block w6.heap.size (by have := Boxed_lt X8_6.out; simp; omega)).trans ((Below.heap_alloc _ _ _ (Boxed_lt X8_6.out)).trans X8_6.out))
  have X9_7 := Lib.hid ((hb9.block w7.heap.size (by have := Boxed_lt X8_7.out; simp; omega)).trans ((Below.heap_alloc _ _ _ (Boxed_lt X8_7.out)).trans X8_7.out))
  have X9_8 := Lib.hid ((hb9.block w8.heap.size (by simp)).trans (heap_alloc_new w8 _))
  clear hb9
  clear j80 j81 j82 j83 j84 j85
  go_wp2_with fail
  refine (H5.out _ (bA HBB9.out _)).mono ?_
  rintro e w10 ⟨rfl, hb10⟩
  have HBB10 := Lib.hid (bT (bA HBB9.out _) hb10)
  have j100 := (HBB10.out.cell (p := ⟨w.heap.size, 0, none⟩) l0).trans k0
  have j101 := (HBB10.out.cell (p := ⟨w.heap.size, 1, none⟩) l0).trans k1
  have j102 := (HBB10.out.cell (p := ⟨w.heap.size, 2, none⟩) l0).trans k2
  have j103 := (HBB10.out.cell (p := ⟨w.heap.size + 1, 0, none⟩) l1).trans k3
  have j104 := (HBB10.out.cell (p := ⟨w.heap.size + 1, 1, none⟩) l1).trans k4
  have j105 := (HBB10.out.cell (p := ⟨w.heap.size + 1, 2, none⟩) l1).trans k5
  have l100 : w.heap.size < w10.heap.size := by have := HBB10.out.size; omega
  have l101 : w.heap.size + 1 < w10.heap.size := by have := HBB10.out.size; omega
  have X10_6 := Lib.hid ((hb10.block w6.heap.size (by have := Boxed_lt X9_6.out; simp; omega)).trans ((Below.heap_alloc _ _ _ (Boxed_lt X9_6.out)).trans X9_6.out))
  have X10_7 := Lib.hid ((hb10.block w7.heap.size (by have := Boxed_lt X9_7.out; simp; omega)).trans ((Below.heap_alloc _ _ _ (Boxed_lt X9_7.out)).trans X9_7.out))
  have X10_8 := Lib.hid ((hb10.block w8.heap.size (by have := Boxed_lt X9_8.out; simp; omega)).trans ((Below.heap_alloc _ _ _ (Boxed_lt X9_8.out)).trans X9_8.out))
  have X10_9 := Lib.hid ((hb10.block w9.heap.size (by simp)).trans (heap_alloc_new w9 _))
  clear hb10
  clear j90 j91 j92 j93 j94 j95
  have z60 := cell_of_row w10 w6.heap.size 0 _ _ _ X10_6.out
  have z61 := cell_of_row w10 w6.heap.size 1 _ _ _ X10_6.out
  have zl6 := Boxed_lt X10_6.out
  have z70 := cell_of_row w10 w7.heap.size 0 _ _ _ X10_7.out
  have z71 := cell_of_row w10 w7.heap.size 1 _ _ _ X10_7.out
  have zl7 := Boxed_lt X10_7.out
  have z80 := cell_of_row w10 w8.heap.size 0 _ _ _ X10_8.out
  have z81 := cell_of_row w10 w8.heap.size 1 _ _ _ X10_8.out
  have zl8 := Boxed_lt X10_8.out
  have z90 := cell_of_row w10 w9.heap.size 0 _ _ _ X10_9.out
  have z91 := cell_of_row w10 w9.heap.size 1 _ _ _ X10_9.out
  have zl9 := Boxed_lt X10_9.out
  simp only [List.getElem?_toArray, List.getElem?_cons_zero, List.getElem?_cons_succ] at z60 z61 z70 z71 z80 z81 z90 z91
  go_wp2_with fail
  all_goals
    refine (HIN.out _).mono ?_
    rintro e w11 ⟨rfl, hb11⟩
    have HB11 := Lib.hid (bT (bA (bT HB1.out HBB10.out) _) hb11)
    have y6 := (hb11.block w6.heap.size (by simp; omega)).trans ((Below.heap_alloc _ _ _ zl6).trans X10_6.out)
    have y7 := (hb11.block w7.heap.size (by simp; omega)).trans ((Below.heap_alloc _ _ _ zl7).trans X10_7.out)
    have y8 := (hb11.block w8.heap.size (by simp; omega)).trans ((Below.heap_alloc _ _ _ zl8).trans X10_8.out)
    have y9 := (hb11.block w9.heap.size (by simp; omega)).trans ((Below.heap_alloc _ _ _ zl9).trans X10_9.out)
    have y10 := (hb11.block w10.heap.size (by simp)).trans (heap_alloc_new w10 _)
    have v60 := cell_of_row w11 w6.heap.size 0 _ _ _ y6
    have v61 := cell_of_row w11 w6.heap.size 1 _ _ _ y6
    have v70 := cell_of_row w11 w7.heap.size 0 _ _ _ y7
    have v71 := cell_of_row w11 w7.heap.size 1 _ _ _ y7
    have v80 := cell_of_row w11 w8.heap.size 0 _ _ _ y8
    have v81 := cell_of_row w11 w8.heap.size 1 _ _ _ y8
    have v90 := cell_of_row w11 w9.heap.size 0 _ _ _ y9
    have v91 := cell_of_row w11 w9.heap.size 1 _ _ _ y9
    have v100 := cell_of_row w11 w10.heap.size 0 _ _ _ y10
    have v101 := cell_of_row w11 w10.heap.size 1 _ _ _ y10
    simp only [List.getElem?_toArray, List.getElem?_cons_zero, List.getElem?_cons_succ] at v60 v61 v70 v71 v80 v81 v90 v91 v100 v101
    clear hb11 y6 y7 y8 y9 y10 z60 z61 z70 z71 z80 z81 z90 z91
    go_wp2_with fail
    refine (works_ex _).mono ?_
    rintro e w12 ⟨rfl, hb12⟩
    have HB12 := Lib.hid (bT HB11.out hb12)
    clear hb12
    go_wp2_with fail
    go_ret
    exact ⟨rfl, HB12.out⟩

/-- LevelsThree answers true, whatever the town and the wells -/
theorem three_law (T : Town) (p q : Option Addr) (c d : Nat) (a b t y : Int) (w : World) (ht : TownIn w w.heap.size T p q) :
    Calls Try.prog 12 #[.agg #[.int .i64 T.W, .slice p T.s.length c, .slice q T.r.length d], .agg #[.int .i64 a, .int .i64 b, .int .i64 t, .int .i64 y]] w fun e w' => e = .returned (.bool true) ∧ Below w.heap.size w w' := by
  cases hs : (rdy T && (within a 0 (T.W - 1) && (within b 0 (T.W - 1) && within t 0 (T.W - 1)))) with
  | false => exact three_skip T p q c d a b t y w ht hs
  | true =>
    simp only [Bool.and_eq_true] at hs
    obtain ⟨hr, h1, h2, h3⟩ := hs
    obtain ⟨a, rfl, ha⟩ := within_of h1
    obtain ⟨b, rfl, hb⟩ := within_of h2
    obtain ⟨t, rfl, hc⟩ := within_of h3
    cases hk : kn T with
    | none => exact three_none T p q c d a b t y w ht hr ha hb hc hk
    | some M => exact three_some T M p q c d a b t y w ht hr ha hb hc hk
end Go.Proofs.Ytmfbfcknnjbabaa
