/- LevelsEnds where nothing is asked. Made by gen_l3.py. -/
import Derived.Test.YtmfbfcknnjbabaaL2
set_option linter.unusedSimpArgs false
set_option linter.unusedVariables false
namespace Go.Proofs.Ytmfbfcknnjbabaa
open Go.RowKit

set_option maxRecDepth 100000 in
set_option maxHeartbeats 4000000 in
theorem ends_skip (T : Town) (p q : Option Addr) (c d : Nat) (a b t y : Int) (w : World) (ht : TownIn w w.heap.size T p q)
    (hs : (rdy T && (within a 0 (T.W - 1) && (within b 0 (T.W - 1) && decide (T.s.length + T.r.length ≤ 7)))) = false) :
    Calls Try.prog 10 #[.agg #[.int .i64 T.W, .slice p T.s.length c, .slice q T.r.length d], .agg #[.int .i64 a, .int .i64 b, .int .i64 t, .int .i64 y]] w fun e w' => e = .returned (.bool true) ∧ Below w.heap.size w w' := by
  obtain ⟨w1, hw1, hb1, hz1, k0, k1, k2, k3, k4, k5, k6⟩ := box_ask w T.W p q T.s.length T.r.length c d a b t y
  have l0 : w.heap.size < w1.heap.size := by omega
  have l1 : w.heap.size + 1 < w1.heap.size := by omega
  have HBB1 := Lib.hid (Below.refl w1.heap.size w1)
  have HB1 := Lib.hid hb1
  have hrdy := ready_any T p q c d w1 (ht.bel hb1)
  cases hr : rdy T with
  | false =>
    rw [hr] at hrdy
    have HR := Lib.hid hrdy
    clear hrdy hr hs ht hb1
    go_enter Try.func10, Try.ntmps10
    go_wp2_with fail
    refine (HR.out).mono ?_
    rintro e w2 ⟨rfl, hb2⟩
    have HBB2 := Lib.hid (bT HBB1.out hb2)
    clear hb2
    have c20 := (HBB2.out.cell (p := ⟨w.heap.size, 0, none⟩) l0).trans k0
    have c21 := (HBB2.out.cell (p := ⟨w.heap.size, 1, none⟩) l0).trans k1
    have c22 := (HBB2.out.cell (p := ⟨w.heap.size, 2, none⟩) l0).trans k2
    have c23 := (HBB2.out.cell (p := ⟨w.heap.size + 1, 0, none⟩) l1).trans k3
    have c24 := (HBB2.out.cell (p := ⟨w.heap.size + 1, 1, none⟩) l1).trans k4
    go_wp2_with fail
    refine (works_ex _).mono ?_
    rintro e w9 ⟨rfl, hb9⟩
    have HB9 := Lib.hid (bT HB1.out (bT (by repeat (first | exact HBB2.out | refine bA ?_ _)) hb9))
    clear hb9
    go_wp2_with fail
    go_ret
    exact ⟨rfl, HB9.out⟩
  | true =>
    obtain ⟨hok, hW5, hm8⟩ := rdy_ok hr
    have hW := ok_W hok
    rw [hr] at hrdy
    rw [hr, Bool.true_and] at hs
    have HR := Lib.hid hrdy
    have hia : ∀ x, within a 0 (T.W - 1) = x → ∀ V, Calls Try.prog 48 #[.agg #[.int .i64 T.W, .slice p T.s.length c, .slice q T.r.length d], .int .i64 a] V fun e w' => e = .returned (.bool x) ∧ Below V.heap.size V w' := fun x hx V => isWell_b T.W a _ _ x V (by omega) (by omega) hx
    have hib : ∀ x, within b 0 (T.W - 1) = x → ∀ V, Calls Try.prog 48 #[.agg #[.int .i64 T.W, .slice p T.s.length c, .slice q T.r.length d], .int .i64 b] V fun e w' => e = .returned (.bool x) ∧ Below V.heap.size V w' := fun x hx V => isWell_b T.W b _ _ x V (by omega) (by omega) hx
    have hmy : ∀ V, Calls Try.prog 50 #[.agg #[.int .i64 T.W, .slice p T.s.length c, .slice q T.r.length d]] V fun e w' => e = .returned (.int .i64 ((T.s.length : Int) + T.r.length)) ∧ Below V.heap.size V w' := fun V => many_ex T.W p q T.s.length T.r.length c d V (by omega) (by omega)
    clear hrdy hr ht hb1
    cases ha : within a 0 (T.W - 1) with
    | false =>
      have HA := Lib.hid (hia false ha)
      clear hia hib hmy hs ha
      go_enter Try.func10, Try.ntmps10
      go_wp2_with fail
      refine (HR.out).mono ?_
      rintro e w2 ⟨rfl, hb2⟩
      have HBB2 := Lib.hid (bT HBB1.out hb2)
      clear hb2
      have c20 := (HBB2.out.cell (p := ⟨w.heap.size, 0, none⟩) l0).trans k0
      have c21 := (HBB2.out.cell (p := ⟨w.heap.size, 1, none⟩) l0).trans k1
      have c22 := (HBB2.out.cell (p := ⟨w.heap.size, 2, none⟩) l0).trans k2
      have c23 := (HBB2.out.cell (p := ⟨w.heap.size + 1, 0, none⟩) l1).trans k3
      have c24 := (HBB2.out.cell (p := ⟨w.heap.size + 1, 1, none⟩) l1).trans k4
      go_wp2_with fail
      refine (HA.out _).mono ?_
      rintro e w3 ⟨rfl, hb3⟩
      have HBB3 := Lib.hid (bT HBB2.out hb3)
      clear hb3
      have c30 := (HBB3.out.cell (p := ⟨w.heap.size, 0, none⟩) l0).trans k0
      have c31 := (HBB3.out.cell (p := ⟨w.heap.size, 1, none⟩) l0).trans k1
      have c32 := (HBB3.out.cell (p := ⟨w.heap.size, 2, none⟩) l0).trans k2
      have c33 := (HBB3.out.cell (p := ⟨w.heap.size + 1, 0, none⟩) l1).trans k3
      have c34 := (HBB3.out.cell (p := ⟨w.heap.size + 1, 1, none⟩) l1).trans k4
      clear c20 c21 c22 c23 c24
      go_wp2_with fail
      refine (works_ex _).mono ?_
      rintro e w9 ⟨rfl, hb9⟩
      have HB9 := Lib.hid (bT HB1.out (bT (by repeat (first | exact HBB3.out | refine bA ?_ _)) hb9))
      clear hb9
      go_wp2_with fail
      go_ret
      exact ⟨rfl, HB9.out⟩
    | true =>
      rw [ha, Bool.true_and] at hs
      have HA := Lib.hid (hia true ha)
      cases hb : within b 0 (T.W - 1) with
      | false =>
        have HB := Lib.hid (hib false hb)
        clear hia hib hmy hs ha hb
        go_enter Try.func10, Try.ntmps10
        go_wp2_with fail
        refine (HR.out).mono ?_
        rintro e w2 ⟨rfl, hb2⟩
        have HBB2 := Lib.hid (bT HBB1.out hb2)
        clear hb2
        have c20 := (HBB2.out.cell (p := ⟨w.heap.size, 0, none⟩) l0).trans k0
        have c21 := (HBB2.out.cell (p := ⟨w.heap.size, 1, none⟩) l0).trans k1
        have c22 := (HBB2.out.cell (p := ⟨w.heap.size, 2, none⟩) l0).trans k2
        have c23 := (HBB2.out.cell (p := ⟨w.heap.size + 1, 0, none⟩) l1).trans k3
        have c24 := (HBB2.out.cell (p := ⟨w.heap.size + 1, 1, none⟩) l1).trans k4
        go_wp2_with fail
        refine (HA.out _).mono ?_
        rintro e w3 ⟨rfl, hb3⟩
        have HBB3 := Lib.hid (bT HBB2.out hb3)
        clear hb3
        have c30 := (HBB3.out.cell (p := ⟨w.heap.size, 0, none⟩) l0).trans k0
        have c31 := (HBB3.out.cell (p := ⟨w.heap.size, 1, none⟩) l0).trans k1
        have c32 := (HBB3.out.cell (p := ⟨w.heap.size, 2, none⟩) l0).trans k2
        have c33 := (HBB3.out.cell (p := ⟨w.heap.size + 1, 0, none⟩) l1).trans k3
        have c34 := (HBB3.out.cell (p := ⟨w.heap.size + 1, 1, none⟩) l1).trans k4
        clear c20 c21 c22 c23 c24
        go_wp2_with fail
        refine (HB.out _).mono ?_
        rintro e w4 ⟨rfl, hb4⟩
        have HBB4 := Lib.hid (bT HBB3.out hb4)
        clear hb4
        have c40 := (HBB4.out.cell (p := ⟨w.heap.size, 0, none⟩) l0).trans k0
        have c41 := (HBB4.out.cell (p := ⟨w.heap.size, 1, none⟩) l0).trans k1
        have c42 := (HBB4.out.cell (p := ⟨w.heap.size, 2, none⟩) l0).trans k2
        have c43 := (HBB4.out.cell (p := ⟨w.heap.size + 1, 0, none⟩) l1).trans k3
        have c44 := (HBB4.out.cell (p := ⟨w.heap.size + 1, 1, none⟩) l1).trans k4
        clear c30 c31 c32 c33 c34
        go_wp2_with fail
        refine (works_ex _).mono ?_
        rintro e w9 ⟨rfl, hb9⟩
        have HB9 := Lib.hid (bT HB1.out (bT (by repeat (first | exact HBB4.out | refine bA ?_ _)) hb9))
        clear hb9
        go_wp2_with fail
        go_ret
        exact ⟨rfl, HB9.out⟩
      | true =>
        rw [hb, Bool.true_and] at hs
        have HB := Lib.hid (hib true hb)
        have HM := Lib.hid hmy
        have d1 : decide ((7 : Int) < (T.s.length : Int) + (T.r.length : Int)) = true := decide_eq_true (by have := of_decide_eq_false hs; omega)
        clear hia hib hmy hs ha hb
        go_enter Try.func10, Try.ntmps10
        go_wp2_with fail
        refine (HR.out).mono ?_
        rintro e w2 ⟨rfl, hb2⟩
        have HBB2 := Lib.hid (bT HBB1.out hb2)
        clear hb2
        have c20 := (HBB2.out.cell (p := ⟨w.heap.size, 0, none⟩) l0).trans k0
        have c21 := (HBB2.out.cell (p := ⟨w.heap.size, 1, none⟩) l0).trans k1
        have c22 := (HBB2.out.cell (p := ⟨w.heap.size, 2, none⟩) l0).trans k2
        have c23 := (HBB2.out.cell (p := ⟨w.heap.size + 1, 0, none⟩) l1).trans k3
        have c24 := (HBB2.out.cell (p := ⟨w.heap.size + 1, 1, none⟩) l1).trans k4
        go_wp2_with fail
        refine (HA.out _).mono ?_
        rintro e w3 ⟨rfl, hb3⟩
        have HBB3 := Lib.hid (bT HBB2.out hb3)
        clear hb3
        have c30 := (HBB3.out.cell (p := ⟨w.heap.size, 0, none⟩) l0).trans k0
        have c31 := (HBB3.out.cell (p := ⟨w.heap.size, 1, none⟩) l0).trans k1
        have c32 := (HBB3.out.cell (p := ⟨w.heap.size, 2, none⟩) l0).trans k2
        have c33 := (HBB3.out.cell (p := ⟨w.heap.size + 1, 0, none⟩) l1).trans k3
        have c34 := (HBB3.out.cell (p := ⟨w.heap.size + 1, 1, none⟩) l1).trans k4
        clear c20 c21 c22 c23 c24
        go_wp2_with fail
        refine (HB.out _).mono ?_
        rintro e w4 ⟨rfl, hb4⟩
        have HBB4 := Lib.hid (bT HBB3.out hb4)
        clear hb4
        have c40 := (HBB4.out.cell (p := ⟨w.heap.size, 0, none⟩) l0).trans k0
        have c41 := (HBB4.out.cell (p := ⟨w.heap.size, 1, none⟩) l0).trans k1
        have c42 := (HBB4.out.cell (p := ⟨w.heap.size, 2, none⟩) l0).trans k2
        have c43 := (HBB4.out.cell (p := ⟨w.heap.size + 1, 0, none⟩) l1).trans k3
        have c44 := (HBB4.out.cell (p := ⟨w.heap.size + 1, 1, none⟩) l1).trans k4
        clear c30 c31 c32 c33 c34
        go_wp2_with fail
        refine (HM.out _).mono ?_
        rintro e w5 ⟨rfl, hb5⟩
        have HBB5 := Lib.hid (bT HBB4.out hb5)
        clear hb5
        have c50 := (HBB5.out.cell (p := ⟨w.heap.size, 0, none⟩) l0).trans k0
        have c51 := (HBB5.out.cell (p := ⟨w.heap.size, 1, none⟩) l0).trans k1
        have c52 := (HBB5.out.cell (p := ⟨w.heap.size, 2, none⟩) l0).trans k2
        have c53 := (HBB5.out.cell (p := ⟨w.heap.size + 1, 0, none⟩) l1).trans k3
        have c54 := (HBB5.out.cell (p := ⟨w.heap.size + 1, 1, none⟩) l1).trans k4
        clear c40 c41 c42 c43 c44
        go_wp2_with fail
        refine (works_ex _).mono ?_
        rintro e w9 ⟨rfl, hb9⟩
        have HB9 := Lib.hid (bT HB1.out (bT (by repeat (first | exact HBB5.out | refine bA ?_ _)) hb9))
        clear hb9
        go_wp2_with fail
        go_ret
        exact ⟨rfl, HB9.out⟩

set_option maxRecDepth 100000 in
set_option maxHeartbeats 4000000 in
theorem ends_no (T : Town) (p q : Option Addr) (c d : Nat) (u v : Nat) (t y : Int) (w : World) (ht : TownIn w w.heap.size T p q)
    (hr : rdy T = true) (hu : (u : Int) < T.W) (hv : (v : Int) < T.W) (h7 : T.s.length + T.r.length ≤ 7) (hk : kn T = none) :
    Calls Try.prog 10 #[.agg #[.int .i64 T.W, .slice p T.s.length c, .slice q T.r.length d], .agg #[.int .i64 u, .int .i64 v, .int .i64 t, .int .i64 y]] w fun e w' => e = .returned (.bool true) ∧ Below w.heap.size w w' := by
  obtain ⟨a, ea⟩ : ∃ a : Int, a = u := ⟨_, rfl⟩
  obtain ⟨b, eb⟩ : ∃ b : Int, b = v := ⟨_, rfl⟩
  rw [← ea, ← eb]
  obtain ⟨w1, hw1, hb1, hz1, k0, k1, k2, k3, k4, k5, k6⟩ := box_ask w T.W p q T.s.length T.r.length c d a b t y
  have l0 : w.heap.size < w1.heap.size := by omega
  have l1 : w.heap.size + 1 < w1.heap.size := by omega
  have HBB1 := Lib.hid (Below.refl w1.heap.size w1)
  have HB1 := Lib.hid hb1
  have hrdy := ready_any T p q c d w1 (ht.bel hb1)
  obtain ⟨hok, hW5, _⟩ := rdy_ok hr
  have hW := ok_W hok
  rw [hr] at hrdy
  have HR := Lib.hid hrdy
  have hia : ∀ V, Calls Try.prog 48 #[.agg #[.int .i64 T.W, .slice p T.s.length c, .slice q T.r.length d], .int .i64 a] V fun e w' => e = .returned (.bool true) ∧ Below V.heap.size V w' := fun V => isWell_b T.W a _ _ true V (by omega) (by omega) (by simp only [within, decide_eq_true_eq]; omega)
  have hib : ∀ V, Calls Try.prog 48 #[.agg #[.int .i64 T.W, .slice p T.s.length c, .slice q T.r.length d], .int .i64 b] V fun e w' => e = .returned (.bool true) ∧ Below V.heap.size V w' := fun V => isWell_b T.W b _ _ true V (by omega) (by omega) (by simp only [within, decide_eq_true_eq]; omega)
  have hmy : ∀ V, Calls Try.prog 50 #[.agg #[.int .i64 T.W, .slice p T.s.length c, .slice q T.r.length d]] V fun e w' => e = .returned (.int .i64 ((T.s.length : Int) + T.r.length)) ∧ Below V.heap.size V w' := fun V => many_ex T.W p q T.s.length T.r.length c d V (by omega) (by omega)
  have HA := Lib.hid hia; have HB := Lib.hid hib; have HM := Lib.hid hmy
  have d1 : decide ((7 : Int) < (T.s.length : Int) + (T.r.length : Int)) = false := decide_eq_false (by omega)
  have hdf : ∀ V, Below w.heap.size w V → Calls Try.prog 33 #[.agg #[.int .i64 T.W, .slice p T.s.length c, .slice q T.r.length d], .int .i64 a, .int .i64 b] V fun e w' => e = .returned (.tuple #[.agg #[.int .i64 0, .int .i64 0], .int .i64 3]) ∧ Below V.heap.size V w' := fun V hV => by rw [ea, eb]; exact differ_no T u v p q c d V hok hk hu hv (ht.bel hV)
  have HD := Lib.hid hdf
  clear hia hib hmy hrdy hr ht hb1 hdf hok hk hu hv ea eb h7
  go_enter Try.func10, Try.ntmps10
  go_wp2_with fail
  refine (HR.out).mono ?_
  rintro e w2 ⟨rfl, hb2⟩
  have HBB2 := Lib.hid (bT HBB1.out hb2)
  clear hb2
  have c20 := (HBB2.out.cell (p := ⟨w.heap.size, 0, none⟩) l0).trans k0
  have c21 := (HBB2.out.cell (p := ⟨w.heap.size, 1, none⟩) l0).trans k1
  have c22 := (HBB2.out.cell (p := ⟨w.heap.size, 2, none⟩) l0).trans k2
  have c23 := (HBB2.out.cell (p := ⟨w.heap.size + 1, 0, none⟩) l1).trans k3
  have c24 := (HBB2.out.cell (p := ⟨w.heap.size + 1, 1, none⟩) l1).trans k4
  go_wp2_with fail
  refine (HA.out _).mono ?_
  rintro e w3 ⟨rfl, hb3⟩
  have HBB3 := Lib.hid (bT HBB2.out hb3)
  clear hb3
  have c30 := (HBB3.out.cell (p := ⟨w.heap.size, 0, none⟩) l0).trans k0
  have c31 := (HBB3.out.cell (p := ⟨w.heap.size, 1, none⟩) l0).trans k1
  have c32 := (HBB3.out.cell (p := ⟨w.heap.size, 2, none⟩) l0).trans k2
  have c33 := (HBB3.out.cell (p := ⟨w.heap.size + 1, 0, none⟩) l1).trans k3
  have c34 := (HBB3.out.cell (p := ⟨w.heap.size + 1, 1, none⟩) l1).trans k4
  clear c20 c21 c22 c23 c24
  go_wp2_with fail
  refine (HB.out _).mono ?_
  rintro e w4 ⟨rfl, hb4⟩
  have HBB4 := Lib.hid (bT HBB3.out hb4)
  clear hb4
  have c40 := (HBB4.out.cell (p := ⟨w.heap.size, 0, none⟩) l0).trans k0
  have c41 := (HBB4.out.cell (p := ⟨w.heap.size, 1, none⟩) l0).trans k1
  have c42 := (HBB4.out.cell (p := ⟨w.heap.size, 2, none⟩) l0).trans k2
  have c43 := (HBB4.out.cell (p := ⟨w.heap.size + 1, 0, none⟩) l1).trans k3
  have c44 := (HBB4.out.cell (p := ⟨w.heap.size + 1, 1, none⟩) l1).trans k4
  clear c30 c31 c32 c33 c34
  go_wp2_with fail
  refine (HM.out _).mono ?_
  rintro e w5 ⟨rfl, hb5⟩
  have HBB5 := Lib.hid (bT HBB4.out hb5)
  clear hb5
  have c50 := (HBB5.out.cell (p := ⟨w.heap.size, 0, none⟩) l0).trans k0
  have c51 := (HBB5.out.cell (p := ⟨w.heap.size, 1, none⟩) l0).trans k1
  have c52 := (HBB5.out.cell (p := ⟨w.heap.size, 2, none⟩) l0).trans k2
  have c53 := (HBB5.out.cell (p := ⟨w.heap.size + 1, 0, none⟩) l1).trans k3
  have c54 := (HBB5.out.cell (p := ⟨w.heap.size + 1, 1, none⟩) l1).trans k4
  clear c40 c41 c42 c43 c44
  go_wp2_with fail
  refine (HD.out _ (bT HB1.out HBB5.out)).mono ?_
  rintro e w6 ⟨rfl, hb6⟩
  have HBB6 := Lib.hid (bT HBB5.out hb6)
  clear hb6
  have c60 := (HBB6.out.cell (p := ⟨w.heap.size, 0, none⟩) l0).trans k0
  have c61 := (HBB6.out.cell (p := ⟨w.heap.size, 1, none⟩) l0).trans k1
  have c62 := (HBB6.out.cell (p := ⟨w.heap.size, 2, none⟩) l0).trans k2
  have c63 := (HBB6.out.cell (p := ⟨w.heap.size + 1, 0, none⟩) l1).trans k3
  have c64 := (HBB6.out.cell (p := ⟨w.heap.size + 1, 1, none⟩) l1).trans k4
  clear c50 c51 c52 c53 c54
  go_wp2_with fail
  refine (works_ex _).mono ?_
  rintro e w9 ⟨rfl, hb9⟩
  have HB9 := Lib.hid (bT HB1.out (bT (by repeat (first | exact HBB6.out | refine bA ?_ _)) hb9))
  clear hb9
  go_wp2_with fail
  go_ret
  exact ⟨rfl, HB9.out⟩
end Go.Proofs.Ytmfbfcknnjbabaa
