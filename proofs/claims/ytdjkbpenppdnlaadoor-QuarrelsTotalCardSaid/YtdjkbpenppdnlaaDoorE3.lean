/- Towns with worlds: areWells, canBeSeen, valid and Check of the program. -/
import Derived.Test.YtdjkbpenppdnlaaDoorE2

set_option linter.unusedSimpArgs false

set_option linter.unusedVariables false

namespace Go.Proofs.YtdjkbpenppdnlaaDoor

open Go.RowKit

theorem well1_any (T : Tn) (k : Int) (g : Nat) (W : World) (hc : W.cell? ⟨g, 0, none⟩ = some (.int .i64 T.wn)) :
    Calls Tryd.prog 115 (#[.int .i64 k] ++ #[.pointer (some ⟨g, 0, none⟩)]) W fun e W' => e = .returned (.bool (T.well k)) ∧ Below W.heap.size W W' := by
  show Calls Tryd.prog 115 #[.int .i64 k, .pointer (some ⟨g, 0, none⟩)] W _
  by_cases h : 0 ≤ k
  · have j : decide (0 ≤ k) = true := by simpa using h
    have HR := Lib.hid (show decide (k < T.wn) = T.well k by unfold Tn.well within; exact decide_eq_decide.2 (by omega))
    go_enter Tryd.func115, Tryd.ntmps115
    go_wp2
    go_ret
    exact ⟨ret_b HR.out, Below.refl _ _⟩
  · have j : decide (0 ≤ k) = false := by simpa using h
    have HR := Lib.hid (show false = T.well k by unfold Tn.well; exact (within_lo (by omega)).symm)
    go_enter Tryd.func115, Tryd.ntmps115
    go_wp2
    go_ret
    exact ⟨ret_b HR.out, Below.refl _ _⟩
theorem areWells_any (T : Tn) (A : Adr) (n c : Nat) (f : Nat → Int) (p : Option Addr) (w : World) (hn : n ≤ maxLen) (h : At w w.heap.size p n 1 (fun k => .int .i64 (f k))) :
    Calls Tryd.prog 79 #[A.val T, .slice p n c] w fun e w' => e = .returned (.bool (allN (fun k => T.well (f k)) n)) ∧ Below w.heap.size w w' := by
  obtain ⟨w1, x, hw1, hb1, hz1, F0, F1, F2, _⟩ := box_tn w T.wn A.wp A.fp T.nw A.wc T.nf A.fc
  have HB := Lib.hid hb1
  have HC := Lib.hid (isEachI_any n c f (fun k => T.well (f k)) p 115 #[.pointer (some ⟨w.heap.size, 0, none⟩)] x.v hn (h.bel (bT hb1 x.b)) en5 (fun V hV k _ => well1_any T _ _ V (F0 ⟨V, bT x.b hV⟩)))
  clear hb1 hz1 h F0 F1 F2
  unfold Adr.val
  go_enter Tryd.func79, Tryd.ntmps79
  go_wp2_with fail
  refine (HC.out).mono ?_
  rintro e w3 ⟨rfl, hb3⟩
  have HB3 := Lib.hid (bT HB.out (bT x.b hb3)); clear hb3
  go_wp2
  go_ret
  exact ⟨rfl, HB3.out⟩
theorem two_at (W : World) (a b : Int) (t : TypeId) : At (W.alloc (Obj.cells #[.int .i64 a, .int .i64 b] t)) (W.alloc (Obj.cells #[.int .i64 a, .int .i64 b] t)).heap.size (some ⟨W.heap.size, 0, none⟩) 2 1 (fun k => .int .i64 (if k = 0 then a else b)) := fun _ => by
  refine ⟨_, _, rfl, by simp, fun k hk => ?_⟩
  rcases (show k = 0 ∨ k = 1 by omega) with rfl | rfl
  · go_simp
  · go_simp
set_option maxRecDepth 100000 in
set_option maxHeartbeats 2000000 in
theorem canBeSeen_any (T : Tn) (A : Adr) (k : Nat) (w : World) :
    Calls Tryd.prog 107 #[A.val T, .agg #[.int .i64 (T.ff k), .int .i64 (T.fm k), .int .i64 (T.ft k), .int .i64 (T.fl k), .int .i64 (T.fh k)]] w fun e w' => e = .returned (.bool (T.factOk k)) ∧ Below w.heap.size w w' := by
  obtain ⟨w1, x1, hw1, hb1, hz1, F0, F1, F2, _⟩ := box_tn w T.wn A.wp A.fp T.nw A.wc T.nf A.fc
  obtain ⟨w2, x, hw2, hb2, hz2, G0, G1, G2, G3, G4, _⟩ := box_ft x1.v (T.ff k) (T.fm k) (T.ft k) (T.fl k) (T.fh k)
  have hb12 := bT hb1 (bT x1.b hb2)
  obtain ⟨w3, hw3⟩ : ∃ w3, x.v.alloc (Obj.cells #[.int .i64 (T.ff k), .int .i64 (T.ft k)] 3) = w3 := ⟨_, rfl⟩
  have hA : At w3 w3.heap.size (some ⟨x.v.heap.size, 0, none⟩) 2 1 (fun i => .int .i64 (if i = 0 then T.ff k else T.ft k)) := by rw [← hw3]; exact two_at _ _ _ _
  have hb3 : Below w2.heap.size w2 w3 := by rw [← hw3]; exact bA x.b _
  have HB := Lib.hid (bT hb12 hb3)
  have HE : allN (fun i => T.well (if i = 0 then T.ff k else T.ft k)) 2 = (T.well (T.ff k) && T.well (T.ft k)) := by simp [allN]
  have HC := areWells_any T A 2 2 (fun i => if i = 0 then T.ff k else T.ft k) (some ⟨x.v.heap.size, 0, none⟩) w3 (by decide) hA
  rw [HE] at HC
  replace HC := Lib.hid HC
  replace F0 : ∀ y : Ext w2, y.v.cell? ⟨w.heap.size, 0, none⟩ = some (.int .i64 T.wn) := fun y => F0 (y.up (bT x1.b hb2))
  replace F1 : ∀ y : Ext w2, y.v.cell? ⟨w.heap.size, 1, none⟩ = some (.slice A.wp T.nw A.wc) := fun y => F1 (y.up (bT x1.b hb2))
  replace F2 : ∀ y : Ext w2, y.v.cell? ⟨w.heap.size, 2, none⟩ = some (.slice A.fp T.nf A.fc) := fun y => F2 (y.up (bT x1.b hb2))
  have H3 := Lib.hid hb3
  clear hb1 hz1 hb2 hz2 hb12 hb3 hA HE
  unfold Adr.val at *
  cases hw : (T.well (T.ff k) && T.well (T.ft k)) with
  | false =>
    have HR := Lib.hid (show false = T.factOk k by unfold Tn.factOk; rw [← Bool.and_assoc, hw]; rfl)
    rw [hw] at HC
    clear hw
    go_enter Tryd.func107, Tryd.ntmps107
    go_wp2_with fail
    refine (HC.out).mono ?_
    rintro e w4 ⟨rfl, hb4⟩
    have HB4 := Lib.hid (bT HB.out hb4); clear hb4
    go_wp2
    go_ret
    exact ⟨ret_b HR.out, HB4.out⟩
  | true =>
    rw [hw] at HC
    cases hm : within (T.fm k) 1 9 with
    | false =>
      have HR := Lib.hid (show false = T.factOk k by unfold Tn.factOk; rw [← Bool.and_assoc, hw, hm]; rfl)
      have HM := Lib.hid hm; clear hw hm
      go_enter Tryd.func107, Tryd.ntmps107
      go_wp2_with fail
      refine (HC.out).mono ?_
      rintro e w4 ⟨rfl, hb4⟩
      obtain ⟨z, rfl⟩ : ∃ z : Ext w2, w4 = z.v := ⟨⟨w4, bT H3.out hb4⟩, rfl⟩
      have HB4 := Lib.hid (bT HB.out hb4); clear hb4
      go_wp2_with (go_at_call 99; refine (isFrom_is HM.out _).mono ?_; rintro e w' ⟨rfl, rfl⟩)
      go_ret
      exact ⟨ret_b HR.out, HB4.out⟩
    | true =>
      have HM := Lib.hid hm
      have HR1 : T.factOk k = (within (T.fh k) 0 99 && within (T.fl k) 0 (T.fh k)) := by unfold Tn.factOk; rw [← Bool.and_assoc, hw, hm]; rfl
      clear hw hm
      cases hl : within (T.fl k) 0 (T.fh k) with
      | false =>
        have HR := Lib.hid (show false = T.factOk k by rw [HR1, hl]; simp)
        have HL := Lib.hid hl; clear hl HR1
        go_enter Tryd.func107, Tryd.ntmps107
        go_wp2_with fail
        refine (HC.out).mono ?_
        rintro e w4 ⟨rfl, hb4⟩
        obtain ⟨z, rfl⟩ : ∃ z : Ext w2, w4 = z.v := ⟨⟨w4, bT H3.out hb4⟩, rfl⟩
        have HB4 := Lib.hid (bT HB.out hb4); clear hb4
        go_wp2_with fail
        refine (isFrom_is HM.out _).mono ?_
        rintro e w5 ⟨rfl, rfl⟩
        go_wp2_with fail
        refine (isFrom_is HL.out _).mono ?_
        rintro e w5 ⟨rfl, rfl⟩
        go_wp2
        go_ret
        exact ⟨ret_b HR.out, HB4.out⟩
      | true =>
        have HR := Lib.hid (show decide (T.fh k ≤ 99) = T.factOk k by
          rw [HR1, hl]
          have := within_iff.1 hl
          unfold within
          rw [Bool.and_true]
          exact decide_eq_decide.2 (by omega))
        have HL := Lib.hid hl; clear hl HR1
        go_enter Tryd.func107, Tryd.ntmps107
        go_wp2_with fail
        refine (HC.out).mono ?_
        rintro e w4 ⟨rfl, hb4⟩
        obtain ⟨z, rfl⟩ : ∃ z : Ext w2, w4 = z.v := ⟨⟨w4, bT H3.out hb4⟩, rfl⟩
        have HB4 := Lib.hid (bT HB.out hb4); clear hb4
        go_wp2_with fail
        refine (isFrom_is HM.out _).mono ?_
        rintro e w5 ⟨rfl, rfl⟩
        go_wp2_with fail
        refine (isFrom_is HL.out _).mono ?_
        rintro e w5 ⟨rfl, rfl⟩
        go_wp2
        go_ret
        exact ⟨ret_b HR.out, HB4.out⟩
theorem valid3_any (T : Tn) (A : Adr) (k g : Nat) (W : World) (c0 : W.cell? ⟨g, 0, none⟩ = some (.int .i64 T.wn)) (c1 : W.cell? ⟨g, 1, none⟩ = some (.slice A.wp T.nw A.wc)) (c2 : W.cell? ⟨g, 2, none⟩ = some (.slice A.fp T.nf A.fc)) (hg : g < W.heap.size) :
    Calls Tryd.prog 106 (#[.agg #[.int .i64 (T.ff k), .int .i64 (T.fm k), .int .i64 (T.ft k), .int .i64 (T.fl k), .int .i64 (T.fh k)]] ++ #[.pointer (some ⟨g, 0, none⟩)]) W fun e W' => e = .returned (.bool (T.factOk k)) ∧ Below W.heap.size W W' := by
  show Calls Tryd.prog 106 #[.agg #[.int .i64 (T.ff k), .int .i64 (T.fm k), .int .i64 (T.ft k), .int .i64 (T.fl k), .int .i64 (T.fh k)], .pointer (some ⟨g, 0, none⟩)] W _
  obtain ⟨w1, x, hw1, hb1, hz1, G0, G1, G2, G3, G4, _⟩ := box_ft W (T.ff k) (T.fm k) (T.ft k) (T.fl k) (T.fh k)
  have hbx := bT hb1 x.b
  replace c0 := (hbx.cell (p := ⟨g, 0, none⟩) hg).trans c0
  replace c1 := (hbx.cell (p := ⟨g, 1, none⟩) hg).trans c1
  replace c2 := (hbx.cell (p := ⟨g, 2, none⟩) hg).trans c2
  replace G0 := G0 x; replace G1 := G1 x; replace G2 := G2 x; replace G3 := G3 x; replace G4 := G4 x
  have HB := Lib.hid hbx
  have HC := Lib.hid (canBeSeen_any T A k x.v)
  unfold Adr.val at HC
  clear hb1 hz1 hbx
  go_enter Tryd.func106, Tryd.ntmps106
  go_wp2_with fail
  refine (HC.out).mono ?_
  rintro e w3 ⟨rfl, hb3⟩
  have HB3 := Lib.hid (bT HB.out hb3); clear hb3
  go_wp2
  go_ret
  exact ⟨rfl, HB3.out⟩
end Go.Proofs.YtdjkbpenppdnlaaDoor
