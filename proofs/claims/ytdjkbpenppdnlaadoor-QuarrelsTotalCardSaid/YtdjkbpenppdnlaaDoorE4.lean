/- Towns with worlds: valid and Check of the program. -/
import Derived.Test.YtdjkbpenppdnlaaDoorE3

import Derived.Laws.EntriesVeiled

set_option linter.unusedSimpArgs false

set_option linter.unusedVariables false

namespace Go.Proofs.YtdjkbpenppdnlaaDoor

open Go.RowKit

theorem box_fn (w : World) (f g : Nat) :
    ∃ (w1 : World) (x : Ext w1), w.alloc (Obj.cells #[Value.func (.func f) #[] #[.pointer (some ⟨g, 0, none⟩)]] 127) = x.v ∧ Below w.heap.size w w1 ∧ w1.heap.size = w.heap.size + 1 ∧
      (∀ x : Ext w1, x.v.cell? ⟨w.heap.size, 0, none⟩ = some (Value.func (.func f) #[] #[.pointer (some ⟨g, 0, none⟩)])) ∧
      (∀ (x : Ext w1) i, x.v.frozen? ⟨w.heap.size, i, none⟩ = false) := by
  have h0 : (w.alloc (Obj.cells #[Value.func (.func f) #[] #[.pointer (some ⟨g, 0, none⟩)]] 127)).cell? ⟨w.heap.size, 0, none⟩ = some (Value.func (.func f) #[] #[.pointer (some ⟨g, 0, none⟩)]) := by go_simp
  have hf : ∀ i, (w.alloc (Obj.cells #[Value.func (.func f) #[] #[.pointer (some ⟨g, 0, none⟩)]] 127)).frozen? ⟨w.heap.size, i, none⟩ = false := fun i => by go_simp
  exact ⟨_, ⟨_, Below.refl _ _⟩, rfl, bA (Below.refl _ _) _, by simp, fun x => (x.b.cell (p := ⟨w.heap.size, 0, none⟩) (by simp)).trans h0, fun x i => (x.b.frozen (p := ⟨w.heap.size, i, none⟩) (by simp)).trans (hf i)⟩
/-- so long that it can be walked -/
structure Tn.sized (T : Tn) : Prop where
  w : T.nw ≤ 40
  f : T.nf ≤ 40
  r : ∀ k, k < T.nw → T.rl k ≤ 40
  c : ∀ k, k < T.nw → ∀ i, i < T.rl k → T.cl k i ≤ 40
theorem le_max {n : Nat} (h : n ≤ 40) : n ≤ maxLen := by unfold maxLen; omega
set_option maxRecDepth 100000 in
set_option maxHeartbeats 2000000 in
theorem valid_any (T : Tn) (A : Adr) (w : World) (hs : T.sized) (hi : TnIn w w.heap.size T A) :
    Calls Tryd.prog 68 #[A.val T] w fun e w' => e = .returned (.bool T.ok) ∧ Below w.heap.size w w' := by
  obtain ⟨w1, x, hw1, hb1, hz1, F0, F1, F2, _⟩ := box_tn w T.wn A.wp A.fp T.nw A.wc T.nf A.fc
  obtain ⟨w2, y, hw2, hb2, hz2, G0, _⟩ := box_fn x.v 100 w.heap.size
  have hbx := bT hb1 x.b
  have hby := bT hb2 y.b
  have hbz := bT hbx hby
  have hgl : w.heap.size < y.v.heap.size := by have h1 := x.b.size; have h2 := hby.size; omega
  have hql : x.v.heap.size < y.v.heap.size := by have h2 := y.b.size; omega
  have C0 : ∀ V, Below y.v.heap.size y.v V → V.cell? ⟨w.heap.size, 0, none⟩ = some (.int .i64 T.wn) := fun V hV => F0 ⟨V, bT x.b (bT hby hV)⟩
  have C1 : ∀ V, Below y.v.heap.size y.v V → V.cell? ⟨w.heap.size, 1, none⟩ = some (.slice A.wp T.nw A.wc) := fun V hV => F1 ⟨V, bT x.b (bT hby hV)⟩
  have C2 : ∀ V, Below y.v.heap.size y.v V → V.cell? ⟨w.heap.size, 2, none⟩ = some (.slice A.fp T.nf A.fc) := fun V hV => F2 ⟨V, bT x.b (bT hby hV)⟩
  have CQ : ∀ V, Below y.v.heap.size y.v V → V.cell? ⟨x.v.heap.size, 0, none⟩ = some (.func (.func 100) #[] #[.pointer (some ⟨w.heap.size, 0, none⟩)]) := fun V hV => G0 ⟨V, bT y.b hV⟩
  have HC1 := Lib.hid (isEachW_any T.nw A.wc A.rp T.rl A.rc T.worldOk A.wp 102 #[.pointer (some ⟨w.heap.size, 0, none⟩), .pointer (some ⟨x.v.heap.size, 0, none⟩)] y.v (le_max hs.w) (hi.bel hbz).ws en3
    (fun V hV k hk => valid2_any T A k w.heap.size x.v.heap.size V hk (C0 V hV) (CQ V hV) (Nat.lt_of_lt_of_le hgl hV.size) (Nat.lt_of_lt_of_le hql hV.size) (le_max (hs.r k hk)) (fun i h => le_max (hs.c k hk i h)) ((hi.bel hbz).bel hV)))
  have HC2 := Lib.hid (fun (z : Ext y.v) => isEachF_any T.nf A.fc T T.factOk A.fp 106 #[.pointer (some ⟨w.heap.size, 0, none⟩)] z.v (le_max hs.f) ((hi.bel hbz).bel z.b).fs en4
    (fun V hV k hk => valid3_any T A k w.heap.size V (C0 V (bT z.b hV)) (C1 V (bT z.b hV)) (C2 V (bT z.b hV)) (Nat.lt_of_lt_of_le hgl (bT z.b hV).size)))
  have HB := Lib.hid hbx
  have HBZ := Lib.hid hbz
  replace F0 := F0 x; have f1 := F1 x; have f2 := F2 x
  have D1 : ∀ z : Ext y.v, z.v.cell? ⟨w.heap.size, 1, none⟩ = some (.slice A.wp T.nw A.wc) := fun z => C1 z.v z.b
  have D2 : ∀ z : Ext y.v, z.v.cell? ⟨w.heap.size, 2, none⟩ = some (.slice A.fp T.nf A.fc) := fun z => C2 z.v z.b
  have DQ := C1 y.v (Below.refl _ _)
  have DQ2 := C2 y.v (Below.refl _ _)
  clear hb1 hz1 hb2 hz2 hbx hby hbz hgl hql C0 C1 C2 CQ G0 F1 F2 hi
  unfold Adr.val
  cases h1 : within T.wn 0 4 with
  | false =>
    have HR := Lib.hid (show false = T.ok by unfold Tn.ok; rw [h1]; rfl)
    have H1 := Lib.hid h1; clear h1
    go_enter Tryd.func68, Tryd.ntmps68
    go_wp2_with fail
    refine (isFrom_is H1.out _).mono ?_
    rintro e w5 ⟨rfl, rfl⟩
    go_wp2
    go_ret
    exact ⟨ret_b HR.out, HB.out⟩
  | true =>
    have H1 := Lib.hid h1
    by_cases h6 : 6 < T.nw
    · have j1 : decide (6 < (T.nw : Int)) = true := by simp; omega
      have HR := Lib.hid (show false = T.ok by unfold Tn.ok; rw [h1]; simp; intros; omega)
      clear h1
      go_enter Tryd.func68, Tryd.ntmps68
      go_wp2_with fail
      refine (isFrom_is H1.out _).mono ?_
      rintro e w5 ⟨rfl, rfl⟩
      go_wp2
      go_ret
      exact ⟨ret_b HR.out, HB.out⟩
    have j1 : decide (6 < (T.nw : Int)) = false := by simp; omega
    by_cases h7 : 6 < T.nf
    · have j2 : decide (6 < (T.nf : Int)) = true := by simp; omega
      have HR := Lib.hid (show false = T.ok by unfold Tn.ok; rw [h1]; simp; intros; omega)
      clear h1
      go_enter Tryd.func68, Tryd.ntmps68
      go_wp2_with fail
      refine (isFrom_is H1.out _).mono ?_
      rintro e w5 ⟨rfl, rfl⟩
      go_wp2
      go_ret
      exact ⟨ret_b HR.out, HB.out⟩
    have j2 : decide (6 < (T.nf : Int)) = false := by simp; omega
    have HK : T.ok = (allN T.worldOk T.nw && allN T.factOk T.nf) := by
      unfold Tn.ok
      rw [h1, show decide (T.nw ≤ 6) = true by simp; omega, show decide (T.nf ≤ 6) = true by simp; omega]; simp
    clear h1 h6 h7
    cases hw : allN T.worldOk T.nw with
    | false =>
      have HR := Lib.hid (show false = T.ok by rw [HK, hw]; rfl)
      rw [hw] at HC1
      clear hw HK
      go_enter Tryd.func68, Tryd.ntmps68
      go_wp2_with fail
      refine (isFrom_is H1.out _).mono ?_
      rintro e w5 ⟨rfl, rfl⟩
      go_wp2_with fail
      refine (HC1.out).mono ?_
      rintro e w5 ⟨rfl, hb5⟩
      have HB5 := Lib.hid (bT HBZ.out hb5); clear hb5
      go_wp2
      go_ret
      exact ⟨ret_b HR.out, HB5.out⟩
    | true =>
      have HR := Lib.hid (show allN T.factOk T.nf = T.ok by rw [HK, hw]; rfl)
      rw [hw] at HC1
      clear hw HK
      go_enter Tryd.func68, Tryd.ntmps68
      go_wp2_with fail
      refine (isFrom_is H1.out _).mono ?_
      rintro e w5 ⟨rfl, rfl⟩
      go_wp2_with fail
      refine (HC1.out).mono ?_
      rintro e w5 ⟨rfl, hb5⟩
      obtain ⟨z, rfl⟩ : ∃ z : Ext y.v, w5 = z.v := ⟨⟨w5, hb5⟩, rfl⟩
      have HB5 := Lib.hid (bT HBZ.out hb5); clear hb5
      go_wp2_with fail
      refine (HC2.out z).mono ?_
      rintro e w6 ⟨rfl, hb6⟩
      have HB6 := Lib.hid (bT HB5.out hb6); clear hb6
      go_wp2
      go_ret
      exact ⟨ret_b HR.out, HB6.out⟩
def chkE (b : Bool) : Int := if b then 0 else 50
theorem check_any (T : Tn) (A : Adr) (w : World) (hs : T.sized) (hi : TnIn w w.heap.size T A) :
    Calls Tryd.prog 18 #[A.val T] w fun e w' => e = .returned (.int .i64 (chkE T.ok)) ∧ Below w.heap.size w w' := by
  obtain ⟨w1, x, hw1, hb1, hz1, F0, F1, F2, _⟩ := box_tn w T.wn A.wp A.fp T.nw A.wc T.nf A.fc
  have HC := valid_any T A w hs hi
  have HCx := valid_any T A x.v hs (hi.bel (bT hb1 x.b))
  have HB := Lib.hid (bT hb1 x.b)
  replace F0 := F0 x; replace F1 := F1 x; replace F2 := F2 x
  clear hb1 hz1 hi hs
  unfold Adr.val at *
  cases h : T.ok with
  | true =>
    rw [h] at HC HCx
    replace HC := Lib.hid HC; replace HCx := Lib.hid HCx
    clear h
    go_enter Tryd.func18, Tryd.ntmps18
    go_wp2_with fail
    first
      | (refine (HCx.out).mono ?_
         rintro e w5 ⟨rfl, hb5⟩
         have HB5 := Lib.hid (bT HB.out hb5); clear hb5
         go_wp2
         go_ret
         exact ⟨rfl, HB5.out⟩)
      | (refine (HC.out).mono ?_
         rintro e w5 ⟨rfl, hb5⟩
         have HB5 := Lib.hid hb5; clear hb5
         go_wp2
         go_ret
         exact ⟨rfl, HB5.out⟩)
  | false =>
    rw [h] at HC HCx
    replace HC := Lib.hid HC; replace HCx := Lib.hid HCx
    clear h
    go_enter Tryd.func18, Tryd.ntmps18
    go_wp2_with fail
    first
      | (refine (HCx.out).mono ?_
         rintro e w5 ⟨rfl, hb5⟩
         have HB5 := Lib.hid (bT HB.out hb5); clear hb5
         go_wp2
         go_ret
         exact ⟨rfl, HB5.out⟩)
      | (refine (HC.out).mono ?_
         rintro e w5 ⟨rfl, hb5⟩
         have HB5 := Lib.hid hb5; clear hb5
         go_wp2
         go_ret
         exact ⟨rfl, HB5.out⟩)
end Go.Proofs.YtdjkbpenppdnlaaDoor
