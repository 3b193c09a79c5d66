/- Rosters of hours: Bound and Fair of the program. -/
import Derived.Test.YtegkgfiaegpihaaF12

import Derived.Test.YtegkgfiaegpihaaM10

set_option linter.unusedSimpArgs false

set_option linter.unusedVariables false

namespace Go.Proofs.Ytegkgfiaegpihaa

open Go.RowKit

theorem leastOf_eb {D : Ro} {p q : Option Addr} {c d : Nat} {b : Bool} (h : exB D = b) (hD : OkP D) (w : World) (hI : RoIn w w.heap.size D p q) : Calls Try.prog 76 #[.agg #[.slice p D.n c, .slice q D.m d]] w fun e w' => e = .returned (.tuple #[.int .i64 (lsC D), .bool b]) ∧ Below w.heap.size w w' := by
  subst h; exact leastOf_any D p q c d hD w hI
theorem box_i (w : World) (a : Int) :
    ∃ (w1 : World) (x : Ext w1), w.alloc (Obj.cells #[Value.int .i64 a] 3) = x.v ∧ Below w.heap.size w w1 ∧ w1.heap.size = w.heap.size + 1 ∧ (∀ V, Below w1.heap.size w1 V → V.cell? ⟨w.heap.size, 0, none⟩ = some (.int .i64 a)) := by
  have h0 : (w.alloc (Obj.cells #[Value.int .i64 a] 3)).cell? ⟨w.heap.size, 0, none⟩ = some (.int .i64 a) := by go_simp
  exact ⟨_, ⟨_, Below.refl _ _⟩, rfl, bA (Below.refl _ _) _, by simp, fun V hV => (hV.cell (p := ⟨w.heap.size, 0, none⟩) (by simp)).trans h0⟩
def bnV (D : Ro) (s : Nat) : Int := if exB D then bdV D s else 0
set_option maxRecDepth 100000 in
set_option maxHeartbeats 8000000 in
theorem boundOf_any (D : Ro) (p q : Option Addr) (c d st : Nat) (hD : OkP D) (hst : st < D.m) (w : World) (hI0 : RoIn w w.heap.size D p q) :
    Calls Try.prog 79 #[.agg #[.slice p D.n c, .slice q D.m d], .int .i64 (st : Int)] w fun e w' => e = .returned (.tuple #[.int .i64 (bnV D st), .bool (exB D)]) ∧ Below w.heap.size w w' := by
  obtain ⟨wa, xa, hw1, hba, hza, A0, A1, _⟩ := box_ro w p q D.n D.m c d
  obtain ⟨w1, x, hw2, hb2, hz2, G0⟩ := box_i xa.v (st : Int)
  have hbx : Below wa.heap.size wa w1 := bT xa.b hb2
  have HB := Lib.hid (bT hba hbx)
  have F0 : ∀ z : Ext w1, z.v.cell? ⟨w.heap.size, 0, none⟩ = some (.slice p D.n c) := fun z => A0 (z.up hbx)
  have F1 : ∀ z : Ext w1, z.v.cell? ⟨w.heap.size, 1, none⟩ = some (.slice q D.m d) := fun z => A1 (z.up hbx)
  have HI : Hid (∀ x : Ext w1, RoIn x.v x.v.heap.size D p q) := fun x => (hI0.bel HB.out).bel x.b
  have HG : Hid (∀ z : Ext w1, z.v.cell? ⟨xa.v.heap.size, 0, none⟩ = some (.int .i64 (st : Int))) := fun z => G0 z.v z.b
  have HF1 := Lib.hid F1
  have HD := Lib.hid hD
  obtain ⟨sx, hsx⟩ : ∃ n, xa.v.heap.size = n := ⟨_, rfl⟩
  rw [hsx] at HG
  have HK : Hid (∀ z : Ext w1, MayOk z.v D (keepM D st) 102 #[.pointer (some ⟨sx, 0, none⟩), .pointer (some ⟨w.heap.size, 0, none⟩)]) := fun z =>
    ⟨enters_of Try.func102 (by kernel_rfl) rfl, fun V hV s h hs hh => keep1_run D p q d w.heap.size sx st hst V (HI.out ⟨V, bT z.b hV⟩) (HF1.out ⟨V, bT z.b hV⟩) (HG.out ⟨V, bT z.b hV⟩) s h hs⟩
  have HL : Hid (∀ z : Ext w1, MayOk z.v D (loseM D st) 103 #[.pointer (some ⟨sx, 0, none⟩), .pointer (some ⟨w.heap.size, 0, none⟩)]) := fun z =>
    ⟨enters_of Try.func103 (by kernel_rfl) rfl, fun V hV s h hs hh => lose1_run D p q d w.heap.size sx st hst V (HI.out ⟨V, bT z.b hV⟩) (HF1.out ⟨V, bT z.b hV⟩) (HG.out ⟨V, bT z.b hV⟩) s h hs⟩
  have HC1 := Lib.hid (fun z : Ext w1 => canCost_any D (keepM D st) p q c d _ _ HD.out z.v (HK.out z) (HI.out z))
  have HC2 := Lib.hid (fun z : Ext w1 => canCost_any D (loseM D st) p q c d _ _ HD.out z.v (HL.out z) (HI.out z))
  have HLS := Lib.hid (fun (z : Ext w1) (b : Bool) (h : exB D = b) => leastOf_eb (c := c) (d := d) h HD.out z.v (HI.out z))
  clear hba hza hb2 hz2 hI0 hD hbx A0 A1 G0
  obtain ⟨ls, hls⟩ : ∃ b, lsC D = b := ⟨_, rfl⟩
  rw [hls] at HC1 HC2 HLS
  clear hls
  cases hx : exB D with
  | false =>
    have HX := Lib.hid hx
    have hv : bnV D st = 0 := by unfold bnV; rw [hx]; rfl
    rw [hv]
    clear hv hx
    go_enter Try.func79, Try.ntmps79
    go_wp2_with fail
    try rw [hsx]
    refine (quiet_x (HLS.out _ false HX.out)).mono ?_
    rintro e w' ⟨rfl, y1, rfl⟩
    go_wp2
    go_ret2
    exact ⟨rfl, bT HB.out y1.b⟩
  | true =>
    have HX := Lib.hid hx
    have hv : bnV D st = bdV D st := by unfold bnV; rw [hx]; rfl
    rw [hv]
    unfold bdV
    obtain ⟨k1, hk1⟩ : ∃ b, canB D (keepM D st) = b := ⟨_, rfl⟩
    obtain ⟨k2, hk2⟩ : ∃ b, canB D (loseM D st) = b := ⟨_, rfl⟩
    rw [hk1] at HC1 ⊢
    rw [hk2] at HC2 ⊢
    clear hv hx hk1 hk2
    cases k1 with
    | false =>
      simp only [if_true]
      go_enter Try.func79, Try.ntmps79
      go_wp2_with fail
      try rw [hsx]
      refine (quiet_x (HLS.out _ true HX.out)).mono ?_
      rintro e w' ⟨rfl, y1, rfl⟩
      go_wp2_with fail
      try rw [hsx]
      refine (quiet_x (HC1.out y1)).mono ?_
      rintro e w' ⟨rfl, y2, rfl⟩
      go_wp2
      go_ret2
      exact ⟨rfl, bT HB.out y2.b⟩
    | true =>
      simp only [Bool.true_eq_false, if_false]
      cases k2 with
      | false =>
        simp only [if_true]
        go_enter Try.func79, Try.ntmps79
        go_wp2_with fail
        try rw [hsx]
        refine (quiet_x (HLS.out _ true HX.out)).mono ?_
        rintro e w' ⟨rfl, y1, rfl⟩
        go_wp2_with fail
        try rw [hsx]
        refine (quiet_x (HC1.out y1)).mono ?_
        rintro e w' ⟨rfl, y2, rfl⟩
        go_wp2_with fail
        try rw [hsx]
        refine (quiet_x (HC2.out y2)).mono ?_
        rintro e w' ⟨rfl, y3, rfl⟩
        go_wp2
        go_ret2
        exact ⟨rfl, bT HB.out y3.b⟩
      | true =>
        simp only [Bool.true_eq_false, if_false]
        go_enter Try.func79, Try.ntmps79
        go_wp2_with fail
        try rw [hsx]
        refine (quiet_x (HLS.out _ true HX.out)).mono ?_
        rintro e w' ⟨rfl, y1, rfl⟩
        go_wp2_with fail
        try rw [hsx]
        refine (quiet_x (HC1.out y1)).mono ?_
        rintro e w' ⟨rfl, y2, rfl⟩
        go_wp2_with fail
        try rw [hsx]
        refine (quiet_x (HC2.out y2)).mono ?_
        rintro e w' ⟨rfl, y3, rfl⟩
        go_wp2
        go_ret2
        exact ⟨rfl, bT HB.out y3.b⟩
theorem bn_no {D : Ro} {s : Nat} (h : exB D = false) : bnV D s = 0 := by unfold bnV; rw [h]; rfl
set_option maxRecDepth 100000 in
set_option maxHeartbeats 4000000 in
theorem boundP_any (D : Ro) (p q : Option Addr) (c d st : Nat) (hD : OkP D) (hst : st < D.m) (w : World) (hI : RoIn w w.heap.size D p q) :
    Calls Try.prog 37 #[.agg #[.slice p D.n c, .slice q D.m d], .int .i64 (st : Int)] w fun e w' => e = .returned (.tuple #[.int .i64 (bnV D st), .int .i64 (exE D)]) ∧ Below w.heap.size w w' := by
  obtain ⟨w1, x, hw1, hb1, hz1, F0, F1, _⟩ := box_ro w p q D.n D.m c d
  have HB := Lib.hid hb1; have HD := Lib.hid hD
  have HI : Hid (∀ x : Ext w1, RoIn x.v x.v.heap.size D p q) := fun x => (hI.bel hb1).bel x.b
  have hm6 := hD.m; have hn8 := hD.n
  have HO := Lib.hid (Ro.ok_iff.2 HD.out)
  have HST := Lib.hid (fun y : Ext w1 => isStreet_any D p q c d (st : Int) y.v)
  rw [show isS D (st : Int) = true from isS_iff.2 ⟨by omega, by omega⟩] at HST
  have HCK := Lib.hid (fun y : Ext w1 => check_is (D := D) (p := p) (q := q) (c := c) (d := d) (is := true) (chk_ok HO.out) y.v (by unfold maxLen; omega) (by unfold maxLen; omega) (HI.out y))
  have HBO := Lib.hid (fun y : Ext w1 => boundOf_any D p q c d st HD.out hst y.v (HI.out y))
  have j0 : ((0 : Int) != 0) = false := by decide
  have e1 : (if exB D then bnV D st else 0) = bnV D st := by cases h : exB D with
    | true => rfl
    | false => rw [bn_no h]; rfl
  have e2 : (if exB D then 0 else 3) = exE D := rfl
  clear hb1 hz1 hI hD
  have HON := Lib.hid (fun V : World => orNone_is e1 e2 V)
  clear e1 e2
  obtain ⟨v, hv⟩ : ∃ v, bnV D st = v := ⟨_, rfl⟩
  obtain ⟨er, her⟩ : ∃ v, exE D = v := ⟨_, rfl⟩
  obtain ⟨ex, hex⟩ : ∃ v, exB D = v := ⟨_, rfl⟩
  rw [hv, hex] at HBO
  rw [hv, her, hex] at HON
  rw [hv, her]
  clear hv her hex
  go_enter Try.func37, Try.ntmps37
  go_wp2_with fail
  refine quiet_e (by kernel_rfl) (by kernel_rfl) ?_
  repeat (first | go_big_quiet_step ((first | (go_at_call 78; exact quiet_x (HST.out _)) | (go_at_call 77; exact quiet_x (HCK.out _)))) | quiet_step ((first | (go_at_call 78; exact quiet_x (HST.out _)) | (go_at_call 77; exact quiet_x (HCK.out _)))))
  refine wpQuiet_nil ?_
  intro w6 hw6
  obtain ⟨y3, rfl⟩ := hw6
  go_wp2_with fail
  refine (quiet_x (HBO.out _)).mono ?_
  rintro e w' ⟨rfl, y4, rfl⟩
  go_wp2_with fail
  refine (HON.out _).mono ?_
  rintro e w' ⟨rfl, rfl⟩
  go_wp2
  go_ret2
  exact ⟨rfl, bT HB.out y4.b⟩
end Go.Proofs.Ytegkgfiaegpihaa
