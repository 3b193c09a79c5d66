/- Shafts: Falls, Good, Cost of the specification. -/
import Derived.Test.YtaaocomgmacjnabDoorC9

set_option linter.unusedSimpArgs false

set_option linter.unusedVariables false

namespace Go.Proofs.YtaaocomgmacjnabDoor

open Go.RowKit

set_option maxRecDepth 100000 in
set_option maxHeartbeats 4000000 in
theorem fallsU_any (S : Shaft) (p q : Option Addr) (c d : Nat) (l : List Int) (pl : Option Addr) (cl : Nat) (w : World) (hF : S.F.length ≤ 1000000) (hR : S.R.length ≤ 1000000) (hl : l.length ≤ 1000000) (hi : ShaftIn w w.heap.size S p q) (hil : ListIn w w.heap.size l pl) :
    Calls Tryd.prog 15 #[.agg #[.slice q S.R.length d, .slice p S.F.length c, .int .i64 S.D, .int .i64 S.H, .int .i64 S.T], .slice pl l.length cl] w fun e w' => e = .returned (.tuple #[.int .i64 (flV S l), .int .i64 (flE S l)]) ∧ Below w.heap.size w w' := by
  obtain ⟨w1, hw1, hb1, hz1, x1⟩ := box_shaft w S p q c d
  have hbk := hi.bel hb1
  have hlk := hil.bel hb1
  have HX := Lib.hid x1
  obtain ⟨k0, k1, k2, k3, k4, k5⟩ := x1
  have HB := Lib.hid hb1; have HT := Lib.hid hbk; have HL := Lib.hid hlk

  have has := fun (V : World) (hV : Below w1.heap.size w1 V) => areStopsR_any S p q c d l pl cl V hF hl (hlk.bel hV)
  have hask := fun (V : World) (hV : Below w1.heap.size w1 V) => askR_any S p q c d (S.stops l) V hF hR (hbk.bel hV)
  have F0 : ∀ x : Ext w1, x.v.cell? ⟨w.heap.size, 0, none⟩ = some (.slice q S.R.length d) := fun x => (x.b.cell (p := ⟨w.heap.size, 0, none⟩) k5).trans k0
  have F1 : ∀ x : Ext w1, x.v.cell? ⟨w.heap.size, 1, none⟩ = some (.slice p S.F.length c) := fun x => (x.b.cell (p := ⟨w.heap.size, 1, none⟩) k5).trans k1
  have F2 : ∀ x : Ext w1, x.v.cell? ⟨w.heap.size, 2, none⟩ = some (.int .i64 S.D) := fun x => (x.b.cell (p := ⟨w.heap.size, 2, none⟩) k5).trans k2
  have F3 : ∀ x : Ext w1, x.v.cell? ⟨w.heap.size, 3, none⟩ = some (.int .i64 S.H) := fun x => (x.b.cell (p := ⟨w.heap.size, 3, none⟩) k5).trans k3
  have F4 : ∀ x : Ext w1, x.v.cell? ⟨w.heap.size, 4, none⟩ = some (.int .i64 S.T) := fun x => (x.b.cell (p := ⟨w.heap.size, 4, none⟩) k5).trans k4
  clear hi hil hb1 hz1 hbk hlk
  rcases Bool.eq_false_or_eq_true S.ok with hok | hok
  case inr =>
    rw [show askErr S.ok (S.stops l) = 20 from by simp [askErr, hok]] at hask
    have R1 := Lib.hid (show (0 : Int) = flV S l from by simp [flV, hok])
    have R2 := Lib.hid (show (20 : Int) = flE S l from by simp [flE, hok])
    clear hok
    have HAS := Lib.hid has; have HASK := Lib.hid hask; clear has hask
    go_enter Tryd.func15, Tryd.ntmps15
    go_wp2
    refine quiet_lit (by kernel_rfl) (by kernel_rfl) ?_
    repeat (first | go_big_quiet_step ((first | (go_at_call 22; exact quiet_x (HAS.out _ (by rename_i x; exact x.b))) | (go_at_call 38; exact quiet_x (HASK.out _ (by rename_i x; exact x.b))))) | quiet_step ((first | (go_at_call 22; exact quiet_x (HAS.out _ (by rename_i x; exact x.b))) | (go_at_call 38; exact quiet_x (HASK.out _ (by rename_i x; exact x.b))))))
    refine wpQuiet_nil ?_
    intro w2 hw
    obtain ⟨⟨w2, hw⟩, rfl⟩ := hw
    have HW2 := Lib.hid hw; clear F0 F1 F2 F3 F4
    obtain ⟨m0, m1, m2, m3, m4, m5⟩ := HX.out.below hw
    clear hw
    go_wp2
    go_ret2
    exact ⟨ret_2 R1.out R2.out, bT HB.out HW2.out⟩
  case inl =>
  have HOK := Lib.hid hok
  cases hst : S.stops l with
  | false =>
    rw [hst, show askErr S.ok false = 1 from by simp [askErr, hok]] at hask
    rw [hst] at has
    have R1 := Lib.hid (show (0 : Int) = flV S l from by simp [flV, hst])
    have R2 := Lib.hid (show (1 : Int) = flE S l from by simp [flE, hok, hst])
    clear hok hst
    have HAS := Lib.hid has; have HASK := Lib.hid hask; clear has hask
    go_enter Tryd.func15, Tryd.ntmps15
    go_wp2
    refine quiet_lit (by kernel_rfl) (by kernel_rfl) ?_
    repeat (first | go_big_quiet_step ((first | (go_at_call 22; exact quiet_x (HAS.out _ (by rename_i x; exact x.b))) | (go_at_call 38; exact quiet_x (HASK.out _ (by rename_i x; exact x.b))))) | quiet_step ((first | (go_at_call 22; exact quiet_x (HAS.out _ (by rename_i x; exact x.b))) | (go_at_call 38; exact quiet_x (HASK.out _ (by rename_i x; exact x.b))))))
    refine wpQuiet_nil ?_
    intro w2 hw
    obtain ⟨⟨w2, hw⟩, rfl⟩ := hw
    have HW2 := Lib.hid hw; clear F0 F1 F2 F3 F4
    obtain ⟨m0, m1, m2, m3, m4, m5⟩ := HX.out.below hw
    clear hw
    go_wp2
    go_ret2
    exact ⟨ret_2 R1.out R2.out, bT HB.out HW2.out⟩
  | true =>
  rw [hst, show askErr S.ok true = 0 from by simp [askErr, hok]] at hask
  rw [hst] at has
  have HFF := fun (V : World) (hV : Below w1.heap.size w1 V) => fallsR_any S p q c d l pl cl V HOK.out hl (HT.out.bel hV) (HL.out.bel hV)
  cases hf : falls S l with
  | false =>
    have hm1 : S.fall l = -1 := by simpa [falls] using hf
    have R1 := Lib.hid (show (0 : Int) = flV S l from by simp [flV, hok, hst, fallP, hm1])
    have R2 := Lib.hid (show (3 : Int) = flE S l from by simp [flE, hok, hst, hf])
    rw [hm1] at HFF
    have HF := Lib.hid HFF
    clear hok hst hf hm1 HFF
    have HAS := Lib.hid has; have HASK := Lib.hid hask; clear has hask
    go_enter Tryd.func15, Tryd.ntmps15
    go_wp2
    refine quiet_lit (by kernel_rfl) (by kernel_rfl) ?_
    repeat (first | go_big_quiet_step ((first | (go_at_call 22; exact quiet_x (HAS.out _ (by rename_i x; exact x.b))) | (go_at_call 38; exact quiet_x (HASK.out _ (by rename_i x; exact x.b))))) | quiet_step ((first | (go_at_call 22; exact quiet_x (HAS.out _ (by rename_i x; exact x.b))) | (go_at_call 38; exact quiet_x (HASK.out _ (by rename_i x; exact x.b))))))
    refine wpQuiet_nil ?_
    intro w2 hw
    obtain ⟨⟨w2, hw⟩, rfl⟩ := hw
    have HW2 := Lib.hid hw; clear F0 F1 F2 F3 F4
    obtain ⟨m0, m1, m2, m3, m4, m5⟩ := HX.out.below hw
    clear hw
    go_wp2_with (go_at_call 44; refine (HF.out _ HW2.out).mono ?_; rintro e w3 ⟨rfl, hb3⟩; go_must (have HB3 := Lib.hid (bT HB.out (bT HW2.out hb3)); clear hb3))
    go_ret2
    exact ⟨ret_2 R1.out R2.out, HB3.out⟩
  | true =>
    have hm1 : S.fall l ≠ -1 := by simpa [falls] using hf
    have hm2 : 0 ≤ S.fall l := (S.fall_cases l).resolve_left hm1
    have R1 := Lib.hid (show S.fall l = flV S l from by simp [flV, hok, hst, fallP, hm1])
    have R2 := Lib.hid (show (0 : Int) = flE S l from by simp [flE, hok, hst, hf])
    have d0 : decide (S.fall l < 0) = false := decide_eq_false (by omega)
    have HF := Lib.hid HFF
    clear hok hst hf hm1 hm2 HFF
    have HAS := Lib.hid has; have HASK := Lib.hid hask; clear has hask
    go_enter Tryd.func15, Tryd.ntmps15
    go_wp2
    refine quiet_lit (by kernel_rfl) (by kernel_rfl) ?_
    repeat (first | go_big_quiet_step ((first | (go_at_call 22; exact quiet_x (HAS.out _ (by rename_i x; exact x.b))) | (go_at_call 38; exact quiet_x (HASK.out _ (by rename_i x; exact x.b))))) | quiet_step ((first | (go_at_call 22; exact quiet_x (HAS.out _ (by rename_i x; exact x.b))) | (go_at_call 38; exact quiet_x (HASK.out _ (by rename_i x; exact x.b))))))
    refine wpQuiet_nil ?_
    intro w2 hw
    obtain ⟨⟨w2, hw⟩, rfl⟩ := hw
    have HW2 := Lib.hid hw; clear F0 F1 F2 F3 F4
    obtain ⟨m0, m1, m2, m3, m4, m5⟩ := HX.out.below hw
    clear hw
    go_wp2_with (go_at_call 44; refine (HF.out _ HW2.out).mono ?_; rintro e w3 ⟨rfl, hb3⟩; go_must (have HB3 := Lib.hid (bT HB.out (bT HW2.out hb3)); clear hb3))
    go_ret2
    exact ⟨ret_2 R1.out R2.out, HB3.out⟩

set_option maxRecDepth 100000 in
set_option maxHeartbeats 4000000 in
theorem goodU_any (S : Shaft) (p q : Option Addr) (c d : Nat) (l : List Int) (pl : Option Addr) (cl : Nat) (w : World) (hF : S.F.length ≤ 1000000) (hR : S.R.length ≤ 1000000) (hl : l.length ≤ 1000000) (hi : ShaftIn w w.heap.size S p q) (hil : ListIn w w.heap.size l pl) :
    Calls Tryd.prog 17 #[.agg #[.slice q S.R.length d, .slice p S.F.length c, .int .i64 S.D, .int .i64 S.H, .int .i64 S.T], .slice pl l.length cl] w fun e w' => e = .returned (.tuple #[.bool (gdV S l), .int .i64 (vErr S.ok)]) ∧ Below w.heap.size w w' := by
  obtain ⟨w1, hw1, hb1, hz1, x1⟩ := box_shaft w S p q c d
  have hbk := hi.bel hb1
  have hlk := hil.bel hb1
  have HX := Lib.hid x1
  obtain ⟨k0, k1, k2, k3, k4, k5⟩ := x1
  have HB := Lib.hid hb1; have HT := Lib.hid hbk; have HL := Lib.hid hlk

  have hck := checkR_any S p q c d w1 hF hR hbk
  clear hi hil hb1 hz1 hbk hlk
  rcases Bool.eq_false_or_eq_true S.ok with hok | hok
  case inr =>
    have R1 := Lib.hid (show false = gdV S l from by simp [gdV, hok])
    rw [show vErr S.ok = 20 from by simp [vErr, hok]] at hck ⊢
    have HCK := Lib.hid hck; clear hck hok
    go_enter Tryd.func17, Tryd.ntmps17
    go_wp2_with (go_at_call 10; refine HCK.out.mono ?_; rintro e w2 ⟨rfl, hb2⟩; go_must (have HW2 := Lib.hid hb2; obtain ⟨m0, m1, m2, m3, m4, m5⟩ := HX.out.below hb2; clear hb2 k0 k1 k2 k3 k4))
    go_ret2
    exact ⟨ret_bi R1.out rfl, bT HB.out HW2.out⟩
  case inl =>
    have R1 := Lib.hid (show S.plan l = gdV S l from by simp [gdV, hok])
    have HPL := Lib.hid (fun (V : World) (hV : Below w1.heap.size w1 V) => isPlanR_any S p q c d l pl cl V hok hl (HT.out.bel hV) (HL.out.bel hV))
    rw [show vErr S.ok = 0 from by simp [vErr, hok]] at hck ⊢
    have HCK := Lib.hid hck; clear hck hok
    go_enter Tryd.func17, Tryd.ntmps17
    go_wp2_with (first | (go_at_call 10; refine HCK.out.mono ?_; rintro e w2 ⟨rfl, hb2⟩; go_must (have HW2 := Lib.hid hb2; obtain ⟨m0, m1, m2, m3, m4, m5⟩ := HX.out.below hb2; clear hb2 k0 k1 k2 k3 k4)) | (go_at_call 46; refine (HPL.out _ HW2.out).mono ?_; rintro e w3 ⟨rfl, hb3⟩; go_must (have HW3 := Lib.hid (bT HW2.out hb3); clear hb3 m0 m1 m2 m3 m4; obtain ⟨m0, m1, m2, m3, m4, m5⟩ := HX.out.below HW3.out)))
    go_ret2
    exact ⟨ret_bi R1.out rfl, bT HB.out HW3.out⟩

set_option maxRecDepth 100000 in
set_option maxHeartbeats 4000000 in
theorem costU_any (S : Shaft) (p q : Option Addr) (c d : Nat) (l : List Int) (pl : Option Addr) (cl : Nat) (w : World) (hF : S.F.length ≤ 1000000) (hR : S.R.length ≤ 1000000) (hl : l.length ≤ 1000000) (hi : ShaftIn w w.heap.size S p q) (hil : ListIn w w.heap.size l pl) :
    Calls Tryd.prog 19 #[.agg #[.slice q S.R.length d, .slice p S.F.length c, .int .i64 S.D, .int .i64 S.H, .int .i64 S.T], .slice pl l.length cl] w fun e w' => e = .returned (.tuple #[.int .i64 (csP S l), .int .i64 (csH S l), .int .i64 (askErr S.ok (S.plan l))]) ∧ Below w.heap.size w w' := by
  obtain ⟨w1, hw1, hb1, hz1, x1⟩ := box_shaft w S p q c d
  have hbk := hi.bel hb1
  have hlk := hil.bel hb1
  have HX := Lib.hid x1
  obtain ⟨k0, k1, k2, k3, k4, k5⟩ := x1
  have HB := Lib.hid hb1; have HT := Lib.hid hbk; have HL := Lib.hid hlk

  have hck := checkR_any S p q c d w1 hF hR hbk
  clear hi hil hb1 hz1 hbk hlk
  rcases Bool.eq_false_or_eq_true S.ok with hok | hok
  case inr =>
    have R1 := Lib.hid (show (0 : Int) = csP S l from by simp [csP, hok])
    have R2 := Lib.hid (show (0 : Int) = csH S l from by simp [csH, hok])
    have R3 := Lib.hid (show (20 : Int) = askErr S.ok (S.plan l) from by simp [askErr, hok])
    rw [show vErr S.ok = 20 from by simp [vErr, hok]] at hck
    have HCK := Lib.hid hck; clear hck hok
    go_enter Tryd.func19, Tryd.ntmps19
    go_wp2_with (go_at_call 10; refine HCK.out.mono ?_; rintro e w2 ⟨rfl, hb2⟩; go_must (have HW2 := Lib.hid hb2; obtain ⟨m0, m1, m2, m3, m4, m5⟩ := HX.out.below hb2; clear hb2 k0 k1 k2 k3 k4))
    (try simp only [Exit.inBlock, Exit.then]); refine bodyPost_ret (results_tmp3 rfl _ _ _) rfl ?_
    exact ⟨ret_3 R1.out R2.out R3.out, bT HB.out HW2.out⟩
  case inl =>
  have HPP := fun (V : World) (hV : Below w1.heap.size w1 V) => isPlanR_any S p q c d l pl cl V hok hl (HT.out.bel hV) (HL.out.bel hV)
  rw [show vErr S.ok = 0 from by simp [vErr, hok]] at hck
  have HCK := Lib.hid hck; clear hck
  cases hpl : S.plan l with
  | false =>
    have R1 := Lib.hid (show (0 : Int) = csP S l from by simp [csP, hpl])
    have R2 := Lib.hid (show (0 : Int) = csH S l from by simp [csH, hpl])
    have R3 := Lib.hid (show (1 : Int) = askErr S.ok false from by simp [askErr, hok])
    rw [hpl] at HPP
    have HPL := Lib.hid HPP; clear HPP hok hpl
    go_enter Tryd.func19, Tryd.ntmps19
    go_wp2_with (first | (go_at_call 10; refine HCK.out.mono ?_; rintro e w2 ⟨rfl, hb2⟩; go_must (have HW2 := Lib.hid hb2; obtain ⟨m0, m1, m2, m3, m4, m5⟩ := HX.out.below hb2; clear hb2 k0 k1 k2 k3 k4)) | (go_at_call 46; refine (HPL.out _ HW2.out).mono ?_; rintro e w3 ⟨rfl, hb3⟩; go_must (have HW3 := Lib.hid (bT HW2.out hb3); clear hb3 m0 m1 m2 m3 m4; obtain ⟨m0, m1, m2, m3, m4, m5⟩ := HX.out.below HW3.out)))
    (try simp only [Exit.inBlock, Exit.then]); refine bodyPost_ret (results_tmp3 rfl _ _ _) rfl ?_
    exact ⟨ret_3 R1.out R2.out R3.out, bT HB.out HW3.out⟩
  | true =>
    have R1 := Lib.hid (show S.cost l = csP S l from by simp [csP, hok, hpl])
    have R2 := Lib.hid (show S.time l = csH S l from by simp [csH, hok, hpl])
    have R3 := Lib.hid (show (0 : Int) = askErr S.ok true from by simp [askErr, hok])
    obtain ⟨hp1, hp2⟩ := plan_parts hpl
    have HCO := Lib.hid (fun (V : World) (hV : Below w1.heap.size w1 V) => costR_any S p q c d l pl cl V hok hl hp1 (HT.out.bel hV) (HL.out.bel hV))
    have HHO := Lib.hid (fun (V : World) (hV : Below w1.heap.size w1 V) => hoursR_any S p q c d l pl cl V hok hl (HT.out.bel hV))
    rw [hpl] at HPP
    have HPL := Lib.hid HPP; clear HPP hok hpl hp1 hp2
    go_enter Tryd.func19, Tryd.ntmps19
    go_wp2_with (first | (go_at_call 10; refine HCK.out.mono ?_; rintro e w2 ⟨rfl, hb2⟩; go_must (have HW2 := Lib.hid hb2; obtain ⟨m0, m1, m2, m3, m4, m5⟩ := HX.out.below hb2; clear hb2 k0 k1 k2 k3 k4)) | (go_at_call 46; refine (HPL.out _ HW2.out).mono ?_; rintro e w3 ⟨rfl, hb3⟩; go_must (have HW3 := Lib.hid (bT HW2.out hb3); clear hb3 m0 m1 m2 m3 m4; obtain ⟨m0, m1, m2, m3, m4, m5⟩ := HX.out.below HW3.out)))
    have F0 : ∀ x : Ext w3, x.v.cell? ⟨w.heap.size, 0, none⟩ = some (.slice q S.R.length d) := fun x => (x.b.cell (p := ⟨w.heap.size, 0, none⟩) m5).trans m0
    have F1 : ∀ x : Ext w3, x.v.cell? ⟨w.heap.size, 1, none⟩ = some (.slice p S.F.length c) := fun x => (x.b.cell (p := ⟨w.heap.size, 1, none⟩) m5).trans m1
    have F2 : ∀ x : Ext w3, x.v.cell? ⟨w.heap.size, 2, none⟩ = some (.int .i64 S.D) := fun x => (x.b.cell (p := ⟨w.heap.size, 2, none⟩) m5).trans m2
    have F3 : ∀ x : Ext w3, x.v.cell? ⟨w.heap.size, 3, none⟩ = some (.int .i64 S.H) := fun x => (x.b.cell (p := ⟨w.heap.size, 3, none⟩) m5).trans m3
    have F4 : ∀ x : Ext w3, x.v.cell? ⟨w.heap.size, 4, none⟩ = some (.int .i64 S.T) := fun x => (x.b.cell (p := ⟨w.heap.size, 4, none⟩) m5).trans m4
    refine quiet_lit (by kernel_rfl) (by kernel_rfl) ?_
    repeat (first | go_big_quiet_step ((first | (go_at_call 48; exact quiet_x (HCO.out _ (bT HW3.out (by rename_i x; exact x.b)))) | (go_at_call 49; exact quiet_x (HHO.out _ (bT HW3.out (by rename_i x; exact x.b)))))) | quiet_step ((first | (go_at_call 48; exact quiet_x (HCO.out _ (bT HW3.out (by rename_i x; exact x.b)))) | (go_at_call 49; exact quiet_x (HHO.out _ (bT HW3.out (by rename_i x; exact x.b)))))))
    refine wpQuiet_nil ?_
    intro w4 hw
    obtain ⟨⟨w4, hw⟩, rfl⟩ := hw
    have HW4 := Lib.hid (bT HW3.out hw); clear hw F0 F1 F2 F3 F4
    go_wp2
    (try simp only [Exit.inBlock, Exit.then]); refine bodyPost_ret (results_tmp3 rfl _ _ _) rfl ?_
    exact ⟨ret_3 R1.out R2.out R3.out, bT HB.out HW4.out⟩
end Go.Proofs.YtaaocomgmacjnabDoor
