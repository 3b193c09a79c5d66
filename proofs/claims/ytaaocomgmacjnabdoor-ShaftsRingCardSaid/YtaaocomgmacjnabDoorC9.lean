/- Shafts: Falls, Good, Cost of the program. -/
import Derived.Test.YtaaocomgmacjnabDoorC8

set_option linter.unusedSimpArgs false

set_option linter.unusedVariables false

namespace Go.Proofs.YtaaocomgmacjnabDoor

open Go.RowKit

theorem ret_bi {a c : Bool} {b d : Int} (h : a = c) (k : b = d) : Ending.returned (.tuple #[.bool a, .int .i64 b]) = .returned (.tuple #[.bool c, .int .i64 d]) := by rw [h, k]
def flV (S : Shaft) (l : List Int) : Int := if S.ok && S.stops l then fallP S l else 0
def flE (S : Shaft) (l : List Int) : Int := if S.ok then (if S.stops l then (if falls S l then 0 else 3) else 1) else 20
def gdV (S : Shaft) (l : List Int) : Bool := S.ok && S.plan l
def csP (S : Shaft) (l : List Int) : Int := if S.ok && S.plan l then S.cost l else 0
def csH (S : Shaft) (l : List Int) : Int := if S.ok && S.plan l then S.time l else 0
set_option maxRecDepth 100000 in
set_option maxHeartbeats 4000000 in
theorem fallsT_any (S : Shaft) (p q : Option Addr) (c d : Nat) (l : List Int) (pl : Option Addr) (cl : Nat) (w : World) (hF : S.F.length ≤ 1000000) (hR : S.R.length ≤ 1000000) (hl : l.length ≤ 1000000) (hcl : l.length ≤ cl) (hi : ShaftIn w w.heap.size S p q) (hil : ListIn w w.heap.size l pl) :
    Calls Tryd.prog 14 #[.agg #[.slice q S.R.length d, .slice p S.F.length c, .int .i64 S.D, .int .i64 S.H, .int .i64 S.T], .slice pl l.length cl] w fun e w' => e = .returned (.tuple #[.int .i64 (flV S l), .int .i64 (flE S l)]) ∧ Below w.heap.size w w' := by
  obtain ⟨w1, hw1, hb1, hz1, x1⟩ := box_shaft w S p q c d
  have hbk := hi.bel hb1
  have hv := valid_any S p q c d w1 hF hR hbk
  have HX := Lib.hid x1
  obtain ⟨k0, k1, k2, k3, k4, k5⟩ := x1
  have HB := Lib.hid hb1; have HT := Lib.hid hbk; have HL := Lib.hid (hil.bel hb1)
  clear hi hil hb1 hz1 hbk
  rcases Bool.eq_false_or_eq_true S.ok with hok | hok
  case inr =>
    rw [hok] at hv
    have HV := Lib.hid hv; clear hv
    have R1 := Lib.hid (show (0 : Int) = flV S l from by simp [flV, hok])
    have R2 := Lib.hid (show (20 : Int) = flE S l from by simp [flE, hok])
    clear hok
    go_enter Tryd.func14, Tryd.ntmps14
    go_wp2_with (go_at_call 34; refine HV.out.mono ?_; rintro e w2 ⟨rfl, hb2⟩; go_must (have h2 := HX.out.below hb2; have j0 := h2.c0; have j1 := h2.c1; have j2 := h2.c2; have j3 := h2.c3; have j4 := h2.c4; have HB2 := Lib.hid (bT HB.out hb2); have HT2 := Lib.hid (HT.out.bel hb2); have HL2 := Lib.hid (HL.out.bel hb2); clear hb2 h2 k0 k1 k2 k3 k4))
    go_ret2
    exact ⟨ret_2 R1.out R2.out, HB2.out⟩
  case inl =>
  rw [hok] at hv
  have HV := Lib.hid hv; clear hv
  have HOK := Lib.hid hok
  cases hst : S.stops l with
  | false =>
    have R1 := Lib.hid (show (0 : Int) = flV S l from by simp [flV, hst])
    have R2 := Lib.hid (show (1 : Int) = flE S l from by simp [flE, hok, hst])
    clear hok
    go_enter Tryd.func14, Tryd.ntmps14
    go_wp2_with (go_at_call 34; refine HV.out.mono ?_; rintro e w2 ⟨rfl, hb2⟩; go_must (have h2 := HX.out.below hb2; have j0 := h2.c0; have j1 := h2.c1; have j2 := h2.c2; have j3 := h2.c3; have j4 := h2.c4; have HB2 := Lib.hid (bT HB.out hb2); have HT2 := Lib.hid (HT.out.bel hb2); have HL2 := Lib.hid (HL.out.bel hb2); clear hb2 h2 k0 k1 k2 k3 k4))
    obtain ⟨w3, hw3, hb3, hz3, x3⟩ := box_dig w2 S p q c d
    try rw [hw3]
    have HX3 := Lib.hid x3; have HT3 := Lib.hid (HT2.out.bel hb3); have HL3 := Lib.hid (HL2.out.bel hb3); have HB3 := Lib.hid (bT HB2.out hb3)
    clear hb3 x3 hz3
    have HA := areStops_any S p q c d w2.heap.size l pl cl w3 hF hl HX3.out HL3.out
    rw [hst] at HA
    have HA2 := Lib.hid HA; clear HA hst
    go_wp2_with (go_at_call 42; refine HA2.out.mono ?_; rintro e w4 ⟨rfl, hb4⟩; go_must (have HB4 := Lib.hid (bT HB3.out hb4); clear hb4))
    go_ret2
    exact ⟨ret_2 R1.out R2.out, HB4.out⟩
  | true =>
  cases hf : falls S l with
  | false =>
    have R1 := Lib.hid (show (0 : Int) = flV S l from by
      have : S.fall l = -1 := by simpa [falls] using hf
      simp [flV, hok, hst, fallP, this])
    have R2 := Lib.hid (show (3 : Int) = flE S l from by simp [flE, hok, hst, hf])
    clear hok
    go_enter Tryd.func14, Tryd.ntmps14
    go_wp2_with (go_at_call 34; refine HV.out.mono ?_; rintro e w2 ⟨rfl, hb2⟩; go_must (have h2 := HX.out.below hb2; have j0 := h2.c0; have j1 := h2.c1; have j2 := h2.c2; have j3 := h2.c3; have j4 := h2.c4; have HB2 := Lib.hid (bT HB.out hb2); have HT2 := Lib.hid (HT.out.bel hb2); have HL2 := Lib.hid (HL.out.bel hb2); clear hb2 h2 k0 k1 k2 k3 k4))
    obtain ⟨w3, hw3, hb3, hz3, x3⟩ := box_dig w2 S p q c d
    try rw [hw3]
    have HX3 := Lib.hid x3; have HT3 := Lib.hid (HT2.out.bel hb3); have HL3 := Lib.hid (HL2.out.bel hb3); have HB3 := Lib.hid (bT HB2.out hb3)
    clear hb3 x3 hz3
    have HA := areStops_any S p q c d w2.heap.size l pl cl w3 hF hl HX3.out HL3.out
    have HFF := fun (V : World) (hV : Below w3.heap.size w3 V) => fallsP_any S p q c d w2.heap.size l pl cl V HOK.out hl hcl hst (HX3.out.below hV) (HT3.out.bel hV) (HL3.out.bel hV)
    rw [hst] at HA
    rw [hf] at HFF
    have HA2 := Lib.hid HA; have HF2 := Lib.hid HFF; clear HA hst HFF hf
    go_wp2_with (first | (go_at_call 42; refine HA2.out.mono ?_; rintro e w4 ⟨rfl, hb4⟩; go_must (have HB4 := Lib.hid hb4; clear hb4)) | (go_at_call 43; refine (HF2.out _ HB4.out).mono ?_; rintro e w5 ⟨rfl, hb5⟩; go_must (have HB5 := Lib.hid (bT HB3.out (bT HB4.out hb5)); clear hb5)))
    go_ret2
    exact ⟨ret_2 R1.out R2.out, HB5.out⟩
  | true =>
    have R1 := Lib.hid (show fallP S l = flV S l from by simp [flV, hok, hst])
    have R2 := Lib.hid (show (0 : Int) = flE S l from by simp [flE, hok, hst, hf])
    clear hok
    go_enter Tryd.func14, Tryd.ntmps14
    go_wp2_with (go_at_call 34; refine HV.out.mono ?_; rintro e w2 ⟨rfl, hb2⟩; go_must (have h2 := HX.out.below hb2; have j0 := h2.c0; have j1 := h2.c1; have j2 := h2.c2; have j3 := h2.c3; have j4 := h2.c4; have HB2 := Lib.hid (bT HB.out hb2); have HT2 := Lib.hid (HT.out.bel hb2); have HL2 := Lib.hid (HL.out.bel hb2); clear hb2 h2 k0 k1 k2 k3 k4))
    obtain ⟨w3, hw3, hb3, hz3, x3⟩ := box_dig w2 S p q c d
    try rw [hw3]
    have HX3 := Lib.hid x3; have HT3 := Lib.hid (HT2.out.bel hb3); have HL3 := Lib.hid (HL2.out.bel hb3); have HB3 := Lib.hid (bT HB2.out hb3)
    clear hb3 x3 hz3
    have HA := areStops_any S p q c d w2.heap.size l pl cl w3 hF hl HX3.out HL3.out
    have HFF := fun (V : World) (hV : Below w3.heap.size w3 V) => fallsP_any S p q c d w2.heap.size l pl cl V HOK.out hl hcl hst (HX3.out.below hV) (HT3.out.bel hV) (HL3.out.bel hV)
    rw [hst] at HA
    rw [hf] at HFF
    have HA2 := Lib.hid HA; have HF2 := Lib.hid HFF; clear HA hst HFF hf
    go_wp2_with (first | (go_at_call 42; refine HA2.out.mono ?_; rintro e w4 ⟨rfl, hb4⟩; go_must (have HB4 := Lib.hid hb4; clear hb4)) | (go_at_call 43; refine (HF2.out _ HB4.out).mono ?_; rintro e w5 ⟨rfl, hb5⟩; go_must (have HB5 := Lib.hid (bT HB3.out (bT HB4.out hb5)); clear hb5)))
    go_ret2
    exact ⟨ret_2 R1.out R2.out, HB5.out⟩

set_option maxRecDepth 100000 in
set_option maxHeartbeats 4000000 in
theorem goodT_any (S : Shaft) (p q : Option Addr) (c d : Nat) (l : List Int) (pl : Option Addr) (cl : Nat) (w : World) (hF : S.F.length ≤ 1000000) (hR : S.R.length ≤ 1000000) (hl : l.length ≤ 1000000) (hcl : l.length ≤ cl) (hi : ShaftIn w w.heap.size S p q) (hil : ListIn w w.heap.size l pl) :
    Calls Tryd.prog 16 #[.agg #[.slice q S.R.length d, .slice p S.F.length c, .int .i64 S.D, .int .i64 S.H, .int .i64 S.T], .slice pl l.length cl] w fun e w' => e = .returned (.tuple #[.bool (gdV S l), .int .i64 (vErr S.ok)]) ∧ Below w.heap.size w w' := by
  obtain ⟨w1, hw1, hb1, hz1, x1⟩ := box_shaft w S p q c d
  have hbk := hi.bel hb1
  have hv := valid_any S p q c d w1 hF hR hbk
  have HX := Lib.hid x1
  obtain ⟨k0, k1, k2, k3, k4, k5⟩ := x1
  have HB := Lib.hid hb1; have HT := Lib.hid hbk; have HL := Lib.hid (hil.bel hb1)
  clear hi hil hb1 hz1 hbk
  rcases Bool.eq_false_or_eq_true S.ok with hok | hok
  case inr =>
    rw [hok] at hv
    have HV := Lib.hid hv; clear hv
    have R1 := Lib.hid (show false = gdV S l from by simp [gdV, hok])
    have R2 := Lib.hid (show (20 : Int) = vErr S.ok from by simp [vErr, hok])
    clear hok
    go_enter Tryd.func16, Tryd.ntmps16
    go_wp2_with (go_at_call 34; refine HV.out.mono ?_; rintro e w2 ⟨rfl, hb2⟩; go_must (have h2 := HX.out.below hb2; have j0 := h2.c0; have j1 := h2.c1; have j2 := h2.c2; have j3 := h2.c3; have j4 := h2.c4; have HB2 := Lib.hid (bT HB.out hb2); have HT2 := Lib.hid (HT.out.bel hb2); have HL2 := Lib.hid (HL.out.bel hb2); clear hb2 h2 k0 k1 k2 k3 k4))
    go_ret2
    exact ⟨ret_bi R1.out R2.out, HB2.out⟩
  case inl =>
  rw [hok] at hv
  have HV := Lib.hid hv; clear hv
  have HOK := Lib.hid hok
  have R1 := Lib.hid (show S.plan l = gdV S l from by simp [gdV, hok])
  have R2 := Lib.hid (show (0 : Int) = vErr S.ok from by simp [vErr, hok])
  clear hok
  go_enter Tryd.func16, Tryd.ntmps16
  go_wp2_with (go_at_call 34; refine HV.out.mono ?_; rintro e w2 ⟨rfl, hb2⟩; go_must (have h2 := HX.out.below hb2; have j0 := h2.c0; have j1 := h2.c1; have j2 := h2.c2; have j3 := h2.c3; have j4 := h2.c4; have HB2 := Lib.hid (bT HB.out hb2); have HT2 := Lib.hid (HT.out.bel hb2); have HL2 := Lib.hid (HL.out.bel hb2); clear hb2 h2 k0 k1 k2 k3 k4))
  obtain ⟨w3, hw3, hb3, hz3, x3⟩ := box_dig w2 S p q c d
  try rw [hw3]
  have HX3 := Lib.hid x3; have HT3 := Lib.hid (HT2.out.bel hb3); have HL3 := Lib.hid (HL2.out.bel hb3); have HB3 := Lib.hid (bT HB2.out hb3)
  clear hb3 x3 hz3
  have HA2 := Lib.hid (isPlan_any S p q c d w2.heap.size l pl cl w3 HOK.out hl hcl HX3.out HT3.out HL3.out)
  go_wp2_with (go_at_call 45; refine HA2.out.mono ?_; rintro e w4 ⟨rfl, hb4⟩; go_must (have HB4 := Lib.hid hb4; clear hb4))
  go_ret2
  exact ⟨ret_bi R1.out R2.out, bT HB3.out HB4.out⟩

set_option maxRecDepth 100000 in
set_option maxHeartbeats 4000000 in
theorem costT_any (S : Shaft) (p q : Option Addr) (c d : Nat) (l : List Int) (pl : Option Addr) (cl : Nat) (w : World) (hF : S.F.length ≤ 1000000) (hR : S.R.length ≤ 1000000) (hl : l.length ≤ 1000000) (hcl : l.length ≤ cl) (hi : ShaftIn w w.heap.size S p q) (hil : ListIn w w.heap.size l pl) :
    Calls Tryd.prog 18 #[.agg #[.slice q S.R.length d, .slice p S.F.length c, .int .i64 S.D, .int .i64 S.H, .int .i64 S.T], .slice pl l.length cl] w fun e w' => e = .returned (.tuple #[.int .i64 (csP S l), .int .i64 (csH S l), .int .i64 (askErr S.ok (S.plan l))]) ∧ Below w.heap.size w w' := by
  obtain ⟨w1, hw1, hb1, hz1, x1⟩ := box_shaft w S p q c d
  have hbk := hi.bel hb1
  have hv := valid_any S p q c d w1 hF hR hbk
  have HX := Lib.hid x1
  obtain ⟨k0, k1, k2, k3, k4, k5⟩ := x1
  have HB := Lib.hid hb1; have HT := Lib.hid hbk; have HL := Lib.hid (hil.bel hb1)
  clear hi hil hb1 hz1 hbk
  rcases Bool.eq_false_or_eq_true S.ok with hok | hok
  case inr =>
    rw [hok] at hv
    have HV := Lib.hid hv; clear hv
    have R1 := Lib.hid (show (0 : Int) = csP S l from by simp [csP, hok])
    have R2 := Lib.hid (show (0 : Int) = csH S l from by simp [csH, hok])
    have R3 := Lib.hid (show (20 : Int) = askErr S.ok (S.plan l) from by simp [askErr, hok])
    clear hok
    go_enter Tryd.func18, Tryd.ntmps18
    go_wp2_with (go_at_call 34; refine HV.out.mono ?_; rintro e w2 ⟨rfl, hb2⟩; go_must (have h2 := HX.out.below hb2; have j0 := h2.c0; have j1 := h2.c1; have j2 := h2.c2; have j3 := h2.c3; have j4 := h2.c4; have HB2 := Lib.hid (bT HB.out hb2); have HT2 := Lib.hid (HT.out.bel hb2); have HL2 := Lib.hid (HL.out.bel hb2); clear hb2 h2 k0 k1 k2 k3 k4))
    (try simp only [Exit.inBlock, Exit.then]); refine bodyPost_ret (results_tmp3 rfl _ _ _) rfl ?_
    exact ⟨ret_3 R1.out R2.out R3.out, HB2.out⟩
  case inl =>
  rw [hok] at hv
  have HV := Lib.hid hv; clear hv
  have HOK := Lib.hid hok
  cases hpl : S.plan l with
  | false =>
    have R1 := Lib.hid (show (0 : Int) = csP S l from by simp [csP, hpl])
    have R2 := Lib.hid (show (0 : Int) = csH S l from by simp [csH, hpl])
    have R3 := Lib.hid (show (1 : Int) = askErr S.ok false from by simp [askErr, hok])
    clear hok
    go_enter Tryd.func18, Tryd.ntmps18
    go_wp2_with (go_at_call 34; refine HV.out.mono ?_; rintro e w2 ⟨rfl, hb2⟩; go_must (have h2 := HX.out.below hb2; have j0 := h2.c0; have j1 := h2.c1; have j2 := h2.c2; have j3 := h2.c3; have j4 := h2.c4; have HB2 := Lib.hid (bT HB.out hb2); have HT2 := Lib.hid (HT.out.bel hb2); have HL2 := Lib.hid (HL.out.bel hb2); clear hb2 h2 k0 k1 k2 k3 k4))
    obtain ⟨w3, hw3, hb3, hz3, x3⟩ := box_dig w2 S p q c d
    try rw [hw3]
    have HX3 := Lib.hid x3; have HT3 := Lib.hid (HT2.out.bel hb3); have HL3 := Lib.hid (HL2.out.bel hb3); have HB3 := Lib.hid (bT HB2.out hb3)
    clear hb3 x3 hz3
    have HA := isPlan_any S p q c d w2.heap.size l pl cl w3 HOK.out hl hcl HX3.out HT3.out HL3.out
    rw [hpl] at HA
    have HA2 := Lib.hid HA; clear HA hpl
    go_wp2_with (go_at_call 45; refine HA2.out.mono ?_; rintro e w4 ⟨rfl, hb4⟩; go_must (have HB4 := Lib.hid hb4; clear hb4))
    (try simp only [Exit.inBlock, Exit.then]); refine bodyPost_ret (results_tmp3 rfl _ _ _) rfl ?_
    exact ⟨ret_3 R1.out R2.out R3.out, bT HB3.out HB4.out⟩
  | true =>
    have R1 := Lib.hid (show S.cost l = csP S l from by simp [csP, hok, hpl])
    have R2 := Lib.hid (show S.time l = csH S l from by simp [csH, hok, hpl])
    have R3 := Lib.hid (show (0 : Int) = askErr S.ok true from by simp [askErr, hok])
    clear hok
    go_enter Tryd.func18, Tryd.ntmps18
    go_wp2_with (go_at_call 34; refine HV.out.mono ?_; rintro e w2 ⟨rfl, hb2⟩; go_must (have h2 := HX.out.below hb2; have j0 := h2.c0; have j1 := h2.c1; have j2 := h2.c2; have j3 := h2.c3; have j4 := h2.c4; have HB2 := Lib.hid (bT HB.out hb2); have HT2 := Lib.hid (HT.out.bel hb2); have HL2 := Lib.hid (HL.out.bel hb2); clear hb2 h2 k0 k1 k2 k3 k4))
    obtain ⟨w3, hw3, hb3, hz3, x3⟩ := box_dig w2 S p q c d
    try rw [hw3]
    have HX3 := Lib.hid x3; have HT3 := Lib.hid (HT2.out.bel hb3); have HL3 := Lib.hid (HL2.out.bel hb3); have HB3 := Lib.hid (bT HB2.out hb3)
    clear hb3 x3 hz3
    have HA := isPlan_any S p q c d w2.heap.size l pl cl w3 HOK.out hl hcl HX3.out HT3.out HL3.out
    obtain ⟨hp1, hp2⟩ := plan_parts hpl
    have HC := Lib.hid (fun (V : World) (hV : Below w3.heap.size w3 V) => cost_any S p q c d w2.heap.size l pl cl V HOK.out hl hp1 hp2 (HX3.out.below hV) (HT3.out.bel hV) (HL3.out.bel hV))
    rw [hpl] at HA
    have HA2 := Lib.hid HA; clear HA hpl hp1 hp2
    go_wp2_with (first | (go_at_call 45; refine HA2.out.mono ?_; rintro e w4 ⟨rfl, hb4⟩; go_must (have HB4 := Lib.hid hb4; clear hb4)) | (go_at_call 47; refine (HC.out _ HB4.out).mono ?_; rintro e w5 ⟨rfl, hb5⟩; go_must (have HB5 := Lib.hid (bT HB3.out (bT HB4.out hb5)); clear hb5)))
    (try simp only [Exit.inBlock, Exit.then]); refine bodyPost_ret (results_tmp3 rfl _ _ _) rfl ?_
    exact ⟨ret_3 R1.out R2.out R3.out, HB5.out⟩
end Go.Proofs.YtaaocomgmacjnabDoor
