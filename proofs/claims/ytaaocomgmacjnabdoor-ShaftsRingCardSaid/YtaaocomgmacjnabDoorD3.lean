/- Shafts: ShaftsRing, where it asks nothing . -/
import Derived.Test.YtaaocomgmacjnabDoorD2

set_option linter.unusedSimpArgs false

set_option linter.unusedVariables false

namespace Go.Proofs.YtaaocomgmacjnabDoor

open Go.RowKit

set_option maxRecDepth 100000 in
set_option maxHeartbeats 4000000 in
theorem ring_a (S : Shaft) (p q : Option Addr) (c d : Nat) (l : List Int) (pl : Option Addr) (cl : Nat) (y : Int) (w : World) (hgl : GlobsOk laid w) (hF : S.F.length ≤ maxLen) (hR : S.R.length ≤ maxLen) (hl : l.length ≤ maxLen) (ht : ShaftIn w w.heap.size S p q) (hil : ListIn w w.heap.size l pl) (hr : rdy S = false) :
    Calls Tryd.prog 5 #[.agg #[.slice q S.R.length d, .slice p S.F.length c, .int .i64 S.D, .int .i64 S.H, .int .i64 S.T], .slice pl l.length cl, .int .i64 y] w fun e w' => e = .returned (.bool true) ∧ Below w.heap.size w w' := by
  have hl9 : l.length ≤ 9223372036854775807 := hl
  obtain ⟨w1, hw1, hb1, hz1, x1⟩ := box_shaft w S p q c d
  have H1 := Lib.hid x1
  have HB0 := Lib.hid hb1
  have HB1 := Lib.hid (Below.refl w1.heap.size w1)
  have HT := Lib.hid (ht.bel hb1); have HL := Lib.hid (hil.bel hb1); have HG1 := Lib.hid (hgl.below hb1)
  obtain ⟨g0, g1, g2, g3, g4, g5⟩ := x1
  have hrd := ready_any S p q c d w1 hF hR HT.out
  rw [hr] at hrd
  have HRD := Lib.hid hrd
  clear hr
  clear hrd ht hil hgl hb1 hz1 hF hR hl
  go_enter Tryd.func5, Tryd.ntmps5
  go_wp2_with (first | (go_at_call 21; refine HRD.out.mono ?_; rintro e w2 ⟨rfl, hb2⟩; go_must (have h2 := H1.out.below hb2; have H2 := Lib.hid h2; clear g0 g1 g2 g3 g4 g5; obtain ⟨g0, g1, g2, g3, g4, g5⟩ := h2; have HB2 := Lib.hid (bT HB1.out hb2); clear hb2)) | (go_at_call 7; refine (works_ex _ (HG1.out.below (by first | exact HB5.out | exact HB3.out | exact HB2.out))).mono ?_; rintro e w6 ⟨rfl, hb6⟩; go_must (have HB6 := Lib.hid (bT (by first | exact HB5.out | exact HB3.out | exact HB2.out) hb6); clear hb6)))
  go_ret
  exact ⟨rfl, bT HB0.out HB6.out⟩

set_option maxRecDepth 100000 in
set_option maxHeartbeats 4000000 in
theorem ring_b (S : Shaft) (p q : Option Addr) (c d : Nat) (l : List Int) (pl : Option Addr) (cl : Nat) (y : Int) (w : World) (hgl : GlobsOk laid w) (hF : S.F.length ≤ maxLen) (hR : S.R.length ≤ maxLen) (hl : l.length ≤ maxLen) (ht : ShaftIn w w.heap.size S p q) (hil : ListIn w w.heap.size l pl) (hr : rdy S = true) (hll : 40 < l.length) :
    Calls Tryd.prog 5 #[.agg #[.slice q S.R.length d, .slice p S.F.length c, .int .i64 S.D, .int .i64 S.H, .int .i64 S.T], .slice pl l.length cl, .int .i64 y] w fun e w' => e = .returned (.bool true) ∧ Below w.heap.size w w' := by
  have hl9 : l.length ≤ 9223372036854775807 := hl
  obtain ⟨w1, hw1, hb1, hz1, x1⟩ := box_shaft w S p q c d
  have H1 := Lib.hid x1
  have HB0 := Lib.hid hb1
  have HB1 := Lib.hid (Below.refl w1.heap.size w1)
  have HT := Lib.hid (ht.bel hb1); have HL := Lib.hid (hil.bel hb1); have HG1 := Lib.hid (hgl.below hb1)
  obtain ⟨g0, g1, g2, g3, g4, g5⟩ := x1
  have hrd := ready_any S p q c d w1 hF hR HT.out
  rw [hr] at hrd
  have HRD := Lib.hid hrd
  clear hr
  have d1 : decide ((40 : Int) < (l.length : Int)) = true := decide_eq_true (by omega)
  clear hrd ht hil hgl hb1 hz1 hF hR hl
  go_enter Tryd.func5, Tryd.ntmps5
  go_wp2_with (first | (go_at_call 21; refine HRD.out.mono ?_; rintro e w2 ⟨rfl, hb2⟩; go_must (have h2 := H1.out.below hb2; have H2 := Lib.hid h2; clear g0 g1 g2 g3 g4 g5; obtain ⟨g0, g1, g2, g3, g4, g5⟩ := h2; have HB2 := Lib.hid (bT HB1.out hb2); clear hb2)) | (go_at_call 7; refine (works_ex _ (HG1.out.below (by first | exact HB5.out | exact HB3.out | exact HB2.out))).mono ?_; rintro e w6 ⟨rfl, hb6⟩; go_must (have HB6 := Lib.hid (bT (by first | exact HB5.out | exact HB3.out | exact HB2.out) hb6); clear hb6)))
  go_ret
  exact ⟨rfl, bT HB0.out HB6.out⟩

set_option maxRecDepth 100000 in
set_option maxHeartbeats 4000000 in
theorem ring_c (S : Shaft) (p q : Option Addr) (c d : Nat) (l : List Int) (pl : Option Addr) (cl : Nat) (y : Int) (w : World) (hgl : GlobsOk laid w) (hF : S.F.length ≤ maxLen) (hR : S.R.length ≤ maxLen) (hl : l.length ≤ maxLen) (ht : ShaftIn w w.heap.size S p q) (hil : ListIn w w.heap.size l pl) (hr : rdy S = true) (hll : l.length ≤ 40) (hn1 : S.F.length ≤ 1000000) (hst : S.stops l = false) :
    Calls Tryd.prog 5 #[.agg #[.slice q S.R.length d, .slice p S.F.length c, .int .i64 S.D, .int .i64 S.H, .int .i64 S.T], .slice pl l.length cl, .int .i64 y] w fun e w' => e = .returned (.bool true) ∧ Below w.heap.size w w' := by
  have hl9 : l.length ≤ 9223372036854775807 := hl
  obtain ⟨w1, hw1, hb1, hz1, x1⟩ := box_shaft w S p q c d
  have H1 := Lib.hid x1
  have HB0 := Lib.hid hb1
  have HB1 := Lib.hid (Below.refl w1.heap.size w1)
  have HT := Lib.hid (ht.bel hb1); have HL := Lib.hid (hil.bel hb1); have HG1 := Lib.hid (hgl.below hb1)
  obtain ⟨g0, g1, g2, g3, g4, g5⟩ := x1
  have hrd := ready_any S p q c d w1 hF hR HT.out
  rw [hr] at hrd
  have HRD := Lib.hid hrd
  clear hr
  have d1 : decide ((40 : Int) < (l.length : Int)) = false := decide_eq_false (by omega)
  have hl1 : l.length ≤ 1000000 := by omega
  have has := fun (V : World) (hV : Below w1.heap.size w1 V) => areStopsR_any S p q c d l pl cl V hn1 hl1 (HL.out.bel hV)
  rw [hst] at has
  have HAS := Lib.hid has; clear has hst

  clear hrd ht hil hgl hb1 hz1 hF hR hl
  go_enter Tryd.func5, Tryd.ntmps5
  go_wp2_with (first | (go_at_call 21; refine HRD.out.mono ?_; rintro e w2 ⟨rfl, hb2⟩; go_must (have h2 := H1.out.below hb2; have H2 := Lib.hid h2; clear g0 g1 g2 g3 g4 g5; obtain ⟨g0, g1, g2, g3, g4, g5⟩ := h2; have HB2 := Lib.hid (bT HB1.out hb2); clear hb2)) | (go_at_call 22; refine (HAS.out _ HB2.out).mono ?_; rintro e w3 ⟨rfl, hb3⟩; go_must (have h3 := H2.out.below hb3; have H3 := Lib.hid h3; clear g0 g1 g2 g3 g4 g5; obtain ⟨g0, g1, g2, g3, g4, g5⟩ := h3; have HB3 := Lib.hid (bT HB2.out hb3); clear hb3)) | (go_at_call 7; refine (works_ex _ (HG1.out.below (by first | exact HB5.out | exact HB3.out | exact HB2.out))).mono ?_; rintro e w6 ⟨rfl, hb6⟩; go_must (have HB6 := Lib.hid (bT (by first | exact HB5.out | exact HB3.out | exact HB2.out) hb6); clear hb6)))
  go_ret
  exact ⟨rfl, bT HB0.out HB6.out⟩

set_option maxRecDepth 100000 in
set_option maxHeartbeats 4000000 in
theorem ring_d (S : Shaft) (p q : Option Addr) (c d : Nat) (l : List Int) (pl : Option Addr) (cl : Nat) (y : Int) (w : World) (hgl : GlobsOk laid w) (hF : S.F.length ≤ maxLen) (hR : S.R.length ≤ maxLen) (hl : l.length ≤ maxLen) (ht : ShaftIn w w.heap.size S p q) (hil : ListIn w w.heap.size l pl) (hr : rdy S = true) (hll : l.length ≤ 40) (hn1 : S.F.length ≤ 1000000) (hst : S.stops l = true) (hwn : within y 1 (S.F.length : Int) = false) :
    Calls Tryd.prog 5 #[.agg #[.slice q S.R.length d, .slice p S.F.length c, .int .i64 S.D, .int .i64 S.H, .int .i64 S.T], .slice pl l.length cl, .int .i64 y] w fun e w' => e = .returned (.bool true) ∧ Below w.heap.size w w' := by
  have hl9 : l.length ≤ 9223372036854775807 := hl
  obtain ⟨w1, hw1, hb1, hz1, x1⟩ := box_shaft w S p q c d
  have H1 := Lib.hid x1
  have HB0 := Lib.hid hb1
  have HB1 := Lib.hid (Below.refl w1.heap.size w1)
  have HT := Lib.hid (ht.bel hb1); have HL := Lib.hid (hil.bel hb1); have HG1 := Lib.hid (hgl.below hb1)
  obtain ⟨g0, g1, g2, g3, g4, g5⟩ := x1
  have hrd := ready_any S p q c d w1 hF hR HT.out
  rw [hr] at hrd
  have HRD := Lib.hid hrd
  clear hr
  have d1 : decide ((40 : Int) < (l.length : Int)) = false := decide_eq_false (by omega)
  have hl1 : l.length ≤ 1000000 := by omega
  have has := fun (V : World) (hV : Below w1.heap.size w1 V) => areStopsR_any S p q c d l pl cl V hn1 hl1 (HL.out.bel hV)
  rw [hst] at has
  have HAS := Lib.hid has; clear has hst
  have hwi := fun (V : World) => within1_any y 1 (S.F.length : Int) V
  rw [hwn] at hwi
  have HWI := Lib.hid hwi; clear hwi hwn

  clear hrd ht hil hgl hb1 hz1 hF hR hl
  go_enter Tryd.func5, Tryd.ntmps5
  go_wp2_with (first | (go_at_call 21; refine HRD.out.mono ?_; rintro e w2 ⟨rfl, hb2⟩; go_must (have h2 := H1.out.below hb2; have H2 := Lib.hid h2; clear g0 g1 g2 g3 g4 g5; obtain ⟨g0, g1, g2, g3, g4, g5⟩ := h2; have HB2 := Lib.hid (bT HB1.out hb2); clear hb2)) | (go_at_call 22; refine (HAS.out _ HB2.out).mono ?_; rintro e w3 ⟨rfl, hb3⟩; go_must (have h3 := H2.out.below hb3; have H3 := Lib.hid h3; clear g0 g1 g2 g3 g4 g5; obtain ⟨g0, g1, g2, g3, g4, g5⟩ := h3; have HB3 := Lib.hid (bT HB2.out hb3); clear hb3)) | (go_at_call 23; refine (HWI.out _).mono ?_; rintro e w4 ⟨rfl, rfl⟩) | (go_at_call 7; refine (works_ex _ (HG1.out.below (by first | exact HB5.out | exact HB3.out | exact HB2.out))).mono ?_; rintro e w6 ⟨rfl, hb6⟩; go_must (have HB6 := Lib.hid (bT (by first | exact HB5.out | exact HB3.out | exact HB2.out) hb6); clear hb6)))
  go_ret
  exact ⟨rfl, bT HB0.out HB6.out⟩

set_option maxRecDepth 100000 in
set_option maxHeartbeats 4000000 in
theorem ring_e (S : Shaft) (p q : Option Addr) (c d : Nat) (l : List Int) (pl : Option Addr) (cl : Nat) (y : Int) (w : World) (hgl : GlobsOk laid w) (hF : S.F.length ≤ maxLen) (hR : S.R.length ≤ maxLen) (hl : l.length ≤ maxLen) (ht : ShaftIn w w.heap.size S p q) (hil : ListIn w w.heap.size l pl) (hr : rdy S = true) (hll : l.length ≤ 40) (hn1 : S.F.length ≤ 1000000) (hst : S.stops l = true) (hwn : within y 1 (S.F.length : Int) = true) (hyl : decide (y ∈ l) = true) :
    Calls Tryd.prog 5 #[.agg #[.slice q S.R.length d, .slice p S.F.length c, .int .i64 S.D, .int .i64 S.H, .int .i64 S.T], .slice pl l.length cl, .int .i64 y] w fun e w' => e = .returned (.bool true) ∧ Below w.heap.size w w' := by
  have hl9 : l.length ≤ 9223372036854775807 := hl
  obtain ⟨w1, hw1, hb1, hz1, x1⟩ := box_shaft w S p q c d
  have H1 := Lib.hid x1
  have HB0 := Lib.hid hb1
  have HB1 := Lib.hid (Below.refl w1.heap.size w1)
  have HT := Lib.hid (ht.bel hb1); have HL := Lib.hid (hil.bel hb1); have HG1 := Lib.hid (hgl.below hb1)
  obtain ⟨g0, g1, g2, g3, g4, g5⟩ := x1
  have hrd := ready_any S p q c d w1 hF hR HT.out
  rw [hr] at hrd
  have HRD := Lib.hid hrd
  clear hr
  have d1 : decide ((40 : Int) < (l.length : Int)) = false := decide_eq_false (by omega)
  have hl1 : l.length ≤ 1000000 := by omega
  have has := fun (V : World) (hV : Below w1.heap.size w1 V) => areStopsR_any S p q c d l pl cl V hn1 hl1 (HL.out.bel hV)
  rw [hst] at has
  have HAS := Lib.hid has; clear has hst
  have hwi := fun (V : World) => within1_any y 1 (S.F.length : Int) V
  rw [hwn] at hwi
  have HWI := Lib.hid hwi; clear hwi hwn
  have hin := fun (V : World) (hV : Below w1.heap.size w1 V) => inR_any l pl cl y V hl1 (HL.out.bel hV)
  rw [hyl] at hin
  have HIN := Lib.hid hin; clear hin

  clear hrd ht hil hgl hb1 hz1 hF hR hl
  go_enter Tryd.func5, Tryd.ntmps5
  go_wp2_with (first | (go_at_call 21; refine HRD.out.mono ?_; rintro e w2 ⟨rfl, hb2⟩; go_must (have h2 := H1.out.below hb2; have H2 := Lib.hid h2; clear g0 g1 g2 g3 g4 g5; obtain ⟨g0, g1, g2, g3, g4, g5⟩ := h2; have HB2 := Lib.hid (bT HB1.out hb2); clear hb2)) | (go_at_call 22; refine (HAS.out _ HB2.out).mono ?_; rintro e w3 ⟨rfl, hb3⟩; go_must (have h3 := H2.out.below hb3; have H3 := Lib.hid h3; clear g0 g1 g2 g3 g4 g5; obtain ⟨g0, g1, g2, g3, g4, g5⟩ := h3; have HB3 := Lib.hid (bT HB2.out hb3); clear hb3)) | (go_at_call 23; refine (HWI.out _).mono ?_; rintro e w4 ⟨rfl, rfl⟩) | (go_at_call 24; refine (HIN.out _ HB3.out).mono ?_; rintro e w5 ⟨rfl, hb5⟩; go_must (have h5 := H3.out.below hb5; have H5 := Lib.hid h5; clear g0 g1 g2 g3 g4 g5; obtain ⟨g0, g1, g2, g3, g4, g5⟩ := h5; have HB5 := Lib.hid (bT HB3.out hb5); clear hb5)) | (go_at_call 7; refine (works_ex _ (HG1.out.below (by first | exact HB5.out | exact HB3.out | exact HB2.out))).mono ?_; rintro e w6 ⟨rfl, hb6⟩; go_must (have HB6 := Lib.hid (bT (by first | exact HB5.out | exact HB3.out | exact HB2.out) hb6); clear hb6)))
  go_ret
  exact ⟨rfl, bT HB0.out HB6.out⟩

end Go.Proofs.YtaaocomgmacjnabDoor
