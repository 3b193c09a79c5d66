/- Towns with worlds: ask and Left of the specification; Left of the program where the town is refused. -/
import Derived.Test.YtdjkbpenppdnlaaDoorE8

set_option linter.unusedSimpArgs false

set_option linter.unusedVariables false

namespace Go.Proofs.YtdjkbpenppdnlaaDoor

open Go.RowKit

def askE (b is : Bool) : Int := if b then (if is then 0 else 1) else 50
theorem checkR_is {T : Tn} {A : Adr} {b : Int} (hb : chkE T.ok = b) (w : World) (hs : T.sized) (hi : TnIn w w.heap.size T A) :
    Calls Tryd.prog 19 #[.agg #[.int .i64 T.wn, .slice A.wp T.nw A.wc, .slice A.fp T.nf A.fc]] w fun e w' => e = .returned (.int .i64 b) ∧ Below w.heap.size w w' := by subst hb; exact checkR_any T A w hs hi
set_option maxRecDepth 100000 in
set_option maxHeartbeats 1000000 in
theorem askR_any (T : Tn) (A : Adr) (is : Bool) (w : World) (hs : T.sized) (hi : TnIn w w.heap.size T A) :
    Calls Tryd.prog 76 #[A.val T, .bool is] w fun e w' => e = .returned (.int .i64 (askE T.ok is)) ∧ Below w.heap.size w w' := by
  obtain ⟨w1, x, hw1, hb1, hz1, F0, F1, F2, _⟩ := box_tn w T.wn A.wp A.fp T.nw A.wc T.nf A.fc
  have HB := Lib.hid hb1
  have HI := Lib.hid (hi.bel (bT hb1 x.b))
  have HS := Lib.hid hs
  replace F0 := F0 x; replace F1 := F1 x; replace F2 := F2 x
  clear hb1 hz1 hi hs
  unfold Adr.val
  cases h : T.ok with
  | false =>
    have HC := Lib.hid (show chkE T.ok = 50 by rw [h]; rfl); clear h
    go_enter Tryd.func76, Tryd.ntmps76
    go_wp2_with fail
    refine (quiet_x (checkR_is HC.out _ HS.out HI.out)).mono ?_
    rintro e w5 ⟨rfl, y, rfl⟩
    go_wp2
    go_ret
    exact ⟨rfl, bT HB.out y.b⟩
  | true =>
    have HC := Lib.hid (show chkE T.ok = 0 by rw [h]; rfl); clear h
    cases is with
    | true =>
      go_enter Tryd.func76, Tryd.ntmps76
      go_wp2_with fail
      refine (quiet_x (checkR_is HC.out _ HS.out HI.out)).mono ?_
      rintro e w5 ⟨rfl, y, rfl⟩
      go_wp2
      go_ret
      exact ⟨rfl, bT HB.out y.b⟩
    | false =>
      go_enter Tryd.func76, Tryd.ntmps76
      go_wp2_with fail
      refine (quiet_x (checkR_is HC.out _ HS.out HI.out)).mono ?_
      rintro e w5 ⟨rfl, y, rfl⟩
      go_wp2
      go_ret
      exact ⟨rfl, bT HB.out y.b⟩
theorem leftR_no (T : Tn) (A : Adr) (w : World) (hs : T.sized) (hi : TnIn w w.heap.size T A) (hok : T.ok = false) :
    Calls Tryd.prog 21 #[A.val T] w fun e w' => e = .returned (.tuple #[.slice none 0 0, .int .i64 50]) ∧ Below w.heap.size w w' := by
  obtain ⟨w1, x, hw1, hb1, hz1, F0, F1, F2, _⟩ := box_tn w T.wn A.wp A.fp T.nw A.wc T.nf A.fc
  have HB := Lib.hid hb1
  have HI := Lib.hid (hi.bel (bT hb1 x.b))
  have HS := Lib.hid hs
  replace F0 := F0 x; replace F1 := F1 x; replace F2 := F2 x
  have HC := Lib.hid (show chkE T.ok = 50 by rw [hok]; rfl)
  clear hb1 hz1 hi hs hok
  unfold Adr.val
  go_enter Tryd.func21, Tryd.ntmps21
  go_wp2_with fail
  refine (quiet_x (checkR_is HC.out _ HS.out HI.out)).mono ?_
  rintro e w5 ⟨rfl, y, rfl⟩
  go_wp2
  refine bodyPost_ret (v := .tuple #[.slice none 0 0, .int .i64 50]) (by simp [results, Tryd.f21, go_sem]) rfl ⟨rfl, bT HB.out y.b⟩
theorem leftR_ok (T : Tn) (A : Adr) (w : World) (hs : T.sized) (hi : TnIn w w.heap.size T A) (hok : T.ok = true) :
    Calls Tryd.prog 21 #[A.val T] w fun e w' => ∃ v, e = .returned (.tuple #[v, .int .i64 0]) ∧ w'.ownsRow w.heap.size 3 1 v T.LL.length (cellsN T.LL) ∧ Below w.heap.size w w' := by
  obtain ⟨w1, x, hw1, hb1, hz1, F0, F1, F2, _⟩ := box_tn w T.wn A.wp A.fp T.nw A.wc T.nf A.fc
  have HB := Lib.hid hb1
  have HI : Hid (∀ z : Ext w1, TnIn z.v z.v.heap.size T A) := fun z => (hi.bel hb1).bel z.b
  have HS := Lib.hid hs
  have HO := Lib.hid hok
  have HC := Lib.hid (show chkE T.ok = 0 by rw [hok]; rfl)
  clear hb1 hz1 hi hs hok
  unfold Adr.val
  go_enter Tryd.func21, Tryd.ntmps21
  go_wp2_with fail
  refine (quiet_x (checkR_is HC.out _ HS.out (HI.out x))).mono ?_
  rintro e w5 ⟨rfl, y, rfl⟩
  have HL := Lib.hid (leftOfR_any T A y.v HO.out (HI.out y))
  unfold Adr.val at HL
  go_wp2_with fail
  refine (HL.out).mono ?_
  rintro e w6 ⟨v, rfl, hown, hb6⟩
  have HB6 := Lib.hid (bT HB.out (bT y.b hb6))
  have HW := Lib.hid (own_base hown (bT HB.out y.b).size)
  clear hown hb6
  go_wp2
  refine bodyPost_ret (v := .tuple #[v, .int .i64 0]) (by simp [results, Tryd.f21, go_sem]) rfl ⟨_, rfl, HW.out, HB6.out⟩
end Go.Proofs.YtdjkbpenppdnlaaDoor
