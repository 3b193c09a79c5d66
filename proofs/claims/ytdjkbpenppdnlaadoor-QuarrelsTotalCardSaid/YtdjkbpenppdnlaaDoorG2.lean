/- A town at work: work of the program. -/
import Derived.Test.YtdjkbpenppdnlaaDoorG1

import Derived.Test.YtdjkbpenppdnlaaDoorE11

import Derived.Carry

set_option linter.unusedSimpArgs false

set_option linter.unusedVariables false

namespace Go.Proofs.YtdjkbpenppdnlaaDoor

open Go.RowKit

/-- a town at work lies in block g -/
structure WkIn (w : World) (g : Nat) (T : Tn) (A : Adr) : Prop where
  lt : g < w.heap.size
  c0 : w.cell? ⟨g, 0, none⟩ = some (.int .i64 T.wn)
  c1 : w.cell? ⟨g, 1, none⟩ = some (.slice A.wp T.nw A.wc)
  c2 : w.cell? ⟨g, 2, none⟩ = some (.slice A.fp T.nf A.fc)
  c3 : w.cell? ⟨g, 3, none⟩ = some (.int .u64 ((mk T.lft T.nw : Nat) : Int))
theorem WkIn.bel {w w' : World} {g : Nat} {T : Tn} {A : Adr} (h : WkIn w g T A) (hb : Below w.heap.size w w') : WkIn w' g T A :=
  ⟨Nat.lt_of_lt_of_le h.lt hb.size, (hb.cell (p := ⟨g, 0, none⟩) h.lt).trans h.c0, (hb.cell (p := ⟨g, 1, none⟩) h.lt).trans h.c1, (hb.cell (p := ⟨g, 2, none⟩) h.lt).trans h.c2, (hb.cell (p := ⟨g, 3, none⟩) h.lt).trans h.c3⟩
/-- the error of a town that is asked for something of the worlds that are left -/
def Tn.wkE (T : Tn) (is : Bool) : Int := if askE T.ok is = 0 then (if T.LL = [] then 3 else 0) else askE T.ok is
theorem wkE_no {T : Tn} {is : Bool} (h : askE T.ok is ≠ 0) : T.wkE is = askE T.ok is := if_neg h
theorem popc_LL {T : Tn} (h : T.nw ≤ 6) : popc (mk T.lft T.nw) = T.LL.length := by unfold popc; rw [LL_bits h]
set_option maxRecDepth 100000 in
set_option maxHeartbeats 2000000 in
theorem work_no (T : Tn) (A : Adr) (is : Bool) (w : World) (hs : T.sized) (hi : TnIn w w.heap.size T A) (er : Int) (he : T.wkE is = er) (h0 : er ≠ 0) :
    Calls Tryd.prog 78 #[.agg #[.int .i64 T.wn, .slice A.wp T.nw A.wc, .slice A.fp T.nf A.fc], .bool is] w fun e w' => e = .returned (.tuple #[.pointer none, .int .i64 er]) ∧ Below w.heap.size w w' := by
  obtain ⟨w1, x, hw1, hb1, hz1, F0, F1, F2, _⟩ := box_tn w T.wn A.wp A.fp T.nw A.wc T.nf A.fc
  have HB := Lib.hid hb1
  have HI : Hid (∀ z : Ext w1, TnIn z.v z.v.heap.size T A) := fun z => (hi.bel hb1).bel z.b
  have HS := Lib.hid hs
  clear hb1 hz1 hi hs
  have f0 := F0 x; have f1 := F1 x; have f2 := F2 x
  cases hok : T.ok with
  | false =>
    have HE := Lib.hid (show (50 : Int) = er by rw [← he]; unfold Tn.wkE; rw [hok]; rfl)
    have HC := Lib.hid hok
    clear hok he h0
    go_enter Tryd.func78, Tryd.ntmps78
    go_wp2_with fail
    refine (quiet_x (valid_is HC.out _ HS.out (HI.out x))).mono ?_
    rintro e w5 ⟨rfl, y, rfl⟩
    go_wp2
    refine bodyPost_ret (v := .tuple #[.pointer none, .int .i64 50]) (by simp [results, Tryd.f78, go_sem]) rfl ⟨by rw [HE.out], bT HB.out y.b⟩
  | true =>
    have HC := Lib.hid hok
    cases is with
    | false =>
      have HE := Lib.hid (show (1 : Int) = er by rw [← he]; unfold Tn.wkE; rw [hok]; rfl)
      clear hok he h0
      go_enter Tryd.func78, Tryd.ntmps78
      go_wp2_with fail
      refine (quiet_x (valid_is HC.out _ HS.out (HI.out x))).mono ?_
      rintro e w5 ⟨rfl, y, rfl⟩
      go_wp2
      refine bodyPost_ret (v := .tuple #[.pointer none, .int .i64 1]) (by simp [results, Tryd.f78, go_sem]) rfl ⟨by rw [HE.out], bT HB.out y.b⟩
    | true =>
      have hnw := (T.ok_parts hok).2.1
      have hl : T.LL = [] := by
        rcases Classical.em (T.LL = []) with h | h
        · exact h
        · exfalso; apply h0; rw [← he]; unfold Tn.wkE; rw [hok]; simp [askE, h]
      have HE := Lib.hid (show (3 : Int) = er by rw [← he]; unfold Tn.wkE; rw [hok, hl]; rfl)
      have HM := Lib.hid (mk_64 (b := T.lft) hnw)
      have HP := Lib.hid (show popc (mk T.lft T.nw) = 0 by rw [popc_LL hnw, hl]; rfl)
      clear hok he h0 hl hnw
      go_enter Tryd.func78, Tryd.ntmps78
      go_wp2_with fail
      refine (quiet_x (valid_is HC.out _ HS.out (HI.out x))).mono ?_
      rintro e w5 ⟨rfl, y, rfl⟩
      clear f0 f1 f2
      have f0 := F0 y; have f1 := F1 y; have f2 := F2 y
      go_wp2_with fail
      refine (quiet_x (leftOf_any T A y.v HC.out (HI.out y))).mono ?_
      rintro e w6 ⟨rfl, z, rfl⟩
      clear f0 f1 f2
      go_wp2_with fail
      refine (count_any _ HM.out z.v).mono ?_
      rintro e w7 ⟨rfl, rfl⟩
      rw [HP.out]
      go_wp2
      refine bodyPost_ret (v := .tuple #[.pointer none, .int .i64 3]) (by simp [results, Tryd.f78, go_sem]) rfl ⟨by rw [HE.out], bT HB.out z.b⟩
theorem wkE_zero {T : Tn} {is : Bool} (h : T.wkE is = 0) : T.ok = true ∧ is = true ∧ T.LL ≠ [] := by
  unfold Tn.wkE askE at h
  cases h1 : T.ok with
  | false => rw [h1] at h; simp at h
  | true =>
    rw [h1] at h
    cases h2 : is with
    | false => rw [h2] at h; simp at h
    | true =>
      rw [h2] at h
      refine ⟨rfl, rfl, fun e => ?_⟩
      rw [e] at h; simp at h
set_option maxRecDepth 100000 in
set_option maxHeartbeats 2000000 in
theorem work_ok (T : Tn) (A : Adr) (is : Bool) (w : World) (hs : T.sized) (hi : TnIn w w.heap.size T A) (he : T.wkE is = 0) :
    Calls Tryd.prog 78 #[.agg #[.int .i64 T.wn, .slice A.wp T.nw A.wc, .slice A.fp T.nf A.fc], .bool is] w fun e w' => ∃ g, e = .returned (.tuple #[.pointer (some ⟨g, 0, none⟩), .int .i64 0]) ∧ w.heap.size ≤ g ∧ WkIn w' g T A ∧ Below w.heap.size w w' := by
  obtain ⟨w1, x, hw1, hb1, hz1, F0, F1, F2, _⟩ := box_tn w T.wn A.wp A.fp T.nw A.wc T.nf A.fc
  have HB := Lib.hid hb1
  have HI : Hid (∀ z : Ext w1, TnIn z.v z.v.heap.size T A) := fun z => (hi.bel hb1).bel z.b
  have HS := Lib.hid hs
  obtain ⟨hok, rfl, hl⟩ := wkE_zero he
  have hnw := (T.ok_parts hok).2.1
  have HC := Lib.hid hok
  have HM := Lib.hid (mk_64 (b := T.lft) hnw)
  obtain ⟨q, hq⟩ : ∃ q, popc (mk T.lft T.nw) = q := ⟨_, rfl⟩
  have HP := Lib.hid hq
  have hq0 : 0 < q := by rw [← hq, popc_LL hnw]; exact List.length_pos_iff.2 hl
  have j0 : ((q : Int) == 0) = false := by simp; omega
  clear hb1 hz1 hi hs hok hq he hl hnw
  have f0 := F0 x; have f1 := F1 x; have f2 := F2 x
  go_enter Tryd.func78, Tryd.ntmps78
  go_wp2_with fail
  refine (quiet_x (valid_is HC.out _ HS.out (HI.out x))).mono ?_
  rintro e w5 ⟨rfl, y, rfl⟩
  clear f0 f1 f2
  have f0 := F0 y; have f1 := F1 y; have f2 := F2 y
  go_wp2_with fail
  refine (quiet_x (leftOf_any T A y.v HC.out (HI.out y))).mono ?_
  rintro e w6 ⟨rfl, z, rfl⟩
  clear f0 f1 f2
  have f0 := F0 z; have f1 := F1 z; have f2 := F2 z
  go_wp2_with fail
  refine (count_any _ HM.out z.v).mono ?_
  rintro e w7 ⟨rfl, rfl⟩
  rw [HP.out]
  have hmm := @run_makeMap Tryd.prog
  obtain ⟨z2, hz2⟩ : ∃ z2 : Ext w1, z.v.alloc (Obj.map #[] 0) = z2.v := ⟨⟨_, bA z.b _⟩, rfl⟩
  have HZ2 := Lib.hid (show Below z.v.heap.size z.v z2.v by rw [← hz2]; exact bA (Below.refl _ _) _)
  go_wp2
  exact bodyPost_ret (v := .tuple #[.pointer (some ⟨z2.v.heap.size, 0, none⟩), .int .i64 0]) (by simp [results, Tryd.f78, go_sem]) rfl ⟨_, rfl, Nat.le_trans HB.out.size z2.b.size, ⟨by simp, by go_simp, by go_simp, by go_simp, by go_simp⟩, bA (bT HB.out z2.b) _⟩
end Go.Proofs.YtdjkbpenppdnlaaDoor
