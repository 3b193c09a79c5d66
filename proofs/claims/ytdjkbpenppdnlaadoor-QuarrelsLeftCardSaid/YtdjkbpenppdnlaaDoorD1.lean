/- QuarrelsLeft: for every town and world Check, Left and Out of the program are those of the specification. -/
import Derived.Test.YtdjkbpenppdnlaaDoorD0

set_option linter.unusedSimpArgs false

set_option linter.unusedVariables false

namespace Go.Proofs.YtdjkbpenppdnlaaDoor

open Go.RowKit

set_option maxRecDepth 100000 in
set_option maxHeartbeats 4000000 in
theorem left_law (T : Tn) (A : Adr) (k : Int) (W : World) (hg : GlobsOk laid W) (hT : TnIn W W.heap.size T A) (hnw : T.nw ≤ maxLen) (hnf : T.nf ≤ maxLen) (hrl : ∀ k, k < T.nw → T.rl k ≤ maxLen ∧ ∀ i, i < T.rl k → T.cl k i ≤ maxLen) :
    Calls Tryd.prog 3 #[A.val T, .int .i64 k] W fun e w' => e = .returned (.bool true) ∧ Below W.heap.size W w' := by
  obtain ⟨w1, x, hw1, hb1, hz1, F0, F1, F2, _⟩ := box_tn W T.wn A.wp A.fp T.nw A.wc T.nf A.fc
  have HB := Lib.hid hb1
  have HI : Hid (∀ z : Ext w1, TnIn z.v z.v.heap.size T A) := fun z => (hT.bel hb1).bel z.b
  have HG : Hid (∀ z : Ext w1, GlobsOk laid z.v) := fun z => hg.below (bT hb1 z.b)
  have HH : Hid (∀ (b : Bool), (!T.sizedB) = b → ∀ z : Ext w1, Calls Tryd.prog 15 #[.agg #[.int .i64 T.wn, .slice A.wp T.nw A.wc, .slice A.fp T.nf A.fc]] z.v fun e w' => e = .returned (.bool b) ∧ Below z.v.heap.size z.v w') := fun b hb z => huge_is hb z.v hnw hnf hrl (HI.out z)
  clear hb1 hz1 hT hg hnw hnf hrl
  unfold Adr.val
  have f0 := F0 x; have f1 := F1 x; have f2 := F2 x
  cases hz : T.sizedB with
  | false =>
    have HH1 := Lib.hid (HH.out true (by rw [hz]; rfl))
    clear hz
    go_enter Tryd.func3, Tryd.ntmps3
    go_wp2_with fail
    refine (quiet_x (HH1.out x)).mono ?_
    rintro e w5 ⟨rfl, y, rfl⟩
    go_wp2_with fail
    refine (quiet_x (works_ex y.v (HG.out y))).mono ?_
    rintro e w6 ⟨rfl, z, rfl⟩
    go_wp2
    go_ret
    exact ⟨rfl, bT HB.out z.b⟩
  | true =>
    have HH1 := Lib.hid (HH.out false (by rw [hz]; rfl))
    have hs : T.sized := sizedB_iff.1 hz
    have HS := Lib.hid hs
    obtain ⟨n1, f1', e1, n2, f2', e2, hn1, hn2, HC1', HC2', HL1', HL2', HO1', HO2'⟩ : ∃ n1 f1 e1 n2 f2 e2, n1 ≤ maxLen ∧ n2 ≤ maxLen ∧
        (∀ (B : Adr) (z : World), TnIn z z.heap.size T B → Calls Tryd.prog 18 #[.agg #[.int .i64 T.wn, .slice B.wp T.nw B.wc, .slice B.fp T.nf B.fc]] z fun e w' => e = .returned (.int .i64 e1) ∧ Below z.heap.size z w') ∧
        (∀ (B : Adr) (z : World), TnIn z z.heap.size T B → Calls Tryd.prog 19 #[.agg #[.int .i64 T.wn, .slice B.wp T.nw B.wc, .slice B.fp T.nf B.fc]] z fun e w' => e = .returned (.int .i64 e1) ∧ Below z.heap.size z w') ∧
        (∀ (B : Adr) (z : World), TnIn z z.heap.size T B → GlobsOk laid z → ListC 20 #[.agg #[.int .i64 T.wn, .slice B.wp T.nw B.wc, .slice B.fp T.nf B.fc]] n1 f1 e1 z) ∧
        (∀ (B : Adr) (z : World), TnIn z z.heap.size T B → ListC 21 #[.agg #[.int .i64 T.wn, .slice B.wp T.nw B.wc, .slice B.fp T.nf B.fc]] n1 f1 e1 z) ∧
        (∀ (B : Adr) (z : World), TnIn z z.heap.size T B → ListC 22 #[.agg #[.int .i64 T.wn, .slice B.wp T.nw B.wc, .slice B.fp T.nf B.fc], .int .i64 k] n2 f2 e2 z) ∧
        (∀ (B : Adr) (z : World), TnIn z z.heap.size T B → ListC 23 #[.agg #[.int .i64 T.wn, .slice B.wp T.nw B.wc, .slice B.fp T.nf B.fc], .int .i64 k] n2 f2 e2 z) :=
      ⟨_, _, _, _, _, _, leftL_len T, outL_len T k, fun B z hi => check_is rfl z hs hi, fun B z hi => checkR_is rfl z hs hi, fun B z hi hg => leftP_c T B z hs hi hg, fun B z hi => leftR_c T B z hs hi, fun B z hi => outP_c T B k z hs hi, fun B z hi => outR_c T B k z hs hi⟩
    have HC1 := Lib.hid HC1'; have HC2 := Lib.hid HC2'; have HL1 := Lib.hid HL1'; have HL2 := Lib.hid HL2'; have HO1 := Lib.hid HO1'; have HO2 := Lib.hid HO2'
    have HN1 := Lib.hid hn1; have HN2 := Lib.hid hn2
    clear hz hs HC1' HC2' HL1' HL2' HO1' HO2' hn1 hn2
    have j0 : (e1 != e1) = false := by simp
    have j1 : (e1 == e1) = true := by simp
    have j2 : (e2 == e2) = true := by simp
    go_enter Tryd.func3, Tryd.ntmps3
    go_wp2_with fail
    refine (quiet_x (HH1.out x)).mono ?_
    rintro e w5 ⟨rfl, y, rfl⟩
    clear f0 f1 f2
    have f0 := F0 y; have f1 := F1 y; have f2 := F2 y
    go_wp2_with fail
    refine (copy_any T A y.v HS.out (HI.out y)).mono ?_
    rintro e w3 ⟨B, rfl, hb3, hf3⟩
    obtain ⟨y3, rfl⟩ : ∃ z : Ext w1, w3 = z.v := ⟨⟨w3, bT y.b hb3⟩, rfl⟩
    have HF3 := Lib.hid hf3.out
    unfold Adr.val
    obtain ⟨w4, x4, hw4, hb4, hz4, O0, O1, O2, _⟩ := box_tn y3.v T.wn B.wp B.fp T.nw B.wc T.nf B.fc
    have hb34 : ∀ z : Ext w4, Below w1.heap.size w1 z.v := fun z => bT y3.b (bT hb4 z.b)
    have HI4 : Hid (∀ z : Ext w4, TnIn z.v z.v.heap.size T A) := fun z => HI.out ⟨z.v, hb34 z⟩
    have HB4 : Hid (∀ z : Ext w4, TnIn z.v z.v.heap.size T B) := fun z => HF3.out.bel (bT hb4 z.b)
    have HG4 : Hid (∀ z : Ext w4, GlobsOk laid z.v) := fun z => HG.out ⟨z.v, hb34 z⟩
    have HE4 := Lib.hid hb34
    have P0 : ∀ z : Ext w4, z.v.cell? ⟨W.heap.size, 0, none⟩ = some (.int .i64 T.wn) := fun z => F0 ⟨z.v, HE4.out z⟩
    have P1 : ∀ z : Ext w4, z.v.cell? ⟨W.heap.size, 1, none⟩ = some (.slice A.wp T.nw A.wc) := fun z => F1 ⟨z.v, HE4.out z⟩
    have P2 : ∀ z : Ext w4, z.v.cell? ⟨W.heap.size, 2, none⟩ = some (.slice A.fp T.nf A.fc) := fun z => F2 ⟨z.v, HE4.out z⟩
    obtain ⟨go, hgo⟩ : ∃ g, y3.v.heap.size = g := ⟨_, rfl⟩
    rw [hgo] at O0 O1 O2
    clear hb3 hf3 hb4 hz4 hb34 f0 f1 f2 F0 F1 F2
    go_wp2
    try rw [hgo]
    clear hw4 hgo hw1
    refine quiet_e (by kernel_rfl) (by kernel_rfl) ?_
    repeat (first | go_big_quiet_step ((first | (go_at_call 18; exact quiet_x (HC1.out _ _ (HB4.out _))) | (go_at_call 19; exact quiet_x (HC2.out _ _ (HI4.out _))))) | quiet_step ((first | (go_at_call 18; exact quiet_x (HC1.out _ _ (HB4.out _))) | (go_at_call 19; exact quiet_x (HC2.out _ _ (HI4.out _))))))
    refine wpQuiet_nil ?_
    intro w6 hw6
    obtain ⟨u, rfl⟩ := hw6
    have o0 := O0 u; have o1 := O1 u; have o2 := O2 u
    go_wp2_with fail
    refine (HL1.out B u.v (HB4.out u) (HG4.out u)).mono ?_
    rintro e w6 ⟨p1, c1, rfl, ha1, hb⟩
    obtain ⟨u1, rfl⟩ : ∃ z : Ext w4, w6 = z.v := ⟨⟨w6, bT u.b hb⟩, rfl⟩
    have HA1 := Lib.hid ha1
    clear ha1 hb o0 o1 o2
    have o0 := P0 u1; have o1 := P1 u1; have o2 := P2 u1
    go_wp2_with fail
    refine (HL2.out A u1.v (HI4.out u1)).mono ?_
    rintro e w7 ⟨p2, c2, rfl, ha2, hb⟩
    obtain ⟨u2, rfl⟩ : ∃ z : Ext w4, w7 = z.v := ⟨⟨w7, bT u1.b hb⟩, rfl⟩
    replace HA1 := Lib.hid (HA1.out.bel hb)
    have HA2 := Lib.hid ha2
    clear ha2 hb o0 o1 o2
    have o0 := O0 u2; have o1 := O1 u2; have o2 := O2 u2
    go_wp2_with fail
    refine (HO1.out B u2.v (HB4.out u2)).mono ?_
    rintro e w8 ⟨p3, c3, rfl, ha3, hb⟩
    obtain ⟨u3, rfl⟩ : ∃ z : Ext w4, w8 = z.v := ⟨⟨w8, bT u2.b hb⟩, rfl⟩
    replace HA1 := Lib.hid (HA1.out.bel hb)
    replace HA2 := Lib.hid (HA2.out.bel hb)
    have HA3 := Lib.hid ha3
    clear ha3 hb o0 o1 o2
    have o0 := P0 u3; have o1 := P1 u3; have o2 := P2 u3
    go_wp2_with fail
    refine (HO2.out A u3.v (HI4.out u3)).mono ?_
    rintro e w9 ⟨p4, c4, rfl, ha4, hb⟩
    obtain ⟨u4, rfl⟩ : ∃ z : Ext w4, w9 = z.v := ⟨⟨w9, bT u3.b hb⟩, rfl⟩
    replace HA1 := Lib.hid (HA1.out.bel hb)
    replace HA2 := Lib.hid (HA2.out.bel hb)
    replace HA3 := Lib.hid (HA3.out.bel hb)
    have HA4 := Lib.hid ha4
    clear ha4 hb o0 o1 o2
    go_wp2_with fail
    refine (sameInts_is u4.v HN1.out HA1.out HA2.out).mono ?_
    rintro e w10 ⟨rfl, hb⟩
    obtain ⟨u5, rfl⟩ : ∃ z : Ext w4, w10 = z.v := ⟨⟨w10, bT u4.b hb⟩, rfl⟩
    replace HA3 := Lib.hid (HA3.out.bel hb)
    replace HA4 := Lib.hid (HA4.out.bel hb)
    clear hb
    go_wp2_with fail
    refine (sameInts_is u5.v HN2.out HA3.out HA4.out).mono ?_
    rintro e w11 ⟨rfl, hb⟩
    obtain ⟨u6, rfl⟩ : ∃ z : Ext w4, w11 = z.v := ⟨⟨w11, bT u5.b hb⟩, rfl⟩
    clear hb
    have o0 := O0 u6; have o1 := O1 u6; have o2 := O2 u6
    have p0 := P0 u6; have p1 := P1 u6; have p2 := P2 u6
    go_wp2_with fail
    refine (quiet_x (same_any T B A u6.v HS.out (HB4.out u6) (HI4.out u6))).mono ?_
    rintro e w12 ⟨rfl, u7, rfl⟩
    go_wp2_with fail
    refine (quiet_x (works_ex u7.v (HG4.out u7))).mono ?_
    rintro e w13 ⟨rfl, u8, rfl⟩
    go_wp2
    go_ret
    exact ⟨rfl, bT HB.out (HE4.out u8)⟩
end Go.Proofs.YtdjkbpenppdnlaaDoor
