/- QuarrelsTotal: for every town, draws and well Total and Blame of the program are those of the specification. -/
import Derived.Test.YtdjkbpenppdnlaaDoorJ6

set_option linter.unusedSimpArgs false

set_option linter.unusedVariables false

namespace Go.Proofs.YtdjkbpenppdnlaaDoor

open Go.RowKit

theorem tot_c (T : Tn) (m : Nat) (d : Nat → Int) (k : Int) (hs : T.sized) (hm : m ≤ maxLen) : ∃ a b er, (∀ (B : Adr) (p : Option Addr) (c : Nat) (z : World), TnIn z z.heap.size T B → At z z.heap.size p m 1 (fun q => .int .i64 (d q)) → GlobsOk laid z → SpanC 30 #[.agg #[.int .i64 T.wn, .slice B.wp T.nw B.wc, .slice B.fp T.nf B.fc], .slice p m c, .int .i64 k] a b er z) ∧
    (∀ (B : Adr) (p : Option Addr) (c : Nat) (z : World), TnIn z z.heap.size T B → At z z.heap.size p m 1 (fun q => .int .i64 (d q)) → SpanC 31 #[.agg #[.int .i64 T.wn, .slice B.wp T.nw B.wc, .slice B.fp T.nf B.fc], .slice p m c, .int .i64 k] a b er z) := by
  by_cases h : T.wkE (T.isD m d k) = 0
  · exact ⟨_, _, _, fun B p c z hi hp hg => totP_ok T B m c d p k z hs hi hm hp hg h, fun B p c z hi hp => totR_ok T B m c d p k z hs hi hm hp h⟩
  · exact ⟨_, _, _, fun B p c z hi hp _ => totP_no T B m c d p k _ z hs hi hm hp rfl h, fun B p c z hi hp => totR_no T B m c d p k _ z hs hi hm hp rfl h⟩
theorem blm_c (T : Tn) (m : Nat) (d : Nat → Int) (k : Int) (hs : T.sized) (hm : m ≤ maxLen) : ∃ a er, (∀ (B : Adr) (p : Option Addr) (c : Nat) (z : World), TnIn z z.heap.size T B → At z z.heap.size p m 1 (fun q => .int .i64 (d q)) → GlobsOk laid z → IntC 32 #[.agg #[.int .i64 T.wn, .slice B.wp T.nw B.wc, .slice B.fp T.nf B.fc], .slice p m c, .int .i64 k] a er z) ∧
    (∀ (B : Adr) (p : Option Addr) (c : Nat) (z : World), TnIn z z.heap.size T B → At z z.heap.size p m 1 (fun q => .int .i64 (d q)) → IntC 33 #[.agg #[.int .i64 T.wn, .slice B.wp T.nw B.wc, .slice B.fp T.nf B.fc], .slice p m c, .int .i64 k] a er z) := by
  by_cases h : T.wkE (T.isD m d k) = 0
  · exact ⟨_, _, fun B p c z hi hp hg => blmP_ok T B m c d p k z hs hi hm hp hg h, fun B p c z hi hp => blmR_ok T B m c d p k z hs hi hm hp h⟩
  · exact ⟨_, _, fun B p c z hi hp _ => blmP_no T B m c d p k _ z hs hi hm hp rfl h, fun B p c z hi hp => blmR_no T B m c d p k _ z hs hi hm hp rfl h⟩
set_option maxRecDepth 100000 in
set_option maxHeartbeats 4000000 in
theorem total_law (T : Tn) (A : Adr) (m : Nat) (d : Nat → Int) (dp : Option Addr) (dc : Nat) (k : Int) (W : World) (hg : GlobsOk laid W) (hT : TnIn W W.heap.size T A) (hnw : T.nw ≤ maxLen) (hnf : T.nf ≤ maxLen) (hrl : ∀ k, k < T.nw → T.rl k ≤ maxLen ∧ ∀ i, i < T.rl k → T.cl k i ≤ maxLen) (hm : m ≤ maxLen) (hd : At W W.heap.size dp m 1 (fun q => .int .i64 (d q))) :
    Calls Tryd.prog 5 #[A.val T, .slice dp m dc, .int .i64 k] W fun e w' => e = .returned (.bool true) ∧ Below W.heap.size W w' := by
  obtain ⟨w1, x, hw1, hb1, hz1, F0, F1, F2, _⟩ := box_tn W T.wn A.wp A.fp T.nw A.wc T.nf A.fc
  have HB : Hid (∀ z : Ext w1, Below W.heap.size W z.v) := fun z => bT hb1 z.b
  have HI : Hid (∀ z : Ext w1, TnIn z.v z.v.heap.size T A) := fun z => hT.bel (HB.out z)
  have HP : Hid (∀ z : Ext w1, At z.v z.v.heap.size dp m 1 (fun q => .int .i64 (d q))) := fun z => hd.bel (HB.out z)
  have HG : Hid (∀ z : Ext w1, GlobsOk laid z.v) := fun z => hg.below (HB.out z)
  have HH : Hid (∀ (b : Bool), (!T.sizedB) = b → ∀ z : Ext w1, Calls Tryd.prog 15 #[.agg #[.int .i64 T.wn, .slice A.wp T.nw A.wc, .slice A.fp T.nf A.fc]] z.v fun e w' => e = .returned (.bool b) ∧ Below z.v.heap.size z.v w') := fun b hb z => huge_is hb z.v hnw hnf hrl (HI.out z)
  have HM := Lib.hid hm
  obtain ⟨i3, hi3, hz3, hz3', hz3''⟩ := info_parts infoI
  have I3 := Lib.hid hi3; have Z3 := Lib.hid hz3; have Z3' := Lib.hid hz3'; have Z3'' := Lib.hid hz3''
  clear hb1 hz1 hT hg hnw hnf hrl hd hi3 hz3 hz3' hz3''
  unfold maxLen at hm
  unfold Adr.val
  have f0 := F0 x; have f1 := F1 x; have f2 := F2 x
  cases hz : T.sizedB with
  | false =>
    have HH1 := Lib.hid (HH.out true (by rw [hz]; rfl))
    clear hz
    go_enter Tryd.func5, Tryd.ntmps5
    go_wp2_with fail
    refine (quiet_x (HH1.out x)).mono ?_
    rintro e w5 ⟨rfl, y, rfl⟩
    go_wp2_with fail
    refine (quiet_x (works_ex y.v (HG.out y))).mono ?_
    rintro e w6 ⟨rfl, z, rfl⟩
    go_wp2
    go_ret
    exact ⟨rfl, HB.out z⟩
  | true =>
    have HH1 := Lib.hid (HH.out false (by rw [hz]; rfl))
    by_cases h40 : 40 < m
    · have j40 : decide (40 < (m : Int)) = true := by simp; omega
      clear hz h40
      go_enter Tryd.func5, Tryd.ntmps5
      go_wp2_with fail
      refine (quiet_x (HH1.out x)).mono ?_
      rintro e w5 ⟨rfl, y, rfl⟩
      go_wp2_with fail
      refine (quiet_x (works_ex y.v (HG.out y))).mono ?_
      rintro e w6 ⟨rfl, z, rfl⟩
      go_wp2
      go_ret
      exact ⟨rfl, HB.out z⟩
    have j40 : decide (40 < (m : Int)) = false := by simp; omega
    have hs : T.sized := sizedB_iff.1 hz
    have HS := Lib.hid hs
    have HM4 := Lib.hid (show m ≤ 40 by omega)
    obtain ⟨a1, b1, e1, HP1', HR1'⟩ := tot_c T m d k hs HM.out
    obtain ⟨a2, e2, HP2', HR2'⟩ := blm_c T m d k hs HM.out
    have HP1 := Lib.hid HP1'; have HR1 := Lib.hid HR1'; have HP2 := Lib.hid HP2'; have HR2 := Lib.hid HR2'
    clear hz hs HP1' HR1' HP2' HR2' h40 hm
    have j1 : (e1 == e1) = true := by simp
    have j2 : (e2 == e2) = true := by simp
    have j3 : (a2 == a2) = true := by simp
    go_enter Tryd.func5, Tryd.ntmps5
    go_wp2_with fail
    refine (quiet_x (HH1.out x)).mono ?_
    rintro e w5 ⟨rfl, y, rfl⟩
    clear f0 f1 f2
    have f0 := F0 y; have f1 := F1 y; have f2 := F2 y
    go_wp2_with fail
    refine (copy_any T A y.v HS.out (HI.out y)).mono ?_
    rintro e w3 ⟨B, rfl, hb3, hf3⟩
    obtain ⟨y3, rfl⟩ : ∃ z : Ext w1, w3 = z.v := ⟨⟨w3, bT y.b hb3⟩, rfl⟩
    have HF3 := Lib.hid hf3.out
    clear hb3 hf3 j40
    unfold Adr.val
    obtain ⟨y4, hy4⟩ : ∃ z : Ext w1, y3.v.alloc (Obj.cells #[] 3) = z.v := ⟨⟨_, bA y3.b _⟩, rfl⟩
    have HY4 := Lib.hid (show Below y3.v.heap.size y3.v y4.v by rw [← hy4]; exact bA (Below.refl _ _) _)
    go_wp2_with (at_builtin; refine wpList_append_copy rfl (.tmp 27) (.tmp 28) 31 rfl 3 i3 _ 1 8 Tryd.underlying31 I3.out Z3.out Z3'.out Z3''.out rfl (by decide) _ (by simp [Act.eval, Act.put]; rfl) dp m dc (by simp [Act.eval, Act.put]) ((HP.out y4).src (fun _ _ => rfl)) HM.out (by have := HM4.out; omega) ?_)
    intro p5 c5 w5 hc5
    obtain ⟨y5, rfl⟩ : ∃ z : Ext w1, w5 = z.v := ⟨⟨w5, bT y4.b hc5.below⟩, rfl⟩
    have HY5 := Lib.hid (bT HY4.out hc5.below)
    have hc6 : CopiedF y4.v y5.v dp (m * 1) p5 := by rw [Nat.mul_one]; exact hc5
    have HD5 : Hid (At y5.v y5.v.heap.size p5 m 1 (fun q => .int .i64 (d q))) := fun h0 => by
      obtain ⟨g, a, b, c, d⟩ := copied_cells (by decide) (HP.out y4) hc6 h0
      exact ⟨g, 0, a, c, d⟩
    clear hc5 hc6 hy4 f0 f1 f2
    obtain ⟨w4, x4, hw4, hb4, hz4, O0, O1, O2, _⟩ := box_tn y5.v T.wn B.wp B.fp T.nw B.wc T.nf B.fc
    have hb34 : ∀ z : Ext w4, Below w1.heap.size w1 z.v := fun z => bT y5.b (bT hb4 z.b)
    have HI4 : Hid (∀ z : Ext w4, TnIn z.v z.v.heap.size T A) := fun z => HI.out ⟨z.v, hb34 z⟩
    have HP4 : Hid (∀ z : Ext w4, At z.v z.v.heap.size dp m 1 (fun q => .int .i64 (d q))) := fun z => HP.out ⟨z.v, hb34 z⟩
    have HD4 : Hid (∀ z : Ext w4, At z.v z.v.heap.size p5 m 1 (fun q => .int .i64 (d q))) := fun z => HD5.out.bel (bT hb4 z.b)
    have HB4 : Hid (∀ z : Ext w4, TnIn z.v z.v.heap.size T B) := fun z => HF3.out.bel (bT HY5.out (bT hb4 z.b))
    have HG4 : Hid (∀ z : Ext w4, GlobsOk laid z.v) := fun z => HG.out ⟨z.v, hb34 z⟩
    have HE4 := Lib.hid hb34
    have P0 : ∀ z : Ext w4, z.v.cell? ⟨W.heap.size, 0, none⟩ = some (.int .i64 T.wn) := fun z => F0 ⟨z.v, HE4.out z⟩
    have P1 : ∀ z : Ext w4, z.v.cell? ⟨W.heap.size, 1, none⟩ = some (.slice A.wp T.nw A.wc) := fun z => F1 ⟨z.v, HE4.out z⟩
    have P2 : ∀ z : Ext w4, z.v.cell? ⟨W.heap.size, 2, none⟩ = some (.slice A.fp T.nf A.fc) := fun z => F2 ⟨z.v, HE4.out z⟩
    obtain ⟨go, hgo⟩ : ∃ g, y5.v.heap.size = g := ⟨_, rfl⟩
    rw [hgo] at O0 O1 O2
    have o0 := O0 x4; have o1 := O1 x4; have o2 := O2 x4
    clear hb4 hz4 hb34 F0 F1 F2
    go_wp2_with fail
    refine (quiet_x (HP1.out B p5 c5 x4.v (HB4.out x4) (HD4.out x4) (HG4.out x4))).mono ?_
    rintro e w6 ⟨rfl, z1, rfl⟩
    clear hw4 hw1 hgo o0 o1 o2
    obtain ⟨ws, hws, hbs, hls, s0, s1, sf⟩ := box_s2 z1.v a1 b1
    obtain ⟨z2, hz2⟩ : ∃ z : Ext w4, ws = z.v := ⟨⟨ws, bT z1.b hbs⟩, rfl⟩
    have HSA := Lib.hid (show SpAt z2.v z1.v.heap.size a1 b1 by rw [← hz2]; exact ⟨hls, s0, s1, sf⟩)
    rw [hz2] at hws
    clear hz2 hbs hls s0 s1 sf
    have o0 := P0 z2; have o1 := P1 z2; have o2 := P2 z2
    go_wp2_with fail
    refine (HR1.out A dp dc z2.v (HI4.out z2) (HP4.out z2)).mono ?_
    rintro e w7 ⟨rfl, hb⟩
    obtain ⟨z3, rfl⟩ : ∃ z : Ext w4, w7 = z.v := ⟨⟨w7, bT z2.b hb⟩, rfl⟩
    obtain ⟨ga, hga⟩ : ∃ g, z1.v.heap.size = g := ⟨_, rfl⟩
    try rw [hga]
    rw [hga] at HSA
    replace HSA := Lib.hid (HSA.out.bel hb)
    clear hb hws hga o0 o1 o2
    obtain ⟨ws, hws, hbs, hls, s0, s1, sf⟩ := box_s2 z3.v a1 b1
    obtain ⟨z4, hz4⟩ : ∃ z : Ext w4, ws = z.v := ⟨⟨ws, bT z3.b hbs⟩, rfl⟩
    have HSB := Lib.hid (show SpAt z4.v z3.v.heap.size a1 b1 by rw [← hz4]; exact ⟨hls, s0, s1, sf⟩)
    replace HSA := Lib.hid (show SpAt z4.v ga a1 b1 by rw [← hz4]; exact HSA.out.bel hbs)
    rw [hz4] at hws
    clear hz4 hbs hls s0 s1 sf
    have o0 := O0 z4; have o1 := O1 z4; have o2 := O2 z4
    go_wp2_with fail
    refine (HP2.out B p5 c5 z4.v (HB4.out z4) (HD4.out z4) (HG4.out z4)).mono ?_
    rintro e w8 ⟨rfl, hb⟩
    obtain ⟨z5, rfl⟩ : ∃ z : Ext w4, w8 = z.v := ⟨⟨w8, bT z4.b hb⟩, rfl⟩
    obtain ⟨gb, hgb⟩ : ∃ g, z3.v.heap.size = g := ⟨_, rfl⟩
    try rw [hgb]
    rw [hgb] at HSB
    replace HSA := Lib.hid (HSA.out.bel hb)
    replace HSB := Lib.hid (HSB.out.bel hb)
    clear hb hws hgb o0 o1 o2
    have o0 := P0 z5; have o1 := P1 z5; have o2 := P2 z5
    go_wp2_with fail
    refine (HR2.out A dp dc z5.v (HI4.out z5) (HP4.out z5)).mono ?_
    rintro e w9 ⟨rfl, hb⟩
    obtain ⟨z6, rfl⟩ : ∃ z : Ext w4, w9 = z.v := ⟨⟨w9, bT z5.b hb⟩, rfl⟩
    replace HSA := Lib.hid (HSA.out.bel hb)
    replace HSB := Lib.hid (HSB.out.bel hb)
    clear hb o0 o1 o2
    have o0 := O0 z6; have o1 := O1 z6; have o2 := O2 z6; have p0 := P0 z6; have p1 := P1 z6; have p2 := P2 z6
    have s0 := HSA.out.c0; have s1 := HSA.out.c1; have t0 := HSB.out.c0; have t1 := HSB.out.c1
    go_wp2_with fail
    refine (quiet_x (same_any T B A z6.v HS.out (HB4.out z6) (HI4.out z6))).mono ?_
    rintro e w12 ⟨rfl, u7, rfl⟩
    go_wp2_with fail
    refine (quiet_x (sameInts_is u7.v HM.out (HD4.out u7) (HP4.out u7))).mono ?_
    rintro e w13 ⟨rfl, u8, rfl⟩
    go_wp2_with fail
    refine (quiet_x (works_ex u8.v (HG4.out u8))).mono ?_
    rintro e w14 ⟨rfl, u9, rfl⟩
    go_wp2
    go_ret
    exact ⟨rfl, HB.out ⟨u9.v, HE4.out u9⟩⟩
end Go.Proofs.YtdjkbpenppdnlaaDoor
