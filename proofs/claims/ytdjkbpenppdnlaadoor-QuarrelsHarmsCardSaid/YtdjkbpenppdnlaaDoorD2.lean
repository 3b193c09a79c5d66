/- QuarrelsHarms: for every town, wells and law Between and Harms of the program are those of the specification. -/
import Derived.Test.YtdjkbpenppdnlaaDoorH3

set_option linter.unusedSimpArgs false

set_option linter.unusedVariables false

namespace Go.Proofs.YtdjkbpenppdnlaaDoor

open Go.RowKit

theorem box_ak (w : World) (a b c : Int) (p : Option Addr) (m k : Nat) :
    ∃ (w1 : World) (x : Ext w1), w.alloc (Obj.cells #[Value.int .i64 a, Value.int .i64 b, Value.int .i64 c, Value.slice p m k] 39) = x.v ∧ Below w.heap.size w w1 ∧ w1.heap.size = w.heap.size + 1 ∧
      (∀ x : Ext w1, x.v.cell? ⟨w.heap.size, 0, none⟩ = some (.int .i64 a)) ∧ (∀ x : Ext w1, x.v.cell? ⟨w.heap.size, 1, none⟩ = some (.int .i64 b)) ∧ (∀ x : Ext w1, x.v.cell? ⟨w.heap.size, 2, none⟩ = some (.int .i64 c)) ∧
      (∀ x : Ext w1, x.v.cell? ⟨w.heap.size, 3, none⟩ = some (.slice p m k)) := by
  have h0 : (w.alloc (Obj.cells #[Value.int .i64 a, Value.int .i64 b, Value.int .i64 c, Value.slice p m k] 39)).cell? ⟨w.heap.size, 0, none⟩ = some (.int .i64 a) := by go_simp
  have h1 : (w.alloc (Obj.cells #[Value.int .i64 a, Value.int .i64 b, Value.int .i64 c, Value.slice p m k] 39)).cell? ⟨w.heap.size, 1, none⟩ = some (.int .i64 b) := by go_simp
  have h2 : (w.alloc (Obj.cells #[Value.int .i64 a, Value.int .i64 b, Value.int .i64 c, Value.slice p m k] 39)).cell? ⟨w.heap.size, 2, none⟩ = some (.int .i64 c) := by go_simp
  have h3 : (w.alloc (Obj.cells #[Value.int .i64 a, Value.int .i64 b, Value.int .i64 c, Value.slice p m k] 39)).cell? ⟨w.heap.size, 3, none⟩ = some (.slice p m k) := by go_simp
  exact ⟨_, ⟨_, Below.refl _ _⟩, rfl, bA (Below.refl _ _) _, by simp, fun x => (x.b.cell (p := ⟨w.heap.size, 0, none⟩) (by simp)).trans h0, fun x => (x.b.cell (p := ⟨w.heap.size, 1, none⟩) (by simp)).trans h1, fun x => (x.b.cell (p := ⟨w.heap.size, 2, none⟩) (by simp)).trans h2, fun x => (x.b.cell (p := ⟨w.heap.size, 3, none⟩) (by simp)).trans h3⟩
theorem betw_c (T : Tn) (i k : Int) (hs : T.sized) : ∃ a b er, (∀ (B : Adr) (z : World), TnIn z z.heap.size T B → GlobsOk laid z → SpanC 26 #[.agg #[.int .i64 T.wn, .slice B.wp T.nw B.wc, .slice B.fp T.nf B.fc], .int .i64 i, .int .i64 k] a b er z) ∧
    (∀ (B : Adr) (z : World), TnIn z z.heap.size T B → SpanC 27 #[.agg #[.int .i64 T.wn, .slice B.wp T.nw B.wc, .slice B.fp T.nf B.fc], .int .i64 i, .int .i64 k] a b er z) := by
  by_cases h : T.wkE (T.is2 i k) = 0
  · exact ⟨_, _, _, fun B z hi hg => betwP_ok T B i k z hs hi hg h, fun B z hi => betwR_ok T B i k z hs hi h⟩
  · exact ⟨_, _, _, fun B z hi _ => betwP_no T B i k _ z hs hi rfl h, fun B z hi => betwR_no T B i k _ z hs hi rfl h⟩
theorem harm_c (T : Tn) (i k law : Int) (hs : T.sized) : ∃ a er, (∀ (B : Adr) (z : World), TnIn z z.heap.size T B → GlobsOk laid z → IntC 28 #[.agg #[.int .i64 T.wn, .slice B.wp T.nw B.wc, .slice B.fp T.nf B.fc], .int .i64 i, .int .i64 k, .int .i64 law] a er z) ∧
    (∀ (B : Adr) (z : World), TnIn z z.heap.size T B → IntC 29 #[.agg #[.int .i64 T.wn, .slice B.wp T.nw B.wc, .slice B.fp T.nf B.fc], .int .i64 i, .int .i64 k, .int .i64 law] a er z) := by
  by_cases h : T.wkE (T.is3 i k law) = 0
  · exact ⟨_, _, fun B z hi hg => harmP_ok T B i k law z hs hi hg h, fun B z hi => harmR_ok T B i k law z hs hi h⟩
  · exact ⟨_, _, fun B z hi _ => harmP_no T B i k law _ z hs hi rfl h, fun B z hi => harmR_no T B i k law _ z hs hi rfl h⟩
set_option maxRecDepth 100000 in
set_option maxHeartbeats 4000000 in
theorem harms_law (T : Tn) (A : Adr) (i k law : Int) (m : Nat) (df : Nat → Int) (dp : Option Addr) (dc : Nat) (W : World) (hg : GlobsOk laid W) (hT : TnIn W W.heap.size T A) (hnw : T.nw ≤ maxLen) (hnf : T.nf ≤ maxLen) (hrl : ∀ k, k < T.nw → T.rl k ≤ maxLen ∧ ∀ i, i < T.rl k → T.cl k i ≤ maxLen) (_hm : m ≤ maxLen) (_hd : At W W.heap.size dp m 1 (fun q => .int .i64 (df q))) :
    Calls Tryd.prog 4 #[A.val T, .agg #[.int .i64 i, .int .i64 k, .int .i64 law, .slice dp m dc]] W fun e w' => e = .returned (.bool true) ∧ Below W.heap.size W w' := by
  obtain ⟨wa, xa, hwa, hba, hza, E0, E1, E2, _⟩ := box_tn W T.wn A.wp A.fp T.nw A.wc T.nf A.fc
  obtain ⟨w1, x, hw1, hb1, hz1, X0, X1, X2, X3⟩ := box_ak xa.v i k law dp m dc
  have qa : ∀ z : Ext w1, Below wa.heap.size wa z.v := fun z => bT xa.b (bT hb1 z.b)
  have HB : Hid (∀ z : Ext w1, Below W.heap.size W z.v) := fun z => bT hba (qa z)
  have F0 : ∀ z : Ext w1, z.v.cell? ⟨W.heap.size, 0, none⟩ = some (.int .i64 T.wn) := fun z => E0 ⟨z.v, qa z⟩
  have F1 : ∀ z : Ext w1, z.v.cell? ⟨W.heap.size, 1, none⟩ = some (.slice A.wp T.nw A.wc) := fun z => E1 ⟨z.v, qa z⟩
  have F2 : ∀ z : Ext w1, z.v.cell? ⟨W.heap.size, 2, none⟩ = some (.slice A.fp T.nf A.fc) := fun z => E2 ⟨z.v, qa z⟩
  have HI : Hid (∀ z : Ext w1, TnIn z.v z.v.heap.size T A) := fun z => hT.bel (HB.out z)
  have HG : Hid (∀ z : Ext w1, GlobsOk laid z.v) := fun z => hg.below (HB.out z)
  have HH : Hid (∀ (b : Bool), (!T.sizedB) = b → ∀ z : Ext w1, Calls Tryd.prog 15 #[.agg #[.int .i64 T.wn, .slice A.wp T.nw A.wc, .slice A.fp T.nf A.fc]] z.v fun e w' => e = .returned (.bool b) ∧ Below z.v.heap.size z.v w') := fun b hb z => huge_is hb z.v hnw hnf hrl (HI.out z)
  obtain ⟨gx, hgx⟩ : ∃ g, xa.v.heap.size = g := ⟨_, rfl⟩
  rw [hgx] at X0 X1 X2 X3
  clear hba hza hb1 hz1 hT hg hnw hnf hrl qa E0 E1 E2 _hd
  unfold Adr.val
  have f0 := F0 x; have f1 := F1 x; have f2 := F2 x
  cases hz : T.sizedB with
  | false =>
    have HH1 := Lib.hid (HH.out true (by rw [hz]; rfl))
    clear hz
    go_enter Tryd.func4, Tryd.ntmps4
    go_wp2_with fail
    refine (quiet_x (HH1.out x)).mono ?_
    rintro e w5 ⟨rfl, y, rfl⟩
    go_wp2_with fail
    refine (quiet_x (works_ex y.v (HG.out y))).mono ?_
    rintro e w6 ⟨rfl, z, rfl⟩
    go_wp2
    go_ret
    exact ⟨rfl, HB.out z⟩
  | true =>
    have HH1 := Lib.hid (HH.out false (by rw [hz]; rfl))
    have hs : T.sized := sizedB_iff.1 hz
    have HS := Lib.hid hs
    obtain ⟨a1, b1, e1, HP1', HR1'⟩ := betw_c T i k hs
    obtain ⟨a2, e2, HP2', HR2'⟩ := harm_c T i k law hs
    have HP1 := Lib.hid HP1'; have HR1 := Lib.hid HR1'; have HP2 := Lib.hid HP2'; have HR2 := Lib.hid HR2'
    clear hz hs HP1' HR1' HP2' HR2'
    have j1 : (e1 == e1) = true := by simp
    have j2 : (e2 == e2) = true := by simp
    have j3 : (a2 == a2) = true := by simp
    go_enter Tryd.func4, Tryd.ntmps4
    go_wp2_with fail
    refine (quiet_x (HH1.out x)).mono ?_
    rintro e w5 ⟨rfl, y, rfl⟩
    clear f0 f1 f2
    have f0 := F0 y; have f1 := F1 y; have f2 := F2 y
    go_wp2_with fail
    refine (copy_any T A y.v HS.out (HI.out y)).mono ?_
    rintro e w3 ⟨B, rfl, hb3, hf3⟩
    obtain ⟨y3, rfl⟩ : ∃ z : Ext w1, w3 = z.v := ⟨⟨w3, bT y.b hb3⟩, rfl⟩
    have HF3 := Lib.hid hf3.out
    unfold Adr.val
    obtain ⟨w4, x4, hw4, hb4, hz4, O0, O1, O2, _⟩ := box_tn y3.v T.wn B.wp B.fp T.nw B.wc T.nf B.fc
    have hb34 : ∀ z : Ext w4, Below w1.heap.size w1 z.v := fun z => bT y3.b (bT hb4 z.b)
    have HI4 : Hid (∀ z : Ext w4, TnIn z.v z.v.heap.size T A) := fun z => HI.out ⟨z.v, hb34 z⟩
    have HB4 : Hid (∀ z : Ext w4, TnIn z.v z.v.heap.size T B) := fun z => HF3.out.bel (bT hb4 z.b)
    have HG4 : Hid (∀ z : Ext w4, GlobsOk laid z.v) := fun z => HG.out ⟨z.v, hb34 z⟩
    have HE4 := Lib.hid hb34
    have P0 : ∀ z : Ext w4, z.v.cell? ⟨W.heap.size, 0, none⟩ = some (.int .i64 T.wn) := fun z => F0 ⟨z.v, HE4.out z⟩
    have P1 : ∀ z : Ext w4, z.v.cell? ⟨W.heap.size, 1, none⟩ = some (.slice A.wp T.nw A.wc) := fun z => F1 ⟨z.v, HE4.out z⟩
    have P2 : ∀ z : Ext w4, z.v.cell? ⟨W.heap.size, 2, none⟩ = some (.slice A.fp T.nf A.fc) := fun z => F2 ⟨z.v, HE4.out z⟩
    have Y0 : ∀ z : Ext w4, z.v.cell? ⟨gx, 0, none⟩ = some (.int .i64 i) := fun z => X0 ⟨z.v, HE4.out z⟩
    have Y1 : ∀ z : Ext w4, z.v.cell? ⟨gx, 1, none⟩ = some (.int .i64 k) := fun z => X1 ⟨z.v, HE4.out z⟩
    have Y2 : ∀ z : Ext w4, z.v.cell? ⟨gx, 2, none⟩ = some (.int .i64 law) := fun z => X2 ⟨z.v, HE4.out z⟩
    obtain ⟨go, hgo⟩ : ∃ g, y3.v.heap.size = g := ⟨_, rfl⟩
    rw [hgo] at O0 O1 O2
    have o0 := O0 x4; have o1 := O1 x4; have o2 := O2 x4; have u0 := Y0 x4; have u1 := Y1 x4; have u2 := Y2 x4
    clear hb3 hf3 hb4 hz4 hb34 f0 f1 f2 F0 F1 F2 X0 X1 X2 X3
    go_wp2_with fail
    try rw [hgx]
    refine (quiet_x (HP1.out B x4.v (HB4.out x4) (HG4.out x4))).mono ?_
    rintro e w6 ⟨rfl, z1, rfl⟩
    clear hw4 hw1 hwa hgo o0 o1 o2 u0 u1 u2
    obtain ⟨ws, hws, hbs, hls, s0, s1, sf⟩ := box_s2 z1.v a1 b1
    obtain ⟨z2, hz2⟩ : ∃ z : Ext w4, ws = z.v := ⟨⟨ws, bT z1.b hbs⟩, rfl⟩
    have HSA := Lib.hid (show SpAt z2.v z1.v.heap.size a1 b1 by rw [← hz2]; exact ⟨hls, s0, s1, sf⟩)
    rw [hz2] at hws
    clear hz2 hbs hls s0 s1 sf
    have o0 := P0 z2; have o1 := P1 z2; have o2 := P2 z2; have u0 := Y0 z2; have u1 := Y1 z2; have u2 := Y2 z2
    go_wp2_with fail
    refine (HR1.out A z2.v (HI4.out z2)).mono ?_
    rintro e w7 ⟨rfl, hb⟩
    obtain ⟨z3, rfl⟩ : ∃ z : Ext w4, w7 = z.v := ⟨⟨w7, bT z2.b hb⟩, rfl⟩
    obtain ⟨ga, hga⟩ : ∃ g, z1.v.heap.size = g := ⟨_, rfl⟩
    try rw [hga]
    rw [hga] at HSA
    replace HSA := Lib.hid (HSA.out.bel hb)
    clear hb hws hga o0 o1 o2 u0 u1 u2
    obtain ⟨ws, hws, hbs, hls, s0, s1, sf⟩ := box_s2 z3.v a1 b1
    obtain ⟨z4, hz4⟩ : ∃ z : Ext w4, ws = z.v := ⟨⟨ws, bT z3.b hbs⟩, rfl⟩
    have HSB := Lib.hid (show SpAt z4.v z3.v.heap.size a1 b1 by rw [← hz4]; exact ⟨hls, s0, s1, sf⟩)
    replace HSA := Lib.hid (show SpAt z4.v ga a1 b1 by rw [← hz4]; exact HSA.out.bel hbs)
    rw [hz4] at hws
    clear hz4 hbs hls s0 s1 sf
    have o0 := O0 z4; have o1 := O1 z4; have o2 := O2 z4; have u0 := Y0 z4; have u1 := Y1 z4; have u2 := Y2 z4
    go_wp2_with fail
    refine (HP2.out B z4.v (HB4.out z4) (HG4.out z4)).mono ?_
    rintro e w8 ⟨rfl, hb⟩
    obtain ⟨z5, rfl⟩ : ∃ z : Ext w4, w8 = z.v := ⟨⟨w8, bT z4.b hb⟩, rfl⟩
    obtain ⟨gb, hgb⟩ : ∃ g, z3.v.heap.size = g := ⟨_, rfl⟩
    try rw [hgb]
    rw [hgb] at HSB
    replace HSA := Lib.hid (HSA.out.bel hb)
    replace HSB := Lib.hid (HSB.out.bel hb)
    clear hb hws hgb o0 o1 o2 u0 u1 u2
    have o0 := P0 z5; have o1 := P1 z5; have o2 := P2 z5; have u0 := Y0 z5; have u1 := Y1 z5; have u2 := Y2 z5
    go_wp2_with fail
    refine (HR2.out A z5.v (HI4.out z5)).mono ?_
    rintro e w9 ⟨rfl, hb⟩
    obtain ⟨z6, rfl⟩ : ∃ z : Ext w4, w9 = z.v := ⟨⟨w9, bT z5.b hb⟩, rfl⟩
    replace HSA := Lib.hid (HSA.out.bel hb)
    replace HSB := Lib.hid (HSB.out.bel hb)
    clear hb o0 o1 o2 u0 u1 u2
    have o0 := O0 z6; have o1 := O1 z6; have o2 := O2 z6; have p0 := P0 z6; have p1 := P1 z6; have p2 := P2 z6
    have s0 := HSA.out.c0; have s1 := HSA.out.c1; have t0 := HSB.out.c0; have t1 := HSB.out.c1
    go_wp2_with fail
    refine (quiet_x (same_any T B A z6.v HS.out (HB4.out z6) (HI4.out z6))).mono ?_
    rintro e w12 ⟨rfl, u7, rfl⟩
    go_wp2_with fail
    refine (quiet_x (works_ex u7.v (HG4.out u7))).mono ?_
    rintro e w13 ⟨rfl, u8, rfl⟩
    go_wp2
    go_ret
    exact ⟨rfl, HB.out ⟨u8.v, HE4.out u8⟩⟩
end Go.Proofs.YtdjkbpenppdnlaaDoor
