/- A town at work: the least and the greatest of the feet in the worlds that are left. -/
import Derived.Test.YtdjkbpenppdnlaaDoorG3

import Derived.Test.YtdjkbpenppdnlaaDoorX3

set_option linter.unusedSimpArgs false

set_option linter.unusedVariables false

namespace Go.Proofs.YtdjkbpenppdnlaaDoor

open Go.RowKit Go.Shelf
attribute [local go_sem] Oper.semAt_some

theorem span_boxes (w : World) (gf : Nat) (lb : Array Value) : ∃ wb w3, (w.alloc (Obj.cells #[Value.func (.func gf) #[] lb] 142)).alloc (Obj.cells #[Value.int .i64 0, Value.int .i64 0] 41) = wb ∧ wb.alloc (Obj.cells #[Value.slice none 0 0] 31) = w3 ∧
    Below w.heap.size w wb ∧ wb.heap.size = w.heap.size + 2 ∧ w3.heap.size = w.heap.size + 3 ∧ Below wb.heap.size wb w3 ∧ wb.cell? ⟨w.heap.size, 0, none⟩ = some (.func (.func gf) #[] lb) ∧
    wb.cell? ⟨w.heap.size + 1, 0, none⟩ = some (.int .i64 0) ∧ wb.cell? ⟨w.heap.size + 1, 1, none⟩ = some (.int .i64 0) ∧ (∀ i, wb.frozen? ⟨w.heap.size + 1, i, none⟩ = false) ∧ w3.cell? ⟨w.heap.size + 2, 0, none⟩ = some (.slice none 0 0) ∧ w3.frozen? ⟨w.heap.size + 2, 0, none⟩ = false :=
  ⟨_, _, rfl, rfl, bA (bA (Below.refl _ _) _) _, by simp, by simp, bA (Below.refl _ _) _, by go_simp, by go_simp, by go_simp, fun i => by go_simp, by go_simp, by go_simp⟩
set_option maxRecDepth 100000 in
set_option maxHeartbeats 8000000 in
theorem span_any (T : Tn) (A : Adr) (g gf : Nat) (lb : Array Value) (f : Nat → Int) (w : World) (hok : T.ok = true) (hl : T.LL ≠ []) (hW : WkIn w g T A) (hg : GlobsOk laid w)
    (EG : ∀ (args : Array Value) (W : World), (callFunc gf args).run Tryd.prog W = .ok (.enter gf args) W)
    (HF : ∀ (V : World) (x : Nat), Below w.heap.size w V → x ∈ T.LL → Calls Tryd.prog gf (#[.int .i64 (x : Int)] ++ lb) V fun e V' => e = .returned (.int .i64 (f x)) ∧ Below V.heap.size V V') :
    CallsIn Fence.wide 9 Tryd.prog 116 #[.pointer (some ⟨g, 0, none⟩), .func (.func gf) #[] lb] w fun e w' => e = .returned (.agg #[.int .i64 (mnL f T.LL), .int .i64 (mxL f T.LL)]) ∧ Below w.heap.size w w' := by
  have hnw := (T.ok_parts hok).2.1
  obtain ⟨wb, w3, hwb, hw3, hbb, hzb, hz3, hb3, k0, k1, k2, kf, k3, kf3⟩ := span_boxes w gf lb
  have hbw3 : Below w.heap.size w w3 := bT hbb hb3
  have c3 := (hW.bel hbw3).c3
  have HM := Lib.hid (mk_64 (b := T.lft) hnw)
  have HNW := Lib.hid hnw
  obtain ⟨m, hm⟩ : ∃ m, mk T.lft T.nw = m := ⟨_, rfl⟩
  have HE := Lib.hid hm
  rw [hm] at c3 HM
  have HG := Lib.hid (hg.below hbb)
  have HHF := Lib.hid HF
  have HBB := Lib.hid hbb; have HZB := Lib.hid hzb; have HZ3 := Lib.hid hz3
  have HK0 := Lib.hid k0; have HK1 := Lib.hid (And.intro k1 (And.intro k2 kf))
  have HST := Lib.hid (And.intro hb3 (And.intro k3 kf3))
  have HL := Lib.hid hl
  have HEG := Lib.hid EG
  obtain ⟨i3, hi3, hz3', hz3'', hz3'''⟩ := info_parts infoI
  have I3 := Lib.hid hi3; have Z3 := Lib.hid hz3'; have Z3' := Lib.hid hz3''; have Z3'' := Lib.hid hz3'''
  clear hg HF hbb hzb hz3 hb3 k0 k1 k2 kf k3 kf3 hbw3 hW hok hl hnw hm hi3 hz3' hz3'' hz3''' EG
  refine callsIn_of_wp_marks Tryd.func116 rfl trivial ?_ rfl
  simp only [Tryd.ntmps116, List.size_toArray, List.length_cons, List.length_nil, Nat.reduceAdd, Nat.reduceSub, Array.replicate_succ, Array.replicate_zero, List.push_toArray, List.append_toArray, List.nil_append, List.cons_append]
  gi_wp2
  refine rangeN rfl (by omega) (gf := 73) (fb := #[.int .u64 (m : Int)]) (lb := #[]) rfl trivial (enters_of Tryd.func73 (by kernel_rfl) rfl)
    (encs := fun x : Nat => #[Value.int .i64 (x : Int)]) (fun pre x _ => pre ++ [x] <+: bitsM m) (fun xs W => AVc wb (intsF f xs) W) (fun _ _ _ => False) (fun xs => xs = bitsM m) (fun pre => pre <+: bitsM m) (fun W => GlobsOk laid W) (fun s A h => HG.out.below h.b)
    (fun _ => rfl) ?start (fun s A o h _ _ => h.put o (by have := HZB.out; have := HZ3.out; omega) (by have := HZB.out; have := HZ3.out; omega)) (fun s A B h k => h.bel k) (fun _ _ _ _ _ h _ => h) ?seq ?round ?done ?stop
  case start =>
    intro B hB hBz
    obtain ⟨hb3, k3, kf3⟩ := HST.out
    have hz := HZ3.out; have hzb := HZB.out
    refine ⟨bT hb3 hB, by omega, ⟨_, (hB.cell (p := ⟨wb.heap.size, 0, none⟩) (by show wb.heap.size < _; omega)).trans (by rw [hzb]; exact k3), ⟨by rfl, .inl ⟨by rfl, by rfl⟩⟩⟩, (hB.frozen (p := ⟨wb.heap.size, 0, none⟩) (by show wb.heap.size < _; omega)).trans (by rw [hzb]; exact kf3)⟩
  case seq =>
    intro l J Jx W hl1 hl2 hB hJ hJK hY h0
    exact each_any m l _ J Jx W HM.out hJ hJK (fun m pre x A hj hp => yieldAny rfl m (hY pre x A hj hp)) h0
  case round =>
    rintro l pre x W hl hr' hI hx1
    gi_wp2
    refine ⟨Below.refl _ _, fun W₂ hg2 hs2' hz2 hr2 hd2 hI2 => ?_⟩
    obtain ⟨v, hc, ho⟩ := hI2.c
    have hf := hI2.f
    have HA2 := Lib.hid hI2; have HO := Lib.hid ho; have HSZ := Lib.hid hI2.sz; have HBW := Lib.hid hI2.b
    have HC := Lib.hid hc
    have HX := Lib.hid hx1
    have hlen := bits_pre hx1
    rw [List.length_append, List.length_singleton] at hlen
    have HLN := Lib.hid hlen
    have hz := HZB.out
    have hc0 : W₂.cell? ⟨w.heap.size, 0, none⟩ = some (.func (.func gf) #[] lb) := (HBW.out.cell (p := ⟨w.heap.size, 0, none⟩) (by show w.heap.size < _; omega)).trans HK0.out
    clear hI hI2 ho hg2 hs2' hz2 hr2 hd2 hr' hwb hw3 hlen hz c3
    gi_wp2
    have hc1 : W₂.drew.cell? ⟨wb.heap.size, 0, none⟩ = some v := hc
    have C0 : ∀ z : Ext wb, z.v.cell? ⟨w.heap.size, 0, none⟩ = some (.func (.func gf) #[] lb) := fun z => (z.b.cell (p := ⟨w.heap.size, 0, none⟩) (by show w.heap.size < _; have := HZB.out; omega)).trans HK0.out
    have EG := HEG.out
    refine wpIn_region_last (fun W => (∃ z : Ext wb, W = z.v) ∧ W.cell? ⟨wb.heap.size, 0, none⟩ = some v) 6 (by kernel_rfl) rfl (by kernel_rfl) (by rintro ⟨a0, w0, h0⟩; exact h0) ⟨⟨⟨W₂.drew, bd HBW.out⟩, rfl⟩, hc1⟩ (fun hSw => ?_)
    obtain ⟨yd, hyd⟩ : ∃ z : Ext wb, W₂.drew = z.v := ⟨⟨W₂.drew, bd HBW.out⟩, rfl⟩
    have HAd := Lib.hid (show AVc wb (intsF f pre) yd.v by rw [← hyd]; exact HA2.out.bel (bd (Below.refl _ _)))
    have HOd := Lib.hid (show yd.v.ownsRow (wb.heap.size + 3) 3 1 v (intsF f pre).length (intsF f pre) by rw [← hyd]; exact own_below HO.out (bd (Below.refl _ _)))
    have HKd : Hid (∀ b : Nat, yd.v.heap[b]? = W₂.heap[b]?) := by rw [← hyd]; exact fun b => rfl
    have HSd : Hid (yd.v.heap.size = W₂.heap.size) := by rw [← hyd]; rfl
    rw [hyd] at hSw ⊢
    clear hyd hc hf hc0 hc1
    refine wpAnyG_take (i := 0) (v := ?_) (by kernel_rfl) rfl (by kernel_rfl) (by kernel_rfl) (by kernel_rfl) (fun _ _ _ h => h) (Or.inl ⟨by rfl, ?_⟩) (by assumption) ?_
    rotate_left
    · rintro wS ⟨⟨yS, rfl⟩, hcS⟩
      go_simp
      try (with_reducible rfl)
    try simp only [Act.put, List.setIfInBounds_toArray, List.set_cons_zero, List.set_cons_succ]
    refine wpAnyG_take (i := 1) (v := ?_) (by kernel_rfl) rfl (by kernel_rfl) (by kernel_rfl) (by kernel_rfl) (fun _ _ _ h => h) (Or.inl ⟨by rfl, ?_⟩) (by assumption) ?_
    rotate_left
    · rintro wS ⟨⟨yS, rfl⟩, hcS⟩
      go_simp
      try (with_reducible rfl)
    try simp only [Act.put, List.setIfInBounds_toArray, List.set_cons_zero, List.set_cons_succ]
    refine wpAnyG_take (i := 2) (v := ?_) (by kernel_rfl) rfl (by kernel_rfl) (by kernel_rfl) (by kernel_rfl) (fun _ _ _ h => h) (Or.inl ⟨by rfl, ?_⟩) (by assumption) ?_
    rotate_left
    · rintro wS ⟨⟨yS, rfl⟩, hcS⟩
      go_simp
      try (with_reducible rfl)
    try simp only [Act.put, List.setIfInBounds_toArray, List.set_cons_zero, List.set_cons_succ]
    refine wpAnyG_one (i := 3) (by kernel_rfl) (by decide) (wpOp_plain rfl rfl ?_)
    go_simp
    refine (HHF.out yd.v x (bT HBB.out yd.b) (bits_left HNW.out (by rw [HE.out]; exact HX.out))).mono ?_
    rintro e w5 ⟨rfl, hb5⟩
    obtain ⟨ye, rfl⟩ : ∃ z : Ext wb, w5 = z.v := ⟨⟨w5, bT yd.b hb5⟩, rfl⟩
    have HB5 := Lib.hid hb5
    have HAe := Lib.hid (HAd.out.bel hb5)
    have HOe := Lib.hid (own_below HOd.out hb5)
    have h3 := HAd.out.sz
    have hce : ye.v.cell? ⟨wb.heap.size, 0, none⟩ = some v := (hb5.cell (p := ⟨wb.heap.size, 0, none⟩) (by show wb.heap.size < _; omega)).trans hSw.2
    clear hb5 hSw
    have hSw : (∃ z : Ext wb, ye.v = z.v) ∧ ye.v.cell? ⟨wb.heap.size, 0, none⟩ = some v := ⟨⟨_, rfl⟩, hce⟩
    refine ⟨hSw, ?_⟩
    try simp only [Act.put, List.setIfInBounds_toArray, List.set_cons_zero, List.set_cons_succ]
    refine wpAnyG_one (i := 4) (by kernel_rfl) (by decide) (wpOp_plain rfl rfl ?_)
    go_simp
    obtain ⟨yf, hyf⟩ : ∃ z : Ext wb, ye.v.alloc (Obj.cells #[.int .i64 (f x)] 3) = z.v := ⟨⟨_, bA ye.b _⟩, rfl⟩
    have HBF := Lib.hid (show Below ye.v.heap.size ye.v yf.v by rw [← hyf]; exact bA (Below.refl _ _) _)
    have HLT := Lib.hid (show ∀ (j : Nat) (u : Value), [Value.int .i64 (f x)][j]? = some u → yf.v.cell? ((⟨ye.v.heap.size, 0, none⟩ : Addr).add j) = some u by rw [← hyf]; exact lit_cells1 _ _ _)
    have HAf := Lib.hid (HAe.out.bel HBF.out)
    have HOf := Lib.hid (own_below HOe.out HBF.out)
    have h4 := HAe.out.sz
    have hcf : yf.v.cell? ⟨wb.heap.size, 0, none⟩ = some v := (HBF.out.cell (p := ⟨wb.heap.size, 0, none⟩) (by show wb.heap.size < _; omega)).trans hce
    rw [hyf]
    clear hyf hSw hce
    have hSw : (∃ z : Ext wb, yf.v = z.v) ∧ yf.v.cell? ⟨wb.heap.size, 0, none⟩ = some v := ⟨⟨_, rfl⟩, hcf⟩
    refine ⟨hSw, ?_⟩
    try simp only [Act.put, List.setIfInBounds_toArray, List.set_cons_zero, List.set_cons_succ]
    refine wpAnyG_one (i := 5) (by kernel_rfl) (by decide) (wpOp_plain rfl rfl ?_)
    have hln : (intsF f pre).length + 1 ≤ 6 := by rw [intsF_len]; exact HLN.out
    refine wp_append_one rfl (.tmp 13) (.tmp 17) 31 rfl (wb.heap.size + 3) 3 i3 _ 1 8 Tryd.underlying31 I3.out Z3.out Z3'.out Z3''.out rfl (by decide) v (intsF f pre).length (intsF f pre) (by simp [Act.eval, Act.put]) HOf.out ⟨ye.v.heap.size, 0, none⟩ 1 1 [.int .i64 (f x)] (by simp [Act.eval, Act.put]) rfl HLT.out (by simp [Value.oneCell']) (by decide) (by unfold maxLen; omega) (by omega) HAf.out.sz ?_
    intro v' w2 hown hgrow hnew
    obtain ⟨p', cp', hv', _⟩ := own_form hown
    subst hv'
    obtain ⟨hav, hkp⟩ := HAf.out.next hcf HOf.out hown hgrow
    have hb2 := below_grown (a := wb) yf.b HOf.out (by omega) hgrow
    have h5 := HAf.out.sz
    have hne : ∀ b, b < wb.heap.size + 3 → w2.heap[b]? = yf.v.heap[b]? := fun b hb' => hgrow.block b (by omega) (fun e => by have := (HOf.out.lt b e.symm).1; omega)
    have c : w2.cell? ⟨wb.heap.size, 0, none⟩ = some v := (World.cell?_of_block (a := ⟨wb.heap.size, 0, none⟩) (hne wb.heap.size (by omega))).trans hcf
    have fz : w2.frozen? ⟨wb.heap.size, 0, none⟩ = false := (World.frozen?_of_block (a := ⟨wb.heap.size, 0, none⟩) (hne wb.heap.size (by omega))).trans HAf.out.f
    have hs2 := hgrow.size
    have HFIN : Hid (AVc wb (intsF f (pre ++ [x])) (w2.setCell ⟨wb.heap.size, 0, none⟩ (.slice p' ((intsF f pre).length + 1) cp')) ∧ Kt w3.heap.size W₂ (w2.setCell ⟨wb.heap.size, 0, none⟩ (.slice p' ((intsF f pre).length + 1) cp'))) := by
      have q1 := HB5.out.size; have q2 := HBF.out.size; have q3 := HSd.out
      have hz := HZB.out; have hz3 := HZ3.out; have q4 := HSZ.out
      have ch : ∀ b, b < W₂.heap.size → yf.v.heap[b]? = W₂.heap[b]? := fun b hb => (HBF.out.block b (by omega)).trans ((HB5.out.block b (by omega)).trans (HKd.out b))
      refine ⟨by rw [intsF_snoc]; exact hav, by simp; omega, (hkp _ (by omega) (by omega)).trans (ch _ (by omega)), (hkp _ (by omega) (by omega)).trans (ch _ (by omega))⟩
    obtain ⟨yg, rfl⟩ : ∃ z : Ext wb, w2 = z.v := ⟨⟨_, hb2⟩, rfl⟩
    clear hown hgrow hnew hb2 hne hav hkp hSw h3 h4 h5 hs2
    refine ⟨⟨⟨_, rfl⟩, c⟩, ?_⟩
    have hSw : (∃ z : Ext wb, yg.v = z.v) ∧ yg.v.cell? ⟨wb.heap.size, 0, none⟩ = some v := ⟨⟨_, rfl⟩, c⟩
    try simp only [Act.put, List.setIfInBounds_toArray, List.set_cons_zero, List.set_cons_succ]
    refine wpAnyG_done (by kernel_rfl) (by kernel_rfl) (wpOp_plain rfl rfl ?_)
    go_simp
    gi_wp2
    exact ⟨HFIN.out.2, HFIN.out.1⟩
  case done =>
    rintro D' xs W rfl rfl hI hK
    obtain ⟨v, hc, ho⟩ := hI.c
    have hav := hI
    have hon : ∃ p c, v = .slice p (bitsM m).length c ∧ At W W.heap.size p (bitsM m).length 1 (fun k => .int .i64 (f ((bitsM m).getD k 0))) := by
      rw [intsF_len, intsF_row] at ho
      exact row_own ho
    obtain ⟨p, c, rfl, hat⟩ := hon
    have hLL : bitsM m = T.LL := by rw [← HE.out]; exact LL_bits HNW.out
    have hmn := mnN_L (f := f) (l := bitsM m) (by rw [hLL]; exact HL.out)
    have hmx := mxN_L (f := f) (l := bitsM m) (by rw [hLL]; exact HL.out)
    have hpos : 0 < (bitsM m).length := by rw [hLL]; exact List.length_pos_iff.2 HL.out
    have hb6 := bits_len m
    rw [hLL] at hmn hmx
    have HMN := Lib.hid hmn; have HMX := Lib.hid hmx; have HLL := Lib.hid hLL
    have HPOS := Lib.hid (And.intro hpos hb6)
    have HAT : Hid (∀ z : Ext W, At z.v z.v.heap.size p (bitsM m).length 1 (fun k => .int .i64 (f ((bitsM m).getD k 0)))) := fun z => hat.bel z.b
    have HMI : Hid (∀ z : Ext W, Calls Tryd.prog 136 #[.slice p (bitsM m).length c] z.v fun e w' => e = .returned (.int .i64 (mnL f T.LL)) ∧ Below z.v.heap.size z.v w') := fun z => by
      have := min_any _ c _ p z.v HPOS.out.1 (by have := HPOS.out.2; omega) (HAT.out z)
      rw [HLL.out] at this ⊢
      rw [HMN.out] at this
      exact this
    have HMA : Hid (∀ z : Ext W, Calls Tryd.prog 137 #[.slice p (bitsM m).length c] z.v fun e w' => e = .returned (.int .i64 (mxL f T.LL)) ∧ Below z.v.heap.size z.v w') := fun z => by
      have := max_any _ c _ p z.v HPOS.out.1 (by have := HPOS.out.2; omega) (HAT.out z)
      rw [HLL.out] at this ⊢
      rw [HMX.out] at this
      exact this
    have HAV := Lib.hid hI; have HK := Lib.hid hK
    have hz := HZB.out
    have c0 : ∀ z : Ext W, z.v.cell? ⟨wb.heap.size, 0, none⟩ = some (.slice p (bitsM m).length c) := fun z => (z.b.cell (p := ⟨wb.heap.size, 0, none⟩) (by show wb.heap.size < _; have := HAV.out.sz; omega)).trans hc
    have CB : ∀ (z : Ext W) (q : Addr), q.block < wb.heap.size → z.v.cell? q = wb.cell? q ∧ z.v.frozen? q = wb.frozen? q := fun z q hq =>
      ⟨((bT HAV.out.b z.b).cell hq), ((bT HAV.out.b z.b).frozen hq)⟩
    have k0 : ∀ z : Ext W, z.v.cell? ⟨w.heap.size + 1, 0, none⟩ = some (.int .i64 0) := fun z => ((CB z ⟨w.heap.size + 1, 0, none⟩ (by show w.heap.size + 1 < _; omega)).1).trans HK1.out.1
    have k1 : ∀ z : Ext W, z.v.cell? ⟨w.heap.size + 1, 1, none⟩ = some (.int .i64 0) := fun z => ((CB z ⟨w.heap.size + 1, 1, none⟩ (by show w.heap.size + 1 < _; omega)).1).trans HK1.out.2.1
    have kf : ∀ (z : Ext W) i, z.v.frozen? ⟨w.heap.size + 1, i, none⟩ = false := fun z i => ((CB z ⟨w.heap.size + 1, i, none⟩ (by show w.heap.size + 1 < _; omega)).2).trans (HK1.out.2.2 i)
    clear hI hK hc ho hav hat hLL hmn hmx hpos hb6 hwb hw3 c3 CB hz
    gi_wp2
    refine wpIn_wide.2 ?_
    refine wp_mono (Q := fun e a w => e = .normal ∧ Exit.then _ _ .normal a w) ?_ (by rintro e a w ⟨rfl, h⟩; exact h)
    refine wp_region_last (fun W' => ∃ z : Ext W, W' = z.v) 5 (by kernel_rfl) rfl ⟨⟨W.drew, bd (Below.refl _ _)⟩, rfl⟩ (fun _ => ?_)
    obtain ⟨z0, hz0⟩ : ∃ z : Ext W, W.drew = z.v := ⟨⟨W.drew, bd (Below.refl _ _)⟩, rfl⟩
    rw [hz0]
    clear hz0
    refine wpAnyG_take (i := 0) (v := ?_) (by kernel_rfl) rfl (by kernel_rfl) (by kernel_rfl) (by kernel_rfl) (fun _ _ _ h => by cases h.1) (Or.inl ⟨by rfl, ?_⟩) ⟨_, rfl⟩ ?_
    rotate_left
    · rintro wS ⟨yS, rfl⟩
      go_simp
      try (with_reducible rfl)
    try simp only [Act.put, List.setIfInBounds_toArray, List.set_cons_zero, List.set_cons_succ]
    refine wpAnyG_take (i := 2) (v := ?_) (by kernel_rfl) rfl (by kernel_rfl) (by kernel_rfl) (by kernel_rfl) (fun _ _ _ h => by cases h.1) (Or.inl ⟨by rfl, ?_⟩) ⟨_, rfl⟩ ?_
    rotate_left
    · rintro wS ⟨yS, rfl⟩
      go_simp
      try (with_reducible rfl)
    try simp only [Act.put, List.setIfInBounds_toArray, List.set_cons_zero, List.set_cons_succ]
    refine wpAnyG_one (i := 1) (by kernel_rfl) (by decide) (wpOp_plain rfl rfl ?_)
    go_simp
    refine (quiet_x (HMI.out z0)).mono ?_
    rintro e w5 ⟨rfl, z1, rfl⟩
    refine ⟨⟨_, rfl⟩, ?_⟩
    try simp only [Act.put, List.setIfInBounds_toArray, List.set_cons_zero, List.set_cons_succ]
    refine wpAnyG_one (i := 3) (by kernel_rfl) (by decide) (wpOp_plain rfl rfl ?_)
    go_simp
    refine (quiet_x (HMA.out z1)).mono ?_
    rintro e w6 ⟨rfl, z2, rfl⟩
    refine ⟨⟨_, rfl⟩, ?_⟩
    try simp only [Act.put, List.setIfInBounds_toArray, List.set_cons_zero, List.set_cons_succ]
    refine wpAnyG_take (i := 4) (v := ?_) (by kernel_rfl) rfl (by kernel_rfl) (by kernel_rfl) (by kernel_rfl) (fun _ _ _ h => by cases h.1) (Or.inl ⟨by rfl, ?_⟩) ⟨_, rfl⟩ ?_
    rotate_left
    · rintro wS ⟨yS, rfl⟩
      go_simp
      try (with_reducible rfl)
    try simp only [Act.put, List.setIfInBounds_toArray, List.set_cons_zero, List.set_cons_succ]
    have kf0 := kf z2 0; have kf1 := kf z2 1; have k0' := k0 z2; have k1' := k1 z2
    refine wpAnyG_done (by kernel_rfl) (by kernel_rfl) (wpOp_plain rfl rfl ?_)
    go_simp
    have e0 : ((z2.v.setCell ⟨w.heap.size + 1, 0, none⟩ (.int .i64 (mnL f T.LL))).setCell ⟨w.heap.size + 1, 1, none⟩ (.int .i64 (mxL f T.LL))).cell? ⟨w.heap.size + 1, 0, none⟩ = some (.int .i64 (mnL f T.LL)) := by go_simp
    have e1 : ((z2.v.setCell ⟨w.heap.size + 1, 0, none⟩ (.int .i64 (mnL f T.LL))).setCell ⟨w.heap.size + 1, 1, none⟩ (.int .i64 (mxL f T.LL))).cell? ⟨w.heap.size + 1, 1, none⟩ = some (.int .i64 (mxL f T.LL)) := by go_simp
    have hz := HZB.out; have hz3 := HZ3.out
    have hd : ((z2.v.setCell ⟨w.heap.size + 1, 0, none⟩ (.int .i64 (mnL f T.LL))).setCell ⟨w.heap.size + 1, 1, none⟩ (.int .i64 (mxL f T.LL))).heap[w3.heap.size]? = some (.deferred (some [])) := by
      have h1 := (Array.getElem?_eq_some_iff.1 HK.out).1
      rw [setCell_block (by show w3.heap.size ≠ w.heap.size + 1; omega), setCell_block (by show w3.heap.size ≠ w.heap.size + 1; omega), z2.b.block _ h1]
      exact HK.out
    have hbw : Below w.heap.size w ((z2.v.setCell ⟨w.heap.size + 1, 0, none⟩ (.int .i64 (mnL f T.LL))).setCell ⟨w.heap.size + 1, 1, none⟩ (.int .i64 (mxL f T.LL))) := bS (bS (bT HBB.out (bT HAV.out.b z2.b)) (by show w.heap.size ≤ w.heap.size + 1; omega) _) (by show w.heap.size ≤ w.heap.size + 1; omega) _
    obtain ⟨wf, hwf⟩ : ∃ W, (z2.v.setCell ⟨w.heap.size + 1, 0, none⟩ (.int .i64 (mnL f T.LL))).setCell ⟨w.heap.size + 1, 1, none⟩ (.int .i64 (mxL f T.LL)) = W := ⟨_, rfl⟩
    rw [hwf] at e0 e1 hd hbw ⊢
    have HD := Lib.hid hd; have HBF := Lib.hid hbw
    clear hwf hd hbw k0 k1 kf kf0 kf1 k0' k1' c0
    gi_wp2
    refine ⟨by simp, .inl ⟨_, _, rfl, run_takeDeferred HD.out, ?_⟩⟩
    have hne : (wf.putObj w3.heap.size (.deferred none)).heap[w.heap.size + 1]? = wf.heap[w.heap.size + 1]? := World.putObj_heap_other (by omega)
    have p0 : (wf.putObj w3.heap.size (.deferred none)).cell? ⟨w.heap.size + 1, 0, none⟩ = some (.int .i64 (mnL f T.LL)) := (World.cell?_of_block (a := ⟨w.heap.size + 1, 0, none⟩) hne).trans e0
    have p1 : (wf.putObj w3.heap.size (.deferred none)).cell? ⟨w.heap.size + 1, 1, none⟩ = some (.int .i64 (mxL f T.LL)) := (World.cell?_of_block (a := ⟨w.heap.size + 1, 1, none⟩) hne).trans e1
    exact ⟨.agg #[.int .i64 (mnL f T.LL), .int .i64 (mxL f T.LL)], by simp [results, Tryd.f116, go_sem, p0, p1], rfl, HBF.out.trans (below_putObj _ _ (by omega))⟩
  case stop =>
    rintro D' c' pre W hD hSp h hK
    exact h.elim
end Go.Proofs.YtdjkbpenppdnlaaDoor
