/- Rosters of hours: Bound of the specification. -/
import Derived.Test.YtegkgfiaegpihaaF19

set_option linter.unusedSimpArgs false

set_option linter.unusedVariables false

namespace Go.Proofs.Ytegkgfiaegpihaa

open Go.RowKit

set_option maxRecDepth 100000 in
set_option maxHeartbeats 16000000 in
theorem boundRR_ok (D : Ro) (p q : Option Addr) (c d st : Nat) (w : World) (hst : st < D.m) (hD : OkP D) (hx : exB D = true) (hi : RoIn w w.heap.size D p q) :
    Calls Try.prog 52 #[.agg #[.slice p D.n c, .slice q D.m d], .int .i64 (st : Int)] w fun e w' => e = .returned (.tuple #[.int .i64 (bdV D st), .int .i64 0]) ∧ Below w.heap.size w w' := by
  obtain ⟨w1, x1, hw1, hb1, hz1, F0, F1, _⟩ := box_ro w p q D.n D.m c d
  have HB := Lib.hid hb1
  have HI : Hid (∀ x : Ext w1, RoIn x.v x.v.heap.size D p q) := fun x => (hi.bel hb1).bel x.b
  clear hb1 hz1 hi
  have HD := Lib.hid hD; have HX := Lib.hid hx
  have HNS := Lib.hid (fun (V : World) hV => news_some D p q c d hD hx V hV)
  have HNW := Lib.hid (nws_nw hD)
  have hpos := nws_pos hD hx
  have hle := HNW.out.le
  have hm6 := hD.m; have hn8 := hD.n
  have i0 : ((0 : Int) != 0) = false := by decide
  have HRES := Lib.hid (nws_bd hD hx hst)
  have hli : (0 : Int) < ((nws D).length : Int) := by omega
  have HS := Lib.hid (fun y : Ext w1 => isStreetR_any D p q c d (st : Int) y.v (by unfold maxLen; omega))
  rw [show isS D (st : Int) = true from isS_iff.2 ⟨by omega, by omega⟩] at HS
  obtain ⟨bl, hb1, hb2, hb3⟩ := nws_best hD hx
  have hcl : costF D (asF bl) D.m = tL D := by
    obtain ⟨r1, r2⟩ := rs_new hD hx
    rw [costF_congr (g := rsF D) (fun k hk => hb3 k hk), r2]; unfold tL; rw [hx]; rfl
  have HBL := Lib.hid hb1; have HCL := Lib.hid hcl
  have HNR := Lib.hid (nw_le HNW.out hb1)
  clear hD hx hb1 hb2 hb3 hcl
  go_enter Try.func52, Try.ntmps52
  go_wp2
  refine wp_region_lastE 9 (by kernel_rfl) rfl (fun y0 => ?_)
  refine wpAnyG_take (i := 0) (v := ?_) (by kernel_rfl) rfl (by kernel_rfl) (by kernel_rfl) (by kernel_rfl) (fun _ _ _ h => h) (Or.inl ⟨by rfl, ?_⟩) ⟨_, rfl⟩ ?_
  rotate_left
  · rintro wS ⟨yS, rfl⟩
    go_simp
    try (with_reducible rfl)
  try simp only [Act.put, List.setIfInBounds_toArray, List.set_cons_zero, List.set_cons_succ]
  refine wpAnyG_take (i := 1) (v := ?_) (by kernel_rfl) rfl (by kernel_rfl) (by kernel_rfl) (by kernel_rfl) (fun _ _ _ h => h) (Or.inl ⟨by rfl, ?_⟩) ⟨_, rfl⟩ ?_
  rotate_left
  · rintro wS ⟨yS, rfl⟩
    go_simp
    try (with_reducible rfl)
  try simp only [Act.put, List.setIfInBounds_toArray, List.set_cons_zero, List.set_cons_succ]
  refine wpAnyG_take (i := 2) (v := ?_) (by kernel_rfl) rfl (by kernel_rfl) (by kernel_rfl) (by kernel_rfl) (fun _ _ _ h => h) (Or.inl ⟨by rfl, ?_⟩) ⟨_, rfl⟩ ?_
  rotate_left
  · rintro wS ⟨yS, rfl⟩
    go_simp
    try (with_reducible rfl)
  try simp only [Act.put, List.setIfInBounds_toArray, List.set_cons_zero, List.set_cons_succ]
  refine wpAnyG_one (i := 3) (by kernel_rfl) (by decide) (wpOp_plain rfl rfl ?_)
  go_simp
  go_at_call 29
  refine (quiet_x (HS.out y0)).mono ?_
  rintro e w' ⟨rfl, y1, rfl⟩
  refine ⟨⟨_, rfl⟩, ?_⟩
  try simp only [Act.put, List.setIfInBounds_toArray, List.set_cons_zero, List.set_cons_succ]
  refine wpAnyG_one (i := 4) (by kernel_rfl) (by decide) (wpOp_plain rfl rfl ?_)
  go_simp
  go_at_call 85
  refine (HNS.out _ (HI.out y1)).mono ?_
  rintro e w2 ⟨yn, cn, rfl, hbn, hln⟩
  obtain ⟨y2, hy2⟩ : ∃ y : Ext w1, w2 = y.v := ⟨⟨w2, bT y1.b hbn⟩, rfl⟩
  subst hy2
  obtain ⟨bq, oq, rfl, hbq, _⟩ := hln hpos
  have HLN := Lib.hid (fun z : Ext y2.v => hln.bel z.b)
  have HIz := Lib.hid (fun z : Ext y2.v => HI.out (z.up y2.b))
  have HBz := Lib.hid (fun z : Ext y2.v => bT HB.out (bT y2.b z.b))
  have F0z : ∀ z : Ext y2.v, z.v.cell? ⟨w.heap.size, 0, none⟩ = some (.slice p D.n c) := fun z => F0 (z.up y2.b)
  have F1z : ∀ z : Ext y2.v, z.v.cell? ⟨w.heap.size, 1, none⟩ = some (.slice q D.m d) := fun z => F1 (z.up y2.b)
  clear hbn hln hbq
  have HAT := Lib.hid (fun (z : Ext y2.v) k (hk : k < (nws D).length) => lst_at HNW.out (HLN.out z) hk)
  refine ⟨⟨_, rfl⟩, ?_⟩
  try simp only [Act.put, List.setIfInBounds_toArray, List.set_cons_zero, List.set_cons_succ]
  refine wpAnyG_take (i := 5) (v := ?_) (by kernel_rfl) rfl (by kernel_rfl) (by kernel_rfl) (by kernel_rfl) (fun _ _ _ h => h) (Or.inl ⟨by rfl, ?_⟩) ⟨_, rfl⟩ ?_
  rotate_left
  · rintro wS ⟨yS, rfl⟩
    go_simp
    try (with_reducible rfl)
  try simp only [Act.put, List.setIfInBounds_toArray, List.set_cons_zero, List.set_cons_succ]
  refine wpAnyG_take (i := 6) (v := ?_) (by kernel_rfl) rfl (by kernel_rfl) (by kernel_rfl) (by kernel_rfl) (fun _ _ _ h => h) (Or.inl ⟨by rfl, ?_⟩) ⟨_, rfl⟩ ?_
  rotate_left
  · rintro wS ⟨yS, rfl⟩
    go_simp
    try (with_reducible rfl)
  try simp only [Act.put, List.setIfInBounds_toArray, List.set_cons_zero, List.set_cons_succ]
  refine wpAnyG_take (i := 7) (v := ?_) (by kernel_rfl) rfl (by kernel_rfl) (by kernel_rfl) (by kernel_rfl) (fun _ _ _ h => h) (Or.inl ⟨by rfl, ?_⟩) ⟨_, rfl⟩ ?_
  rotate_left
  · rintro wS ⟨yS, rfl⟩
    go_simp
    try (with_reducible rfl)
  try simp only [Act.put, List.setIfInBounds_toArray, List.set_cons_zero, List.set_cons_succ]
  refine wpAnyG_take (i := 8) (v := ?_) (by kernel_rfl) rfl (by kernel_rfl) (by kernel_rfl) (by kernel_rfl) (fun _ _ _ h => h) (Or.inl ⟨by rfl, ?_⟩) ⟨_, rfl⟩ ?_
  rotate_left
  · rintro wS ⟨yS, rfl⟩
    go_simp
    try (with_reducible rfl)
  try simp only [Act.put, List.setIfInBounds_toArray, List.set_cons_zero, List.set_cons_succ]
  refine wpAnyG_done (by kernel_rfl) (by kernel_rfl) (wpOp_plain rfl rfl ?_)
  go_simp
  obtain ⟨z0, hz0⟩ := rebase y2.v
  rw [hz0]
  clear hz0
  go_wp2
  refine wp_region_lastE 5 (by kernel_rfl) rfl (fun r0 => ?_)
  refine wpAnyG_take (i := 0) (v := ?_) (by kernel_rfl) rfl (by kernel_rfl) (by kernel_rfl) (by kernel_rfl) (fun _ _ _ h => h) (Or.inl ⟨by rfl, ?_⟩) ⟨_, rfl⟩ ?_
  rotate_left
  · rintro wS ⟨yS, rfl⟩
    go_simp
    try (with_reducible rfl)
  try simp only [Act.put, List.setIfInBounds_toArray, List.set_cons_zero, List.set_cons_succ]
  refine wpAnyG_take (i := 1) (v := ?_) (by kernel_rfl) rfl (by kernel_rfl) (by kernel_rfl) (by kernel_rfl) (fun _ _ _ h => h) (Or.inl ⟨by rfl, ?_⟩) ⟨_, rfl⟩ ?_
  rotate_left
  · rintro wS ⟨yS, rfl⟩
    go_simp
    try (with_reducible rfl)
  try simp only [Act.put, List.setIfInBounds_toArray, List.set_cons_zero, List.set_cons_succ]
  refine wpAnyG_take (i := 2) (v := ?_) (by kernel_rfl) rfl (by kernel_rfl) (by kernel_rfl) (by kernel_rfl) (fun _ _ _ h => h) (Or.inl ⟨by rfl, ?_⟩) ⟨_, rfl⟩ ?_
  rotate_left
  · rintro wS ⟨yS, rfl⟩
    go_simp
    try (with_reducible rfl)
  try simp only [Act.put, List.setIfInBounds_toArray, List.set_cons_zero, List.set_cons_succ]
  refine wpAnyG_one (i := 3) (by kernel_rfl) (by decide) (wpOp_plain rfl rfl ?_)
  go_simp
  go_at_call 86
  refine (leastR_any D (nws D) p q _ c d cn _ HD.out HNW.out hpos (HIz.out r0) (HLN.out r0)).mono ?_
  rintro e w3 ⟨bl2, yb, cb, hfb, rfl, hb3, hnb⟩
  obtain ⟨r1, hr1⟩ : ∃ y : Ext y2.v, w3 = y.v := ⟨⟨w3, bT r0.b hb3⟩, rfl⟩
  subst hr1
  have e1 : bl2 = bl := by rw [HBL.out] at hfb; cases hfb; rfl
  subst e1
  have HCB := Lib.hid (costR_any D p q yb c d cb (asF bl2) r1.v HD.out (HNR.out.2.inH HD.out) (HIz.out r1) hnb)
  rw [HCL.out] at HCB
  clear hfb hb3 hnb
  refine ⟨⟨_, rfl⟩, ?_⟩
  try simp only [Act.put, List.setIfInBounds_toArray, List.set_cons_zero, List.set_cons_succ]
  refine wpAnyG_one (i := 4) (by kernel_rfl) (by decide) (wpOp_plain rfl rfl ?_)
  go_simp
  go_at_call 24
  refine (quiet_x HCB.out).mono ?_
  rintro e w' ⟨rfl, r2, rfl⟩
  refine ⟨⟨_, rfl⟩, ?_⟩
  try simp only [Act.put, List.setIfInBounds_toArray, List.set_cons_zero, List.set_cons_succ]
  refine wpAnyG_done (by kernel_rfl) (by kernel_rfl) (wpOp_plain rfl rfl ?_)
  go_simp
  obtain ⟨L, hL⟩ : ∃ L, nws D = L := ⟨_, rfl⟩
  rw [hL] at HNW HAT HRES HLN hpos hle hli ⊢
  obtain ⟨tl, htl⟩ : ∃ v, tL D = v := ⟨_, rfl⟩
  rw [htl]
  have HTL := Lib.hid htl
  clear htl HCB HBL HCL HNR
  go_wp2
  go_loopw [9, 10, 11] (fun v s i wr => ∃ k : Nat, i = .int .i64 (k : Int) ∧ v = .int .i64 (ctF (lsP D) (L.take k)) ∧ s = .int .i64 (ctF (fun l => lsP D l && hsP D st l) (L.take k)) ∧ k ≤ L.length ∧ ∃ z : Ext y2.v, wr = z.v) (fun v s i _ => L.length - (intOf i).toNat)
  case atStart => exact ⟨0, rfl, by simp [ctF], by simp [ctF], Nat.zero_le _, r2, rfl⟩
  case round =>
    obtain ⟨k, rfl, rfl, rfl, hk, z, rfl⟩ := hrel
    by_cases hlt : k < L.length
    · have jk : decide ((k : Int) < (L.length : Int)) = true := by simp; omega
      have hkl : (k : Int) < (L.length : Int) := by omega
      have h1 : ctF (lsP D) (L.take (k + 1)) = if lsP D (L.getD k []) then ctF (lsP D) (L.take k) + 1 else ctF (lsP D) (L.take k) := fold_take _ _ hlt
      have h2 : ctF (fun l => lsP D l && hsP D st l) (L.take (k + 1)) = if (lsP D (L.getD k []) && hsP D st (L.getD k [])) then ctF (fun l => lsP D l && hsP D st l) (L.take k) + 1 else ctF (fun l => lsP D l && hsP D st l) (L.take k) := fold_take _ _ hlt
      have n1 := ct_nn (p := lsP D) (L := L.take k)
      have n2 := ct_nn (p := fun l => lsP D l && hsP D st l) (L := L.take k)
      rw [List.length_take] at n1 n2
      have H1 := Lib.hid h1; have H2 := Lib.hid h2
      clear h1 h2
      obtain ⟨qk, ck, hck, hnk, hbk⟩ := HAT.out z k hlt
      have CK : ∀ y : Ext z.v, y.v.cell? ⟨bq, oq + k, none⟩ = some (.slice qk D.m ck) := fun y => (y.b.cell (p := ⟨bq, oq + k, none⟩) hbk).trans hck
      have FZ0 : ∀ y : Ext z.v, y.v.cell? ⟨w.heap.size, 0, none⟩ = some (.slice p D.n c) := fun y => F0z (y.up z.b)
      have FZ1 : ∀ y : Ext z.v, y.v.cell? ⟨w.heap.size, 1, none⟩ = some (.slice q D.m d) := fun y => F1z (y.up z.b)
      have HNRk := Lib.hid (HNW.out.nw _ (getD_mem hlt)).2
      have HCK := Lib.hid (fun y : Ext z.v => costR_any D p q qk c d ck _ y.v HD.out (HNRk.out.inH HD.out) (HIz.out (y.up z.b)) (hnk.bel y.b))
      have HNK := Lib.hid (fun y : Ext z.v => hnk.bel y.b)
      have HLP : Hid (lsP D (L.getD k []) = decide (costF D (asF (L.getD k [])) D.m = tl)) := by rw [← HTL.out]; exact rfl
      have HHP : Hid (hsP D st (L.getD k []) = decide (asF (L.getD k []) st = D.hs st)) := rfl
      obtain ⟨l, hl⟩ : ∃ l, L.getD k [] = l := ⟨_, rfl⟩
      rw [hl] at H1 H2 HCK HNK HLP HHP
      obtain ⟨ca, hca⟩ : ∃ v, costF D (asF l) D.m = v := ⟨_, rfl⟩
      rw [hca] at HCK HLP
      obtain ⟨na, hna⟩ : ∃ v, ctF (lsP D) (L.take k) = v := ⟨_, rfl⟩
      obtain ⟨ns, hns⟩ : ∃ v, ctF (fun l => lsP D l && hsP D st l) (L.take k) = v := ⟨_, rfl⟩
      rw [hna] at H1 n1 ⊢
      rw [hns] at H2 n2 ⊢
      have t1 : IntKind.i64.wrap (na + 1) = na + 1 := IntWalk.i64_in _ (by omega)
      have t2 : IntKind.i64.wrap (ns + 1) = ns + 1 := IntWalk.i64_in _ (by omega)
      obtain ⟨y00, hy00⟩ := rebase z.v
      rw [hy00]
      clear hy00 hck hnk hbk hl hca hna hns hk n1 n2
      by_cases hc : ca = tl
      · have j1 : (ca != tl) = false := by simp [hc]
        have hlp : lsP D l = true := by rw [HLP.out]; simp [hc]
        rw [hlp] at H1 H2
        simp only [Bool.true_and] at H2
        obtain ⟨bk, ok, rfl, _, _⟩ := HNK.out y00 (by omega)
        obtain ⟨b2, o2, rfl, _, _⟩ := (HIz.out (y00.up z.b)).st (by omega)
        have K0 : ∀ y : Ext z.v, y.v.cell? ⟨bk, ok + st, none⟩ = some (.int .i64 (asF l st)) := fun y => ((HNK.out y).cell hst).2
        have K1 : ∀ y : Ext z.v, y.v.cell? ⟨b2, o2 + st * 4, none⟩ = some (.int .i64 (D.hs st)) := fun y => (HIz.out (y.up z.b)).c0 hst
        have hsm : (st : Int) < (D.m : Int) := by omega
        obtain ⟨fa, hfa⟩ : ∃ v, asF l st = v := ⟨_, rfl⟩
        rw [hfa] at K0 HHP
        clear hfa hlp
        have HC := Lib.hid hc
        clear hc
        by_cases he : fa = D.hs st
        · have j2 : (fa == D.hs st) = true := by simp [he]
          have hhp : hsP D st l = true := by rw [HHP.out]; simp [he]
          rw [hhp] at H2
          clear he hhp
          go_wp2
          refine quiet_e (by kernel_rfl) (by kernel_rfl) ?_
          repeat (first | go_big_quiet_step ((first | (go_at_call 24; with_reducible exact quiet_x (HCK.out _)))) | quiet_step ((first | (go_at_call 24; with_reducible exact quiet_x (HCK.out _)))))
          refine wpQuiet_nil ?_
          intro w6 hw6
          obtain ⟨y4, rfl⟩ := hw6
          go_wp2
          refine quiet_e (by kernel_rfl) (by kernel_rfl) ?_
          repeat (first | go_big_quiet_step (fail) | quiet_step (fail))
          refine wpQuiet_nil ?_
          intro w6 hw6
          obtain ⟨y5, rfl⟩ := hw6
          go_wp2
          go_roundw
          case rel => exact ⟨k + 1, by go_num, by rw [H1.out]; rfl, by rw [H2.out]; rfl, hlt, ⟨y5.v, bT z.b y5.b⟩, rfl⟩
          case measure => first | (simp [intOf]; done) | (simp [intOf]; omega)
        · have j2 : (fa == D.hs st) = false := by simp [he]
          have hhp : hsP D st l = false := by rw [HHP.out]; simp [he]
          rw [hhp] at H2
          clear he hhp
          go_wp2
          refine quiet_e (by kernel_rfl) (by kernel_rfl) ?_
          repeat (first | go_big_quiet_step ((first | (go_at_call 24; with_reducible exact quiet_x (HCK.out _)))) | quiet_step ((first | (go_at_call 24; with_reducible exact quiet_x (HCK.out _)))))
          refine wpQuiet_nil ?_
          intro w6 hw6
          obtain ⟨y4, rfl⟩ := hw6
          go_wp2
          refine quiet_e (by kernel_rfl) (by kernel_rfl) ?_
          repeat (first | go_big_quiet_step (fail) | quiet_step (fail))
          refine wpQuiet_nil ?_
          intro w6 hw6
          obtain ⟨y5, rfl⟩ := hw6
          go_wp2
          go_roundw
          case rel => exact ⟨k + 1, by go_num, by rw [H1.out]; rfl, by rw [H2.out]; rfl, hlt, ⟨y5.v, bT z.b y5.b⟩, rfl⟩
          case measure => first | (simp [intOf]; done) | (simp [intOf]; omega)
      · have j1 : (ca != tl) = true := by simp [hc]
        have hlp : lsP D l = false := by rw [HLP.out]; simp [hc]
        rw [hlp] at H1 H2
        simp only [Bool.false_and] at H2
        clear hc hlp
        go_wp2
        refine quiet_e (by kernel_rfl) (by kernel_rfl) ?_
        repeat (first | go_big_quiet_step ((first | (go_at_call 24; with_reducible exact quiet_x (HCK.out _)))) | quiet_step ((first | (go_at_call 24; with_reducible exact quiet_x (HCK.out _)))))
        refine wpQuiet_nil ?_
        intro w6 hw6
        obtain ⟨y4, rfl⟩ := hw6
        go_wp2
        go_roundw
        case rel => exact ⟨k + 1, by go_num, by rw [H1.out]; rfl, by rw [H2.out]; rfl, hlt, ⟨y4.v, bT z.b y4.b⟩, rfl⟩
        case measure => first | (simp [intOf]; done) | (simp [intOf]; omega)
    · have hke : k = L.length := by omega
      subst hke
      have jk : decide ((L.length : Int) < (L.length : Int)) = false := by simp
      have hbs := (ct_same (p := lsP D) (q := hsP D st) (L := L)).2
      have hnn := (ct_nn (p := fun l => lsP D l && hsP D st l) (L := L)).1
      rw [List.take_length]
      have HKN := Lib.hid (fun V : World => known_any (ctF (fun l => lsP D l && hsP D st l) L) (ctF (lsP D) L) V ⟨hnn, hbs⟩)
      rw [HRES.out] at HKN
      obtain ⟨na, hna⟩ : ∃ v, ctF (lsP D) L = v := ⟨_, rfl⟩
      obtain ⟨ns, hns⟩ : ∃ v, ctF (fun l => lsP D l && hsP D st l) L = v := ⟨_, rfl⟩
      rw [hna, hns] at HKN ⊢
      clear hbs hnn hna hns hk hlt
      go_wp2_with fail
      refine (HKN.out _).mono ?_
      rintro e w' ⟨rfl, rfl⟩
      go_wp2
      go_ret2
      exact ⟨rfl, HBz.out z⟩
end Go.Proofs.Ytegkgfiaegpihaa
