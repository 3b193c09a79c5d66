/- Towns with worlds: Left and Out of the program. -/
import Derived.Test.YtdjkbpenppdnlaaDoorE10

import Derived.Test.YtdjkbpenppdnlaaDoorF4

set_option linter.unusedSimpArgs false

set_option linter.unusedVariables false

namespace Go.Proofs.YtdjkbpenppdnlaaDoor

open Go.RowKit

theorem valid_is {T : Tn} {A : Adr} {b : Bool} (hb : T.ok = b) (w : World) (hs : T.sized) (hi : TnIn w w.heap.size T A) :
    Calls Tryd.prog 68 #[.agg #[.int .i64 T.wn, .slice A.wp T.nw A.wc, .slice A.fp T.nf A.fc]] w fun e w' => e = .returned (.bool b) ∧ Below w.heap.size w w' := by subst hb; exact valid_any T A w hs hi
theorem isWorldP_is {T : Tn} {A : Adr} {k : Int} {b : Bool} (hb : within k 0 ((T.nw : Int) - 1) = b) (w : World) :
    Calls Tryd.prog 74 #[.agg #[.int .i64 T.wn, .slice A.wp T.nw A.wc, .slice A.fp T.nf A.fc], .int .i64 k] w fun e w' => e = .returned (.bool b) ∧ Below w.heap.size w w' := by subst hb; exact isWorldP_any T A k w
theorem agrees_is {T : Tn} {A : Adr} {k f : Nat} {b : Bool} (hb : T.agr k f = b) (hok : T.ok = true) (hk : k < T.nw) (hf : f < T.nf) (w : World) (hi : TnIn w w.heap.size T A) :
    Calls Tryd.prog 110 #[.agg #[.slice (A.rp k) (T.rl k) (A.rc k)], .agg #[.int .i64 (T.ff f), .int .i64 (T.fm f), .int .i64 (T.ft f), .int .i64 (T.fl f), .int .i64 (T.fh f)]] w fun e w' => e = .returned (.bool b) ∧ Below w.heap.size w w' := by
  subst hb; exact agrees_any T A k f hok hk hf w hi
theorem leftP_no (T : Tn) (A : Adr) (w : World) (hs : T.sized) (hi : TnIn w w.heap.size T A) (hok : T.ok = false) :
    Calls Tryd.prog 20 #[A.val T] w fun e w' => e = .returned (.tuple #[.slice none 0 0, .int .i64 50]) ∧ Below w.heap.size w w' := by
  obtain ⟨w1, x, hw1, hb1, hz1, F0, F1, F2, _⟩ := box_tn w T.wn A.wp A.fp T.nw A.wc T.nf A.fc
  have HB := Lib.hid hb1
  have HI := Lib.hid (hi.bel (bT hb1 x.b))
  have HS := Lib.hid hs
  replace F0 := F0 x; replace F1 := F1 x; replace F2 := F2 x
  have HC := Lib.hid hok
  clear hb1 hz1 hi hs hok
  unfold Adr.val
  go_enter Tryd.func20, Tryd.ntmps20
  go_wp2_with fail
  refine (quiet_x (valid_is HC.out _ HS.out HI.out)).mono ?_
  rintro e w5 ⟨rfl, y, rfl⟩
  go_wp2
  refine bodyPost_ret (v := .tuple #[.slice none 0 0, .int .i64 50]) (by simp [results, Tryd.f20, go_sem]) rfl ⟨rfl, bT HB.out y.b⟩
theorem LL_bits {T : Tn} (h : T.nw ≤ 6) : bitsM (mk T.lft T.nw) = T.LL := bits_mk h
theorem leftP_ok (T : Tn) (A : Adr) (w : World) (hs : T.sized) (hi : TnIn w w.heap.size T A) (hok : T.ok = true) (hg : GlobsOk laid w) :
    Calls Tryd.prog 20 #[A.val T] w fun e w' => ∃ v, e = .returned (.tuple #[v, .int .i64 0]) ∧ w'.ownsRow w.heap.size 3 1 v T.LL.length (cellsN T.LL) ∧ Below w.heap.size w w' := by
  obtain ⟨w1, x, hw1, hb1, hz1, F0, F1, F2, _⟩ := box_tn w T.wn A.wp A.fp T.nw A.wc T.nf A.fc
  have HB := Lib.hid hb1
  have HI : Hid (∀ z : Ext w1, TnIn z.v z.v.heap.size T A) := fun z => (hi.bel hb1).bel z.b
  have HG : Hid (∀ z : Ext w1, GlobsOk laid z.v) := fun z => hg.below (bT hb1 z.b)
  have HS := Lib.hid hs
  have HC := Lib.hid hok
  have hnw := (T.ok_parts hok).2.1
  have HM := Lib.hid (mk_64 (b := T.lft) hnw)
  have HL := Lib.hid (LL_bits hnw)
  obtain ⟨m, hm⟩ : ∃ m, mk T.lft T.nw = m := ⟨_, rfl⟩
  have HE := Lib.hid hm
  rw [hm] at HM HL
  clear hb1 hz1 hi hs hok hg hm hnw
  unfold Adr.val
  go_enter Tryd.func20, Tryd.ntmps20
  have f0 := F0 x; have f1 := F1 x; have f2 := F2 x
  go_wp2_with fail
  refine (quiet_x (valid_is HC.out _ HS.out (HI.out x))).mono ?_
  rintro e w5 ⟨rfl, y, rfl⟩
  clear f0 f1 f2
  have f0 := F0 y; have f1 := F1 y; have f2 := F2 y
  go_wp2_with fail
  refine (quiet_x (leftOf_any T A y.v HC.out (HI.out y))).mono ?_
  rintro e w6 ⟨rfl, z, rfl⟩
  rw [HE.out]
  clear f0 f1 f2
  go_wp2_with fail
  refine (collect_any m z.v HM.out (HG.out z)).mono ?_
  rintro e w7 ⟨v, rfl, ho, hb⟩
  have HO := Lib.hid (own_base ho (Nat.le_trans HB.out.size z.b.size)); have HB7 := Lib.hid (bT HB.out (bT z.b hb))
  clear ho hb
  go_wp2
  refine bodyPost_ret (v := .tuple #[v, .int .i64 0]) (by simp [results, Tryd.f20, go_sem]) rfl ⟨v, rfl, by rw [← HL.out]; exact HO.out, HB7.out⟩
set_option maxRecDepth 100000 in
set_option maxHeartbeats 4000000 in
theorem outOf_any (T : Tn) (A : Adr) (k : Nat) (w : World) (hok : T.ok = true) (hi : TnIn w w.heap.size T A) (hk : k < T.nw) :
    Calls Tryd.prog 75 #[A.val T, .int .i64 (k : Int)] w fun e w' => ∃ v, e = .returned v ∧ w'.ownsRow w.heap.size 3 1 v (T.outs k).length (cellsN (T.outs k)) ∧ Below w.heap.size w w' := by
  obtain ⟨_, hnw, hnf, _, _⟩ := T.ok_parts hok
  obtain ⟨L, hL⟩ : ∃ L, T.outs k = L := ⟨_, rfl⟩
  rw [hL]
  have HLL := Lib.hid hL
  clear hL
  obtain ⟨w1, x, hw1, hb1, hz1, F0, F1, F2, _⟩ := box_tn w T.wn A.wp A.fp T.nw A.wc T.nf A.fc
  have HB := Lib.hid hb1
  have HI : Hid (∀ z : Ext w1, TnIn z.v z.v.heap.size T A) := fun z => (hi.bel hb1).bel z.b
  have HO := Lib.hid hok
  have HK := Lib.hid hk
  have hki : (k : Int) < (T.nw : Int) := by omega
  obtain ⟨i3, hi3, hz3, hz3', hz3''⟩ := info_parts infoI
  have I3 := Lib.hid hi3; have Z3 := Lib.hid hz3; have Z3' := Lib.hid hz3'; have Z3'' := Lib.hid hz3''
  clear hb1 hz1 hi hok hi3 hz3 hz3' hz3''
  unfold Adr.val
  go_enter Tryd.func75, Tryd.ntmps75
  have f2 := F2 x
  go_wp2
  clear hw1 f2
  go_loopw [5, 11] (fun v i wr => ∃ f : Nat, i = .int .i64 f ∧ f ≤ T.nf ∧ ∃ x : Ext w1, wr = x.v ∧ x.v.ownsRow w1.heap.size 3 1 v (pick (fun f => !T.agr k f) f).length (cellsN (pick (fun f => !T.agr k f) f))) (fun _ i _ => T.nf - (intOf i).toNat)
  case atStart => exact ⟨0, rfl, Nat.zero_le _, x, rfl, ⟨by rfl, .inl ⟨by rfl, by rfl⟩⟩⟩
  case round =>
    obtain ⟨f, rfl, hf, y, rfl, hown⟩ := hrel
    have HW := Lib.hid hown; clear hown
    by_cases hlf : f < T.nf
    · have j : decide ((f : Int) < (T.nf : Int)) = true := by simp; omega
      obtain ⟨b, o, hr, hl0, hc⟩ := (HI.out y).fs (by omega)
      have HR1 := Lib.hid hr
      have HC := fact_cells (w := y.v) (q := b) (o := o) (by have := (HI.out y).fs; rw [hr] at this; exact fun i hi => At.cell this hi) hlf
      obtain ⟨c0, c1, c2, c3, c4⟩ := HC
      obtain ⟨w2, z0, hw2, hb2, hz2, G0, G1, G2, G3, G4, _⟩ := box_ft y.v (T.ff f) (T.fm f) (T.ft f) (T.fl f) (T.fh f)
      have hyz : ∀ z : Ext w2, Below y.v.heap.size y.v z.v := fun z => bT hb2 z.b
      have E1 : ∀ z : Ext w2, z.v.cell? ⟨w.heap.size, 1, none⟩ = some (.slice A.wp T.nw A.wc) := fun z => F1 (⟨z.v, bT y.b (hyz z)⟩)
      obtain ⟨b2, o2, hr2, hl2, hc2⟩ := (HI.out y).ws (by omega)
      have d0 : ∀ z : Ext w2, z.v.cell? ⟨b2, o2 + k, none⟩ = some (.slice (A.rp k) (T.rl k) (A.rc k)) := fun z => At.cell (f := fun i => .slice (A.rp i) (T.rl i) (A.rc i)) (by have := (HI.out ⟨z.v, bT y.b (hyz z)⟩).ws; rwa [hr2] at this) (by omega)
      rw [hr2] at E1
      have HY := Lib.hid hyz
      rw [hr]
      clear hl0 hc hl2 hc2 hr hr2 hb2 hz2 hyz F0 F1 F2
      have hlen := pick_len (b := fun f => !T.agr k f) (n := f)
      cases hg : T.agr k f with
      | true =>
        have HP := Lib.hid (show pick (fun f => !T.agr k f) (f + 1) = pick (fun f => !T.agr k f) f by rw [pick_succ, hg]; simp)
        have HG := Lib.hid (fun u : Ext w2 => agrees_is hg HO.out HK.out hlf u.v (HI.out ⟨u.v, bT y.b (HY.out u)⟩))
        clear hg
        go_wp2
        refine quiet_e (by kernel_rfl) (by kernel_rfl) ?_
        repeat (first | go_big_quiet_step ((first | (go_at_call 110; exact quiet_x (HG.out _)))) | quiet_step ((first | (go_at_call 110; exact quiet_x (HG.out _)))))
        refine wpQuiet_nil ?_
        intro w6 hw6
        obtain ⟨z2, rfl⟩ := hw6
        go_wp2
        go_roundw
        case rel => exact ⟨f + 1, by go_num, hlf, ⟨z2.v, bT y.b (HY.out z2)⟩, rfl, by rw [HP.out]; exact own_below HW.out (HY.out z2)⟩
        case measure => first | (simp [intOf]; done) | (simp [intOf]; omega)
      | false =>
        have HP := Lib.hid (show pick (fun f => !T.agr k f) (f + 1) = pick (fun f => !T.agr k f) f ++ [f] by rw [pick_succ, hg]; simp)
        have HG := Lib.hid (fun u : Ext w2 => agrees_is hg HO.out HK.out hlf u.v (HI.out ⟨u.v, bT y.b (HY.out u)⟩))
        clear hg
        go_wp2
        refine quiet_e (by kernel_rfl) (by kernel_rfl) ?_
        repeat (first | go_big_quiet_step ((first | (go_at_call 110; exact quiet_x (HG.out _)))) | quiet_step ((first | (go_at_call 110; exact quiet_x (HG.out _)))))
        refine wpQuiet_nil ?_
        intro w6 hw6
        obtain ⟨z2, rfl⟩ := hw6
        have HO2 := Lib.hid (own_below HW.out (HY.out z2))
        have HBZ := Lib.hid (bT y.b (HY.out z2))
        go_wp2_with (at_builtin; refine wpList_append_own _ rfl _ _ 31 rfl w1.heap.size 3 i3 _ 1 8 Tryd.underlying31 I3.out Z3.out Z3'.out Z3''.out rfl (by decide) _ _ _ rfl (HO2.out.alloc _) ⟨z2.v.heap.size, 0, none⟩ 1 1 [.int .i64 (f : Int)] rfl rfl (lit_cellsQ _ _ _ _ (by simp)) ?c2 ?c3 ?c4 ?c5 ?_)
        case c2 => simp [Value.oneCell']
        case c3 => unfold maxLen; omega
        case c4 => omega
        case c5 => have h1 := HBZ.out.size; simp; omega
        intro v' w4 hown hgrow _
        have hb4 := below_grown (a := w1) (bA HBZ.out _) (HO2.out.alloc _) (Nat.le_refl _) hgrow
        obtain ⟨z4, hz4⟩ : ∃ z4 : Ext w1, w4 = z4.v := ⟨⟨w4, hb4⟩, rfl⟩
        subst hz4
        have HN := Lib.hid hown
        clear hown hgrow hb4
        go_wp2
        go_roundw
        case rel =>
          refine ⟨f + 1, by go_num, hlf, z4, rfl, ?_⟩
          rw [HP.out]
          have := HN.out
          unfold cellsN at this ⊢
          rw [List.map_append, List.length_append]
          exact this
        case measure => first | (simp [intOf]; done) | (simp [intOf]; omega)
    · have HE := Lib.hid (show pick (fun f => !T.agr k f) f = L by rw [show f = T.nf by omega]; exact HLL.out)
      have j : decide ((f : Int) < (T.nf : Int)) = false := by simp; omega
      have HF := Lib.hid (bT HB.out y.b)
      have HBS := Lib.hid HB.out.size
      rw [HE.out] at HW
      go_wp2
      go_ret
      exact ⟨_, rfl, own_base HW.out HBS.out, HF.out⟩
theorem outP_no (T : Tn) (A : Adr) (k : Int) (er : Int) (w : World) (hs : T.sized) (hi : TnIn w w.heap.size T A) (he : askE T.ok (within k 0 ((T.nw : Int) - 1)) = er) (h0 : er ≠ 0) :
    Calls Tryd.prog 22 #[A.val T, .int .i64 k] w fun e w' => e = .returned (.tuple #[.slice none 0 0, .int .i64 er]) ∧ Below w.heap.size w w' := by
  obtain ⟨w1, x, hw1, hb1, hz1, F0, F1, F2, _⟩ := box_tn w T.wn A.wp A.fp T.nw A.wc T.nf A.fc
  have HB := Lib.hid hb1
  have HI : Hid (∀ z : Ext w1, TnIn z.v z.v.heap.size T A) := fun z => (hi.bel hb1).bel z.b
  have HS := Lib.hid hs
  clear hb1 hz1 hi hs
  unfold Adr.val
  have f0 := F0 x; have f1 := F1 x; have f2 := F2 x
  cases hok : T.ok with
  | false =>
    rw [hok] at he
    have HE := Lib.hid (show (50 : Int) = er from he)
    have HC := Lib.hid hok
    clear hok he h0
    go_enter Tryd.func22, Tryd.ntmps22
    go_wp2_with fail
    refine (quiet_x (valid_is HC.out _ HS.out (HI.out x))).mono ?_
    rintro e w5 ⟨rfl, y, rfl⟩
    go_wp2
    refine bodyPost_ret (v := .tuple #[.slice none 0 0, .int .i64 50]) (by simp [results, Tryd.f22, go_sem]) rfl ⟨by rw [HE.out], bT HB.out y.b⟩
  | true =>
    rw [hok] at he
    have HC := Lib.hid hok
    cases hw : within k 0 ((T.nw : Int) - 1) with
    | true =>
      rw [hw] at he
      exact absurd he.symm h0
    | false =>
      rw [hw] at he
      have HE := Lib.hid (show (1 : Int) = er from he)
      have HW := Lib.hid hw
      clear hok he h0 hw
      go_enter Tryd.func22, Tryd.ntmps22
      go_wp2_with fail
      refine (quiet_x (valid_is HC.out _ HS.out (HI.out x))).mono ?_
      rintro e w5 ⟨rfl, y, rfl⟩
      clear f0 f1 f2
      have f0 := F0 y; have f1 := F1 y; have f2 := F2 y
      go_wp2_with fail
      refine (quiet_x (isWorldP_is (A := A) HW.out y.v)).mono ?_
      rintro e w6 ⟨rfl, z, rfl⟩
      go_wp2
      refine bodyPost_ret (v := .tuple #[.slice none 0 0, .int .i64 1]) (by simp [results, Tryd.f22, go_sem]) rfl ⟨by rw [HE.out], bT HB.out z.b⟩
set_option maxRecDepth 100000 in
set_option maxHeartbeats 1000000 in
theorem outP_ok (T : Tn) (A : Adr) (k : Nat) (w : World) (hs : T.sized) (hok : T.ok = true) (hi : TnIn w w.heap.size T A) (hk : k < T.nw) :
    Calls Tryd.prog 22 #[A.val T, .int .i64 (k : Int)] w fun e w' => ∃ v, e = .returned (.tuple #[v, .int .i64 (if T.outs k = [] then 3 else 0)]) ∧ w'.ownsRow w.heap.size 3 1 v (T.outs k).length (cellsN (T.outs k)) ∧ Below w.heap.size w w' := by
  obtain ⟨w1, x, hw1, hb1, hz1, F0, F1, F2, _⟩ := box_tn w T.wn A.wp A.fp T.nw A.wc T.nf A.fc
  have HB := Lib.hid hb1
  have HI : Hid (∀ z : Ext w1, TnIn z.v z.v.heap.size T A) := fun z => (hi.bel hb1).bel z.b
  have HS := Lib.hid hs
  have HC := Lib.hid hok
  have HK := Lib.hid hk
  have HQ := Lib.hid (show within (k : Int) 0 ((T.nw : Int) - 1) = true from within_tt (by omega) (by omega))
  obtain ⟨L, hL⟩ : ∃ L, T.outs k = L := ⟨_, rfl⟩
  rw [hL]
  have HLL := Lib.hid hL
  obtain ⟨er, her⟩ : ∃ er : Int, (if L = [] then (3 : Int) else 0) = er := ⟨_, rfl⟩
  rw [her]
  have HER := Lib.hid her
  clear hb1 hz1 hi hs hok hk hL her
  unfold Adr.val
  have f0 := F0 x; have f1 := F1 x; have f2 := F2 x
  go_enter Tryd.func22, Tryd.ntmps22
  go_wp2_with fail
  refine (quiet_x (valid_is HC.out _ HS.out (HI.out x))).mono ?_
  rintro e w5 ⟨rfl, y, rfl⟩
  clear f0 f1 f2
  have f0 := F0 y; have f1 := F1 y; have f2 := F2 y
  go_wp2_with fail
  refine (quiet_x (isWorldP_is (A := A) HQ.out y.v)).mono ?_
  rintro e w6 ⟨rfl, z, rfl⟩
  clear f0 f1 f2
  have f0 := F0 z; have f1 := F1 z; have f2 := F2 z
  go_wp2_with fail
  refine (outOf_any T A k z.v HC.out (HI.out z) HK.out).mono ?_
  rintro e w7 ⟨v, rfl, ho, hb⟩
  rw [HLL.out] at ho
  have hbase : w.heap.size ≤ z.v.heap.size := Nat.le_trans HB.out.size z.b.size
  have HO := Lib.hid (own_base ho hbase); have HB7 := Lib.hid (bT HB.out (bT z.b hb))
  obtain ⟨p, c, hv, _⟩ := own_form ho
  subst hv
  clear ho hb hbase f0 f1 f2
  obtain ⟨n, hn⟩ : ∃ n, L.length = n := ⟨_, rfl⟩
  have HNN := Lib.hid hn
  rw [hn] at HO ⊢
  clear hn
  by_cases h0 : n = 0
  · subst h0
    have hl : L = [] := List.eq_nil_of_length_eq_zero HNN.out
    have HE3 := Lib.hid (show er = 3 by rw [← HER.out, hl]; rfl)
    have HO3 : Hid (w7.ownsRow w.heap.size 3 1 (.slice none 0 0) 0 (cellsN L)) := by rw [hl]; exact ⟨by rfl, .inl ⟨by rfl, by rfl⟩⟩
    clear hl
    go_wp2
    refine bodyPost_ret (v := .tuple #[.slice none 0 0, .int .i64 3]) (by simp [results, Tryd.f22, go_sem]) rfl ⟨.slice none 0 0, by rw [HE3.out], by rw [HNN.out]; exact HO3.out, HB7.out⟩
  · have HE3 := Lib.hid (show er = 0 by
      rw [← HER.out, if_neg]
      intro e
      have := HNN.out
      rw [e] at this
      exact h0 this.symm)
    have j5 : ((n : Int) == 0) = false := by simp; omega
    clear h0
    go_wp2
    refine bodyPost_ret (v := .tuple #[.slice p n c, .int .i64 0]) (by simp [results, Tryd.f22, go_sem]) rfl ⟨.slice p n c, by rw [HE3.out], by rw [HNN.out]; exact HO.out, HB7.out⟩
end Go.Proofs.YtdjkbpenppdnlaaDoor
