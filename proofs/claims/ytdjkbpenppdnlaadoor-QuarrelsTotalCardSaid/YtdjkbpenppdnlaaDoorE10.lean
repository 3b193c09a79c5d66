/- Towns with worlds: Out of the specification. -/
import Derived.Test.YtdjkbpenppdnlaaDoorE9

set_option linter.unusedSimpArgs false

set_option linter.unusedVariables false

namespace Go.Proofs.YtdjkbpenppdnlaaDoor

open Go.RowKit

theorem isWorldQ_is {T : Tn} {A : Adr} {k : Int} {b : Bool} (hb : within k 0 ((T.nw : Int) - 1) = b) (w : World) (hn : T.nw ≤ 40) :
    Calls Tryd.prog 46 #[.agg #[.int .i64 T.wn, .slice A.wp T.nw A.wc, .slice A.fp T.nf A.fc], .int .i64 k] w fun e w' => e = .returned (.bool b) ∧ Below w.heap.size w w' := by subst hb; exact isWorldQ_any T A k w hn
theorem askR_is {T : Tn} {A : Adr} {is : Bool} {b : Int} (hb : askE T.ok is = b) (w : World) (hs : T.sized) (hi : TnIn w w.heap.size T A) :
    Calls Tryd.prog 76 #[.agg #[.int .i64 T.wn, .slice A.wp T.nw A.wc, .slice A.fp T.nf A.fc], .bool is] w fun e w' => e = .returned (.int .i64 b) ∧ Below w.heap.size w w' := by subst hb; exact askR_any T A is w hs hi
set_option maxRecDepth 100000 in
set_option maxHeartbeats 1000000 in
theorem outR_no (T : Tn) (A : Adr) (k : Int) (er : Int) (w : World) (hs : T.sized) (hi : TnIn w w.heap.size T A) (he : askE T.ok (within k 0 ((T.nw : Int) - 1)) = er) (h0 : er ≠ 0) :
    Calls Tryd.prog 23 #[A.val T, .int .i64 k] w fun e w' => e = .returned (.tuple #[.slice none 0 0, .int .i64 er]) ∧ Below w.heap.size w w' := by
  obtain ⟨w1, x, hw1, hb1, hz1, F0, F1, F2, _⟩ := box_tn w T.wn A.wp A.fp T.nw A.wc T.nf A.fc
  have HB := Lib.hid hb1
  have HI : Hid (∀ z : Ext w1, TnIn z.v z.v.heap.size T A) := fun z => (hi.bel hb1).bel z.b
  have HS := Lib.hid hs
  obtain ⟨is, his⟩ : ∃ is, within k 0 ((T.nw : Int) - 1) = is := ⟨_, rfl⟩
  rw [his] at he
  have HQ := Lib.hid (fun z : Ext w1 => isWorldQ_is (A := A) his z.v hs.w)
  have HA := Lib.hid (fun z : Ext w1 => askR_is he z.v hs (HI.out z))
  have j : (er != 0) = true := by simpa using h0
  clear hb1 hz1 hi hs his he h0
  unfold Adr.val
  go_enter Tryd.func23, Tryd.ntmps23
  go_wp2
  refine quiet_e (by kernel_rfl) (by kernel_rfl) ?_
  repeat (first | go_big_quiet_step ((first | (go_at_call 46; exact quiet_x (HQ.out _)) | (go_at_call 76; exact quiet_x (HA.out _)))) | quiet_step ((first | (go_at_call 46; exact quiet_x (HQ.out _)) | (go_at_call 76; exact quiet_x (HA.out _)))))
  refine wpQuiet_nil ?_
  intro w6 hw6
  obtain ⟨y, rfl⟩ := hw6
  go_wp2
  refine bodyPost_ret (v := .tuple #[.slice none 0 0, .int .i64 er]) (by simp [results, Tryd.f23, go_sem]) rfl ⟨rfl, bT HB.out y.b⟩
set_option maxRecDepth 100000 in
set_option maxHeartbeats 4000000 in
theorem outR_ok (T : Tn) (A : Adr) (k : Nat) (w : World) (hs : T.sized) (hok : T.ok = true) (hi : TnIn w w.heap.size T A) (hk : k < T.nw) :
    Calls Tryd.prog 23 #[A.val T, .int .i64 (k : Int)] w fun e w' => ∃ v, e = .returned (.tuple #[v, .int .i64 (if T.outs k = [] then 3 else 0)]) ∧ w'.ownsRow w.heap.size 3 1 v (T.outs k).length (cellsN (T.outs k)) ∧ Below w.heap.size w w' := by
  obtain ⟨_, hnw, hnf, _, _⟩ := T.ok_parts hok
  obtain ⟨L, hL⟩ : ∃ L, T.outs k = L := ⟨_, rfl⟩
  rw [hL]
  have HLL := Lib.hid hL
  clear hL
  obtain ⟨er, her⟩ : ∃ er : Int, (if L = [] then (3 : Int) else 0) = er := ⟨_, rfl⟩
  rw [her]
  have HER := Lib.hid her
  clear her
  obtain ⟨w1, x, hw1, hb1, hz1, F0, F1, F2, _⟩ := box_tn w T.wn A.wp A.fp T.nw A.wc T.nf A.fc
  have HB := Lib.hid hb1
  have HI : Hid (∀ z : Ext w1, TnIn z.v z.v.heap.size T A) := fun z => (hi.bel hb1).bel z.b
  have HS := Lib.hid hs
  have HO := Lib.hid hok
  have HK := Lib.hid hk
  have his : within (k : Int) 0 ((T.nw : Int) - 1) = true := within_tt (by omega) (by omega)
  have HQ := Lib.hid (fun z : Ext w1 => isWorldQ_is (A := A) his z.v hs.w)
  have HA := Lib.hid (fun z : Ext w1 => askR_is (A := A) (is := true) (show askE T.ok true = 0 by rw [hok]; rfl) z.v hs (HI.out z))
  obtain ⟨i3, hi3, hz3, hz3', hz3''⟩ := info_parts infoI
  have I3 := Lib.hid hi3; have Z3 := Lib.hid hz3; have Z3' := Lib.hid hz3'; have Z3'' := Lib.hid hz3''
  clear hb1 hz1 hi hok hs his hi3 hz3 hz3' hz3''
  unfold Adr.val
  go_enter Tryd.func23, Tryd.ntmps23
  go_wp2
  refine quiet_e (by kernel_rfl) (by kernel_rfl) ?_
  repeat (first | go_big_quiet_step ((first | (go_at_call 46; exact quiet_x (HQ.out _)) | (go_at_call 76; exact quiet_x (HA.out _)))) | quiet_step ((first | (go_at_call 46; exact quiet_x (HQ.out _)) | (go_at_call 76; exact quiet_x (HA.out _)))))
  refine wpQuiet_nil ?_
  intro w6 hw6
  obtain ⟨y0, rfl⟩ := hw6
  go_wp2
  clear hw1 x
  go_loopw [7, 8] (fun v i wr => ∃ f : Nat, i = .int .i64 f ∧ f ≤ T.nf ∧ ∃ x : Ext w1, wr = x.v ∧ x.v.ownsRow w1.heap.size 3 1 v (pick (fun f => !T.agr k f) f).length (cellsN (pick (fun f => !T.agr k f) f))) (fun _ i _ => T.nf - (intOf i).toNat)
  case atStart => exact ⟨0, rfl, Nat.zero_le _, y0, rfl, ⟨by rfl, .inl ⟨by rfl, by rfl⟩⟩⟩
  case round =>
    clear y0
    obtain ⟨f, rfl, hf, y, rfl, hown⟩ := hrel
    have HW := Lib.hid hown; clear hown
    by_cases hlf : f < T.nf
    · have j : decide ((f : Int) < (T.nf : Int)) = true := by simp; omega
      obtain ⟨b, o, hr, _, hc⟩ := (HI.out y).fs (by omega)
      have HR1 := Lib.hid hr
      have E0 : ∀ z : Ext y.v, z.v.cell? ⟨w.heap.size, 0, none⟩ = some (.int .i64 T.wn) := fun z => F0 (z.up y.b)
      have E1 : ∀ z : Ext y.v, z.v.cell? ⟨w.heap.size, 1, none⟩ = some (.slice A.wp T.nw A.wc) := fun z => F1 (z.up y.b)
      have E2 : ∀ z : Ext y.v, z.v.cell? ⟨w.heap.size, 2, none⟩ = some (.slice A.fp T.nf A.fc) := fun z => F2 (z.up y.b)
      have HC : ∀ u : Ext y.v, _ := fun u => fact_cells (w := u.v) (q := b) (o := o) (by have := (HI.out (u.up y.b)).fs; rw [HR1.out] at this; exact fun i hi => At.cell this hi) hlf
      have c0 := fun u => (HC u).1; have c1 := fun u => (HC u).2.1; have c2 := fun u => (HC u).2.2.1; have c3 := fun u => (HC u).2.2.2.1; have c4 := fun u => (HC u).2.2.2.2
      have f2 := F2 y
      obtain ⟨zz, hzz⟩ := rebase y.v
      rw [hr] at E2 f2
      clear hr hc HC F0 F1 F2
      have hlen := pick_len (b := fun f => !T.agr k f) (n := f)
      cases hg : T.agr k f with
      | true =>
        have HP := Lib.hid (show pick (fun f => !T.agr k f) (f + 1) = pick (fun f => !T.agr k f) f by rw [pick_succ, hg]; simp)
        have HG := Lib.hid (fun u : Ext y.v => agreesR_is hg HR1.out HO.out HK.out hlf u.v (HI.out (u.up y.b)))
        clear hg
        go_wp2
        try rw [hzz]
        clear hzz
        refine quiet_e (by kernel_rfl) (by kernel_rfl) ?_
        repeat (first | go_big_quiet_step ((first | (go_at_call 77; exact quiet_x (HG.out _)))) | quiet_step ((first | (go_at_call 77; exact quiet_x (HG.out _)))))
        refine wpQuiet_nil ?_
        intro w6 hw6
        obtain ⟨z2, rfl⟩ := hw6
        go_wp2
        go_roundw
        case rel => exact ⟨f + 1, by go_num, hlf, z2.up y.b, rfl, by rw [HP.out]; exact own_below HW.out z2.b⟩
        case measure => first | (simp [intOf]; done) | (simp [intOf]; omega)
      | false =>
        have HP := Lib.hid (show pick (fun f => !T.agr k f) (f + 1) = pick (fun f => !T.agr k f) f ++ [f] by rw [pick_succ, hg]; simp)
        have HG := Lib.hid (fun u : Ext y.v => agreesR_is hg HR1.out HO.out HK.out hlf u.v (HI.out (u.up y.b)))
        clear hg
        go_wp2
        try rw [hzz]
        clear hzz
        refine quiet_e (by kernel_rfl) (by kernel_rfl) ?_
        repeat (first | go_big_quiet_step ((first | (go_at_call 77; exact quiet_x (HG.out _)))) | quiet_step ((first | (go_at_call 77; exact quiet_x (HG.out _)))))
        refine wpQuiet_nil ?_
        intro w6 hw6
        obtain ⟨z2, rfl⟩ := hw6
        have HO2 := Lib.hid (own_below HW.out z2.b)
        go_wp2_with (at_builtin; refine wpList_append_own _ rfl _ _ 31 rfl w1.heap.size 3 i3 _ 1 8 Tryd.underlying31 I3.out Z3.out Z3'.out Z3''.out rfl (by decide) _ _ _ rfl (HO2.out.alloc _) ⟨z2.v.heap.size, 0, none⟩ 1 1 [.int .i64 (f : Int)] rfl rfl (lit_cellsQ _ _ _ _ (by simp)) ?c2 ?c3 ?c4 ?c5 ?_)
        case c2 => simp [Value.oneCell']
        case c3 => unfold maxLen; omega
        case c4 => omega
        case c5 => have h1 := y.b.size; have h2 := z2.b.size; simp; omega
        intro v' w4 hown hgrow _
        have hb4 := below_grown (a := w1) (bA (bT y.b z2.b) _) (HO2.out.alloc _) (Nat.le_refl _) hgrow
        obtain ⟨z4, hz4⟩ : ∃ z4 : Ext w1, w4 = z4.v := ⟨⟨w4, hb4⟩, rfl⟩
        subst hz4
        have HN := Lib.hid hown
        clear hown hgrow hb4
        go_wp2
        go_roundw
        case rel =>
          refine ⟨f + 1, by go_num, hlf, z4, rfl, ?_⟩
          rw [HP.out]
          have := HN.out
          unfold cellsN at this ⊢
          rw [List.map_append, List.length_append]
          exact this
        case measure => first | (simp [intOf]; done) | (simp [intOf]; omega)
    · have HE := Lib.hid (show pick (fun f => !T.agr k f) f = L by rw [show f = T.nf by omega]; exact HLL.out)
      have j : decide ((f : Int) < (T.nf : Int)) = false := by simp; omega
      have HF := Lib.hid (bT HB.out y.b)
      have HBS := Lib.hid HB.out.size
      rw [HE.out] at HW
      obtain ⟨p, c, hv, _⟩ := own_form HW.out
      subst hv
      obtain ⟨n, hn⟩ : ∃ n, L.length = n := ⟨_, rfl⟩
      have HNN := Lib.hid hn
      rw [hn] at HW ⊢
      clear hn
      by_cases h0 : n = 0
      · subst h0
        have hl : L = [] := List.eq_nil_of_length_eq_zero HNN.out
        have HE3 := Lib.hid (show er = 3 by rw [← HER.out, hl]; rfl)
        have HO3 : Hid (y.v.ownsRow w.heap.size 3 1 (.slice none 0 0) 0 (cellsN L)) := by rw [hl]; exact ⟨by rfl, .inl ⟨by rfl, by rfl⟩⟩
        clear hl
        go_wp2
        refine bodyPost_ret (v := .tuple #[.slice none 0 0, .int .i64 3]) (by simp [results, Tryd.f23, go_sem]) rfl ⟨.slice none 0 0, by rw [HE3.out], by rw [HNN.out]; exact HO3.out, HF.out⟩
      · have HE3 := Lib.hid (show er = 0 by
          rw [← HER.out, if_neg]
          intro e
          have := HNN.out
          rw [e] at this
          exact h0 this.symm)
        have j5 : ((n : Int) == 0) = false := by simp; omega
        clear h0
        go_wp2
        refine bodyPost_ret (v := .tuple #[.slice p n c, .int .i64 0]) (by simp [results, Tryd.f23, go_sem]) rfl ⟨.slice p n c, by rw [HE3.out], by rw [HNN.out]; exact own_base HW.out HBS.out, HF.out⟩
end Go.Proofs.YtdjkbpenppdnlaaDoor
