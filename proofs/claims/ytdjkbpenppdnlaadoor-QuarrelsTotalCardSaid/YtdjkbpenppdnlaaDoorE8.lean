/- Towns with worlds: the worlds that are left, by the specification. -/
import Derived.Test.YtdjkbpenppdnlaaDoorE7

import Derived.Test.YtdjkbpenppdnlaaDoorK1

set_option linter.unusedSimpArgs false

set_option linter.unusedVariables false

namespace Go.Proofs.YtdjkbpenppdnlaaDoor

open Go.RowKit

theorem infoI : (Tryd.prog.info? 3).map (fun i => (i.zero, i.size, i.bytes)) = some (some (.int .i64 0), 1, 8) := by kernel_rfl
/-- a list of numbers as cells -/
def cellsN (l : List Nat) : List Value := l.map fun (n : Nat) => Value.int .i64 (n : Int)
theorem cellsN_len {l : List Nat} : (cellsN l).length = l.length := by simp [cellsN]
theorem agreesR_is {T : Tn} {A : Adr} {k f : Nat} {b : Bool} {q : Option Addr} (hb : T.agr k f = b) (hq : A.fp = q) (hok : T.ok = true) (hk : k < T.nw) (hf : f < T.nf) (w : World) (hi : TnIn w w.heap.size T A) :
    Calls Tryd.prog 77 #[.agg #[.int .i64 T.wn, .slice A.wp T.nw A.wc, .slice q T.nf A.fc], .int .i64 (k : Int), .agg #[.int .i64 (T.ff f), .int .i64 (T.fm f), .int .i64 (T.ft f), .int .i64 (T.fl f), .int .i64 (T.fh f)]] w fun e w' => e = .returned (.bool b) ∧ Below w.heap.size w w' := by
  subst hq hb; exact agreesR_any T A k f hok hk hf w hi
set_option maxRecDepth 100000 in
set_option maxHeartbeats 8000000 in
theorem leftOfR_any (T : Tn) (A : Adr) (w : World) (hok : T.ok = true) (hi : TnIn w w.heap.size T A) :
    Calls Tryd.prog 59 #[A.val T] w fun e w' => ∃ v, e = .returned v ∧ w'.ownsRow w.heap.size 3 1 v T.LL.length (cellsN T.LL) ∧ Below w.heap.size w w' := by
  obtain ⟨_, hnw, hnf, _, _⟩ := T.ok_parts hok
  obtain ⟨w1, x, hw1, hb1, hz1, F0, F1, F2, _⟩ := box_tn w T.wn A.wp A.fp T.nw A.wc T.nf A.fc
  have HI : Hid (∀ z : Ext w1, TnIn z.v z.v.heap.size T A) := fun z => (hi.bel hb1).bel z.b
  have HB := Lib.hid hb1
  have HO := Lib.hid hok
  obtain ⟨i3, hi3, hz3, hz3', hz3''⟩ := info_parts infoI
  have I3 := Lib.hid hi3; have Z3 := Lib.hid hz3; have Z3' := Lib.hid hz3'; have Z3'' := Lib.hid hz3''
  clear hb1 hz1 hi hok hi3 hz3 hz3' hz3''
  unfold Adr.val
  go_enter Tryd.func59, Tryd.ntmps59
  go_wp2
  go_loopw [3, 4] (fun v i wr => ∃ k : Nat, i = .int .i64 k ∧ k ≤ T.nw ∧ ∃ x : Ext w1, wr = x.v ∧ x.v.ownsRow w1.heap.size 3 1 v (pick T.lft k).length (cellsN (pick T.lft k))) (fun _ i _ => T.nw - (intOf i).toNat)
  case atStart => exact ⟨0, rfl, Nat.zero_le _, x, rfl, ⟨by rfl, .inl ⟨by rfl, by rfl⟩⟩⟩
  case round =>
    clear hw1 x
    obtain ⟨k, rfl, hk, y, rfl, hown⟩ := hrel
    have HW := Lib.hid hown; clear hown
    by_cases hlt : k < T.nw
    · have j : decide ((k : Int) < (T.nw : Int)) = true := by simp; omega
      have E0 : ∀ z : Ext y.v, z.v.cell? ⟨w.heap.size, 0, none⟩ = some (.int .i64 T.wn) := fun z => F0 (z.up y.b)
      have E1 : ∀ z : Ext y.v, z.v.cell? ⟨w.heap.size, 1, none⟩ = some (.slice A.wp T.nw A.wc) := fun z => F1 (z.up y.b)
      have E2 : ∀ z : Ext y.v, z.v.cell? ⟨w.heap.size, 2, none⟩ = some (.slice A.fp T.nf A.fc) := fun z => F2 (z.up y.b)
      have HY : Hid (∀ z : Ext y.v, TnIn z.v z.v.heap.size T A) := fun z => HI.out (z.up y.b)
      have HL := Lib.hid hlt
      have f1 := F1 y; have f2 := F2 y
      clear F0 F1 F2
      go_wp2
      clear j hlt hk f1 f2
      go_loopw [5, 6] (fun b i wr => ∃ f : Nat, b = .bool (allN (T.agr k) f) ∧ i = .int .i64 f ∧ f ≤ T.nf ∧ ∃ z : Ext y.v, wr = z.v) (fun _ i _ => T.nf - (intOf i).toNat)
      case atStart => exact ⟨0, rfl, rfl, Nat.zero_le _, ⟨y.v, Below.refl _ _⟩, rfl⟩
      case round =>
        obtain ⟨f, rfl, rfl, hf, z, rfl⟩ := hrel
        by_cases hlf : f < T.nf
        · obtain ⟨b, o, hr, _, hc⟩ := (HY.out z).fs (by omega)
          have HR1 := Lib.hid hr
          rw [hr] at E2
          have HC : ∀ u : Ext y.v, _ := fun u => fact_cells (w := u.v) (q := b) (o := o) (by have := (HY.out u).fs; rw [HR1.out] at this; exact fun i hi => At.cell this hi) hlf
          have c0 := fun u => (HC u).1; have c1 := fun u => (HC u).2.1; have c2 := fun u => (HC u).2.2.1; have c3 := fun u => (HC u).2.2.2.1; have c4 := fun u => (HC u).2.2.2.2
          clear hr hc HC
          have j : decide ((f : Int) < (T.nf : Int)) = true := by simp; omega
          cases ha : allN (T.agr k) f with
          | true =>
            cases hg : T.agr k f with
            | true =>
              have HS := Lib.hid (allN_succ ha hg)
              have HG := Lib.hid (fun u : Ext y.v => agreesR_is hg HR1.out HO.out HL.out hlf u.v (HY.out u))
              clear ha hg
              go_wp2
              refine quiet_e (by kernel_rfl) (by kernel_rfl) ?_
              repeat (first | go_big_quiet_step ((first | (go_at_call 77; exact quiet_x (HG.out _)))) | quiet_step ((first | (go_at_call 77; exact quiet_x (HG.out _)))))
              refine wpQuiet_nil ?_
              intro w6 hw6
              obtain ⟨z2, rfl⟩ := hw6
              go_wp2
              go_roundw
              case rel => exact ⟨f + 1, by rw [HS.out], by go_num, hlf, z2, rfl⟩
              case measure => first | (simp [intOf]; done) | (simp [intOf]; omega)
            | false =>
              have HS := Lib.hid (allN_bad (Nat.lt_succ_self f) hg)
              have HG := Lib.hid (fun u : Ext y.v => agreesR_is hg HR1.out HO.out HL.out hlf u.v (HY.out u))
              clear ha hg
              go_wp2
              refine quiet_e (by kernel_rfl) (by kernel_rfl) ?_
              repeat (first | go_big_quiet_step ((first | (go_at_call 77; exact quiet_x (HG.out _)))) | quiet_step ((first | (go_at_call 77; exact quiet_x (HG.out _)))))
              refine wpQuiet_nil ?_
              intro w6 hw6
              obtain ⟨z2, rfl⟩ := hw6
              go_wp2
              go_roundw
              case rel => exact ⟨f + 1, by rw [HS.out], by go_num, hlf, z2, rfl⟩
              case measure => first | (simp [intOf]; done) | (simp [intOf]; omega)
          | false =>
            have HS := Lib.hid (show allN (T.agr k) (f + 1) = false by unfold allN; rw [ha]; rfl)
            clear ha
            go_wp2
            refine quiet_e (by kernel_rfl) (by kernel_rfl) ?_
            repeat (first | go_big_quiet_step (fail) | quiet_step (fail))
            refine wpQuiet_nil ?_
            intro w6 hw6
            obtain ⟨z2, rfl⟩ := hw6
            go_wp2
            go_roundw
            case rel => exact ⟨f + 1, by rw [HS.out], by go_num, hlf, z2, rfl⟩
            case measure => first | (simp [intOf]; done) | (simp [intOf]; omega)
        · have HE := Lib.hid (show f = T.nf by omega)
          have j : decide ((f : Int) < (T.nf : Int)) = false := by simp; omega
          have HO2 := Lib.hid (own_below HW.out z.b)
          have hlen := pick_len (b := T.lft) (n := k)
          have hk2 := HL.out
          cases hl : T.lft k with
          | false =>
            have ha : allN (T.agr k) f = false := by rw [HE.out]; exact hl
            have HP := Lib.hid (show pick T.lft (k + 1) = pick T.lft k by rw [pick_succ, hl]; simp)
            rw [ha]
            clear ha hl hf
            go_wp2
            go_roundw
            case rel => exact ⟨k + 1, by go_num, HL.out, z.up y.b, rfl, by rw [HP.out]; exact HO2.out⟩
            case measure => first | (simp [intOf]; done) | (simp [intOf]; omega)
          | true =>
            have ha : allN (T.agr k) f = true := by rw [HE.out]; exact hl
            have HP := Lib.hid (show pick T.lft (k + 1) = pick T.lft k ++ [k] by rw [pick_succ, hl]; simp)
            have hl2 : (pick T.lft k).length ≤ 6 := by have := HL.out; omega
            rw [ha]
            clear ha hl hf
            go_wp2_with (at_builtin; refine wpList_append_own _ rfl _ _ 31 rfl w1.heap.size 3 i3 _ 1 8 Tryd.underlying31 I3.out Z3.out Z3'.out Z3''.out rfl (by decide) _ _ _ rfl (HO2.out.alloc _) ⟨z.v.heap.size, 0, none⟩ 1 1 [.int .i64 (k : Int)] rfl rfl (lit_cellsQ _ _ _ _ (by simp)) ?c2 ?c3 ?c4 ?c5 ?_)
            case c2 => simp [Value.oneCell']
            case c3 => unfold maxLen; omega
            case c4 => omega
            case c5 => have h1 := y.b.size; have h2 := z.b.size; simp; omega
            intro v' w4 hown hgrow _
            have hb4 := below_grown (a := w1) (bA (bT y.b z.b) _) (HO2.out.alloc _) (Nat.le_refl _) hgrow
            obtain ⟨z4, hz4⟩ : ∃ z4 : Ext w1, w4 = z4.v := ⟨⟨w4, hb4⟩, rfl⟩
            subst hz4
            have HG := Lib.hid hown
            clear hown hgrow hb4
            go_wp2
            go_roundw
            case rel =>
              refine ⟨k + 1, by go_num, HL.out, z4, rfl, ?_⟩
              rw [HP.out]
              have := HG.out
              unfold cellsN at this ⊢
              rw [List.map_append, List.length_append]
              exact this
            case measure => first | (simp [intOf]; done) | (simp [intOf]; omega)
    · have HE := Lib.hid (show k = T.nw by omega)
      have j : decide ((k : Int) < (T.nw : Int)) = false := by simp; omega
      have HF := Lib.hid (bT HB.out y.b)
      have HBS := Lib.hid HB.out.size
      go_wp2
      go_ret
      refine ⟨_, rfl, ?_, HF.out⟩
      have := own_base HW.out HBS.out
      rw [HE.out] at this
      exact this
end Go.Proofs.YtdjkbpenppdnlaaDoor
