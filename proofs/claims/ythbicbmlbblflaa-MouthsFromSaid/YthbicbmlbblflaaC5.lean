/- Boxes of mouths: the gauges in the specification's words. -/
import Derived.Test.YthbicbmlbblflaaC4

import Derived.Test.YthbicbmlbblflaaD0

import Derived.Test.YthbicbmlbblflaaM2

import Derived.Laws.MakeOwn

import Derived.Laws.OwnMore

set_option linter.unusedSimpArgs false

set_option linter.unusedVariables false

namespace Go.Proofs.Ythbicbmlbblflaa

open Go.RowKit

theorem ask_any (D : Bx) (p q : Option Addr) (c d : Nat) (is : Bool) (w : World) (hn : D.n ≤ 40) (hm : D.m ≤ 40) (hi : BxIn w w.heap.size D p q) :
    Calls Try.prog 65 #[.agg #[.slice p D.n c, .slice q D.m d], .bool is] w fun e w' => e = .returned (.int .i64 (chkE D.ok is)) ∧ Below w.heap.size w w' := by
  obtain ⟨w1, x, hw1, hb1, hz1, F0, F1⟩ := box_bx w p q D.n D.m c d
  have HB := Lib.hid hb1
  have HI : Hid (∀ x : Ext w1, BxIn x.v x.v.heap.size D p q) := fun x => (hi.bel hb1).bel x.b
  clear hb1 hz1 hi
  cases ho : D.ok with
  | false =>
    have hc : chkE false true = 70 := rfl
    go_enter Try.func65, Try.ntmps65
    go_wp2_with fail
    refine (quiet_x (checkR_any D p q c d _ hn hm (HI.out _))).mono ?_
    rintro e w' ⟨rfl, y, rfl⟩
    go_wp2
    go_ret
    exact ⟨rfl, bT HB.out y.b⟩
  | true =>
    have hc : chkE true true = 0 := rfl
    cases is
    ·
      go_enter Try.func65, Try.ntmps65
      go_wp2_with fail
      refine (quiet_x (checkR_any D p q c d _ hn hm (HI.out _))).mono ?_
      rintro e w' ⟨rfl, y, rfl⟩
      go_wp2
      go_ret
      exact ⟨rfl, bT HB.out y.b⟩
    ·
      go_enter Try.func65, Try.ntmps65
      go_wp2_with fail
      refine (quiet_x (checkR_any D p q c d _ hn hm (HI.out _))).mono ?_
      rintro e w' ⟨rfl, y, rfl⟩
      go_wp2
      go_ret
      exact ⟨rfl, bT HB.out y.b⟩
theorem ask_is {D : Bx} {p q : Option Addr} {c d : Nat} {is : Bool} {v : Int} (h : chkE D.ok is = v) {w : World} (hn : D.n ≤ 40) (hm : D.m ≤ 40) (hi : BxIn w w.heap.size D p q) :
    Calls Try.prog 65 #[.agg #[.slice p D.n c, .slice q D.m d], .bool is] w fun e w' => e = .returned (.int .i64 v) ∧ Below w.heap.size w w' := by subst h; exact ask_any D p q c d is w hn hm hi
/-- a row of n numbers in block b -/
structure RowN (w : World) (b n : Nat) (f : Nat → Int) : Prop where
  lt : b < w.heap.size
  c : ∀ i, i < n → w.cell? ⟨b, i, none⟩ = some (.int .i64 (f i))
  fz : ∀ i, w.frozen? ⟨b, i, none⟩ = false
theorem RowN.blk {w w' : World} {b n : Nat} {f : Nat → Int} (h : RowN w b n f) (e : w'.heap[b]? = w.heap[b]?) : RowN w' b n f := by
  refine ⟨?_, fun i hi => (World.cell?_of_block (a := ⟨b, i, none⟩) e).trans (h.c i hi), fun i => (World.frozen?_of_block (a := ⟨b, i, none⟩) e).trans (h.fz i)⟩
  rcases Nat.lt_or_ge b w'.heap.size with h' | h'
  · exact h'
  · rw [Array.getElem?_eq_none h', Array.getElem?_eq_getElem h.lt] at e; cases e
theorem RowN.bel {w w' : World} {b n : Nat} {f : Nat → Int} (h : RowN w b n f) (hb : Below w.heap.size w w') : RowN w' b n f := h.blk (hb.block b h.lt)
theorem RowN.num {w : World} {b n : Nat} {f : Nat → Int} (h : RowN w b n f) : NumIn w w.heap.size n f (some ⟨b, 0, none⟩) := fun _ => ⟨_, _, rfl, h.lt, fun k hk => by rw [Nat.zero_add]; exact h.c k hk⟩
theorem RowN.set {w : World} {b n q : Nat} {f : Nat → Int} (h : RowN w b n f) (hq : q < n) (v : Int) : RowN (w.setCell ⟨b, q, none⟩ (.int .i64 v)) b n (fun i => if i = q then v else f i) := by
  have hc := h.c q hq
  refine ⟨by simpa using h.lt, fun i hi => ?_, fun i => by have := h.fz i; simpa using this⟩
  by_cases e : i = q
  · subst e
    have hf := h.fz i
    rw [if_pos rfl]
    go_simp
  · rw [if_neg e, World.cell?_setCell_other _ _ _ _ (by simp [e])]
    exact h.c i hi
theorem RowN.made (W : World) (n : Nat) (t : TypeId) : RowN (W.alloc (.cells (madeCells #[.int .i64 0] n) t)) W.heap.size n (fun _ => 0) := by
  refine ⟨by simp, fun i hi => ?_, fun i => by simp⟩
  have h : (madeCells #[Value.int .i64 0] n)[i]? = some (.int .i64 0) := by
    rw [← Array.getElem?_toList, toList_madeCells_one]; simp [hi]
  have h2 : (W.alloc (.cells (madeCells #[.int .i64 0] n) t)).heap[W.heap.size]? = some (.cells (madeCells #[.int .i64 0] n) t (0, 0)) := World.alloc_heap_new _ _
  rw [cell_of_row _ W.heap.size i _ _ (0, 0) h2]
  first | exact h | simpa using h
theorem make_ints (n : Nat) (hn : n ≤ 1000) (W : World) : (Instr.makeSlice 22 (.int .i64 (n : Int)) (.int .i64 (n : Int))).run Try.prog W = .ok (.slice (some ⟨W.heap.size, 0, none⟩) n n) (W.alloc (.cells (madeCells #[.int .i64 0] n) 3)) := by
  obtain ⟨i0, hi, hz, hs, hb⟩ := info_parts infoI
  have := run_make (P := Try.prog) W 22 3 i0 _ Try.underlying22 hi hz .i64 .i64 (n : Int) (n : Int) (by omega) (by omega) (by rw [hb]; omega) (by omega)
  simpa [hs, Value.cells] using this
def onJ : Option Nat → Int
  | none => -1
  | some k => (k : Int)
set_option maxRecDepth 100000 in
set_option maxHeartbeats 8000000 in
theorem nextR_any (D : Bx) (g : Nat → Int) (p q y : Option Addr) (c d e : Nat) (w : World) (hok : D.ok = true) (hi : BxIn w w.heap.size D p q) (hg : ∀ i, i < D.n → 0 ≤ g i ∧ g i ≤ D.mo i) (hy : NumIn w w.heap.size D.n g y) :
    Calls Try.prog 72 #[.agg #[.slice p D.n c, .slice q D.m d], .slice y D.n e] w fun e w' => e = .returned (.int .i64 (onJ (nx D g))) ∧ Below w.heap.size w w' := by
  obtain ⟨o1, o2, o3, o4⟩ := Bx.ok_parts hok
  obtain ⟨w1, x1, hw1, hb1, hz1, F0, F1⟩ := box_bx w p q D.n D.m c d
  have HB := Lib.hid hb1
  have HI : Hid (∀ x : Ext w1, BxIn x.v x.v.heap.size D p q) := fun x => (hi.bel hb1).bel x.b
  have HY : Hid (∀ x : Ext w1, NumIn x.v x.v.heap.size D.n g y) := fun x => (hy.bel hb1).bel x.b
  have HG := Lib.hid hg; have HO3 := Lib.hid o3; have HO4 := Lib.hid o4; have HMN := Lib.hid o2
  clear hb1 hz1 hi hok hg o2 o3 o4 hy
  go_enter Try.func72, Try.ntmps72
  go_wp2
  clear hw1
  go_loopw [6, 5] (fun i a wr => ∃ k : Nat, i = .int .i64 k ∧ a = .int .i64 (onJ (nxA D g k)) ∧ k ≤ D.n ∧ ∃ x : Ext w1, wr = x.v) (fun i _ _ => D.n - (intOf i).toNat)
  case atStart => exact ⟨0, rfl, rfl, Nat.zero_le _, x1, rfl⟩
  case round =>
    obtain ⟨k, rfl, rfl, hk, z, rfl⟩ := hrel
    clear x1
    by_cases hlt : k < D.n
    · obtain ⟨b1, of1, rfl, _, _⟩ := (HI.out z).s (by omega)
      obtain ⟨b2, of2, rfl, _, _⟩ := (HI.out z).o (by have := HMN.out; omega)
      obtain ⟨b3, of3, rfl, _, _⟩ := (HY.out z) (by omega)
      have E0 : ∀ z : Ext w1, z.v.cell? ⟨b1, of1 + k, none⟩ = some (.int .i64 (D.sh k)) := fun z => ((HI.out z).s.cell hlt).2
      have E1 : ∀ z : Ext w1, z.v.cell? ⟨b2, of2 + k, none⟩ = some (.int .i64 (D.mo k)) := fun z => ((HI.out z).o.cell (by have := HMN.out; omega)).2
      have E2 : ∀ z : Ext w1, z.v.cell? ⟨b3, of3 + k, none⟩ = some (.int .i64 (g k)) := fun z => ((HY.out z).cell hlt).2
      have hkm : (k : Int) < (D.n : Int) := by omega
      have hkm2 : (k : Int) < (D.m : Int) := by have := HMN.out; omega
      have v1 := HG.out k hlt
      have v3 := HO3.out k hlt
      have v4 := HO4.out k hlt
      by_cases s0 : 0 < D.sh k
      case neg =>
        have HN := Lib.hid (nxA_blk (D := D) (g := g) (k := k) (by simp [blk, show D.sh k = 0 by omega]))
        have j0 : decide (0 < D.sh k) = false := by simpa using s0
        clear s0 v1 v3 v4
        go_wp2
        refine quiet_e (by kernel_rfl) (by kernel_rfl) ?_
        repeat (first | go_big_quiet_step (fail) | quiet_step (fail))
        refine wpQuiet_nil ?_
        intro w6 hw6
        obtain ⟨y2, rfl⟩ := hw6
        go_wp2
        go_roundw
        case rel => exact ⟨k + 1, by go_num, by rw [HN.out], hlt, y2, rfl⟩
        case measure => first | (simp [intOf]; done) | (simp [intOf]; omega)
      have j0 : decide (0 < D.sh k) = true := by simpa using s0
      by_cases s1 : g k < D.mo k
      case neg =>
        have HN := Lib.hid (nxA_blk (D := D) (g := g) (k := k) (by simp [blk, show g k = D.mo k by omega]))
        have j1 : decide (g k < D.mo k) = false := by simpa using s1
        clear s0 s1 v1 v3 v4
        go_wp2
        refine quiet_e (by kernel_rfl) (by kernel_rfl) ?_
        repeat (first | go_big_quiet_step (fail) | quiet_step (fail))
        refine wpQuiet_nil ?_
        intro w6 hw6
        obtain ⟨y2, rfl⟩ := hw6
        go_wp2
        go_roundw
        case rel => exact ⟨k + 1, by go_num, by rw [HN.out], hlt, y2, rfl⟩
        case measure => first | (simp [intOf]; done) | (simp [intOf]; omega)
      have j1 : decide (g k < D.mo k) = true := by simpa using s1
      have hbk : blk D g k = false := blk_mk (by omega) (by omega)
      cases hnx : nxA D g k with
      | none =>
        have HN := Lib.hid (nxA_first hbk hnx)
        have f1 : onJ none = -1 := rfl
        clear s0 s1 hbk hnx v1 v3 v4
        go_wp2
        refine quiet_e (by kernel_rfl) (by kernel_rfl) ?_
        repeat (first | go_big_quiet_step (fail) | quiet_step (fail))
        refine wpQuiet_nil ?_
        intro w6 hw6
        obtain ⟨y2, rfl⟩ := hw6
        go_wp2
        go_roundw
        case rel => exact ⟨k + 1, by go_num, by rw [HN.out] <;> rfl, hlt, y2, rfl⟩
        case measure => first | (simp [intOf]; done) | (simp [intOf]; omega)
      | some b =>
        have hbl := nxA_lt hnx
        have HN := Lib.hid (nxA_btr hbk hnx)
        have f1 : onJ (some b) = (b : Int) := rfl
        have E3 : ∀ z : Ext w1, z.v.cell? ⟨b1, of1 + b, none⟩ = some (.int .i64 (D.sh b)) := fun z => ((HI.out z).s.cell (by omega)).2
        have E4 : ∀ z : Ext w1, z.v.cell? ⟨b3, of3 + b, none⟩ = some (.int .i64 (g b)) := fun z => ((HY.out z).cell (by omega)).2
        have q2 := HG.out b (by omega)
        have q3 := HO4.out b (by omega)
        have q4 := HO3.out b (by omega)
        have m1 := mul_bd (a := D.sh k) (b := 2 * g b + 1) (A := 20) (B := 41) v3 ⟨by omega, by omega⟩ (by omega)
        have m2 := mul_bd (a := D.sh b) (b := 2 * g k + 1) (A := 20) (B := 41) q4 ⟨by omega, by omega⟩ (by omega)
        have e1 : IntKind.i64.wrap (2 * g b) = 2 * g b := IntWalk.i64_in _ (by omega)
        have e2 : IntKind.i64.wrap (2 * g k) = 2 * g k := IntWalk.i64_in _ (by omega)
        have e3 : IntKind.i64.wrap (2 * g b + 1) = 2 * g b + 1 := IntWalk.i64_in _ (by omega)
        have e4 : IntKind.i64.wrap (2 * g k + 1) = 2 * g k + 1 := IntWalk.i64_in _ (by omega)
        have hbn : (b : Int) < (D.n : Int) := by omega
        have j3 : decide ((b : Int) < 0) = false := by simp
        have hlf : ltF (D.sh b) (2 * g b + 1) (D.sh k) (2 * g k + 1) = btr D g b k := rfl
        have HLS := Lib.hid (show ∀ V : World, Calls Try.prog 51 #[.int .i64 (D.sh b), .int .i64 (2 * g b + 1), .int .i64 (D.sh k), .int .i64 (2 * g k + 1)] V fun e w' => e = .returned (.bool (btr D g b k)) ∧ V = w' from fun V =>
          less_any (D.sh b) (2 * g b + 1) (D.sh k) (2 * g k + 1) V ⟨m2.1, by omega⟩ ⟨m1.1, by omega⟩)
        clear q2 q3 q4 m1 m2 s0 s1 hbk hnx v1 v3 v4 hlf
        cases hbt : btr D g b k with
        | true =>
          have HN2 := Lib.hid (HN.out.trans (by rw [hbt]; rfl : (if btr D g b k then some k else some b) = some k))
          rw [hbt] at HLS
          clear hbt
          go_wp2
          refine quiet_e (by kernel_rfl) (by kernel_rfl) ?_
          repeat (first | go_big_quiet_step ((first | (go_at_call 51; exact quiet_s (HLS.out _)))) | quiet_step ((first | (go_at_call 51; exact quiet_s (HLS.out _)))))
          refine wpQuiet_nil ?_
          intro w6 hw6
          obtain ⟨y2, rfl⟩ := hw6
          go_wp2
          go_roundw
          case rel => exact ⟨k + 1, by go_num, by rw [HN2.out] <;> rfl, hlt, y2, rfl⟩
          case measure => first | (simp [intOf]; done) | (simp [intOf]; omega)
        | false =>
          have HN2 := Lib.hid (HN.out.trans (by rw [hbt]; rfl : (if btr D g b k then some k else some b) = some b))
          rw [hbt] at HLS
          clear hbt
          go_wp2
          refine quiet_e (by kernel_rfl) (by kernel_rfl) ?_
          repeat (first | go_big_quiet_step ((first | (go_at_call 51; exact quiet_s (HLS.out _)))) | quiet_step ((first | (go_at_call 51; exact quiet_s (HLS.out _)))))
          refine wpQuiet_nil ?_
          intro w6 hw6
          obtain ⟨y2, rfl⟩ := hw6
          go_wp2
          go_roundw
          case rel => exact ⟨k + 1, by go_num, by rw [HN2.out] <;> rfl, hlt, y2, rfl⟩
          case measure => first | (simp [intOf]; done) | (simp [intOf]; omega)
    · have HR := Lib.hid (show nxA D g k = nx D g by rw [show k = D.n by omega]; rfl)
      have j : decide ((k : Int) < (D.n : Int)) = false := by simp; omega
      go_wp2
      go_ret
      exact ⟨by rw [HR.out]; rfl, bT HB.out z.b⟩
theorem gv_mo {D : Bx} (hok : D.ok = true) (f : Nat) : ∀ i, i < D.n → 0 ≤ gv D f i ∧ gv D f i ≤ D.mo i := fun i hi => ⟨(gv_bd hok f i).1, (gv_bd hok f i).2.1 hi⟩
set_option maxRecDepth 100000 in
set_option maxHeartbeats 4000000 in
theorem gaugesOf_any (D : Bx) (p q : Option Addr) (c d F : Nat) (w : World) (hok : D.ok = true) (hF : F ≤ 40) (hi : BxIn w w.heap.size D p q) :
    Calls Try.prog 66 #[.agg #[.slice p D.n c, .slice q D.m d], .int .i64 (F : Int)] w fun e w' => ∃ y c', e = .returned (.slice y D.n c') ∧ New w w' D.n (gv D F) y := by
  obtain ⟨o1, o2, o3, o4⟩ := Bx.ok_parts hok
  obtain ⟨w1, x1, hw1, hb1, hz1, F0, F1⟩ := box_bx w p q D.n D.m c d
  have hmk := fun W => make_ints D.n (by omega) W
  have hrow := RowN.made x1.v D.n 3
  obtain ⟨w2, hw2⟩ : ∃ w2, x1.v.alloc (.cells (madeCells #[.int .i64 0] D.n) 3) = w2 := ⟨_, rfl⟩
  rw [hw2] at hrow
  have hb2 : Below x1.v.heap.size x1.v w2 := by rw [← hw2]; exact bA (Below.refl _ _) _
  have hb12 := bT x1.b hb2
  have HBw := Lib.hid (bT hb1 hb12)
  have HBX : Hid (∀ y : Ext w2, BoxAt y.v w.heap.size D p q c d) := fun y => ⟨F0 (y.up hb12), F1 (y.up hb12)⟩
  have HI : Hid (∀ V : World, Below w.heap.size w V → BxIn V V.heap.size D p q) := fun V hV => (hi.below hV).mono hV.size
  have HR0 := Lib.hid hrow; have HOK := Lib.hid hok
  have HZ : Hid (w.heap.size < x1.v.heap.size) := by have := x1.b.size; show _ < _; omega
  clear hb1 hz1 hi hb2 hb12 hok hrow o2 o3 o4
  go_enter Try.func66, Try.ntmps66
  go_wp2
  clear hmk hw1 hw2 F0 F1
  go_loopw [6] (fun i wr => ∃ k : Nat, i = .int .i64 k ∧ k ≤ F ∧ Below w.heap.size w wr ∧ RowN wr x1.v.heap.size D.n (gv D k) ∧ BoxAt wr w.heap.size D p q c d) (fun i _ => F - (intOf i).toNat)
  case atStart =>
    obtain ⟨z, hz⟩ := rebase w2
    refine ⟨0, rfl, Nat.zero_le _, HBw.out, HR0.out, ?_⟩
    rw [hz]; exact HBX.out z
  case round =>
    obtain ⟨k, rfl, hk, hbw, hrow, hbx⟩ := hrel
    have hlw : w.heap.size < wr.heap.size := by have := hrow.lt; have := HZ.out; omega
    have HBW := Lib.hid hbw; have HRW := Lib.hid hrow; have HXW := Lib.hid hbx; have HIW := Lib.hid (HI.out wr hbw)
    have G0 := hbx.c0; have G1 := hbx.c1
    clear hbw hrow hbx HR0 HBX HBw
    by_cases hlt : k < F
    · have jk : (k : Int) < (F : Int) := by omega
      have HN := Lib.hid (nextR_any D (gv D k) p q (some ⟨x1.v.heap.size, 0, none⟩) c d D.n wr HOK.out HIW.out (gv_mo HOK.out k) HRW.out.num)
      cases hnx : nx D (gv D k) with
      | none =>
        rw [hnx] at HN
        have HG := Lib.hid (nx_none_next hnx).1
        have f1 : onJ none = -1 := rfl
        clear hnx
        go_wp2_with fail
        refine (HN.out).mono ?_
        rintro e w3 ⟨rfl, hb3⟩
        have HB3 := Lib.hid hb3; clear hb3
        go_wp2
        go_roundw
        case rel => exact ⟨k + 1, by go_num, hlt, bT HBW.out HB3.out, by rw [HG.out]; exact HRW.out.bel HB3.out, ⟨(HB3.out.cell (p := ⟨w.heap.size, 0, none⟩) hlw).trans HXW.out.c0, (HB3.out.cell (p := ⟨w.heap.size, 1, none⟩) hlw).trans HXW.out.c1⟩⟩
        case measure => first | (simp [intOf]; done) | (simp [intOf]; omega)
      | some x =>
        rw [hnx] at HN
        have HG := Lib.hid (nx_some_next hnx).1
        have f1 : onJ (some x) = (x : Int) := rfl
        have hxn := (nx_lt hnx).1
        have hxi : (x : Int) < (D.n : Int) := by omega
        have hbd := gv_5 HOK.out k x (by omega)
        have ew : IntKind.i64.wrap (gv D k x + 1) = gv D k x + 1 := IntWalk.i64_in _ (by omega)
        clear hnx hbd
        go_wp2_with fail
        refine (HN.out).mono ?_
        rintro e w3 ⟨rfl, hb3⟩
        have HB3 := Lib.hid hb3; clear hb3
        have HR3 := Lib.hid (HRW.out.bel HB3.out)
        have gx := HR3.out.c x hxn
        have fx := HR3.out.fz x
        have HX3 : Hid (BoxAt w3 w.heap.size D p q c d) := ⟨(HB3.out.cell (p := ⟨w.heap.size, 0, none⟩) hlw).trans HXW.out.c0, (HB3.out.cell (p := ⟨w.heap.size, 1, none⟩) hlw).trans HXW.out.c1⟩
        go_wp2
        clear gx fx
        go_roundw
        case rel =>
          refine ⟨k + 1, by go_num, hlt, bS (bT HBW.out HB3.out) (Nat.le_of_lt HZ.out) _, ?_, ⟨?_, ?_⟩⟩
          · rw [HG.out]
            have := HR3.out.set hxn (gv D k x + 1)
            refine ⟨this.lt, fun i hi => (this.c i hi).trans ?_, this.fz⟩
            unfold up
            by_cases e : i = x
            · rw [if_pos e, if_pos e, e]
            · rw [if_neg e, if_neg e]
          · rw [World.cell?_setCell_other _ _ _ _ (by have := HZ.out; first | (simp; done) | (simp; omega))]; exact HX3.out.c0
          · rw [World.cell?_setCell_other _ _ _ _ (by have := HZ.out; first | (simp; done) | (simp; omega))]; exact HX3.out.c1
        case measure => first | (simp [intOf]; done) | (simp [intOf]; omega)
    · have HR := Lib.hid (show k = F by omega)
      have j : decide ((k : Int) < (F : Int)) = false := by simp; omega
      go_wp2
      go_ret
      refine ⟨_, _, rfl, HBW.out, fun h0 => ⟨_, rfl, Nat.le_of_lt HZ.out, HRW.out.lt, fun i hi => ?_, HRW.out.fz⟩⟩
      rw [Nat.zero_add, ← HR.out]
      exact HRW.out.c i hi
end Go.Proofs.Ythbicbmlbblflaa
