/- LevelsDeeper returns true in every walk, whatever the town and what is asked. Made by n2.py. -/
import Derived.Test.YtmfbfcknnjbabaaM4
import Derived.Test.YtmfbfcknnjbabaaM5
import Derived.Test.YtmfbfcknnjbabaaX2
import Derived.Test.YtmfbfcknnjbabaaL2
set_option linter.unusedSimpArgs false
set_option linter.unusedVariables false
namespace Go.Proofs.Ytmfbfcknnjbabaa
open Go.RowKit

theorem flatS_set3 : ∀ (l : List Snd) (k : Nat) (x : Snd), k < l.length → (((flatS l).set (k * 3) (.int .i64 x.well)).set (k * 3 + 1) (.int .i64 x.low)).set (k * 3 + 2) (.int .i64 x.high) = flatS (l.set k x)
  | y :: l, 0, x, _ => by simp [flatS]
  | y :: l, k + 1, x, h => by
    have ih := flatS_set3 l k x (by simpa using h)
    have e : ∀ (z : Snd) (K : List Snd), flatS (z :: K) = .int .i64 z.well :: .int .i64 z.low :: .int .i64 z.high :: flatS K := fun z K => by simp [flatS]
    rw [e, List.set_cons_succ, e, show (k + 1) * 3 = k * 3 + 1 + 1 + 1 by omega]
    simp only [List.set_cons_succ]
    rw [ih]
/-- a sounding is stored into an owned row of soundings -/
theorem own_snd_set {w : World} {base g m c : Nat} {l : List Snd} (h : w.ownsRow base 62 3 (.slice (some ⟨g, 0, none⟩) m c) m (flatS l)) (hl : l.length = m) (k : Nat) (hk : k < m) (x y z : Int) :
    ∃ w', ((w.setCell ⟨g, k * 3, none⟩ (.int .i64 x)).setCell ⟨g, k * 3 + 1, none⟩ (.int .i64 y)).setCell ⟨g, k * 3 + 2, none⟩ (.int .i64 z) = w' ∧ w'.ownsRow base 62 3 (.slice (some ⟨g, 0, none⟩) m c) m (flatS (l.set k ⟨x, y, z⟩)) ∧
      w.grownBy w' (some g) ∧ (∀ W : World, W.heap.size ≤ g → Below W.heap.size W w → Below W.heap.size W w') := by
  have a1 := (World.ownsRow.stored h (k * 3) (.int .i64 x)).1
  have a2 := (World.ownsRow.stored a1 (k * 3 + 1) (.int .i64 y)).1
  have a3 := (World.ownsRow.stored a2 (k * 3 + 2) (.int .i64 z)).1
  have e := flatS_set3 l k ⟨x, y, z⟩ (by rw [hl]; exact hk)
  rw [e] at a3
  have g1 := gS (gR w (some g)) (p := ⟨g, k * 3, none⟩) (.inl rfl) (.int .i64 x)
  have g2 := gS g1 (p := ⟨g, k * 3 + 1, none⟩) (.inl rfl) (.int .i64 y)
  have g3 := gS g2 (p := ⟨g, k * 3 + 2, none⟩) (.inl rfl) (.int .i64 z)
  have hB : ∀ W : World, W.heap.size ≤ g → Below W.heap.size W w → Below W.heap.size W (((w.setCell ⟨g, k * 3, none⟩ (.int .i64 x)).setCell ⟨g, k * 3 + 1, none⟩ (.int .i64 y)).setCell ⟨g, k * 3 + 2, none⟩ (.int .i64 z)) := fun W hg hb => by
    have b1 := bS hb (p := ⟨g, k * 3, none⟩) hg (.int .i64 x)
    have b2 := bS b1 (p := ⟨g, k * 3 + 1, none⟩) hg (.int .i64 y)
    exact bS b2 (p := ⟨g, k * 3 + 2, none⟩) hg (.int .i64 z)
  exact ⟨_, rfl, a3, g3, hB⟩
def deepS (y : Int) (s : Snd) : Snd := ⟨s.well, s.low + y, s.high + y⟩
def dk (l : List Snd) (y : Int) (k : Nat) : List Snd := (l.take k).map (deepS y) ++ l.drop k
theorem dk_len (l : List Snd) (y : Int) (k : Nat) : (dk l y k).length = l.length := by simp [dk]; omega
theorem dk_zero (l : List Snd) (y : Int) : dk l y 0 = l := by simp [dk]
theorem dk_all (l : List Snd) (y : Int) : dk l y l.length = l.map (deepS y) := by simp [dk]
theorem dk_succ (l : List Snd) (y : Int) (k : Nat) (hk : k < l.length) : dk l y (k + 1) = (dk l y k).set k (deepS y l[k]) := by
  have hl : ((l.take k).map (deepS y)).length = k := by simp; omega
  unfold dk
  rw [List.set_append_right _ _ (by omega), hl, Nat.sub_self, List.drop_eq_getElem_cons hk, List.set_cons_zero, List.take_succ_eq_append_getElem hk, List.map_append]
  simp
theorem deep_eq (T : Town) (y : Int) : T.deep y = ⟨T.W, dk T.s y T.s.length, T.r⟩ := by rw [dk_all]; rfl
/-- whether the levels of the first wells stay from 1 to MaxLevel - 1 -/
def Strict (L : List (Int × Int)) (y : Int) (k : Nat) : Prop := ∀ i, i < k → 0 < (sp L i).1 ∧ 0 < (sp L i).1 + y ∧ (sp L i).2 < 99 ∧ (sp L i).2 + y < 99
theorem strict_succ {L : List (Int × Int)} {y : Int} {k : Nat} (h : Strict L y k) (hk : 0 < (sp L k).1 ∧ 0 < (sp L k).1 + y ∧ (sp L k).2 < 99 ∧ (sp L k).2 + y < 99) : Strict L y (k + 1) := fun i hi => by
  by_cases c : i = k
  · subst c; exact hk
  · exact h i (by omega)

set_option maxRecDepth 100000 in
set_option maxHeartbeats 16000000 in
theorem deeper_skip (T : Town) (p q : Option Addr) (c d : Nat) (a b t y : Int) (w : World) (ht : TownIn w w.heap.size T p q)
    (hs : (rdy T && (within y (-99) 99 && (within a 0 (T.W - 1) && within b 0 (T.W - 1)))) = false) :
    Calls Try.prog 13 #[.agg #[.int .i64 T.W, .slice p T.s.length c, .slice q T.r.length d], .agg #[.int .i64 a, .int .i64 b, .int .i64 t, .int .i64 y]] w fun e w' => e = .returned (.bool true) ∧ Below w.heap.size w w' := by
  obtain ⟨w0, hw0, hb0, hz0, y0⟩ := box_row w (.cells #[.int .i64 T.W, .slice p T.s.length c, .slice q T.r.length d] 25)
  obtain ⟨w1, hw1, hb1, hz1, y1⟩ := box_row w0 (.cells #[.int .i64 a, .int .i64 b, .int .i64 t, .int .i64 y] 51)
  have Yt := Lib.hid ((hb1.block _ (by omega)).trans y0)
  have Yx := Lib.hid y1
  have HB1 := Lib.hid (bT hb0 hb1)
  have hT1 := ht.bel (bT hb0 hb1)
  have FT := Lib.hid hT1
  have hrd := ready_any T p q c d w1 hT1
  cases hr : rdy T with
  | false =>
    rw [hr] at hrd
    have HR := Lib.hid hrd
    clear hrd hr hs ht hT1 hb0 hb1 hz0 hz1 y0 y1
    have ct0_0 := cell_of_row w1 w.heap.size 0 _ _ _ Yt.out
    have ct1_0 := cell_of_row w1 w.heap.size 1 _ _ _ Yt.out
    have ct2_0 := cell_of_row w1 w.heap.size 2 _ _ _ Yt.out
    have cx0_0 := cell_of_row w1 w0.heap.size 0 _ _ _ Yx.out
    have cx1_0 := cell_of_row w1 w0.heap.size 1 _ _ _ Yx.out
    have cx2_0 := cell_of_row w1 w0.heap.size 2 _ _ _ Yx.out
    have cx3_0 := cell_of_row w1 w0.heap.size 3 _ _ _ Yx.out
    simp only [List.getElem?_toArray, List.getElem?_cons_zero, List.getElem?_cons_succ] at ct0_0 ct1_0 ct2_0 cx0_0 cx1_0 cx2_0 cx3_0
    have lt_0 := rowLt Yt.out
    have lx_0 := rowLt Yx.out
    go_enter Try.func13, Try.ntmps13
    go_wp2_with fail
    refine (HR.out).mono ?_
    rintro e w2 ⟨rfl, hw2⟩
    clear ct0_0 ct1_0 ct2_0 cx0_0 cx1_0 cx2_0 cx3_0 lt_0 lx_0
    have Yt_1 := Lib.hid ((hw2.block _ (rowLt Yt.out)).trans Yt.out)
    have Yx_1 := Lib.hid ((hw2.block _ (rowLt Yx.out)).trans Yx.out)
    have FT_1 := Lib.hid (FT.out.bel hw2)
    have HBW_1 := Lib.hid (bT HB1.out hw2)
    clear hw2
    have ct0_1 := cell_of_row w2 w.heap.size 0 _ _ _ Yt_1.out
    have ct1_1 := cell_of_row w2 w.heap.size 1 _ _ _ Yt_1.out
    have ct2_1 := cell_of_row w2 w.heap.size 2 _ _ _ Yt_1.out
    have cx0_1 := cell_of_row w2 w0.heap.size 0 _ _ _ Yx_1.out
    have cx1_1 := cell_of_row w2 w0.heap.size 1 _ _ _ Yx_1.out
    have cx2_1 := cell_of_row w2 w0.heap.size 2 _ _ _ Yx_1.out
    have cx3_1 := cell_of_row w2 w0.heap.size 3 _ _ _ Yx_1.out
    simp only [List.getElem?_toArray, List.getElem?_cons_zero, List.getElem?_cons_succ] at ct0_1 ct1_1 ct2_1 cx0_1 cx1_1 cx2_1 cx3_1
    have lt_1 := rowLt Yt_1.out
    have lx_1 := rowLt Yx_1.out
    go_wp2_with fail
    refine (works_ex _).mono ?_
    rintro e w9 ⟨rfl, hw9⟩
    clear ct0_1 ct1_1 ct2_1 cx0_1 cx1_1 cx2_1 cx3_1 lt_1 lx_1
    have Yt_2 := Lib.hid ((hw9.block _ (rowLt Yt_1.out)).trans Yt_1.out)
    have Yx_2 := Lib.hid ((hw9.block _ (rowLt Yx_1.out)).trans Yx_1.out)
    have FT_2 := Lib.hid (FT_1.out.bel hw9)
    have HBW_2 := Lib.hid (bT HBW_1.out hw9)
    clear hw9
    have ct0_2 := cell_of_row w9 w.heap.size 0 _ _ _ Yt_2.out
    have ct1_2 := cell_of_row w9 w.heap.size 1 _ _ _ Yt_2.out
    have ct2_2 := cell_of_row w9 w.heap.size 2 _ _ _ Yt_2.out
    have cx0_2 := cell_of_row w9 w0.heap.size 0 _ _ _ Yx_2.out
    have cx1_2 := cell_of_row w9 w0.heap.size 1 _ _ _ Yx_2.out
    have cx2_2 := cell_of_row w9 w0.heap.size 2 _ _ _ Yx_2.out
    have cx3_2 := cell_of_row w9 w0.heap.size 3 _ _ _ Yx_2.out
    simp only [List.getElem?_toArray, List.getElem?_cons_zero, List.getElem?_cons_succ] at ct0_2 ct1_2 ct2_2 cx0_2 cx1_2 cx2_2 cx3_2
    have lt_2 := rowLt Yt_2.out
    have lx_2 := rowLt Yx_2.out
    go_wp2_with fail
    go_ret
    exact ⟨rfl, (by repeat (first | exact HBW_2.out | refine bA ?_ _ | refine bd ?_ | refine bD ?_ _))⟩
  | true =>
    obtain ⟨hok, hW5, hm8⟩ := rdy_ok hr
    have hW := ok_W hok
    rw [hr] at hrd
    rw [hr, Bool.true_and] at hs
    have HR := Lib.hid hrd
    have hia : ∀ x, within a 0 (T.W - 1) = x → ∀ V, Calls Try.prog 48 #[.agg #[.int .i64 T.W, .slice p T.s.length c, .slice q T.r.length d], .int .i64 a] V fun e w' => e = .returned (.bool x) ∧ Below V.heap.size V w' := fun x hx V => isWell_b T.W a _ _ x V (by omega) (by omega) hx
    have hib : ∀ x, within b 0 (T.W - 1) = x → ∀ V, Calls Try.prog 48 #[.agg #[.int .i64 T.W, .slice p T.s.length c, .slice q T.r.length d], .int .i64 b] V fun e w' => e = .returned (.bool x) ∧ Below V.heap.size V w' := fun x hx V => isWell_b T.W b _ _ x V (by omega) (by omega) hx
    clear hrd hr ht hT1 hb0 hb1 hz0 hz1 y0 y1
    by_cases g1 : y < -99
    · have d1 : decide (y < -99) = true := decide_eq_true g1
      clear hia hib hs g1
      have ct0_0 := cell_of_row w1 w.heap.size 0 _ _ _ Yt.out
      have ct1_0 := cell_of_row w1 w.heap.size 1 _ _ _ Yt.out
      have ct2_0 := cell_of_row w1 w.heap.size 2 _ _ _ Yt.out
      have cx0_0 := cell_of_row w1 w0.heap.size 0 _ _ _ Yx.out
      have cx1_0 := cell_of_row w1 w0.heap.size 1 _ _ _ Yx.out
      have cx2_0 := cell_of_row w1 w0.heap.size 2 _ _ _ Yx.out
      have cx3_0 := cell_of_row w1 w0.heap.size 3 _ _ _ Yx.out
      simp only [List.getElem?_toArray, List.getElem?_cons_zero, List.getElem?_cons_succ] at ct0_0 ct1_0 ct2_0 cx0_0 cx1_0 cx2_0 cx3_0
      have lt_0 := rowLt Yt.out
      have lx_0 := rowLt Yx.out
      go_enter Try.func13, Try.ntmps13
      go_wp2_with fail
      refine (HR.out).mono ?_
      rintro e w2 ⟨rfl, hw2⟩
      clear ct0_0 ct1_0 ct2_0 cx0_0 cx1_0 cx2_0 cx3_0 lt_0 lx_0
      have Yt_1 := Lib.hid ((hw2.block _ (rowLt Yt.out)).trans Yt.out)
      have Yx_1 := Lib.hid ((hw2.block _ (rowLt Yx.out)).trans Yx.out)
      have FT_1 := Lib.hid (FT.out.bel hw2)
      have HBW_1 := Lib.hid (bT HB1.out hw2)
      clear hw2
      have ct0_1 := cell_of_row w2 w.heap.size 0 _ _ _ Yt_1.out
      have ct1_1 := cell_of_row w2 w.heap.size 1 _ _ _ Yt_1.out
      have ct2_1 := cell_of_row w2 w.heap.size 2 _ _ _ Yt_1.out
      have cx0_1 := cell_of_row w2 w0.heap.size 0 _ _ _ Yx_1.out
      have cx1_1 := cell_of_row w2 w0.heap.size 1 _ _ _ Yx_1.out
      have cx2_1 := cell_of_row w2 w0.heap.size 2 _ _ _ Yx_1.out
      have cx3_1 := cell_of_row w2 w0.heap.size 3 _ _ _ Yx_1.out
      simp only [List.getElem?_toArray, List.getElem?_cons_zero, List.getElem?_cons_succ] at ct0_1 ct1_1 ct2_1 cx0_1 cx1_1 cx2_1 cx3_1
      have lt_1 := rowLt Yt_1.out
      have lx_1 := rowLt Yx_1.out
      go_wp2_with fail
      refine (works_ex _).mono ?_
      rintro e w9 ⟨rfl, hw9⟩
      clear ct0_1 ct1_1 ct2_1 cx0_1 cx1_1 cx2_1 cx3_1 lt_1 lx_1
      have Yt_2 := Lib.hid ((hw9.block _ (rowLt Yt_1.out)).trans Yt_1.out)
      have Yx_2 := Lib.hid ((hw9.block _ (rowLt Yx_1.out)).trans Yx_1.out)
      have FT_2 := Lib.hid (FT_1.out.bel hw9)
      have HBW_2 := Lib.hid (bT HBW_1.out hw9)
      clear hw9
      have ct0_2 := cell_of_row w9 w.heap.size 0 _ _ _ Yt_2.out
      have ct1_2 := cell_of_row w9 w.heap.size 1 _ _ _ Yt_2.out
      have ct2_2 := cell_of_row w9 w.heap.size 2 _ _ _ Yt_2.out
      have cx0_2 := cell_of_row w9 w0.heap.size 0 _ _ _ Yx_2.out
      have cx1_2 := cell_of_row w9 w0.heap.size 1 _ _ _ Yx_2.out
      have cx2_2 := cell_of_row w9 w0.heap.size 2 _ _ _ Yx_2.out
      have cx3_2 := cell_of_row w9 w0.heap.size 3 _ _ _ Yx_2.out
      simp only [List.getElem?_toArray, List.getElem?_cons_zero, List.getElem?_cons_succ] at ct0_2 ct1_2 ct2_2 cx0_2 cx1_2 cx2_2 cx3_2
      have lt_2 := rowLt Yt_2.out
      have lx_2 := rowLt Yx_2.out
      go_wp2_with fail
      go_ret
      exact ⟨rfl, (by repeat (first | exact HBW_2.out | refine bA ?_ _ | refine bd ?_ | refine bD ?_ _))⟩
    · have d1 : decide (y < -99) = false := decide_eq_false g1
      by_cases g2 : 99 < y
      · have d2 : decide (99 < y) = true := decide_eq_true g2
        clear hia hib hs g1 g2
        have ct0_0 := cell_of_row w1 w.heap.size 0 _ _ _ Yt.out
        have ct1_0 := cell_of_row w1 w.heap.size 1 _ _ _ Yt.out
        have ct2_0 := cell_of_row w1 w.heap.size 2 _ _ _ Yt.out
        have cx0_0 := cell_of_row w1 w0.heap.size 0 _ _ _ Yx.out
        have cx1_0 := cell_of_row w1 w0.heap.size 1 _ _ _ Yx.out
        have cx2_0 := cell_of_row w1 w0.heap.size 2 _ _ _ Yx.out
        have cx3_0 := cell_of_row w1 w0.heap.size 3 _ _ _ Yx.out
        simp only [List.getElem?_toArray, List.getElem?_cons_zero, List.getElem?_cons_succ] at ct0_0 ct1_0 ct2_0 cx0_0 cx1_0 cx2_0 cx3_0
        have lt_0 := rowLt Yt.out
        have lx_0 := rowLt Yx.out
        go_enter Try.func13, Try.ntmps13
        go_wp2_with fail
        refine (HR.out).mono ?_
        rintro e w2 ⟨rfl, hw2⟩
        clear ct0_0 ct1_0 ct2_0 cx0_0 cx1_0 cx2_0 cx3_0 lt_0 lx_0
        have Yt_1 := Lib.hid ((hw2.block _ (rowLt Yt.out)).trans Yt.out)
        have Yx_1 := Lib.hid ((hw2.block _ (rowLt Yx.out)).trans Yx.out)
        have FT_1 := Lib.hid (FT.out.bel hw2)
        have HBW_1 := Lib.hid (bT HB1.out hw2)
        clear hw2
        have ct0_1 := cell_of_row w2 w.heap.size 0 _ _ _ Yt_1.out
        have ct1_1 := cell_of_row w2 w.heap.size 1 _ _ _ Yt_1.out
        have ct2_1 := cell_of_row w2 w.heap.size 2 _ _ _ Yt_1.out
        have cx0_1 := cell_of_row w2 w0.heap.size 0 _ _ _ Yx_1.out
        have cx1_1 := cell_of_row w2 w0.heap.size 1 _ _ _ Yx_1.out
        have cx2_1 := cell_of_row w2 w0.heap.size 2 _ _ _ Yx_1.out
        have cx3_1 := cell_of_row w2 w0.heap.size 3 _ _ _ Yx_1.out
        simp only [List.getElem?_toArray, List.getElem?_cons_zero, List.getElem?_cons_succ] at ct0_1 ct1_1 ct2_1 cx0_1 cx1_1 cx2_1 cx3_1
        have lt_1 := rowLt Yt_1.out
        have lx_1 := rowLt Yx_1.out
        go_wp2_with fail
        refine (works_ex _).mono ?_
        rintro e w9 ⟨rfl, hw9⟩
        clear ct0_1 ct1_1 ct2_1 cx0_1 cx1_1 cx2_1 cx3_1 lt_1 lx_1
        have Yt_2 := Lib.hid ((hw9.block _ (rowLt Yt_1.out)).trans Yt_1.out)
        have Yx_2 := Lib.hid ((hw9.block _ (rowLt Yx_1.out)).trans Yx_1.out)
        have FT_2 := Lib.hid (FT_1.out.bel hw9)
        have HBW_2 := Lib.hid (bT HBW_1.out hw9)
        clear hw9
        have ct0_2 := cell_of_row w9 w.heap.size 0 _ _ _ Yt_2.out
        have ct1_2 := cell_of_row w9 w.heap.size 1 _ _ _ Yt_2.out
        have ct2_2 := cell_of_row w9 w.heap.size 2 _ _ _ Yt_2.out
        have cx0_2 := cell_of_row w9 w0.heap.size 0 _ _ _ Yx_2.out
        have cx1_2 := cell_of_row w9 w0.heap.size 1 _ _ _ Yx_2.out
        have cx2_2 := cell_of_row w9 w0.heap.size 2 _ _ _ Yx_2.out
        have cx3_2 := cell_of_row w9 w0.heap.size 3 _ _ _ Yx_2.out
        simp only [List.getElem?_toArray, List.getElem?_cons_zero, List.getElem?_cons_succ] at ct0_2 ct1_2 ct2_2 cx0_2 cx1_2 cx2_2 cx3_2
        have lt_2 := rowLt Yt_2.out
        have lx_2 := rowLt Yx_2.out
        go_wp2_with fail
        go_ret
        exact ⟨rfl, (by repeat (first | exact HBW_2.out | refine bA ?_ _ | refine bd ?_ | refine bD ?_ _))⟩
      · have d2 : decide (99 < y) = false := decide_eq_false g2
        rw [within_tt (by omega) (by omega), Bool.true_and] at hs
        cases ha : within a 0 (T.W - 1) with
        | false =>
          have HA := Lib.hid (hia false ha)
          clear hia hib hs ha g1 g2
          have ct0_0 := cell_of_row w1 w.heap.size 0 _ _ _ Yt.out
          have ct1_0 := cell_of_row w1 w.heap.size 1 _ _ _ Yt.out
          have ct2_0 := cell_of_row w1 w.heap.size 2 _ _ _ Yt.out
          have cx0_0 := cell_of_row w1 w0.heap.size 0 _ _ _ Yx.out
          have cx1_0 := cell_of_row w1 w0.heap.size 1 _ _ _ Yx.out
          have cx2_0 := cell_of_row w1 w0.heap.size 2 _ _ _ Yx.out
          have cx3_0 := cell_of_row w1 w0.heap.size 3 _ _ _ Yx.out
          simp only [List.getElem?_toArray, List.getElem?_cons_zero, List.getElem?_cons_succ] at ct0_0 ct1_0 ct2_0 cx0_0 cx1_0 cx2_0 cx3_0
          have lt_0 := rowLt Yt.out
          have lx_0 := rowLt Yx.out
          go_enter Try.func13, Try.ntmps13
          go_wp2_with fail
          refine (HR.out).mono ?_
          rintro e w2 ⟨rfl, hw2⟩
          clear ct0_0 ct1_0 ct2_0 cx0_0 cx1_0 cx2_0 cx3_0 lt_0 lx_0
          have Yt_1 := Lib.hid ((hw2.block _ (rowLt Yt.out)).trans Yt.out)
          have Yx_1 := Lib.hid ((hw2.block _ (rowLt Yx.out)).trans Yx.out)
          have FT_1 := Lib.hid (FT.out.bel hw2)
          have HBW_1 := Lib.hid (bT HB1.out hw2)
          clear hw2
          have ct0_1 := cell_of_row w2 w.heap.size 0 _ _ _ Yt_1.out
          have ct1_1 := cell_of_row w2 w.heap.size 1 _ _ _ Yt_1.out
          have ct2_1 := cell_of_row w2 w.heap.size 2 _ _ _ Yt_1.out
          have cx0_1 := cell_of_row w2 w0.heap.size 0 _ _ _ Yx_1.out
          have cx1_1 := cell_of_row w2 w0.heap.size 1 _ _ _ Yx_1.out
          have cx2_1 := cell_of_row w2 w0.heap.size 2 _ _ _ Yx_1.out
          have cx3_1 := cell_of_row w2 w0.heap.size 3 _ _ _ Yx_1.out
          simp only [List.getElem?_toArray, List.getElem?_cons_zero, List.getElem?_cons_succ] at ct0_1 ct1_1 ct2_1 cx0_1 cx1_1 cx2_1 cx3_1
          have lt_1 := rowLt Yt_1.out
          have lx_1 := rowLt Yx_1.out
          go_wp2_with fail
          refine (HA.out _).mono ?_
          rintro e w3 ⟨rfl, hw3⟩
          clear ct0_1 ct1_1 ct2_1 cx0_1 cx1_1 cx2_1 cx3_1 lt_1 lx_1
          have Yt_2 := Lib.hid ((hw3.block _ (rowLt Yt_1.out)).trans Yt_1.out)
          have Yx_2 := Lib.hid ((hw3.block _ (rowLt Yx_1.out)).trans Yx_1.out)
          have FT_2 := Lib.hid (FT_1.out.bel hw3)
          have HBW_2 := Lib.hid (bT HBW_1.out hw3)
          clear hw3
          have ct0_2 := cell_of_row w3 w.heap.size 0 _ _ _ Yt_2.out
          have ct1_2 := cell_of_row w3 w.heap.size 1 _ _ _ Yt_2.out
          have ct2_2 := cell_of_row w3 w.heap.size 2 _ _ _ Yt_2.out
          have cx0_2 := cell_of_row w3 w0.heap.size 0 _ _ _ Yx_2.out
          have cx1_2 := cell_of_row w3 w0.heap.size 1 _ _ _ Yx_2.out
          have cx2_2 := cell_of_row w3 w0.heap.size 2 _ _ _ Yx_2.out
          have cx3_2 := cell_of_row w3 w0.heap.size 3 _ _ _ Yx_2.out
          simp only [List.getElem?_toArray, List.getElem?_cons_zero, List.getElem?_cons_succ] at ct0_2 ct1_2 ct2_2 cx0_2 cx1_2 cx2_2 cx3_2
          have lt_2 := rowLt Yt_2.out
          have lx_2 := rowLt Yx_2.out
          go_wp2_with fail
          refine (works_ex _).mono ?_
          rintro e w9 ⟨rfl, hw9⟩
          clear ct0_2 ct1_2 ct2_2 cx0_2 cx1_2 cx2_2 cx3_2 lt_2 lx_2
          have Yt_3 := Lib.hid ((hw9.block _ (rowLt Yt_2.out)).trans Yt_2.out)
          have Yx_3 := Lib.hid ((hw9.block _ (rowLt Yx_2.out)).trans Yx_2.out)
          have FT_3 := Lib.hid (FT_2.out.bel hw9)
          have HBW_3 := Lib.hid (bT HBW_2.out hw9)
          clear hw9
          have ct0_3 := cell_of_row w9 w.heap.size 0 _ _ _ Yt_3.out
          have ct1_3 := cell_of_row w9 w.heap.size 1 _ _ _ Yt_3.out
          have ct2_3 := cell_of_row w9 w.heap.size 2 _ _ _ Yt_3.out
          have cx0_3 := cell_of_row w9 w0.heap.size 0 _ _ _ Yx_3.out
          have cx1_3 := cell_of_row w9 w0.heap.size 1 _ _ _ Yx_3.out
          have cx2_3 := cell_of_row w9 w0.heap.size 2 _ _ _ Yx_3.out
          have cx3_3 := cell_of_row w9 w0.heap.size 3 _ _ _ Yx_3.out
          simp only [List.getElem?_toArray, List.getElem?_cons_zero, List.getElem?_cons_succ] at ct0_3 ct1_3 ct2_3 cx0_3 cx1_3 cx2_3 cx3_3
          have lt_3 := rowLt Yt_3.out
          have lx_3 := rowLt Yx_3.out
          go_wp2_with fail
          go_ret
          exact ⟨rfl, (by repeat (first | exact HBW_3.out | refine bA ?_ _ | refine bd ?_ | refine bD ?_ _))⟩
        | true =>
          rw [ha, Bool.true_and] at hs
          have HA := Lib.hid (hia true ha)
          have HB := Lib.hid (hib false hs)
          clear hia hib hs ha g1 g2
          have ct0_0 := cell_of_row w1 w.heap.size 0 _ _ _ Yt.out
          have ct1_0 := cell_of_row w1 w.heap.size 1 _ _ _ Yt.out
          have ct2_0 := cell_of_row w1 w.heap.size 2 _ _ _ Yt.out
          have cx0_0 := cell_of_row w1 w0.heap.size 0 _ _ _ Yx.out
          have cx1_0 := cell_of_row w1 w0.heap.size 1 _ _ _ Yx.out
          have cx2_0 := cell_of_row w1 w0.heap.size 2 _ _ _ Yx.out
          have cx3_0 := cell_of_row w1 w0.heap.size 3 _ _ _ Yx.out
          simp only [List.getElem?_toArray, List.getElem?_cons_zero, List.getElem?_cons_succ] at ct0_0 ct1_0 ct2_0 cx0_0 cx1_0 cx2_0 cx3_0
          have lt_0 := rowLt Yt.out
          have lx_0 := rowLt Yx.out
          go_enter Try.func13, Try.ntmps13
          go_wp2_with fail
          refine (HR.out).mono ?_
          rintro e w2 ⟨rfl, hw2⟩
          clear ct0_0 ct1_0 ct2_0 cx0_0 cx1_0 cx2_0 cx3_0 lt_0 lx_0
          have Yt_1 := Lib.hid ((hw2.block _ (rowLt Yt.out)).trans Yt.out)
          have Yx_1 := Lib.hid ((hw2.block _ (rowLt Yx.out)).trans Yx.out)
          have FT_1 := Lib.hid (FT.out.bel hw2)
          have HBW_1 := Lib.hid (bT HB1.out hw2)
          clear hw2
          have ct0_1 := cell_of_row w2 w.heap.size 0 _ _ _ Yt_1.out
          have ct1_1 := cell_of_row w2 w.heap.size 1 _ _ _ Yt_1.out
          have ct2_1 := cell_of_row w2 w.heap.size 2 _ _ _ Yt_1.out
          have cx0_1 := cell_of_row w2 w0.heap.size 0 _ _ _ Yx_1.out
          have cx1_1 := cell_of_row w2 w0.heap.size 1 _ _ _ Yx_1.out
          have cx2_1 := cell_of_row w2 w0.heap.size 2 _ _ _ Yx_1.out
          have cx3_1 := cell_of_row w2 w0.heap.size 3 _ _ _ Yx_1.out
          simp only [List.getElem?_toArray, List.getElem?_cons_zero, List.getElem?_cons_succ] at ct0_1 ct1_1 ct2_1 cx0_1 cx1_1 cx2_1 cx3_1
          have lt_1 := rowLt Yt_1.out
          have lx_1 := rowLt Yx_1.out
          go_wp2_with fail
          refine (HA.out _).mono ?_
          rintro e w3 ⟨rfl, hw3⟩
          clear ct0_1 ct1_1 ct2_1 cx0_1 cx1_1 cx2_1 cx3_1 lt_1 lx_1
          have Yt_2 := Lib.hid ((hw3.block _ (rowLt Yt_1.out)).trans Yt_1.out)
          have Yx_2 := Lib.hid ((hw3.block _ (rowLt Yx_1.out)).trans Yx_1.out)
          have FT_2 := Lib.hid (FT_1.out.bel hw3)
          have HBW_2 := Lib.hid (bT HBW_1.out hw3)
          clear hw3
          have ct0_2 := cell_of_row w3 w.heap.size 0 _ _ _ Yt_2.out
          have ct1_2 := cell_of_row w3 w.heap.size 1 _ _ _ Yt_2.out
          have ct2_2 := cell_of_row w3 w.heap.size 2 _ _ _ Yt_2.out
          have cx0_2 := cell_of_row w3 w0.heap.size 0 _ _ _ Yx_2.out
          have cx1_2 := cell_of_row w3 w0.heap.size 1 _ _ _ Yx_2.out
          have cx2_2 := cell_of_row w3 w0.heap.size 2 _ _ _ Yx_2.out
          have cx3_2 := cell_of_row w3 w0.heap.size 3 _ _ _ Yx_2.out
          simp only [List.getElem?_toArray, List.getElem?_cons_zero, List.getElem?_cons_succ] at ct0_2 ct1_2 ct2_2 cx0_2 cx1_2 cx2_2 cx3_2
          have lt_2 := rowLt Yt_2.out
          have lx_2 := rowLt Yx_2.out
          go_wp2_with fail
          refine (HB.out _).mono ?_
          rintro e w4 ⟨rfl, hw4⟩
          clear ct0_2 ct1_2 ct2_2 cx0_2 cx1_2 cx2_2 cx3_2 lt_2 lx_2
          have Yt_3 := Lib.hid ((hw4.block _ (rowLt Yt_2.out)).trans Yt_2.out)
          have Yx_3 := Lib.hid ((hw4.block _ (rowLt Yx_2.out)).trans Yx_2.out)
          have FT_3 := Lib.hid (FT_2.out.bel hw4)
          have HBW_3 := Lib.hid (bT HBW_2.out hw4)
          clear hw4
          have ct0_3 := cell_of_row w4 w.heap.size 0 _ _ _ Yt_3.out
          have ct1_3 := cell_of_row w4 w.heap.size 1 _ _ _ Yt_3.out
          have ct2_3 := cell_of_row w4 w.heap.size 2 _ _ _ Yt_3.out
          have cx0_3 := cell_of_row w4 w0.heap.size 0 _ _ _ Yx_3.out
          have cx1_3 := cell_of_row w4 w0.heap.size 1 _ _ _ Yx_3.out
          have cx2_3 := cell_of_row w4 w0.heap.size 2 _ _ _ Yx_3.out
          have cx3_3 := cell_of_row w4 w0.heap.size 3 _ _ _ Yx_3.out
          simp only [List.getElem?_toArray, List.getElem?_cons_zero, List.getElem?_cons_succ] at ct0_3 ct1_3 ct2_3 cx0_3 cx1_3 cx2_3 cx3_3
          have lt_3 := rowLt Yt_3.out
          have lx_3 := rowLt Yx_3.out
          go_wp2_with fail
          refine (works_ex _).mono ?_
          rintro e w9 ⟨rfl, hw9⟩
          clear ct0_3 ct1_3 ct2_3 cx0_3 cx1_3 cx2_3 cx3_3 lt_3 lx_3
          have Yt_4 := Lib.hid ((hw9.block _ (rowLt Yt_3.out)).trans Yt_3.out)
          have Yx_4 := Lib.hid ((hw9.block _ (rowLt Yx_3.out)).trans Yx_3.out)
          have FT_4 := Lib.hid (FT_3.out.bel hw9)
          have HBW_4 := Lib.hid (bT HBW_3.out hw9)
          clear hw9
          have ct0_4 := cell_of_row w9 w.heap.size 0 _ _ _ Yt_4.out
          have ct1_4 := cell_of_row w9 w.heap.size 1 _ _ _ Yt_4.out
          have ct2_4 := cell_of_row w9 w.heap.size 2 _ _ _ Yt_4.out
          have cx0_4 := cell_of_row w9 w0.heap.size 0 _ _ _ Yx_4.out
          have cx1_4 := cell_of_row w9 w0.heap.size 1 _ _ _ Yx_4.out
          have cx2_4 := cell_of_row w9 w0.heap.size 2 _ _ _ Yx_4.out
          have cx3_4 := cell_of_row w9 w0.heap.size 3 _ _ _ Yx_4.out
          simp only [List.getElem?_toArray, List.getElem?_cons_zero, List.getElem?_cons_succ] at ct0_4 ct1_4 ct2_4 cx0_4 cx1_4 cx2_4 cx3_4
          have lt_4 := rowLt Yt_4.out
          have lx_4 := rowLt Yx_4.out
          go_wp2_with fail
          go_ret
          exact ⟨rfl, (by repeat (first | exact HBW_4.out | refine bA ?_ _ | refine bd ?_ | refine bD ?_ _))⟩

set_option maxRecDepth 100000 in
set_option maxHeartbeats 16000000 in
theorem deeper_none (T : Town) (p q : Option Addr) (c d : Nat) (u v : Nat) (t y : Int) (w : World) (ht : TownIn w w.heap.size T p q)
    (hr : rdy T = true) (hy0 : -99 ≤ y) (hy1 : y ≤ 99) (hu : (u : Int) < T.W) (hv : (v : Int) < T.W) (hk : kn T = none) :
    Calls Try.prog 13 #[.agg #[.int .i64 T.W, .slice p T.s.length c, .slice q T.r.length d], .agg #[.int .i64 u, .int .i64 v, .int .i64 t, .int .i64 y]] w fun e w' => e = .returned (.bool true) ∧ Below w.heap.size w w' := by
  obtain ⟨a, ea⟩ : ∃ a : Int, a = u := ⟨_, rfl⟩
  obtain ⟨b, eb⟩ : ∃ b : Int, b = v := ⟨_, rfl⟩
  rw [← ea, ← eb]
  obtain ⟨w0, hw0, hb0, hz0, y0⟩ := box_row w (.cells #[.int .i64 T.W, .slice p T.s.length c, .slice q T.r.length d] 25)
  obtain ⟨w1, hw1, hb1, hz1, y1⟩ := box_row w0 (.cells #[.int .i64 a, .int .i64 b, .int .i64 t, .int .i64 y] 51)
  have Yt := Lib.hid ((hb1.block _ (by omega)).trans y0)
  have Yx := Lib.hid y1
  have HB1 := Lib.hid (bT hb0 hb1)
  have hT1 := ht.bel (bT hb0 hb1)
  have FT := Lib.hid hT1
  have hrd := ready_any T p q c d w1 hT1
  obtain ⟨hok, hW5, hm8⟩ := rdy_ok hr
  have hW := ok_W hok
  rw [hr] at hrd
  have hia : ∀ V, Calls Try.prog 48 #[.agg #[.int .i64 T.W, .slice p T.s.length c, .slice q T.r.length d], .int .i64 a] V fun e w' => e = .returned (.bool true) ∧ Below V.heap.size V w' := fun V => isWell_b T.W a _ _ true V (by omega) (by omega) (by simp only [within, decide_eq_true_eq]; omega)
  have hib : ∀ V, Calls Try.prog 48 #[.agg #[.int .i64 T.W, .slice p T.s.length c, .slice q T.r.length d], .int .i64 b] V fun e w' => e = .returned (.bool true) ∧ Below V.heap.size V w' := fun V => isWell_b T.W b _ _ true V (by omega) (by omega) (by simp only [within, decide_eq_true_eq]; omega)
  have d1 : decide (y < -99) = false := decide_eq_false (by omega)
  have d2 : decide (99 < y) = false := decide_eq_false (by omega)
  have HR := Lib.hid hrd; have HA := Lib.hid hia; have HB := Lib.hid hib
  have hsp : ∀ (V : World) (p q : Option Addr) (c d : Nat), TownIn V V.heap.size T p q → Calls Try.prog 54 #[.agg #[.int .i64 T.W, .slice p T.s.length c, .slice q T.r.length d]] V fun e w' => e = .returned (.tuple #[.slice none 0 0, .bool false]) ∧ Below V.heap.size V w' := fun V p q c d h =>
    (spans_any T T.W.toNat p q c d V hok (by omega) h).mono fun e w' ⟨hb, hx⟩ => by
      rcases hx with ⟨_, rfl⟩ | ⟨M, hM, _⟩
      · exact ⟨rfl, hb⟩
      · rw [hk] at hM; cases hM
  have HSP := Lib.hid hsp
  clear hsp hrd hia hib hr ht hT1 hb0 hb1 hz0 hz1 y0 y1 hok hk hu hv ea eb
  have ct0_0 := cell_of_row w1 w.heap.size 0 _ _ _ Yt.out
  have ct1_0 := cell_of_row w1 w.heap.size 1 _ _ _ Yt.out
  have ct2_0 := cell_of_row w1 w.heap.size 2 _ _ _ Yt.out
  have cx0_0 := cell_of_row w1 w0.heap.size 0 _ _ _ Yx.out
  have cx1_0 := cell_of_row w1 w0.heap.size 1 _ _ _ Yx.out
  have cx2_0 := cell_of_row w1 w0.heap.size 2 _ _ _ Yx.out
  have cx3_0 := cell_of_row w1 w0.heap.size 3 _ _ _ Yx.out
  simp only [List.getElem?_toArray, List.getElem?_cons_zero, List.getElem?_cons_succ] at ct0_0 ct1_0 ct2_0 cx0_0 cx1_0 cx2_0 cx3_0
  have lt_0 := rowLt Yt.out
  have lx_0 := rowLt Yx.out
  go_enter Try.func13, Try.ntmps13
  go_wp2_with fail
  refine (HR.out).mono ?_
  rintro e w2 ⟨rfl, hw2⟩
  clear ct0_0 ct1_0 ct2_0 cx0_0 cx1_0 cx2_0 cx3_0 lt_0 lx_0
  have Yt_1 := Lib.hid ((hw2.block _ (rowLt Yt.out)).trans Yt.out)
  have Yx_1 := Lib.hid ((hw2.block _ (rowLt Yx.out)).trans Yx.out)
  have FT_1 := Lib.hid (FT.out.bel hw2)
  have HBW_1 := Lib.hid (bT HB1.out hw2)
  clear hw2
  have ct0_1 := cell_of_row w2 w.heap.size 0 _ _ _ Yt_1.out
  have ct1_1 := cell_of_row w2 w.heap.size 1 _ _ _ Yt_1.out
  have ct2_1 := cell_of_row w2 w.heap.size 2 _ _ _ Yt_1.out
  have cx0_1 := cell_of_row w2 w0.heap.size 0 _ _ _ Yx_1.out
  have cx1_1 := cell_of_row w2 w0.heap.size 1 _ _ _ Yx_1.out
  have cx2_1 := cell_of_row w2 w0.heap.size 2 _ _ _ Yx_1.out
  have cx3_1 := cell_of_row w2 w0.heap.size 3 _ _ _ Yx_1.out
  simp only [List.getElem?_toArray, List.getElem?_cons_zero, List.getElem?_cons_succ] at ct0_1 ct1_1 ct2_1 cx0_1 cx1_1 cx2_1 cx3_1
  have lt_1 := rowLt Yt_1.out
  have lx_1 := rowLt Yx_1.out
  go_wp2_with fail
  refine (HA.out _).mono ?_
  rintro e w3 ⟨rfl, hw3⟩
  clear ct0_1 ct1_1 ct2_1 cx0_1 cx1_1 cx2_1 cx3_1 lt_1 lx_1
  have Yt_2 := Lib.hid ((hw3.block _ (rowLt Yt_1.out)).trans Yt_1.out)
  have Yx_2 := Lib.hid ((hw3.block _ (rowLt Yx_1.out)).trans Yx_1.out)
  have FT_2 := Lib.hid (FT_1.out.bel hw3)
  have HBW_2 := Lib.hid (bT HBW_1.out hw3)
  clear hw3
  have ct0_2 := cell_of_row w3 w.heap.size 0 _ _ _ Yt_2.out
  have ct1_2 := cell_of_row w3 w.heap.size 1 _ _ _ Yt_2.out
  have ct2_2 := cell_of_row w3 w.heap.size 2 _ _ _ Yt_2.out
  have cx0_2 := cell_of_row w3 w0.heap.size 0 _ _ _ Yx_2.out
  have cx1_2 := cell_of_row w3 w0.heap.size 1 _ _ _ Yx_2.out
  have cx2_2 := cell_of_row w3 w0.heap.size 2 _ _ _ Yx_2.out
  have cx3_2 := cell_of_row w3 w0.heap.size 3 _ _ _ Yx_2.out
  simp only [List.getElem?_toArray, List.getElem?_cons_zero, List.getElem?_cons_succ] at ct0_2 ct1_2 ct2_2 cx0_2 cx1_2 cx2_2 cx3_2
  have lt_2 := rowLt Yt_2.out
  have lx_2 := rowLt Yx_2.out
  go_wp2_with fail
  refine (HB.out _).mono ?_
  rintro e w4 ⟨rfl, hw4⟩
  clear ct0_2 ct1_2 ct2_2 cx0_2 cx1_2 cx2_2 cx3_2 lt_2 lx_2
  have Yt_3 := Lib.hid ((hw4.block _ (rowLt Yt_2.out)).trans Yt_2.out)
  have Yx_3 := Lib.hid ((hw4.block _ (rowLt Yx_2.out)).trans Yx_2.out)
  have FT_3 := Lib.hid (FT_2.out.bel hw4)
  have HBW_3 := Lib.hid (bT HBW_2.out hw4)
  clear hw4
  have ct0_3 := cell_of_row w4 w.heap.size 0 _ _ _ Yt_3.out
  have ct1_3 := cell_of_row w4 w.heap.size 1 _ _ _ Yt_3.out
  have ct2_3 := cell_of_row w4 w.heap.size 2 _ _ _ Yt_3.out
  have cx0_3 := cell_of_row w4 w0.heap.size 0 _ _ _ Yx_3.out
  have cx1_3 := cell_of_row w4 w0.heap.size 1 _ _ _ Yx_3.out
  have cx2_3 := cell_of_row w4 w0.heap.size 2 _ _ _ Yx_3.out
  have cx3_3 := cell_of_row w4 w0.heap.size 3 _ _ _ Yx_3.out
  simp only [List.getElem?_toArray, List.getElem?_cons_zero, List.getElem?_cons_succ] at ct0_3 ct1_3 ct2_3 cx0_3 cx1_3 cx2_3 cx3_3
  have lt_3 := rowLt Yt_3.out
  have lx_3 := rowLt Yx_3.out
  go_wp2_with fail
  refine (HSP.out _ _ _ _ _ FT_3.out).mono ?_
  rintro e w5 ⟨rfl, hw5⟩
  clear ct0_3 ct1_3 ct2_3 cx0_3 cx1_3 cx2_3 cx3_3 lt_3 lx_3
  have Yt_4 := Lib.hid ((hw5.block _ (rowLt Yt_3.out)).trans Yt_3.out)
  have Yx_4 := Lib.hid ((hw5.block _ (rowLt Yx_3.out)).trans Yx_3.out)
  have FT_4 := Lib.hid (FT_3.out.bel hw5)
  have HBW_4 := Lib.hid (bT HBW_3.out hw5)
  clear hw5
  have ct0_4 := cell_of_row w5 w.heap.size 0 _ _ _ Yt_4.out
  have ct1_4 := cell_of_row w5 w.heap.size 1 _ _ _ Yt_4.out
  have ct2_4 := cell_of_row w5 w.heap.size 2 _ _ _ Yt_4.out
  have cx0_4 := cell_of_row w5 w0.heap.size 0 _ _ _ Yx_4.out
  have cx1_4 := cell_of_row w5 w0.heap.size 1 _ _ _ Yx_4.out
  have cx2_4 := cell_of_row w5 w0.heap.size 2 _ _ _ Yx_4.out
  have cx3_4 := cell_of_row w5 w0.heap.size 3 _ _ _ Yx_4.out
  simp only [List.getElem?_toArray, List.getElem?_cons_zero, List.getElem?_cons_succ] at ct0_4 ct1_4 ct2_4 cx0_4 cx1_4 cx2_4 cx3_4
  have lt_4 := rowLt Yt_4.out
  have lx_4 := rowLt Yx_4.out
  go_wp2_with fail
  refine (works_ex _).mono ?_
  rintro e w9 ⟨rfl, hw9⟩
  clear ct0_4 ct1_4 ct2_4 cx0_4 cx1_4 cx2_4 cx3_4 lt_4 lx_4
  have Yt_5 := Lib.hid ((hw9.block _ (rowLt Yt_4.out)).trans Yt_4.out)
  have Yx_5 := Lib.hid ((hw9.block _ (rowLt Yx_4.out)).trans Yx_4.out)
  have FT_5 := Lib.hid (FT_4.out.bel hw9)
  have HBW_5 := Lib.hid (bT HBW_4.out hw9)
  clear hw9
  have ct0_5 := cell_of_row w9 w.heap.size 0 _ _ _ Yt_5.out
  have ct1_5 := cell_of_row w9 w.heap.size 1 _ _ _ Yt_5.out
  have ct2_5 := cell_of_row w9 w.heap.size 2 _ _ _ Yt_5.out
  have cx0_5 := cell_of_row w9 w0.heap.size 0 _ _ _ Yx_5.out
  have cx1_5 := cell_of_row w9 w0.heap.size 1 _ _ _ Yx_5.out
  have cx2_5 := cell_of_row w9 w0.heap.size 2 _ _ _ Yx_5.out
  have cx3_5 := cell_of_row w9 w0.heap.size 3 _ _ _ Yx_5.out
  simp only [List.getElem?_toArray, List.getElem?_cons_zero, List.getElem?_cons_succ] at ct0_5 ct1_5 ct2_5 cx0_5 cx1_5 cx2_5 cx3_5
  have lt_5 := rowLt Yt_5.out
  have lx_5 := rowLt Yx_5.out
  go_wp2_with fail
  go_ret
  exact ⟨rfl, (by repeat (first | exact HBW_5.out | refine bA ?_ _ | refine bd ?_ | refine bD ?_ _))⟩

theorem low_nth {M : List Int} (h : Clo M) {n k : Nat} (hn : n ≤ 6) (hk : k < n) : (lows M n)[k]?.getD 0 = -D M (k + 1) 0 := by
  have : (lows M n)[k]?.getD 0 = (dif M 0 (k + 1)).1 := by simp [lows, lv, hk]
  rw [this, dif_eq h (by omega) (by omega)]
theorem high_nth {M : List Int} (h : Clo M) {n k : Nat} (hn : n ≤ 6) (hk : k < n) : (highs M n)[k]?.getD 0 = D M 0 (k + 1) := by
  have : (highs M n)[k]?.getD 0 = (dif M 0 (k + 1)).2 := by simp [highs, lv, hk]
  rw [this, dif_eq h (by omega) (by omega)]
theorem own_ptr {w : World} {base : Nat} {e : TypeId} {size n c : Nat} {p : Option Addr} {xs : List Value} (h : w.ownsRow base e size (.slice p n c) n xs) (hn : 0 < n) : ∃ g, p = some ⟨g, 0, none⟩ ∧ base ≤ g ∧ g < w.heap.size := by
  obtain ⟨p1, c1, e1, hc⟩ := own_form h
  simp only [Value.slice.injEq] at e1
  obtain ⟨g, hg, h1, h2, _⟩ := hc hn
  exact ⟨g, e1.1.trans hg, h1, h2⟩
theorem deep_strict {M : List Int} {n : Nat} {y : Int} (h : Clo M) (hn : n ≤ 6) (hs : Strict (lv M n) y n) : ∀ i, i < n → (0 < -D M (i + 1) 0 ∧ D M 0 (i + 1) < 99) ∧ 0 < -D M (i + 1) 0 + y ∧ D M 0 (i + 1) + y < 99 := fun i hi => by
  have := hs i hi
  rw [lv_at hi, dif_eq h (by omega) (by omega)] at this
  simp only at this
  omega

set_option maxRecDepth 100000 in
set_option maxHeartbeats 32000000 in
theorem deeper_some (T : Town) (p q : Option Addr) (c d : Nat) (u v n : Nat) (t y : Int) (w : World) (ht : TownIn w w.heap.size T p q)
    (hr : rdy T = true) (hy0 : -99 ≤ y) (hy1 : y ≤ 99) (hu : (u : Int) < T.W) (hv : (v : Int) < T.W) (M : List Int) (hn : T.W = n) (hk : kn T = some M) :
    Calls Try.prog 13 #[.agg #[.int .i64 T.W, .slice p T.s.length c, .slice q T.r.length d], .agg #[.int .i64 u, .int .i64 v, .int .i64 t, .int .i64 y]] w fun e w' => e = .returned (.bool true) ∧ Below w.heap.size w w' := by
  obtain ⟨a, ea⟩ : ∃ a : Int, a = u := ⟨_, rfl⟩
  obtain ⟨b, eb⟩ : ∃ b : Int, b = v := ⟨_, rfl⟩
  rw [← ea, ← eb]
  obtain ⟨w0, hw0, hb0, hz0, y0⟩ := box_row w (.cells #[.int .i64 T.W, .slice p T.s.length c, .slice q T.r.length d] 25)
  obtain ⟨w1, hw1, hb1, hz1, y1⟩ := box_row w0 (.cells #[.int .i64 a, .int .i64 b, .int .i64 t, .int .i64 y] 51)
  have Yt := Lib.hid ((hb1.block _ (by omega)).trans y0)
  have Yx := Lib.hid y1
  have HB1 := Lib.hid (bT hb0 hb1)
  have hT1 := ht.bel (bT hb0 hb1)
  have FT := Lib.hid hT1
  have hrd := ready_any T p q c d w1 hT1
  obtain ⟨hok, hW5, hm8⟩ := rdy_ok hr
  have hW := ok_W hok
  rw [hr] at hrd
  have hia : ∀ V, Calls Try.prog 48 #[.agg #[.int .i64 T.W, .slice p T.s.length c, .slice q T.r.length d], .int .i64 a] V fun e w' => e = .returned (.bool true) ∧ Below V.heap.size V w' := fun V => isWell_b T.W a _ _ true V (by omega) (by omega) (by simp only [within, decide_eq_true_eq]; omega)
  have hib : ∀ V, Calls Try.prog 48 #[.agg #[.int .i64 T.W, .slice p T.s.length c, .slice q T.r.length d], .int .i64 b] V fun e w' => e = .returned (.bool true) ∧ Below V.heap.size V w' := fun V => isWell_b T.W b _ _ true V (by omega) (by omega) (by simp only [within, decide_eq_true_eq]; omega)
  have d1 : decide (y < -99) = false := decide_eq_false (by omega)
  have d2 : decide (99 < y) = false := decide_eq_false (by omega)
  have HR := Lib.hid hrd; have HA := Lib.hid hia; have HB := Lib.hid hib
  have hn6 : n ≤ 6 := by omega
  have hM := kn_clo hok hk
  obtain ⟨L, hL⟩ : ∃ z, lv M n = z := ⟨_, rfl⟩
  have hln : L.length = n := by rw [← hL, lv_len]
  have hbd : ∀ i, i < n → 0 ≤ (sp L i).1 ∧ (sp L i).1 ≤ 99 ∧ 0 ≤ (sp L i).2 ∧ (sp L i).2 ≤ 99 := fun i hi => by
    rw [← hL, lv_at hi, dif_eq hM (by omega) (by omega)]
    have f := heard_kn hok
    rw [hk] at f
    have g := (fits_U (hM.diag 0 (by omega))).1 ((f.2 _).1 (fits_zero hM)).1 (i + 1) (by omega)
    have g' := (fits_U (by simp [dn])).1 ((f.2 _).1 (dn_fits hM (p := 0) (by omega))).1 (i + 1) (by omega)
    simp only [dn, hM.diag 0 (by omega)] at g'
    omega
  have hsp : ∀ (V : World) (p q : Option Addr) (c d : Nat), TownIn V V.heap.size T p q → Calls Try.prog 54 #[.agg #[.int .i64 T.W, .slice p T.s.length c, .slice q T.r.length d]] V fun e w' => ∃ p', e = .returned (.tuple #[.slice p' n n, .bool true]) ∧ SpIn w' p' L ∧ Below V.heap.size V w' := fun V p q c d h =>
    (spans_any T n p q c d V hok hn h).mono fun e w' ⟨hb, hx⟩ => by
      rcases hx with ⟨hN, _⟩ | ⟨M', hM', rfl, hs⟩
      · rw [hk] at hN; cases hN
      · rw [hk] at hM'
        cases hM'
        rw [hL] at hs
        exact ⟨_, rfl, hs.into, hb⟩
  have hcp := fun (V : World) (p q : Option Addr) (c d : Nat) (h : TownIn V V.heap.size T p q) => copy_own T p q c d V (by omega) (by omega) h
  have hrd2 : ∀ (V : World) (p q : Option Addr) (c d : Nat), TownIn V V.heap.size (T.deep y) p q → Calls Try.prog 45 #[.agg #[.int .i64 T.W, .slice p T.s.length c, .slice q T.r.length d]] V fun e w' => e = .returned (.bool (rdy (T.deep y))) ∧ Below V.heap.size V w' := fun V p q c d h => by
    have := ready_any (T.deep y) p q c d V h
    rw [show (T.deep y).s.length = T.s.length by simp [Town.deep]] at this
    exact this
  have he1 := fun (V : World) (p q : Option Addr) (c d : Nat) (h : TownIn V V.heap.size T p q) => ends_some T M n p q c d V hok hk hn h
  have HRD := Lib.hid hrd2; have HE1 := Lib.hid he1
  have HUV := Lib.hid (And.intro hu (And.intro hv (And.intro ea eb)))
  clear hrd2 he1
  have HSP := Lib.hid hsp; have HCP := Lib.hid hcp; have HLN := Lib.hid hln; have HBD := Lib.hid hbd; have HLE := Lib.hid hL; have HMC := Lib.hid hM
  have HOK := Lib.hid hok; have HK := Lib.hid hk; have HN := Lib.hid hn
  clear hsp hcp hln hbd hL hM hrd hia hib hr ht hT1 hb0 hb1 hz0 hz1 y0 y1 hok hk hu hv ea eb hn
  have ct0_0 := cell_of_row w1 w.heap.size 0 _ _ _ Yt.out
  have ct1_0 := cell_of_row w1 w.heap.size 1 _ _ _ Yt.out
  have ct2_0 := cell_of_row w1 w.heap.size 2 _ _ _ Yt.out
  have cx0_0 := cell_of_row w1 w0.heap.size 0 _ _ _ Yx.out
  have cx1_0 := cell_of_row w1 w0.heap.size 1 _ _ _ Yx.out
  have cx2_0 := cell_of_row w1 w0.heap.size 2 _ _ _ Yx.out
  have cx3_0 := cell_of_row w1 w0.heap.size 3 _ _ _ Yx.out
  simp only [List.getElem?_toArray, List.getElem?_cons_zero, List.getElem?_cons_succ] at ct0_0 ct1_0 ct2_0 cx0_0 cx1_0 cx2_0 cx3_0
  have lt_0 := rowLt Yt.out
  have lx_0 := rowLt Yx.out
  go_enter Try.func13, Try.ntmps13
  go_wp2_with fail
  refine (HR.out).mono ?_
  rintro e w2 ⟨rfl, hw2⟩
  clear ct0_0 ct1_0 ct2_0 cx0_0 cx1_0 cx2_0 cx3_0 lt_0 lx_0
  have Yt_1 := Lib.hid ((hw2.block _ (rowLt Yt.out)).trans Yt.out)
  have Yx_1 := Lib.hid ((hw2.block _ (rowLt Yx.out)).trans Yx.out)
  have FT_1 := Lib.hid (FT.out.bel hw2)
  have HBW_1 := Lib.hid (bT HB1.out hw2)
  clear hw2
  have ct0_1 := cell_of_row w2 w.heap.size 0 _ _ _ Yt_1.out
  have ct1_1 := cell_of_row w2 w.heap.size 1 _ _ _ Yt_1.out
  have ct2_1 := cell_of_row w2 w.heap.size 2 _ _ _ Yt_1.out
  have cx0_1 := cell_of_row w2 w0.heap.size 0 _ _ _ Yx_1.out
  have cx1_1 := cell_of_row w2 w0.heap.size 1 _ _ _ Yx_1.out
  have cx2_1 := cell_of_row w2 w0.heap.size 2 _ _ _ Yx_1.out
  have cx3_1 := cell_of_row w2 w0.heap.size 3 _ _ _ Yx_1.out
  simp only [List.getElem?_toArray, List.getElem?_cons_zero, List.getElem?_cons_succ] at ct0_1 ct1_1 ct2_1 cx0_1 cx1_1 cx2_1 cx3_1
  have lt_1 := rowLt Yt_1.out
  have lx_1 := rowLt Yx_1.out
  go_wp2_with fail
  refine (HA.out _).mono ?_
  rintro e w3 ⟨rfl, hw3⟩
  clear ct0_1 ct1_1 ct2_1 cx0_1 cx1_1 cx2_1 cx3_1 lt_1 lx_1
  have Yt_2 := Lib.hid ((hw3.block _ (rowLt Yt_1.out)).trans Yt_1.out)
  have Yx_2 := Lib.hid ((hw3.block _ (rowLt Yx_1.out)).trans Yx_1.out)
  have FT_2 := Lib.hid (FT_1.out.bel hw3)
  have HBW_2 := Lib.hid (bT HBW_1.out hw3)
  clear hw3
  have ct0_2 := cell_of_row w3 w.heap.size 0 _ _ _ Yt_2.out
  have ct1_2 := cell_of_row w3 w.heap.size 1 _ _ _ Yt_2.out
  have ct2_2 := cell_of_row w3 w.heap.size 2 _ _ _ Yt_2.out
  have cx0_2 := cell_of_row w3 w0.heap.size 0 _ _ _ Yx_2.out
  have cx1_2 := cell_of_row w3 w0.heap.size 1 _ _ _ Yx_2.out
  have cx2_2 := cell_of_row w3 w0.heap.size 2 _ _ _ Yx_2.out
  have cx3_2 := cell_of_row w3 w0.heap.size 3 _ _ _ Yx_2.out
  simp only [List.getElem?_toArray, List.getElem?_cons_zero, List.getElem?_cons_succ] at ct0_2 ct1_2 ct2_2 cx0_2 cx1_2 cx2_2 cx3_2
  have lt_2 := rowLt Yt_2.out
  have lx_2 := rowLt Yx_2.out
  go_wp2_with fail
  refine (HB.out _).mono ?_
  rintro e w4 ⟨rfl, hw4⟩
  clear ct0_2 ct1_2 ct2_2 cx0_2 cx1_2 cx2_2 cx3_2 lt_2 lx_2
  have Yt_3 := Lib.hid ((hw4.block _ (rowLt Yt_2.out)).trans Yt_2.out)
  have Yx_3 := Lib.hid ((hw4.block _ (rowLt Yx_2.out)).trans Yx_2.out)
  have FT_3 := Lib.hid (FT_2.out.bel hw4)
  have HBW_3 := Lib.hid (bT HBW_2.out hw4)
  clear hw4
  have ct0_3 := cell_of_row w4 w.heap.size 0 _ _ _ Yt_3.out
  have ct1_3 := cell_of_row w4 w.heap.size 1 _ _ _ Yt_3.out
  have ct2_3 := cell_of_row w4 w.heap.size 2 _ _ _ Yt_3.out
  have cx0_3 := cell_of_row w4 w0.heap.size 0 _ _ _ Yx_3.out
  have cx1_3 := cell_of_row w4 w0.heap.size 1 _ _ _ Yx_3.out
  have cx2_3 := cell_of_row w4 w0.heap.size 2 _ _ _ Yx_3.out
  have cx3_3 := cell_of_row w4 w0.heap.size 3 _ _ _ Yx_3.out
  simp only [List.getElem?_toArray, List.getElem?_cons_zero, List.getElem?_cons_succ] at ct0_3 ct1_3 ct2_3 cx0_3 cx1_3 cx2_3 cx3_3
  have lt_3 := rowLt Yt_3.out
  have lx_3 := rowLt Yx_3.out
  go_wp2_with fail
  refine (HSP.out _ _ _ _ _ FT_3.out).mono ?_
  rintro e w5 ⟨p5, rfl, hi5, hw5⟩
  clear ct0_3 ct1_3 ct2_3 cx0_3 cx1_3 cx2_3 cx3_3 lt_3 lx_3
  have Yt_4 := Lib.hid ((hw5.block _ (rowLt Yt_3.out)).trans Yt_3.out)
  have Yx_4 := Lib.hid ((hw5.block _ (rowLt Yx_3.out)).trans Yx_3.out)
  have FT_4 := Lib.hid (FT_3.out.bel hw5)
  have HBW_4 := Lib.hid (bT HBW_3.out hw5)
  clear hw5
  have ct0_4 := cell_of_row w5 w.heap.size 0 _ _ _ Yt_4.out
  have ct1_4 := cell_of_row w5 w.heap.size 1 _ _ _ Yt_4.out
  have ct2_4 := cell_of_row w5 w.heap.size 2 _ _ _ Yt_4.out
  have cx0_4 := cell_of_row w5 w0.heap.size 0 _ _ _ Yx_4.out
  have cx1_4 := cell_of_row w5 w0.heap.size 1 _ _ _ Yx_4.out
  have cx2_4 := cell_of_row w5 w0.heap.size 2 _ _ _ Yx_4.out
  have cx3_4 := cell_of_row w5 w0.heap.size 3 _ _ _ Yx_4.out
  simp only [List.getElem?_toArray, List.getElem?_cons_zero, List.getElem?_cons_succ] at ct0_4 ct1_4 ct2_4 cx0_4 cx1_4 cx2_4 cx3_4
  have lt_4 := rowLt Yt_4.out
  have lx_4 := rowLt Yx_4.out
  have FS5 := Lib.hid hi5
  clear hi5
  go_wp2_with fail
  go_loopw [7] (fun i wr => ∃ k : Nat, i = .int .i64 k ∧ k ≤ n ∧ Strict L y k ∧ Below w5.heap.size w5 wr) (fun i _ => n - (intOf i).toNat)
  case atStart => exact ⟨0, rfl, Nat.zero_le _, fun i h => absurd h (Nat.not_lt_zero _), Below.refl _ _⟩
  case round =>
    obtain ⟨k, rfl, hk, hst, hbr⟩ := hrel
    have HST := Lib.hid hst
    clear hst
    clear ct0_4 ct1_4 ct2_4 cx0_4 cx1_4 cx2_4 cx3_4 lt_4 lx_4
    have Yt_5 := Lib.hid ((hbr.block _ (rowLt Yt_4.out)).trans Yt_4.out)
    have Yx_5 := Lib.hid ((hbr.block _ (rowLt Yx_4.out)).trans Yx_4.out)
    have FT_5 := Lib.hid (FT_4.out.bel hbr)
    have FS_5 := Lib.hid (FS5.out.below hbr)
    have HBW_5 := Lib.hid (bT HBW_4.out hbr)
    have HBR := Lib.hid hbr
    clear hbr
    have ct0_5 := cell_of_row wr w.heap.size 0 _ _ _ Yt_5.out
    have ct1_5 := cell_of_row wr w.heap.size 1 _ _ _ Yt_5.out
    have ct2_5 := cell_of_row wr w.heap.size 2 _ _ _ Yt_5.out
    have cx0_5 := cell_of_row wr w0.heap.size 0 _ _ _ Yx_5.out
    have cx1_5 := cell_of_row wr w0.heap.size 1 _ _ _ Yx_5.out
    have cx2_5 := cell_of_row wr w0.heap.size 2 _ _ _ Yx_5.out
    have cx3_5 := cell_of_row wr w0.heap.size 3 _ _ _ Yx_5.out
    simp only [List.getElem?_toArray, List.getElem?_cons_zero, List.getElem?_cons_succ] at ct0_5 ct1_5 ct2_5 cx0_5 cx1_5 cx2_5 cx3_5
    have lt_5 := rowLt Yt_5.out
    have lx_5 := rowLt Yx_5.out
    by_cases hlt : k < n
    · obtain ⟨g, rfl, hlg, hcell⟩ := FS_5.out.at' (by rw [HLN.out]; omega)
      obtain ⟨e1, e2⟩ := hcell k (by rw [HLN.out]; exact hlt)
      have hbd := HBD.out k hlt
      have hsuc := fun h => strict_succ (k := k) HST.out h
      obtain ⟨A0, hA0⟩ : ∃ z, (sp L k).1 = z := ⟨_, rfl⟩
      obtain ⟨A1, hA1⟩ : ∃ z, (sp L k).2 = z := ⟨_, rfl⟩
      rw [hA0, hA1] at hbd hsuc
      rw [hA0] at e1
      rw [hA1] at e2
      have HSU := Lib.hid hsuc
      have i0 : (0 : Int) ≤ (k : Int) := by omega
      have i1 : (k : Int) < (n : Int) := by omega
      obtain ⟨m0, hm0⟩ : ∃ z, (if A0 + y < A0 then A0 + y else A0) = z := ⟨_, rfl⟩
      obtain ⟨m1, hm1⟩ : ∃ z, (if A1 < A1 + y then A1 + y else A1) = z := ⟨_, rfl⟩
      have hmm : (m0 ≤ 0 ∨ 99 ≤ m1 ∨ (0 < A0 ∧ 0 < A0 + y ∧ A1 < 99 ∧ A1 + y < 99)) := by
        by_cases q1 : A0 + y < A0
        · rw [if_pos q1] at hm0
          by_cases q2 : A1 < A1 + y
          · omega
          · rw [if_neg q2] at hm1; omega
        · rw [if_neg q1] at hm0
          by_cases q2 : A1 < A1 + y
          · rw [if_pos q2] at hm1; omega
          · rw [if_neg q2] at hm1; omega
      have HMM := Lib.hid hmm
      have v1 : IntKind.i64.wrap (A0 + y) = A0 + y := IntWalk.i64_in _ (by omega)
      have v2 : IntKind.i64.wrap (A1 + y) = A1 + y := IntWalk.i64_in _ (by omega)
      clear hA0 hA1 hcell hsuc hmm
      by_cases t1 : m0 ≤ 0
      · have t1' : decide (m0 ≤ 0) = true := decide_eq_true t1
        clear t1
        go_wp2_with fail
        go_quiet (fail)
        go_wp2_with fail
        refine (works_ex _).mono ?_
        rintro e w9 ⟨rfl, hw9⟩
        have HB9 := Lib.hid (bT (a := w) (by repeat (first | exact HBW_5.out | refine bA ?_ _ | refine bd ?_ | refine bD ?_ _)) hw9)
        clear hw9
        go_wp2_with fail
        go_ret
        exact ⟨rfl, HB9.out⟩
      · have t1' : decide (m0 ≤ 0) = false := decide_eq_false t1
        by_cases t2 : 99 ≤ m1
        · have t2' : decide (99 ≤ m1) = true := decide_eq_true t2
          clear t1 t2
          go_wp2_with fail
          go_quiet (fail)
          go_wp2_with fail
          refine (works_ex _).mono ?_
          rintro e w9 ⟨rfl, hw9⟩
          have HB9 := Lib.hid (bT (a := w) (by repeat (first | exact HBW_5.out | refine bA ?_ _ | refine bd ?_ | refine bD ?_ _)) hw9)
          clear hw9
          go_wp2_with fail
          go_ret
          exact ⟨rfl, HB9.out⟩
        · have t2' : decide (99 ≤ m1) = false := decide_eq_false t2
          have HT12 := Lib.hid (And.intro t1 t2)
          clear t1 t2
          go_wp2_with fail
          go_quiet (fail)
          go_wp2_with fail
          go_roundw
          case rel => exact ⟨k + 1, by go_num, hlt, HSU.out (by have := HMM.out; have := HT12.out; omega), by repeat (first | exact HBR.out | refine bD ?_ _)⟩
          case measure => simp [intOf]; omega
    · obtain rfl : n = k := by omega
      clear hlt hk
      go_wp2_with fail
      refine (HCP.out _ _ _ _ _ FT_5.out).mono ?_
      rintro e w6 ⟨p', c', q', d', rfl, hw6, ho6⟩
      have HV6 := Lib.hid hw6
      clear ct0_5 ct1_5 ct2_5 cx0_5 cx1_5 cx2_5 cx3_5 lt_5 lx_5
      have Yt_6 := Lib.hid ((hw6.block _ (rowLt Yt_5.out)).trans Yt_5.out)
      have Yx_6 := Lib.hid ((hw6.block _ (rowLt Yx_5.out)).trans Yx_5.out)
      have FT_6 := Lib.hid (FT_5.out.bel hw6)
      have FS_6 := Lib.hid (FS_5.out.below hw6)
      have HBW_6 := Lib.hid (bT HBW_5.out hw6)
      clear hw6
      have ct0_6 := cell_of_row w6 w.heap.size 0 _ _ _ Yt_6.out
      have ct1_6 := cell_of_row w6 w.heap.size 1 _ _ _ Yt_6.out
      have ct2_6 := cell_of_row w6 w.heap.size 2 _ _ _ Yt_6.out
      have cx0_6 := cell_of_row w6 w0.heap.size 0 _ _ _ Yx_6.out
      have cx1_6 := cell_of_row w6 w0.heap.size 1 _ _ _ Yx_6.out
      have cx2_6 := cell_of_row w6 w0.heap.size 2 _ _ _ Yx_6.out
      have cx3_6 := cell_of_row w6 w0.heap.size 3 _ _ _ Yx_6.out
      simp only [List.getElem?_toArray, List.getElem?_cons_zero, List.getElem?_cons_succ] at ct0_6 ct1_6 ct2_6 cx0_6 cx1_6 cx2_6 cx3_6
      have lt_6 := rowLt Yt_6.out
      have lx_6 := rowLt Yx_6.out
      have FO6 := Lib.hid ho6
      clear ho6
      go_wp2_with fail
      obtain ⟨W6, hW6⟩ : ∃ W6, w6.alloc (Obj.cells #[.int .i64 T.W, (.slice p' T.s.length c'), (.slice q' T.r.length d')] 25) = W6 := ⟨_, rfl⟩
      rw [hW6]
      have hbW6 : Below w6.heap.size w6 W6 := by rw [← hW6]; exact bA (Below.refl _ _) _
      have yW6 : W6.heap[w6.heap.size]? = some (.cells #[.int .i64 T.W, (.slice p' T.s.length c'), (.slice q' T.r.length d')] 25 (0, 0)) := by rw [← hW6]; exact heap_alloc_new _ _
      have YW6 := Lib.hid yW6
      have HBXW6 := Lib.hid hbW6
      clear hW6 yW6
      clear ct0_6 ct1_6 ct2_6 cx0_6 cx1_6 cx2_6 cx3_6 lt_6 lx_6
      have Yt_7 := Lib.hid ((hbW6.block _ (rowLt Yt_6.out)).trans Yt_6.out)
      have Yx_7 := Lib.hid ((hbW6.block _ (rowLt Yx_6.out)).trans Yx_6.out)
      have FT_7 := Lib.hid (FT_6.out.bel hbW6)
      have FS_7 := Lib.hid (FS_6.out.below hbW6)
      have FO_7 := Lib.hid (FO6.out.below hbW6)
      have HBW_7 := Lib.hid (bT HBW_6.out hbW6)
      clear hbW6
      have ct0_7 := cell_of_row W6 w.heap.size 0 _ _ _ Yt_7.out
      have ct1_7 := cell_of_row W6 w.heap.size 1 _ _ _ Yt_7.out
      have ct2_7 := cell_of_row W6 w.heap.size 2 _ _ _ Yt_7.out
      have cx0_7 := cell_of_row W6 w0.heap.size 0 _ _ _ Yx_7.out
      have cx1_7 := cell_of_row W6 w0.heap.size 1 _ _ _ Yx_7.out
      have cx2_7 := cell_of_row W6 w0.heap.size 2 _ _ _ Yx_7.out
      have cx3_7 := cell_of_row W6 w0.heap.size 3 _ _ _ Yx_7.out
      simp only [List.getElem?_toArray, List.getElem?_cons_zero, List.getElem?_cons_succ] at ct0_7 ct1_7 ct2_7 cx0_7 cx1_7 cx2_7 cx3_7
      have lt_7 := rowLt Yt_7.out
      have lx_7 := rowLt Yx_7.out
      clear ct0_7 ct1_7 ct2_7 cx0_7 cx1_7 cx2_7 cx3_7 lt_7 lx_7
      have ct0_7 := cell_of_row W6 w.heap.size 0 _ _ _ Yt_7.out
      have ct1_7 := cell_of_row W6 w.heap.size 1 _ _ _ Yt_7.out
      have ct2_7 := cell_of_row W6 w.heap.size 2 _ _ _ Yt_7.out
      have cx0_7 := cell_of_row W6 w0.heap.size 0 _ _ _ Yx_7.out
      have cx1_7 := cell_of_row W6 w0.heap.size 1 _ _ _ Yx_7.out
      have cx2_7 := cell_of_row W6 w0.heap.size 2 _ _ _ Yx_7.out
      have cx3_7 := cell_of_row W6 w0.heap.size 3 _ _ _ Yx_7.out
      have co0_7 := cell_of_row W6 w6.heap.size 0 _ _ _ YW6.out
      have co1_7 := cell_of_row W6 w6.heap.size 1 _ _ _ YW6.out
      have co2_7 := cell_of_row W6 w6.heap.size 2 _ _ _ YW6.out
      simp only [List.getElem?_toArray, List.getElem?_cons_zero, List.getElem?_cons_succ] at ct0_7 ct1_7 ct2_7 cx0_7 cx1_7 cx2_7 cx3_7 co0_7 co1_7 co2_7
      have lt_7 := rowLt Yt_7.out
      have lx_7 := rowLt Yx_7.out
      have lo_7 := rowLt YW6.out
      go_wp2_with fail
      clear ct0_7 ct1_7 ct2_7 cx0_7 cx1_7 cx2_7 cx3_7 co0_7 co1_7 co2_7 lt_7 lx_7 lo_7
      go_loopw [9] (fun i ws => ∃ k : Nat, i = .int .i64 k ∧ k ≤ T.s.length ∧ ws.ownsRow (wr.heap.size + 2) 62 3 (.slice p' T.s.length c') T.s.length (flatS (dk T.s y k)) ∧ ws.ownsRow (wr.heap.size + 2) 58 4 (.slice q' T.r.length d') T.r.length (flatR T.r) ∧ ws.heap[w6.heap.size]? = some (.cells #[.int .i64 T.W, .slice p' T.s.length c', .slice q' T.r.length d'] 25 (0, 0)) ∧ Below wr.heap.size wr ws) (fun i _ => T.s.length - (intOf i).toNat)
      case atStart => exact ⟨0, rfl, Nat.zero_le _, by rw [dk_zero]; exact FO_7.out.s, FO_7.out.r, YW6.out, bT HV6.out HBXW6.out⟩
      case round =>
        obtain ⟨k, rfl, hk, hos, hor, hro, hbs⟩ := hrel
        rename World => ws
        have HOS := Lib.hid hos; have HOR := Lib.hid hor; have Yo2 := Lib.hid hro; have HBS := Lib.hid hbs
        clear hos hor hro
        have Yt_21 := Lib.hid ((hbs.block _ (rowLt Yt_5.out)).trans Yt_5.out)
        have Yx_21 := Lib.hid ((hbs.block _ (rowLt Yx_5.out)).trans Yx_5.out)
        have FT_21 := Lib.hid (FT_5.out.bel hbs)
        have FS_21 := Lib.hid (FS_5.out.below hbs)
        have HBW_21 := Lib.hid (bT HBW_5.out hbs)
        clear hbs
        have ct0_21 := cell_of_row ws w.heap.size 0 _ _ _ Yt_21.out
        have ct1_21 := cell_of_row ws w.heap.size 1 _ _ _ Yt_21.out
        have ct2_21 := cell_of_row ws w.heap.size 2 _ _ _ Yt_21.out
        have cx0_21 := cell_of_row ws w0.heap.size 0 _ _ _ Yx_21.out
        have cx1_21 := cell_of_row ws w0.heap.size 1 _ _ _ Yx_21.out
        have cx2_21 := cell_of_row ws w0.heap.size 2 _ _ _ Yx_21.out
        have cx3_21 := cell_of_row ws w0.heap.size 3 _ _ _ Yx_21.out
        simp only [List.getElem?_toArray, List.getElem?_cons_zero, List.getElem?_cons_succ] at ct0_21 ct1_21 ct2_21 cx0_21 cx1_21 cx2_21 cx3_21
        have lt_21 := rowLt Yt_21.out
        have lx_21 := rowLt Yx_21.out
        clear ct0_21 ct1_21 ct2_21 cx0_21 cx1_21 cx2_21 cx3_21 lt_21 lx_21
        have ct0_21 := cell_of_row ws w.heap.size 0 _ _ _ Yt_21.out
        have ct1_21 := cell_of_row ws w.heap.size 1 _ _ _ Yt_21.out
        have ct2_21 := cell_of_row ws w.heap.size 2 _ _ _ Yt_21.out
        have cx0_21 := cell_of_row ws w0.heap.size 0 _ _ _ Yx_21.out
        have cx1_21 := cell_of_row ws w0.heap.size 1 _ _ _ Yx_21.out
        have cx2_21 := cell_of_row ws w0.heap.size 2 _ _ _ Yx_21.out
        have cx3_21 := cell_of_row ws w0.heap.size 3 _ _ _ Yx_21.out
        have co0_21 := cell_of_row ws w6.heap.size 0 _ _ _ Yo2.out
        have co1_21 := cell_of_row ws w6.heap.size 1 _ _ _ Yo2.out
        have co2_21 := cell_of_row ws w6.heap.size 2 _ _ _ Yo2.out
        simp only [List.getElem?_toArray, List.getElem?_cons_zero, List.getElem?_cons_succ] at ct0_21 ct1_21 ct2_21 cx0_21 cx1_21 cx2_21 cx3_21 co0_21 co1_21 co2_21
        have lt_21 := rowLt Yt_21.out
        have lx_21 := rowLt Yx_21.out
        have lo_21 := rowLt Yo2.out
        by_cases hlt : k < T.s.length
        · obtain ⟨b', o', rfl, hbl, hsn⟩ := FT_21.out.s (by omega)
          have e0 := hsn.c0 k hlt
          have e1 := hsn.c1 k hlt
          have e2 := hsn.c2 k hlt
          clear hsn
          have ho := ok_sOk HOK.out (List.getElem_mem hlt)
          obtain ⟨x0, hx0⟩ : ∃ z, T.s[k].well = z := ⟨_, rfl⟩
          obtain ⟨x1, hx1⟩ : ∃ z, T.s[k].low = z := ⟨_, rfl⟩
          obtain ⟨x2, hx2⟩ : ∃ z, T.s[k].high = z := ⟨_, rfl⟩
          rw [hx0] at e0 ho
          rw [hx1] at e1 ho
          rw [hx2] at e2 ho
          have HX := Lib.hid (show deepS y T.s[k] = ⟨x0, x1 + y, x2 + y⟩ by simp only [deepS, hx0, hx1, hx2])
          obtain ⟨g, rfl, hbg, hlg⟩ := own_ptr HOS.out (by omega)
          have f := flatS_at (dk T.s y k) k (by rw [dk_len]; exact hlt)
          have j0 := (HOS.out.cellAt (k * 3) (by omega)).trans f.1
          have j1 := (HOS.out.cellAt (k * 3 + 1) (by omega)).trans f.2.1
          have j2 := (HOS.out.cellAt (k * 3 + 2) (by omega)).trans f.2.2
          have jf := HOS.out.frozenAt
          clear f hx0 hx1 hx2
          go_wp2_with fail
          go_roundw
          case rel =>
            obtain ⟨wz, hwz, o1, gr, bl⟩ := own_snd_set HOS.out (dk_len _ _ _) k hlt x0 (x1 + y) (x2 + y)
            rw [hwz]
            refine ⟨k + 1, by go_num, hlt, ?_, (HOR.out.kept gr (own_ne HOR.out HOS.out (by decide))).alloc _, ?_, bA (bl wr (by omega) HBS.out) _⟩
            · rw [dk_succ _ _ _ hlt, HX.out]
              exact o1.alloc _
            · exact (Below.heap_alloc _ _ _ (Nat.lt_of_lt_of_le (rowLt Yo2.out) gr.size)).trans ((gr.block _ (rowLt Yo2.out) (own_ne_box HOS.out Yo2.out (by decide))).trans Yo2.out)
          case measure => simp [intOf]; omega
        · obtain rfl : k = T.s.length := by omega
          clear hlt hk
          have hTD : TownIn ws ws.heap.size (T.deep y) p' q' := by rw [deep_eq]; exact ⟨sndAt_own (by rw [dk_len]; exact HOS.out), slpAt_own HOR.out⟩
          have FD := Lib.hid hTD
          clear hTD
          have hq := HRD.out ws p' q' c' d' FD.out
          cases hr2 : rdy (T.deep y) with
          | false =>
            rw [hr2] at hq
            have HQ := Lib.hid hq
            clear hq hr2
            go_wp2_with fail
            refine (HQ.out).mono ?_
            rintro e w7 ⟨rfl, hw7⟩
            clear ct0_21 ct1_21 ct2_21 cx0_21 cx1_21 cx2_21 cx3_21 co0_21 co1_21 co2_21 lt_21 lx_21 lo_21
            have Yt_22 := Lib.hid ((hw7.block _ (rowLt Yt_21.out)).trans Yt_21.out)
            have Yx_22 := Lib.hid ((hw7.block _ (rowLt Yx_21.out)).trans Yx_21.out)
            have Yo_22 := Lib.hid ((hw7.block _ (rowLt Yo2.out)).trans Yo2.out)
            have FT_22 := Lib.hid (FT_21.out.bel hw7)
            have FS_22 := Lib.hid (FS_21.out.below hw7)
            have FD_22 := Lib.hid (FD.out.bel hw7)
            have HBW_22 := Lib.hid (bT HBW_21.out hw7)
            clear hw7
            have ct0_22 := cell_of_row w7 w.heap.size 0 _ _ _ Yt_22.out
            have ct1_22 := cell_of_row w7 w.heap.size 1 _ _ _ Yt_22.out
            have ct2_22 := cell_of_row w7 w.heap.size 2 _ _ _ Yt_22.out
            have cx0_22 := cell_of_row w7 w0.heap.size 0 _ _ _ Yx_22.out
            have cx1_22 := cell_of_row w7 w0.heap.size 1 _ _ _ Yx_22.out
            have cx2_22 := cell_of_row w7 w0.heap.size 2 _ _ _ Yx_22.out
            have cx3_22 := cell_of_row w7 w0.heap.size 3 _ _ _ Yx_22.out
            have co0_22 := cell_of_row w7 w6.heap.size 0 _ _ _ Yo_22.out
            have co1_22 := cell_of_row w7 w6.heap.size 1 _ _ _ Yo_22.out
            have co2_22 := cell_of_row w7 w6.heap.size 2 _ _ _ Yo_22.out
            simp only [List.getElem?_toArray, List.getElem?_cons_zero, List.getElem?_cons_succ] at ct0_22 ct1_22 ct2_22 cx0_22 cx1_22 cx2_22 cx3_22 co0_22 co1_22 co2_22
            have lt_22 := rowLt Yt_22.out
            have lx_22 := rowLt Yx_22.out
            have lo_22 := rowLt Yo_22.out
            go_wp2_with fail
            refine (works_ex _).mono ?_
            rintro e w8 ⟨rfl, hw8⟩
            clear ct0_22 ct1_22 ct2_22 cx0_22 cx1_22 cx2_22 cx3_22 co0_22 co1_22 co2_22 lt_22 lx_22 lo_22
            have Yt_23 := Lib.hid ((hw8.block _ (rowLt Yt_22.out)).trans Yt_22.out)
            have Yx_23 := Lib.hid ((hw8.block _ (rowLt Yx_22.out)).trans Yx_22.out)
            have Yo_23 := Lib.hid ((hw8.block _ (rowLt Yo_22.out)).trans Yo_22.out)
            have FT_23 := Lib.hid (FT_22.out.bel hw8)
            have FS_23 := Lib.hid (FS_22.out.below hw8)
            have FD_23 := Lib.hid (FD_22.out.bel hw8)
            have HBW_23 := Lib.hid (bT HBW_22.out hw8)
            clear hw8
            have ct0_23 := cell_of_row w8 w.heap.size 0 _ _ _ Yt_23.out
            have ct1_23 := cell_of_row w8 w.heap.size 1 _ _ _ Yt_23.out
            have ct2_23 := cell_of_row w8 w.heap.size 2 _ _ _ Yt_23.out
            have cx0_23 := cell_of_row w8 w0.heap.size 0 _ _ _ Yx_23.out
            have cx1_23 := cell_of_row w8 w0.heap.size 1 _ _ _ Yx_23.out
            have cx2_23 := cell_of_row w8 w0.heap.size 2 _ _ _ Yx_23.out
            have cx3_23 := cell_of_row w8 w0.heap.size 3 _ _ _ Yx_23.out
            have co0_23 := cell_of_row w8 w6.heap.size 0 _ _ _ Yo_23.out
            have co1_23 := cell_of_row w8 w6.heap.size 1 _ _ _ Yo_23.out
            have co2_23 := cell_of_row w8 w6.heap.size 2 _ _ _ Yo_23.out
            simp only [List.getElem?_toArray, List.getElem?_cons_zero, List.getElem?_cons_succ] at ct0_23 ct1_23 ct2_23 cx0_23 cx1_23 cx2_23 cx3_23 co0_23 co1_23 co2_23
            have lt_23 := rowLt Yt_23.out
            have lx_23 := rowLt Yx_23.out
            have lo_23 := rowLt Yo_23.out
            go_wp2_with fail
            go_ret
            exact ⟨rfl, (by repeat (first | exact HBW_23.out | refine bA ?_ _ | refine bd ?_ | refine bD ?_ _))⟩
          | true =>
            rw [hr2] at hq
            obtain ⟨N, hN, hNN⟩ := deep_kn HOK.out (rdy_ok hr2).1 HK.out HN.out (deep_strict HMC.out hn6 (by rw [HLE.out]; exact HST.out))
            have hcn := kn_clo (rdy_ok hr2).1 hN
            have he2 : ∀ (V : World) (p q : Option Addr) (c d : Nat), TownIn V V.heap.size (T.deep y) p q → Calls Try.prog 47 #[.agg #[.int .i64 T.W, .slice p T.s.length c, .slice q T.r.length d]] V fun e w' => ∃ p1 c1 p2 c2, e = .returned (.tuple #[.slice p1 n c1, .slice p2 n c2, .bool true, .bool true]) ∧ Ints w' p1 (lows N n) ∧ Ints w' p2 (highs N n) ∧ Below V.heap.size V w' := fun V p q c d h => by
              have := ends_some (T.deep y) N n p q c d V (rdy_ok hr2).1 hN HN.out h
              rw [show (T.deep y).s.length = T.s.length by simp [Town.deep]] at this
              exact this
            obtain ⟨X0, hX0⟩ : ∃ z, -D M (v + 1) (u + 1) = z := ⟨_, rfl⟩
            obtain ⟨X1, hX1⟩ : ∃ z, D M (u + 1) (v + 1) = z := ⟨_, rfl⟩
            have hd1 : ∀ (V : World) (p q : Option Addr) (c d : Nat), TownIn V V.heap.size T p q → Calls Try.prog 33 #[.agg #[.int .i64 T.W, .slice p T.s.length c, .slice q T.r.length d], .int .i64 a, .int .i64 b] V fun e w' => e = .returned (.tuple #[.agg #[.int .i64 X0, .int .i64 X1], .int .i64 0]) ∧ Below V.heap.size V w' := fun V p q c d h => by
              have := differ_ok T M u v p q c d V HOK.out HK.out HUV.out.1 HUV.out.2.1 h
              rw [dif_eq HMC.out (by have := HUV.out; omega) (by have := HUV.out; omega), hX0, hX1] at this
              rw [HUV.out.2.2.1, HUV.out.2.2.2]; exact this
            have hd2 : ∀ (V : World) (p q : Option Addr) (c d : Nat), TownIn V V.heap.size (T.deep y) p q → Calls Try.prog 33 #[.agg #[.int .i64 T.W, .slice p T.s.length c, .slice q T.r.length d], .int .i64 a, .int .i64 b] V fun e w' => e = .returned (.tuple #[.agg #[.int .i64 X0, .int .i64 X1], .int .i64 0]) ∧ Below V.heap.size V w' := fun V p q c d h => by
              have := differ_ok (T.deep y) N u v p q c d V (rdy_ok hr2).1 hN HUV.out.1 HUV.out.2.1 h
              have hu := HUV.out.1; have hv := HUV.out.2.1; have hnn := HN.out
              rw [dif_eq hcn (by omega) (by omega), (hNN v (by omega)).2.2 u (by omega), (hNN u (by omega)).2.2 v (by omega), hX0, hX1, show (T.deep y).s.length = T.s.length by simp [Town.deep]] at this
              rw [HUV.out.2.2.1, HUV.out.2.2.2]; exact this
            have hlo : ∀ j, j < n → (lows N n)[j]?.getD 0 = (lows M n)[j]?.getD 0 + y ∧ (highs N n)[j]?.getD 0 = (highs M n)[j]?.getD 0 + y ∧ -99 ≤ (lows M n)[j]?.getD 0 ∧ (lows M n)[j]?.getD 0 ≤ 99 ∧ -99 ≤ (highs M n)[j]?.getD 0 ∧ (highs M n)[j]?.getD 0 ≤ 99 := fun j hj => by
              rw [low_nth hcn hn6 hj, low_nth HMC.out hn6 hj, high_nth hcn hn6 hj, high_nth HMC.out hn6 hj]
              have g := hNN j hj
              have a1 := HMC.out.ge (p := j + 1) (q := 0) (by omega) (by omega)
              have a2 := HMC.out.le (j + 1) 0 (by omega) (by omega)
              have a3 := HMC.out.ge (p := 0) (q := j + 1) (by omega) (by omega)
              have a4 := HMC.out.le 0 (j + 1) (by omega) (by omega)
              omega
            have HQ := Lib.hid hq; have HE2 := Lib.hid he2; have HD1 := Lib.hid hd1; have HD2 := Lib.hid hd2; have HLO := Lib.hid hlo
            clear hq hr2 he2 hd1 hd2 hlo hN hNN hcn hX0 hX1
            go_wp2_with fail
            refine (HQ.out).mono ?_
            rintro e w7 ⟨rfl, hw7⟩
            clear ct0_21 ct1_21 ct2_21 cx0_21 cx1_21 cx2_21 cx3_21 co0_21 co1_21 co2_21 lt_21 lx_21 lo_21
            have Yt_22 := Lib.hid ((hw7.block _ (rowLt Yt_21.out)).trans Yt_21.out)
            have Yx_22 := Lib.hid ((hw7.block _ (rowLt Yx_21.out)).trans Yx_21.out)
            have Yo_22 := Lib.hid ((hw7.block _ (rowLt Yo2.out)).trans Yo2.out)
            have FT_22 := Lib.hid (FT_21.out.bel hw7)
            have FS_22 := Lib.hid (FS_21.out.below hw7)
            have FD_22 := Lib.hid (FD.out.bel hw7)
            have HBW_22 := Lib.hid (bT HBW_21.out hw7)
            clear hw7
            have ct0_22 := cell_of_row w7 w.heap.size 0 _ _ _ Yt_22.out
            have ct1_22 := cell_of_row w7 w.heap.size 1 _ _ _ Yt_22.out
            have ct2_22 := cell_of_row w7 w.heap.size 2 _ _ _ Yt_22.out
            have cx0_22 := cell_of_row w7 w0.heap.size 0 _ _ _ Yx_22.out
            have cx1_22 := cell_of_row w7 w0.heap.size 1 _ _ _ Yx_22.out
            have cx2_22 := cell_of_row w7 w0.heap.size 2 _ _ _ Yx_22.out
            have cx3_22 := cell_of_row w7 w0.heap.size 3 _ _ _ Yx_22.out
            have co0_22 := cell_of_row w7 w6.heap.size 0 _ _ _ Yo_22.out
            have co1_22 := cell_of_row w7 w6.heap.size 1 _ _ _ Yo_22.out
            have co2_22 := cell_of_row w7 w6.heap.size 2 _ _ _ Yo_22.out
            simp only [List.getElem?_toArray, List.getElem?_cons_zero, List.getElem?_cons_succ] at ct0_22 ct1_22 ct2_22 cx0_22 cx1_22 cx2_22 cx3_22 co0_22 co1_22 co2_22
            have lt_22 := rowLt Yt_22.out
            have lx_22 := rowLt Yx_22.out
            have lo_22 := rowLt Yo_22.out
            go_wp2_with fail
            refine (HE1.out _ _ _ _ _ FT_22.out).mono ?_
            rintro e w8 ⟨p1, c1, p2, c2, rfl, hi1, hi2, hw8⟩
            clear ct0_22 ct1_22 ct2_22 cx0_22 cx1_22 cx2_22 cx3_22 co0_22 co1_22 co2_22 lt_22 lx_22 lo_22
            have Yt_23 := Lib.hid ((hw8.block _ (rowLt Yt_22.out)).trans Yt_22.out)
            have Yx_23 := Lib.hid ((hw8.block _ (rowLt Yx_22.out)).trans Yx_22.out)
            have Yo_23 := Lib.hid ((hw8.block _ (rowLt Yo_22.out)).trans Yo_22.out)
            have FT_23 := Lib.hid (FT_22.out.bel hw8)
            have FS_23 := Lib.hid (FS_22.out.below hw8)
            have FD_23 := Lib.hid (FD_22.out.bel hw8)
            have HBW_23 := Lib.hid (bT HBW_22.out hw8)
            clear hw8
            have ct0_23 := cell_of_row w8 w.heap.size 0 _ _ _ Yt_23.out
            have ct1_23 := cell_of_row w8 w.heap.size 1 _ _ _ Yt_23.out
            have ct2_23 := cell_of_row w8 w.heap.size 2 _ _ _ Yt_23.out
            have cx0_23 := cell_of_row w8 w0.heap.size 0 _ _ _ Yx_23.out
            have cx1_23 := cell_of_row w8 w0.heap.size 1 _ _ _ Yx_23.out
            have cx2_23 := cell_of_row w8 w0.heap.size 2 _ _ _ Yx_23.out
            have cx3_23 := cell_of_row w8 w0.heap.size 3 _ _ _ Yx_23.out
            have co0_23 := cell_of_row w8 w6.heap.size 0 _ _ _ Yo_23.out
            have co1_23 := cell_of_row w8 w6.heap.size 1 _ _ _ Yo_23.out
            have co2_23 := cell_of_row w8 w6.heap.size 2 _ _ _ Yo_23.out
            simp only [List.getElem?_toArray, List.getElem?_cons_zero, List.getElem?_cons_succ] at ct0_23 ct1_23 ct2_23 cx0_23 cx1_23 cx2_23 cx3_23 co0_23 co1_23 co2_23
            have lt_23 := rowLt Yt_23.out
            have lx_23 := rowLt Yx_23.out
            have lo_23 := rowLt Yo_23.out
            have FA8 := Lib.hid hi1
            clear hi1
            have FB8 := Lib.hid hi2
            clear hi2
            go_wp2_with fail
            refine (HE2.out _ _ _ _ _ FD_23.out).mono ?_
            rintro e w9 ⟨p3, c3, p4, c4, rfl, hi3, hi4, hw9⟩
            clear ct0_23 ct1_23 ct2_23 cx0_23 cx1_23 cx2_23 cx3_23 co0_23 co1_23 co2_23 lt_23 lx_23 lo_23
            have Yt_24 := Lib.hid ((hw9.block _ (rowLt Yt_23.out)).trans Yt_23.out)
            have Yx_24 := Lib.hid ((hw9.block _ (rowLt Yx_23.out)).trans Yx_23.out)
            have Yo_24 := Lib.hid ((hw9.block _ (rowLt Yo_23.out)).trans Yo_23.out)
            have FT_24 := Lib.hid (FT_23.out.bel hw9)
            have FS_24 := Lib.hid (FS_23.out.below hw9)
            have FD_24 := Lib.hid (FD_23.out.bel hw9)
            have Fa_24 := Lib.hid (FA8.out.below hw9)
            have Fb_24 := Lib.hid (FB8.out.below hw9)
            have HBW_24 := Lib.hid (bT HBW_23.out hw9)
            clear hw9
            have ct0_24 := cell_of_row w9 w.heap.size 0 _ _ _ Yt_24.out
            have ct1_24 := cell_of_row w9 w.heap.size 1 _ _ _ Yt_24.out
            have ct2_24 := cell_of_row w9 w.heap.size 2 _ _ _ Yt_24.out
            have cx0_24 := cell_of_row w9 w0.heap.size 0 _ _ _ Yx_24.out
            have cx1_24 := cell_of_row w9 w0.heap.size 1 _ _ _ Yx_24.out
            have cx2_24 := cell_of_row w9 w0.heap.size 2 _ _ _ Yx_24.out
            have cx3_24 := cell_of_row w9 w0.heap.size 3 _ _ _ Yx_24.out
            have co0_24 := cell_of_row w9 w6.heap.size 0 _ _ _ Yo_24.out
            have co1_24 := cell_of_row w9 w6.heap.size 1 _ _ _ Yo_24.out
            have co2_24 := cell_of_row w9 w6.heap.size 2 _ _ _ Yo_24.out
            simp only [List.getElem?_toArray, List.getElem?_cons_zero, List.getElem?_cons_succ] at ct0_24 ct1_24 ct2_24 cx0_24 cx1_24 cx2_24 cx3_24 co0_24 co1_24 co2_24
            have lt_24 := rowLt Yt_24.out
            have lx_24 := rowLt Yx_24.out
            have lo_24 := rowLt Yo_24.out
            have FC9 := Lib.hid hi3
            clear hi3
            have FD9 := Lib.hid hi4
            clear hi4
            go_wp2_with fail
            clear ct0_24 ct1_24 ct2_24 cx0_24 cx1_24 cx2_24 cx3_24 co0_24 co1_24 co2_24 lt_24 lx_24 lo_24
            go_loopw [19] (fun i wq => ∃ j : Nat, i = .int .i64 j ∧ j ≤ n ∧ Below w9.heap.size w9 wq) (fun i _ => n - (intOf i).toNat)
            case atStart => exact ⟨0, rfl, Nat.zero_le _, Below.refl _ _⟩
            case round =>
              obtain ⟨j, rfl, hj, hbq⟩ := hrel
              rename World => wq
              have HBQ := Lib.hid hbq
              have Yt_25 := Lib.hid ((hbq.block _ (rowLt Yt_24.out)).trans Yt_24.out)
              have Yx_25 := Lib.hid ((hbq.block _ (rowLt Yx_24.out)).trans Yx_24.out)
              have Yo_25 := Lib.hid ((hbq.block _ (rowLt Yo_24.out)).trans Yo_24.out)
              have FT_25 := Lib.hid (FT_24.out.bel hbq)
              have FS_25 := Lib.hid (FS_24.out.below hbq)
              have FD_25 := Lib.hid (FD_24.out.bel hbq)
              have Fa_25 := Lib.hid (Fa_24.out.below hbq)
              have Fb_25 := Lib.hid (Fb_24.out.below hbq)
              have Fc_25 := Lib.hid (FC9.out.below hbq)
              have Fd_25 := Lib.hid (FD9.out.below hbq)
              have HBW_25 := Lib.hid (bT HBW_24.out hbq)
              clear hbq
              have ct0_25 := cell_of_row wq w.heap.size 0 _ _ _ Yt_25.out
              have ct1_25 := cell_of_row wq w.heap.size 1 _ _ _ Yt_25.out
              have ct2_25 := cell_of_row wq w.heap.size 2 _ _ _ Yt_25.out
              have cx0_25 := cell_of_row wq w0.heap.size 0 _ _ _ Yx_25.out
              have cx1_25 := cell_of_row wq w0.heap.size 1 _ _ _ Yx_25.out
              have cx2_25 := cell_of_row wq w0.heap.size 2 _ _ _ Yx_25.out
              have cx3_25 := cell_of_row wq w0.heap.size 3 _ _ _ Yx_25.out
              have co0_25 := cell_of_row wq w6.heap.size 0 _ _ _ Yo_25.out
              have co1_25 := cell_of_row wq w6.heap.size 1 _ _ _ Yo_25.out
              have co2_25 := cell_of_row wq w6.heap.size 2 _ _ _ Yo_25.out
              simp only [List.getElem?_toArray, List.getElem?_cons_zero, List.getElem?_cons_succ] at ct0_25 ct1_25 ct2_25 cx0_25 cx1_25 cx2_25 cx3_25 co0_25 co1_25 co2_25
              have lt_25 := rowLt Yt_25.out
              have lx_25 := rowLt Yx_25.out
              have lo_25 := rowLt Yo_25.out
              by_cases hlt : j < n
              · have gg : decide ((j : Int) < T.W) = true := decide_eq_true (by have := HN.out; omega)
                obtain ⟨b1, o1, rfl, hi1⟩ := Fa_25.out (by rw [lows_len]; omega)
                obtain ⟨b2, o2, rfl, hi2⟩ := Fb_25.out (by rw [highs_len]; omega)
                obtain ⟨b3, o3, rfl, hi3⟩ := Fc_25.out (by rw [lows_len]; omega)
                obtain ⟨b4, o4, rfl, hi4⟩ := Fd_25.out (by rw [highs_len]; omega)
                have e1 := hi1.cell j (by rw [lows_len]; exact hlt)
                have e2 := hi2.cell j (by rw [highs_len]; exact hlt)
                have e3 := hi3.cell j (by rw [lows_len]; exact hlt)
                have e4 := hi4.cell j (by rw [highs_len]; exact hlt)
                obtain ⟨z1, z2, z3, z4, z5, z6⟩ := HLO.out j hlt
                rw [z1] at e3
                rw [z2] at e4
                obtain ⟨A1, hA1⟩ : ∃ z, (lows M n)[j]?.getD 0 = z := ⟨_, rfl⟩
                obtain ⟨A2, hA2⟩ : ∃ z, (highs M n)[j]?.getD 0 = z := ⟨_, rfl⟩
                rw [hA1] at e1 e3 z3 z4
                rw [hA2] at e2 e4 z5 z6
                have r1 := hi1.lt; have r2 := hi2.lt; have r3 := hi3.lt; have r4 := hi4.lt
                have k0i : (0 : Int) ≤ (j : Int) := by omega
                have k1i : (j : Int) < (n : Int) := by omega
                have v1 : IntKind.i64.wrap (A1 + y) = A1 + y := IntWalk.i64_in _ (by omega)
                have v2 : IntKind.i64.wrap (A2 + y) = A2 + y := IntWalk.i64_in _ (by omega)
                clear hi1 hi2 hi3 hi4 z1 z2 hA1 hA2
                go_wp2_with fail
                go_quiet (fail)
                go_wp2_with fail
                go_roundw
                case rel => exact ⟨j + 1, by go_num, hlt, by repeat (first | exact HBQ.out | refine bD ?_ _ | refine bd ?_)⟩
                case measure => simp [intOf]; omega
              · have gg : decide ((j : Int) < T.W) = false := decide_eq_false (by have := HN.out; omega)
                clear hlt hj
                go_wp2_with fail
                refine (HD1.out _ _ _ _ _ FT_25.out).mono ?_
                rintro e w10 ⟨rfl, hw10⟩
                clear ct0_25 ct1_25 ct2_25 cx0_25 cx1_25 cx2_25 cx3_25 co0_25 co1_25 co2_25 lt_25 lx_25 lo_25
                have Yt_26 := Lib.hid ((hw10.block _ (rowLt Yt_25.out)).trans Yt_25.out)
                have Yx_26 := Lib.hid ((hw10.block _ (rowLt Yx_25.out)).trans Yx_25.out)
                have Yo_26 := Lib.hid ((hw10.block _ (rowLt Yo_25.out)).trans Yo_25.out)
                have FT_26 := Lib.hid (FT_25.out.bel hw10)
                have FS_26 := Lib.hid (FS_25.out.below hw10)
                have FD_26 := Lib.hid (FD_25.out.bel hw10)
                have Fa_26 := Lib.hid (Fa_25.out.below hw10)
                have Fb_26 := Lib.hid (Fb_25.out.below hw10)
                have Fc_26 := Lib.hid (Fc_25.out.below hw10)
                have Fd_26 := Lib.hid (Fd_25.out.below hw10)
                have HBW_26 := Lib.hid (bT HBW_25.out hw10)
                clear hw10
                have ct0_26 := cell_of_row w10 w.heap.size 0 _ _ _ Yt_26.out
                have ct1_26 := cell_of_row w10 w.heap.size 1 _ _ _ Yt_26.out
                have ct2_26 := cell_of_row w10 w.heap.size 2 _ _ _ Yt_26.out
                have cx0_26 := cell_of_row w10 w0.heap.size 0 _ _ _ Yx_26.out
                have cx1_26 := cell_of_row w10 w0.heap.size 1 _ _ _ Yx_26.out
                have cx2_26 := cell_of_row w10 w0.heap.size 2 _ _ _ Yx_26.out
                have cx3_26 := cell_of_row w10 w0.heap.size 3 _ _ _ Yx_26.out
                have co0_26 := cell_of_row w10 w6.heap.size 0 _ _ _ Yo_26.out
                have co1_26 := cell_of_row w10 w6.heap.size 1 _ _ _ Yo_26.out
                have co2_26 := cell_of_row w10 w6.heap.size 2 _ _ _ Yo_26.out
                simp only [List.getElem?_toArray, List.getElem?_cons_zero, List.getElem?_cons_succ] at ct0_26 ct1_26 ct2_26 cx0_26 cx1_26 cx2_26 cx3_26 co0_26 co1_26 co2_26
                have lt_26 := rowLt Yt_26.out
                have lx_26 := rowLt Yx_26.out
                have lo_26 := rowLt Yo_26.out
                go_wp2_with fail
                obtain ⟨W10, hW10⟩ : ∃ W10, w10.alloc (Obj.cells #[.int .i64 X0, .int .i64 X1] 38) = W10 := ⟨_, rfl⟩
                rw [hW10]
                have hbW10 : Below w10.heap.size w10 W10 := by rw [← hW10]; exact bA (Below.refl _ _) _
                have yW10 : W10.heap[w10.heap.size]? = some (.cells #[.int .i64 X0, .int .i64 X1] 38 (0, 0)) := by rw [← hW10]; exact heap_alloc_new _ _
                have YW10 := Lib.hid yW10
                have HBXW10 := Lib.hid hbW10
                clear hW10 yW10
                clear ct0_26 ct1_26 ct2_26 cx0_26 cx1_26 cx2_26 cx3_26 co0_26 co1_26 co2_26 lt_26 lx_26 lo_26
                have Yt_27 := Lib.hid ((hbW10.block _ (rowLt Yt_26.out)).trans Yt_26.out)
                have Yx_27 := Lib.hid ((hbW10.block _ (rowLt Yx_26.out)).trans Yx_26.out)
                have Yo_27 := Lib.hid ((hbW10.block _ (rowLt Yo_26.out)).trans Yo_26.out)
                have FT_27 := Lib.hid (FT_26.out.bel hbW10)
                have FS_27 := Lib.hid (FS_26.out.below hbW10)
                have FD_27 := Lib.hid (FD_26.out.bel hbW10)
                have Fa_27 := Lib.hid (Fa_26.out.below hbW10)
                have Fb_27 := Lib.hid (Fb_26.out.below hbW10)
                have Fc_27 := Lib.hid (Fc_26.out.below hbW10)
                have Fd_27 := Lib.hid (Fd_26.out.below hbW10)
                have HBW_27 := Lib.hid (bT HBW_26.out hbW10)
                clear hbW10
                have ct0_27 := cell_of_row W10 w.heap.size 0 _ _ _ Yt_27.out
                have ct1_27 := cell_of_row W10 w.heap.size 1 _ _ _ Yt_27.out
                have ct2_27 := cell_of_row W10 w.heap.size 2 _ _ _ Yt_27.out
                have cx0_27 := cell_of_row W10 w0.heap.size 0 _ _ _ Yx_27.out
                have cx1_27 := cell_of_row W10 w0.heap.size 1 _ _ _ Yx_27.out
                have cx2_27 := cell_of_row W10 w0.heap.size 2 _ _ _ Yx_27.out
                have cx3_27 := cell_of_row W10 w0.heap.size 3 _ _ _ Yx_27.out
                have co0_27 := cell_of_row W10 w6.heap.size 0 _ _ _ Yo_27.out
                have co1_27 := cell_of_row W10 w6.heap.size 1 _ _ _ Yo_27.out
                have co2_27 := cell_of_row W10 w6.heap.size 2 _ _ _ Yo_27.out
                simp only [List.getElem?_toArray, List.getElem?_cons_zero, List.getElem?_cons_succ] at ct0_27 ct1_27 ct2_27 cx0_27 cx1_27 cx2_27 cx3_27 co0_27 co1_27 co2_27
                have lt_27 := rowLt Yt_27.out
                have lx_27 := rowLt Yx_27.out
                have lo_27 := rowLt Yo_27.out
                clear ct0_27 ct1_27 ct2_27 cx0_27 cx1_27 cx2_27 cx3_27 co0_27 co1_27 co2_27 lt_27 lx_27 lo_27
                have ct0_27 := cell_of_row W10 w.heap.size 0 _ _ _ Yt_27.out
                have ct1_27 := cell_of_row W10 w.heap.size 1 _ _ _ Yt_27.out
                have ct2_27 := cell_of_row W10 w.heap.size 2 _ _ _ Yt_27.out
                have cx0_27 := cell_of_row W10 w0.heap.size 0 _ _ _ Yx_27.out
                have cx1_27 := cell_of_row W10 w0.heap.size 1 _ _ _ Yx_27.out
                have cx2_27 := cell_of_row W10 w0.heap.size 2 _ _ _ Yx_27.out
                have cx3_27 := cell_of_row W10 w0.heap.size 3 _ _ _ Yx_27.out
                have co0_27 := cell_of_row W10 w6.heap.size 0 _ _ _ Yo_27.out
                have co1_27 := cell_of_row W10 w6.heap.size 1 _ _ _ Yo_27.out
                have co2_27 := cell_of_row W10 w6.heap.size 2 _ _ _ Yo_27.out
                have cs0_27 := cell_of_row W10 w10.heap.size 0 _ _ _ YW10.out
                have cs1_27 := cell_of_row W10 w10.heap.size 1 _ _ _ YW10.out
                simp only [List.getElem?_toArray, List.getElem?_cons_zero, List.getElem?_cons_succ] at ct0_27 ct1_27 ct2_27 cx0_27 cx1_27 cx2_27 cx3_27 co0_27 co1_27 co2_27 cs0_27 cs1_27
                have lt_27 := rowLt Yt_27.out
                have lx_27 := rowLt Yx_27.out
                have lo_27 := rowLt Yo_27.out
                have ls_27 := rowLt YW10.out
                refine (HD2.out _ _ _ _ _ FD_27.out).mono ?_
                rintro e w11 ⟨rfl, hw11⟩
                clear ct0_27 ct1_27 ct2_27 cx0_27 cx1_27 cx2_27 cx3_27 co0_27 co1_27 co2_27 cs0_27 cs1_27 lt_27 lx_27 lo_27 ls_27
                have Yt_28 := Lib.hid ((hw11.block _ (rowLt Yt_27.out)).trans Yt_27.out)
                have Yx_28 := Lib.hid ((hw11.block _ (rowLt Yx_27.out)).trans Yx_27.out)
                have Yo_28 := Lib.hid ((hw11.block _ (rowLt Yo_27.out)).trans Yo_27.out)
                have Ys_28 := Lib.hid ((hw11.block _ (rowLt YW10.out)).trans YW10.out)
                have FT_28 := Lib.hid (FT_27.out.bel hw11)
                have FS_28 := Lib.hid (FS_27.out.below hw11)
                have FD_28 := Lib.hid (FD_27.out.bel hw11)
                have Fa_28 := Lib.hid (Fa_27.out.below hw11)
                have Fb_28 := Lib.hid (Fb_27.out.below hw11)
                have Fc_28 := Lib.hid (Fc_27.out.below hw11)
                have Fd_28 := Lib.hid (Fd_27.out.below hw11)
                have HBW_28 := Lib.hid (bT HBW_27.out hw11)
                clear hw11
                have ct0_28 := cell_of_row w11 w.heap.size 0 _ _ _ Yt_28.out
                have ct1_28 := cell_of_row w11 w.heap.size 1 _ _ _ Yt_28.out
                have ct2_28 := cell_of_row w11 w.heap.size 2 _ _ _ Yt_28.out
                have cx0_28 := cell_of_row w11 w0.heap.size 0 _ _ _ Yx_28.out
                have cx1_28 := cell_of_row w11 w0.heap.size 1 _ _ _ Yx_28.out
                have cx2_28 := cell_of_row w11 w0.heap.size 2 _ _ _ Yx_28.out
                have cx3_28 := cell_of_row w11 w0.heap.size 3 _ _ _ Yx_28.out
                have co0_28 := cell_of_row w11 w6.heap.size 0 _ _ _ Yo_28.out
                have co1_28 := cell_of_row w11 w6.heap.size 1 _ _ _ Yo_28.out
                have co2_28 := cell_of_row w11 w6.heap.size 2 _ _ _ Yo_28.out
                have cs0_28 := cell_of_row w11 w10.heap.size 0 _ _ _ Ys_28.out
                have cs1_28 := cell_of_row w11 w10.heap.size 1 _ _ _ Ys_28.out
                simp only [List.getElem?_toArray, List.getElem?_cons_zero, List.getElem?_cons_succ] at ct0_28 ct1_28 ct2_28 cx0_28 cx1_28 cx2_28 cx3_28 co0_28 co1_28 co2_28 cs0_28 cs1_28
                have lt_28 := rowLt Yt_28.out
                have lx_28 := rowLt Yx_28.out
                have lo_28 := rowLt Yo_28.out
                have ls_28 := rowLt Ys_28.out
                go_wp2_with fail
                obtain ⟨W11, hW11⟩ : ∃ W11, w11.alloc (Obj.cells #[.int .i64 X0, .int .i64 X1] 38) = W11 := ⟨_, rfl⟩
                rw [hW11]
                have hbW11 : Below w11.heap.size w11 W11 := by rw [← hW11]; exact bA (Below.refl _ _) _
                have yW11 : W11.heap[w11.heap.size]? = some (.cells #[.int .i64 X0, .int .i64 X1] 38 (0, 0)) := by rw [← hW11]; exact heap_alloc_new _ _
                have YW11 := Lib.hid yW11
                have HBXW11 := Lib.hid hbW11
                clear hW11 yW11
                clear ct0_28 ct1_28 ct2_28 cx0_28 cx1_28 cx2_28 cx3_28 co0_28 co1_28 co2_28 cs0_28 cs1_28 lt_28 lx_28 lo_28 ls_28
                have Yt_29 := Lib.hid ((hbW11.block _ (rowLt Yt_28.out)).trans Yt_28.out)
                have Yx_29 := Lib.hid ((hbW11.block _ (rowLt Yx_28.out)).trans Yx_28.out)
                have Yo_29 := Lib.hid ((hbW11.block _ (rowLt Yo_28.out)).trans Yo_28.out)
                have Ys_29 := Lib.hid ((hbW11.block _ (rowLt Ys_28.out)).trans Ys_28.out)
                have FT_29 := Lib.hid (FT_28.out.bel hbW11)
                have FS_29 := Lib.hid (FS_28.out.below hbW11)
                have FD_29 := Lib.hid (FD_28.out.bel hbW11)
                have Fa_29 := Lib.hid (Fa_28.out.below hbW11)
                have Fb_29 := Lib.hid (Fb_28.out.below hbW11)
                have Fc_29 := Lib.hid (Fc_28.out.below hbW11)
                have Fd_29 := Lib.hid (Fd_28.out.below hbW11)
                have HBW_29 := Lib.hid (bT HBW_28.out hbW11)
                clear hbW11
                have ct0_29 := cell_of_row W11 w.heap.size 0 _ _ _ Yt_29.out
                have ct1_29 := cell_of_row W11 w.heap.size 1 _ _ _ Yt_29.out
                have ct2_29 := cell_of_row W11 w.heap.size 2 _ _ _ Yt_29.out
                have cx0_29 := cell_of_row W11 w0.heap.size 0 _ _ _ Yx_29.out
                have cx1_29 := cell_of_row W11 w0.heap.size 1 _ _ _ Yx_29.out
                have cx2_29 := cell_of_row W11 w0.heap.size 2 _ _ _ Yx_29.out
                have cx3_29 := cell_of_row W11 w0.heap.size 3 _ _ _ Yx_29.out
                have co0_29 := cell_of_row W11 w6.heap.size 0 _ _ _ Yo_29.out
                have co1_29 := cell_of_row W11 w6.heap.size 1 _ _ _ Yo_29.out
                have co2_29 := cell_of_row W11 w6.heap.size 2 _ _ _ Yo_29.out
                have cs0_29 := cell_of_row W11 w10.heap.size 0 _ _ _ Ys_29.out
                have cs1_29 := cell_of_row W11 w10.heap.size 1 _ _ _ Ys_29.out
                simp only [List.getElem?_toArray, List.getElem?_cons_zero, List.getElem?_cons_succ] at ct0_29 ct1_29 ct2_29 cx0_29 cx1_29 cx2_29 cx3_29 co0_29 co1_29 co2_29 cs0_29 cs1_29
                have lt_29 := rowLt Yt_29.out
                have lx_29 := rowLt Yx_29.out
                have lo_29 := rowLt Yo_29.out
                have ls_29 := rowLt Ys_29.out
                clear ct0_29 ct1_29 ct2_29 cx0_29 cx1_29 cx2_29 cx3_29 co0_29 co1_29 co2_29 cs0_29 cs1_29 lt_29 lx_29 lo_29 ls_29
                have ct0_29 := cell_of_row W11 w.heap.size 0 _ _ _ Yt_29.out
                have ct1_29 := cell_of_row W11 w.heap.size 1 _ _ _ Yt_29.out
                have ct2_29 := cell_of_row W11 w.heap.size 2 _ _ _ Yt_29.out
                have cx0_29 := cell_of_row W11 w0.heap.size 0 _ _ _ Yx_29.out
                have cx1_29 := cell_of_row W11 w0.heap.size 1 _ _ _ Yx_29.out
                have cx2_29 := cell_of_row W11 w0.heap.size 2 _ _ _ Yx_29.out
                have cx3_29 := cell_of_row W11 w0.heap.size 3 _ _ _ Yx_29.out
                have co0_29 := cell_of_row W11 w6.heap.size 0 _ _ _ Yo_29.out
                have co1_29 := cell_of_row W11 w6.heap.size 1 _ _ _ Yo_29.out
                have co2_29 := cell_of_row W11 w6.heap.size 2 _ _ _ Yo_29.out
                have cs0_29 := cell_of_row W11 w10.heap.size 0 _ _ _ Ys_29.out
                have cs1_29 := cell_of_row W11 w10.heap.size 1 _ _ _ Ys_29.out
                have cz0_29 := cell_of_row W11 w11.heap.size 0 _ _ _ YW11.out
                have cz1_29 := cell_of_row W11 w11.heap.size 1 _ _ _ YW11.out
                simp only [List.getElem?_toArray, List.getElem?_cons_zero, List.getElem?_cons_succ] at ct0_29 ct1_29 ct2_29 cx0_29 cx1_29 cx2_29 cx3_29 co0_29 co1_29 co2_29 cs0_29 cs1_29 cz0_29 cz1_29
                have lt_29 := rowLt Yt_29.out
                have lx_29 := rowLt Yx_29.out
                have lo_29 := rowLt Yo_29.out
                have ls_29 := rowLt Ys_29.out
                have lz_29 := rowLt YW11.out
                refine (works_ex _).mono ?_
                rintro e w12 ⟨rfl, hw12⟩
                clear ct0_29 ct1_29 ct2_29 cx0_29 cx1_29 cx2_29 cx3_29 co0_29 co1_29 co2_29 cs0_29 cs1_29 cz0_29 cz1_29 lt_29 lx_29 lo_29 ls_29 lz_29
                have Yt_30 := Lib.hid ((hw12.block _ (rowLt Yt_29.out)).trans Yt_29.out)
                have Yx_30 := Lib.hid ((hw12.block _ (rowLt Yx_29.out)).trans Yx_29.out)
                have Yo_30 := Lib.hid ((hw12.block _ (rowLt Yo_29.out)).trans Yo_29.out)
                have Ys_30 := Lib.hid ((hw12.block _ (rowLt Ys_29.out)).trans Ys_29.out)
                have Yz_30 := Lib.hid ((hw12.block _ (rowLt YW11.out)).trans YW11.out)
                have FT_30 := Lib.hid (FT_29.out.bel hw12)
                have FS_30 := Lib.hid (FS_29.out.below hw12)
                have FD_30 := Lib.hid (FD_29.out.bel hw12)
                have Fa_30 := Lib.hid (Fa_29.out.below hw12)
                have Fb_30 := Lib.hid (Fb_29.out.below hw12)
                have Fc_30 := Lib.hid (Fc_29.out.below hw12)
                have Fd_30 := Lib.hid (Fd_29.out.below hw12)
                have HBW_30 := Lib.hid (bT HBW_29.out hw12)
                clear hw12
                have ct0_30 := cell_of_row w12 w.heap.size 0 _ _ _ Yt_30.out
                have ct1_30 := cell_of_row w12 w.heap.size 1 _ _ _ Yt_30.out
                have ct2_30 := cell_of_row w12 w.heap.size 2 _ _ _ Yt_30.out
                have cx0_30 := cell_of_row w12 w0.heap.size 0 _ _ _ Yx_30.out
                have cx1_30 := cell_of_row w12 w0.heap.size 1 _ _ _ Yx_30.out
                have cx2_30 := cell_of_row w12 w0.heap.size 2 _ _ _ Yx_30.out
                have cx3_30 := cell_of_row w12 w0.heap.size 3 _ _ _ Yx_30.out
                have co0_30 := cell_of_row w12 w6.heap.size 0 _ _ _ Yo_30.out
                have co1_30 := cell_of_row w12 w6.heap.size 1 _ _ _ Yo_30.out
                have co2_30 := cell_of_row w12 w6.heap.size 2 _ _ _ Yo_30.out
                have cs0_30 := cell_of_row w12 w10.heap.size 0 _ _ _ Ys_30.out
                have cs1_30 := cell_of_row w12 w10.heap.size 1 _ _ _ Ys_30.out
                have cz0_30 := cell_of_row w12 w11.heap.size 0 _ _ _ Yz_30.out
                have cz1_30 := cell_of_row w12 w11.heap.size 1 _ _ _ Yz_30.out
                simp only [List.getElem?_toArray, List.getElem?_cons_zero, List.getElem?_cons_succ] at ct0_30 ct1_30 ct2_30 cx0_30 cx1_30 cx2_30 cx3_30 co0_30 co1_30 co2_30 cs0_30 cs1_30 cz0_30 cz1_30
                have lt_30 := rowLt Yt_30.out
                have lx_30 := rowLt Yx_30.out
                have lo_30 := rowLt Yo_30.out
                have ls_30 := rowLt Ys_30.out
                have lz_30 := rowLt Yz_30.out
                go_wp2_with fail
                go_ret
                exact ⟨rfl, (by repeat (first | exact HBW_30.out | refine bA ?_ _ | refine bd ?_ | refine bD ?_ _))⟩

/-- LevelsDeeper answers true, whatever the town and what is asked -/
theorem deeper_law (T : Town) (p q : Option Addr) (c d : Nat) (a b t y : Int) (w : World) (ht : TownIn w w.heap.size T p q) :
    Calls Try.prog 13 #[.agg #[.int .i64 T.W, .slice p T.s.length c, .slice q T.r.length d], .agg #[.int .i64 a, .int .i64 b, .int .i64 t, .int .i64 y]] w fun e w' => e = .returned (.bool true) ∧ Below w.heap.size w w' := by
  cases hs : (rdy T && (within y (-99) 99 && (within a 0 (T.W - 1) && within b 0 (T.W - 1)))) with
  | false => exact deeper_skip T p q c d a b t y w ht hs
  | true =>
    simp only [Bool.and_eq_true] at hs
    obtain ⟨hr, hy, ha, hb⟩ := hs
    simp only [within, decide_eq_true_eq] at hy
    obtain ⟨u, rfl, hu⟩ := within_of ha
    obtain ⟨v, rfl, hv⟩ := within_of hb
    cases hk : kn T with
    | none => exact deeper_none T p q c d u v t y w ht hr hy.1 hy.2 hu hv hk
    | some M => exact deeper_some T p q c d u v T.W.toNat t y w ht hr hy.1 hy.2 hu hv M (by have := ok_W (rdy_ok hr).1; omega) hk
end Go.Proofs.Ytmfbfcknnjbabaa
