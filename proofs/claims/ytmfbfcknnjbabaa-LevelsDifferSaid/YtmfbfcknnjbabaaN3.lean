/- LevelsDiffer returns true in every walk, whatever the town and the wells. Made by n3.py. -/
import Derived.Test.YtmfbfcknnjbabaaM9
import Derived.Test.YtmfbfcknnjbabaaJ2
set_option linter.unusedSimpArgs false
set_option linter.unusedVariables false
namespace Go.Proofs.Ytmfbfcknnjbabaa
open Go.RowKit

set_option maxRecDepth 100000 in
set_option maxHeartbeats 16000000 in
theorem differ_far (T : Town) (p q : Option Addr) (c d : Nat) (u v : Int) (w : World) (ht : TownIn w w.heap.size T p q) (hh : farB T = true) :
    Calls Try.prog 5 #[.agg #[.int .i64 T.W, .slice p T.s.length c, .slice q T.r.length d], .int .i64 u, .int .i64 v] w fun e w' => e = .returned (.bool true) ∧ Below w.heap.size w w' := by
  obtain ⟨w1, hw1, hb1, hz1, y1⟩ := box_row w (.cells #[.int .i64 T.W, .slice p T.s.length c, .slice q T.r.length d] 25)
  have hu := far_any T p q c d w1 (ht.bel hb1)
  rw [hh] at hu
  have HU := Lib.hid hu; have HB1 := Lib.hid hb1; have Yt := Lib.hid y1
  clear hu hb1 hz1 y1 hh ht
  have ct0_0 := cell_of_row w1 w.heap.size 0 _ _ _ Yt.out
  have ct1_0 := cell_of_row w1 w.heap.size 1 _ _ _ Yt.out
  have ct2_0 := cell_of_row w1 w.heap.size 2 _ _ _ Yt.out
  simp only [List.getElem?_toArray, List.getElem?_cons_zero, List.getElem?_cons_succ] at ct0_0 ct1_0 ct2_0
  have lt_0 := rowLt Yt.out
  go_enter Try.func5, Try.ntmps5
  go_wp2_with fail
  refine (HU.out).mono ?_
  rintro e w2 ⟨rfl, hw2⟩
  clear ct0_0 ct1_0 ct2_0 lt_0
  have Yt_1 := Lib.hid ((hw2.block _ (rowLt Yt.out)).trans Yt.out)
  have HBW_1 := Lib.hid (bT HB1.out hw2)
  clear hw2
  have ct0_1 := cell_of_row w2 w.heap.size 0 _ _ _ Yt_1.out
  have ct1_1 := cell_of_row w2 w.heap.size 1 _ _ _ Yt_1.out
  have ct2_1 := cell_of_row w2 w.heap.size 2 _ _ _ Yt_1.out
  simp only [List.getElem?_toArray, List.getElem?_cons_zero, List.getElem?_cons_succ] at ct0_1 ct1_1 ct2_1
  have lt_1 := rowLt Yt_1.out
  go_wp2_with fail
  refine (works_ex _).mono ?_
  rintro e w3 ⟨rfl, hw3⟩
  clear ct0_1 ct1_1 ct2_1 lt_1
  have Yt_2 := Lib.hid ((hw3.block _ (rowLt Yt_1.out)).trans Yt_1.out)
  have HBW_2 := Lib.hid (bT HBW_1.out hw3)
  clear hw3
  have ct0_2 := cell_of_row w3 w.heap.size 0 _ _ _ Yt_2.out
  have ct1_2 := cell_of_row w3 w.heap.size 1 _ _ _ Yt_2.out
  have ct2_2 := cell_of_row w3 w.heap.size 2 _ _ _ Yt_2.out
  simp only [List.getElem?_toArray, List.getElem?_cons_zero, List.getElem?_cons_succ] at ct0_2 ct1_2 ct2_2
  have lt_2 := rowLt Yt_2.out
  go_wp2_with fail
  go_ret
  exact ⟨rfl, (by repeat (first | exact HBW_2.out | refine bA ?_ _ | refine bd ?_ | refine bD ?_ _))⟩

set_option maxRecDepth 100000 in
set_option maxHeartbeats 16000000 in
theorem differ_near (T : Town) (p q : Option Addr) (c d : Nat) (u v : Int) (w : World) (ht : TownIn w w.heap.size T p q) (hh : farB T = false) :
    Calls Try.prog 5 #[.agg #[.int .i64 T.W, .slice p T.s.length c, .slice q T.r.length d], .int .i64 u, .int .i64 v] w fun e w' => e = .returned (.bool true) ∧ Below w.heap.size w w' := by
  obtain ⟨w1, hw1, hb1, hz1, y1⟩ := box_row w (.cells #[.int .i64 T.W, .slice p T.s.length c, .slice q T.r.length d] 25)
  have hu := far_any T p q c d w1 (ht.bel hb1)
  rw [hh] at hu
  have hs : T.s.length ≤ 40 ∧ T.r.length ≤ 40 := by
    simp only [farB, Bool.or_eq_false_iff, decide_eq_false_iff_not] at hh
    omega
  have hcp := fun (V : World) (p q : Option Addr) (c d : Nat) (h : TownIn V V.heap.size T p q) => copy_any T p q c d V (by omega) (by omega) h
  have h33 := fun (V : World) (p q : Option Addr) (c d : Nat) (h : TownIn V V.heap.size T p q) => differP_any T u v p q c d V (by omega) (by omega) h
  have h34 := fun (V : World) (p q : Option Addr) (c d : Nat) (h : TownIn V V.heap.size T p q) => differR_any T u v p q c d V (by omega) (by omega) h
  have h35 := fun (V : World) (p q : Option Addr) (c d : Nat) (h : TownIn V V.heap.size T p q) => higherP_any T u v p q c d V (by omega) (by omega) h
  have h36 := fun (V : World) (p q : Option Addr) (c d : Nat) (h : TownIn V V.heap.size T p q) => higherR_any T u v p q c d V (by omega) (by omega) h
  have hS := fun (V : World) (p q : Option Addr) (c d : Nat) (p' q' : Option Addr) (c' d' : Nat) (h : TownIn V V.heap.size T p q) (h' : TownIn V V.heap.size T p' q') => same_any T p q c d p' q' c' d' V (by omega) (by omega) h h'
  obtain ⟨X0, hX0⟩ : ∃ z, (dres T u v).1.1 = z := ⟨_, rfl⟩
  obtain ⟨X1, hX1⟩ : ∃ z, (dres T u v).1.2 = z := ⟨_, rfl⟩
  obtain ⟨er, her⟩ : ∃ z, (dres T u v).2 = z := ⟨_, rfl⟩
  obtain ⟨Z0, hZ0⟩ : ∃ z, (hires T u v).1 = z := ⟨_, rfl⟩
  obtain ⟨es, hes⟩ : ∃ z, (hires T u v).2 = z := ⟨_, rfl⟩
  simp only [hX0, hX1, her] at h33 h34
  simp only [hZ0, hes] at h35 h36
  have HU := Lib.hid hu; have HB1 := Lib.hid hb1; have Yt := Lib.hid y1; have HCP := Lib.hid hcp
  have H33 := Lib.hid h33; have H34 := Lib.hid h34; have H35 := Lib.hid h35; have H36 := Lib.hid h36; have HS := Lib.hid hS
  have FT := Lib.hid (ht.bel hb1)
  clear hu hb1 hz1 y1 hcp h33 h34 h35 h36 hS hX0 hX1 her hZ0 hes hs ht hh
  have ct0_0 := cell_of_row w1 w.heap.size 0 _ _ _ Yt.out
  have ct1_0 := cell_of_row w1 w.heap.size 1 _ _ _ Yt.out
  have ct2_0 := cell_of_row w1 w.heap.size 2 _ _ _ Yt.out
  simp only [List.getElem?_toArray, List.getElem?_cons_zero, List.getElem?_cons_succ] at ct0_0 ct1_0 ct2_0
  have lt_0 := rowLt Yt.out
  go_enter Try.func5, Try.ntmps5
  go_wp2_with fail
  refine (HU.out).mono ?_
  rintro e w2 ⟨rfl, hw2⟩
  clear ct0_0 ct1_0 ct2_0 lt_0
  have Yt_1 := Lib.hid ((hw2.block _ (rowLt Yt.out)).trans Yt.out)
  have FT_1 := Lib.hid (FT.out.bel hw2)
  have HBW_1 := Lib.hid (bT HB1.out hw2)
  clear hw2
  have ct0_1 := cell_of_row w2 w.heap.size 0 _ _ _ Yt_1.out
  have ct1_1 := cell_of_row w2 w.heap.size 1 _ _ _ Yt_1.out
  have ct2_1 := cell_of_row w2 w.heap.size 2 _ _ _ Yt_1.out
  simp only [List.getElem?_toArray, List.getElem?_cons_zero, List.getElem?_cons_succ] at ct0_1 ct1_1 ct2_1
  have lt_1 := rowLt Yt_1.out
  go_wp2_with fail
  refine (HCP.out _ _ _ _ _ FT_1.out).mono ?_
  rintro e w3 ⟨p', c', q', d', rfl, hw3, ht3⟩
  clear ct0_1 ct1_1 ct2_1 lt_1
  have Yt_2 := Lib.hid ((hw3.block _ (rowLt Yt_1.out)).trans Yt_1.out)
  have FT_2 := Lib.hid (FT_1.out.bel hw3)
  have HBW_2 := Lib.hid (bT HBW_1.out hw3)
  clear hw3
  have ct0_2 := cell_of_row w3 w.heap.size 0 _ _ _ Yt_2.out
  have ct1_2 := cell_of_row w3 w.heap.size 1 _ _ _ Yt_2.out
  have ct2_2 := cell_of_row w3 w.heap.size 2 _ _ _ Yt_2.out
  simp only [List.getElem?_toArray, List.getElem?_cons_zero, List.getElem?_cons_succ] at ct0_2 ct1_2 ct2_2
  have lt_2 := rowLt Yt_2.out
  have FU3 := Lib.hid ht3
  clear ht3
  go_wp2_with fail
  obtain ⟨W3, hW3⟩ : ∃ W3, w3.alloc (Obj.cells #[.int .i64 T.W, (.slice p' T.s.length c'), (.slice q' T.r.length d')] 25) = W3 := ⟨_, rfl⟩
  rw [hW3]
  have hbW3 : Below w3.heap.size w3 W3 := by rw [← hW3]; exact bA (Below.refl _ _) _
  have yW3 : W3.heap[w3.heap.size]? = some (.cells #[.int .i64 T.W, (.slice p' T.s.length c'), (.slice q' T.r.length d')] 25 (0, 0)) := by rw [← hW3]; exact heap_alloc_new _ _
  have YW3 := Lib.hid yW3
  have HBXW3 := Lib.hid hbW3
  clear hW3 yW3
  clear ct0_2 ct1_2 ct2_2 lt_2
  have Yt_3 := Lib.hid ((hbW3.block _ (rowLt Yt_2.out)).trans Yt_2.out)
  have FT_3 := Lib.hid (FT_2.out.bel hbW3)
  have FU_3 := Lib.hid (FU3.out.bel hbW3)
  have HBW_3 := Lib.hid (bT HBW_2.out hbW3)
  clear hbW3
  have ct0_3 := cell_of_row W3 w.heap.size 0 _ _ _ Yt_3.out
  have ct1_3 := cell_of_row W3 w.heap.size 1 _ _ _ Yt_3.out
  have ct2_3 := cell_of_row W3 w.heap.size 2 _ _ _ Yt_3.out
  simp only [List.getElem?_toArray, List.getElem?_cons_zero, List.getElem?_cons_succ] at ct0_3 ct1_3 ct2_3
  have lt_3 := rowLt Yt_3.out
  clear ct0_3 ct1_3 ct2_3 lt_3
  have ct0_3 := cell_of_row W3 w.heap.size 0 _ _ _ Yt_3.out
  have ct1_3 := cell_of_row W3 w.heap.size 1 _ _ _ Yt_3.out
  have ct2_3 := cell_of_row W3 w.heap.size 2 _ _ _ Yt_3.out
  have co0_3 := cell_of_row W3 w3.heap.size 0 _ _ _ YW3.out
  have co1_3 := cell_of_row W3 w3.heap.size 1 _ _ _ YW3.out
  have co2_3 := cell_of_row W3 w3.heap.size 2 _ _ _ YW3.out
  simp only [List.getElem?_toArray, List.getElem?_cons_zero, List.getElem?_cons_succ] at ct0_3 ct1_3 ct2_3 co0_3 co1_3 co2_3
  have lt_3 := rowLt Yt_3.out
  have lo_3 := rowLt YW3.out
  refine (H33.out _ _ _ _ _ FU_3.out).mono ?_
  rintro e w4 ⟨rfl, hw4⟩
  clear ct0_3 ct1_3 ct2_3 co0_3 co1_3 co2_3 lt_3 lo_3
  have Yt_4 := Lib.hid ((hw4.block _ (rowLt Yt_3.out)).trans Yt_3.out)
  have Yo_4 := Lib.hid ((hw4.block _ (rowLt YW3.out)).trans YW3.out)
  have FT_4 := Lib.hid (FT_3.out.bel hw4)
  have FU_4 := Lib.hid (FU_3.out.bel hw4)
  have HBW_4 := Lib.hid (bT HBW_3.out hw4)
  clear hw4
  have ct0_4 := cell_of_row w4 w.heap.size 0 _ _ _ Yt_4.out
  have ct1_4 := cell_of_row w4 w.heap.size 1 _ _ _ Yt_4.out
  have ct2_4 := cell_of_row w4 w.heap.size 2 _ _ _ Yt_4.out
  have co0_4 := cell_of_row w4 w3.heap.size 0 _ _ _ Yo_4.out
  have co1_4 := cell_of_row w4 w3.heap.size 1 _ _ _ Yo_4.out
  have co2_4 := cell_of_row w4 w3.heap.size 2 _ _ _ Yo_4.out
  simp only [List.getElem?_toArray, List.getElem?_cons_zero, List.getElem?_cons_succ] at ct0_4 ct1_4 ct2_4 co0_4 co1_4 co2_4
  have lt_4 := rowLt Yt_4.out
  have lo_4 := rowLt Yo_4.out
  go_wp2_with fail
  obtain ⟨W4, hW4⟩ : ∃ W4, w4.alloc (Obj.cells #[.int .i64 X0, .int .i64 X1] 38) = W4 := ⟨_, rfl⟩
  rw [hW4]
  have hbW4 : Below w4.heap.size w4 W4 := by rw [← hW4]; exact bA (Below.refl _ _) _
  have yW4 : W4.heap[w4.heap.size]? = some (.cells #[.int .i64 X0, .int .i64 X1] 38 (0, 0)) := by rw [← hW4]; exact heap_alloc_new _ _
  have YW4 := Lib.hid yW4
  have HBXW4 := Lib.hid hbW4
  clear hW4 yW4
  clear ct0_4 ct1_4 ct2_4 co0_4 co1_4 co2_4 lt_4 lo_4
  have Yt_5 := Lib.hid ((hbW4.block _ (rowLt Yt_4.out)).trans Yt_4.out)
  have Yo_5 := Lib.hid ((hbW4.block _ (rowLt Yo_4.out)).trans Yo_4.out)
  have FT_5 := Lib.hid (FT_4.out.bel hbW4)
  have FU_5 := Lib.hid (FU_4.out.bel hbW4)
  have HBW_5 := Lib.hid (bT HBW_4.out hbW4)
  clear hbW4
  have ct0_5 := cell_of_row W4 w.heap.size 0 _ _ _ Yt_5.out
  have ct1_5 := cell_of_row W4 w.heap.size 1 _ _ _ Yt_5.out
  have ct2_5 := cell_of_row W4 w.heap.size 2 _ _ _ Yt_5.out
  have co0_5 := cell_of_row W4 w3.heap.size 0 _ _ _ Yo_5.out
  have co1_5 := cell_of_row W4 w3.heap.size 1 _ _ _ Yo_5.out
  have co2_5 := cell_of_row W4 w3.heap.size 2 _ _ _ Yo_5.out
  simp only [List.getElem?_toArray, List.getElem?_cons_zero, List.getElem?_cons_succ] at ct0_5 ct1_5 ct2_5 co0_5 co1_5 co2_5
  have lt_5 := rowLt Yt_5.out
  have lo_5 := rowLt Yo_5.out
  clear ct0_5 ct1_5 ct2_5 co0_5 co1_5 co2_5 lt_5 lo_5
  have ct0_5 := cell_of_row W4 w.heap.size 0 _ _ _ Yt_5.out
  have ct1_5 := cell_of_row W4 w.heap.size 1 _ _ _ Yt_5.out
  have ct2_5 := cell_of_row W4 w.heap.size 2 _ _ _ Yt_5.out
  have co0_5 := cell_of_row W4 w3.heap.size 0 _ _ _ Yo_5.out
  have co1_5 := cell_of_row W4 w3.heap.size 1 _ _ _ Yo_5.out
  have co2_5 := cell_of_row W4 w3.heap.size 2 _ _ _ Yo_5.out
  have cs0_5 := cell_of_row W4 w4.heap.size 0 _ _ _ YW4.out
  have cs1_5 := cell_of_row W4 w4.heap.size 1 _ _ _ YW4.out
  simp only [List.getElem?_toArray, List.getElem?_cons_zero, List.getElem?_cons_succ] at ct0_5 ct1_5 ct2_5 co0_5 co1_5 co2_5 cs0_5 cs1_5
  have lt_5 := rowLt Yt_5.out
  have lo_5 := rowLt Yo_5.out
  have ls_5 := rowLt YW4.out
  refine (H34.out _ _ _ _ _ FT_5.out).mono ?_
  rintro e w5 ⟨rfl, hw5⟩
  clear ct0_5 ct1_5 ct2_5 co0_5 co1_5 co2_5 cs0_5 cs1_5 lt_5 lo_5 ls_5
  have Yt_6 := Lib.hid ((hw5.block _ (rowLt Yt_5.out)).trans Yt_5.out)
  have Yo_6 := Lib.hid ((hw5.block _ (rowLt Yo_5.out)).trans Yo_5.out)
  have Ys_6 := Lib.hid ((hw5.block _ (rowLt YW4.out)).trans YW4.out)
  have FT_6 := Lib.hid (FT_5.out.bel hw5)
  have FU_6 := Lib.hid (FU_5.out.bel hw5)
  have HBW_6 := Lib.hid (bT HBW_5.out hw5)
  clear hw5
  have ct0_6 := cell_of_row w5 w.heap.size 0 _ _ _ Yt_6.out
  have ct1_6 := cell_of_row w5 w.heap.size 1 _ _ _ Yt_6.out
  have ct2_6 := cell_of_row w5 w.heap.size 2 _ _ _ Yt_6.out
  have co0_6 := cell_of_row w5 w3.heap.size 0 _ _ _ Yo_6.out
  have co1_6 := cell_of_row w5 w3.heap.size 1 _ _ _ Yo_6.out
  have co2_6 := cell_of_row w5 w3.heap.size 2 _ _ _ Yo_6.out
  have cs0_6 := cell_of_row w5 w4.heap.size 0 _ _ _ Ys_6.out
  have cs1_6 := cell_of_row w5 w4.heap.size 1 _ _ _ Ys_6.out
  simp only [List.getElem?_toArray, List.getElem?_cons_zero, List.getElem?_cons_succ] at ct0_6 ct1_6 ct2_6 co0_6 co1_6 co2_6 cs0_6 cs1_6
  have lt_6 := rowLt Yt_6.out
  have lo_6 := rowLt Yo_6.out
  have ls_6 := rowLt Ys_6.out
  go_wp2_with fail
  obtain ⟨W5, hW5⟩ : ∃ W5, w5.alloc (Obj.cells #[.int .i64 X0, .int .i64 X1] 38) = W5 := ⟨_, rfl⟩
  rw [hW5]
  have hbW5 : Below w5.heap.size w5 W5 := by rw [← hW5]; exact bA (Below.refl _ _) _
  have yW5 : W5.heap[w5.heap.size]? = some (.cells #[.int .i64 X0, .int .i64 X1] 38 (0, 0)) := by rw [← hW5]; exact heap_alloc_new _ _
  have YW5 := Lib.hid yW5
  have HBXW5 := Lib.hid hbW5
  clear hW5 yW5
  clear ct0_6 ct1_6 ct2_6 co0_6 co1_6 co2_6 cs0_6 cs1_6 lt_6 lo_6 ls_6
  have Yt_7 := Lib.hid ((hbW5.block _ (rowLt Yt_6.out)).trans Yt_6.out)
  have Yo_7 := Lib.hid ((hbW5.block _ (rowLt Yo_6.out)).trans Yo_6.out)
  have Ys_7 := Lib.hid ((hbW5.block _ (rowLt Ys_6.out)).trans Ys_6.out)
  have FT_7 := Lib.hid (FT_6.out.bel hbW5)
  have FU_7 := Lib.hid (FU_6.out.bel hbW5)
  have HBW_7 := Lib.hid (bT HBW_6.out hbW5)
  clear hbW5
  have ct0_7 := cell_of_row W5 w.heap.size 0 _ _ _ Yt_7.out
  have ct1_7 := cell_of_row W5 w.heap.size 1 _ _ _ Yt_7.out
  have ct2_7 := cell_of_row W5 w.heap.size 2 _ _ _ Yt_7.out
  have co0_7 := cell_of_row W5 w3.heap.size 0 _ _ _ Yo_7.out
  have co1_7 := cell_of_row W5 w3.heap.size 1 _ _ _ Yo_7.out
  have co2_7 := cell_of_row W5 w3.heap.size 2 _ _ _ Yo_7.out
  have cs0_7 := cell_of_row W5 w4.heap.size 0 _ _ _ Ys_7.out
  have cs1_7 := cell_of_row W5 w4.heap.size 1 _ _ _ Ys_7.out
  simp only [List.getElem?_toArray, List.getElem?_cons_zero, List.getElem?_cons_succ] at ct0_7 ct1_7 ct2_7 co0_7 co1_7 co2_7 cs0_7 cs1_7
  have lt_7 := rowLt Yt_7.out
  have lo_7 := rowLt Yo_7.out
  have ls_7 := rowLt Ys_7.out
  clear ct0_7 ct1_7 ct2_7 co0_7 co1_7 co2_7 cs0_7 cs1_7 lt_7 lo_7 ls_7
  have ct0_7 := cell_of_row W5 w.heap.size 0 _ _ _ Yt_7.out
  have ct1_7 := cell_of_row W5 w.heap.size 1 _ _ _ Yt_7.out
  have ct2_7 := cell_of_row W5 w.heap.size 2 _ _ _ Yt_7.out
  have co0_7 := cell_of_row W5 w3.heap.size 0 _ _ _ Yo_7.out
  have co1_7 := cell_of_row W5 w3.heap.size 1 _ _ _ Yo_7.out
  have co2_7 := cell_of_row W5 w3.heap.size 2 _ _ _ Yo_7.out
  have cs0_7 := cell_of_row W5 w4.heap.size 0 _ _ _ Ys_7.out
  have cs1_7 := cell_of_row W5 w4.heap.size 1 _ _ _ Ys_7.out
  have cu0_7 := cell_of_row W5 w5.heap.size 0 _ _ _ YW5.out
  have cu1_7 := cell_of_row W5 w5.heap.size 1 _ _ _ YW5.out
  simp only [List.getElem?_toArray, List.getElem?_cons_zero, List.getElem?_cons_succ] at ct0_7 ct1_7 ct2_7 co0_7 co1_7 co2_7 cs0_7 cs1_7 cu0_7 cu1_7
  have lt_7 := rowLt Yt_7.out
  have lo_7 := rowLt Yo_7.out
  have ls_7 := rowLt Ys_7.out
  have lu_7 := rowLt YW5.out
  refine (H35.out _ _ _ _ _ FU_7.out).mono ?_
  rintro e w6 ⟨rfl, hw6⟩
  clear ct0_7 ct1_7 ct2_7 co0_7 co1_7 co2_7 cs0_7 cs1_7 cu0_7 cu1_7 lt_7 lo_7 ls_7 lu_7
  have Yt_8 := Lib.hid ((hw6.block _ (rowLt Yt_7.out)).trans Yt_7.out)
  have Yo_8 := Lib.hid ((hw6.block _ (rowLt Yo_7.out)).trans Yo_7.out)
  have Ys_8 := Lib.hid ((hw6.block _ (rowLt Ys_7.out)).trans Ys_7.out)
  have Yu_8 := Lib.hid ((hw6.block _ (rowLt YW5.out)).trans YW5.out)
  have FT_8 := Lib.hid (FT_7.out.bel hw6)
  have FU_8 := Lib.hid (FU_7.out.bel hw6)
  have HBW_8 := Lib.hid (bT HBW_7.out hw6)
  clear hw6
  have ct0_8 := cell_of_row w6 w.heap.size 0 _ _ _ Yt_8.out
  have ct1_8 := cell_of_row w6 w.heap.size 1 _ _ _ Yt_8.out
  have ct2_8 := cell_of_row w6 w.heap.size 2 _ _ _ Yt_8.out
  have co0_8 := cell_of_row w6 w3.heap.size 0 _ _ _ Yo_8.out
  have co1_8 := cell_of_row w6 w3.heap.size 1 _ _ _ Yo_8.out
  have co2_8 := cell_of_row w6 w3.heap.size 2 _ _ _ Yo_8.out
  have cs0_8 := cell_of_row w6 w4.heap.size 0 _ _ _ Ys_8.out
  have cs1_8 := cell_of_row w6 w4.heap.size 1 _ _ _ Ys_8.out
  have cu0_8 := cell_of_row w6 w5.heap.size 0 _ _ _ Yu_8.out
  have cu1_8 := cell_of_row w6 w5.heap.size 1 _ _ _ Yu_8.out
  simp only [List.getElem?_toArray, List.getElem?_cons_zero, List.getElem?_cons_succ] at ct0_8 ct1_8 ct2_8 co0_8 co1_8 co2_8 cs0_8 cs1_8 cu0_8 cu1_8
  have lt_8 := rowLt Yt_8.out
  have lo_8 := rowLt Yo_8.out
  have ls_8 := rowLt Ys_8.out
  have lu_8 := rowLt Yu_8.out
  go_wp2_with fail
  refine (H36.out _ _ _ _ _ FT_8.out).mono ?_
  rintro e w7 ⟨rfl, hw7⟩
  clear ct0_8 ct1_8 ct2_8 co0_8 co1_8 co2_8 cs0_8 cs1_8 cu0_8 cu1_8 lt_8 lo_8 ls_8 lu_8
  have Yt_9 := Lib.hid ((hw7.block _ (rowLt Yt_8.out)).trans Yt_8.out)
  have Yo_9 := Lib.hid ((hw7.block _ (rowLt Yo_8.out)).trans Yo_8.out)
  have Ys_9 := Lib.hid ((hw7.block _ (rowLt Ys_8.out)).trans Ys_8.out)
  have Yu_9 := Lib.hid ((hw7.block _ (rowLt Yu_8.out)).trans Yu_8.out)
  have FT_9 := Lib.hid (FT_8.out.bel hw7)
  have FU_9 := Lib.hid (FU_8.out.bel hw7)
  have HBW_9 := Lib.hid (bT HBW_8.out hw7)
  clear hw7
  have ct0_9 := cell_of_row w7 w.heap.size 0 _ _ _ Yt_9.out
  have ct1_9 := cell_of_row w7 w.heap.size 1 _ _ _ Yt_9.out
  have ct2_9 := cell_of_row w7 w.heap.size 2 _ _ _ Yt_9.out
  have co0_9 := cell_of_row w7 w3.heap.size 0 _ _ _ Yo_9.out
  have co1_9 := cell_of_row w7 w3.heap.size 1 _ _ _ Yo_9.out
  have co2_9 := cell_of_row w7 w3.heap.size 2 _ _ _ Yo_9.out
  have cs0_9 := cell_of_row w7 w4.heap.size 0 _ _ _ Ys_9.out
  have cs1_9 := cell_of_row w7 w4.heap.size 1 _ _ _ Ys_9.out
  have cu0_9 := cell_of_row w7 w5.heap.size 0 _ _ _ Yu_9.out
  have cu1_9 := cell_of_row w7 w5.heap.size 1 _ _ _ Yu_9.out
  simp only [List.getElem?_toArray, List.getElem?_cons_zero, List.getElem?_cons_succ] at ct0_9 ct1_9 ct2_9 co0_9 co1_9 co2_9 cs0_9 cs1_9 cu0_9 cu1_9
  have lt_9 := rowLt Yt_9.out
  have lo_9 := rowLt Yo_9.out
  have ls_9 := rowLt Ys_9.out
  have lu_9 := rowLt Yu_9.out
  go_wp2_with fail
  refine (HS.out _ _ _ _ _ _ _ _ _ FU_9.out FT_9.out).mono ?_
  rintro e w8 ⟨rfl, hw8⟩
  clear ct0_9 ct1_9 ct2_9 co0_9 co1_9 co2_9 cs0_9 cs1_9 cu0_9 cu1_9 lt_9 lo_9 ls_9 lu_9
  have Yt_10 := Lib.hid ((hw8.block _ (rowLt Yt_9.out)).trans Yt_9.out)
  have Yo_10 := Lib.hid ((hw8.block _ (rowLt Yo_9.out)).trans Yo_9.out)
  have Ys_10 := Lib.hid ((hw8.block _ (rowLt Ys_9.out)).trans Ys_9.out)
  have Yu_10 := Lib.hid ((hw8.block _ (rowLt Yu_9.out)).trans Yu_9.out)
  have FT_10 := Lib.hid (FT_9.out.bel hw8)
  have FU_10 := Lib.hid (FU_9.out.bel hw8)
  have HBW_10 := Lib.hid (bT HBW_9.out hw8)
  clear hw8
  have ct0_10 := cell_of_row w8 w.heap.size 0 _ _ _ Yt_10.out
  have ct1_10 := cell_of_row w8 w.heap.size 1 _ _ _ Yt_10.out
  have ct2_10 := cell_of_row w8 w.heap.size 2 _ _ _ Yt_10.out
  have co0_10 := cell_of_row w8 w3.heap.size 0 _ _ _ Yo_10.out
  have co1_10 := cell_of_row w8 w3.heap.size 1 _ _ _ Yo_10.out
  have co2_10 := cell_of_row w8 w3.heap.size 2 _ _ _ Yo_10.out
  have cs0_10 := cell_of_row w8 w4.heap.size 0 _ _ _ Ys_10.out
  have cs1_10 := cell_of_row w8 w4.heap.size 1 _ _ _ Ys_10.out
  have cu0_10 := cell_of_row w8 w5.heap.size 0 _ _ _ Yu_10.out
  have cu1_10 := cell_of_row w8 w5.heap.size 1 _ _ _ Yu_10.out
  simp only [List.getElem?_toArray, List.getElem?_cons_zero, List.getElem?_cons_succ] at ct0_10 ct1_10 ct2_10 co0_10 co1_10 co2_10 cs0_10 cs1_10 cu0_10 cu1_10
  have lt_10 := rowLt Yt_10.out
  have lo_10 := rowLt Yo_10.out
  have ls_10 := rowLt Ys_10.out
  have lu_10 := rowLt Yu_10.out
  go_wp2_with fail
  refine (works_ex _).mono ?_
  rintro e w9 ⟨rfl, hw9⟩
  clear ct0_10 ct1_10 ct2_10 co0_10 co1_10 co2_10 cs0_10 cs1_10 cu0_10 cu1_10 lt_10 lo_10 ls_10 lu_10
  have Yt_11 := Lib.hid ((hw9.block _ (rowLt Yt_10.out)).trans Yt_10.out)
  have Yo_11 := Lib.hid ((hw9.block _ (rowLt Yo_10.out)).trans Yo_10.out)
  have Ys_11 := Lib.hid ((hw9.block _ (rowLt Ys_10.out)).trans Ys_10.out)
  have Yu_11 := Lib.hid ((hw9.block _ (rowLt Yu_10.out)).trans Yu_10.out)
  have FT_11 := Lib.hid (FT_10.out.bel hw9)
  have FU_11 := Lib.hid (FU_10.out.bel hw9)
  have HBW_11 := Lib.hid (bT HBW_10.out hw9)
  clear hw9
  have ct0_11 := cell_of_row w9 w.heap.size 0 _ _ _ Yt_11.out
  have ct1_11 := cell_of_row w9 w.heap.size 1 _ _ _ Yt_11.out
  have ct2_11 := cell_of_row w9 w.heap.size 2 _ _ _ Yt_11.out
  have co0_11 := cell_of_row w9 w3.heap.size 0 _ _ _ Yo_11.out
  have co1_11 := cell_of_row w9 w3.heap.size 1 _ _ _ Yo_11.out
  have co2_11 := cell_of_row w9 w3.heap.size 2 _ _ _ Yo_11.out
  have cs0_11 := cell_of_row w9 w4.heap.size 0 _ _ _ Ys_11.out
  have cs1_11 := cell_of_row w9 w4.heap.size 1 _ _ _ Ys_11.out
  have cu0_11 := cell_of_row w9 w5.heap.size 0 _ _ _ Yu_11.out
  have cu1_11 := cell_of_row w9 w5.heap.size 1 _ _ _ Yu_11.out
  simp only [List.getElem?_toArray, List.getElem?_cons_zero, List.getElem?_cons_succ] at ct0_11 ct1_11 ct2_11 co0_11 co1_11 co2_11 cs0_11 cs1_11 cu0_11 cu1_11
  have lt_11 := rowLt Yt_11.out
  have lo_11 := rowLt Yo_11.out
  have ls_11 := rowLt Ys_11.out
  have lu_11 := rowLt Yu_11.out
  go_wp2_with fail
  go_ret
  exact ⟨rfl, (by repeat (first | exact HBW_11.out | refine bA ?_ _ | refine bd ?_ | refine bD ?_ _))⟩

/-- LevelsDiffer answers true, whatever the town and the wells -/
theorem differ_law (T : Town) (p q : Option Addr) (c d : Nat) (u v : Int) (w : World) (ht : TownIn w w.heap.size T p q) :
    Calls Try.prog 5 #[.agg #[.int .i64 T.W, .slice p T.s.length c, .slice q T.r.length d], .int .i64 u, .int .i64 v] w fun e w' => e = .returned (.bool true) ∧ Below w.heap.size w w' := by
  cases h : farB T with
  | true => exact differ_far T p q c d u v w ht h
  | false => exact differ_near T p q c d u v w ht h
end Go.Proofs.Ytmfbfcknnjbabaa
