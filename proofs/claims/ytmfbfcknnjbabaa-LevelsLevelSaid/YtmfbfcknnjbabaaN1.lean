/- LevelsLevel returns true in every walk, whatever the town, the well and the level. Made by n1.py. -/
import Derived.Test.YtmfbfcknnjbabaaM6
import Derived.Test.YtmfbfcknnjbabaaX2
set_option linter.unusedSimpArgs false
set_option linter.unusedVariables false
namespace Go.Proofs.Ytmfbfcknnjbabaa
open Go.RowKit


set_option maxRecDepth 100000 in
set_option maxHeartbeats 16000000 in
theorem level_big (T : Town) (p q : Option Addr) (c d : Nat) (u lev : Int) (w : World) (hh : 40 < T.s.length ∨ 40 < T.r.length) :
    Calls Try.prog 4 #[.agg #[.int .i64 T.W, .slice p T.s.length c, .slice q T.r.length d], .int .i64 u, .int .i64 lev] w fun e w' => e = .returned (.bool true) ∧ Below w.heap.size w w' := by
  obtain ⟨w1, hw1, hb1, hz1, y1⟩ := box_row w (.cells #[.int .i64 T.W, .slice p T.s.length c, .slice q T.r.length d] 25)
  have hu := huge_any T.W p q T.s.length T.r.length c d w1
  rw [decide_eq_true hh] at hu
  have HU := Lib.hid hu; have HB1 := Lib.hid hb1; have Yt := Lib.hid y1
  clear hu hb1 hz1 y1 hh
  have ct0_0 := cell_of_row w1 w.heap.size 0 _ _ _ Yt.out
  have ct1_0 := cell_of_row w1 w.heap.size 1 _ _ _ Yt.out
  have ct2_0 := cell_of_row w1 w.heap.size 2 _ _ _ Yt.out
  simp only [List.getElem?_toArray, List.getElem?_cons_zero, List.getElem?_cons_succ] at ct0_0 ct1_0 ct2_0
  have lt_0 := rowLt Yt.out
  go_enter Try.func4, Try.ntmps4
  go_wp2_with fail
  refine (HU.out).mono ?_
  rintro e w2 ⟨rfl, hw2⟩
  clear ct0_0 ct1_0 ct2_0 lt_0
  have Yt_1 := Lib.hid ((hw2.block _ (rowLt Yt.out)).trans Yt.out)
  have HBW_1 := Lib.hid (bT HB1.out hw2)
  clear hw2
  have ct0_1 := cell_of_row w2 w.heap.size 0 _ _ _ Yt_1.out
  have ct1_1 := cell_of_row w2 w.heap.size 1 _ _ _ Yt_1.out
  have ct2_1 := cell_of_row w2 w.heap.size 2 _ _ _ Yt_1.out
  simp only [List.getElem?_toArray, List.getElem?_cons_zero, List.getElem?_cons_succ] at ct0_1 ct1_1 ct2_1
  have lt_1 := rowLt Yt_1.out
  go_wp2_with fail
  refine (works_ex _).mono ?_
  rintro e w3 ⟨rfl, hw3⟩
  clear ct0_1 ct1_1 ct2_1 lt_1
  have Yt_2 := Lib.hid ((hw3.block _ (rowLt Yt_1.out)).trans Yt_1.out)
  have HBW_2 := Lib.hid (bT HBW_1.out hw3)
  clear hw3
  have ct0_2 := cell_of_row w3 w.heap.size 0 _ _ _ Yt_2.out
  have ct1_2 := cell_of_row w3 w.heap.size 1 _ _ _ Yt_2.out
  have ct2_2 := cell_of_row w3 w.heap.size 2 _ _ _ Yt_2.out
  simp only [List.getElem?_toArray, List.getElem?_cons_zero, List.getElem?_cons_succ] at ct0_2 ct1_2 ct2_2
  have lt_2 := rowLt Yt_2.out
  go_wp2_with fail
  go_ret
  exact ⟨rfl, (by repeat (first | exact HBW_2.out | refine bA ?_ _ | refine bd ?_ | refine bD ?_ _))⟩

set_option maxRecDepth 100000 in
set_option maxHeartbeats 16000000 in
theorem level_small (T : Town) (p q : Option Addr) (c d : Nat) (u lev : Int) (w : World) (hs : T.s.length ≤ 40) (hr : T.r.length ≤ 40) (ht : TownIn w w.heap.size T p q) :
    Calls Try.prog 4 #[.agg #[.int .i64 T.W, .slice p T.s.length c, .slice q T.r.length d], .int .i64 u, .int .i64 lev] w fun e w' => e = .returned (.bool true) ∧ Below w.heap.size w w' := by
  obtain ⟨w1, hw1, hb1, hz1, y1⟩ := box_row w (.cells #[.int .i64 T.W, .slice p T.s.length c, .slice q T.r.length d] 25)
  have hu := huge_any T.W p q T.s.length T.r.length c d w1
  rw [decide_eq_false (by omega)] at hu
  have hcp := fun (V : World) (p q : Option Addr) (c d : Nat) (h : TownIn V V.heap.size T p q) => copy_any T p q c d V (by omega) (by omega) h
  have h24 := fun (V : World) (p q : Option Addr) (c d : Nat) (h : TownIn V V.heap.size T p q) => levelP_any T u p q c d V (by omega) (by omega) h
  have h25 := fun (V : World) (p q : Option Addr) (c d : Nat) (h : TownIn V V.heap.size T p q) => levelR_any T u p q c d V (by omega) (by omega) h
  have h26 := fun (V : World) (p q : Option Addr) (c d : Nat) (h : TownIn V V.heap.size T p q) => lowestP_any T p q c d V (by omega) (by omega) h
  have h27 := fun (V : World) (p q : Option Addr) (c d : Nat) (h : TownIn V V.heap.size T p q) => lowestR_any T p q c d V (by omega) (by omega) h
  have h28 := fun (V : World) (p q : Option Addr) (c d : Nat) (h : TownIn V V.heap.size T p q) => highestP_any T p q c d V (by omega) (by omega) h
  have h29 := fun (V : World) (p q : Option Addr) (c d : Nat) (h : TownIn V V.heap.size T p q) => highestR_any T p q c d V (by omega) (by omega) h
  have h30 := fun (V : World) (p q : Option Addr) (c d : Nat) (h : TownIn V V.heap.size T p q) => overP_any T lev p q c d V (by omega) (by omega) h
  have h31 := fun (V : World) (p q : Option Addr) (c d : Nat) (h : TownIn V V.heap.size T p q) => overR_any T lev p q c d V (by omega) (by omega) h
  have hS := fun (V : World) (p q : Option Addr) (c d : Nat) (p' q' : Option Addr) (c' d' : Nat) (h : TownIn V V.heap.size T p q) (h' : TownIn V V.heap.size T p' q') => same_any T p q c d p' q' c' d' V (by omega) (by omega) h h'
  obtain ⟨X0, hX0⟩ : ∃ z, (lres T u).1.1 = z := ⟨_, rfl⟩
  obtain ⟨X1, hX1⟩ : ∃ z, (lres T u).1.2 = z := ⟨_, rfl⟩
  obtain ⟨er, her⟩ : ∃ z, (lres T u).2 = z := ⟨_, rfl⟩
  have hn6 := kres_len T true
  obtain ⟨es, hes⟩ : ∃ z, (kres T true).2 = z := ⟨_, rfl⟩
  obtain ⟨L, hL⟩ : ∃ z, (kres T true).1 = z := ⟨_, rfl⟩
  simp only [hX0, hX1, her] at h24 h25
  simp only [hes, hL] at h26 h27 h28 h29 h30 h31
  rw [hL] at hn6
  obtain ⟨n, hn⟩ : ∃ n, L.length = n := ⟨_, rfl⟩
  rw [hn] at hn6
  obtain ⟨la, hla⟩ : ∃ z, L.map (fun x => x.1) = z := ⟨_, rfl⟩
  obtain ⟨lb, hlb⟩ : ∃ z, L.map (fun x => x.2) = z := ⟨_, rfl⟩
  have hna : la.length = n := by rw [← hla, List.length_map, hn]
  have hnb : lb.length = n := by rw [← hlb, List.length_map, hn]
  obtain ⟨lc, hlc⟩ : ∃ z, ovL L lev L.length = z := ⟨_, rfl⟩
  obtain ⟨m, hm⟩ : ∃ m, lc.length = m := ⟨_, rfl⟩
  have hm6 : m ≤ 6 := by have := ovL_len L lev L.length; rw [hlc, hm, hn] at this; omega
  simp only [hn, hla] at h26 h27
  simp only [hn, hlb] at h28 h29
  simp only [hlc, hm] at h30 h31
  have hIa := fun (V : World) (p q : Option Addr) (c d : Nat) (h1 : Ints V p la) (h2 : Ints V q la) => same_ints la n p q c d V hna (by omega) h1 h2
  have hIb := fun (V : World) (p q : Option Addr) (c d : Nat) (h1 : Ints V p lb) (h2 : Ints V q lb) => same_ints lb n p q c d V hnb (by omega) h1 h2
  have hIc := fun (V : World) (p q : Option Addr) (c d : Nat) (h1 : Ints V p lc) (h2 : Ints V q lc) => same_ints lc m p q c d V hm (by omega) h1 h2
  have HU := Lib.hid hu; have HB1 := Lib.hid hb1; have Yt := Lib.hid y1; have HCP := Lib.hid hcp
  have H24 := Lib.hid h24; have H25 := Lib.hid h25; have H26 := Lib.hid h26; have H27 := Lib.hid h27; have H28 := Lib.hid h28; have H29 := Lib.hid h29; have H30 := Lib.hid h30; have H31 := Lib.hid h31
  have HS := Lib.hid hS; have HIA := Lib.hid hIa; have HIB := Lib.hid hIb; have HIC := Lib.hid hIc
  have FT := Lib.hid (ht.bel hb1)
  clear hu hb1 hz1 y1 hcp h24 h25 h26 h27 h28 h29 h30 h31 hS hIa hIb hIc hX0 hX1 her hes hL hn hla hlb hna hnb hlc hm hs hr ht
  have ct0_0 := cell_of_row w1 w.heap.size 0 _ _ _ Yt.out
  have ct1_0 := cell_of_row w1 w.heap.size 1 _ _ _ Yt.out
  have ct2_0 := cell_of_row w1 w.heap.size 2 _ _ _ Yt.out
  simp only [List.getElem?_toArray, List.getElem?_cons_zero, List.getElem?_cons_succ] at ct0_0 ct1_0 ct2_0
  have lt_0 := rowLt Yt.out
  go_enter Try.func4, Try.ntmps4
  go_wp2_with fail
  refine (HU.out).mono ?_
  rintro e w2 ⟨rfl, hw2⟩
  clear ct0_0 ct1_0 ct2_0 lt_0
  have Yt_1 := Lib.hid ((hw2.block _ (rowLt Yt.out)).trans Yt.out)
  have FT_1 := Lib.hid (FT.out.bel hw2)
  have HBW_1 := Lib.hid (bT HB1.out hw2)
  clear hw2
  have ct0_1 := cell_of_row w2 w.heap.size 0 _ _ _ Yt_1.out
  have ct1_1 := cell_of_row w2 w.heap.size 1 _ _ _ Yt_1.out
  have ct2_1 := cell_of_row w2 w.heap.size 2 _ _ _ Yt_1.out
  simp only [List.getElem?_toArray, List.getElem?_cons_zero, List.getElem?_cons_succ] at ct0_1 ct1_1 ct2_1
  have lt_1 := rowLt Yt_1.out
  go_wp2_with fail
  refine (HCP.out _ _ _ _ _ FT_1.out).mono ?_
  rintro e w3 ⟨p', c', q', d', rfl, hw3, ht3⟩
  clear ct0_1 ct1_1 ct2_1 lt_1
  have Yt_2 := Lib.hid ((hw3.block _ (rowLt Yt_1.out)).trans Yt_1.out)
  have FT_2 := Lib.hid (FT_1.out.bel hw3)
  have HBW_2 := Lib.hid (bT HBW_1.out hw3)
  clear hw3
  have ct0_2 := cell_of_row w3 w.heap.size 0 _ _ _ Yt_2.out
  have ct1_2 := cell_of_row w3 w.heap.size 1 _ _ _ Yt_2.out
  have ct2_2 := cell_of_row w3 w.heap.size 2 _ _ _ Yt_2.out
  simp only [List.getElem?_toArray, List.getElem?_cons_zero, List.getElem?_cons_succ] at ct0_2 ct1_2 ct2_2
  have lt_2 := rowLt Yt_2.out
  have FU3 := Lib.hid ht3
  clear ht3
  go_wp2_with fail
  obtain ⟨W3, hW3⟩ : ∃ W3, w3.alloc (Obj.cells #[.int .i64 T.W, (.slice p' T.s.length c'), (.slice q' T.r.length d')] 25) = W3 := ⟨_, rfl⟩
  rw [hW3]
  have hbW3 : Below w3.heap.size w3 W3 := by rw [← hW3]; exact bA (Below.refl _ _) _
  have yW3 : W3.heap[w3.heap.size]? = some (.cells #[.int .i64 T.W, (.slice p' T.s.length c'), (.slice q' T.r.length d')] 25 (0, 0)) := by rw [← hW3]; exact heap_alloc_new _ _
  have YW3 := Lib.hid yW3
  clear hW3 yW3
  clear ct0_2 ct1_2 ct2_2 lt_2
  have Yt_3 := Lib.hid ((hbW3.block _ (rowLt Yt_2.out)).trans Yt_2.out)
  have FT_3 := Lib.hid (FT_2.out.bel hbW3)
  have FU_3 := Lib.hid (FU3.out.bel hbW3)
  have HBW_3 := Lib.hid (bT HBW_2.out hbW3)
  clear hbW3
  have ct0_3 := cell_of_row W3 w.heap.size 0 _ _ _ Yt_3.out
  have ct1_3 := cell_of_row W3 w.heap.size 1 _ _ _ Yt_3.out
  have ct2_3 := cell_of_row W3 w.heap.size 2 _ _ _ Yt_3.out
  simp only [List.getElem?_toArray, List.getElem?_cons_zero, List.getElem?_cons_succ] at ct0_3 ct1_3 ct2_3
  have lt_3 := rowLt Yt_3.out
  clear ct0_3 ct1_3 ct2_3 lt_3
  have ct0_3 := cell_of_row W3 w.heap.size 0 _ _ _ Yt_3.out
  have ct1_3 := cell_of_row W3 w.heap.size 1 _ _ _ Yt_3.out
  have ct2_3 := cell_of_row W3 w.heap.size 2 _ _ _ Yt_3.out
  have co0_3 := cell_of_row W3 w3.heap.size 0 _ _ _ YW3.out
  have co1_3 := cell_of_row W3 w3.heap.size 1 _ _ _ YW3.out
  have co2_3 := cell_of_row W3 w3.heap.size 2 _ _ _ YW3.out
  simp only [List.getElem?_toArray, List.getElem?_cons_zero, List.getElem?_cons_succ] at ct0_3 ct1_3 ct2_3 co0_3 co1_3 co2_3
  have lt_3 := rowLt Yt_3.out
  have lo_3 := rowLt YW3.out
  refine (H24.out _ _ _ _ _ FU_3.out).mono ?_
  rintro e w4 ⟨rfl, hw4⟩
  clear ct0_3 ct1_3 ct2_3 co0_3 co1_3 co2_3 lt_3 lo_3
  have Yt_4 := Lib.hid ((hw4.block _ (rowLt Yt_3.out)).trans Yt_3.out)
  have Yo_4 := Lib.hid ((hw4.block _ (rowLt YW3.out)).trans YW3.out)
  have FT_4 := Lib.hid (FT_3.out.bel hw4)
  have FU_4 := Lib.hid (FU_3.out.bel hw4)
  have HBW_4 := Lib.hid (bT HBW_3.out hw4)
  clear hw4
  have ct0_4 := cell_of_row w4 w.heap.size 0 _ _ _ Yt_4.out
  have ct1_4 := cell_of_row w4 w.heap.size 1 _ _ _ Yt_4.out
  have ct2_4 := cell_of_row w4 w.heap.size 2 _ _ _ Yt_4.out
  have co0_4 := cell_of_row w4 w3.heap.size 0 _ _ _ Yo_4.out
  have co1_4 := cell_of_row w4 w3.heap.size 1 _ _ _ Yo_4.out
  have co2_4 := cell_of_row w4 w3.heap.size 2 _ _ _ Yo_4.out
  simp only [List.getElem?_toArray, List.getElem?_cons_zero, List.getElem?_cons_succ] at ct0_4 ct1_4 ct2_4 co0_4 co1_4 co2_4
  have lt_4 := rowLt Yt_4.out
  have lo_4 := rowLt Yo_4.out
  go_wp2_with fail
  obtain ⟨W4, hW4⟩ : ∃ W4, w4.alloc (Obj.cells #[.int .i64 X0, .int .i64 X1] 38) = W4 := ⟨_, rfl⟩
  rw [hW4]
  have hbW4 : Below w4.heap.size w4 W4 := by rw [← hW4]; exact bA (Below.refl _ _) _
  have yW4 : W4.heap[w4.heap.size]? = some (.cells #[.int .i64 X0, .int .i64 X1] 38 (0, 0)) := by rw [← hW4]; exact heap_alloc_new _ _
  have YW4 := Lib.hid yW4
  clear hW4 yW4
  clear ct0_4 ct1_4 ct2_4 co0_4 co1_4 co2_4 lt_4 lo_4
  have Yt_5 := Lib.hid ((hbW4.block _ (rowLt Yt_4.out)).trans Yt_4.out)
  have Yo_5 := Lib.hid ((hbW4.block _ (rowLt Yo_4.out)).trans Yo_4.out)
  have FT_5 := Lib.hid (FT_4.out.bel hbW4)
  have FU_5 := Lib.hid (FU_4.out.bel hbW4)
  have HBW_5 := Lib.hid (bT HBW_4.out hbW4)
  clear hbW4
  have ct0_5 := cell_of_row W4 w.heap.size 0 _ _ _ Yt_5.out
  have ct1_5 := cell_of_row W4 w.heap.size 1 _ _ _ Yt_5.out
  have ct2_5 := cell_of_row W4 w.heap.size 2 _ _ _ Yt_5.out
  have co0_5 := cell_of_row W4 w3.heap.size 0 _ _ _ Yo_5.out
  have co1_5 := cell_of_row W4 w3.heap.size 1 _ _ _ Yo_5.out
  have co2_5 := cell_of_row W4 w3.heap.size 2 _ _ _ Yo_5.out
  simp only [List.getElem?_toArray, List.getElem?_cons_zero, List.getElem?_cons_succ] at ct0_5 ct1_5 ct2_5 co0_5 co1_5 co2_5
  have lt_5 := rowLt Yt_5.out
  have lo_5 := rowLt Yo_5.out
  clear ct0_5 ct1_5 ct2_5 co0_5 co1_5 co2_5 lt_5 lo_5
  have ct0_5 := cell_of_row W4 w.heap.size 0 _ _ _ Yt_5.out
  have ct1_5 := cell_of_row W4 w.heap.size 1 _ _ _ Yt_5.out
  have ct2_5 := cell_of_row W4 w.heap.size 2 _ _ _ Yt_5.out
  have co0_5 := cell_of_row W4 w3.heap.size 0 _ _ _ Yo_5.out
  have co1_5 := cell_of_row W4 w3.heap.size 1 _ _ _ Yo_5.out
  have co2_5 := cell_of_row W4 w3.heap.size 2 _ _ _ Yo_5.out
  have cs0_5 := cell_of_row W4 w4.heap.size 0 _ _ _ YW4.out
  have cs1_5 := cell_of_row W4 w4.heap.size 1 _ _ _ YW4.out
  simp only [List.getElem?_toArray, List.getElem?_cons_zero, List.getElem?_cons_succ] at ct0_5 ct1_5 ct2_5 co0_5 co1_5 co2_5 cs0_5 cs1_5
  have lt_5 := rowLt Yt_5.out
  have lo_5 := rowLt Yo_5.out
  have ls_5 := rowLt YW4.out
  refine (H25.out _ _ _ _ _ FT_5.out).mono ?_
  rintro e w5 ⟨rfl, hw5⟩
  clear ct0_5 ct1_5 ct2_5 co0_5 co1_5 co2_5 cs0_5 cs1_5 lt_5 lo_5 ls_5
  have Yt_6 := Lib.hid ((hw5.block _ (rowLt Yt_5.out)).trans Yt_5.out)
  have Yo_6 := Lib.hid ((hw5.block _ (rowLt Yo_5.out)).trans Yo_5.out)
  have Ys_6 := Lib.hid ((hw5.block _ (rowLt YW4.out)).trans YW4.out)
  have FT_6 := Lib.hid (FT_5.out.bel hw5)
  have FU_6 := Lib.hid (FU_5.out.bel hw5)
  have HBW_6 := Lib.hid (bT HBW_5.out hw5)
  clear hw5
  have ct0_6 := cell_of_row w5 w.heap.size 0 _ _ _ Yt_6.out
  have ct1_6 := cell_of_row w5 w.heap.size 1 _ _ _ Yt_6.out
  have ct2_6 := cell_of_row w5 w.heap.size 2 _ _ _ Yt_6.out
  have co0_6 := cell_of_row w5 w3.heap.size 0 _ _ _ Yo_6.out
  have co1_6 := cell_of_row w5 w3.heap.size 1 _ _ _ Yo_6.out
  have co2_6 := cell_of_row w5 w3.heap.size 2 _ _ _ Yo_6.out
  have cs0_6 := cell_of_row w5 w4.heap.size 0 _ _ _ Ys_6.out
  have cs1_6 := cell_of_row w5 w4.heap.size 1 _ _ _ Ys_6.out
  simp only [List.getElem?_toArray, List.getElem?_cons_zero, List.getElem?_cons_succ] at ct0_6 ct1_6 ct2_6 co0_6 co1_6 co2_6 cs0_6 cs1_6
  have lt_6 := rowLt Yt_6.out
  have lo_6 := rowLt Yo_6.out
  have ls_6 := rowLt Ys_6.out
  go_wp2_with fail
  obtain ⟨W5, hW5⟩ : ∃ W5, w5.alloc (Obj.cells #[.int .i64 X0, .int .i64 X1] 38) = W5 := ⟨_, rfl⟩
  rw [hW5]
  have hbW5 : Below w5.heap.size w5 W5 := by rw [← hW5]; exact bA (Below.refl _ _) _
  have yW5 : W5.heap[w5.heap.size]? = some (.cells #[.int .i64 X0, .int .i64 X1] 38 (0, 0)) := by rw [← hW5]; exact heap_alloc_new _ _
  have YW5 := Lib.hid yW5
  clear hW5 yW5
  clear ct0_6 ct1_6 ct2_6 co0_6 co1_6 co2_6 cs0_6 cs1_6 lt_6 lo_6 ls_6
  have Yt_7 := Lib.hid ((hbW5.block _ (rowLt Yt_6.out)).trans Yt_6.out)
  have Yo_7 := Lib.hid ((hbW5.block _ (rowLt Yo_6.out)).trans Yo_6.out)
  have Ys_7 := Lib.hid ((hbW5.block _ (rowLt Ys_6.out)).trans Ys_6.out)
  have FT_7 := Lib.hid (FT_6.out.bel hbW5)
  have FU_7 := Lib.hid (FU_6.out.bel hbW5)
  have HBW_7 := Lib.hid (bT HBW_6.out hbW5)
  clear hbW5
  have ct0_7 := cell_of_row W5 w.heap.size 0 _ _ _ Yt_7.out
  have ct1_7 := cell_of_row W5 w.heap.size 1 _ _ _ Yt_7.out
  have ct2_7 := cell_of_row W5 w.heap.size 2 _ _ _ Yt_7.out
  have co0_7 := cell_of_row W5 w3.heap.size 0 _ _ _ Yo_7.out
  have co1_7 := cell_of_row W5 w3.heap.size 1 _ _ _ Yo_7.out
  have co2_7 := cell_of_row W5 w3.heap.size 2 _ _ _ Yo_7.out
  have cs0_7 := cell_of_row W5 w4.heap.size 0 _ _ _ Ys_7.out
  have cs1_7 := cell_of_row W5 w4.heap.size 1 _ _ _ Ys_7.out
  simp only [List.getElem?_toArray, List.getElem?_cons_zero, List.getElem?_cons_succ] at ct0_7 ct1_7 ct2_7 co0_7 co1_7 co2_7 cs0_7 cs1_7
  have lt_7 := rowLt Yt_7.out
  have lo_7 := rowLt Yo_7.out
  have ls_7 := rowLt Ys_7.out
  clear ct0_7 ct1_7 ct2_7 co0_7 co1_7 co2_7 cs0_7 cs1_7 lt_7 lo_7 ls_7
  have ct0_7 := cell_of_row W5 w.heap.size 0 _ _ _ Yt_7.out
  have ct1_7 := cell_of_row W5 w.heap.size 1 _ _ _ Yt_7.out
  have ct2_7 := cell_of_row W5 w.heap.size 2 _ _ _ Yt_7.out
  have co0_7 := cell_of_row W5 w3.heap.size 0 _ _ _ Yo_7.out
  have co1_7 := cell_of_row W5 w3.heap.size 1 _ _ _ Yo_7.out
  have co2_7 := cell_of_row W5 w3.heap.size 2 _ _ _ Yo_7.out
  have cs0_7 := cell_of_row W5 w4.heap.size 0 _ _ _ Ys_7.out
  have cs1_7 := cell_of_row W5 w4.heap.size 1 _ _ _ Ys_7.out
  have cu0_7 := cell_of_row W5 w5.heap.size 0 _ _ _ YW5.out
  have cu1_7 := cell_of_row W5 w5.heap.size 1 _ _ _ YW5.out
  simp only [List.getElem?_toArray, List.getElem?_cons_zero, List.getElem?_cons_succ] at ct0_7 ct1_7 ct2_7 co0_7 co1_7 co2_7 cs0_7 cs1_7 cu0_7 cu1_7
  have lt_7 := rowLt Yt_7.out
  have lo_7 := rowLt Yo_7.out
  have ls_7 := rowLt Ys_7.out
  have lu_7 := rowLt YW5.out
  refine (H26.out _ _ _ _ _ FU_7.out).mono ?_
  rintro e w6 ⟨p6, c6, rfl, hi6, hw6⟩
  clear ct0_7 ct1_7 ct2_7 co0_7 co1_7 co2_7 cs0_7 cs1_7 cu0_7 cu1_7 lt_7 lo_7 ls_7 lu_7
  have Yt_8 := Lib.hid ((hw6.block _ (rowLt Yt_7.out)).trans Yt_7.out)
  have Yo_8 := Lib.hid ((hw6.block _ (rowLt Yo_7.out)).trans Yo_7.out)
  have Ys_8 := Lib.hid ((hw6.block _ (rowLt Ys_7.out)).trans Ys_7.out)
  have Yu_8 := Lib.hid ((hw6.block _ (rowLt YW5.out)).trans YW5.out)
  have FT_8 := Lib.hid (FT_7.out.bel hw6)
  have FU_8 := Lib.hid (FU_7.out.bel hw6)
  have HBW_8 := Lib.hid (bT HBW_7.out hw6)
  clear hw6
  have ct0_8 := cell_of_row w6 w.heap.size 0 _ _ _ Yt_8.out
  have ct1_8 := cell_of_row w6 w.heap.size 1 _ _ _ Yt_8.out
  have ct2_8 := cell_of_row w6 w.heap.size 2 _ _ _ Yt_8.out
  have co0_8 := cell_of_row w6 w3.heap.size 0 _ _ _ Yo_8.out
  have co1_8 := cell_of_row w6 w3.heap.size 1 _ _ _ Yo_8.out
  have co2_8 := cell_of_row w6 w3.heap.size 2 _ _ _ Yo_8.out
  have cs0_8 := cell_of_row w6 w4.heap.size 0 _ _ _ Ys_8.out
  have cs1_8 := cell_of_row w6 w4.heap.size 1 _ _ _ Ys_8.out
  have cu0_8 := cell_of_row w6 w5.heap.size 0 _ _ _ Yu_8.out
  have cu1_8 := cell_of_row w6 w5.heap.size 1 _ _ _ Yu_8.out
  simp only [List.getElem?_toArray, List.getElem?_cons_zero, List.getElem?_cons_succ] at ct0_8 ct1_8 ct2_8 co0_8 co1_8 co2_8 cs0_8 cs1_8 cu0_8 cu1_8
  have lt_8 := rowLt Yt_8.out
  have lo_8 := rowLt Yo_8.out
  have ls_8 := rowLt Ys_8.out
  have lu_8 := rowLt Yu_8.out
  have FA6 := Lib.hid hi6
  clear hi6
  go_wp2_with fail
  refine (H27.out _ _ _ _ _ FT_8.out).mono ?_
  rintro e w7 ⟨p7, c7, rfl, hi7, hw7⟩
  clear ct0_8 ct1_8 ct2_8 co0_8 co1_8 co2_8 cs0_8 cs1_8 cu0_8 cu1_8 lt_8 lo_8 ls_8 lu_8
  have Yt_9 := Lib.hid ((hw7.block _ (rowLt Yt_8.out)).trans Yt_8.out)
  have Yo_9 := Lib.hid ((hw7.block _ (rowLt Yo_8.out)).trans Yo_8.out)
  have Ys_9 := Lib.hid ((hw7.block _ (rowLt Ys_8.out)).trans Ys_8.out)
  have Yu_9 := Lib.hid ((hw7.block _ (rowLt Yu_8.out)).trans Yu_8.out)
  have FT_9 := Lib.hid (FT_8.out.bel hw7)
  have FU_9 := Lib.hid (FU_8.out.bel hw7)
  have Fa_9 := Lib.hid (FA6.out.below hw7)
  have HBW_9 := Lib.hid (bT HBW_8.out hw7)
  clear hw7
  have ct0_9 := cell_of_row w7 w.heap.size 0 _ _ _ Yt_9.out
  have ct1_9 := cell_of_row w7 w.heap.size 1 _ _ _ Yt_9.out
  have ct2_9 := cell_of_row w7 w.heap.size 2 _ _ _ Yt_9.out
  have co0_9 := cell_of_row w7 w3.heap.size 0 _ _ _ Yo_9.out
  have co1_9 := cell_of_row w7 w3.heap.size 1 _ _ _ Yo_9.out
  have co2_9 := cell_of_row w7 w3.heap.size 2 _ _ _ Yo_9.out
  have cs0_9 := cell_of_row w7 w4.heap.size 0 _ _ _ Ys_9.out
  have cs1_9 := cell_of_row w7 w4.heap.size 1 _ _ _ Ys_9.out
  have cu0_9 := cell_of_row w7 w5.heap.size 0 _ _ _ Yu_9.out
  have cu1_9 := cell_of_row w7 w5.heap.size 1 _ _ _ Yu_9.out
  simp only [List.getElem?_toArray, List.getElem?_cons_zero, List.getElem?_cons_succ] at ct0_9 ct1_9 ct2_9 co0_9 co1_9 co2_9 cs0_9 cs1_9 cu0_9 cu1_9
  have lt_9 := rowLt Yt_9.out
  have lo_9 := rowLt Yo_9.out
  have ls_9 := rowLt Ys_9.out
  have lu_9 := rowLt Yu_9.out
  have FB7 := Lib.hid hi7
  clear hi7
  go_wp2_with fail
  refine (HIA.out _ _ _ _ _ Fa_9.out FB7.out).mono ?_
  rintro e w8 ⟨rfl, hw8⟩
  clear ct0_9 ct1_9 ct2_9 co0_9 co1_9 co2_9 cs0_9 cs1_9 cu0_9 cu1_9 lt_9 lo_9 ls_9 lu_9
  have Yt_10 := Lib.hid ((hw8.block _ (rowLt Yt_9.out)).trans Yt_9.out)
  have Yo_10 := Lib.hid ((hw8.block _ (rowLt Yo_9.out)).trans Yo_9.out)
  have Ys_10 := Lib.hid ((hw8.block _ (rowLt Ys_9.out)).trans Ys_9.out)
  have Yu_10 := Lib.hid ((hw8.block _ (rowLt Yu_9.out)).trans Yu_9.out)
  have FT_10 := Lib.hid (FT_9.out.bel hw8)
  have FU_10 := Lib.hid (FU_9.out.bel hw8)
  have Fa_10 := Lib.hid (Fa_9.out.below hw8)
  have Fb_10 := Lib.hid (FB7.out.below hw8)
  have HBW_10 := Lib.hid (bT HBW_9.out hw8)
  clear hw8
  have ct0_10 := cell_of_row w8 w.heap.size 0 _ _ _ Yt_10.out
  have ct1_10 := cell_of_row w8 w.heap.size 1 _ _ _ Yt_10.out
  have ct2_10 := cell_of_row w8 w.heap.size 2 _ _ _ Yt_10.out
  have co0_10 := cell_of_row w8 w3.heap.size 0 _ _ _ Yo_10.out
  have co1_10 := cell_of_row w8 w3.heap.size 1 _ _ _ Yo_10.out
  have co2_10 := cell_of_row w8 w3.heap.size 2 _ _ _ Yo_10.out
  have cs0_10 := cell_of_row w8 w4.heap.size 0 _ _ _ Ys_10.out
  have cs1_10 := cell_of_row w8 w4.heap.size 1 _ _ _ Ys_10.out
  have cu0_10 := cell_of_row w8 w5.heap.size 0 _ _ _ Yu_10.out
  have cu1_10 := cell_of_row w8 w5.heap.size 1 _ _ _ Yu_10.out
  simp only [List.getElem?_toArray, List.getElem?_cons_zero, List.getElem?_cons_succ] at ct0_10 ct1_10 ct2_10 co0_10 co1_10 co2_10 cs0_10 cs1_10 cu0_10 cu1_10
  have lt_10 := rowLt Yt_10.out
  have lo_10 := rowLt Yo_10.out
  have ls_10 := rowLt Ys_10.out
  have lu_10 := rowLt Yu_10.out
  go_wp2_with fail
  refine (H28.out _ _ _ _ _ FU_10.out).mono ?_
  rintro e w9 ⟨p9, c9, rfl, hi9, hw9⟩
  clear ct0_10 ct1_10 ct2_10 co0_10 co1_10 co2_10 cs0_10 cs1_10 cu0_10 cu1_10 lt_10 lo_10 ls_10 lu_10
  have Yt_11 := Lib.hid ((hw9.block _ (rowLt Yt_10.out)).trans Yt_10.out)
  have Yo_11 := Lib.hid ((hw9.block _ (rowLt Yo_10.out)).trans Yo_10.out)
  have Ys_11 := Lib.hid ((hw9.block _ (rowLt Ys_10.out)).trans Ys_10.out)
  have Yu_11 := Lib.hid ((hw9.block _ (rowLt Yu_10.out)).trans Yu_10.out)
  have FT_11 := Lib.hid (FT_10.out.bel hw9)
  have FU_11 := Lib.hid (FU_10.out.bel hw9)
  have Fa_11 := Lib.hid (Fa_10.out.below hw9)
  have Fb_11 := Lib.hid (Fb_10.out.below hw9)
  have HBW_11 := Lib.hid (bT HBW_10.out hw9)
  clear hw9
  have ct0_11 := cell_of_row w9 w.heap.size 0 _ _ _ Yt_11.out
  have ct1_11 := cell_of_row w9 w.heap.size 1 _ _ _ Yt_11.out
  have ct2_11 := cell_of_row w9 w.heap.size 2 _ _ _ Yt_11.out
  have co0_11 := cell_of_row w9 w3.heap.size 0 _ _ _ Yo_11.out
  have co1_11 := cell_of_row w9 w3.heap.size 1 _ _ _ Yo_11.out
  have co2_11 := cell_of_row w9 w3.heap.size 2 _ _ _ Yo_11.out
  have cs0_11 := cell_of_row w9 w4.heap.size 0 _ _ _ Ys_11.out
  have cs1_11 := cell_of_row w9 w4.heap.size 1 _ _ _ Ys_11.out
  have cu0_11 := cell_of_row w9 w5.heap.size 0 _ _ _ Yu_11.out
  have cu1_11 := cell_of_row w9 w5.heap.size 1 _ _ _ Yu_11.out
  simp only [List.getElem?_toArray, List.getElem?_cons_zero, List.getElem?_cons_succ] at ct0_11 ct1_11 ct2_11 co0_11 co1_11 co2_11 cs0_11 cs1_11 cu0_11 cu1_11
  have lt_11 := rowLt Yt_11.out
  have lo_11 := rowLt Yo_11.out
  have ls_11 := rowLt Ys_11.out
  have lu_11 := rowLt Yu_11.out
  have FA9 := Lib.hid hi9
  clear hi9
  go_wp2_with fail
  refine (H29.out _ _ _ _ _ FT_11.out).mono ?_
  rintro e w10 ⟨p10, c10, rfl, hi10, hw10⟩
  clear ct0_11 ct1_11 ct2_11 co0_11 co1_11 co2_11 cs0_11 cs1_11 cu0_11 cu1_11 lt_11 lo_11 ls_11 lu_11
  have Yt_12 := Lib.hid ((hw10.block _ (rowLt Yt_11.out)).trans Yt_11.out)
  have Yo_12 := Lib.hid ((hw10.block _ (rowLt Yo_11.out)).trans Yo_11.out)
  have Ys_12 := Lib.hid ((hw10.block _ (rowLt Ys_11.out)).trans Ys_11.out)
  have Yu_12 := Lib.hid ((hw10.block _ (rowLt Yu_11.out)).trans Yu_11.out)
  have FT_12 := Lib.hid (FT_11.out.bel hw10)
  have FU_12 := Lib.hid (FU_11.out.bel hw10)
  have Fa_12 := Lib.hid (FA9.out.below hw10)
  have HBW_12 := Lib.hid (bT HBW_11.out hw10)
  clear hw10
  have ct0_12 := cell_of_row w10 w.heap.size 0 _ _ _ Yt_12.out
  have ct1_12 := cell_of_row w10 w.heap.size 1 _ _ _ Yt_12.out
  have ct2_12 := cell_of_row w10 w.heap.size 2 _ _ _ Yt_12.out
  have co0_12 := cell_of_row w10 w3.heap.size 0 _ _ _ Yo_12.out
  have co1_12 := cell_of_row w10 w3.heap.size 1 _ _ _ Yo_12.out
  have co2_12 := cell_of_row w10 w3.heap.size 2 _ _ _ Yo_12.out
  have cs0_12 := cell_of_row w10 w4.heap.size 0 _ _ _ Ys_12.out
  have cs1_12 := cell_of_row w10 w4.heap.size 1 _ _ _ Ys_12.out
  have cu0_12 := cell_of_row w10 w5.heap.size 0 _ _ _ Yu_12.out
  have cu1_12 := cell_of_row w10 w5.heap.size 1 _ _ _ Yu_12.out
  simp only [List.getElem?_toArray, List.getElem?_cons_zero, List.getElem?_cons_succ] at ct0_12 ct1_12 ct2_12 co0_12 co1_12 co2_12 cs0_12 cs1_12 cu0_12 cu1_12
  have lt_12 := rowLt Yt_12.out
  have lo_12 := rowLt Yo_12.out
  have ls_12 := rowLt Ys_12.out
  have lu_12 := rowLt Yu_12.out
  have FB10 := Lib.hid hi10
  clear hi10
  go_wp2_with fail
  refine (H30.out _ _ _ _ _ FU_12.out).mono ?_
  rintro e w11 ⟨p11, c11, rfl, hi11, hw11⟩
  clear ct0_12 ct1_12 ct2_12 co0_12 co1_12 co2_12 cs0_12 cs1_12 cu0_12 cu1_12 lt_12 lo_12 ls_12 lu_12
  have Yt_13 := Lib.hid ((hw11.block _ (rowLt Yt_12.out)).trans Yt_12.out)
  have Yo_13 := Lib.hid ((hw11.block _ (rowLt Yo_12.out)).trans Yo_12.out)
  have Ys_13 := Lib.hid ((hw11.block _ (rowLt Ys_12.out)).trans Ys_12.out)
  have Yu_13 := Lib.hid ((hw11.block _ (rowLt Yu_12.out)).trans Yu_12.out)
  have FT_13 := Lib.hid (FT_12.out.bel hw11)
  have FU_13 := Lib.hid (FU_12.out.bel hw11)
  have Fa_13 := Lib.hid (Fa_12.out.below hw11)
  have Fb_13 := Lib.hid (FB10.out.below hw11)
  have HBW_13 := Lib.hid (bT HBW_12.out hw11)
  clear hw11
  have ct0_13 := cell_of_row w11 w.heap.size 0 _ _ _ Yt_13.out
  have ct1_13 := cell_of_row w11 w.heap.size 1 _ _ _ Yt_13.out
  have ct2_13 := cell_of_row w11 w.heap.size 2 _ _ _ Yt_13.out
  have co0_13 := cell_of_row w11 w3.heap.size 0 _ _ _ Yo_13.out
  have co1_13 := cell_of_row w11 w3.heap.size 1 _ _ _ Yo_13.out
  have co2_13 := cell_of_row w11 w3.heap.size 2 _ _ _ Yo_13.out
  have cs0_13 := cell_of_row w11 w4.heap.size 0 _ _ _ Ys_13.out
  have cs1_13 := cell_of_row w11 w4.heap.size 1 _ _ _ Ys_13.out
  have cu0_13 := cell_of_row w11 w5.heap.size 0 _ _ _ Yu_13.out
  have cu1_13 := cell_of_row w11 w5.heap.size 1 _ _ _ Yu_13.out
  simp only [List.getElem?_toArray, List.getElem?_cons_zero, List.getElem?_cons_succ] at ct0_13 ct1_13 ct2_13 co0_13 co1_13 co2_13 cs0_13 cs1_13 cu0_13 cu1_13
  have lt_13 := rowLt Yt_13.out
  have lo_13 := rowLt Yo_13.out
  have ls_13 := rowLt Ys_13.out
  have lu_13 := rowLt Yu_13.out
  have FC11 := Lib.hid hi11
  clear hi11
  go_wp2_with fail
  refine (H31.out _ _ _ _ _ FT_13.out).mono ?_
  rintro e w12 ⟨p12, c12, rfl, hi12, hw12⟩
  clear ct0_13 ct1_13 ct2_13 co0_13 co1_13 co2_13 cs0_13 cs1_13 cu0_13 cu1_13 lt_13 lo_13 ls_13 lu_13
  have Yt_14 := Lib.hid ((hw12.block _ (rowLt Yt_13.out)).trans Yt_13.out)
  have Yo_14 := Lib.hid ((hw12.block _ (rowLt Yo_13.out)).trans Yo_13.out)
  have Ys_14 := Lib.hid ((hw12.block _ (rowLt Ys_13.out)).trans Ys_13.out)
  have Yu_14 := Lib.hid ((hw12.block _ (rowLt Yu_13.out)).trans Yu_13.out)
  have FT_14 := Lib.hid (FT_13.out.bel hw12)
  have FU_14 := Lib.hid (FU_13.out.bel hw12)
  have Fa_14 := Lib.hid (Fa_13.out.below hw12)
  have Fb_14 := Lib.hid (Fb_13.out.below hw12)
  have Fc_14 := Lib.hid (FC11.out.below hw12)
  have HBW_14 := Lib.hid (bT HBW_13.out hw12)
  clear hw12
  have ct0_14 := cell_of_row w12 w.heap.size 0 _ _ _ Yt_14.out
  have ct1_14 := cell_of_row w12 w.heap.size 1 _ _ _ Yt_14.out
  have ct2_14 := cell_of_row w12 w.heap.size 2 _ _ _ Yt_14.out
  have co0_14 := cell_of_row w12 w3.heap.size 0 _ _ _ Yo_14.out
  have co1_14 := cell_of_row w12 w3.heap.size 1 _ _ _ Yo_14.out
  have co2_14 := cell_of_row w12 w3.heap.size 2 _ _ _ Yo_14.out
  have cs0_14 := cell_of_row w12 w4.heap.size 0 _ _ _ Ys_14.out
  have cs1_14 := cell_of_row w12 w4.heap.size 1 _ _ _ Ys_14.out
  have cu0_14 := cell_of_row w12 w5.heap.size 0 _ _ _ Yu_14.out
  have cu1_14 := cell_of_row w12 w5.heap.size 1 _ _ _ Yu_14.out
  simp only [List.getElem?_toArray, List.getElem?_cons_zero, List.getElem?_cons_succ] at ct0_14 ct1_14 ct2_14 co0_14 co1_14 co2_14 cs0_14 cs1_14 cu0_14 cu1_14
  have lt_14 := rowLt Yt_14.out
  have lo_14 := rowLt Yo_14.out
  have ls_14 := rowLt Ys_14.out
  have lu_14 := rowLt Yu_14.out
  have FD12 := Lib.hid hi12
  clear hi12
  go_wp2_with fail
  refine (HIB.out _ _ _ _ _ Fa_14.out Fb_14.out).mono ?_
  rintro e w13 ⟨rfl, hw13⟩
  clear ct0_14 ct1_14 ct2_14 co0_14 co1_14 co2_14 cs0_14 cs1_14 cu0_14 cu1_14 lt_14 lo_14 ls_14 lu_14
  have Yt_15 := Lib.hid ((hw13.block _ (rowLt Yt_14.out)).trans Yt_14.out)
  have Yo_15 := Lib.hid ((hw13.block _ (rowLt Yo_14.out)).trans Yo_14.out)
  have Ys_15 := Lib.hid ((hw13.block _ (rowLt Ys_14.out)).trans Ys_14.out)
  have Yu_15 := Lib.hid ((hw13.block _ (rowLt Yu_14.out)).trans Yu_14.out)
  have FT_15 := Lib.hid (FT_14.out.bel hw13)
  have FU_15 := Lib.hid (FU_14.out.bel hw13)
  have Fa_15 := Lib.hid (Fa_14.out.below hw13)
  have Fb_15 := Lib.hid (Fb_14.out.below hw13)
  have Fc_15 := Lib.hid (Fc_14.out.below hw13)
  have Fd_15 := Lib.hid (FD12.out.below hw13)
  have HBW_15 := Lib.hid (bT HBW_14.out hw13)
  clear hw13
  have ct0_15 := cell_of_row w13 w.heap.size 0 _ _ _ Yt_15.out
  have ct1_15 := cell_of_row w13 w.heap.size 1 _ _ _ Yt_15.out
  have ct2_15 := cell_of_row w13 w.heap.size 2 _ _ _ Yt_15.out
  have co0_15 := cell_of_row w13 w3.heap.size 0 _ _ _ Yo_15.out
  have co1_15 := cell_of_row w13 w3.heap.size 1 _ _ _ Yo_15.out
  have co2_15 := cell_of_row w13 w3.heap.size 2 _ _ _ Yo_15.out
  have cs0_15 := cell_of_row w13 w4.heap.size 0 _ _ _ Ys_15.out
  have cs1_15 := cell_of_row w13 w4.heap.size 1 _ _ _ Ys_15.out
  have cu0_15 := cell_of_row w13 w5.heap.size 0 _ _ _ Yu_15.out
  have cu1_15 := cell_of_row w13 w5.heap.size 1 _ _ _ Yu_15.out
  simp only [List.getElem?_toArray, List.getElem?_cons_zero, List.getElem?_cons_succ] at ct0_15 ct1_15 ct2_15 co0_15 co1_15 co2_15 cs0_15 cs1_15 cu0_15 cu1_15
  have lt_15 := rowLt Yt_15.out
  have lo_15 := rowLt Yo_15.out
  have ls_15 := rowLt Ys_15.out
  have lu_15 := rowLt Yu_15.out
  go_wp2_with fail
  refine (HIC.out _ _ _ _ _ Fc_15.out Fd_15.out).mono ?_
  rintro e w14 ⟨rfl, hw14⟩
  clear ct0_15 ct1_15 ct2_15 co0_15 co1_15 co2_15 cs0_15 cs1_15 cu0_15 cu1_15 lt_15 lo_15 ls_15 lu_15
  have Yt_16 := Lib.hid ((hw14.block _ (rowLt Yt_15.out)).trans Yt_15.out)
  have Yo_16 := Lib.hid ((hw14.block _ (rowLt Yo_15.out)).trans Yo_15.out)
  have Ys_16 := Lib.hid ((hw14.block _ (rowLt Ys_15.out)).trans Ys_15.out)
  have Yu_16 := Lib.hid ((hw14.block _ (rowLt Yu_15.out)).trans Yu_15.out)
  have FT_16 := Lib.hid (FT_15.out.bel hw14)
  have FU_16 := Lib.hid (FU_15.out.bel hw14)
  have Fa_16 := Lib.hid (Fa_15.out.below hw14)
  have Fb_16 := Lib.hid (Fb_15.out.below hw14)
  have Fc_16 := Lib.hid (Fc_15.out.below hw14)
  have Fd_16 := Lib.hid (Fd_15.out.below hw14)
  have HBW_16 := Lib.hid (bT HBW_15.out hw14)
  clear hw14
  have ct0_16 := cell_of_row w14 w.heap.size 0 _ _ _ Yt_16.out
  have ct1_16 := cell_of_row w14 w.heap.size 1 _ _ _ Yt_16.out
  have ct2_16 := cell_of_row w14 w.heap.size 2 _ _ _ Yt_16.out
  have co0_16 := cell_of_row w14 w3.heap.size 0 _ _ _ Yo_16.out
  have co1_16 := cell_of_row w14 w3.heap.size 1 _ _ _ Yo_16.out
  have co2_16 := cell_of_row w14 w3.heap.size 2 _ _ _ Yo_16.out
  have cs0_16 := cell_of_row w14 w4.heap.size 0 _ _ _ Ys_16.out
  have cs1_16 := cell_of_row w14 w4.heap.size 1 _ _ _ Ys_16.out
  have cu0_16 := cell_of_row w14 w5.heap.size 0 _ _ _ Yu_16.out
  have cu1_16 := cell_of_row w14 w5.heap.size 1 _ _ _ Yu_16.out
  simp only [List.getElem?_toArray, List.getElem?_cons_zero, List.getElem?_cons_succ] at ct0_16 ct1_16 ct2_16 co0_16 co1_16 co2_16 cs0_16 cs1_16 cu0_16 cu1_16
  have lt_16 := rowLt Yt_16.out
  have lo_16 := rowLt Yo_16.out
  have ls_16 := rowLt Ys_16.out
  have lu_16 := rowLt Yu_16.out
  go_wp2_with fail
  refine (HS.out _ _ _ _ _ _ _ _ _ FU_16.out FT_16.out).mono ?_
  rintro e w15 ⟨rfl, hw15⟩
  clear ct0_16 ct1_16 ct2_16 co0_16 co1_16 co2_16 cs0_16 cs1_16 cu0_16 cu1_16 lt_16 lo_16 ls_16 lu_16
  have Yt_17 := Lib.hid ((hw15.block _ (rowLt Yt_16.out)).trans Yt_16.out)
  have Yo_17 := Lib.hid ((hw15.block _ (rowLt Yo_16.out)).trans Yo_16.out)
  have Ys_17 := Lib.hid ((hw15.block _ (rowLt Ys_16.out)).trans Ys_16.out)
  have Yu_17 := Lib.hid ((hw15.block _ (rowLt Yu_16.out)).trans Yu_16.out)
  have FT_17 := Lib.hid (FT_16.out.bel hw15)
  have FU_17 := Lib.hid (FU_16.out.bel hw15)
  have Fa_17 := Lib.hid (Fa_16.out.below hw15)
  have Fb_17 := Lib.hid (Fb_16.out.below hw15)
  have Fc_17 := Lib.hid (Fc_16.out.below hw15)
  have Fd_17 := Lib.hid (Fd_16.out.below hw15)
  have HBW_17 := Lib.hid (bT HBW_16.out hw15)
  clear hw15
  have ct0_17 := cell_of_row w15 w.heap.size 0 _ _ _ Yt_17.out
  have ct1_17 := cell_of_row w15 w.heap.size 1 _ _ _ Yt_17.out
  have ct2_17 := cell_of_row w15 w.heap.size 2 _ _ _ Yt_17.out
  have co0_17 := cell_of_row w15 w3.heap.size 0 _ _ _ Yo_17.out
  have co1_17 := cell_of_row w15 w3.heap.size 1 _ _ _ Yo_17.out
  have co2_17 := cell_of_row w15 w3.heap.size 2 _ _ _ Yo_17.out
  have cs0_17 := cell_of_row w15 w4.heap.size 0 _ _ _ Ys_17.out
  have cs1_17 := cell_of_row w15 w4.heap.size 1 _ _ _ Ys_17.out
  have cu0_17 := cell_of_row w15 w5.heap.size 0 _ _ _ Yu_17.out
  have cu1_17 := cell_of_row w15 w5.heap.size 1 _ _ _ Yu_17.out
  simp only [List.getElem?_toArray, List.getElem?_cons_zero, List.getElem?_cons_succ] at ct0_17 ct1_17 ct2_17 co0_17 co1_17 co2_17 cs0_17 cs1_17 cu0_17 cu1_17
  have lt_17 := rowLt Yt_17.out
  have lo_17 := rowLt Yo_17.out
  have ls_17 := rowLt Ys_17.out
  have lu_17 := rowLt Yu_17.out
  go_wp2_with fail
  refine (works_ex _).mono ?_
  rintro e w16 ⟨rfl, hw16⟩
  clear ct0_17 ct1_17 ct2_17 co0_17 co1_17 co2_17 cs0_17 cs1_17 cu0_17 cu1_17 lt_17 lo_17 ls_17 lu_17
  have Yt_18 := Lib.hid ((hw16.block _ (rowLt Yt_17.out)).trans Yt_17.out)
  have Yo_18 := Lib.hid ((hw16.block _ (rowLt Yo_17.out)).trans Yo_17.out)
  have Ys_18 := Lib.hid ((hw16.block _ (rowLt Ys_17.out)).trans Ys_17.out)
  have Yu_18 := Lib.hid ((hw16.block _ (rowLt Yu_17.out)).trans Yu_17.out)
  have FT_18 := Lib.hid (FT_17.out.bel hw16)
  have FU_18 := Lib.hid (FU_17.out.bel hw16)
  have Fa_18 := Lib.hid (Fa_17.out.below hw16)
  have Fb_18 := Lib.hid (Fb_17.out.below hw16)
  have Fc_18 := Lib.hid (Fc_17.out.below hw16)
  have Fd_18 := Lib.hid (Fd_17.out.below hw16)
  have HBW_18 := Lib.hid (bT HBW_17.out hw16)
  clear hw16
  have ct0_18 := cell_of_row w16 w.heap.size 0 _ _ _ Yt_18.out
  have ct1_18 := cell_of_row w16 w.heap.size 1 _ _ _ Yt_18.out
  have ct2_18 := cell_of_row w16 w.heap.size 2 _ _ _ Yt_18.out
  have co0_18 := cell_of_row w16 w3.heap.size 0 _ _ _ Yo_18.out
  have co1_18 := cell_of_row w16 w3.heap.size 1 _ _ _ Yo_18.out
  have co2_18 := cell_of_row w16 w3.heap.size 2 _ _ _ Yo_18.out
  have cs0_18 := cell_of_row w16 w4.heap.size 0 _ _ _ Ys_18.out
  have cs1_18 := cell_of_row w16 w4.heap.size 1 _ _ _ Ys_18.out
  have cu0_18 := cell_of_row w16 w5.heap.size 0 _ _ _ Yu_18.out
  have cu1_18 := cell_of_row w16 w5.heap.size 1 _ _ _ Yu_18.out
  simp only [List.getElem?_toArray, List.getElem?_cons_zero, List.getElem?_cons_succ] at ct0_18 ct1_18 ct2_18 co0_18 co1_18 co2_18 cs0_18 cs1_18 cu0_18 cu1_18
  have lt_18 := rowLt Yt_18.out
  have lo_18 := rowLt Yo_18.out
  have ls_18 := rowLt Ys_18.out
  have lu_18 := rowLt Yu_18.out
  go_wp2_with fail
  go_ret
  exact ⟨rfl, (by repeat (first | exact HBW_18.out | refine bA ?_ _ | refine bd ?_ | refine bD ?_ _))⟩

/-- LevelsLevel answers true, whatever the town, the well and the level -/
theorem level_law (T : Town) (p q : Option Addr) (c d : Nat) (u lev : Int) (w : World) (ht : TownIn w w.heap.size T p q) :
    Calls Try.prog 4 #[.agg #[.int .i64 T.W, .slice p T.s.length c, .slice q T.r.length d], .int .i64 u, .int .i64 lev] w fun e w' => e = .returned (.bool true) ∧ Below w.heap.size w w' := by
  by_cases h : 40 < T.s.length ∨ 40 < T.r.length
  · exact level_big T p q c d u lev w h
  · exact level_small T p q c d u lev w (by omega) (by omega) ht
end Go.Proofs.Ytmfbfcknnjbabaa
