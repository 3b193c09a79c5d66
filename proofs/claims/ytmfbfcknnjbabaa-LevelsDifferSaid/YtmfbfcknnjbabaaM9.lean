/- Differ and Higher of both sides, for any town. Made by m9.py. -/
import Derived.Test.YtmfbfcknnjbabaaM6
import Derived.Test.YtmfbfcknnjbabaaM8
set_option linter.unusedSimpArgs false
set_option linter.unusedVariables false
namespace Go.Proofs.Ytmfbfcknnjbabaa
open Go.RowKit

set_option maxRecDepth 100000 in
set_option maxHeartbeats 2000000 in
theorem differ_er (T : Town) (a b er : Int) (p q : Option Addr) (c d : Nat) (w : World) (hs : T.s.length ≤ 1000000) (hr : T.r.length ≤ 1000000) (h : learnt T [a, b] = (0, Z49, er)) (f0 : (er != 0) = true) (ht : TownIn w w.heap.size T p q) :
    Calls Try.prog 33 #[.agg #[.int .i64 T.W, .slice p T.s.length c, .slice q T.r.length d], .int .i64 a, .int .i64 b] w fun e w' =>
      e = .returned (.tuple #[.agg #[.int .i64 0, .int .i64 0], .int .i64 er]) ∧ Below w.heap.size w w' := by
  obtain ⟨w1, hw1, hb1, hz1, k0, k1, k2⟩ := box_town w T.W p q T.s.length T.r.length c d
  have hl1 : w.heap.size < w1.heap.size := by omega
  have hlearn : ∀ W cx g, W.heap.size = g → Below w1.heap.size w1 W → Calls Try.prog 58 #[.agg #[.int .i64 T.W, .slice p T.s.length c, .slice q T.r.length d], .slice (some ⟨g, 0, none⟩) 2 cx] (W.alloc (.cells #[.int .i64 a, .int .i64 b] 3)) fun e w' =>
      e = .returned (.tuple #[.agg (kv 0 Z49), .int .i64 er]) ∧ Below (W.alloc (.cells #[.int .i64 a, .int .i64 b] 3)).heap.size (W.alloc (.cells #[.int .i64 a, .int .i64 b] 3)) w' := fun W cx g hg hW => by
    subst hg
    exact learn_er T er p q c d [a, b] _ cx _ hs hr h (by simp) ((ht.below (bT hb1 (bA hW _))).mono (bT hb1 (bA hW _)).size) (lit2 _ _ (Below.refl _ _))
  have HL := Lib.hid hlearn; have HB1 := Lib.hid hb1
  clear hlearn hb1 hz1 ht h hs hr
  go_enter Try.func33, Try.ntmps33
  go_wp2_with (first
    | (go_at_call 58; refine (HL.out _ _ _ (by simp) (by repeat (first | exact Below.refl _ _ | refine bA ?_ _))).mono ?_; rintro e w2 ⟨rfl, hb2⟩; have HB2 := Lib.hid (bT (by repeat (first | exact Below.refl _ _ | refine bA ?_ _) : Below w1.heap.size w1 _) hb2); have hl2 : w1.heap.size + 1 < w2.heap.size := (by have := hb2.size; simp at this; omega); have r0 : w2.cell? ⟨w1.heap.size, 0, none⟩ = some (.int .i64 0) := (hb2.cell (by simp; try omega)).trans (by go_simp); have r1 : w2.cell? ⟨w1.heap.size, 1, none⟩ = some (.int .i64 0) := (hb2.cell (by simp; try omega)).trans (by go_simp); have ff : ∀ i, w2.frozen? ⟨w1.heap.size, i, none⟩ = false := (fun i => (hb2.frozen (by simp; try omega)).trans (by go_simp)); clear hb2)
    | (refine wpList_alloc_kv rfl rfl ?_; intro w3 hr3 hb3 hz3; have HR3 := Lib.hid hr3; have HB3 := Lib.hid hb3; have HZ3 := Lib.hid hz3; clear hr3 hb3 hz3)
    | (refine wpList_store_kv rfl _ _ rfl _ 0 0 Z49 Z49 rfl rfl rfl HR3.out ?_; intro w4 hr4 ho4; go_must (have HB4 := Lib.hid (only_below HB3.out ho4 (Nat.le_refl _)); have s0 := (HB4.out.cell (p := ⟨w1.heap.size, 0, none⟩) (by simp; omega)).trans r0; have s1 := (HB4.out.cell (p := ⟨w1.heap.size, 1, none⟩) (by simp; omega)).trans r1; have g0 : ∀ i, w4.frozen? ⟨w1.heap.size, i, none⟩ = false := (fun i => (HB4.out.frozen (by simp; omega)).trans (ff i)); clear hr4 ho4)))
  exact bodyPost_ret (v := .tuple #[.agg #[.int .i64 0, .int .i64 0], .int .i64 er]) (by simp [results, Try.results33, go_sem, s0, s1]) rfl ⟨rfl, bS (bS (bT (bT HB1.out HB2.out) HB4.out) (by simp; omega) _) (by simp; omega) _⟩

set_option maxRecDepth 100000 in
set_option maxHeartbeats 2000000 in
theorem higher_er (T : Town) (a b er : Int) (p q : Option Addr) (c d : Nat) (w : World) (hs : T.s.length ≤ 1000000) (hr : T.r.length ≤ 1000000) (h : learnt T [a, b] = (0, Z49, er)) (f0 : (er != 0) = true) (ht : TownIn w w.heap.size T p q) :
    Calls Try.prog 35 #[.agg #[.int .i64 T.W, .slice p T.s.length c, .slice q T.r.length d], .int .i64 a, .int .i64 b] w fun e w' =>
      e = .returned (.tuple #[.int .i64 0, .int .i64 er]) ∧ Below w.heap.size w w' := by
  obtain ⟨w1, hw1, hb1, hz1, k0, k1, k2⟩ := box_town w T.W p q T.s.length T.r.length c d
  have hl1 : w.heap.size < w1.heap.size := by omega
  have hlearn : ∀ W cx g, W.heap.size = g → Below w1.heap.size w1 W → Calls Try.prog 58 #[.agg #[.int .i64 T.W, .slice p T.s.length c, .slice q T.r.length d], .slice (some ⟨g, 0, none⟩) 2 cx] (W.alloc (.cells #[.int .i64 a, .int .i64 b] 3)) fun e w' =>
      e = .returned (.tuple #[.agg (kv 0 Z49), .int .i64 er]) ∧ Below (W.alloc (.cells #[.int .i64 a, .int .i64 b] 3)).heap.size (W.alloc (.cells #[.int .i64 a, .int .i64 b] 3)) w' := fun W cx g hg hW => by
    subst hg
    exact learn_er T er p q c d [a, b] _ cx _ hs hr h (by simp) ((ht.below (bT hb1 (bA hW _))).mono (bT hb1 (bA hW _)).size) (lit2 _ _ (Below.refl _ _))
  have HL := Lib.hid hlearn; have HB1 := Lib.hid hb1
  clear hlearn hb1 hz1 ht h hs hr
  go_enter Try.func35, Try.ntmps35
  go_wp2_with (first
    | (go_at_call 58; refine (HL.out _ _ _ (by simp) (by repeat (first | exact Below.refl _ _ | refine bA ?_ _))).mono ?_; rintro e w2 ⟨rfl, hb2⟩; have HB2 := Lib.hid (bT (by repeat (first | exact Below.refl _ _ | refine bA ?_ _) : Below w1.heap.size w1 _) hb2); clear hb2)
    | (refine wpList_alloc_kv rfl rfl ?_; intro w3 hr3 hb3 hz3; have HR3 := Lib.hid hr3; have HB3 := Lib.hid hb3; have HZ3 := Lib.hid hz3; clear hr3 hb3 hz3)
    | (refine wpList_store_kv rfl _ _ rfl _ 0 0 Z49 Z49 rfl rfl rfl HR3.out ?_; intro w4 hr4 ho4; go_must (have HB4 := Lib.hid (only_below HB3.out ho4 (Nat.le_refl _)); clear hr4 ho4)))
  go_ret2
  exact ⟨rfl, bT (bT HB1.out HB2.out) HB4.out⟩

theorem asks_two {T : Town} (a b : Int) (hok : T.ok = true) : asks T [a, b] = (within a 0 (wrap64 (T.W - 1)) && within b 0 (wrap64 (T.W - 1))) := by
  have hW := ok_W hok
  rw [IntWalk.wrap64_in _ (by omega)]
  simp [asks]
theorem dres_ok {T : Town} {a b : Int} (h : (kres T (within a 0 (wrap64 (T.W - 1)) && within b 0 (wrap64 (T.W - 1)))).2 = 0) :
    T.ok = true ∧ ∃ (M : List Int) (u v : Nat), kn T = some M ∧ a = u ∧ b = v ∧ (u : Int) < T.W ∧ (v : Int) < T.W ∧ dres T a b = (dif M (u + 1) (v + 1), 0) := by
  obtain ⟨hok, hb, M, hM, _⟩ := kres_ok h
  have hW := ok_W hok
  have hb' := hb
  rw [IntWalk.wrap64_in _ (by omega)] at hb
  simp only [within, Bool.and_eq_true, decide_eq_true_eq] at hb
  obtain ⟨u, rfl⟩ : ∃ u : Nat, a = u := ⟨a.toNat, by omega⟩
  obtain ⟨v, rfl⟩ : ∃ v : Nat, b = v := ⟨b.toNat, by omega⟩
  refine ⟨hok, M, u, v, hM, rfl, rfl, by omega, by omega, ?_⟩
  simp only [dres]
  rw [if_pos h, hM]
  simp
theorem dres_er {T : Town} {a b : Int} (h : (kres T (within a 0 (wrap64 (T.W - 1)) && within b 0 (wrap64 (T.W - 1)))).2 ≠ 0) : dres T a b = ((0, 0), (kres T (within a 0 (wrap64 (T.W - 1)) && within b 0 (wrap64 (T.W - 1)))).2) := by
  simp only [dres]; rw [if_neg h]
theorem learnt_two {T : Town} {a b : Int} (h : (kres T (within a 0 (wrap64 (T.W - 1)) && within b 0 (wrap64 (T.W - 1)))).2 ≠ 0) : learnt T [a, b] = (0, Z49, (kres T (within a 0 (wrap64 (T.W - 1)) && within b 0 (wrap64 (T.W - 1)))).2) := by
  have ha : kres T (asks T [a, b]) = kres T (within a 0 (wrap64 (T.W - 1)) && within b 0 (wrap64 (T.W - 1))) := by
    cases hok : T.ok with
    | true => rw [asks_two a b hok]
    | false => exact kres_bad hok
  rw [← ha]
  exact learnt_er (by rw [ha]; exact h)
theorem differP_any (T : Town) (a b : Int) (p q : Option Addr) (c d : Nat) (w : World) (hs : T.s.length ≤ 1000000) (hr : T.r.length ≤ 1000000) (ht : TownIn w w.heap.size T p q) :
    Calls Try.prog 33 #[.agg #[.int .i64 T.W, .slice p T.s.length c, .slice q T.r.length d], .int .i64 a, .int .i64 b] w fun e w' =>
      e = .returned (.tuple #[.agg #[.int .i64 (dres T a b).1.1, .int .i64 (dres T a b).1.2], .int .i64 (dres T a b).2]) ∧ Below w.heap.size w w' := by
  by_cases he : (kres T (within a 0 (wrap64 (T.W - 1)) && within b 0 (wrap64 (T.W - 1)))).2 = 0
  · obtain ⟨hok, M, u, v, hM, rfl, rfl, hu, hv, e⟩ := dres_ok he
    rw [e]
    exact differ_ok T M u v p q c d w hok hM hu hv ht
  · rw [dres_er he]
    exact differ_er T a b _ p q c d w hs hr (learnt_two he) (by simpa using he) ht
theorem differR_any (T : Town) (a b : Int) (p q : Option Addr) (c d : Nat) (w : World) (hs : T.s.length ≤ 1000000) (hr : T.r.length ≤ 1000000) (ht : TownIn w w.heap.size T p q) :
    Calls Try.prog 34 #[.agg #[.int .i64 T.W, .slice p T.s.length c, .slice q T.r.length d], .int .i64 a, .int .i64 b] w fun e w' =>
      e = .returned (.tuple #[.agg #[.int .i64 (dres T a b).1.1, .int .i64 (dres T a b).1.2], .int .i64 (dres T a b).2]) ∧ Below w.heap.size w w' := by
  by_cases he : (kres T (within a 0 (wrap64 (T.W - 1)) && within b 0 (wrap64 (T.W - 1)))).2 = 0
  · obtain ⟨hok, M, u, v, hM, rfl, rfl, hu, hv, e⟩ := dres_ok he
    have hW := ok_W hok
    rw [e, dif_eq (kn_clo hok hM) (by omega) (by omega)]
    exact differR_ok T M T.W.toNat u v p q c d w hok hM (by omega) (by omega) (by omega) ht
  · rw [dres_er he]
    exact differR_er T a b _ p q c d w hs hr ht rfl he
/-- what Higher returns -/
def hires (T : Town) (a b : Int) : Int × Int := if (dres T b a).2 = 0 then (hiB (dres T b a).1, 0) else (0, (dres T b a).2)
theorem higherP_any (T : Town) (a b : Int) (p q : Option Addr) (c d : Nat) (w : World) (hs : T.s.length ≤ 1000000) (hr : T.r.length ≤ 1000000) (ht : TownIn w w.heap.size T p q) :
    Calls Try.prog 35 #[.agg #[.int .i64 T.W, .slice p T.s.length c, .slice q T.r.length d], .int .i64 a, .int .i64 b] w fun e w' =>
      e = .returned (.tuple #[.int .i64 (hires T a b).1, .int .i64 (hires T a b).2]) ∧ Below w.heap.size w w' := by
  by_cases he : (kres T (within b 0 (wrap64 (T.W - 1)) && within a 0 (wrap64 (T.W - 1)))).2 = 0
  · obtain ⟨hok, M, v, u, hM, rfl, rfl, hv, hu, e⟩ := dres_ok he
    have e2 : hires T u v = (hiB (dif M (v + 1) (u + 1)), 0) := by simp [hires, e]
    rw [e2]
    exact higher_ok T M u v p q c d w hok hM hu hv ht
  · have e2 : hires T a b = (0, (kres T (within b 0 (wrap64 (T.W - 1)) && within a 0 (wrap64 (T.W - 1)))).2) := by simp [hires, dres_er he, he]
    rw [e2]
    rw [Bool.and_comm] at he ⊢
    exact higher_er T a b _ p q c d w hs hr (learnt_two he) (by simpa using he) ht

set_option maxRecDepth 100000 in
set_option maxHeartbeats 4000000 in
theorem higherR_any (T : Town) (a b : Int) (p q : Option Addr) (c d : Nat) (w : World) (hs : T.s.length ≤ 1000000) (hr : T.r.length ≤ 1000000) (ht : TownIn w w.heap.size T p q) :
    Calls Try.prog 36 #[.agg #[.int .i64 T.W, .slice p T.s.length c, .slice q T.r.length d], .int .i64 a, .int .i64 b] w fun e w' => e = .returned (.tuple #[.int .i64 (hires T a b).1, .int .i64 (hires T a b).2]) ∧ Below w.heap.size w w' := by
  obtain ⟨w1, hw1, hb1, hz1, y1⟩ := box_row w (.cells #[.int .i64 T.W, .slice p T.s.length c, .slice q T.r.length d] 25)
  have hd := differR_any T b a p q c d w1 hs hr (ht.bel hb1)
  have hh : hires T a b = if (dres T b a).2 = 0 then (hiB (dres T b a).1, 0) else (0, (dres T b a).2) := rfl
  obtain ⟨er, her⟩ : ∃ z, (dres T b a).2 = z := ⟨_, rfl⟩
  obtain ⟨⟨X0, X1⟩, hX⟩ : ∃ z, (dres T b a).1 = z := ⟨_, rfl⟩
  rw [her, hX] at hd hh
  simp only at hd
  have HD := Lib.hid hd; have HB1 := Lib.hid hb1; have Yt := Lib.hid y1
  clear hd hb1 y1 hz1 ht hs hr her hX
  by_cases he : er = 0
  · subst he
    rw [if_pos rfl] at hh
    by_cases g1 : 0 < X0
    · have HV := Lib.hid (show hires T a b = (1, 0) by rw [hh]; simp [hiB, g1])
      have d1 : decide (0 < X0) = true := decide_eq_true g1
      clear hh g1

      have ct0_0 := cell_of_row w1 w.heap.size 0 _ _ _ Yt.out
      have ct1_0 := cell_of_row w1 w.heap.size 1 _ _ _ Yt.out
      have ct2_0 := cell_of_row w1 w.heap.size 2 _ _ _ Yt.out
      simp only [List.getElem?_toArray, List.getElem?_cons_zero, List.getElem?_cons_succ] at ct0_0 ct1_0 ct2_0
      have lt_0 := rowLt Yt.out
      go_enter Try.func36, Try.ntmps36
      go_wp2_with fail
      refine (HD.out).mono ?_
      rintro e w2 ⟨rfl, hw2⟩
      clear ct0_0 ct1_0 ct2_0 lt_0
      have Yt_1 := Lib.hid ((hw2.block _ (rowLt Yt.out)).trans Yt.out)
      have HBW_1 := Lib.hid (bT HB1.out hw2)
      clear hw2
      have ct0_1 := cell_of_row w2 w.heap.size 0 _ _ _ Yt_1.out
      have ct1_1 := cell_of_row w2 w.heap.size 1 _ _ _ Yt_1.out
      have ct2_1 := cell_of_row w2 w.heap.size 2 _ _ _ Yt_1.out
      simp only [List.getElem?_toArray, List.getElem?_cons_zero, List.getElem?_cons_succ] at ct0_1 ct1_1 ct2_1
      have lt_1 := rowLt Yt_1.out
      go_wp2_with fail
      go_ret2
      exact ⟨by rw [HV.out]; rfl, (by repeat (first | exact HBW_1.out | refine bA ?_ _ | refine bd ?_ | refine bD ?_ _))⟩
    · have d1 : decide (0 < X0) = false := decide_eq_false g1
      by_cases g2 : X1 ≤ 0
      · have HV := Lib.hid (show hires T a b = (2, 0) by rw [hh]; simp [hiB, g1, g2])
        have d2 : decide (X1 ≤ 0) = true := decide_eq_true g2
        clear hh g1 g2

        have ct0_0 := cell_of_row w1 w.heap.size 0 _ _ _ Yt.out
        have ct1_0 := cell_of_row w1 w.heap.size 1 _ _ _ Yt.out
        have ct2_0 := cell_of_row w1 w.heap.size 2 _ _ _ Yt.out
        simp only [List.getElem?_toArray, List.getElem?_cons_zero, List.getElem?_cons_succ] at ct0_0 ct1_0 ct2_0
        have lt_0 := rowLt Yt.out
        go_enter Try.func36, Try.ntmps36
        go_wp2_with fail
        refine (HD.out).mono ?_
        rintro e w2 ⟨rfl, hw2⟩
        clear ct0_0 ct1_0 ct2_0 lt_0
        have Yt_1 := Lib.hid ((hw2.block _ (rowLt Yt.out)).trans Yt.out)
        have HBW_1 := Lib.hid (bT HB1.out hw2)
        clear hw2
        have ct0_1 := cell_of_row w2 w.heap.size 0 _ _ _ Yt_1.out
        have ct1_1 := cell_of_row w2 w.heap.size 1 _ _ _ Yt_1.out
        have ct2_1 := cell_of_row w2 w.heap.size 2 _ _ _ Yt_1.out
        simp only [List.getElem?_toArray, List.getElem?_cons_zero, List.getElem?_cons_succ] at ct0_1 ct1_1 ct2_1
        have lt_1 := rowLt Yt_1.out
        go_wp2_with fail
        go_ret2
        exact ⟨by rw [HV.out]; rfl, (by repeat (first | exact HBW_1.out | refine bA ?_ _ | refine bd ?_ | refine bD ?_ _))⟩
      · have HV := Lib.hid (show hires T a b = (3, 0) by rw [hh]; simp [hiB, g1, g2])
        have d2 : decide (X1 ≤ 0) = false := decide_eq_false g2
        clear hh g1 g2

        have ct0_0 := cell_of_row w1 w.heap.size 0 _ _ _ Yt.out
        have ct1_0 := cell_of_row w1 w.heap.size 1 _ _ _ Yt.out
        have ct2_0 := cell_of_row w1 w.heap.size 2 _ _ _ Yt.out
        simp only [List.getElem?_toArray, List.getElem?_cons_zero, List.getElem?_cons_succ] at ct0_0 ct1_0 ct2_0
        have lt_0 := rowLt Yt.out
        go_enter Try.func36, Try.ntmps36
        go_wp2_with fail
        refine (HD.out).mono ?_
        rintro e w2 ⟨rfl, hw2⟩
        clear ct0_0 ct1_0 ct2_0 lt_0
        have Yt_1 := Lib.hid ((hw2.block _ (rowLt Yt.out)).trans Yt.out)
        have HBW_1 := Lib.hid (bT HB1.out hw2)
        clear hw2
        have ct0_1 := cell_of_row w2 w.heap.size 0 _ _ _ Yt_1.out
        have ct1_1 := cell_of_row w2 w.heap.size 1 _ _ _ Yt_1.out
        have ct2_1 := cell_of_row w2 w.heap.size 2 _ _ _ Yt_1.out
        simp only [List.getElem?_toArray, List.getElem?_cons_zero, List.getElem?_cons_succ] at ct0_1 ct1_1 ct2_1
        have lt_1 := rowLt Yt_1.out
        go_wp2_with fail
        go_ret2
        exact ⟨by rw [HV.out]; rfl, (by repeat (first | exact HBW_1.out | refine bA ?_ _ | refine bd ?_ | refine bD ?_ _))⟩
  · rw [if_neg he] at hh
    have HV := Lib.hid hh
    have f0 : (er != 0) = true := by simpa using he
    clear hh he

    have ct0_0 := cell_of_row w1 w.heap.size 0 _ _ _ Yt.out
    have ct1_0 := cell_of_row w1 w.heap.size 1 _ _ _ Yt.out
    have ct2_0 := cell_of_row w1 w.heap.size 2 _ _ _ Yt.out
    simp only [List.getElem?_toArray, List.getElem?_cons_zero, List.getElem?_cons_succ] at ct0_0 ct1_0 ct2_0
    have lt_0 := rowLt Yt.out
    go_enter Try.func36, Try.ntmps36
    go_wp2_with fail
    refine (HD.out).mono ?_
    rintro e w2 ⟨rfl, hw2⟩
    clear ct0_0 ct1_0 ct2_0 lt_0
    have Yt_1 := Lib.hid ((hw2.block _ (rowLt Yt.out)).trans Yt.out)
    have HBW_1 := Lib.hid (bT HB1.out hw2)
    clear hw2
    have ct0_1 := cell_of_row w2 w.heap.size 0 _ _ _ Yt_1.out
    have ct1_1 := cell_of_row w2 w.heap.size 1 _ _ _ Yt_1.out
    have ct2_1 := cell_of_row w2 w.heap.size 2 _ _ _ Yt_1.out
    simp only [List.getElem?_toArray, List.getElem?_cons_zero, List.getElem?_cons_succ] at ct0_1 ct1_1 ct2_1
    have lt_1 := rowLt Yt_1.out
    go_wp2_with fail
    go_ret2
    exact ⟨by rw [HV.out]; rfl, (by repeat (first | exact HBW_1.out | refine bA ?_ _ | refine bd ?_ | refine bD ?_ _))⟩
end Go.Proofs.Ytmfbfcknnjbabaa
