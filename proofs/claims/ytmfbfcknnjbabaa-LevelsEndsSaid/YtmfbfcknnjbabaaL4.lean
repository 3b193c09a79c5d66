/- LevelsEnds where there is a truth. Made by gen_l4.py. -/
import Derived.Test.YtmfbfcknnjbabaaL3
import Derived.Deep.DeepFit
set_option linter.unusedSimpArgs false
set_option linter.unusedVariables false
namespace Go.Proofs.Ytmfbfcknnjbabaa
open Go.RowKit

set_option maxRecDepth 100000 in
set_option maxHeartbeats 16000000 in
theorem ends_main (T : Town) (M : List Int) (p q : Option Addr) (c d : Nat) (u v : Nat) (t y : Int) (w : World) (ht : TownIn w w.heap.size T p q)
    (hr : rdy T = true) (hu : (u : Int) < T.W) (hv : (v : Int) < T.W) (h7 : T.s.length + T.r.length ≤ 7) (hk : kn T = some M) :
    Calls Try.prog 10 #[.agg #[.int .i64 T.W, .slice p T.s.length c, .slice q T.r.length d], .agg #[.int .i64 u, .int .i64 v, .int .i64 t, .int .i64 y]] w fun e w' => e = .returned (.bool true) ∧ Below w.heap.size w w' := by
  obtain ⟨a, ea⟩ : ∃ a : Int, a = u := ⟨_, rfl⟩
  obtain ⟨b, eb⟩ : ∃ b : Int, b = v := ⟨_, rfl⟩
  rw [← ea, ← eb]
  obtain ⟨w1, hw1, hb1, hz1, k0, k1, k2, k3, k4, k5, k6⟩ := box_ask w T.W p q T.s.length T.r.length c d a b t y
  have l0 : w.heap.size < w1.heap.size := by omega
  have l1 : w.heap.size + 1 < w1.heap.size := by omega
  have HBB1 := Lib.hid (Below.refl w1.heap.size w1)
  have HB1 := Lib.hid hb1
  have hrdy := ready_any T p q c d w1 (ht.bel hb1)
  obtain ⟨hok, hW5, _⟩ := rdy_ok hr
  have hW := ok_W hok
  rw [hr] at hrdy
  have HR := Lib.hid hrdy
  have hia : ∀ V, Calls Try.prog 48 #[.agg #[.int .i64 T.W, .slice p T.s.length c, .slice q T.r.length d], .int .i64 a] V fun e w' => e = .returned (.bool true) ∧ Below V.heap.size V w' := fun V => isWell_b T.W a _ _ true V (by omega) (by omega) (by simp only [within, decide_eq_true_eq]; omega)
  have hib : ∀ V, Calls Try.prog 48 #[.agg #[.int .i64 T.W, .slice p T.s.length c, .slice q T.r.length d], .int .i64 b] V fun e w' => e = .returned (.bool true) ∧ Below V.heap.size V w' := fun V => isWell_b T.W b _ _ true V (by omega) (by omega) (by simp only [within, decide_eq_true_eq]; omega)
  have hmy : ∀ V, Calls Try.prog 50 #[.agg #[.int .i64 T.W, .slice p T.s.length c, .slice q T.r.length d]] V fun e w' => e = .returned (.int .i64 ((T.s.length : Int) + T.r.length)) ∧ Below V.heap.size V w' := fun V => many_ex T.W p q T.s.length T.r.length c d V (by omega) (by omega)
  have HA := Lib.hid hia; have HB := Lib.hid hib; have HM := Lib.hid hmy
  have d1 : decide ((7 : Int) < (T.s.length : Int) + (T.r.length : Int)) = false := decide_eq_false (by omega)
  have hM := kn_clo hok hk
  have huv : (u + 1 < 7) ∧ (v + 1 < 7) := by omega
  have hdf : ∀ V, Below w.heap.size w V → Calls Try.prog 33 #[.agg #[.int .i64 T.W, .slice p T.s.length c, .slice q T.r.length d], .int .i64 a, .int .i64 b] V fun e w' => e = .returned (.tuple #[.agg #[.int .i64 (-D M (v + 1) (u + 1)), .int .i64 (D M (u + 1) (v + 1))], .int .i64 0]) ∧ Below V.heap.size V w' := fun V hV => by
    have := differ_ok T M u v p q c d V hok hk hu hv (ht.bel hV)
    rw [dif_eq hM huv.1 huv.2] at this
    rw [ea, eb]; exact this
  have hlv : ∀ V, Below w.heap.size w V → Calls Try.prog 24 #[.agg #[.int .i64 T.W, .slice p T.s.length c, .slice q T.r.length d], .int .i64 a] V fun e w' => e = .returned (.tuple #[.agg #[.int .i64 (-D M (u + 1) 0), .int .i64 (D M 0 (u + 1))], .int .i64 0]) ∧ Below V.heap.size V w' := fun V hV => by
    have := level_ok T M u p q c d V hok hk hu (ht.bel hV)
    rw [dif_eq hM (by omega) huv.1] at this
    rw [ea]; exact this
  have hcp : ∀ V, Below w.heap.size w V → _ := fun V hV => copy_own T p q c d V (by omega) (by omega) (ht.bel hV)
  have hsd : ∀ V n, Below w.heap.size w V → _ := fun V n hV => sounded_in T a n p q c d V (by omega) (by omega) (ht.bel hV)
  have he1 : ∀ n V p' c' q' d', -99 ≤ n → n ≤ 99 → a ≠ b → TownIn V V.heap.size (T.slp ⟨a, b, n, n⟩) p' q' → Calls Try.prog 47 #[.agg #[.int .i64 T.W, .slice p' T.s.length c', .slice q' (T.r.length + 1) d']] V fun e w' => ∃ p1 n1 c1 p2 n2 c2, e = .returned (.tuple #[.slice p1 n1 c1, .slice p2 n2 c2, .bool (within n (-D M (v + 1) (u + 1)) (D M (u + 1) (v + 1))), .bool true]) ∧ Below V.heap.size V w' := fun n V p' c' q' d' h0 h1 hab htn => by
    have hsl : (T.slp ⟨a, b, n, n⟩).ok = true := ok_slp hok h7 (by
      have : (a == b) = false := by simpa using hab
      simp only [rOk, within, this, Bool.and_eq_true, decide_eq_true_eq, Bool.not_false]; exact ⟨by omega, by omega, trivial, by omega, by omega⟩)
    have := ends_any (T.slp ⟨a, b, n, n⟩) p' q' c' d' V hsl htn
    rw [more_iff hok hsl hk (f := u + 1) (t := v + 1) (n := n) huv.1 huv.2 (by have := sat_slp (T := T) (y := ⟨a, b, n, n⟩) (n := n) rfl rfl; simpa [wR, ea, eb] using this)] at this
    simpa [Town.slp, within] using this
  have he2 : ∀ n V p' c' q' d', 0 ≤ n → n ≤ 99 → TownIn V V.heap.size (T.snd ⟨a, n, n⟩) p' q' → Calls Try.prog 47 #[.agg #[.int .i64 T.W, .slice p' (T.s.length + 1) c', .slice q' T.r.length d']] V fun e w' => ∃ p1 n1 c1 p2 n2 c2, e = .returned (.tuple #[.slice p1 n1 c1, .slice p2 n2 c2, .bool (within n (-D M (u + 1) 0) (D M 0 (u + 1))), .bool true]) ∧ Below V.heap.size V w' := fun n V p' c' q' d' h0 h1 htn => by
    have hsl : (T.snd ⟨a, n, n⟩).ok = true := ok_snd hok h7 (by
      simp only [sOk, within, Bool.and_eq_true, decide_eq_true_eq]; omega)
    have := ends_any (T.snd ⟨a, n, n⟩) p' q' c' d' V hsl htn
    rw [more_iff hok hsl hk (f := 0) (t := u + 1) (n := n) (by omega) huv.1 (by have := sat_snd (T := T) (y := ⟨a, n, n⟩) (n := n) rfl rfl; simpa [wS, ea] using this)] at this
    simpa [Town.snd, within] using this
  have hb1' := hM.le (u + 1) (v + 1) huv.1 huv.2
  have hb2' := hM.le (v + 1) (u + 1) huv.2 huv.1
  have hb3' : -D M (v + 1) (u + 1) ≤ D M (u + 1) (v + 1) := by
    have f1 := hM.tri (u + 1) (v + 1) (u + 1) huv.1 huv.2 huv.1
    have f2 := hM.diag (u + 1) huv.1
    omega
  have hb4' := hM.le 0 (u + 1) (by omega) huv.1
  have hb5' : -D M (u + 1) 0 ≤ D M 0 (u + 1) := by
    have f1 := hM.tri 0 (u + 1) 0 (by omega) huv.1 (by omega)
    have f2 := hM.diag 0 (by omega)
    omega
  have hb6' : 0 ≤ -D M (u + 1) 0 := by
    have hh := heard_kn hok
    rw [hk] at hh
    have f1 := (fits_U (pt_zero M (u + 1))).1 ((hh.2 _).1 (pt_fits hM huv.1)).1 (u + 1) huv.1
    have f2 := hM.diag (u + 1) huv.1
    simp only [pt] at f1
    omega
  obtain ⟨X, hX⟩ : ∃ z, -D M (v + 1) (u + 1) = z := ⟨_, rfl⟩
  obtain ⟨Y, hY⟩ : ∃ z, D M (u + 1) (v + 1) = z := ⟨_, rfl⟩
  obtain ⟨X2, hX2⟩ : ∃ z, -D M (u + 1) 0 = z := ⟨_, rfl⟩
  obtain ⟨Y2, hY2⟩ : ∃ z, D M 0 (u + 1) = z := ⟨_, rfl⟩
  have b1 : -99 ≤ X := by omega
  have b2 : Y ≤ 99 := by omega
  have b3 : X ≤ Y := by omega
  have b4 : 0 ≤ X2 := by omega
  have b5 : Y2 ≤ 99 := by omega
  have b6 : X2 ≤ Y2 := by omega
  rw [hX, hY] at hdf
  rw [hX2, hY2] at hlv
  simp only [hX, hY] at he1
  simp only [hX2, hY2] at he2
  have HD := Lib.hid hdf; have HL := Lib.hid hlv; have HC := Lib.hid hcp; have HS := Lib.hid hsd; have HE1 := Lib.hid he1; have HE2 := Lib.hid he2
  have t1 : decide (X < -99) = false := decide_eq_false (by omega)
  have t2 : decide (99 < Y) = false := decide_eq_false (by omega)
  have t3 : decide (Y < X) = false := decide_eq_false (by omega)
  have t4 : decide (X2 < 0) = false := decide_eq_false (by omega)
  have t5 : decide (99 < Y2) = false := decide_eq_false (by omega)
  have t6 : decide (Y2 < X2) = false := decide_eq_false (by omega)
  have HT7 := Lib.hid h7
  obtain ⟨i4, hi4, hz4, hz4', hz4''⟩ := info_parts info58
  have I4 := Lib.hid hi4; have Z4 := Lib.hid hz4; have Z4' := Lib.hid hz4'; have Z4'' := Lib.hid hz4''
  clear hi4 hz4 hz4' hz4'' hia hib hmy hrdy hr ht hb1 hdf hlv hcp hsd he1 he2 hok hk hu hv ea eb h7 huv hX hY hX2 hY2 hb1' hb2' hb3' hb4' hb5' hb6' hM hW hW5
  go_enter Try.func10, Try.ntmps10
  go_wp2_with fail
  refine (HR.out).mono ?_
  rintro e w2 ⟨rfl, hb2⟩
  have HBB2 := Lib.hid (bT HBB1.out hb2)
  clear hb2
  have c20 := (HBB2.out.cell (p := ⟨w.heap.size, 0, none⟩) l0).trans k0
  have c21 := (HBB2.out.cell (p := ⟨w.heap.size, 1, none⟩) l0).trans k1
  have c22 := (HBB2.out.cell (p := ⟨w.heap.size, 2, none⟩) l0).trans k2
  have c23 := (HBB2.out.cell (p := ⟨w.heap.size + 1, 0, none⟩) l1).trans k3
  have c24 := (HBB2.out.cell (p := ⟨w.heap.size + 1, 1, none⟩) l1).trans k4
  go_wp2_with fail
  refine (HA.out _).mono ?_
  rintro e w3 ⟨rfl, hb3⟩
  have HBB3 := Lib.hid (bT HBB2.out hb3)
  clear hb3
  have c30 := (HBB3.out.cell (p := ⟨w.heap.size, 0, none⟩) l0).trans k0
  have c31 := (HBB3.out.cell (p := ⟨w.heap.size, 1, none⟩) l0).trans k1
  have c32 := (HBB3.out.cell (p := ⟨w.heap.size, 2, none⟩) l0).trans k2
  have c33 := (HBB3.out.cell (p := ⟨w.heap.size + 1, 0, none⟩) l1).trans k3
  have c34 := (HBB3.out.cell (p := ⟨w.heap.size + 1, 1, none⟩) l1).trans k4
  clear c20 c21 c22 c23 c24
  go_wp2_with fail
  refine (HB.out _).mono ?_
  rintro e w4 ⟨rfl, hb4⟩
  have HBB4 := Lib.hid (bT HBB3.out hb4)
  clear hb4
  have c40 := (HBB4.out.cell (p := ⟨w.heap.size, 0, none⟩) l0).trans k0
  have c41 := (HBB4.out.cell (p := ⟨w.heap.size, 1, none⟩) l0).trans k1
  have c42 := (HBB4.out.cell (p := ⟨w.heap.size, 2, none⟩) l0).trans k2
  have c43 := (HBB4.out.cell (p := ⟨w.heap.size + 1, 0, none⟩) l1).trans k3
  have c44 := (HBB4.out.cell (p := ⟨w.heap.size + 1, 1, none⟩) l1).trans k4
  clear c30 c31 c32 c33 c34
  go_wp2_with fail
  refine (HM.out _).mono ?_
  rintro e w5 ⟨rfl, hb5⟩
  have HBB5 := Lib.hid (bT HBB4.out hb5)
  clear hb5
  have c50 := (HBB5.out.cell (p := ⟨w.heap.size, 0, none⟩) l0).trans k0
  have c51 := (HBB5.out.cell (p := ⟨w.heap.size, 1, none⟩) l0).trans k1
  have c52 := (HBB5.out.cell (p := ⟨w.heap.size, 2, none⟩) l0).trans k2
  have c53 := (HBB5.out.cell (p := ⟨w.heap.size + 1, 0, none⟩) l1).trans k3
  have c54 := (HBB5.out.cell (p := ⟨w.heap.size + 1, 1, none⟩) l1).trans k4
  clear c40 c41 c42 c43 c44
  go_wp2_with fail
  refine (HD.out _ (bT HB1.out HBB5.out)).mono ?_
  rintro e w6 ⟨rfl, hb6⟩
  have HBB6 := Lib.hid (bT HBB5.out hb6)
  clear hb6
  have c60 := (HBB6.out.cell (p := ⟨w.heap.size, 0, none⟩) l0).trans k0
  have c61 := (HBB6.out.cell (p := ⟨w.heap.size, 1, none⟩) l0).trans k1
  have c62 := (HBB6.out.cell (p := ⟨w.heap.size, 2, none⟩) l0).trans k2
  have c63 := (HBB6.out.cell (p := ⟨w.heap.size + 1, 0, none⟩) l1).trans k3
  have c64 := (HBB6.out.cell (p := ⟨w.heap.size + 1, 1, none⟩) l1).trans k4
  clear c50 c51 c52 c53 c54
  go_wp2_with fail
  obtain ⟨W6, hW6⟩ : ∃ W6, w6.alloc (Obj.cells #[.int .i64 X, .int .i64 Y] 38) = W6 := ⟨_, rfl⟩
  rw [hW6]
  have l6 : w6.heap.size < W6.heap.size := by rw [← hW6]; simp
  have x6 : W6.heap[w6.heap.size]? = some (.cells #[.int .i64 X, .int .i64 Y] 38 (0, 0)) := by rw [← hW6]; exact heap_alloc_new _ _
  have HBW6 := Lib.hid (show Below w1.heap.size w1 W6 by rw [← hW6]; exact bA HBB6.out _)
  have X6 := Lib.hid x6
  have HH6 := Lib.hid hW6
  clear x6 hW6 c60 c61 c62 c63 c64
  go_loopw [7] (fun i wr => ∃ n : Int, i = .int .i64 n ∧ X - 1 ≤ n ∧ n ≤ Y + 2 ∧ Below W6.heap.size W6 wr) (fun i _ => (Y + 2 - intOf i).toNat)
  case atStart => exact ⟨X - 1, by go_num, by omega, by omega, Below.refl _ _⟩
  case round =>
    obtain ⟨n, rfl, hn0, hn1, hb⟩ := hrel
    have HBBr := Lib.hid (bT HBW6.out hb)
    have xr := (hb.block w6.heap.size l6).trans X6.out
    have hbr := Lib.hid hb
    clear hb
    have cr0 := (HBBr.out.cell (p := ⟨w.heap.size, 0, none⟩) l0).trans k0
    have cr1 := (HBBr.out.cell (p := ⟨w.heap.size, 1, none⟩) l0).trans k1
    have cr2 := (HBBr.out.cell (p := ⟨w.heap.size, 2, none⟩) l0).trans k2
    have cr3 := (HBBr.out.cell (p := ⟨w.heap.size + 1, 0, none⟩) l1).trans k3
    have cr4 := (HBBr.out.cell (p := ⟨w.heap.size + 1, 1, none⟩) l1).trans k4
    have r0 := cell_of_row wr w6.heap.size 0 _ _ _ xr
    have r1 := cell_of_row wr w6.heap.size 1 _ _ _ xr
    simp only [List.getElem?_toArray, List.getElem?_cons_zero, List.getElem?_cons_succ] at r0 r1
    have lr6 : w6.heap.size < wr.heap.size := Boxed_lt xr
    clear xr
    by_cases h9 : n ≤ Y + 1
    · have g0 : decide (n ≤ Y + 1) = true := decide_eq_true h9
      by_cases hsk : (X < n ∧ n < Y) ∨ n < -99 ∨ 99 < n ∨ a = b
      · have hsd : ((decide (X < n) = true ∧ decide (n < Y) = true) ∨ (((decide (X < n) = true ∧ decide (n < Y) = false) ∨ decide (X < n) = false) ∧ (decide (n < -99) = true ∨ (decide (n < -99) = false ∧ (decide (99 < n) = true ∨ (decide (99 < n) = false ∧ (a == b) = true)))))) := by
          simp only [decide_eq_true_eq, decide_eq_false_iff_not, beq_iff_eq]
          omega
        clear hsk
        rcases hsd with ⟨e1, e2⟩ | ⟨⟨e1, e2⟩ | e1, e3 | ⟨e3, e4 | ⟨e4, e5⟩⟩⟩
        all_goals
          go_wp2_with fail
          exact ⟨⟨n + 1, rfl, by omega, by omega, hbr.out⟩, by simp only [intOf]; omega⟩
      · have f1 : ¬ (X < n ∧ n < Y) := fun h => hsk (.inl h)
        have hab : a ≠ b := fun h => hsk (.inr (.inr (.inr h)))
        have f3 : -99 ≤ n := by omega
        have f4 : n ≤ 99 := by omega
        have e3 : decide (n < -99) = false := decide_eq_false (by omega)
        have e4 : decide (99 < n) = false := decide_eq_false (by omega)
        have e5 : (a == b) = false := by simpa using hab
        have he := fun V p' c' q' d' => HE1.out n V p' c' q' d' f3 f4 hab
        have hwi := fun V => within_any n X Y V
        obtain ⟨β, hβ⟩ : ∃ z, within n X Y = z := ⟨_, rfl⟩
        simp only [hβ] at he hwi
        have HE := Lib.hid he; have HWI := Lib.hid hwi
        have hd : (decide (X < n) = true ∧ decide (n < Y) = false) ∨ decide (X < n) = false := by
          by_cases h : X < n
          · exact .inl ⟨decide_eq_true h, decide_eq_false (fun k => f1 ⟨h, k⟩)⟩
          · exact .inr (decide_eq_false h)
        have hbw := Lib.hid (bT HB1.out HBBr.out)
        clear hsk hab f1 he hwi hβ HD HL HE1 HE2 HS HA HB HM HR
        rcases hd with ⟨e1, e2⟩ | e1
        all_goals
          go_wp2_with fail
          refine (HC.out wr hbw.out).mono ?_
          rintro e w7 ⟨p2, c2, q2, d2, rfl, hb7, ho7⟩
          have HBB7 := Lib.hid (bT HBBr.out hb7)
          have HR7 := Lib.hid hb7
          have HO7 := Lib.hid ho7
          clear hb7 ho7
          have c70 := (HBB7.out.cell (p := ⟨w.heap.size, 0, none⟩) l0).trans k0
          have c71 := (HBB7.out.cell (p := ⟨w.heap.size, 1, none⟩) l0).trans k1
          have c72 := (HBB7.out.cell (p := ⟨w.heap.size, 2, none⟩) l0).trans k2
          have c73 := (HBB7.out.cell (p := ⟨w.heap.size + 1, 0, none⟩) l1).trans k3
          have c74 := (HBB7.out.cell (p := ⟨w.heap.size + 1, 1, none⟩) l1).trans k4
          have l70 : w.heap.size < w7.heap.size := by have := HBB7.out.size; omega
          have l71 : w.heap.size + 1 < w7.heap.size := by have := HBB7.out.size; omega
          clear cr0 cr1 cr2 cr3 cr4
          go_wp2_with (at_builtin; refine wpList_append_own _ rfl _ _ 23 rfl (wr.heap.size + 2) 58 i4 _ 4 32 Try.underlying23 I4.out Z4.out Z4'.out Z4''.out rfl (by decide) _ _ _ rfl ((HO7.out.r.alloc _).alloc _) ⟨w7.heap.size + 1, 0, none⟩ 1 1 [.int .i64 a, .int .i64 b, .int .i64 n, .int .i64 n] rfl rfl ?c1 ?c2 ?c3 ?c4 ?c5 ?_)
          case c1 => exact World.news_of_block (cs := #[.int .i64 a, .int .i64 b, .int .i64 n, .int .i64 n]) (t := 58) (fr := (0, 0)) (by have := heap_alloc_new (w7.alloc (Obj.cells #[Value.int IntKind.i64 T.W, Value.slice p2 T.s.length c2, Value.slice q2 T.r.length d2] 25)) (Obj.cells #[.int .i64 a, .int .i64 b, .int .i64 n, .int .i64 n] 58); simpa using this)
          case c2 => simp [Value.oneCell']
          case c3 => have := HT7.out; unfold maxLen; omega
          case c4 => have := HT7.out; omega
          case c5 => have := HO7.out.r.1; have := HR7.out.size; simp; omega
          intro v' w8 hown hgrow _
          obtain ⟨W', hW'⟩ : ∃ W', (w7.alloc (Obj.cells #[Value.int IntKind.i64 T.W, Value.slice p2 T.s.length c2, Value.slice q2 T.r.length d2] 25)).alloc (Obj.cells #[.int .i64 a, .int .i64 b, .int .i64 n, .int .i64 n] 58) = W' := ⟨_, rfl⟩
          rw [hW'] at hgrow
          obtain ⟨p3, c3, rfl, _⟩ := own_form hown
          have hbx : W'.heap[w7.heap.size]? = some (.cells #[Value.int IntKind.i64 T.W, Value.slice p2 T.s.length c2, Value.slice q2 T.r.length d2] 25 (0, 0)) := by
            rw [← hW']; exact (Below.heap_alloc _ _ _ (by simp)).trans (heap_alloc_new _ _)
          have hb7W : Below w7.heap.size w7 W' := by rw [← hW']; exact bA (bA (Below.refl _ _) _) _
          have hoS : W'.ownsRow (wr.heap.size + 2) 62 3 (.slice p2 T.s.length c2) T.s.length (flatS T.s) := own_below HO7.out.s hb7W
          have hoR : W'.ownsRow (wr.heap.size + 2) 58 4 (.slice q2 T.r.length d2) T.r.length (flatR T.r) := own_below HO7.out.r hb7W
          have hsz : w7.heap.size < W'.heap.size := (Array.getElem?_eq_some_iff.1 hbx).1
          have hb8 : w8.heap[w7.heap.size]? = some (.cells #[Value.int IntKind.i64 T.W, Value.slice p2 T.s.length c2, Value.slice q2 T.r.length d2] 25 (0, 0)) := (hgrow.block _ hsz (own_ne_box hoR hbx (by decide))).trans hbx
          have hoS8 : w8.ownsRow (wr.heap.size + 2) 62 3 (.slice p2 T.s.length c2) T.s.length (flatS T.s) := hoS.kept hgrow (own_ne hoS hoR (by decide))
          have hbelow : Below wr.heap.size wr w8 := below_grown (bT HR7.out hb7W) hoR (by omega) hgrow
          have s0 := cell_of_row w8 w7.heap.size 0 _ _ _ hb8
          have s1 := cell_of_row w8 w7.heap.size 1 _ _ _ hb8
          have s2 := cell_of_row w8 w7.heap.size 2 _ _ _ hb8
          have fs : ∀ i, w8.frozen? ⟨w7.heap.size, i, none⟩ = false := fun i => by simp [World.frozen?, hb8]
          simp only [List.getElem?_toArray, List.getElem?_cons_zero, List.getElem?_cons_succ] at s0 s1 s2
          have hto : TownOwn (w8.setCell ⟨w7.heap.size, 2, none⟩ (.slice p3 (T.r.length + 1) c3)) (wr.heap.size + 2) (T.slp ⟨a, b, n, n⟩) p2 p3 c2 c3 := by
            refine ⟨own_set_ne hoS8 hb8 (by decide), ?_⟩
            have := own_set_ne (o := 2) (u := .slice p3 (T.r.length + 1) c3) hown hb8 (by decide)
            simpa [Town.slp, flatR_snoc] using this
          have HTO := Lib.hid hto.town
          have HR8 := Lib.hid (bS hbelow (show wr.heap.size ≤ (⟨w7.heap.size, 2, none⟩ : Addr).block from HR7.out.size) (.slice p3 (T.r.length + 1) c3))
          clear hown hgrow hbx hb7W hoS hoR hsz hb8 hoS8 hbelow hW' HO7 hto c70 c71 c72 c73 c74
          go_wp2_with fail
          refine (HE.out _ _ _ _ _ HTO.out).mono ?_
          rintro e w9 ⟨y1, m1, z1, y2, m2, z2, rfl, hb9⟩
          have HR9 := Lib.hid (bT HR8.out hb9)
          have u0 := (HR9.out.cell (p := ⟨w6.heap.size, 0, none⟩) lr6).trans r0
          have u1 := (HR9.out.cell (p := ⟨w6.heap.size, 1, none⟩) lr6).trans r1
          clear hb9 s0 s1 s2 fs
          go_wp2_with fail
          refine (HWI.out _).mono ?_
          rintro e w10 ⟨rfl, rfl⟩
          cases β
          all_goals
            go_wp2_with fail
            exact ⟨⟨n + 1, rfl, by omega, by omega, bT hbr.out HR9.out⟩, by simp only [intOf]; omega⟩
    · have g0 : decide (n ≤ Y + 1) = false := decide_eq_false h9
      have hbw := Lib.hid (bT HB1.out HBBr.out)
      clear HD HE1 HB HM HR HC hbr X6 HBW6 HH6 I4 Z4 Z4' Z4''
      go_wp2_with fail
      refine (HL.out wr hbw.out).mono ?_
      rintro e v7 ⟨rfl, hb7⟩
      have HBB7 := Lib.hid (bT HBBr.out hb7)
      clear hb7 cr0 cr1 cr2 cr3 cr4 r0 r1
      go_wp2_with fail
      obtain ⟨W7, hW7⟩ : ∃ W7, v7.alloc (Obj.cells #[.int .i64 X2, .int .i64 Y2] 38) = W7 := ⟨_, rfl⟩
      rw [hW7]
      have l7 : v7.heap.size < W7.heap.size := by rw [← hW7]; simp
      have x7 : W7.heap[v7.heap.size]? = some (.cells #[.int .i64 X2, .int .i64 Y2] 38 (0, 0)) := by rw [← hW7]; exact heap_alloc_new _ _
      have HBW7 := Lib.hid (show Below w1.heap.size w1 W7 by rw [← hW7]; exact bA HBB7.out _)
      have X7 := Lib.hid x7
      have HH7 := Lib.hid hW7
      have HN1 := Lib.hid (And.intro hn0 (And.intro hn1 h9))
      clear x7 hW7 hn0 hn1 h9 hbw HBBr HBB7 lr6
      go_loopw [14] (fun i wr => ∃ n : Int, i = .int .i64 n ∧ X2 - 1 ≤ n ∧ n ≤ Y2 + 2 ∧ Below W7.heap.size W7 wr) (fun i _ => (Y2 + 2 - intOf i).toNat)
      case atStart => exact ⟨X2 - 1, by go_num, by omega, by omega, Below.refl _ _⟩
      case round =>
        obtain ⟨m, rfl, hn0, hn1, hb⟩ := hrel
        have HBBr := Lib.hid (bT HBW7.out hb)
        have xr := (hb.block v7.heap.size l7).trans X7.out
        have hbr := Lib.hid hb
        clear hb
        have cr0 := (HBBr.out.cell (p := ⟨w.heap.size, 0, none⟩) l0).trans k0
        have cr1 := (HBBr.out.cell (p := ⟨w.heap.size, 1, none⟩) l0).trans k1
        have cr2 := (HBBr.out.cell (p := ⟨w.heap.size, 2, none⟩) l0).trans k2
        have cr3 := (HBBr.out.cell (p := ⟨w.heap.size + 1, 0, none⟩) l1).trans k3
        have cr4 := (HBBr.out.cell (p := ⟨w.heap.size + 1, 1, none⟩) l1).trans k4
        have r0 := cell_of_row wr v7.heap.size 0 _ _ _ xr
        have r1 := cell_of_row wr v7.heap.size 1 _ _ _ xr
        simp only [List.getElem?_toArray, List.getElem?_cons_zero, List.getElem?_cons_succ] at r0 r1
        have lr6 : v7.heap.size < wr.heap.size := Boxed_lt xr
        clear xr
        by_cases h9 : m ≤ Y2 + 1
        · have g0' : decide (m ≤ Y2 + 1) = true := decide_eq_true h9
          by_cases hsk : (X2 < m ∧ m < Y2) ∨ m < 0 ∨ 99 < m
          · have hsd : ((decide (X2 < m) = true ∧ decide (m < Y2) = true) ∨ (((decide (X2 < m) = true ∧ decide (m < Y2) = false) ∨ decide (X2 < m) = false) ∧ (decide (m < 0) = true ∨ (decide (m < 0) = false ∧ decide (99 < m) = true)))) := by
              simp only [decide_eq_true_eq, decide_eq_false_iff_not]
              omega
            clear hsk
            rcases hsd with ⟨e1, e2⟩ | ⟨⟨e1, e2⟩ | e1, e3 | ⟨e3, e4⟩⟩
            all_goals
              go_wp2_with fail
              exact ⟨⟨m + 1, rfl, by omega, by omega, hbr.out⟩, by simp only [intOf]; omega⟩
          · have f1 : ¬ (X2 < m ∧ m < Y2) := fun h => hsk (.inl h)
            have f3 : 0 ≤ m := by omega
            have f4 : m ≤ 99 := by omega
            have e3 : decide (m < 0) = false := decide_eq_false (by omega)
            have e4 : decide (99 < m) = false := decide_eq_false (by omega)
            have he := fun V p' c' q' d' => HE2.out m V p' c' q' d' f3 f4
            have hwi := fun V => within_any m X2 Y2 V
            obtain ⟨β, hβ⟩ : ∃ z, within m X2 Y2 = z := ⟨_, rfl⟩
            simp only [hβ] at he hwi
            have HE := Lib.hid he; have HWI := Lib.hid hwi
            have hd : (decide (X2 < m) = true ∧ decide (m < Y2) = false) ∨ decide (X2 < m) = false := by
              by_cases h : X2 < m
              · exact .inl ⟨decide_eq_true h, decide_eq_false (fun k => f1 ⟨h, k⟩)⟩
              · exact .inr (decide_eq_false h)
            have hbw := Lib.hid (bT HB1.out HBBr.out)
            clear hsk f1 he hwi hβ
            rcases hd with ⟨e1, e2⟩ | e1
            all_goals
              go_wp2_with fail
              refine (HS.out wr m hbw.out).mono ?_
              rintro e w8 ⟨p2, c2, q2, d2, rfl, hb8, ht8⟩
              have HR8 := Lib.hid hb8
              have HT8 := Lib.hid ht8
              clear hb8 ht8 cr0 cr1 cr2 cr3 cr4
              go_wp2_with fail
              refine (HE.out _ _ _ _ _ HT8.out).mono ?_
              rintro e w9 ⟨y1, m1, z1, y2, m2, z2, rfl, hb9⟩
              have HR9 := Lib.hid (bT HR8.out hb9)
              have u0 := (HR9.out.cell (p := ⟨v7.heap.size, 0, none⟩) lr6).trans r0
              have u1 := (HR9.out.cell (p := ⟨v7.heap.size, 1, none⟩) lr6).trans r1
              clear hb9
              go_wp2_with fail
              refine (HWI.out _).mono ?_
              rintro e w10 ⟨rfl, rfl⟩
              cases β
              all_goals
                go_wp2_with fail
                exact ⟨⟨m + 1, rfl, by omega, by omega, bT hbr.out HR9.out⟩, by simp only [intOf]; omega⟩
        · have g0' : decide (m ≤ Y2 + 1) = false := decide_eq_false h9
          go_wp2_with fail
          refine (works_ex _).mono ?_
          rintro e w9 ⟨rfl, hb9⟩
          have HB9 := Lib.hid (bT HB1.out (bT HBBr.out hb9))
          clear hb9
          go_wp2_with fail
          go_ret
          exact ⟨rfl, HB9.out⟩

/-- LevelsEnds answers true, whatever the town and the wells -/
theorem ends_law (T : Town) (p q : Option Addr) (c d : Nat) (a b t y : Int) (w : World) (ht : TownIn w w.heap.size T p q) :
    Calls Try.prog 10 #[.agg #[.int .i64 T.W, .slice p T.s.length c, .slice q T.r.length d], .agg #[.int .i64 a, .int .i64 b, .int .i64 t, .int .i64 y]] w fun e w' => e = .returned (.bool true) ∧ Below w.heap.size w w' := by
  cases hs : (rdy T && (within a 0 (T.W - 1) && (within b 0 (T.W - 1) && decide (T.s.length + T.r.length ≤ 7)))) with
  | false => exact ends_skip T p q c d a b t y w ht hs
  | true =>
    simp only [Bool.and_eq_true, decide_eq_true_eq] at hs
    obtain ⟨hr, ha, hb, h7⟩ := hs
    obtain ⟨u, rfl, hu⟩ := within_of ha
    obtain ⟨v, rfl, hv⟩ := within_of hb
    cases hk : kn T with
    | none => exact ends_no T p q c d u v t y w ht hr hu hv h7 hk
    | some M => exact ends_main T M p q c d u v t y w ht hr hu hv h7 hk
end Go.Proofs.Ytmfbfcknnjbabaa
