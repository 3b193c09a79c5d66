/- LevelsMore where there is a truth, and its row: for every town, words and wells the call returns true, and the arguments read as they did. No condition. -/
import Derived.Test.YtmfbfcknnjbabaaR3
import Derived.Test.YtmfbfcknnjbabaaL7
import Derived.BigQuiet
set_option linter.unusedSimpArgs false
set_option linter.unusedVariables false
namespace Go.Proofs.Ytmfbfcknnjbabaa
open Go.RowKit

theorem low_at {M : List Int} (h : Clo M) {n k : Nat} (hn : n ≤ 6) (hk : k < n) : (lows M n)[k]?.getD 0 = -D M (k + 1) 0 := by
  have : (lows M n)[k]?.getD 0 = (dif M 0 (k + 1)).1 := by simp [lows, lv, hk]
  rw [this, dif_eq h (by omega) (by omega)]
theorem high_at {M : List Int} (h : Clo M) {n k : Nat} (hn : n ≤ 6) (hk : k < n) : (highs M n)[k]?.getD 0 = D M 0 (k + 1) := by
  have : (highs M n)[k]?.getD 0 = (dif M 0 (k + 1)).2 := by simp [highs, lv, hk]
  rw [this, dif_eq h (by omega) (by omega)]
theorem hiB_case (x : Int × Int) : hiB x = 1 ∨ hiB x = 2 ∨ hiB x = 3 := by
  simp only [hiB]
  split
  · exact .inl rfl
  · split
    · exact .inr (.inl rfl)
    · exact .inr (.inr rfl)

set_option maxRecDepth 100000 in
set_option maxHeartbeats 16000000 in
theorem more_some (T : Town) (M : List Int) (p q : Option Addr) (c d : Nat) (u v n : Nat) (x : Snd) (z : Slp) (t y : Int) (w : World) (ht : TownIn w w.heap.size T p q)
    (hr : rdy T = true) (hu : (u : Int) < T.W) (hv : (v : Int) < T.W) (hn : T.W = n) (hk : kn T = some M) :
    Calls Try.prog 11 #[.agg #[.int .i64 T.W, .slice p T.s.length c, .slice q T.r.length d], .agg #[.int .i64 x.well, .int .i64 x.low, .int .i64 x.high, .int .i64 z.a, .int .i64 z.b, .int .i64 z.low, .int .i64 z.high], .agg #[.int .i64 u, .int .i64 v, .int .i64 t, .int .i64 y]] w fun e w' => e = .returned (.bool true) ∧ Below w.heap.size w w' := by
  obtain ⟨a, ea⟩ : ∃ a : Int, a = u := ⟨_, rfl⟩
  obtain ⟨b, eb⟩ : ∃ b : Int, b = v := ⟨_, rfl⟩
  rw [← ea, ← eb]
  obtain ⟨w1, hw1, hb1, hz1, k0, k1, k2, k3, k4, xm⟩ := box_more w T.W p q T.s.length T.r.length c d x z a b t y
  have l0 : w.heap.size < w1.heap.size := by omega
  have l1 : w.heap.size + 1 + 1 < w1.heap.size := by omega
  have lm : w.heap.size + 1 < w1.heap.size := by omega
  have HBB1 := Lib.hid (Below.refl w1.heap.size w1)
  have HB1 := Lib.hid hb1
  have XM := Lib.hid xm
  have hrdy := ready_any T p q c d w1 (ht.bel hb1)
  clear xm
  obtain ⟨hok, hW5, h8⟩ := rdy_ok hr
  have hW := ok_W hok
  rw [hr] at hrdy
  have HR := Lib.hid hrdy
  have hia : ∀ V, Calls Try.prog 48 #[.agg #[.int .i64 T.W, .slice p T.s.length c, .slice q T.r.length d], .int .i64 a] V fun e w' => e = .returned (.bool true) ∧ Below V.heap.size V w' := fun V => isWell_b T.W a _ _ true V (by omega) (by omega) (by simp only [within, decide_eq_true_eq]; omega)
  have hib : ∀ V, Calls Try.prog 48 #[.agg #[.int .i64 T.W, .slice p T.s.length c, .slice q T.r.length d], .int .i64 b] V fun e w' => e = .returned (.bool true) ∧ Below V.heap.size V w' := fun V => isWell_b T.W b _ _ true V (by omega) (by omega) (by simp only [within, decide_eq_true_eq]; omega)
  have hcp : ∀ V, Below w.heap.size w V → _ := fun V hV => copy_own T p q c d V (by omega) (by omega) (ht.bel hV)
  have hsd : ∀ V, Below w.heap.size w V → _ := fun V hV => sounded_own T x p q c d V (by omega) (by omega) (ht.bel hV)
  have HA := Lib.hid hia; have HB := Lib.hid hib; have HC := Lib.hid hcp; have HS := Lib.hid hsd; have H8 := Lib.hid h8
  obtain ⟨i4, hi4, hz4, hz4', hz4''⟩ := info_parts info58
  have I4 := Lib.hid hi4; have Z4 := Lib.hid hz4; have Z4' := Lib.hid hz4'; have Z4'' := Lib.hid hz4''
  clear hi4 hz4 hz4' hz4'' hia hib hcp hsd h8 hrdy
  have hn6 : n ≤ 6 := by omega
  have hM := kn_clo hok hk
  have hen : ∀ V, Below w.heap.size w V → _ := fun V hV => ends_some T M n p q c d V hok hk hn (ht.bel hV)
  have HE := Lib.hid hen
  have hrd : ∀ (U : Town) (pu : Option Addr) (cu : Nat) (qu : Option Addr) (du : Nat) (V : World), U.W = T.W → TownIn V V.heap.size U pu qu → Calls Try.prog 45 #[.agg #[.int .i64 T.W, .slice pu U.s.length cu, .slice qu U.r.length du]] V fun e w' => e = .returned (.bool (rdy U)) ∧ Below V.heap.size V w' := fun U pu cu qu du V hw h => by
    have := ready_any U pu qu cu du V h
    rw [hw] at this; exact this
  have heu : ∀ (U : Town) (pu : Option Addr) (cu : Nat) (qu : Option Addr) (du : Nat) (V : World), U.W = T.W → rdy U = true → kn U = none → TownIn V V.heap.size U pu qu → Calls Try.prog 47 #[.agg #[.int .i64 T.W, .slice pu U.s.length cu, .slice qu U.r.length du]] V fun e w' => e = .returned (.tuple #[.slice none 0 0, .slice none 0 0, .bool false, .bool true]) ∧ Below V.heap.size V w' := fun U pu cu qu du V hw hrU hkU h => by
    have := ends_none U pu qu cu du V (rdy_ok hrU).1 hkU h
    rw [hw] at this; exact this
  have hes : ∀ (U : Town) (N : List Int) (pu : Option Addr) (cu : Nat) (qu : Option Addr) (du : Nat) (V : World), U.W = T.W → rdy U = true → kn U = some N → TownIn V V.heap.size U pu qu → Calls Try.prog 47 #[.agg #[.int .i64 T.W, .slice pu U.s.length cu, .slice qu U.r.length du]] V fun e w' => ∃ p1 c1 p2 c2, e = .returned (.tuple #[.slice p1 n c1, .slice p2 n c2, .bool true, .bool true]) ∧ Ints w' p1 (lows N n) ∧ Ints w' p2 (highs N n) ∧ Below V.heap.size V w' := fun U N pu cu qu du V hw hrU hkU h => by
    have := ends_some U N n pu qu cu du V (rdy_ok hrU).1 hkU (by rw [hw, hn]) h
    rw [hw] at this; exact this
  obtain ⟨X0, hX0⟩ : ∃ z, -D M (v + 1) (u + 1) = z := ⟨_, rfl⟩
  obtain ⟨Y0, hY0⟩ : ∃ z, D M (u + 1) (v + 1) = z := ⟨_, rfl⟩
  obtain ⟨kk0, hkk0⟩ : ∃ z, hiB (-Y0, -X0) = z := ⟨_, rfl⟩
  have hdf : ∀ V, Below w.heap.size w V → Calls Try.prog 33 #[.agg #[.int .i64 T.W, .slice p T.s.length c, .slice q T.r.length d], .int .i64 a, .int .i64 b] V fun e w' => e = .returned (.tuple #[.agg #[.int .i64 X0, .int .i64 Y0], .int .i64 0]) ∧ Below V.heap.size V w' := fun V hV => by
    have := differ_ok T M u v p q c d V hok hk hu hv (ht.bel hV)
    rw [dif_eq hM (by omega) (by omega), hX0, hY0] at this
    rw [ea, eb]; exact this
  have hhg : ∀ V, Below w.heap.size w V → Calls Try.prog 35 #[.agg #[.int .i64 T.W, .slice p T.s.length c, .slice q T.r.length d], .int .i64 a, .int .i64 b] V fun e w' => e = .returned (.tuple #[.int .i64 kk0, .int .i64 0]) ∧ Below V.heap.size V w' := fun V hV => by
    have := higher_ok T M u v p q c d V hok hk hu hv (ht.bel hV)
    rw [dif_eq hM (by omega) (by omega), hY0, show D M (v + 1) (u + 1) = -X0 by omega, hkk0] at this
    rw [ea, eb]; exact this
  have hfa : ∀ (U : Town) (N : List Int), U.W = T.W → rdy U = true → kn U = some N → Says U T → ∃ X1 Y1 kk1, X0 ≤ X1 ∧ X1 ≤ Y1 ∧ Y1 ≤ Y0 ∧ (kk0 = 3 ∨ (kk1 = kk0 ∧ (kk0 = 1 ∨ kk0 = 2))) ∧
      (∀ (pu : Option Addr) (cu : Nat) (qu : Option Addr) (du : Nat) (V : World), TownIn V V.heap.size U pu qu → Calls Try.prog 33 #[.agg #[.int .i64 T.W, .slice pu U.s.length cu, .slice qu U.r.length du], .int .i64 a, .int .i64 b] V fun e w' => e = .returned (.tuple #[.agg #[.int .i64 X1, .int .i64 Y1], .int .i64 0]) ∧ Below V.heap.size V w') ∧
      (∀ (pu : Option Addr) (cu : Nat) (qu : Option Addr) (du : Nat) (V : World), TownIn V V.heap.size U pu qu → Calls Try.prog 35 #[.agg #[.int .i64 T.W, .slice pu U.s.length cu, .slice qu U.r.length du], .int .i64 a, .int .i64 b] V fun e w' => e = .returned (.tuple #[.int .i64 kk1, .int .i64 0]) ∧ Below V.heap.size V w') ∧
      (∀ k, k < n → (lows M n)[k]?.getD 0 ≤ (lows N n)[k]?.getD 0 ∧ (highs N n)[k]?.getD 0 ≤ (highs M n)[k]?.getD 0) := fun U N hw hrU hkU hsy => by
    have huk := (rdy_ok hrU).1
    have hN := kn_clo huk hkU
    have hle : ∀ {p q : Nat}, p < 7 → q < 7 → D N p q ≤ D M p q := fun hp hq => says_le hok huk hsy hk hkU hp hq
    have a1 := hle (p := v + 1) (q := u + 1) (by omega) (by omega)
    have a2 := hle (p := u + 1) (q := v + 1) (by omega) (by omega)
    have a3 := clo_le hN (p := u + 1) (q := v + 1) (by omega) (by omega)
    refine ⟨-D N (v + 1) (u + 1), D N (u + 1) (v + 1), hiB (-D N (u + 1) (v + 1), D N (v + 1) (u + 1)), by omega, a3, by omega, ?_, fun pu cu qu du V h => ?_, fun pu cu qu du V h => ?_, fun k hk' => ?_⟩
    · rcases hiB_stays (a := -Y0) (b := -X0) (a' := -D N (u + 1) (v + 1)) (b' := D N (v + 1) (u + 1)) (by omega) (by omega) (by omega) with h | h
      · exact .inl (by rw [← hkk0]; exact h)
      · rcases hiB_case (-Y0, -X0) with g | g | g
        · exact .inr ⟨by rw [h, hkk0], .inl (by rw [← hkk0]; exact g)⟩
        · exact .inr ⟨by rw [h, hkk0], .inr (by rw [← hkk0]; exact g)⟩
        · exact .inl (by rw [← hkk0]; exact g)
    · have := differ_ok U N u v pu qu cu du V huk hkU (by omega) (by omega) h
      rw [dif_eq hN (by omega) (by omega), hw] at this
      rw [ea, eb]; exact this
    · have := higher_ok U N u v pu qu cu du V huk hkU (by omega) (by omega) h
      rw [dif_eq hN (by omega) (by omega), hw] at this
      rw [ea, eb]; exact this
    · rw [low_at hN hn6 hk', low_at hM hn6 hk', high_at hN hn6 hk', high_at hM hn6 hk']
      have b1 := hle (p := k + 1) (q := 0) (by omega) (by omega)
      have b2 := hle (p := 0) (q := k + 1) (by omega) (by omega)
      omega
  have HRD := Lib.hid hrd; have HEN := Lib.hid heu; have HES := Lib.hid hes; have HFA := Lib.hid hfa; have HDT := Lib.hid hdf; have HGT := Lib.hid hhg; have HN := Lib.hid hn
  have HSY0 := Lib.hid (says_snd T x); have HSY1 := Lib.hid (says_slp T z)
  have HW0 := Lib.hid (show (T.snd x).W = T.W from rfl); have HW1 := Lib.hid (show (T.slp z).W = T.W from rfl)
  clear hen hrd heu hes hfa hdf hhg hX0 hY0 hkk0 hok hk hr hu hv ea eb ht hb1 hW hW5 hn hM
  go_enter Try.func11, Try.ntmps11
  go_wp2_with fail
  refine (HR.out).mono ?_
  rintro e w2 ⟨rfl, hb2⟩
  have HBB2 := Lib.hid (bT HBB1.out hb2)
  clear hb2
  have c20 := (HBB2.out.cell (p := ⟨w.heap.size, 0, none⟩) l0).trans k0
  have c21 := (HBB2.out.cell (p := ⟨w.heap.size, 1, none⟩) l0).trans k1
  have c22 := (HBB2.out.cell (p := ⟨w.heap.size, 2, none⟩) l0).trans k2
  have c23 := (HBB2.out.cell (p := ⟨w.heap.size + 1 + 1, 0, none⟩) l1).trans k3
  have c24 := (HBB2.out.cell (p := ⟨w.heap.size + 1 + 1, 1, none⟩) l1).trans k4
  go_wp2_with fail
  refine (HA.out _).mono ?_
  rintro e w3 ⟨rfl, hb3⟩
  have HBB3 := Lib.hid (bT HBB2.out hb3)
  clear hb3
  have c30 := (HBB3.out.cell (p := ⟨w.heap.size, 0, none⟩) l0).trans k0
  have c31 := (HBB3.out.cell (p := ⟨w.heap.size, 1, none⟩) l0).trans k1
  have c32 := (HBB3.out.cell (p := ⟨w.heap.size, 2, none⟩) l0).trans k2
  have c33 := (HBB3.out.cell (p := ⟨w.heap.size + 1 + 1, 0, none⟩) l1).trans k3
  have c34 := (HBB3.out.cell (p := ⟨w.heap.size + 1 + 1, 1, none⟩) l1).trans k4
  clear c20 c21 c22 c23 c24
  go_wp2_with fail
  refine (HB.out _).mono ?_
  rintro e w4 ⟨rfl, hb4⟩
  have HBB4 := Lib.hid (bT HBB3.out hb4)
  clear hb4
  have c40 := (HBB4.out.cell (p := ⟨w.heap.size, 0, none⟩) l0).trans k0
  have c41 := (HBB4.out.cell (p := ⟨w.heap.size, 1, none⟩) l0).trans k1
  have c42 := (HBB4.out.cell (p := ⟨w.heap.size, 2, none⟩) l0).trans k2
  have c43 := (HBB4.out.cell (p := ⟨w.heap.size + 1 + 1, 0, none⟩) l1).trans k3
  have c44 := (HBB4.out.cell (p := ⟨w.heap.size + 1 + 1, 1, none⟩) l1).trans k4
  clear c30 c31 c32 c33 c34
  go_wp2_with fail
  refine (HE.out _ (bT HB1.out HBB4.out)).mono ?_
  rintro e w5 ⟨p1, c1, p2, c2, rfl, hi1, hi2, hb5⟩
  have HBB5 := Lib.hid (bT HBB4.out hb5)
  clear hb5
  have c50 := (HBB5.out.cell (p := ⟨w.heap.size, 0, none⟩) l0).trans k0
  have c51 := (HBB5.out.cell (p := ⟨w.heap.size, 1, none⟩) l0).trans k1
  have c52 := (HBB5.out.cell (p := ⟨w.heap.size, 2, none⟩) l0).trans k2
  have c53 := (HBB5.out.cell (p := ⟨w.heap.size + 1 + 1, 0, none⟩) l1).trans k3
  have c54 := (HBB5.out.cell (p := ⟨w.heap.size + 1 + 1, 1, none⟩) l1).trans k4
  clear c40 c41 c42 c43 c44
  have L1 := Lib.hid hi1; have L2 := Lib.hid hi2
  clear hi1 hi2
  have xm := (HBB5.out.block _ lm).trans XM.out
  have m0 := cell_of_row w5 (w.heap.size + 1) 0 _ _ _ xm
  have m1 := cell_of_row w5 (w.heap.size + 1) 1 _ _ _ xm
  have m2 := cell_of_row w5 (w.heap.size + 1) 2 _ _ _ xm
  simp only [List.getElem?_toArray, List.getElem?_cons_zero, List.getElem?_cons_succ] at m0 m1 m2
  clear xm
  go_wp2_with fail
  refine (HS.out _ (bT HB1.out HBB5.out)).mono ?_
  rintro e w6 ⟨p6, e6, q6, f6, rfl, hb6, ho6⟩
  have HBB6 := Lib.hid (bT HBB5.out hb6)
  have HT0 := Lib.hid ho6.town
  have HR6 := Lib.hid hb6
  clear hb6 ho6 m0 m1 m2
  have c60 := (HBB6.out.cell (p := ⟨w.heap.size, 0, none⟩) l0).trans k0
  have c61 := (HBB6.out.cell (p := ⟨w.heap.size, 1, none⟩) l0).trans k1
  have c62 := (HBB6.out.cell (p := ⟨w.heap.size, 2, none⟩) l0).trans k2
  have c63 := (HBB6.out.cell (p := ⟨w.heap.size + 1 + 1, 0, none⟩) l1).trans k3
  have c64 := (HBB6.out.cell (p := ⟨w.heap.size + 1 + 1, 1, none⟩) l1).trans k4
  clear c50 c51 c52 c53 c54
  obtain ⟨U0, hU0⟩ : ∃ U, T.snd x = U := ⟨_, rfl⟩
  rw [hU0] at HT0 HSY0 HW0
  have hs0 : U0.s.length = T.s.length + 1 := by rw [← hU0]; simp [Town.snd]
  have hr0 : U0.r.length = T.r.length := by rw [← hU0]; rfl
  have HS0 := Lib.hid hs0; have HR0 := Lib.hid hr0
  clear hs0 hr0
  have l60 : w.heap.size < w6.heap.size := by have := HBB6.out.size; omega
  go_wp2_with fail
  obtain ⟨W6, hW6⟩ : ∃ W6, w6.alloc (Obj.cells #[Value.int IntKind.i64 T.W, Value.slice p6 (T.s.length + 1) e6, Value.slice q6 T.r.length f6] 25) = W6 := ⟨_, rfl⟩
  rw [hW6]
  have y6 : W6.heap[w6.heap.size]? = some (.cells #[Value.int IntKind.i64 T.W, Value.slice p6 U0.s.length e6, Value.slice q6 U0.r.length f6] 25 (0, 0)) := by rw [← hW6, HS0.out, HR0.out]; exact heap_alloc_new _ _
  have b6 : Below w6.heap.size w6 W6 := by rw [← hW6]; exact bA (Below.refl _ _) _
  have HBB6' := Lib.hid (bT HBB6.out b6)
  have Y6 := Lib.hid y6
  have HT0' := Lib.hid (HT0.out.bel b6)
  have HH6 := Lib.hid hW6
  have HR6' := Lib.hid (bT HR6.out b6)
  clear y6 b6 hW6 HT0 l60 c60 c61 c62 c63 c64
  refine (HC.out W6 (bT HB1.out HBB6'.out)).mono ?_
  rintro e w7 ⟨p7, e7, q7, f7, rfl, hb7, ho7⟩
  have HBB7 := Lib.hid (bT HBB6'.out hb7)
  have HR7 := Lib.hid hb7
  have HO7 := Lib.hid ho7
  clear hb7 ho7
  have c70 := (HBB7.out.cell (p := ⟨w.heap.size, 0, none⟩) l0).trans k0
  have c71 := (HBB7.out.cell (p := ⟨w.heap.size, 1, none⟩) l0).trans k1
  have c72 := (HBB7.out.cell (p := ⟨w.heap.size, 2, none⟩) l0).trans k2
  have c73 := (HBB7.out.cell (p := ⟨w.heap.size + 1 + 1, 0, none⟩) l1).trans k3
  have c74 := (HBB7.out.cell (p := ⟨w.heap.size + 1 + 1, 1, none⟩) l1).trans k4
  have xm := (HBB7.out.block _ lm).trans XM.out
  have m3 := cell_of_row w7 (w.heap.size + 1) 3 _ _ _ xm
  have m4 := cell_of_row w7 (w.heap.size + 1) 4 _ _ _ xm
  have m5 := cell_of_row w7 (w.heap.size + 1) 5 _ _ _ xm
  have m6 := cell_of_row w7 (w.heap.size + 1) 6 _ _ _ xm
  simp only [List.getElem?_toArray, List.getElem?_cons_zero, List.getElem?_cons_succ] at m3 m4 m5 m6
  have l70 : w.heap.size < w7.heap.size := by have := HBB7.out.size; omega
  have l71 : w.heap.size + 1 < w7.heap.size := by have := HBB7.out.size; omega
  clear xm
  go_wp2_with (at_builtin; refine wpList_append_own _ rfl _ _ 23 rfl (W6.heap.size + 2) 58 i4 _ 4 32 Try.underlying23 I4.out Z4.out Z4'.out Z4''.out rfl (by decide) _ _ _ rfl ((HO7.out.r.alloc _).alloc _) ⟨w7.heap.size + 1, 0, none⟩ 1 1 [.int .i64 z.a, .int .i64 z.b, .int .i64 z.low, .int .i64 z.high] rfl rfl ?c1 ?c2 ?c3 ?c4 ?c5 ?_)
  case c1 => exact World.news_of_block (cs := #[.int .i64 z.a, .int .i64 z.b, .int .i64 z.low, .int .i64 z.high]) (t := 58) (fr := (0, 0)) (by have := heap_alloc_new (w7.alloc (Obj.cells #[Value.int IntKind.i64 T.W, Value.slice p7 T.s.length e7, Value.slice q7 T.r.length f7] 25)) (Obj.cells #[.int .i64 z.a, .int .i64 z.b, .int .i64 z.low, .int .i64 z.high] 58); simpa using this)
  case c2 => simp [Value.oneCell']
  case c3 => have := H8.out; unfold maxLen; omega
  case c4 => have := H8.out; omega
  case c5 => have := HO7.out.r.1; have := HR7.out.size; simp; omega
  intro v' w8 hown hgrow _
  obtain ⟨W', hW'⟩ : ∃ W', (w7.alloc (Obj.cells #[Value.int IntKind.i64 T.W, Value.slice p7 T.s.length e7, Value.slice q7 T.r.length f7] 25)).alloc (Obj.cells #[.int .i64 z.a, .int .i64 z.b, .int .i64 z.low, .int .i64 z.high] 58) = W' := ⟨_, rfl⟩
  rw [hW'] at hgrow
  obtain ⟨p8, e8, rfl, _⟩ := own_form hown
  have hbx : W'.heap[w7.heap.size]? = some (.cells #[Value.int IntKind.i64 T.W, Value.slice p7 T.s.length e7, Value.slice q7 T.r.length f7] 25 (0, 0)) := by
    rw [← hW']; exact (Below.heap_alloc _ _ _ (by simp)).trans (heap_alloc_new _ _)
  have hb7W : Below w7.heap.size w7 W' := by rw [← hW']; exact bA (bA (Below.refl _ _) _) _
  have hoS : W'.ownsRow (W6.heap.size + 2) 62 3 (.slice p7 T.s.length e7) T.s.length (flatS T.s) := own_below HO7.out.s hb7W
  have hoR : W'.ownsRow (W6.heap.size + 2) 58 4 (.slice q7 T.r.length f7) T.r.length (flatR T.r) := own_below HO7.out.r hb7W
  have hsz : w7.heap.size < W'.heap.size := (Array.getElem?_eq_some_iff.1 hbx).1
  have hb8 : w8.heap[w7.heap.size]? = some (.cells #[Value.int IntKind.i64 T.W, Value.slice p7 T.s.length e7, Value.slice q7 T.r.length f7] 25 (0, 0)) := (hgrow.block _ hsz (own_ne_box hoR hbx (by decide))).trans hbx
  have hb8' := hb8
  have hoS8 : w8.ownsRow (W6.heap.size + 2) 62 3 (.slice p7 T.s.length e7) T.s.length (flatS T.s) := hoS.kept hgrow (own_ne hoS hoR (by decide))
  have hbelow : Below W6.heap.size W6 w8 := below_grown (bT HR7.out hb7W) hoR (by omega) hgrow
  obtain ⟨U1, hU1⟩ : ∃ U, T.slp z = U := ⟨_, rfl⟩
  have hs1 : U1.s.length = T.s.length := by rw [← hU1]; rfl
  have hr1 : U1.r.length = T.r.length + 1 := by rw [← hU1]; simp [Town.slp]
  have s0 := cell_of_row w8 w7.heap.size 0 _ _ _ hb8
  have s1 := cell_of_row w8 w7.heap.size 1 _ _ _ hb8
  have s2 := cell_of_row w8 w7.heap.size 2 _ _ _ hb8
  have fs : ∀ i, w8.frozen? ⟨w7.heap.size, i, none⟩ = false := fun i => by simp [World.frozen?, hb8]
  simp only [List.getElem?_toArray, List.getElem?_cons_zero, List.getElem?_cons_succ] at s0 s1 s2
  have hto : TownOwn (w8.setCell ⟨w7.heap.size, 2, none⟩ (.slice p8 (T.r.length + 1) e8)) (W6.heap.size + 2) (T.slp z) p7 p8 e7 e8 := by
    refine ⟨own_set_ne hoS8 hb8 (by decide), ?_⟩
    have := own_set_ne (o := 2) (u := .slice p8 (T.r.length + 1) e8) hown hb8 (by decide)
    simpa [Town.slp, flatR_snoc] using this
  rw [hU1] at hto HSY1 HW1
  have hR8 := bS hbelow (show W6.heap.size ≤ (⟨w7.heap.size, 2, none⟩ : Addr).block from HR7.out.size) (.slice p8 (T.r.length + 1) e8)
  have v0 : (w8.setCell ⟨w7.heap.size, 2, none⟩ (.slice p8 (T.r.length + 1) e8)).cell? ⟨w7.heap.size, 0, none⟩ = some (.int .i64 T.W) := (World.cell?_setCell_other _ _ _ _ (by simp)).trans s0
  have HS1 := Lib.hid hs1; have HR1 := Lib.hid hr1
  have v1 : (w8.setCell ⟨w7.heap.size, 2, none⟩ (.slice p8 (T.r.length + 1) e8)).cell? ⟨w7.heap.size, 1, none⟩ = some (.slice p7 U1.s.length e7) := by rw [hs1]; exact (World.cell?_setCell_other _ _ _ _ (by simp)).trans s1
  have v2 : (w8.setCell ⟨w7.heap.size, 2, none⟩ (.slice p8 (T.r.length + 1) e8)).cell? ⟨w7.heap.size, 2, none⟩ = some (.slice p8 U1.r.length e8) := by rw [hr1]; exact World.cell?_setCell_same _ _ _ s2
  have HT1 := Lib.hid hto.town
  clear hs1 hr1 hown hgrow hbx hb7W hoS hoR hsz hb8 hoS8 hbelow hW' HO7 hto m3 m4 m5 m6 c70 c71 c72 c73 c74
  go_wp2_with fail
  obtain ⟨W8, hW8⟩ : ∃ W8, w8.setCell ⟨w7.heap.size, 2, none⟩ (.slice p8 (T.r.length + 1) e8) = W8 := ⟨_, rfl⟩
  rw [hW8] at v0 v1 v2 hR8 HT1 ⊢
  have HR8 := Lib.hid hR8
  have HV0 := Lib.hid v0; have HV1 := Lib.hid v1; have HV2 := Lib.hid v2
  have HBB8 := Lib.hid (bT HBB6'.out hR8)
  have HT0 := Lib.hid (HT0'.out.bel hR8)
  have HH8 := Lib.hid hW8
  have HR58 := Lib.hid (bT HR6'.out hR8)
  have lv7 : w7.heap.size < W8.heap.size := by rw [← hW8]; have := Boxed_lt hb8'; simpa using this
  clear v0 v1 v2 hR8 hW8 s0 s1 s2 fs HT0' l70 l71
  go_loopw [13] (fun i wr => ∃ k : Int, i = .int .i64 k ∧ (k = 0 ∨ k = 1 ∨ k = 2) ∧ Below W8.heap.size W8 wr) (fun i _ => (2 - intOf i).toNat)
  case atStart => exact ⟨0, rfl, .inl rfl, Below.refl _ _⟩
  case round =>
    obtain ⟨k, rfl, hk, hb⟩ := hrel
    have HBBr := Lib.hid (bT HBB8.out hb)
    have hbr := Lib.hid hb
    have xr := (hb.block w6.heap.size (by have := Boxed_lt Y6.out; have := HR8.out.size; omega)).trans ((HR8.out.block w6.heap.size (Boxed_lt Y6.out)).trans Y6.out)
    have g0 := cell_of_row wr w6.heap.size 0 _ _ _ xr
    have g1 := cell_of_row wr w6.heap.size 1 _ _ _ xr
    have g2 := cell_of_row wr w6.heap.size 2 _ _ _ xr
    simp only [List.getElem?_toArray, List.getElem?_cons_zero, List.getElem?_cons_succ] at g0 g1 g2
    have n0 := (hb.cell (p := ⟨w7.heap.size, 0, none⟩) lv7).trans HV0.out
    have n1 := (hb.cell (p := ⟨w7.heap.size, 1, none⟩) lv7).trans HV1.out
    have n2 := (hb.cell (p := ⟨w7.heap.size, 2, none⟩) lv7).trans HV2.out
    have ln7 : w7.heap.size < wr.heap.size := by have := hb.size; omega
    have ln6 : w6.heap.size < wr.heap.size := Boxed_lt xr
    clear hb xr
    rcases hk with rfl | rfl | rfl
    · go_wp2_with fail
      obtain ⟨Wk, hWk⟩ : ∃ Wk, wr.alloc (Obj.cells #[Value.int IntKind.i64 T.W, Value.slice p6 U0.s.length e6, Value.slice q6 U0.r.length f6] 25) = Wk := ⟨_, rfl⟩
      rw [hWk]
      have bk : Below wr.heap.size wr Wk := by rw [← hWk]; exact bA (Below.refl _ _) _
      have yk : Wk.heap[wr.heap.size]? = some (.cells #[Value.int IntKind.i64 T.W, Value.slice p6 U0.s.length e6, Value.slice q6 U0.r.length f6] 25 (0, 0)) := by rw [← hWk]; exact heap_alloc_new _ _
      have hlk := Boxed_lt yk
      have htk := HT0.out.bel (bT hbr.out bk)
      have HHk := Lib.hid hWk
      have hbk := Lib.hid (bT hbr.out bk)
      have HBk := Lib.hid bk
      clear hWk bk
      refine (HRD.out U0 _ _ _ _ Wk HW0.out htk).mono ?_
      rintro e w9 ⟨rfl, hb9⟩
      have y9 := (hb9.block _ hlk).trans yk
      have q0 := cell_of_row w9 wr.heap.size 0 _ _ _ y9
      have q1 := cell_of_row w9 wr.heap.size 1 _ _ _ y9
      have q2 := cell_of_row w9 wr.heap.size 2 _ _ _ y9
      have Y9 := Lib.hid y9
      simp only [List.getElem?_toArray, List.getElem?_cons_zero, List.getElem?_cons_succ] at q0 q1 q2
      have HBr9 := Lib.hid (bT hbk.out hb9)
      have HTk := Lib.hid (htk.bel hb9)
      clear htk hb9 yk y9 hlk g0 g1 g2 n0 n1 n2
      cases hrU : rdy U0 with
      | false =>
        go_wp2_with fail
        exact ⟨⟨1, rfl, .inr (.inl rfl), HBr9.out⟩, by simp only [intOf]; omega⟩
      | true =>
        cases hkU : kn U0 with
        | none =>
          have HEU' := Lib.hid (HEN.out U0 p6 e6 q6 f6 w9 HW0.out hrU hkU HTk.out)
          clear hrU hkU
          go_wp2_with fail
          refine HEU'.out.mono ?_
          rintro e w10 ⟨rfl, hb10⟩
          have HBr10 := Lib.hid (bT HBr9.out hb10)
          clear hb10
          go_wp2_with fail
          exact ⟨⟨1, rfl, .inr (.inl rfl), HBr10.out⟩, by simp only [intOf]; omega⟩
        | some N =>
          have HEU' := Lib.hid (HES.out U0 N p6 e6 q6 f6 w9 HW0.out hrU hkU HTk.out)
          obtain ⟨X1, Y1, kk1, hx1, hx2, hx3, hx4, hdu, hgu, hlo⟩ := HFA.out U0 N HW0.out hrU hkU HSY0.out
          have HDU := Lib.hid hdu; have HGU := Lib.hid hgu; have HLO := Lib.hid hlo; have HX4 := Lib.hid hx4
          have HX := Lib.hid (And.intro hx1 (And.intro hx2 hx3))
          clear hrU hkU hdu hgu hlo hx1 hx2 hx3 hx4
          go_wp2_with fail
          refine HEU'.out.mono ?_
          rintro e w10 ⟨p3, c3, p4, c4, rfl, hi3, hi4, hb10⟩
          have HBr10 := Lib.hid (bT HBr9.out hb10)
          have y10 := Lib.hid ((hb10.block _ (Boxed_lt Y9.out)).trans Y9.out)
          have HTk10 := Lib.hid (HTk.out.bel hb10)
          have L3 := Lib.hid hi3; have L4 := Lib.hid hi4
          clear hb10 hi3 hi4 q0 q1 q2
          go_wp2_with fail
          go_loopw [19] (fun i wq => ∃ j : Nat, i = .int .i64 j ∧ j ≤ n ∧ Below w10.heap.size w10 wq) (fun i _ => n - (intOf i).toNat)
          case atStart => exact ⟨0, rfl, Nat.zero_le _, Below.refl _ _⟩
          case round =>
            obtain ⟨j, rfl, hj, hbq⟩ := hrel
            rename World => wq
            have HBBq := Lib.hid (bT HBB8.out (bT HBr10.out hbq))
            have H5q := Lib.hid (bT HR58.out (bT HBr10.out hbq))
            have HQ10 := Lib.hid hbq
            have HB8q := Lib.hid (bT HBr10.out hbq)
            clear hbq
            have cq0 := (HBBq.out.cell (p := ⟨w.heap.size, 0, none⟩) l0).trans k0
            have cq1 := (HBBq.out.cell (p := ⟨w.heap.size, 1, none⟩) l0).trans k1
            have cq2 := (HBBq.out.cell (p := ⟨w.heap.size, 2, none⟩) l0).trans k2
            have cq3 := (HBBq.out.cell (p := ⟨w.heap.size + 1 + 1, 0, none⟩) l1).trans k3
            have cq4 := (HBBq.out.cell (p := ⟨w.heap.size + 1 + 1, 1, none⟩) l1).trans k4
            by_cases hlt : j < n
            · have gg : decide ((j : Int) < T.W) = true := decide_eq_true (by have := HN.out; omega)
              obtain ⟨b1, o1, rfl, hi1⟩ := L1.out (by rw [lows_len]; omega)
              obtain ⟨b2, o2, rfl, hi2⟩ := L2.out (by rw [highs_len]; omega)
              obtain ⟨b3, o3, rfl, hi3⟩ := L3.out (by rw [lows_len]; omega)
              obtain ⟨b4, o4, rfl, hi4⟩ := L4.out (by rw [highs_len]; omega)
              have e1 := (hi1.below H5q.out).cell j (by rw [lows_len]; exact hlt)
              have e2 := (hi2.below H5q.out).cell j (by rw [highs_len]; exact hlt)
              have e3 := (hi3.below HQ10.out).cell j (by rw [lows_len]; exact hlt)
              have e4 := (hi4.below HQ10.out).cell j (by rw [highs_len]; exact hlt)
              obtain ⟨z1, z2⟩ := HLO.out j hlt
              obtain ⟨A1, hA1⟩ : ∃ z, (lows M n)[j]?.getD 0 = z := ⟨_, rfl⟩
              obtain ⟨A2, hA2⟩ : ∃ z, (highs M n)[j]?.getD 0 = z := ⟨_, rfl⟩
              obtain ⟨A3, hA3⟩ : ∃ z, (lows N n)[j]?.getD 0 = z := ⟨_, rfl⟩
              obtain ⟨A4, hA4⟩ : ∃ z, (highs N n)[j]?.getD 0 = z := ⟨_, rfl⟩
              rw [hA1] at e1; rw [hA2] at e2; rw [hA3] at e3; rw [hA4] at e4
              rw [hA1, hA3] at z1; rw [hA2, hA4] at z2
              have t1 : decide (A3 < A1) = false := decide_eq_false (by omega)
              have t2 : decide (A2 < A4) = false := decide_eq_false (by omega)
              have r1 : b1 < wq.heap.size := by have := hi1.lt; have := H5q.out.size; omega
              have r2 : b2 < wq.heap.size := by have := hi2.lt; have := H5q.out.size; omega
              have r3 : b3 < wq.heap.size := by have := hi3.lt; have := HQ10.out.size; omega
              have r4 : b4 < wq.heap.size := by have := hi4.lt; have := HQ10.out.size; omega
              have k0i : (0 : Int) ≤ (j : Int) := by omega
              have k1i : (j : Int) < (n : Int) := by omega
              clear hi1 hi2 hi3 hi4 z1 z2 hA1 hA2 hA3 hA4
              go_wp2_with fail
              go_quiet (fail)
              go_wp2_with fail
              exact ⟨⟨j + 1, by go_num, hlt, by repeat (first | exact HQ10.out | refine bD ?_ _ | refine bd ?_)⟩, by simp [intOf]; omega⟩
            · have gg : decide ((j : Int) < T.W) = false := decide_eq_false (by have := HN.out; omega)
              have YQ := Lib.hid ((HQ10.out.block _ (Boxed_lt y10.out)).trans y10.out)
              have lyq := Boxed_lt YQ.out
              have HTq := Lib.hid (HTk10.out.bel HQ10.out)
              clear HQ10
              have HQq := Lib.hid (Below.refl wq.heap.size wq)
              go_wp2_with fail
              refine (HDT.out _ (bT HB1.out HBBq.out)).mono ?_
              rintro e w11 ⟨rfl, hb11⟩
              have HBB11 := Lib.hid (bT HBBq.out hb11)
              have HQ11 := Lib.hid (bT HQq.out hb11)
              clear hb11
              have y11 := (HQ11.out.block _ lyq).trans YQ.out
              have c110 := (HBB11.out.cell (p := ⟨w.heap.size, 0, none⟩) l0).trans k0
              have c111 := (HBB11.out.cell (p := ⟨w.heap.size, 1, none⟩) l0).trans k1
              have c112 := (HBB11.out.cell (p := ⟨w.heap.size, 2, none⟩) l0).trans k2
              have c113 := (HBB11.out.cell (p := ⟨w.heap.size + 1 + 1, 0, none⟩) l1).trans k3
              have c114 := (HBB11.out.cell (p := ⟨w.heap.size + 1 + 1, 1, none⟩) l1).trans k4
              have q110 := cell_of_row w11 wr.heap.size 0 _ _ _ y11
              have q111 := cell_of_row w11 wr.heap.size 1 _ _ _ y11
              have q112 := cell_of_row w11 wr.heap.size 2 _ _ _ y11
              simp only [List.getElem?_toArray, List.getElem?_cons_zero, List.getElem?_cons_succ] at q110 q111 q112
              have la11 : w.heap.size < w11.heap.size := by have := HBB11.out.size; omega
              have lb11 : w.heap.size + 1 + 1 < w11.heap.size := by have := HBB11.out.size; omega
              have lc11 : wr.heap.size < w11.heap.size := Boxed_lt y11
              clear y11
              clear cq0 cq1 cq2 cq3 cq4
              go_wp2_with fail
              obtain ⟨W11, hW11⟩ : ∃ W11, w11.alloc (Obj.cells #[.int .i64 X0, .int .i64 Y0] 38) = W11 := ⟨_, rfl⟩
              rw [hW11]
              have x11 : W11.heap[w11.heap.size]? = some (.cells #[.int .i64 X0, .int .i64 Y0] 38 (0, 0)) := by rw [← hW11]; exact heap_alloc_new _ _
              have bb11 : Below w11.heap.size w11 W11 := by rw [← hW11]; exact bA (Below.refl _ _) _
              have X11 := Lib.hid x11
              have BB11 := Lib.hid bb11
              have HH11 := Lib.hid hW11
              clear x11 bb11 hW11
              refine (HDU.out _ _ _ _ W11 (HTq.out.bel (bT HQ11.out BB11.out))).mono ?_
              rintro e w12 ⟨rfl, hb12'⟩
              have X12 := Lib.hid ((hb12'.block _ (Boxed_lt X11.out)).trans X11.out)
              have hb12 := bT BB11.out hb12'
              clear hb12'
              have HBB12 := Lib.hid (bT HBB11.out hb12)
              have HQ12 := Lib.hid (bT HQ11.out hb12)
              clear hb12
              have y12 := (HQ12.out.block _ lyq).trans YQ.out
              have c120 := (HBB12.out.cell (p := ⟨w.heap.size, 0, none⟩) l0).trans k0
              have c121 := (HBB12.out.cell (p := ⟨w.heap.size, 1, none⟩) l0).trans k1
              have c122 := (HBB12.out.cell (p := ⟨w.heap.size, 2, none⟩) l0).trans k2
              have c123 := (HBB12.out.cell (p := ⟨w.heap.size + 1 + 1, 0, none⟩) l1).trans k3
              have c124 := (HBB12.out.cell (p := ⟨w.heap.size + 1 + 1, 1, none⟩) l1).trans k4
              have q120 := cell_of_row w12 wr.heap.size 0 _ _ _ y12
              have q121 := cell_of_row w12 wr.heap.size 1 _ _ _ y12
              have q122 := cell_of_row w12 wr.heap.size 2 _ _ _ y12
              simp only [List.getElem?_toArray, List.getElem?_cons_zero, List.getElem?_cons_succ] at q120 q121 q122
              have la12 : w.heap.size < w12.heap.size := by have := HBB12.out.size; omega
              have lb12 : w.heap.size + 1 + 1 < w12.heap.size := by have := HBB12.out.size; omega
              have lc12 : wr.heap.size < w12.heap.size := Boxed_lt y12
              clear y12
              clear c110 c111 c112 c113 c114 q110 q111 q112 la11 lb11 lc11
              go_wp2_with fail
              obtain ⟨W12, hW12⟩ : ∃ W12, w12.alloc (Obj.cells #[.int .i64 X1, .int .i64 Y1] 38) = W12 := ⟨_, rfl⟩
              rw [hW12]
              have x12 : W12.heap[w12.heap.size]? = some (.cells #[.int .i64 X1, .int .i64 Y1] 38 (0, 0)) := by rw [← hW12]; exact heap_alloc_new _ _
              have bb12 : Below w12.heap.size w12 W12 := by rw [← hW12]; exact bA (Below.refl _ _) _
              have Z12 := Lib.hid x12
              have BB12 := Lib.hid bb12
              have HH12 := Lib.hid hW12
              clear x12 bb12 hW12
              refine (HGT.out W12 (bT HB1.out (bT HBB12.out BB12.out))).mono ?_
              rintro e w13 ⟨rfl, hb13'⟩
              have Z13 := Lib.hid ((hb13'.block _ (Boxed_lt Z12.out)).trans Z12.out)
              have hb13 := bT BB12.out hb13'
              have X13 := Lib.hid ((hb13.block _ (Boxed_lt X12.out)).trans X12.out)
              clear hb13'
              have HBB13 := Lib.hid (bT HBB12.out hb13)
              have HQ13 := Lib.hid (bT HQ12.out hb13)
              clear hb13
              have y13 := (HQ13.out.block _ lyq).trans YQ.out
              have c130 := (HBB13.out.cell (p := ⟨w.heap.size, 0, none⟩) l0).trans k0
              have c131 := (HBB13.out.cell (p := ⟨w.heap.size, 1, none⟩) l0).trans k1
              have c132 := (HBB13.out.cell (p := ⟨w.heap.size, 2, none⟩) l0).trans k2
              have c133 := (HBB13.out.cell (p := ⟨w.heap.size + 1 + 1, 0, none⟩) l1).trans k3
              have c134 := (HBB13.out.cell (p := ⟨w.heap.size + 1 + 1, 1, none⟩) l1).trans k4
              have q130 := cell_of_row w13 wr.heap.size 0 _ _ _ y13
              have q131 := cell_of_row w13 wr.heap.size 1 _ _ _ y13
              have q132 := cell_of_row w13 wr.heap.size 2 _ _ _ y13
              simp only [List.getElem?_toArray, List.getElem?_cons_zero, List.getElem?_cons_succ] at q130 q131 q132
              have la13 : w.heap.size < w13.heap.size := by have := HBB13.out.size; omega
              have lb13 : w.heap.size + 1 + 1 < w13.heap.size := by have := HBB13.out.size; omega
              have lc13 : wr.heap.size < w13.heap.size := Boxed_lt y13
              clear y13
              clear c120 c121 c122 c123 c124 q120 q121 q122 la12 lb12 lc12
              go_wp2_with fail
              refine (HGU.out _ _ _ _ w13 (HTq.out.bel HQ13.out)).mono ?_
              rintro e w14 ⟨rfl, hb14⟩
              have z14 := (hb14.block _ (Boxed_lt Z13.out)).trans Z13.out
              have x14 := (hb14.block _ (Boxed_lt X13.out)).trans X13.out
              have xa := cell_of_row w14 w11.heap.size 0 _ _ _ x14
              have xb := cell_of_row w14 w11.heap.size 1 _ _ _ x14
              have za := cell_of_row w14 w12.heap.size 0 _ _ _ z14
              have zb := cell_of_row w14 w12.heap.size 1 _ _ _ z14
              simp only [List.getElem?_toArray, List.getElem?_cons_zero, List.getElem?_cons_succ] at xa xb za zb
              have HQ14 := Lib.hid (bT HQ13.out hb14)
              clear hb14 z14 x14
              clear c130 c131 c132 c133 c134 q130 q131 q132 la13 lb13 lc13
              go_wp2_with fail
              refine (inside_tt X1 Y1 X0 Y0 _ HX.out.1 HX.out.2.1 HX.out.2.2).mono ?_
              rintro e w15 ⟨rfl, hb15⟩
              have HQ15 := Lib.hid (bT HB8q.out (bT HQ14.out hb15))
              clear hb15
              rcases HX4.out with rfl | ⟨rfl, rfl | rfl⟩
              all_goals
                go_wp2_with fail
                exact ⟨⟨1, rfl, .inr (.inl rfl), HQ15.out⟩, by simp only [intOf]; omega⟩
    · go_wp2_with fail
      obtain ⟨Wk, hWk⟩ : ∃ Wk, wr.alloc (Obj.cells #[Value.int IntKind.i64 T.W, Value.slice p7 U1.s.length e7, Value.slice p8 U1.r.length e8] 25) = Wk := ⟨_, rfl⟩
      rw [hWk]
      have bk : Below wr.heap.size wr Wk := by rw [← hWk]; exact bA (Below.refl _ _) _
      have yk : Wk.heap[wr.heap.size]? = some (.cells #[Value.int IntKind.i64 T.W, Value.slice p7 U1.s.length e7, Value.slice p8 U1.r.length e8] 25 (0, 0)) := by rw [← hWk]; exact heap_alloc_new _ _
      have hlk := Boxed_lt yk
      have htk := HT1.out.bel (bT hbr.out bk)
      have HHk := Lib.hid hWk
      have hbk := Lib.hid (bT hbr.out bk)
      have HBk := Lib.hid bk
      clear hWk bk
      refine (HRD.out U1 _ _ _ _ Wk HW1.out htk).mono ?_
      rintro e w9 ⟨rfl, hb9⟩
      have y9 := (hb9.block _ hlk).trans yk
      have q0 := cell_of_row w9 wr.heap.size 0 _ _ _ y9
      have q1 := cell_of_row w9 wr.heap.size 1 _ _ _ y9
      have q2 := cell_of_row w9 wr.heap.size 2 _ _ _ y9
      have Y9 := Lib.hid y9
      simp only [List.getElem?_toArray, List.getElem?_cons_zero, List.getElem?_cons_succ] at q0 q1 q2
      have HBr9 := Lib.hid (bT hbk.out hb9)
      have HTk := Lib.hid (htk.bel hb9)
      clear htk hb9 yk y9 hlk g0 g1 g2 n0 n1 n2
      cases hrU : rdy U1 with
      | false =>
        go_wp2_with fail
        exact ⟨⟨2, rfl, .inr (.inr rfl), HBr9.out⟩, by simp only [intOf]; omega⟩
      | true =>
        cases hkU : kn U1 with
        | none =>
          have HEU' := Lib.hid (HEN.out U1 p7 e7 p8 e8 w9 HW1.out hrU hkU HTk.out)
          clear hrU hkU
          go_wp2_with fail
          refine HEU'.out.mono ?_
          rintro e w10 ⟨rfl, hb10⟩
          have HBr10 := Lib.hid (bT HBr9.out hb10)
          clear hb10
          go_wp2_with fail
          exact ⟨⟨2, rfl, .inr (.inr rfl), HBr10.out⟩, by simp only [intOf]; omega⟩
        | some N =>
          have HEU' := Lib.hid (HES.out U1 N p7 e7 p8 e8 w9 HW1.out hrU hkU HTk.out)
          obtain ⟨X1, Y1, kk1, hx1, hx2, hx3, hx4, hdu, hgu, hlo⟩ := HFA.out U1 N HW1.out hrU hkU HSY1.out
          have HDU := Lib.hid hdu; have HGU := Lib.hid hgu; have HLO := Lib.hid hlo; have HX4 := Lib.hid hx4
          have HX := Lib.hid (And.intro hx1 (And.intro hx2 hx3))
          clear hrU hkU hdu hgu hlo hx1 hx2 hx3 hx4
          go_wp2_with fail
          refine HEU'.out.mono ?_
          rintro e w10 ⟨p3, c3, p4, c4, rfl, hi3, hi4, hb10⟩
          have HBr10 := Lib.hid (bT HBr9.out hb10)
          have y10 := Lib.hid ((hb10.block _ (Boxed_lt Y9.out)).trans Y9.out)
          have HTk10 := Lib.hid (HTk.out.bel hb10)
          have L3 := Lib.hid hi3; have L4 := Lib.hid hi4
          clear hb10 hi3 hi4 q0 q1 q2
          go_wp2_with fail
          go_loopw [19] (fun i wq => ∃ j : Nat, i = .int .i64 j ∧ j ≤ n ∧ Below w10.heap.size w10 wq) (fun i _ => n - (intOf i).toNat)
          case atStart => exact ⟨0, rfl, Nat.zero_le _, Below.refl _ _⟩
          case round =>
            obtain ⟨j, rfl, hj, hbq⟩ := hrel
            rename World => wq
            have HBBq := Lib.hid (bT HBB8.out (bT HBr10.out hbq))
            have H5q := Lib.hid (bT HR58.out (bT HBr10.out hbq))
            have HQ10 := Lib.hid hbq
            have HB8q := Lib.hid (bT HBr10.out hbq)
            clear hbq
            have cq0 := (HBBq.out.cell (p := ⟨w.heap.size, 0, none⟩) l0).trans k0
            have cq1 := (HBBq.out.cell (p := ⟨w.heap.size, 1, none⟩) l0).trans k1
            have cq2 := (HBBq.out.cell (p := ⟨w.heap.size, 2, none⟩) l0).trans k2
            have cq3 := (HBBq.out.cell (p := ⟨w.heap.size + 1 + 1, 0, none⟩) l1).trans k3
            have cq4 := (HBBq.out.cell (p := ⟨w.heap.size + 1 + 1, 1, none⟩) l1).trans k4
            by_cases hlt : j < n
            · have gg : decide ((j : Int) < T.W) = true := decide_eq_true (by have := HN.out; omega)
              obtain ⟨b1, o1, rfl, hi1⟩ := L1.out (by rw [lows_len]; omega)
              obtain ⟨b2, o2, rfl, hi2⟩ := L2.out (by rw [highs_len]; omega)
              obtain ⟨b3, o3, rfl, hi3⟩ := L3.out (by rw [lows_len]; omega)
              obtain ⟨b4, o4, rfl, hi4⟩ := L4.out (by rw [highs_len]; omega)
              have e1 := (hi1.below H5q.out).cell j (by rw [lows_len]; exact hlt)
              have e2 := (hi2.below H5q.out).cell j (by rw [highs_len]; exact hlt)
              have e3 := (hi3.below HQ10.out).cell j (by rw [lows_len]; exact hlt)
              have e4 := (hi4.below HQ10.out).cell j (by rw [highs_len]; exact hlt)
              obtain ⟨z1, z2⟩ := HLO.out j hlt
              obtain ⟨A1, hA1⟩ : ∃ z, (lows M n)[j]?.getD 0 = z := ⟨_, rfl⟩
              obtain ⟨A2, hA2⟩ : ∃ z, (highs M n)[j]?.getD 0 = z := ⟨_, rfl⟩
              obtain ⟨A3, hA3⟩ : ∃ z, (lows N n)[j]?.getD 0 = z := ⟨_, rfl⟩
              obtain ⟨A4, hA4⟩ : ∃ z, (highs N n)[j]?.getD 0 = z := ⟨_, rfl⟩
              rw [hA1] at e1; rw [hA2] at e2; rw [hA3] at e3; rw [hA4] at e4
              rw [hA1, hA3] at z1; rw [hA2, hA4] at z2
              have t1 : decide (A3 < A1) = false := decide_eq_false (by omega)
              have t2 : decide (A2 < A4) = false := decide_eq_false (by omega)
              have r1 : b1 < wq.heap.size := by have := hi1.lt; have := H5q.out.size; omega
              have r2 : b2 < wq.heap.size := by have := hi2.lt; have := H5q.out.size; omega
              have r3 : b3 < wq.heap.size := by have := hi3.lt; have := HQ10.out.size; omega
              have r4 : b4 < wq.heap.size := by have := hi4.lt; have := HQ10.out.size; omega
              have k0i : (0 : Int) ≤ (j : Int) := by omega
              have k1i : (j : Int) < (n : Int) := by omega
              clear hi1 hi2 hi3 hi4 z1 z2 hA1 hA2 hA3 hA4
              go_wp2_with fail
              go_quiet (fail)
              go_wp2_with fail
              exact ⟨⟨j + 1, by go_num, hlt, by repeat (first | exact HQ10.out | refine bD ?_ _ | refine bd ?_)⟩, by simp [intOf]; omega⟩
            · have gg : decide ((j : Int) < T.W) = false := decide_eq_false (by have := HN.out; omega)
              have YQ := Lib.hid ((HQ10.out.block _ (Boxed_lt y10.out)).trans y10.out)
              have lyq := Boxed_lt YQ.out
              have HTq := Lib.hid (HTk10.out.bel HQ10.out)
              clear HQ10
              have HQq := Lib.hid (Below.refl wq.heap.size wq)
              go_wp2_with fail
              refine (HDT.out _ (bT HB1.out HBBq.out)).mono ?_
              rintro e w11 ⟨rfl, hb11⟩
              have HBB11 := Lib.hid (bT HBBq.out hb11)
              have HQ11 := Lib.hid (bT HQq.out hb11)
              clear hb11
              have y11 := (HQ11.out.block _ lyq).trans YQ.out
              have c110 := (HBB11.out.cell (p := ⟨w.heap.size, 0, none⟩) l0).trans k0
              have c111 := (HBB11.out.cell (p := ⟨w.heap.size, 1, none⟩) l0).trans k1
              have c112 := (HBB11.out.cell (p := ⟨w.heap.size, 2, none⟩) l0).trans k2
              have c113 := (HBB11.out.cell (p := ⟨w.heap.size + 1 + 1, 0, none⟩) l1).trans k3
              have c114 := (HBB11.out.cell (p := ⟨w.heap.size + 1 + 1, 1, none⟩) l1).trans k4
              have q110 := cell_of_row w11 wr.heap.size 0 _ _ _ y11
              have q111 := cell_of_row w11 wr.heap.size 1 _ _ _ y11
              have q112 := cell_of_row w11 wr.heap.size 2 _ _ _ y11
              simp only [List.getElem?_toArray, List.getElem?_cons_zero, List.getElem?_cons_succ] at q110 q111 q112
              have la11 : w.heap.size < w11.heap.size := by have := HBB11.out.size; omega
              have lb11 : w.heap.size + 1 + 1 < w11.heap.size := by have := HBB11.out.size; omega
              have lc11 : wr.heap.size < w11.heap.size := Boxed_lt y11
              clear y11
              clear cq0 cq1 cq2 cq3 cq4
              go_wp2_with fail
              obtain ⟨W11, hW11⟩ : ∃ W11, w11.alloc (Obj.cells #[.int .i64 X0, .int .i64 Y0] 38) = W11 := ⟨_, rfl⟩
              rw [hW11]
              have x11 : W11.heap[w11.heap.size]? = some (.cells #[.int .i64 X0, .int .i64 Y0] 38 (0, 0)) := by rw [← hW11]; exact heap_alloc_new _ _
              have bb11 : Below w11.heap.size w11 W11 := by rw [← hW11]; exact bA (Below.refl _ _) _
              have X11 := Lib.hid x11
              have BB11 := Lib.hid bb11
              have HH11 := Lib.hid hW11
              clear x11 bb11 hW11
              refine (HDU.out _ _ _ _ W11 (HTq.out.bel (bT HQ11.out BB11.out))).mono ?_
              rintro e w12 ⟨rfl, hb12'⟩
              have X12 := Lib.hid ((hb12'.block _ (Boxed_lt X11.out)).trans X11.out)
              have hb12 := bT BB11.out hb12'
              clear hb12'
              have HBB12 := Lib.hid (bT HBB11.out hb12)
              have HQ12 := Lib.hid (bT HQ11.out hb12)
              clear hb12
              have y12 := (HQ12.out.block _ lyq).trans YQ.out
              have c120 := (HBB12.out.cell (p := ⟨w.heap.size, 0, none⟩) l0).trans k0
              have c121 := (HBB12.out.cell (p := ⟨w.heap.size, 1, none⟩) l0).trans k1
              have c122 := (HBB12.out.cell (p := ⟨w.heap.size, 2, none⟩) l0).trans k2
              have c123 := (HBB12.out.cell (p := ⟨w.heap.size + 1 + 1, 0, none⟩) l1).trans k3
              have c124 := (HBB12.out.cell (p := ⟨w.heap.size + 1 + 1, 1, none⟩) l1).trans k4
              have q120 := cell_of_row w12 wr.heap.size 0 _ _ _ y12
              have q121 := cell_of_row w12 wr.heap.size 1 _ _ _ y12
              have q122 := cell_of_row w12 wr.heap.size 2 _ _ _ y12
              simp only [List.getElem?_toArray, List.getElem?_cons_zero, List.getElem?_cons_succ] at q120 q121 q122
              have la12 : w.heap.size < w12.heap.size := by have := HBB12.out.size; omega
              have lb12 : w.heap.size + 1 + 1 < w12.heap.size := by have := HBB12.out.size; omega
              have lc12 : wr.heap.size < w12.heap.size := Boxed_lt y12
              clear y12
              clear c110 c111 c112 c113 c114 q110 q111 q112 la11 lb11 lc11
              go_wp2_with fail
              obtain ⟨W12, hW12⟩ : ∃ W12, w12.alloc (Obj.cells #[.int .i64 X1, .int .i64 Y1] 38) = W12 := ⟨_, rfl⟩
              rw [hW12]
              have x12 : W12.heap[w12.heap.size]? = some (.cells #[.int .i64 X1, .int .i64 Y1] 38 (0, 0)) := by rw [← hW12]; exact heap_alloc_new _ _
              have bb12 : Below w12.heap.size w12 W12 := by rw [← hW12]; exact bA (Below.refl _ _) _
              have Z12 := Lib.hid x12
              have BB12 := Lib.hid bb12
              have HH12 := Lib.hid hW12
              clear x12 bb12 hW12
              refine (HGT.out W12 (bT HB1.out (bT HBB12.out BB12.out))).mono ?_
              rintro e w13 ⟨rfl, hb13'⟩
              have Z13 := Lib.hid ((hb13'.block _ (Boxed_lt Z12.out)).trans Z12.out)
              have hb13 := bT BB12.out hb13'
              have X13 := Lib.hid ((hb13.block _ (Boxed_lt X12.out)).trans X12.out)
              clear hb13'
              have HBB13 := Lib.hid (bT HBB12.out hb13)
              have HQ13 := Lib.hid (bT HQ12.out hb13)
              clear hb13
              have y13 := (HQ13.out.block _ lyq).trans YQ.out
              have c130 := (HBB13.out.cell (p := ⟨w.heap.size, 0, none⟩) l0).trans k0
              have c131 := (HBB13.out.cell (p := ⟨w.heap.size, 1, none⟩) l0).trans k1
              have c132 := (HBB13.out.cell (p := ⟨w.heap.size, 2, none⟩) l0).trans k2
              have c133 := (HBB13.out.cell (p := ⟨w.heap.size + 1 + 1, 0, none⟩) l1).trans k3
              have c134 := (HBB13.out.cell (p := ⟨w.heap.size + 1 + 1, 1, none⟩) l1).trans k4
              have q130 := cell_of_row w13 wr.heap.size 0 _ _ _ y13
              have q131 := cell_of_row w13 wr.heap.size 1 _ _ _ y13
              have q132 := cell_of_row w13 wr.heap.size 2 _ _ _ y13
              simp only [List.getElem?_toArray, List.getElem?_cons_zero, List.getElem?_cons_succ] at q130 q131 q132
              have la13 : w.heap.size < w13.heap.size := by have := HBB13.out.size; omega
              have lb13 : w.heap.size + 1 + 1 < w13.heap.size := by have := HBB13.out.size; omega
              have lc13 : wr.heap.size < w13.heap.size := Boxed_lt y13
              clear y13
              clear c120 c121 c122 c123 c124 q120 q121 q122 la12 lb12 lc12
              go_wp2_with fail
              refine (HGU.out _ _ _ _ w13 (HTq.out.bel HQ13.out)).mono ?_
              rintro e w14 ⟨rfl, hb14⟩
              have z14 := (hb14.block _ (Boxed_lt Z13.out)).trans Z13.out
              have x14 := (hb14.block _ (Boxed_lt X13.out)).trans X13.out
              have xa := cell_of_row w14 w11.heap.size 0 _ _ _ x14
              have xb := cell_of_row w14 w11.heap.size 1 _ _ _ x14
              have za := cell_of_row w14 w12.heap.size 0 _ _ _ z14
              have zb := cell_of_row w14 w12.heap.size 1 _ _ _ z14
              simp only [List.getElem?_toArray, List.getElem?_cons_zero, List.getElem?_cons_succ] at xa xb za zb
              have HQ14 := Lib.hid (bT HQ13.out hb14)
              clear hb14 z14 x14
              clear c130 c131 c132 c133 c134 q130 q131 q132 la13 lb13 lc13
              go_wp2_with fail
              refine (inside_tt X1 Y1 X0 Y0 _ HX.out.1 HX.out.2.1 HX.out.2.2).mono ?_
              rintro e w15 ⟨rfl, hb15⟩
              have HQ15 := Lib.hid (bT HB8q.out (bT HQ14.out hb15))
              clear hb15
              rcases HX4.out with rfl | ⟨rfl, rfl | rfl⟩
              all_goals
                go_wp2_with fail
                exact ⟨⟨2, rfl, .inr (.inr rfl), HQ15.out⟩, by simp only [intOf]; omega⟩
    · go_wp2_with fail
      refine (works_ex _).mono ?_
      rintro e w9 ⟨rfl, hb9⟩
      have HB9 := Lib.hid (bT HB1.out (bT HBBr.out hb9))
      clear hb9
      go_wp2_with fail
      go_ret
      exact ⟨rfl, HB9.out⟩

/-- LevelsMore answers true, whatever the town, the words and the wells -/
theorem more_law (T : Town) (p q : Option Addr) (c d : Nat) (x : Snd) (z : Slp) (a b t y : Int) (w : World) (ht : TownIn w w.heap.size T p q) :
    Calls Try.prog 11 #[.agg #[.int .i64 T.W, .slice p T.s.length c, .slice q T.r.length d], .agg #[.int .i64 x.well, .int .i64 x.low, .int .i64 x.high, .int .i64 z.a, .int .i64 z.b, .int .i64 z.low, .int .i64 z.high], .agg #[.int .i64 a, .int .i64 b, .int .i64 t, .int .i64 y]] w fun e w' => e = .returned (.bool true) ∧ Below w.heap.size w w' := by
  cases hs : (rdy T && (within a 0 (T.W - 1) && within b 0 (T.W - 1))) with
  | false => exact more_skip T p q c d x z a b t y w ht hs
  | true =>
    simp only [Bool.and_eq_true] at hs
    obtain ⟨hr, ha, hb⟩ := hs
    obtain ⟨u, rfl, hu⟩ := within_of ha
    obtain ⟨v, rfl, hv⟩ := within_of hb
    cases hk : kn T with
    | none => exact more_none T p q c d u v x z t y w ht hr hu hv hk
    | some M => exact more_some T M p q c d u v T.W.toNat x z t y w ht hr hu hv (by have := ok_W (rdy_ok hr).1; omega) hk
end Go.Proofs.Ytmfbfcknnjbabaa

namespace Go.Proofs.Ytmfbfcknnjbabaa
open Go.ChangeShapes Go.WideShapes Go.ChangeAt Go.RowKit Go.Joins Go.Deep

theorem array7 {α : Type} {cs : Array α} (h : cs.size = 7) : ∃ c0 c1 c2 c3 c4 c5 c6, cs = #[c0, c1, c2, c3, c4, c5, c6] := by
  obtain ⟨l⟩ := cs
  match l, h with
  | [c0, c1, c2, c3, c4, c5, c6], _ => exact ⟨c0, c1, c2, c3, c4, c5, c6, rfl⟩
section
variable {H : Type} {enc : TypeId × Value → H} {w : World} {spare : Nat → Bool} {held : Bool}
theorem cells64 : Try.prog.cellsOf 64 = 7 := by kernel_rfl
theorem snd_of {n : Nat} {v0 v1 v2 : Value} {y : DataW H × List MemPlace} (h : DataW.trod enc Try.prog w 0 spare held n 62 [v0, v1, v2] = some y) : ∃ x : Snd, v0 = .int .i64 x.well ∧ v1 = .int .i64 x.low ∧ v2 = .int .i64 x.high := by
  obtain ⟨y0, y1, y2, m, _, _, t0, t1, t2⟩ := trod_struct3 Try.underlying62 h
  obtain ⟨m0, e0, _⟩ := DataW.trod_int Try.underlying3 t0
  obtain ⟨m1, e1, _⟩ := DataW.trod_int Try.underlying3 t1
  obtain ⟨m2, e2, _⟩ := DataW.trod_int Try.underlying3 t2
  simp [cells3] at e0 e1 e2
  exact ⟨⟨m0, m1, m2⟩, e0, e1, e2⟩
theorem slp_of {n : Nat} {v0 v1 v2 v3 : Value} {y : DataW H × List MemPlace} (h : DataW.trod enc Try.prog w 0 spare held n 58 [v0, v1, v2, v3] = some y) : ∃ x : Slp, v0 = .int .i64 x.a ∧ v1 = .int .i64 x.b ∧ v2 = .int .i64 x.low ∧ v3 = .int .i64 x.high := by
  obtain ⟨y0, y1, y2, y3, m, _, _, t0, t1, t2, t3⟩ := trod_struct4 Try.underlying58 h
  obtain ⟨m0, e0, _⟩ := DataW.trod_int Try.underlying3 t0
  obtain ⟨m1, e1, _⟩ := DataW.trod_int Try.underlying3 t1
  obtain ⟨m2, e2, _⟩ := DataW.trod_int Try.underlying3 t2
  obtain ⟨m3, e3, _⟩ := DataW.trod_int Try.underlying3 t3
  simp [cells3] at e0 e1 e2 e3
  exact ⟨⟨m0, m1, m2, m3⟩, e0, e1, e2, e3⟩
set_option maxRecDepth 100000 in
/-- an argument that is a More -/
theorem open_more {r : Reach} {b0 : Nat} {v : Value} {d : DataW H} {ps : List MemPlace} (hv : Value.okWide Try.prog w r b0 64 v) (h : DataW.Trod enc Try.prog w 0 spare held 64 v d ps) :
    ∃ (x : Snd) (z : Slp), v = .agg #[.int .i64 x.well, .int .i64 x.low, .int .i64 x.high, .int .i64 z.a, .int .i64 z.b, .int .i64 z.low, .int .i64 z.high] := by
  obtain ⟨cs, rfl, hsz⟩ := okWide_struct Try.underlying64 hv
  obtain ⟨c0, c1, c2, c3, c4, c5, c6, rfl⟩ := array7 (hsz.trans cells64)
  obtain ⟨fuel, hf⟩ := h
  obtain ⟨ys, n, _, _, _, hl, hd⟩ := DataW.trod_struct Try.underlying64 hf
  have h0 := hd 0 _ rfl
  have h1 := hd 1 _ rfl
  match ys, hl with
  | [y0, y1], _ =>
    simp [Value.cells, cells62, cells58] at h0 h1
    obtain ⟨x, rfl, rfl, rfl⟩ := snd_of h0
    obtain ⟨z, rfl, rfl, rfl, rfl⟩ := slp_of h1
    exact ⟨x, z, rfl⟩
end

set_option maxRecDepth 100000 in
theorem more_lifted (os : Os) (started : os.Started) (H : Type) (enc : TypeId × Value → H) :
    ReturnsInHanded {} Try.checked os 11 .any (Rows.levelsMoreSpec.pre6 enc Try.prog Try.f11 Rows.levelsMoreRow.domain false) (Rows.levelsMoreSpec.post enc Try.prog Try.f11 false true false false) := by
  refine returnsInHanded_of_change (C := Try.checked) own started (by kernel_rfl) Try.func11
    (ChangeSpec.witness6 (enc := enc) (C := Try.checked) false ⟨#[], #[.agg #[.int .i64 0, .slice none 0 0, .slice none 0 0], .agg #[.int .i64 0, .int .i64 0, .int .i64 0, .int .i64 0, .int .i64 0, .int .i64 0, .int .i64 0], .agg #[.int .i64 0, .int .i64 0, .int .i64 0, .int .i64 0]], []⟩ 8 (by kernel_rfl) (by kernel_rfl) (by kernel_rfl) (by kernel_rfl)) ?_
  intro W base args ds gs before hval0 hW hcnd _
  have hval : ∀ (j : Nat) t v, Try.f11.params[j]? = some t → args[j]? = some v → Value.okWide Try.prog W .any base t v := hval0
  have hW' := hW
  obtain ⟨p, q, hA0, hV, rfl, hfz, hnd⟩ := hW
  have hA : DataW.TrodAll enc Try.prog W 0 (fun _ => true) true Try.f11.params.toList args.toList ds p := hA0
  rw [Try.params11] at hA hval
  obtain ⟨v0, v1, v2, d0, d1, d2, p0, p1, p2, rfl, rfl, rfl, h0, h1, h2⟩ := trodAll_three hA
  obtain ⟨rfl, rfl⟩ := trodVars_none hV
  obtain ⟨T, tp, tq, tc, td, rfl, ht, _, _⟩ := open_town (hval 0 25 v0 rfl rfl) h0
  obtain ⟨x, z, rfl⟩ := open_more (hval 1 64 v1 rfl rfl) h1
  obtain ⟨a, b, t, y, rfl, _⟩ := open_ask (hval 2 51 v2 rfl rfl) h2
  refine (more_law T tp tq tc td x z a b t y W ht).mono fun e W' ⟨he, hb⟩ => ?_
  subst he
  exact ⟨_, rfl, law_post (f := Try.f11) (s := Rows.levelsMoreSpec) (by rw [Try.params11]; intro t ht; simp at ht; rcases ht with rfl | rfl | rfl <;> exact ⟨by kernel_rfl, of_decide_eq_true (by kernel_rfl)⟩) rfl hW' rfl (by kernel_rfl) hb⟩

theorem more_holds : Rows.LevelsMoreSaid :=
  OpenClaim.holds_of_wide 11 Try.f11 rfl rfl rfl rfl rfl rfl rfl ⟨rfl, rfl, rfl, rfl, rfl⟩ rfl rfl rfl rfl rfl (by kernel_rfl) Try.func11 (by kernel_rfl)
    (of_decide_eq_true (by kernel_rfl)) (by unfold Func.isWrapper; first | (rw [if_pos (by decide +kernel)]; kernel_rfl) | (rw [if_neg (by decide +kernel)]; exact ⟨rfl, rfl⟩))
    (fun os started H enc _ => more_lifted os started H enc)
end Go.Proofs.Ytmfbfcknnjbabaa
