/- LevelsEach returns true in every walk. -/
import Derived.Test.YtmfbfcknnjbabaaK4a
import Derived.BigQuiet
set_option linter.unusedSimpArgs false
set_option linter.unusedVariables false
namespace Go.Proofs.Ytmfbfcknnjbabaa
open Go.RowKit
set_option maxRecDepth 100000 in
set_option maxHeartbeats 8000000 in
theorem each_main (T : Town) (M : List Int) (p q : Option Addr) (c d : Nat) (xs : List Int) (x : Option Addr) (cx : Nat) (a b t y : Int) (w : World) (ht : TownIn w w.heap.size T p q) (hi : Ints w x xs)
    (hr : rdy T = true) (hT : truth T xs = true) (hk : kn T = some M) :
    Calls Try.prog 9 #[.agg #[.int .i64 T.W, .slice p T.s.length c, .slice q T.r.length d], .slice x xs.length cx, .agg #[.int .i64 a, .int .i64 b, .int .i64 t, .int .i64 y]] w fun e w' => e = .returned (.bool true) ∧ Below w.heap.size w w' := by
  obtain ⟨w1, hw1, hb1, hz1, k0, k1, k2, k3, k4, k5, k6⟩ := box_ask w T.W p q T.s.length T.r.length c d a b t y
  have l0 : w.heap.size < w1.heap.size := by omega
  have l1 : w.heap.size + 1 < w1.heap.size := by omega
  obtain ⟨hok, hW5, _⟩ := rdy_ok hr
  have hM := kn_clo hok hk
  obtain ⟨hn, hfit⟩ := (truth_fits hok hk).1 hT
  have hx5 : xs.length ≤ 5 := by omega
  have d1 : decide ((40 : Int) < (xs.length : Int)) = false := decide_eq_false (by omega)
  have hrdy := ready_any T p q c d w1 (ht.bel hb1)
  rw [hr] at hrdy
  have htr : ∀ V, Below w.heap.size w V → _ := fun V hV => is_truth_t T p q c d xs x cx xs.length V (by omega) rfl hok hT (ht.bel hV) (hi.below hV)
  have hends : ∀ V, Below w.heap.size w V → _ := fun V hV => ends_some T M xs.length p q c d V hok hk hn.symm (ht.bel hV)
  have hholds : ∀ V v cv, Below w.heap.size w V → Ints V v xs → _ := fun V v cv hV hv => holds_t T p q c d xs v cv V (by omega) hok hT (ht.bel hV) hv
  have HR := Lib.hid hrdy; have HT := Lib.hid htr; have HE := Lib.hid hends; have HH := Lib.hid hholds; have HB1 := Lib.hid hb1; have HS := Lib.hid (src_ints hi)
  have HTW := Lib.hid ht; have HI := Lib.hid hi; have HOK := Lib.hid hok; have HK := Lib.hid hk; have HN := Lib.hid hn; have HF := Lib.hid hfit
  obtain ⟨i3, hi3, hz3, hz3', hz3''⟩ := info_parts info3
  have I3 := Lib.hid hi3; have Z3 := Lib.hid hz3; have Z3' := Lib.hid hz3'; have Z3'' := Lib.hid hz3''
  have s1 : xs.length ≤ maxLen := by unfold maxLen; omega
  have S1 := Lib.hid s1
  clear hi3 hz3 hz3' hz3'' s1 hrdy htr hends hholds hb1 hr hT ht hi hok hk hn hfit
  go_enter Try.func9, Try.ntmps9
  go_wp2_with (first
    | (go_at_call 45; refine HR.out.mono ?_; rintro e w2 ⟨rfl, hb2⟩; go_must (have HB2 := Lib.hid (bT HB1.out hb2); have HBB2 := Lib.hid hb2; have j0 := (hb2.cell (p := ⟨w.heap.size, 0, none⟩) l0).trans k0; have j1 := (hb2.cell (p := ⟨w.heap.size, 1, none⟩) l0).trans k1; have j2 := (hb2.cell (p := ⟨w.heap.size, 2, none⟩) l0).trans k2; clear hb2))
    | (go_at_call 46; refine (HT.out _ HB2.out).mono ?_; rintro e w3 ⟨rfl, hb3⟩; go_must (have HBB3 := Lib.hid (bT HBB2.out hb3); clear j0 j1 j2; have j0 := (HBB3.out.cell (p := ⟨w.heap.size, 0, none⟩) l0).trans k0; have j1 := (HBB3.out.cell (p := ⟨w.heap.size, 1, none⟩) l0).trans k1; have j2 := (HBB3.out.cell (p := ⟨w.heap.size, 2, none⟩) l0).trans k2; clear hb3))
    | (go_at_call 47; refine (HE.out _ (bT HB1.out HBB3.out)).mono ?_; rintro e w4 ⟨p1, c1, p2, c2, rfl, hi1, hi2, hb4⟩; go_must (have HBB4 := Lib.hid (bT HBB3.out hb4); clear j0 j1 j2; have j0 := (HBB4.out.cell (p := ⟨w.heap.size, 0, none⟩) l0).trans k0; have j1 := (HBB4.out.cell (p := ⟨w.heap.size, 1, none⟩) l0).trans k1; have j2 := (HBB4.out.cell (p := ⟨w.heap.size, 2, none⟩) l0).trans k2; have L1 := Lib.hid hi1; have L2 := Lib.hid hi2; clear hb4 hi1 hi2)))
  have HB4 := Lib.hid (bT HB1.out HBB4.out)
  have hb4w : Below w.heap.size w w4 := HB4.out
  have l4 : w.heap.size < w4.heap.size := by have := HBB4.out.size; omega
  have tok1 : True := trivial
  go_region_held3 (fun w' => w'.cell? ⟨w.heap.size, 0, none⟩ = some (.int .i64 T.W) ∧ w'.cell? ⟨w.heap.size, 1, none⟩ = some (.slice p T.s.length c) ∧ w'.cell? ⟨w.heap.size, 2, none⟩ = some (.slice q T.r.length d))
    (first | go_keep | exact ⟨d0, d1', d2⟩)
    (first
    | (go_at_call 18; refine (HH.out _ _ _ hB5 HO5.out).mono ?_; rintro e w6 ⟨rfl, hb6⟩; go_must (have hbb6 : Below w4.heap.size w4 w6 := bT hbb5 hb6; have d0 := (hbb6.cell (p := ⟨w.heap.size, 0, none⟩) l4).trans j0; have d1' := (hbb6.cell (p := ⟨w.heap.size, 1, none⟩) l4).trans j1; have d2 := (hbb6.cell (p := ⟨w.heap.size, 2, none⟩) l4).trans j2; clear hb6))
    | (have _t := tok1; refine step_append_copyO w w4.heap.size rfl (.tmp 45) (.tmp 46) 26 rfl 3 i3 _ 1 8 Try.underlying26 I3.out Z3.out Z3'.out Z3''.out rfl (by decide) _ (by simp [Act.eval, Act.put]; rfl) (by repeat (first | exact lit_at (by simp) (by omega) | refine World.ownsRow.alloc ?_ _ | refine ownd ?_ | refine own_below ?_ (by assumption))) x xs.length cx (by simp [Act.eval, Act.put]) (xs.map (Value.int .i64)) (by simp) (ints_one xs) HS.out S1.out (by omega) (by repeat (first | assumption | exact Below.refl _ _ | refine bA ?_ _ | refine bd ?_)) (by (try simp); try omega) ?_; intro y5 c5 w5 hB5 hb5 ho5; clear tok1 _t; go_must (have HO5 := Lib.hid (ints_own ho5); have hbb5 : Below w4.heap.size w4 w5 := bT (by repeat (first | exact Below.refl _ _ | refine bA ?_ _ | refine bd ?_)) hb5; have d0 := (hbb5.cell (p := ⟨w.heap.size, 0, none⟩) l4).trans j0; have d1' := (hbb5.cell (p := ⟨w.heap.size, 1, none⟩) l4).trans j1; have d2 := (hbb5.cell (p := ⟨w.heap.size, 2, none⟩) l4).trans j2; clear hb5 ho5)))
  have HBB6 := Lib.hid (bT HBB4.out hbb6)
  have HB4R := Lib.hid hbb6
  have hz : ∀ r, r < xs.length → (dif M 0 (r + 1)).1 ≤ xs[r]?.getD 0 ∧ xs[r]?.getD 0 ≤ (dif M 0 (r + 1)).2 := fun r hr => by
    have f1 := HF.out 0 (r + 1) (by omega) (by omega)
    have f2 := HF.out (r + 1) 0 (by omega) (by omega)
    rw [lev_zero, lev_at xs r hr] at f1 f2
    rw [dif_eq hM (by omega) (by omega), List.getElem?_eq_getElem hr]
    simp only [Option.getD_some]
    omega
  have hx99 : ∀ r, r < xs.length → 0 ≤ xs[r]?.getD 0 ∧ xs[r]?.getD 0 ≤ 99 := fun r hr => by
    have f1 := HF.out 0 (r + 1) (by omega) (by omega)
    have f2 := HF.out (r + 1) 0 (by omega) (by omega)
    have g1 := hM.le 0 (r + 1) (by omega) (by omega)
    have hh := heard_kn HOK.out
    rw [HK.out] at hh
    have hu := (fits_U (lev_zero xs)).1 ((hh.2 (lev xs)).1 HF.out).1 (r + 1) (by omega)
    rw [lev_at xs r hr] at hu
    rw [List.getElem?_eq_getElem hr]
    exact hu
  have HZ := Lib.hid hz; have HX9 := Lib.hid hx99
  have l6 : w.heap.size < w6.heap.size := by have := HBB6.out.size; omega
  clear hb4w hB5 hbb5 hbb6 d0 d1' d2 hz hx99
  go_wp2
  go_loopw [13] (fun i wr => ∃ k : Nat, i = .int .i64 k ∧ k ≤ xs.length ∧ Below w6.heap.size w6 wr) (fun i _ => xs.length - (intOf i).toNat)
  case atStart => exact ⟨0, rfl, Nat.zero_le _, Below.refl _ _⟩
  case round =>
    obtain ⟨k, rfl, hk, hb⟩ := hrel
    have HBW := Lib.hid (bT HBB6.out hb)
    have hbr := Lib.hid hb
    clear hb
    have j0 := (HBW.out.cell (p := ⟨w.heap.size, 0, none⟩) l0).trans k0
    have j1 := (HBW.out.cell (p := ⟨w.heap.size, 1, none⟩) l0).trans k1
    have j2 := (HBW.out.cell (p := ⟨w.heap.size, 2, none⟩) l0).trans k2
    by_cases hlt : k < xs.length
    · obtain ⟨b1, o1, rfl, hi1⟩ := L1.out (by rw [lows_len]; omega)
      obtain ⟨b2, o2, rfl, hi2⟩ := L2.out (by rw [highs_len]; omega)
      obtain ⟨b3, o3, rfl, hi3⟩ := HI.out (by omega)
      have hb4r : Below w4.heap.size w4 wr := HB4R.out.trans (hbr.out.mono HB4R.out.size)
      have e1 := (hi1.below hb4r).cell k (by rw [lows_len]; exact hlt)
      have e2 := (hi2.below hb4r).cell k (by rw [highs_len]; exact hlt)
      have e3 := (hi3.below (bT HB1.out HBW.out)).cell k hlt
      have v1 : (lows M xs.length)[k]?.getD 0 = (dif M 0 (k + 1)).1 := by simp [lows, lv, hlt]
      have v2 : (highs M xs.length)[k]?.getD 0 = (dif M 0 (k + 1)).2 := by simp [highs, lv, hlt]
      obtain ⟨z1, z2⟩ := HZ.out k hlt
      have hlv := fun V (hV : Below w.heap.size w V) => level_ok T M k p q c d V HOK.out HK.out (by have := HN.out; omega) (HTW.out.bel hV)
      rw [v1] at e1
      rw [v2] at e2
      obtain ⟨⟨y1, y2⟩, hy⟩ : ∃ y, dif M 0 (k + 1) = y := ⟨_, rfl⟩
      obtain ⟨z, hzz⟩ : ∃ z, xs[k]?.getD 0 = z := ⟨_, rfl⟩
      rw [hy] at e1 e2 z1 z2 hlv
      rw [hzz] at e3 z1 z2
      dsimp only at e1 e2 z1 z2 hlv
      have HLV := Lib.hid hlv
      have q1 : b1 < wr.heap.size := by have := hi1.lt; have := hb4r.size; omega
      have q2 : b2 < wr.heap.size := by have := hi2.lt; have := hb4r.size; omega
      have q3 : b3 < wr.heap.size := by have := hi3.lt; have := (bT HB1.out HBW.out).size; omega
      have t1 : decide (z < y1) = false := decide_eq_false (by omega)
      have t2 : decide (y2 < z) = false := decide_eq_false (by omega)
      have k0i : (0 : Int) ≤ (k : Int) := by omega
      have k1i : (k : Int) < (xs.length : Int) := by omega
      clear hi1 hi2 hi3 hb4r v1 v2 hy hzz hlv
      go_wp2_with fail
      refine (HLV.out _ (bT HB1.out HBW.out)).mono ?_
      rintro e w7 ⟨rfl, hb7⟩
      have HB7 := Lib.hid (bT HBW.out hb7)
      have f1 := (hb7.cell (p := ⟨b1, o1 + k, none⟩) q1).trans e1
      have f2 := (hb7.cell (p := ⟨b2, o2 + k, none⟩) q2).trans e2
      have f3 := (hb7.cell (p := ⟨b3, o3 + k, none⟩) q3).trans e3
      have r1 : b1 < w7.heap.size := by have := hb7.size; omega
      have r2 : b2 < w7.heap.size := by have := hb7.size; omega
      have r3 : b3 < w7.heap.size := by have := hb7.size; omega
      have HB67 := Lib.hid (bT hbr.out hb7)
      clear e1 e2 e3 hb7 j0 j1 j2 q1 q2 q3
      go_wp2_with fail
      go_quiet (fail)
      go_wp2_with fail
      go_roundw
      case rel => exact ⟨k + 1, by go_num, hlt, by repeat (first | exact HB67.out | refine bA ?_ _ | refine bD ?_ _ | refine bd ?_)⟩
      case measure => simp [intOf]; omega
    · obtain rfl : k = xs.length := by omega
      have j3 := (HBW.out.cell (p := ⟨w.heap.size + 1, 0, none⟩) l1).trans k3
      have j4 := (HBW.out.cell (p := ⟨w.heap.size + 1, 1, none⟩) l1).trans k4
      have lr1 : w.heap.size + 1 < wr.heap.size := by have := HBW.out.size; omega
      have lr0 : w.heap.size < wr.heap.size := by omega
      have hW6 := ok_W HOK.out
      cases ha : within a 0 (T.W - 1) with
      | false =>
        have HA := Lib.hid (fun V => isWell_b T.W a (.slice p T.s.length c) (.slice q T.r.length d) false V (by omega) (by omega) ha)
        clear ha
        go_wp2_with fail
        refine (HA.out _).mono ?_
        rintro e w7 ⟨rfl, hb7⟩
        have HB7 := Lib.hid (bT HBW.out hb7)
        clear hb7
        go_wp2_with fail
        refine (works_ex _).mono ?_
        rintro e w8 ⟨rfl, hb8⟩
        have HB8 := Lib.hid (bT HB7.out hb8)
        clear hb8
        go_wp2_with fail
        go_ret
        exact ⟨rfl, bT HB1.out HB8.out⟩
      | true =>
        have HA := Lib.hid (fun V => isWell_b T.W a (.slice p T.s.length c) (.slice q T.r.length d) true V (by omega) (by omega) ha)
        go_wp2_with fail
        refine (HA.out _).mono ?_
        rintro e w7 ⟨rfl, hb7⟩
        have HB7 := Lib.hid (bT HBW.out hb7)
        clear hb7
        have w7j0 := (HB7.out.cell (p := ⟨w.heap.size, 0, none⟩) l0).trans k0
        have w7j1 := (HB7.out.cell (p := ⟨w.heap.size, 1, none⟩) l0).trans k1
        have w7j2 := (HB7.out.cell (p := ⟨w.heap.size, 2, none⟩) l0).trans k2
        have w7j3 := (HB7.out.cell (p := ⟨w.heap.size + 1, 0, none⟩) l1).trans k3
        have w7j4 := (HB7.out.cell (p := ⟨w.heap.size + 1, 1, none⟩) l1).trans k4
        have w7l0 : w.heap.size < w7.heap.size := by have := HB7.out.size; omega
        have w7l1 : w.heap.size + 1 < w7.heap.size := by have := HB7.out.size; omega
        clear j0 j1 j2 j3 j4
        cases hb' : within b 0 (T.W - 1) with
        | false =>
          have HB' := Lib.hid (fun V => isWell_b T.W b (.slice p T.s.length c) (.slice q T.r.length d) false V (by omega) (by omega) hb')
          clear ha hb'
          go_wp2_with fail
          refine (HB'.out _).mono ?_
          rintro e w8 ⟨rfl, hb8⟩
          have HB8 := Lib.hid (bT HB7.out hb8)
          clear hb8
          go_wp2_with fail
          refine (works_ex _).mono ?_
          rintro e w9 ⟨rfl, hb9⟩
          have HB9 := Lib.hid (bT HB8.out hb9)
          clear hb9
          go_wp2_with fail
          go_ret
          exact ⟨rfl, bT HB1.out HB9.out⟩
        | true =>
          have HB' := Lib.hid (fun V => isWell_b T.W b (.slice p T.s.length c) (.slice q T.r.length d) true V (by omega) (by omega) hb')
          obtain ⟨u, rfl, hu⟩ := within_of ha
          obtain ⟨v, rfl, hv⟩ := within_of hb'
          have hun : u < xs.length := by have := HN.out; omega
          have hvn : v < xs.length := by have := HN.out; omega
          obtain ⟨b3, o3, rfl, hi3⟩ := HI.out (by omega)
          have hdf := fun V (hV : Below w.heap.size w V) => differ_ok T M u v p q c d V HOK.out HK.out hu hv (HTW.out.bel hV)
          have hhg := fun V (hV : Below w.heap.size w V) => higher_ok T M u v p q c d V HOK.out HK.out hu hv (HTW.out.bel hV)
          rw [dif_eq hM (by omega) (by omega)] at hdf hhg
          have g1 := HF.out (u + 1) (v + 1) (by omega) (by omega)
          have g2 := HF.out (v + 1) (u + 1) (by omega) (by omega)
          rw [lev_at xs u hun, lev_at xs v hvn] at g1 g2
          obtain ⟨x9, x9'⟩ := HX9.out u hun
          obtain ⟨y9, y9'⟩ := HX9.out v hvn
          have eu : xs[u]?.getD 0 = xs[u] := by rw [List.getElem?_eq_getElem hun]; rfl
          have ev : xs[v]?.getD 0 = xs[v] := by rw [List.getElem?_eq_getElem hvn]; rfl
          rw [← eu, ← ev] at g1 g2
          obtain ⟨zu, hzu⟩ : ∃ z, xs[u]?.getD 0 = z := ⟨_, rfl⟩
          obtain ⟨zv, hzv⟩ : ∃ z, xs[v]?.getD 0 = z := ⟨_, rfl⟩
          obtain ⟨X, hX⟩ : ∃ z, D M (u + 1) (v + 1) = z := ⟨_, rfl⟩
          obtain ⟨Y, hY⟩ : ∃ z, D M (v + 1) (u + 1) = z := ⟨_, rfl⟩
          rw [hzu] at g1 g2 x9 x9'
          rw [hzv] at g1 g2 y9 y9'
          rw [hX] at g1 hdf hhg
          rw [hY] at g2 hdf hhg
          obtain ⟨kk, hkk⟩ : ∃ z, hiB (-X, Y) = z := ⟨_, rfl⟩
          rw [hkk] at hhg
          have hcase : (kk = 1 ∧ zv - zu < 0) ∨ (kk = 2 ∧ 0 ≤ zv - zu) ∨ kk = 3 := by
            rw [← hkk]
            simp only [hiB]
            by_cases c1 : 0 < -X
            · rw [if_pos c1]; exact .inl ⟨rfl, by omega⟩
            · rw [if_neg c1]
              by_cases c2 : Y ≤ 0
              · rw [if_pos c2]; exact .inr (.inl ⟨rfl, by omega⟩)
              · rw [if_neg c2]; exact .inr (.inr rfl)
          have hy1 : -Y ≤ zv - zu := by omega
          have hy2 : zv - zu ≤ X := by omega
          have hww : within kk 1 3 = true := by
            rcases hcase with ⟨rfl, _⟩ | ⟨rfl, _⟩ | rfl <;> rfl
          have hwi : ∀ V, Calls Try.prog 49 #[.int .i64 kk, .int .i64 1, .int .i64 3] V fun e w' => e = .returned (.bool true) ∧ V = w' := fun V => (within_any kk 1 3 V).mono fun _ _ h => ⟨by rw [h.1, hww], h.2⟩
          have ciu : w.cell? ⟨b3, o3 + u, none⟩ = some (.int .i64 zu) := by rw [← hzu]; exact hi3.cell u hun
          have civ : w.cell? ⟨b3, o3 + v, none⟩ = some (.int .i64 zv) := by rw [← hzv]; exact hi3.cell v hvn
          have lb3 := hi3.lt
          have HDF := Lib.hid hdf; have HHG := Lib.hid hhg; have HWI := Lib.hid hwi
          have u0i : (0 : Int) ≤ (u : Int) := by omega
          have u1i : (u : Int) < (xs.length : Int) := by omega
          have v0i : (0 : Int) ≤ (v : Int) := by omega
          have v1i : (v : Int) < (xs.length : Int) := by omega
          clear ha hb' hdf hhg hwi hX hY hzu hzv hkk hww eu ev hi3 g1 g2 hu hv
          go_wp2_with fail
          refine (HB'.out _).mono ?_
          rintro e w8 ⟨rfl, hb8⟩
          have HB8 := Lib.hid (bT HB7.out hb8)
          clear hb8
          have w8j0 := (HB8.out.cell (p := ⟨w.heap.size, 0, none⟩) l0).trans k0
          have w8j1 := (HB8.out.cell (p := ⟨w.heap.size, 1, none⟩) l0).trans k1
          have w8j2 := (HB8.out.cell (p := ⟨w.heap.size, 2, none⟩) l0).trans k2
          have w8j3 := (HB8.out.cell (p := ⟨w.heap.size + 1, 0, none⟩) l1).trans k3
          have w8j4 := (HB8.out.cell (p := ⟨w.heap.size + 1, 1, none⟩) l1).trans k4
          have w8l0 : w.heap.size < w8.heap.size := by have := HB8.out.size; omega
          have w8l1 : w.heap.size + 1 < w8.heap.size := by have := HB8.out.size; omega
          clear w7j0 w7j1 w7j2 w7j3 w7j4
          go_wp2_with fail
          refine (HDF.out _ (bT HB1.out HB8.out)).mono ?_
          rintro e w9 ⟨rfl, hb9⟩
          have HB9 := Lib.hid (bT HB8.out hb9)
          clear hb9
          have w9j0 := (HB9.out.cell (p := ⟨w.heap.size, 0, none⟩) l0).trans k0
          have w9j1 := (HB9.out.cell (p := ⟨w.heap.size, 1, none⟩) l0).trans k1
          have w9j2 := (HB9.out.cell (p := ⟨w.heap.size, 2, none⟩) l0).trans k2
          have w9j3 := (HB9.out.cell (p := ⟨w.heap.size + 1, 0, none⟩) l1).trans k3
          have w9j4 := (HB9.out.cell (p := ⟨w.heap.size + 1, 1, none⟩) l1).trans k4
          have w9l0 : w.heap.size < w9.heap.size := by have := HB9.out.size; omega
          have w9l1 : w.heap.size + 1 < w9.heap.size := by have := HB9.out.size; omega
          clear w8j0 w8j1 w8j2 w8j3 w8j4
          go_wp2_with fail
          refine (HHG.out _ (bT HB1.out (bA HB9.out _))).mono ?_
          rintro e w10 ⟨rfl, hb10⟩
          have HB10 := Lib.hid (bT (bA HB9.out _) hb10)
          have y10 := (hb10.block w9.heap.size (by simp)).trans (heap_alloc_new w9 _)
          have s0 := cell_of_row w10 w9.heap.size 0 _ _ _ y10
          have s1' := cell_of_row w10 w9.heap.size 1 _ _ _ y10
          simp only [List.getElem?_toArray, List.getElem?_cons_zero, List.getElem?_cons_succ] at s0 s1'
          clear hb10 y10
          have w10j0 := (HB10.out.cell (p := ⟨w.heap.size, 0, none⟩) l0).trans k0
          have w10j1 := (HB10.out.cell (p := ⟨w.heap.size, 1, none⟩) l0).trans k1
          have w10j2 := (HB10.out.cell (p := ⟨w.heap.size, 2, none⟩) l0).trans k2
          have w10j3 := (HB10.out.cell (p := ⟨w.heap.size + 1, 0, none⟩) l1).trans k3
          have w10j4 := (HB10.out.cell (p := ⟨w.heap.size + 1, 1, none⟩) l1).trans k4
          have w10l0 : w.heap.size < w10.heap.size := by have := HB10.out.size; omega
          have w10l1 : w.heap.size + 1 < w10.heap.size := by have := HB10.out.size; omega
          clear w9j0 w9j1 w9j2 w9j3 w9j4
          have lu := ((bT HB1.out HB10.out).cell (p := ⟨b3, o3 + u, none⟩) lb3).trans ciu
          have lv' := ((bT HB1.out HB10.out).cell (p := ⟨b3, o3 + v, none⟩) lb3).trans civ
          clear ciu civ
          go_wp2_with fail
          rcases hcase with ⟨rfl, hc⟩ | ⟨rfl, hc⟩ | rfl
          all_goals
            go_quiet (fail)
            go_wp2_with fail
            refine (HWI.out _).mono ?_
            rintro e w11 ⟨rfl, rfl⟩
            go_wp2_with fail
            refine (works_ex _).mono ?_
            rintro e w12 ⟨rfl, hb12⟩
            have HB12 := Lib.hid hb12
            clear hb12
            go_wp2_with fail
            go_ret
            exact ⟨rfl, bT HB1.out (bT (by repeat (first | exact HB10.out | refine bD ?_ _ | refine bd ?_)) HB12.out)⟩

/-- LevelsEach answers true, whatever the town, the list and the wells -/
theorem each_law (T : Town) (p q : Option Addr) (c d : Nat) (xs : List Int) (x : Option Addr) (cx : Nat) (a b t y : Int) (w : World) (hx : xs.length ≤ 9223372036854775807) (ht : TownIn w w.heap.size T p q) (hi : Ints w x xs) :
    Calls Try.prog 9 #[.agg #[.int .i64 T.W, .slice p T.s.length c, .slice q T.r.length d], .slice x xs.length cx, .agg #[.int .i64 a, .int .i64 b, .int .i64 t, .int .i64 y]] w fun e w' => e = .returned (.bool true) ∧ Below w.heap.size w w' := by
  cases hs : (rdy T && (decide (xs.length ≤ 40) && truth T xs)) with
  | false => exact each_skip T p q c d xs x cx a b t y w hx ht hi hs
  | true =>
    simp only [Bool.and_eq_true, decide_eq_true_eq] at hs
    obtain ⟨hr, _, hT⟩ := hs
    have hok := (rdy_ok hr).1
    cases hk : kn T with
    | none => rw [truth_none hok hk xs] at hT; cases hT
    | some M => exact each_main T M p q c d xs x cx a b t y w ht hi hr hT hk
end Go.Proofs.Ytmfbfcknnjbabaa
