/- The contracts of the specification's Differ, of a town with a truth. Made by m7.py. -/
import Derived.Test.YtmfbfcknnjbabaaM7
import Derived.Test.YtmfbfcknnjbabaaL6
import Derived.Test.YtmfbfcknnjbabaaX2
set_option linter.unusedSimpArgs false
set_option linter.unusedVariables false
namespace Go.Proofs.Ytmfbfcknnjbabaa
open Go.RowKit


theorem row2_set {w : World} {b : Nat} {t : TypeId} {x y x' y' : Value} (h : w.heap[b]? = some (.cells #[x, y] t (0, 0))) :
    ∃ w', (w.setCell ⟨b, 0, none⟩ x').setCell ⟨b, 1, none⟩ y' = w' ∧ w'.heap[b]? = some (.cells #[x', y'] t (0, 0)) ∧ w'.heap.size = w.heap.size ∧ (∀ c, c ≠ b → w'.heap[c]? = w.heap[c]?) ∧ (∀ W : World, W.heap.size ≤ b → Below W.heap.size W w → Below W.heap.size W w') := by
  have h1 := heap_setCell_same w b 0 #[x, y] t x' h
  have h2 := heap_setCell_same (w.setCell ⟨b, 0, none⟩ x') b 1 _ t y' h1
  refine ⟨_, rfl, h2, by simp [World.setCell], fun c hc => ?_, fun W hg hb => ?_⟩
  · rw [Below.heap_setCell _ _ _ _ (by simpa using hc), Below.heap_setCell _ _ _ _ (by simpa using hc)]
  · have b1 := bS hb (p := ⟨b, 0, none⟩) hg x'
    exact bS b1 (p := ⟨b, 1, none⟩) hg y'

theorem row_town {w w1 : World} {x : Obj} (h : w.alloc x = w1) : w1.heap[w.heap.size]? = some x := by rw [← h]; exact heap_alloc_new _ _

set_option maxRecDepth 100000 in
set_option maxHeartbeats 16000000 in
theorem differR_ok (T : Town) (M : List Int) (n u v : Nat) (p q : Option Addr) (c d : Nat) (w : World) (hok : T.ok = true) (hk : kn T = some M) (hn : T.W = n) (hun : u < n) (hvn : v < n) (ht : TownIn w w.heap.size T p q) :
    Calls Try.prog 34 #[.agg #[.int .i64 T.W, .slice p T.s.length c, .slice q T.r.length d], .int .i64 u, .int .i64 v] w fun e w' => e = .returned (.tuple #[.agg #[.int .i64 (-D M (v + 1) (u + 1)), .int .i64 (D M (u + 1) (v + 1))], .int .i64 0]) ∧ Below w.heap.size w w' := by
  have hW := ok_W hok
  have hlen := ok_len hok
  obtain ⟨w1, hw1, hb1, hz1, k0, k1, k2⟩ := box_town w T.W p q T.s.length T.r.length c d
  have hl1 : w.heap.size < w1.heap.size := by omega
  obtain ⟨w2, hw2⟩ : ∃ w2, w1.alloc (Obj.cells #[Value.int IntKind.i64 0, Value.int IntKind.i64 0] 38) = w2 := ⟨_, rfl⟩
  have hb2 : Below w1.heap.size w1 w2 := by rw [← hw2]; exact bA (Below.refl _ _) _
  have hr2 : w2.heap[w1.heap.size]? = some (.cells #[Value.int IntKind.i64 0, Value.int IntKind.i64 0] 38 (0, 0)) := by rw [← hw2]; exact heap_alloc_new _ _
  have m0 := (hb2.cell (p := ⟨w.heap.size, 0, none⟩) hl1).trans k0
  have m1 := (hb2.cell (p := ⟨w.heap.size, 1, none⟩) hl1).trans k1
  have m2 := (hb2.cell (p := ⟨w.heap.size, 2, none⟩) hl1).trans k2
  have hl2 : w.heap.size < w2.heap.size := by have := hb2.size; omega
  have hl3 : w1.heap.size < w2.heap.size := (Array.getElem?_eq_some_iff.1 hr2).1
  have hM := kn_clo hok hk
  have hwa := fun V => isWell_b T.W u (.slice p T.s.length c) (.slice q T.r.length d) true V (by omega) (by omega) (by simp only [within, decide_eq_true_eq]; omega)
  have hwb := fun V => isWell_b T.W v (.slice p T.s.length c) (.slice q T.r.length d) true V (by omega) (by omega) (by simp only [within, decide_eq_true_eq]; omega)
  have hkk := fun (V : World) (hV : Below w2.heap.size w2 V) => known_any T true p q c d V (by omega) (by omega) (ht.bel (bT (bT hb1 hb2) hV))
  unfold KnownPost at hkk
  have hkr : kres T true = (lv M n, 0) := by simp [kres, hok, hk, hn]
  obtain ⟨L, hL⟩ : ∃ z, lv M n = z := ⟨_, rfl⟩
  have hln : L.length = n := by rw [← hL, lv_len]
  rw [hL] at hkr
  simp only [hkr, hln] at hkk
  obtain ⟨A0, hA0⟩ : ∃ z, (sp L u).1 = z := ⟨_, rfl⟩
  obtain ⟨A1, hA1⟩ : ∃ z, (sp L u).2 = z := ⟨_, rfl⟩
  have eA0 : A0 = -D M (u + 1) 0 := by rw [← hA0, ← hL, lv_at hun, dif_eq hM (by omega) (by omega)]
  have eA1 : A1 = D M 0 (u + 1) := by rw [← hA1, ← hL, lv_at hun, dif_eq hM (by omega) (by omega)]
  have hA01 : A0 ≤ A1 ∧ 0 ≤ A0 ∧ A1 ≤ 99 := by
    have c1 := clo_le hM (p := 0) (q := u + 1) (by omega) (by omega)
    have c2 := hM.le 0 (u + 1) (by omega) (by omega)
    obtain ⟨xs, hx, ex⟩ := hit_level hok hk hn hun (z := A0) (by omega) (by omega)
    have := truth_x hx (i := u) (by omega)
    omega
  have hso := fun (z : Int) (V : World) (p q : Option Addr) (c d : Nat) (h : TownIn V V.heap.size T p q) => (sounded_own T ⟨u, z, z⟩ p q c d V (by omega) (by omega) h).mono fun e w' ⟨p', c', q', d', h1, h2, h3⟩ => (⟨p', c', q', d', h1, h2, h3.town⟩ : ∃ p' c' q' d', e = Ending.returned (.agg #[.int .i64 T.W, .slice p' (T.s.length + 1) c', .slice q' T.r.length d']) ∧ Below V.heap.size V w' ∧ TownIn w' w'.heap.size (T.snd ⟨u, z, z⟩) p' q')
  have hspz : ∀ (z : Int), A0 ≤ z → z ≤ A1 → ∀ (V : World) (p q : Option Addr) (c d : Nat), TownIn V V.heap.size (T.snd ⟨u, z, z⟩) p q → Calls Try.prog 54 #[.agg #[.int .i64 T.W, .slice p (T.s.length + 1) c, .slice q T.r.length d]] V fun e w' =>
      ∃ p' L', e = .returned (.tuple #[.slice p' n n, .bool true]) ∧ SpIn w' p' L' ∧ L'.length = n ∧ Enc (T.snd ⟨u, z, z⟩) L' ∧ truth (T.snd ⟨u, z, z⟩) (L'.map fun x => x.1) = true ∧ truth (T.snd ⟨u, z, z⟩) (L'.map fun x => x.2) = true ∧ Below V.heap.size V w' := fun z z0 z1 V p q c d h => by
    have hs := spans_fin (T.snd ⟨u, z, z⟩) n p q c d V (fin_snd hok (by simp only [sOk, within, Bool.and_eq_true, decide_eq_true_eq]; omega)) hn h
    rw [show (T.snd ⟨u, z, z⟩).s.length = T.s.length + 1 by simp [Town.snd]] at hs
    refine hs.mono fun e w' ⟨hb, hx⟩ => ?_
    rcases hx with ⟨hN, _⟩ | ⟨L', h1, h2, h3, rfl, hs⟩
    · obtain ⟨xs, hx, ex⟩ := hit_level hok hk hn hun (z := z) (by omega) (by omega)
      have := (truth_snd xs).2 ⟨hx, ex⟩
      rw [hN] at this
      cases this
    · exact ⟨_, L', rfl, hs.into, hs.len, h1, h2, h3, hb⟩
  have hT4 := ht.bel (bT hb1 hb2)
  have hst := outI_start hok hk hn hun hvn
  rw [← eA0] at hst
  have Yt2 := Lib.hid ((hb2.block _ hl1).trans (row_town hw1))
  have HB2 := Lib.hid (bT hb1 hb2); have HR2 := Lib.hid hr2
  have HA := Lib.hid hwa; have HB := Lib.hid hwb; have HKK := Lib.hid hkk; have HSO := Lib.hid hso; have HSPZ := Lib.hid hspz; have FT2 := Lib.hid hT4
  have HOK := Lib.hid hok; have HK' := Lib.hid hk; have HN := Lib.hid hn; have HLN := Lib.hid hln; have HST0 := Lib.hid hst; have HA1 := Lib.hid eA1
  have HAU := Lib.hid (And.intro hA0 hA1)
  clear hwa hwb hkk hso hspz hT4 hb1 hb2 hz1 ht hr2 hok hk hn hln hst eA0 eA1 hL hkr hA0 hA1 hM k0 k1 k2
  go_enter Try.func34, Try.ntmps34
  go_wp2
  clear hw1 hw2
  go_region_held3 (fun w' => w'.cell? ⟨w.heap.size, 0, none⟩ = some (.int .i64 T.W) ∧ w'.cell? ⟨w.heap.size, 1, none⟩ = some (.slice p T.s.length c) ∧ w'.cell? ⟨w.heap.size, 2, none⟩ = some (.slice q T.r.length d))
    (first | go_keep | exact ⟨d0, d1, d2⟩)
    (first
      | (go_at_call 48; refine (HA.out _).mono ?_; rintro e w3 ⟨rfl, hb3⟩; go_must (have hB3 : Below w2.heap.size w2 w3 := bT (by repeat (first | assumption | exact Below.refl _ _ | refine bd ?_ | refine bD ?_ _)) hb3; have d0 := (hB3.cell (p := ⟨w.heap.size, 0, none⟩) hl2).trans m0; have d1 := (hB3.cell (p := ⟨w.heap.size, 1, none⟩) hl2).trans m1; have d2 := (hB3.cell (p := ⟨w.heap.size, 2, none⟩) hl2).trans m2; clear hb3))
      | (go_at_call 48; refine (HB.out _).mono ?_; rintro e w3 ⟨rfl, hb3⟩; go_must (have hB3 : Below w2.heap.size w2 w3 := bT (by repeat (first | assumption | exact Below.refl _ _ | refine bd ?_ | refine bD ?_ _)) hb3; have d0 := (hB3.cell (p := ⟨w.heap.size, 0, none⟩) hl2).trans m0; have d1 := (hB3.cell (p := ⟨w.heap.size, 1, none⟩) hl2).trans m1; have d2 := (hB3.cell (p := ⟨w.heap.size, 2, none⟩) hl2).trans m2; clear hb3))
      | (go_at_call 60; refine (HKK.out _ (by repeat (first | assumption | exact Below.refl _ _ | refine bd ?_ | refine bD ?_ _))).mono ?_; rintro e w4 ⟨p4, c4, rfl, hi4, hb4⟩; go_must (have hB4 : Below w2.heap.size w2 w4 := bT (by repeat (first | assumption | exact Below.refl _ _ | refine bd ?_ | refine bD ?_ _)) hb4; have d0 := (hB4.cell (p := ⟨w.heap.size, 0, none⟩) hl2).trans m0; have d1 := (hB4.cell (p := ⟨w.heap.size, 1, none⟩) hl2).trans m1; have d2 := (hB4.cell (p := ⟨w.heap.size, 2, none⟩) hl2).trans m2; have HI4 := Lib.hid hi4; clear hb4 hi4)))
  have HK := HK'
  obtain ⟨g, rfl, hlg, hcell⟩ := HI4.out.at' (by have := HLN.out; omega)
  obtain ⟨e1, e2⟩ := hcell u (by have := HLN.out; omega)
  rw [HAU.out.1] at e1
  rw [HAU.out.2] at e2
  have HCC := Lib.hid (And.intro e1 (And.intro e2 hlg))
  have Yt4 := Lib.hid ((hB4.block _ hl2).trans Yt2.out)
  have Yr4 := Lib.hid ((hB4.block _ hl3).trans HR2.out)
  have HB4 := Lib.hid (bT HB2.out hB4)
  have FT4 := Lib.hid (FT2.out.bel hB4)
  have i0 : (0 : Int) ≤ (u : Int) := by omega
  have i1 : (u : Int) < (n : Int) := by omega
  clear hcell hB4
  go_wp2_with fail
  obtain ⟨W4, hW4⟩ : ∃ W4, w4.alloc (Obj.cells #[.int .i64 100, .int .i64 (-100)] 38) = W4 := ⟨_, rfl⟩
  rw [hW4]
  have hbW : Below w4.heap.size w4 W4 := by rw [← hW4]; exact bA (Below.refl _ _) _
  have yW : W4.heap[w4.heap.size]? = some (.cells #[.int .i64 100, .int .i64 (-100)] 38 (0, 0)) := by rw [← hW4]; exact heap_alloc_new _ _
  have HBW := Lib.hid hbW; have YW := Lib.hid yW
  clear hW4 hbW yW e1 e2 d0 d1 d2
  go_loopw [11] (fun i wr => ∃ z O0 O1 : Int, i = .int .i64 z ∧ A0 ≤ z ∧ z ≤ A1 + 1 ∧ OutI T M u v z O0 O1 ∧ wr.heap[w4.heap.size]? = some (.cells #[.int .i64 O0, .int .i64 O1] 38 (0, 0)) ∧ Below w4.heap.size w4 wr) (fun i _ => (A1 + 1 - intOf i).toNat)
  case atStart => exact ⟨A0, 100, -100, rfl, Int.le_refl _, by omega, HST0.out, YW.out, HBW.out⟩
  case round =>
    obtain ⟨z, O0, O1, rfl, h0z, h1z, ho, hyo, hbr⟩ := hrel
    have HO := Lib.hid ho; have Yo := Lib.hid hyo; have HBR := Lib.hid hbr
    clear ho hyo
    have Yt_31 := Lib.hid ((hbr.block _ (rowLt Yt4.out)).trans Yt4.out)
    have Yr_31 := Lib.hid ((hbr.block _ (rowLt Yr4.out)).trans Yr4.out)
    have FT_31 := Lib.hid (FT4.out.bel hbr)
    have HBW_31 := Lib.hid (bT HB4.out hbr)
    clear hbr
    have ct0_31 := cell_of_row wr w.heap.size 0 _ _ _ Yt_31.out
    have ct1_31 := cell_of_row wr w.heap.size 1 _ _ _ Yt_31.out
    have ct2_31 := cell_of_row wr w.heap.size 2 _ _ _ Yt_31.out
    have cr0_31 := cell_of_row wr w1.heap.size 0 _ _ _ Yr_31.out
    have cr1_31 := cell_of_row wr w1.heap.size 1 _ _ _ Yr_31.out
    simp only [List.getElem?_toArray, List.getElem?_cons_zero, List.getElem?_cons_succ] at ct0_31 ct1_31 ct2_31 cr0_31 cr1_31
    have lt_31 := rowLt Yt_31.out
    have lr_31 := rowLt Yr_31.out
    clear ct0_31 ct1_31 ct2_31 cr0_31 cr1_31 lt_31 lr_31
    have ct0_31 := cell_of_row wr w.heap.size 0 _ _ _ Yt_31.out
    have ct1_31 := cell_of_row wr w.heap.size 1 _ _ _ Yt_31.out
    have ct2_31 := cell_of_row wr w.heap.size 2 _ _ _ Yt_31.out
    have cr0_31 := cell_of_row wr w1.heap.size 0 _ _ _ Yr_31.out
    have cr1_31 := cell_of_row wr w1.heap.size 1 _ _ _ Yr_31.out
    have co0_31 := cell_of_row wr w4.heap.size 0 _ _ _ Yo.out
    have co1_31 := cell_of_row wr w4.heap.size 1 _ _ _ Yo.out
    simp only [List.getElem?_toArray, List.getElem?_cons_zero, List.getElem?_cons_succ] at ct0_31 ct1_31 ct2_31 cr0_31 cr1_31 co0_31 co1_31
    have lt_31 := rowLt Yt_31.out
    have lr_31 := rowLt Yr_31.out
    have lo_31 := rowLt Yo.out
    have e1 := (HBR.out.cell (p := ⟨g, u * 2, none⟩) HCC.out.2.2).trans HCC.out.1
    have e2 := (HBR.out.cell (p := ⟨g, u * 2 + 1, none⟩) HCC.out.2.2).trans HCC.out.2.1
    by_cases hle : z ≤ A1
    · have gz : decide (z ≤ A1) = true := decide_eq_true hle
      go_wp2_with fail
      refine (HSO.out z _ _ _ _ _ FT_31.out).mono ?_
      rintro e w6 ⟨p6, c6, q6, d6, rfl, hw6, ht6⟩
      clear ct0_31 ct1_31 ct2_31 cr0_31 cr1_31 co0_31 co1_31 lt_31 lr_31 lo_31
      have Yt_32 := Lib.hid ((hw6.block _ (rowLt Yt_31.out)).trans Yt_31.out)
      have Yr_32 := Lib.hid ((hw6.block _ (rowLt Yr_31.out)).trans Yr_31.out)
      have Yo_32 := Lib.hid ((hw6.block _ (rowLt Yo.out)).trans Yo.out)
      have FT_32 := Lib.hid (FT_31.out.bel hw6)
      have FK_32 := Lib.hid (bT HBR.out hw6)
      have HBW_32 := Lib.hid (bT HBW_31.out hw6)
      clear hw6
      have ct0_32 := cell_of_row w6 w.heap.size 0 _ _ _ Yt_32.out
      have ct1_32 := cell_of_row w6 w.heap.size 1 _ _ _ Yt_32.out
      have ct2_32 := cell_of_row w6 w.heap.size 2 _ _ _ Yt_32.out
      have cr0_32 := cell_of_row w6 w1.heap.size 0 _ _ _ Yr_32.out
      have cr1_32 := cell_of_row w6 w1.heap.size 1 _ _ _ Yr_32.out
      have co0_32 := cell_of_row w6 w4.heap.size 0 _ _ _ Yo_32.out
      have co1_32 := cell_of_row w6 w4.heap.size 1 _ _ _ Yo_32.out
      simp only [List.getElem?_toArray, List.getElem?_cons_zero, List.getElem?_cons_succ] at ct0_32 ct1_32 ct2_32 cr0_32 cr1_32 co0_32 co1_32
      have lt_32 := rowLt Yt_32.out
      have lr_32 := rowLt Yr_32.out
      have lo_32 := rowLt Yo_32.out
      have FU6 := Lib.hid ht6
      clear ht6
      go_wp2_with fail
      refine (HSPZ.out z h0z hle _ _ _ _ _ FU6.out).mono ?_
      rintro e w7 ⟨p7, L', rfl, hi7, hl7, hE7, t17, t27, hw7⟩
      clear ct0_32 ct1_32 ct2_32 cr0_32 cr1_32 co0_32 co1_32 lt_32 lr_32 lo_32
      have Yt_33 := Lib.hid ((hw7.block _ (rowLt Yt_32.out)).trans Yt_32.out)
      have Yr_33 := Lib.hid ((hw7.block _ (rowLt Yr_32.out)).trans Yr_32.out)
      have Yo_33 := Lib.hid ((hw7.block _ (rowLt Yo_32.out)).trans Yo_32.out)
      have FT_33 := Lib.hid (FT_32.out.bel hw7)
      have FK_33 := Lib.hid (bT FK_32.out hw7)
      have FU_33 := Lib.hid (FU6.out.bel hw7)
      have HBW_33 := Lib.hid (bT HBW_32.out hw7)
      clear hw7
      have ct0_33 := cell_of_row w7 w.heap.size 0 _ _ _ Yt_33.out
      have ct1_33 := cell_of_row w7 w.heap.size 1 _ _ _ Yt_33.out
      have ct2_33 := cell_of_row w7 w.heap.size 2 _ _ _ Yt_33.out
      have cr0_33 := cell_of_row w7 w1.heap.size 0 _ _ _ Yr_33.out
      have cr1_33 := cell_of_row w7 w1.heap.size 1 _ _ _ Yr_33.out
      have co0_33 := cell_of_row w7 w4.heap.size 0 _ _ _ Yo_33.out
      have co1_33 := cell_of_row w7 w4.heap.size 1 _ _ _ Yo_33.out
      simp only [List.getElem?_toArray, List.getElem?_cons_zero, List.getElem?_cons_succ] at ct0_33 ct1_33 ct2_33 cr0_33 cr1_33 co0_33 co1_33
      have lt_33 := rowLt Yt_33.out
      have lr_33 := rowLt Yr_33.out
      have lo_33 := rowLt Yo_33.out
      obtain ⟨g', hgp, hlg', hcell'⟩ := hi7.at' (by omega)
      obtain ⟨e3, e4⟩ := hcell' v (by omega)
      obtain ⟨b1, b2⟩ := truth_x ((truth_snd _).1 t17).1 (i := v) (by have := HN.out; omega)
      obtain ⟨b3, b4⟩ := truth_x ((truth_snd _).1 t27).1 (i := v) (by have := HN.out; omega)
      rw [firsts_at _ _ _ (by omega)] at b1 b2 b3 b4
      obtain ⟨l0, hl0⟩ : ∃ z, (sp L' v).1 = z := ⟨_, rfl⟩
      obtain ⟨h0, hh0⟩ : ∃ z, (sp L' v).2 = z := ⟨_, rfl⟩
      rw [hl0] at e3 b1 b2
      rw [hh0] at e4 b3 b4
      obtain ⟨m0, hm0⟩ : ∃ z', (if l0 - z < O0 then l0 - z else O0) = z' := ⟨_, rfl⟩
      obtain ⟨m1, hm1⟩ : ∃ z', (if O1 < h0 - z then h0 - z else O1) = z' := ⟨_, rfl⟩
      have hst := outI_step HOK.out HK.out HN.out hun hvn hl7 HO.out hE7 t17 t27 (m0 := m0) (m1 := m1) (by rw [hl0]; exact hm0) (by rw [hh0]; exact hm1)
      have HST := Lib.hid hst
      have v1 : IntKind.i64.wrap (l0 - z) = l0 - z := IntWalk.i64_in _ (by omega)
      have v2 : IntKind.i64.wrap (h0 - z) = h0 - z := IntWalk.i64_in _ (by omega)
      have i2 : (0 : Int) ≤ (v : Int) := by omega
      have i3 : (v : Int) < (n : Int) := by omega
      have hln : (L'.length : Int) = n := by omega
      subst hgp
      clear hi7 hE7 t17 t27 hl0 hh0 hst hcell' hl7 hln
      go_wp2_with fail
      have fo : ∀ i, w7.frozen? ⟨w4.heap.size, i, none⟩ = false := fun i => by simp [World.frozen?, Yo_33.out]
      refine wp_region_last (fun w' => w'.cell? ⟨w4.heap.size, 0, none⟩ = some (.int .i64 O0) ∧ w'.cell? ⟨w4.heap.size, 1, none⟩ = some (.int .i64 O1) ∧ w'.cell? ⟨g', (v : Nat) * 2, none⟩ = some (.int .i64 l0) ∧ w'.cell? ⟨g', (v : Nat) * 2 + 1, none⟩ = some (.int .i64 h0)) 21 (by kernel_rfl) rfl (⟨co0_33, co1_33, e3, e4⟩) (fun hHeld => ?_)
      refine wpAnyG_take (i := 0) (v := ?_) (by kernel_rfl) rfl (by kernel_rfl) (by kernel_rfl) (by kernel_rfl) (fun _ _ _ h => h) (Or.inl ⟨by rfl, ?_⟩) (by assumption) ?_
      rotate_left
      · intro wS hSw
        (try dsimp only at hSw)
        go_simp
        try (with_reducible rfl)
      try simp only [Act.put, List.setIfInBounds_toArray, List.set_cons_zero, List.set_cons_succ]
      refine wpAnyG_take (i := 1) (v := ?_) (by kernel_rfl) rfl (by kernel_rfl) (by kernel_rfl) (by kernel_rfl) (fun _ _ _ h => h) (Or.inl ⟨by rfl, ?_⟩) (by assumption) ?_
      rotate_left
      · intro wS hSw
        (try dsimp only at hSw)
        go_simp
        try (with_reducible rfl)
      try simp only [Act.put, List.setIfInBounds_toArray, List.set_cons_zero, List.set_cons_succ]
      refine wpAnyG_take (i := 2) (v := ?_) (by kernel_rfl) rfl (by kernel_rfl) (by kernel_rfl) (by kernel_rfl) (fun _ _ _ h => h) (Or.inl ⟨by rfl, ?_⟩) (by assumption) ?_
      rotate_left
      · intro wS hSw
        (try dsimp only at hSw)
        go_simp
        try (with_reducible rfl)
      try simp only [Act.put, List.setIfInBounds_toArray, List.set_cons_zero, List.set_cons_succ]
      refine wpAnyG_take (i := 3) (v := ?_) (by kernel_rfl) rfl (by kernel_rfl) (by kernel_rfl) (by kernel_rfl) (fun _ _ _ h => h) (Or.inl ⟨by rfl, ?_⟩) (by assumption) ?_
      rotate_left
      · intro wS hSw
        (try dsimp only at hSw)
        go_simp
        try (with_reducible rfl)
      try simp only [Act.put, List.setIfInBounds_toArray, List.set_cons_zero, List.set_cons_succ]
      refine wpAnyG_take (i := 4) (v := ?_) (by kernel_rfl) rfl (by kernel_rfl) (by kernel_rfl) (by kernel_rfl) (fun _ _ _ h => h) (Or.inl ⟨by rfl, ?_⟩) (by assumption) ?_
      rotate_left
      · intro wS hSw
        (try dsimp only at hSw)
        go_simp
        try (with_reducible rfl)
      try simp only [Act.put, List.setIfInBounds_toArray, List.set_cons_zero, List.set_cons_succ]
      refine wpAnyG_take (i := 5) (v := ?_) (by kernel_rfl) rfl (by kernel_rfl) (by kernel_rfl) (by kernel_rfl) (fun _ _ _ h => h) (Or.inl ⟨by rfl, ?_⟩) (by assumption) ?_
      rotate_left
      · intro wS hSw
        (try dsimp only at hSw)
        go_simp
        try (with_reducible rfl)
      try simp only [Act.put, List.setIfInBounds_toArray, List.set_cons_zero, List.set_cons_succ]
      refine wpAnyG_take (i := 6) (v := ?_) (by kernel_rfl) rfl (by kernel_rfl) (by kernel_rfl) (by kernel_rfl) (fun _ _ _ h => h) (Or.inl ⟨by rfl, ?_⟩) (by assumption) ?_
      rotate_left
      · intro wS hSw
        (try dsimp only at hSw)
        go_simp
        try (with_reducible rfl)
      try simp only [Act.put, List.setIfInBounds_toArray, List.set_cons_zero, List.set_cons_succ]
      refine wpAnyG_take (i := 7) (v := ?_) (by kernel_rfl) rfl (by kernel_rfl) (by kernel_rfl) (by kernel_rfl) (fun _ _ _ h => h) (Or.inl ⟨by rfl, ?_⟩) (by assumption) ?_
      rotate_left
      · intro wS hSw
        (try dsimp only at hSw)
        go_simp
        try (with_reducible rfl)
      try simp only [Act.put, List.setIfInBounds_toArray, List.set_cons_zero, List.set_cons_succ]
      refine wpAnyG_take (i := 8) (v := ?_) (by kernel_rfl) rfl (by kernel_rfl) (by kernel_rfl) (by kernel_rfl) (fun _ _ _ h => h) (Or.inl ⟨by rfl, ?_⟩) (by assumption) ?_
      rotate_left
      · intro wS hSw
        (try dsimp only at hSw)
        go_simp
        try (with_reducible rfl)
      try simp only [Act.put, List.setIfInBounds_toArray, List.set_cons_zero, List.set_cons_succ]
      refine wpAnyG_take (i := 9) (v := ?_) (by kernel_rfl) rfl (by kernel_rfl) (by kernel_rfl) (by kernel_rfl) (fun _ _ _ h => h) (Or.inl ⟨by rfl, ?_⟩) (by assumption) ?_
      rotate_left
      · intro wS hSw
        (try dsimp only at hSw)
        go_simp
        try (with_reducible rfl)
      try simp only [Act.put, List.setIfInBounds_toArray, List.set_cons_zero, List.set_cons_succ]
      refine wpAnyG_take (i := 10) (v := ?_) (by kernel_rfl) rfl (by kernel_rfl) (by kernel_rfl) (by kernel_rfl) (fun _ _ _ h => h) (Or.inl ⟨by rfl, ?_⟩) (by assumption) ?_
      rotate_left
      · intro wS hSw
        (try dsimp only at hSw)
        go_simp
        try (with_reducible rfl)
      try simp only [Act.put, List.setIfInBounds_toArray, List.set_cons_zero, List.set_cons_succ]
      refine wpAnyG_take (i := 11) (v := ?_) (by kernel_rfl) rfl (by kernel_rfl) (by kernel_rfl) (by kernel_rfl) (fun _ _ _ h => h) (Or.inl ⟨by rfl, ?_⟩) (by assumption) ?_
      rotate_left
      · intro wS hSw
        (try dsimp only at hSw)
        go_simp
        try (with_reducible rfl)
      try simp only [Act.put, List.setIfInBounds_toArray, List.set_cons_zero, List.set_cons_succ]
      refine wpAnyG_take (i := 12) (v := ?_) (by kernel_rfl) rfl (by kernel_rfl) (by kernel_rfl) (by kernel_rfl) (fun _ _ _ h => h) (Or.inl ⟨by rfl, ?_⟩) (by assumption) ?_
      rotate_left
      · intro wS hSw
        (try dsimp only at hSw)
        go_simp
        try (with_reducible rfl)
      try simp only [Act.put, List.setIfInBounds_toArray, List.set_cons_zero, List.set_cons_succ]
      refine wpAnyG_take (i := 13) (v := ?_) (by kernel_rfl) rfl (by kernel_rfl) (by kernel_rfl) (by kernel_rfl) (fun _ _ _ h => h) (Or.inl ⟨by rfl, ?_⟩) (by assumption) ?_
      rotate_left
      · intro wS hSw
        (try dsimp only at hSw)
        go_simp
        try (with_reducible rfl)
      try simp only [Act.put, List.setIfInBounds_toArray, List.set_cons_zero, List.set_cons_succ]
      refine wpAnyG_take (i := 14) (v := ?_) (by kernel_rfl) rfl (by kernel_rfl) (by kernel_rfl) (by kernel_rfl) (fun _ _ _ h => h) (Or.inl ⟨by rfl, ?_⟩) (by assumption) ?_
      rotate_left
      · intro wS hSw
        (try dsimp only at hSw)
        go_simp
        try (with_reducible rfl)
      try simp only [Act.put, List.setIfInBounds_toArray, List.set_cons_zero, List.set_cons_succ]
      refine wpAnyG_take (i := 15) (v := ?_) (by kernel_rfl) rfl (by kernel_rfl) (by kernel_rfl) (by kernel_rfl) (fun _ _ _ h => h) (Or.inl ⟨by rfl, ?_⟩) (by assumption) ?_
      rotate_left
      · intro wS hSw
        (try dsimp only at hSw)
        go_simp
        try (with_reducible rfl)
      try simp only [Act.put, List.setIfInBounds_toArray, List.set_cons_zero, List.set_cons_succ]
      refine wpAnyG_take (i := 16) (v := ?_) (by kernel_rfl) rfl (by kernel_rfl) (by kernel_rfl) (by kernel_rfl) (fun _ _ _ h => h) (Or.inl ⟨by rfl, ?_⟩) (by assumption) ?_
      rotate_left
      · intro wS hSw
        (try dsimp only at hSw)
        go_simp
        try (with_reducible rfl)
      try simp only [Act.put, List.setIfInBounds_toArray, List.set_cons_zero, List.set_cons_succ]
      refine wpAnyG_take (i := 17) (v := ?_) (by kernel_rfl) rfl (by kernel_rfl) (by kernel_rfl) (by kernel_rfl) (fun _ _ _ h => h) (Or.inl ⟨by rfl, ?_⟩) (by assumption) ?_
      rotate_left
      · intro wS hSw
        (try dsimp only at hSw)
        go_simp
        try (with_reducible rfl)
      try simp only [Act.put, List.setIfInBounds_toArray, List.set_cons_zero, List.set_cons_succ]
      refine wpAnyG_take (i := 18) (v := ?_) (by kernel_rfl) rfl (by kernel_rfl) (by kernel_rfl) (by kernel_rfl) (fun _ _ _ h => h) (Or.inl ⟨by rfl, ?_⟩) (by assumption) ?_
      rotate_left
      · intro wS hSw
        (try dsimp only at hSw)
        go_simp
        try (with_reducible rfl)
      try simp only [Act.put, List.setIfInBounds_toArray, List.set_cons_zero, List.set_cons_succ]
      refine wpAnyG_take (i := 19) (v := ?_) (by kernel_rfl) rfl (by kernel_rfl) (by kernel_rfl) (by kernel_rfl) (fun _ _ _ h => h) (Or.inl ⟨by rfl, ?_⟩) (by assumption) ?_
      rotate_left
      · intro wS hSw
        (try dsimp only at hSw)
        go_simp
        try (with_reducible rfl)
      try simp only [Act.put, List.setIfInBounds_toArray, List.set_cons_zero, List.set_cons_succ]
      refine wpAnyG_take (i := 20) (v := ?_) (by kernel_rfl) rfl (by kernel_rfl) (by kernel_rfl) (by kernel_rfl) (fun _ _ _ h => h) (Or.inl ⟨by rfl, ?_⟩) (by assumption) ?_
      rotate_left
      · intro wS hSw
        (try dsimp only at hSw)
        go_simp
        try (with_reducible rfl)
      try simp only [Act.put, List.setIfInBounds_toArray, List.set_cons_zero, List.set_cons_succ]
      refine wpAnyG_done (by kernel_rfl) (by kernel_rfl) (wpOp_plain rfl rfl ?_)
      go_simp

      have yd : w7.heap[w4.heap.size]? = some (.cells #[.int .i64 O0, .int .i64 O1] 38 (0, 0)) := Yo_33.out
      obtain ⟨w8, hw8, y8, z8, c8, bl8⟩ := row2_set (x' := .int .i64 m0) (y' := .int .i64 m1) yd
      rw [hw8]
      have Y8 := Lib.hid y8
      have HB8 := Lib.hid (bl8 w4 (Nat.le_refl _) FK_33.out)
      clear hw8 y8 z8 c8 bl8 yd
      go_wp2_with fail
      go_roundw
      case rel => exact ⟨z + 1, m0, m1, by go_num, by omega, by omega, HST.out, Y8.out, bd HB8.out⟩
      case measure => simp [intOf]; omega
    · have gz : decide (z ≤ A1) = false := decide_eq_false hle
      obtain ⟨hO0, hO1⟩ := outI_end HOK.out HK.out HN.out hun hvn HO.out (by have := HA1.out; omega)
      have HO01 := Lib.hid (And.intro hO0 hO1)
      clear hO0 hO1
      have g0 : ∀ i, wr.frozen? ⟨w1.heap.size, i, none⟩ = false := fun i => by simp [World.frozen?, Yr_31.out]
      go_wp2
      refine bodyPost_ret (v := .tuple #[.agg #[.int .i64 O0, .int .i64 O1], .int .i64 0]) (by simp [results, Try.results34, go_sem, cr0_31, cr1_31]) rfl ⟨by rw [HO01.out.1, HO01.out.2], ?_⟩
      repeat (first | exact HBW_31.out | refine bS ?_ (by dsimp only; omega) _)
end Go.Proofs.Ytmfbfcknnjbabaa
