/- The contract of Idle of the program, of a town with a truth. Made by p1.py. -/
import Derived.Test.YtmfbfcknnjbabaaP1
import Derived.Test.YtmfbfcknnjbabaaG8
set_option linter.unusedSimpArgs false
set_option linter.unusedVariables false
namespace Go.Proofs.Ytmfbfcknnjbabaa
open Go.RowKit

theorem spIn_own {w : World} {base n c : Nat} {p : Option Addr} {L : List (Int × Int)} (h : w.ownsRow base 38 2 (.slice p n c) n (flat2 L)) (hl : L.length = n) : SpIn w p L := ⟨fun h0 => by
  obtain ⟨p1, c1, e, hc⟩ := own_form h
  simp only [Value.slice.injEq] at e
  obtain ⟨g, hg, _, hlt, hcell⟩ := hc (by omega)
  refine ⟨g, e.1.trans hg, hlt, fun k hk => ?_⟩
  obtain ⟨f1, f2⟩ := flat2_sp L k hk
  exact ⟨(hcell _ (by omega)).trans f1, (hcell _ (by omega)).trans f2⟩⟩
theorem hTo_sub {T : Town} {M : List Int} (hok : T.ok = true) (hk : kn T = some M) (S : Nat → Bool) : ∃ M', hTo S (words T) (words T).length = some M' := by
  have a := heard_kn hok
  rw [hk] at a
  have b := heard (S := S) (words_small hok) (words T).length (Nat.le_refl _)
  cases h : hTo S (words T) (words T).length with
  | some M' => exact ⟨M', rfl⟩
  | none =>
    rw [h] at b
    obtain ⟨u, s⟩ := (a.2 _).1 (fits_zero a.1)
    exact absurd (fun j hj _ y hy => s j hj rfl y hy) (b _ u)
/-- whether all levels are the same without one word -/
def idleB (T : Town) (n : Nat) (L : List (Int × Int)) (j : Nat) : Bool := match hTo (fun k => (k : Int) != (j : Int)) (words T) (words T).length with
  | some M' => decide (lv M' n = L)
  | none => false
def idL (T : Town) (n : Nat) (L : List (Int × Int)) (k : Nat) : List Int := ((List.range k).filter (idleB T n L)).map fun (i : Nat) => (i : Int)
theorem idL_succ (T : Town) (n : Nat) (L : List (Int × Int)) (k : Nat) : idL T n L (k + 1) = if idleB T n L k then idL T n L k ++ [(k : Int)] else idL T n L k := by
  unfold idL
  rw [List.range_succ, List.filter_append, List.map_append]
  cases h : idleB T n L k <;> simp [h]
theorem idL_len (T : Town) (n : Nat) (L : List (Int × Int)) : ∀ k, (idL T n L k).length ≤ k
  | 0 => by simp [idL]
  | k + 1 => by
    have := idL_len T n L k
    rw [idL_succ]
    split <;> simp <;> omega

set_option maxRecDepth 100000 in
set_option maxHeartbeats 16000000 in
theorem idle_ok (T : Town) (M : List Int) (n m : Nat) (p q : Option Addr) (c d : Nat) (w : World) (hok : T.ok = true) (hk : kn T = some M) (hn : T.W = n) (hm : T.s.length + T.r.length = m) (ht : TownIn w w.heap.size T p q) :
    Calls Try.prog 39 #[.agg #[.int .i64 T.W, .slice p T.s.length c, .slice q T.r.length d]] w fun e w' => ∃ p' c', e = .returned (.tuple #[.slice p' (idL T n (lv M n) m).length c', .int .i64 0]) ∧ Ints w' p' (idL T n (lv M n) m) ∧ Below w.heap.size w w' := by
  obtain ⟨w1, hw1, hb1, hz1, k0, k1, k2⟩ := box_town w T.W p q T.s.length T.r.length c d
  obtain ⟨i0, hi, hz0, hz1', hz2⟩ := info_parts info3
  have I1 := Lib.hid hi; have I2 := Lib.hid hz0; have I3 := Lib.hid hz1'; have I4 := Lib.hid hz2; clear hi hz0 hz1' hz2
  have hl1 : w.heap.size < w1.heap.size := by omega
  have hM : M.length = 49 := hTo_len hk
  have hW := ok_W hok
  have hlen := ok_len hok
  have hn6 : n ≤ 6 := by omega
  have hm16 : m ≤ 16 := by omega
  have hlearn := learn_nil T M p q c d w1 hok hk ((ht.below hb1).mono hb1.size)
  have hwo := fun (V : World) (hV : Below w1.heap.size w1 V) => wordsOf_any T p q c d V hok (ht.bel (bT hb1 hV))
  rw [hm] at hwo
  have hlev : ∀ (M' : List Int) W g, RowAt W g T.W M' → Calls Try.prog 61 #[.pointer (some ⟨g, 0, none⟩)] W fun e w' => ∃ p c, e = .returned (.slice p n c) ∧ SpIn w' p (lv M' n) ∧ Below W.heap.size W w' := fun M' W g hr =>
    (levels_any n M' g W hn6 (by rw [← hn]; exact hr)).mono fun e w' ⟨v, he, ho, hb⟩ => by
      obtain ⟨p1, c1, rfl, _⟩ := own_form ho
      exact ⟨p1, c1, he, spIn_own ho (lv_len _ _), hb⟩
  obtain ⟨L, hL⟩ : ∃ L, lv M n = L := ⟨_, rfl⟩
  have hLn : L.length = n := by rw [← hL, lv_len]
  have hlevM := hlev M
  rw [hL] at hlevM
  have heq : ∀ (V : World) (L' : List (Int × Int)) (b : Bool) (p p' : Option Addr) (c c' : Nat), L'.length = n → decide (L' = L) = b → SpIn V p L' → SpIn V p' (lv M n) → Calls Try.prog 76 #[.slice p n c, .slice p' n c'] V fun e w' => e = .returned (.bool b) ∧ Below V.heap.size V w' := fun V L' b p p' c c' h1 h2 h3 h4 => by
    rw [← h2]
    exact equal_any L' L n p p' c c' V (by omega) h1 hLn h3 (by rw [← hL]; exact h4)
  have hwl : m = (words T).length := by rw [words_len, hm]
  have hh : ∀ (V : World) (g j : Nat) (pv : Option Addr) (cv : Nat), g < V.heap.size → V.cell? ⟨g, 0, none⟩ = some (.int .i64 (j : Int)) → WordsAt V V.heap.size pv (words T) → j < m → Calls Try.prog 69 #[.int .i64 T.W, .slice pv m cv, .func (.func 75) #[] #[.pointer (some ⟨g, 0, none⟩)]] V fun e w' =>
      ∃ M' : List Int, M'.length = 49 ∧ idleB T n L j = decide (lv M' n = L) ∧ e = .returned (.tuple #[.agg (kv T.W M'), .bool true]) ∧ Below V.heap.size V w' := fun V g j pv cv hg hc hwv hj => by
    obtain ⟨M', hM'⟩ := hTo_sub hok hk (fun k => (k : Int) != (j : Int))
    have := hearIdle_any n (words T) (fun k => (k : Int) != (j : Int)) pv cv V ⟨g, 0, none⟩ (by omega) (words_ok hok) hwv (fun k W _ hW => idle1_ex _ k j _ W ((hW.cell hg).trans hc) rfl)
    rw [hM', ← hwl, ← hn] at this
    exact this.mono fun e w' ⟨h1, h2⟩ => ⟨M', hTo_len hM', by simp [idleB, hM'], h1, h2⟩
  rw [hL]
  have HL := Lib.hid hlearn; have HWO := Lib.hid hwo; have HV := Lib.hid hlev; have HEQ := Lib.hid heq; have HH := Lib.hid hh; have HB1 := Lib.hid hb1; have HWL := Lib.hid hwl; have HLL := Lib.hid hL
  clear hlearn hwo hlev hlevM heq hh hb1 hz1 ht hok hk hn hm hwl hL hLn hlen
  go_enter Try.func39, Try.ntmps39
  go_wp2_with (first
    | (go_at_call 58; refine HL.out.mono ?_; rintro e w2 ⟨rfl, hb2⟩; have HB2 := Lib.hid hb2; clear hb2)
    | (refine wpList_alloc_kv rfl rfl ?_; intro w3 hr3 hb3 hz3; have HR3 := Lib.hid hr3; have HB3 := Lib.hid hb3; have HZ3 := Lib.hid hz3; clear hr3 hb3 hz3)
    | (refine wpList_store_kv rfl _ _ rfl _ T.W 0 M Z49 rfl rfl hM HR3.out ?_; intro w4 hr4 ho4; go_must (have hb4 := bT HB2.out (only_below HB3.out ho4 (Nat.le_refl _)); have HR4 := Lib.hid hr4; have HB4 := Lib.hid hb4; have j0 := (hb4.cell (p := ⟨w.heap.size, 0, none⟩) hl1).trans k0; have j1 := (hb4.cell (p := ⟨w.heap.size, 1, none⟩) hl1).trans k1; have j2 := (hb4.cell (p := ⟨w.heap.size, 2, none⟩) hl1).trans k2; clear hr4 ho4 hb4))
    | (go_at_call 64; refine (HWO.out _ HB4.out).mono ?_; rintro e w6 ⟨vv, rfl, ho6, hb6⟩; go_must (have HO6 := Lib.hid ho6; have HB6 := Lib.hid hb6; have HB16 := Lib.hid (bT HB4.out hb6); clear ho6 hb6; obtain ⟨pv, cv, rfl, _⟩ := own_form HO6.out; clear j0 j1 j2)))
  go_loopw [7, 24] (fun v i wr => ∃ k : Nat, i = .int .i64 k ∧ k ≤ m ∧ wr.ownsRow w6.heap.size 3 1 v (idL T n L k).length ((idL T n L k).map (Value.int .i64)) ∧ Below w6.heap.size w6 wr) (fun _ i _ => m - (intOf i).toNat)
  case atStart => exact ⟨0, rfl, Nat.zero_le _, by show World.ownsRow _ _ _ _ _ 0 []; exact World.ownsRow_nil _ _ _ _, Below.refl _ _⟩
  case round =>
    obtain ⟨k, rfl, hk, ho, hb⟩ := hrel
    have HO := Lib.hid ho; have HB := Lib.hid hb; clear ho hb
    obtain ⟨p1, cap1, rfl, _⟩ := own_form HO.out
    have hol := idL_len T n L k
    have hsz := HB.out.size
    by_cases hlt : k < m
    · have hsu := idL_succ T n L k
      have hlw : w.heap.size < w6.heap.size := by have := HB16.out.size; omega
      have hlr : w.heap.size < wr.heap.size := by omega
      have q0 := (HB.out.cell (p := ⟨w.heap.size, 0, none⟩) hlw).trans ((HB16.out.cell (p := ⟨w.heap.size, 0, none⟩) hl1).trans k0)
      cases hbv : idleB T n L k with
      | true =>
        rw [hbv, if_pos rfl] at hsu
        have HSU := Lib.hid hsu
        have HBV := Lib.hid hbv
        clear hsu hbv
        go_wp2_with fail
        refine (HH.out (wr.alloc (.cells #[.int .i64 (k : Int)] 3)) wr.heap.size k pv cv (by simp) (by go_simp) (wordsAt_own (own_below HO6.out (bT HB.out (bA (Below.refl _ _) _))) HWL.out) hlt).mono ?_
        rintro e w9 ⟨M', hm49, hid, rfl, hb9⟩
        have HM9 := Lib.hid hm49; have HID := Lib.hid hid; have HB9 := Lib.hid (bT HB.out (bT (bA (Below.refl _ _) _) hb9)); have HBr9 := Lib.hid (bT (bA (Below.refl wr.heap.size wr) _) hb9)
        have hx9 : w9.cell? ⟨wr.heap.size, 0, none⟩ = some (.int .i64 (k : Int)) := (hb9.cell (by simp)).trans (by go_simp)
        have hz9 : wr.heap.size < w9.heap.size := by have := hb9.size; simp at this; omega
        clear hm49 hid hb9 q0
        go_wp2_with (first
          | (refine wpList_alloc_kv rfl rfl ?_; intro w10 hr10 hb10 hz10; have HR10 := Lib.hid hr10; have HB10 := Lib.hid hb10; clear hr10 hb10 hz10)
          | (refine wpList_store_kv rfl _ _ rfl _ T.W 0 M' Z49 rfl rfl HM9.out HR10.out ?_; intro w11 hr11 ho11; have hb11 := only_below HB10.out ho11 (Nat.le_refl _); have HR11 := Lib.hid hr11; have HB11 := Lib.hid (bT HB9.out hb11); have HBr11 := Lib.hid (bT HBr9.out hb11); have hx11 := (hb11.cell (p := ⟨wr.heap.size, 0, none⟩) hz9).trans hx9; have hz11 : wr.heap.size < w11.heap.size := (by have := hb11.size; omega); clear hr11 ho11 hb11 hx9))
        refine (HV.out M' _ _ HR11.out).mono ?_
        rintro e w12 ⟨p12, c12, rfl, hs12, hb12⟩
        have HS12 := Lib.hid hs12; have HB12 := Lib.hid (bT HB11.out hb12); have HBr12 := Lib.hid (bT HBr11.out hb12); have hx12 := (hb12.cell (p := ⟨wr.heap.size, 0, none⟩) hz11).trans hx11; have hz12 : wr.heap.size < w12.heap.size := by have := hb12.size; omega
        have HR12 := Lib.hid (HR4.out.below (bT HB6.out HB12.out) HR4.out.lt)
        clear hs12 hb12 hx11
        go_wp2_with fail
        refine (HV.out M _ _ HR12.out).mono ?_
        rintro e w13 ⟨p13, c13, rfl, hs13, hb13⟩
        have HS12' := Lib.hid (HS12.out.below hb13); have HS13 := Lib.hid hs13; have HB13 := Lib.hid (bT HB12.out hb13); have HBr13 := Lib.hid (bT HBr12.out hb13); have hx13 := (hb13.cell (p := ⟨wr.heap.size, 0, none⟩) hz12).trans hx12; have hz13 : wr.heap.size < w13.heap.size := by have := hb13.size; omega
        clear hs13 hb13 hx12
        go_wp2_with fail
        refine (HEQ.out _ (lv M' n) true _ _ _ _ (lv_len _ _) (HID.out.symm.trans HBV.out) HS12'.out HS13.out).mono ?_
        rintro e w14 ⟨rfl, hb14⟩
        have HB14 := Lib.hid (bT HB13.out hb14); have HBr14 := Lib.hid (bT HBr13.out hb14); have hx14 := (hb14.cell (p := ⟨wr.heap.size, 0, none⟩) hz13).trans hx13; have hz14 : wr.heap.size < w14.heap.size := by have := hb14.size; omega
        clear hb14 hx13
        go_wp2_with (at_builtin; refine wpList_append_own _ rfl _ _ 26 rfl w6.heap.size 3 i0 _ 1 8 Try.underlying26 I1.out I2.out I3.out I4.out rfl (by decide) _ _ _ rfl ((own_below HO.out HBr14.out).alloc _) ⟨w14.heap.size, 0, none⟩ 1 1 [.int .i64 (k : Int)] rfl rfl (lit_cells1 _ _ _) ?c2 ?c3 ?c4 ?c5 ?_)
        case c2 => simp [Value.oneCell']
        case c3 => unfold maxLen; omega
        case c4 => omega
        case c5 => first | omega | (simp; omega)
        intro v' w16 hown hgrow _
        have HOW := Lib.hid hown; have HGR := Lib.hid hgrow; clear hown hgrow
        obtain ⟨p', cap', rfl, _⟩ := own_form HOW.out
        go_wp2
        go_roundw
        case rel =>
          refine ⟨k + 1, by go_num, hlt, ?_, below_grown (bA HB14.out _) ((own_below HO.out HBr14.out).alloc _) (Nat.le_refl _) HGR.out⟩
          rw [HSU.out, List.map_append, List.length_append]
          exact HOW.out
        case measure => simp [intOf]; omega
      | false =>
        rw [hbv, if_neg (by decide)] at hsu
        have HSU := Lib.hid hsu
        have HBV := Lib.hid hbv
        clear hsu hbv
        go_wp2_with fail
        refine (HH.out (wr.alloc (.cells #[.int .i64 (k : Int)] 3)) wr.heap.size k pv cv (by simp) (by go_simp) (wordsAt_own (own_below HO6.out (bT HB.out (bA (Below.refl _ _) _))) HWL.out) hlt).mono ?_
        rintro e w9 ⟨M', hm49, hid, rfl, hb9⟩
        have HM9 := Lib.hid hm49; have HID := Lib.hid hid; have HB9 := Lib.hid (bT HB.out (bT (bA (Below.refl _ _) _) hb9)); have HBr9 := Lib.hid (bT (bA (Below.refl wr.heap.size wr) _) hb9)
        have hx9 : w9.cell? ⟨wr.heap.size, 0, none⟩ = some (.int .i64 (k : Int)) := (hb9.cell (by simp)).trans (by go_simp)
        have hz9 : wr.heap.size < w9.heap.size := by have := hb9.size; simp at this; omega
        clear hm49 hid hb9 q0
        go_wp2_with (first
          | (refine wpList_alloc_kv rfl rfl ?_; intro w10 hr10 hb10 hz10; have HR10 := Lib.hid hr10; have HB10 := Lib.hid hb10; clear hr10 hb10 hz10)
          | (refine wpList_store_kv rfl _ _ rfl _ T.W 0 M' Z49 rfl rfl HM9.out HR10.out ?_; intro w11 hr11 ho11; have hb11 := only_below HB10.out ho11 (Nat.le_refl _); have HR11 := Lib.hid hr11; have HB11 := Lib.hid (bT HB9.out hb11); have HBr11 := Lib.hid (bT HBr9.out hb11); have hx11 := (hb11.cell (p := ⟨wr.heap.size, 0, none⟩) hz9).trans hx9; have hz11 : wr.heap.size < w11.heap.size := (by have := hb11.size; omega); clear hr11 ho11 hb11 hx9))
        refine (HV.out M' _ _ HR11.out).mono ?_
        rintro e w12 ⟨p12, c12, rfl, hs12, hb12⟩
        have HS12 := Lib.hid hs12; have HB12 := Lib.hid (bT HB11.out hb12); have HBr12 := Lib.hid (bT HBr11.out hb12); have hx12 := (hb12.cell (p := ⟨wr.heap.size, 0, none⟩) hz11).trans hx11; have hz12 : wr.heap.size < w12.heap.size := by have := hb12.size; omega
        have HR12 := Lib.hid (HR4.out.below (bT HB6.out HB12.out) HR4.out.lt)
        clear hs12 hb12 hx11
        go_wp2_with fail
        refine (HV.out M _ _ HR12.out).mono ?_
        rintro e w13 ⟨p13, c13, rfl, hs13, hb13⟩
        have HS12' := Lib.hid (HS12.out.below hb13); have HS13 := Lib.hid hs13; have HB13 := Lib.hid (bT HB12.out hb13); have HBr13 := Lib.hid (bT HBr12.out hb13); have hx13 := (hb13.cell (p := ⟨wr.heap.size, 0, none⟩) hz12).trans hx12; have hz13 : wr.heap.size < w13.heap.size := by have := hb13.size; omega
        clear hs13 hb13 hx12
        go_wp2_with fail
        refine (HEQ.out _ (lv M' n) false _ _ _ _ (lv_len _ _) (HID.out.symm.trans HBV.out) HS12'.out HS13.out).mono ?_
        rintro e w14 ⟨rfl, hb14⟩
        have HB14 := Lib.hid (bT HB13.out hb14); have HBr14 := Lib.hid (bT HBr13.out hb14); have hx14 := (hb14.cell (p := ⟨wr.heap.size, 0, none⟩) hz13).trans hx13; have hz14 : wr.heap.size < w14.heap.size := by have := hb14.size; omega
        clear hb14 hx13
        go_wp2_with fail
        go_roundw
        case rel => exact ⟨k + 1, by go_num, hlt, by rw [HSU.out]; exact own_below HO.out HBr14.out, HB14.out⟩
        case measure => simp [intOf]; omega
    · obtain rfl : k = m := by omega
      go_wp2
      go_ret2
      exact ⟨_, _, rfl, ints_own HO.out, bT (bT HB1.out HB16.out) HB.out⟩
end Go.Proofs.Ytmfbfcknnjbabaa
