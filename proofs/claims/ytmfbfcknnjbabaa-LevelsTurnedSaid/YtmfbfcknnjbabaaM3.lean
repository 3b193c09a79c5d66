/- The contract of Spans: the levels of all truths, or that there is none. -/
import Derived.Test.YtmfbfcknnjbabaaM2
import Derived.Deep.DeepCutAuto
set_option linter.unusedSimpArgs false
set_option linter.unusedVariables false
namespace Go.Proofs.Ytmfbfcknnjbabaa
open Go.RowKit

def SpansFin (T : Town) (n : Nat) (w : World) (e : Ending) (w' : World) : Prop :=
  Below w.heap.size w w' ∧ (((∀ xs, truth T xs = false) ∧ e = .returned (.tuple #[.slice none 0 0, .bool false])) ∨
    ∃ L, Enc T L ∧ truth T (L.map fun x => x.1) = true ∧ truth T (L.map fun x => x.2) = true ∧ e = .returned (.tuple #[.slice (some ⟨w.heap.size + 1, 0, none⟩) n n, .bool true]) ∧ SpOwn w' (w.heap.size + 1) n L)
def SpansPost (T : Town) (n : Nat) (w : World) (e : Ending) (w' : World) : Prop :=
  Below w.heap.size w w' ∧ ((kn T = none ∧ e = .returned (.tuple #[.slice none 0 0, .bool false])) ∨ ∃ M, kn T = some M ∧ e = .returned (.tuple #[.slice (some ⟨w.heap.size + 1, 0, none⟩) n n, .bool true]) ∧ SpOwn w' (w.heap.size + 1) n (lv M n))
def St1 (k n : Nat) (L : List (Int × Int)) : Prop := ∀ i, i < n → sp L i = if i < k then (0, 99) else (0, 0)
theorem st1_zero (n : Nat) : St1 0 n (List.replicate n (0, 0)) := fun i hi => by simp [sp, hi]
theorem st1_succ {k n : Nat} {L : List (Int × Int)} (h : St1 k n L) (hl : L.length = n) (hk : k < n) : St1 (k + 1) n (L.set k ((sp L k).1, 99)) := fun i hi => by
  rw [sp_set _ _ _ _ (by omega)]
  by_cases c : k = i
  · subst c
    have := h k hk
    rw [if_neg (by omega)] at this
    rw [if_pos rfl, if_pos (by omega), this]
  · rw [if_neg c, h i hi]
    by_cases c' : i < k
    · rw [if_pos c', if_pos (by omega)]
    · rw [if_neg c', if_neg (by omega)]
theorem st1_all {n : Nat} {L : List (Int × Int)} (h : St1 n n L) (hl : L.length = n) : L = List.replicate n (0, 99) := by
  refine List.ext_getElem (by simpa using hl) fun i h1 h2 => ?_
  rw [← sp_at _ _ h1, h i (by omega), if_pos (by omega)]
  simp
/-- what holds in the loop over the soundings -/
def St2 (T : Town) (k : Nat) (L : List (Int × Int)) : Prop := Enc T L ∧ Kps (T.s.take k) L ∧ Bnd 0 L

theorem st2_succ {T : Town} {k : Nat} {L : List (Int × Int)} (hok : T.fin = true) (hn : T.W = L.length) (h : St2 T k L) (hk : k < T.s.length) {v : Nat} (hv : T.s[k].well = v) {A0 A1 : Int} (h0 : (sp L v).1 = A0) (h1 : (sp L v).2 = A1) :
    St2 T (k + 1) (L.set v (cutP (A0, A1) (T.s[k].low, T.s[k].high))) := by
  have ho := fin_sOk hok (List.getElem_mem hk)
  have e : T.s[k].well.toNat = v := by omega
  have e2 : sndP L T.s[k] = cutP (A0, A1) (T.s[k].low, T.s[k].high) := by rw [sndP, e, ← h0, ← h1]
  rw [← e2, ← e]
  exact ⟨enc_snd hok hn h.1 (List.getElem_mem hk), kps_snd hk (by omega) h.2.1, bnd_snd h.2.2 (by omega) ho.2.2.1 ho.2.2.2.1 ho.2.2.2.2⟩
theorem st2_all {T : Town} {k : Nat} {L : List (Int × Int)} (h : St2 T k L) (hk : T.s.length ≤ k) : Kps T.s L := by
  have := h.2.1; rwa [List.take_of_length_le hk] at this
/-- what holds ahead of each pass -/
def St3 (T : Town) (n : Nat) (b : Bool) (L : List (Int × Int)) : Prop := Enc T L ∧ Kps T.s L ∧ Bnd 9 L ∧ (b = false → (∀ y ∈ T.r, slpL L y = L) ∧ Bnd 0 L ∧ ∀ i, i < n → (sp L i).1 ≤ (sp L i).2)
/-- what holds in a pass -/
def St5 (T : Town) (L : List (Int × Int)) (k : Nat) (L' : List (Int × Int)) (b : Bool) : Prop := Enc T L' ∧ Kps T.s L' ∧ Bnd k L' ∧ Shr L L' ∧ (b = false → L' = L ∧ ∀ j, (h : j < T.r.length) → j < k → slpL L T.r[j] = L) ∧ (b = true → L' ≠ L)
theorem st5_zero {T : Town} {L : List (Int × Int)} (h1 : Enc T L) (h2 : Kps T.s L) (h3 : Bnd 0 L) : St5 T L 0 L false := ⟨h1, h2, h3, Shr.refl L, fun _ => ⟨rfl, fun j _ h => absurd h (Nat.not_lt_zero _)⟩, fun h => by cases h⟩
theorem shr_eq {A B : List (Int × Int)} (h : Shr A B) (k : Shr B A) : A = B := by
  refine List.ext_getElem h.1.symm fun i h1 h2 => ?_
  rw [← sp_at _ _ h1, ← sp_at _ _ h2]
  have a := h.2 i; have b := k.2 i
  exact Prod.ext (by omega) (by omega)
theorem st5_succ {T : Town} {L L' : List (Int × Int)} {k : Nat} {b : Bool} (hok : T.fin = true) (hn : T.W = L'.length) (h : St5 T L k L' b) (hk : k < T.r.length) (b' : Bool)
    (hb : b' = (b || !(slpA L' T.r[k] == sp L' T.r[k].a.toNat) || !(slpB L' T.r[k] == sp L' T.r[k].b.toNat))) : St5 T L (k + 1) (slpL L' T.r[k]) b' := by
  obtain ⟨a1, a2, a3, a4, a5, a6⟩ := h
  have ho := fin_rOk hok (List.getElem_mem hk)
  have ha : T.r[k].a.toNat < L'.length := by omega
  have hb' : T.r[k].b.toNat < L'.length := by omega
  have hs := shr_slp L' T.r[k] ha hb'
  refine ⟨enc_slp hok hn a1 (List.getElem_mem hk), kps_shr a2 hs, bnd_slp a3 ha hb' ho.2.2.2.2.2.1 ho.2.2.2.2.2.2.1 ho.2.2.2.2.2.2.2, a4.trans hs, fun e => ?_, fun e => ?_⟩
  · rw [e] at hb
    have hb := hb.symm
    simp only [Bool.or_eq_false_iff, Bool.not_eq_false', beq_iff_eq] at hb
    obtain ⟨⟨e1, e2⟩, e3⟩ := hb
    have hf := fix_of ha hb' e2 e3
    obtain ⟨d1, d2⟩ := a5 e1
    rw [hf]
    refine ⟨d1, fun j hj hjk => ?_⟩
    by_cases c : j = k
    · subst c; rw [d1] at hf; exact hf
    · exact d2 j hj (by omega)
  · intro hL
    have hL' : L' = L := by
      have r1 : Shr L' L := by rw [← hL]; exact hs
      exact (shr_eq a4 r1).symm
    cases hbb : b with
    | true => exact a6 hbb hL'
    | false =>
      rw [hbb, e] at hb
      have hb := hb.symm
      simp only [Bool.false_or, Bool.or_eq_true, Bool.not_eq_true', beq_eq_false_iff_ne] at hb
      exact nfix_of (by omega) ha hb' hb (hL.trans hL'.symm)
theorem st5_end {T : Town} {L L' : List (Int × Int)} {n k : Nat} {b : Bool} (h : St5 T L k L' b) (hk : k = T.r.length) (h8 : T.r.length ≤ 9) (hB : Bnd 0 L) (hv : ∀ i, i < n → (sp L i).1 ≤ (sp L i).2) :
    St3 T n b L' ∧ 2 * msr L' + (if b then 1 else 0) < 2 * msr L + 1 := by
  obtain ⟨a1, a2, a3, a4, a5, a6⟩ := h
  have hm := msr_pass a4 a3 (by omega)
  refine ⟨⟨a1, a2, bnd_up a3 (by omega), fun e => ?_⟩, ?_⟩
  · obtain ⟨rfl, d2⟩ := a5 e
    refine ⟨fun y hy => ?_, hB, hv⟩
    obtain ⟨j, hj, rfl⟩ := List.getElem_of_mem hy
    exact d2 j hj (by omega)
  · cases b with
    | false => have := hm.1; simp; omega
    | true => have := hm.2 (a6 rfl); simp; omega
theorem slp_eq {L' : List (Int × Int)} {y : Slp} {u v : Nat} {lo hi A0 A1 B0 B1 C0 C1 D0 D1 : Int} (hu : y.a = u) (hv : y.b = v) (hlo : y.low = lo) (hhi : y.high = hi) (a0 : (sp L' u).1 = A0) (a1 : (sp L' u).2 = A1) (b0 : (sp L' v).1 = B0) (b1 : (sp L' v).2 = B1)
    (hD : cutP (B0, B1) (A0 + lo, A1 + hi) = (D0, D1)) (hC : cutP (A0, A1) (B0 - hi, B1 - lo) = (C0, C1)) :
    slpA L' y = (C0, C1) ∧ slpB L' y = (D0, D1) ∧ sp L' y.a.toNat = (A0, A1) ∧ sp L' y.b.toNat = (B0, B1) ∧ slpL L' y = (L'.set v (D0, D1)).set u (C0, C1) := by
  have e1 : y.a.toNat = u := by omega
  have e2 : y.b.toNat = v := by omega
  have e3 : sp L' u = (A0, A1) := Prod.ext a0 a1
  have e4 : sp L' v = (B0, B1) := Prod.ext b0 b1
  have e5 : slpA L' y = (C0, C1) := by rw [slpA, e1, e2, e3, e4, hlo, hhi]; exact hC
  have e6 : slpB L' y = (D0, D1) := by rw [slpB, e1, e2, e3, e4, hlo, hhi]; exact hD
  exact ⟨e5, e6, by rw [e1, e3], by rw [e2, e4], by rw [slpL, e5, e6, e1, e2]⟩
/-- what is so behind 'a, b := l[s.A], l[s.B]' -/
structure Cut5 (w4 : World) (A0 A1 B0 B1 : Int) (ga gb : Nat) (wc : World) : Prop where
  bel : Below w4.heap.size w4 wc
  ra : wc.heap[ga]? = some (.cells #[.int .i64 A0, .int .i64 A1] 38 (0, 0))
  rb : wc.heap[gb]? = some (.cells #[.int .i64 B0, .int .i64 B1] 38 (0, 0))
  la : w4.heap.size ≤ ga
  lb : w4.heap.size ≤ gb
theorem two_boxes (w : World) (x y : Obj) : Below w.heap.size w ((w.drew.alloc x).alloc y) ∧ ((w.drew.alloc x).alloc y).heap[w.heap.size]? = some x ∧ ((w.drew.alloc x).alloc y).heap[w.heap.size + 1]? = some y := by
  have a := heap_alloc_new w.drew x
  have b := heap_alloc_new (w.drew.alloc x) y
  have c := (bA (Below.refl (w.drew.alloc x).heap.size (w.drew.alloc x)) y).block w.heap.size (by simp)
  exact ⟨bA (bA (bd (Below.refl _ _)) _) _, c.trans (by simpa using a), by simpa using b⟩
theorem cut5_ab (w : World) (A0 A1 B0 B1 : Int) : Cut5 w A0 A1 B0 B1 w.heap.size (w.heap.size + 1) ((w.drew.alloc (.cells #[.int .i64 A0, .int .i64 A1] 38)).alloc (.cells #[.int .i64 B0, .int .i64 B1] 38)) :=
  let ⟨a, b, c⟩ := two_boxes w (.cells #[.int .i64 A0, .int .i64 A1] 38) (.cells #[.int .i64 B0, .int .i64 B1] 38); ⟨a, b, c, Nat.le_refl _, Nat.le_succ _⟩
theorem cut5_ba (w : World) (A0 A1 B0 B1 : Int) : Cut5 w A0 A1 B0 B1 (w.heap.size + 1) w.heap.size ((w.drew.alloc (.cells #[.int .i64 B0, .int .i64 B1] 38)).alloc (.cells #[.int .i64 A0, .int .i64 A1] 38)) :=
  let ⟨a, b, c⟩ := two_boxes w (.cells #[.int .i64 B0, .int .i64 B1] 38) (.cells #[.int .i64 A0, .int .i64 A1] 38); ⟨a, c, b, Nat.le_succ _, Nat.le_refl _⟩
def b2n : Value → Nat | .bool true => 1 | _ => 0

set_option maxRecDepth 100000 in
set_option maxHeartbeats 16000000 in
theorem spans_fin (T : Town) (n : Nat) (p q : Option Addr) (c d : Nat) (w : World) (hok : T.fin = true) (hn : T.W = n) (ht : TownIn w w.heap.size T p q) :
    Calls Try.prog 54 #[.agg #[.int .i64 T.W, .slice p T.s.length c, .slice q T.r.length d]] w (SpansFin T n w) := by
  obtain ⟨w1, hw1, hb1, hz1, k0, k1, k2⟩ := box_town w T.W p q T.s.length T.r.length c d
  have l0 : w.heap.size < w1.heap.size := by omega
  obtain ⟨i2, hi, hz0, hz1', hz2⟩ := info_parts info38
  have I1 := Lib.hid hi; have I2 := Lib.hid hz0; have I3 := Lib.hid hz1'; have I4 := Lib.hid hz2; clear hi hz0 hz1' hz2
  have hW := fin_W hok
  have hlen := fin_len hok
  have hn6 : n ≤ 6 := by omega
  have HT := Lib.hid (ht.bel hb1)
  have HB1 := Lib.hid hb1
  have HN := Lib.hid hn
  have HOK := Lib.hid hok
  have HZ1 := Lib.hid hz1
  clear hn hok ht hb1 hz1
  go_enter Try.func54, Try.ntmps54
  go_wp2_with (refine wpList_make_full _ rfl _ _ 68 rfl w1.heap.size 38 i2 _ 2 Try.underlying68 I1.out I2.out I3.out .i64 .i64 T.W T.W n rfl rfl HN.out HN.out (by rw [I4.out]; omega) (by unfold maxLen; omega) (by omega) ?_; intro w2 ho2 hg2)
  have hsp2 : SpOwn w2 w1.heap.size n (List.replicate n (0, 0)) := ⟨by rw [← flat2_zero]; exact own_base ho2 (Nat.le_refl _), by simp⟩
  have hb2 : Below w1.heap.size w1 w2 := ⟨hg2.os, hg2.tape, hg2.output, hg2.size, fun k hk => hg2.block k hk (by simp)⟩
  have HB2 := Lib.hid hb2
  have HS2 := Lib.hid hsp2
  clear ho2 hg2 hb2 hsp2
  go_wp2
  go_loopw [5] (fun i wr => ∃ (k : Nat) (L : List (Int × Int)), i = .int .i64 k ∧ k ≤ n ∧ St1 k n L ∧ SpOwn wr w1.heap.size n L ∧ Below w1.heap.size w1 wr) (fun i _ => n - (intOf i).toNat)
  case atStart => exact ⟨0, _, rfl, Nat.zero_le _, st1_zero n, HS2.out, HB2.out⟩
  case round =>
    obtain ⟨k, L, rfl, hk, h1, hs, hb⟩ := hrel
    have H1 := Lib.hid h1; have HS := Lib.hid hs; have HB := Lib.hid hb
    have f0 := HS.out.fz
    by_cases hlt : k < n
    · have e1 := HS.out.c1 k hlt
      clear h1 hs hb
      go_wp2
      go_roundw
      case rel => exact ⟨k + 1, _, by go_num, hlt, st1_succ H1.out HS.out.len hlt, HS.out.set1 k hlt 99, bS HB.out (Nat.le_refl _) _⟩
      case measure => simp [intOf]; omega
    · obtain rfl : n = k := by omega
      have hL := st1_all H1.out HS.out.len
      subst hL
      have HSA := Lib.hid hs; have HBA := Lib.hid hb
      clear H1 HS HB h1 hs hb f0 hk hlt
      go_wp2
      obtain ⟨w3, e3⟩ : ∃ w3, w3 = wr := ⟨_, rfl⟩
      rw [← e3]
      rw [← e3] at HSA HBA
      clear e3
      clear wr
      go_loopw [6] (fun i wr => ∃ (k : Nat) (L : List (Int × Int)), i = .int .i64 k ∧ k ≤ T.s.length ∧ St2 T k L ∧ SpOwn wr w1.heap.size n L ∧ Below w1.heap.size w1 wr) (fun i _ => T.s.length - (intOf i).toNat)
      case atStart => exact ⟨0, _, rfl, Nat.zero_le _, ⟨enc_start HN.out, fun y hy => by simp at hy, bnd_start n⟩, HSA.out, HBA.out⟩
      case round =>
        obtain ⟨k, L, rfl, hk, h1, hs, hb⟩ := hrel
        have H1 := Lib.hid h1; have HS := Lib.hid hs; have HB := Lib.hid hb
        have g0 := (HB.out.cell (p := ⟨w.heap.size, 0, none⟩) l0).trans k0
        have g1 := (HB.out.cell (p := ⟨w.heap.size, 1, none⟩) l0).trans k1
        have g2 := (HB.out.cell (p := ⟨w.heap.size, 2, none⟩) l0).trans k2
        have hlr : w.heap.size < wr.heap.size := by have := HB.out.size; omega
        clear h1 hs hb
        by_cases hlt : k < T.s.length
        · obtain ⟨b, o, rfl, hbl, hsn⟩ := (HT.out.below HB.out).s (by omega)
          have e0 := hsn.c0 k hlt
          have e1 := hsn.c1 k hlt
          have e2 := hsn.c2 k hlt
          clear hsn
          have ho := fin_sOk HOK.out (List.getElem_mem hlt)
          obtain ⟨y, hy⟩ : ∃ y, T.s[k] = y := ⟨_, rfl⟩
          rw [hy] at e0 e1 e2 ho
          obtain ⟨v, hv⟩ : ∃ v : Nat, y.well = v := ⟨y.well.toNat, by omega⟩
          rw [hv] at e0 ho
          have hvn : v < n := by have := HN.out; omega
          have hLn := HS.out.len
          have j0 := HS.out.c0 v hvn
          have j1 := HS.out.c1 v hvn
          have jf := HS.out.fz
          have hgr := HS.out.lt
          have hbd := (H1.out).2.2 v (by omega)
          obtain ⟨A0, hA0⟩ : ∃ z, (sp L v).1 = z := ⟨_, rfl⟩
          obtain ⟨A1, hA1⟩ : ∃ z, (sp L v).2 = z := ⟨_, rfl⟩
          rw [hA0] at j0 hbd; rw [hA1] at j1 hbd
          have hbr : b < wr.heap.size := by have := HB.out.size; omega
          have HY := Lib.hid hy; have HV := Lib.hid hv; have HA0 := Lib.hid hA0; have HA1 := Lib.hid hA1
          clear hy hv hA0 hA1 hLn
          go_wp2
          obtain ⟨w4, hw4, hb4, hs4, m0, m1, m2⟩ := box3 wr (.int .i64 v) (.int .i64 y.low) (.int .i64 y.high) 62
          rw [hw4]
          have m3 := (hb4.cell (p := ⟨w1.heap.size, v * 2, none⟩) hgr).trans j0
          have m4 := (hb4.cell (p := ⟨w1.heap.size, v * 2 + 1, none⟩) hgr).trans j1
          have l40 : wr.heap.size < w4.heap.size := by omega
          have l41 : w1.heap.size < w4.heap.size := by omega
          have HS4 := Lib.hid (HS.out.below hb4)
          have HB4 := Lib.hid (bT HB.out hb4)
          have i0 : (0 : Int) ≤ (v : Int) := by omega
          have i1 : (v : Int) < (n : Int) := by omega
          clear hw4 hb4 hs4 e0 e1 e2 j0 j1 g0 g1 g2
          refine wp_region_last (fun w' => w'.cell? ⟨wr.heap.size, 0, none⟩ = some (.int .i64 v) ∧ w'.cell? ⟨wr.heap.size, 1, none⟩ = some (.int .i64 y.low) ∧ w'.cell? ⟨wr.heap.size, 2, none⟩ = some (.int .i64 y.high) ∧ w'.cell? ⟨w1.heap.size, v * 2, none⟩ = some (.int .i64 A0) ∧ w'.cell? ⟨w1.heap.size, v * 2 + 1, none⟩ = some (.int .i64 A1)) 15 (by kernel_rfl) rfl (⟨m0, m1, m2, m3, m4⟩) (fun hHeld => ?_)
          refine wpAnyG_take (i := 0) (v := ?_) (by kernel_rfl) rfl (by kernel_rfl) (by kernel_rfl) (by kernel_rfl) (fun _ _ _ h => h) (Or.inl ⟨by rfl, ?_⟩) (by assumption) ?_
          rotate_left
          · intro wS hSw
            (try dsimp only at hSw)
            go_simp
            try (with_reducible rfl)
          try simp only [Act.put, List.setIfInBounds_toArray, List.set_cons_zero, List.set_cons_succ]
          refine wpAnyG_take (i := 1) (v := ?_) (by kernel_rfl) rfl (by kernel_rfl) (by kernel_rfl) (by kernel_rfl) (fun _ _ _ h => h) (Or.inl ⟨by rfl, ?_⟩) (by assumption) ?_
          rotate_left
          · intro wS hSw
            (try dsimp only at hSw)
            go_simp
            try (with_reducible rfl)
          try simp only [Act.put, List.setIfInBounds_toArray, List.set_cons_zero, List.set_cons_succ]
          refine wpAnyG_take (i := 2) (v := ?_) (by kernel_rfl) rfl (by kernel_rfl) (by kernel_rfl) (by kernel_rfl) (fun _ _ _ h => h) (Or.inl ⟨by rfl, ?_⟩) (by assumption) ?_
          rotate_left
          · intro wS hSw
            (try dsimp only at hSw)
            go_simp
            try (with_reducible rfl)
          try simp only [Act.put, List.setIfInBounds_toArray, List.set_cons_zero, List.set_cons_succ]
          refine wpAnyG_take (i := 3) (v := ?_) (by kernel_rfl) rfl (by kernel_rfl) (by kernel_rfl) (by kernel_rfl) (fun _ _ _ h => h) (Or.inl ⟨by rfl, ?_⟩) (by assumption) ?_
          rotate_left
          · intro wS hSw
            (try dsimp only at hSw)
            go_simp
            try (with_reducible rfl)
          try simp only [Act.put, List.setIfInBounds_toArray, List.set_cons_zero, List.set_cons_succ]
          refine wpAnyG_take (i := 4) (v := ?_) (by kernel_rfl) rfl (by kernel_rfl) (by kernel_rfl) (by kernel_rfl) (fun _ _ _ h => h) (Or.inl ⟨by rfl, ?_⟩) (by assumption) ?_
          rotate_left
          · intro wS hSw
            (try dsimp only at hSw)
            go_simp
            try (with_reducible rfl)
          try simp only [Act.put, List.setIfInBounds_toArray, List.set_cons_zero, List.set_cons_succ]
          refine wpAnyG_take (i := 5) (v := ?_) (by kernel_rfl) rfl (by kernel_rfl) (by kernel_rfl) (by kernel_rfl) (fun _ _ _ h => h) (Or.inl ⟨by rfl, ?_⟩) (by assumption) ?_
          rotate_left
          · intro wS hSw
            (try dsimp only at hSw)
            go_simp
            try (with_reducible rfl)
          try simp only [Act.put, List.setIfInBounds_toArray, List.set_cons_zero, List.set_cons_succ]
          refine wpAnyG_take (i := 6) (v := ?_) (by kernel_rfl) rfl (by kernel_rfl) (by kernel_rfl) (by kernel_rfl) (fun _ _ _ h => h) (Or.inl ⟨by rfl, ?_⟩) (by assumption) ?_
          rotate_left
          · intro wS hSw
            (try dsimp only at hSw)
            go_simp
            try (with_reducible rfl)
          try simp only [Act.put, List.setIfInBounds_toArray, List.set_cons_zero, List.set_cons_succ]
          refine wpAnyG_take (i := 7) (v := ?_) (by kernel_rfl) rfl (by kernel_rfl) (by kernel_rfl) (by kernel_rfl) (fun _ _ _ h => h) (Or.inl ⟨by rfl, ?_⟩) (by assumption) ?_
          rotate_left
          · intro wS hSw
            (try dsimp only at hSw)
            go_simp
            try (with_reducible rfl)
          try simp only [Act.put, List.setIfInBounds_toArray, List.set_cons_zero, List.set_cons_succ]
          refine wpAnyG_take (i := 8) (v := ?_) (by kernel_rfl) rfl (by kernel_rfl) (by kernel_rfl) (by kernel_rfl) (fun _ _ _ h => h) (Or.inl ⟨by rfl, ?_⟩) (by assumption) ?_
          rotate_left
          · intro wS hSw
            (try dsimp only at hSw)
            go_simp
            try (with_reducible rfl)
          try simp only [Act.put, List.setIfInBounds_toArray, List.set_cons_zero, List.set_cons_succ]
          refine wpAnyG_take (i := 9) (v := ?_) (by kernel_rfl) rfl (by kernel_rfl) (by kernel_rfl) (by kernel_rfl) (fun _ _ _ h => h) (Or.inl ⟨by rfl, ?_⟩) (by assumption) ?_
          rotate_left
          · intro wS hSw
            (try dsimp only at hSw)
            go_simp
            try (with_reducible rfl)
          try simp only [Act.put, List.setIfInBounds_toArray, List.set_cons_zero, List.set_cons_succ]
          refine wpAnyG_take (i := 10) (v := ?_) (by kernel_rfl) rfl (by kernel_rfl) (by kernel_rfl) (by kernel_rfl) (fun _ _ _ h => h) (Or.inl ⟨by rfl, ?_⟩) (by assumption) ?_
          rotate_left
          · intro wS hSw
            (try dsimp only at hSw)
            go_simp
            try (with_reducible rfl)
          try simp only [Act.put, List.setIfInBounds_toArray, List.set_cons_zero, List.set_cons_succ]
          refine wpAnyG_take (i := 11) (v := ?_) (by kernel_rfl) rfl (by kernel_rfl) (by kernel_rfl) (by kernel_rfl) (fun _ _ _ h => h) (Or.inl ⟨by rfl, ?_⟩) (by assumption) ?_
          rotate_left
          · intro wS hSw
            (try dsimp only at hSw)
            go_simp
            try (with_reducible rfl)
          try simp only [Act.put, List.setIfInBounds_toArray, List.set_cons_zero, List.set_cons_succ]
          refine wpAnyG_take (i := 12) (v := ?_) (by kernel_rfl) rfl (by kernel_rfl) (by kernel_rfl) (by kernel_rfl) (fun _ _ _ h => h) (Or.inl ⟨by rfl, ?_⟩) (by assumption) ?_
          rotate_left
          · intro wS hSw
            (try dsimp only at hSw)
            go_simp
            try (with_reducible rfl)
          try simp only [Act.put, List.setIfInBounds_toArray, List.set_cons_zero, List.set_cons_succ]
          refine wpAnyG_one (i := 13) (by kernel_rfl) (by decide) (wpOp_plain rfl rfl ?_)
          go_simp
          go_at_call 86
          refine (cut_any A0 A1 y.low y.high _).mono ?_
          rintro e w5 ⟨rfl, hb5⟩
          have hH5 : (fun w' => w'.cell? ⟨wr.heap.size, 0, none⟩ = some (.int .i64 v) ∧ w'.cell? ⟨wr.heap.size, 1, none⟩ = some (.int .i64 y.low) ∧ w'.cell? ⟨wr.heap.size, 2, none⟩ = some (.int .i64 y.high) ∧ w'.cell? ⟨w1.heap.size, v * 2, none⟩ = some (.int .i64 A0) ∧ w'.cell? ⟨w1.heap.size, v * 2 + 1, none⟩ = some (.int .i64 A1)) w5 := ⟨(hb5.cell l40).trans m0, (hb5.cell l40).trans m1, (hb5.cell l40).trans m2, (hb5.cell l41).trans m3, (hb5.cell l41).trans m4⟩
          refine ⟨hH5, ?_⟩
          try simp only [Act.put, List.setIfInBounds_toArray, List.set_cons_zero, List.set_cons_succ]
          clear hHeld
          have hS5 := HS4.out.below (w' := w5) (bT (bd (Below.refl _ _)) hb5)
          have HS5 := Lib.hid hS5
          have HB5 := Lib.hid (bT HB4.out (bT (bd (Below.refl _ _)) hb5))
          have hf5 := hS5.fz
          have x0 := hS5.c0 v hvn
          have x1 := hS5.c1 v hvn
          clear hb5 hS5
          refine wpAnyG_take (i := 14) (v := ?_) (by kernel_rfl) rfl (by kernel_rfl) (by kernel_rfl) (by kernel_rfl) (fun _ _ _ h => h) (Or.inl ⟨by rfl, ?_⟩) (by assumption) ?_
          rotate_left
          · intro wS hSw
            (try dsimp only at hSw)
            go_simp
            try (with_reducible rfl)
          try simp only [Act.put, List.setIfInBounds_toArray, List.set_cons_zero, List.set_cons_succ]
          refine wpAnyG_done (by kernel_rfl) (by kernel_rfl) (wpOp_plain rfl rfl ?_)
          go_simp
          go_wp2
          go_roundw
          case rel =>
            refine ⟨k + 1, L.set v (cutP (A0, A1) (y.low, y.high)), by go_num, hlt, ?_, HS5.out.set v hvn _, bS (bS HB5.out (Nat.le_refl _) _) (Nat.le_refl _) _⟩
            have := st2_succ HOK.out (by rw [HS.out.len]; exact HN.out) H1.out hlt (v := v) (by rw [HY.out]; exact HV.out) HA0.out HA1.out
            rwa [HY.out] at this
          case measure => simp [intOf]; omega
        · obtain ⟨h2a, h2x, h2c⟩ := H1.out
          have h2b := st2_all H1.out (by omega)
          have h3 : St3 T n true L := ⟨h2a, h2b, bnd_up h2c (by omega), fun h => by cases h⟩
          have H3 := Lib.hid h3; have HSB := Lib.hid HS.out; have HBB := Lib.hid HB.out
          clear h2a h2b h2c h2x h3 H1 HS HB hlr
          go_wp2
          clear g0 g1 g2 hk hlt
          obtain ⟨w4, e4⟩ : ∃ w4, w4 = wr := ⟨_, rfl⟩
          rw [← e4]
          rw [← e4] at HSB HBB
          clear e4
          clear wr
          obtain ⟨LL, eLL⟩ : ∃ LL, LL = L := ⟨_, rfl⟩
          rw [← eLL] at H3 HSB
          clear eLL
          clear L
          go_loopw [8] (fun c wr => ∃ (b : Bool) (L : List (Int × Int)), c = .bool b ∧ St3 T n b L ∧ SpOwn wr w1.heap.size n L ∧ Below w1.heap.size w1 wr) (fun c wr => 2 * msr (readL wr w1.heap.size n) + b2n c)
          case atStart => exact ⟨true, LL, rfl, H3.out, HSB.out, HBB.out⟩
          case round =>
            obtain ⟨b, L, rfl, h3, hs, hb⟩ := hrel
            clear H3 HSB HBB
            have H3 := Lib.hid h3; have HS := Lib.hid hs; have HB := Lib.hid hb
            clear h3 hs hb
            cases b with
            | false =>
              go_wp2
              go_ret2
              refine ⟨bT HB1.out HB.out, .inr ?_⟩
              obtain ⟨a1, a2, a3, a4⟩ := H3.out
              obtain ⟨b1, b2, b3⟩ := a4 rfl
              obtain ⟨t1, t2⟩ := spans_truth HOK.out (by rw [HS.out.len]; exact HN.out) a2 b1 b2 (by rw [HS.out.len]; exact b3)
              have hs := HS.out
              rw [HZ1.out] at hs
              rw [HZ1.out]
              exact ⟨L, a1, t1, t2, rfl, hs⟩
            | true =>
              go_wp2
              go_loopw [9] (fun i wx => ∃ (k : Nat), i = .int .i64 k ∧ k ≤ n ∧ (∀ i, i < k → (sp L i).1 ≤ (sp L i).2) ∧ SpOwn wx w1.heap.size n L ∧ Below wr.heap.size wr wx) (fun i _ => n - (intOf i).toNat)
              case atStart => exact ⟨0, rfl, Nat.zero_le _, fun i h => absurd h (Nat.not_lt_zero _), HS.out, Below.refl _ _⟩
              case round =>
                obtain ⟨k, rfl, hk, hv, hs, hb⟩ := hrel
                rename World => wx
                have HV := Lib.hid hv; have HSx := Lib.hid hs; have HBx := Lib.hid hb
                clear hv hs hb
                by_cases hlt : k < n
                · have e0 := HSx.out.c0 k hlt
                  have e1 := HSx.out.c1 k hlt
                  obtain ⟨A0, hA0⟩ : ∃ z, (sp L k).1 = z := ⟨_, rfl⟩
                  obtain ⟨A1, hA1⟩ : ∃ z, (sp L k).2 = z := ⟨_, rfl⟩
                  rw [hA0] at e0; rw [hA1] at e1
                  have HA0 := Lib.hid hA0; have HA1 := Lib.hid hA1
                  clear hA0 hA1
                  have i0 : (0 : Int) ≤ (k : Int) := by omega
                  have i1 : (k : Int) < (n : Int) := by omega
                  by_cases hgt : A1 < A0
                  · have hd : decide (A1 < A0) = true := decide_eq_true hgt
                    have HG := Lib.hid hgt
                    clear hgt
                    go_wp2
                    go_quiet (fail)
                    go_wp2
                    go_ret2
                    exact ⟨by repeat (first | exact bT HB1.out (bT HB.out HBx.out) | refine bD ?_ _), .inl ⟨spans_no (by rw [HS.out.len]; exact HN.out) H3.out.1 (i := k) (by rw [HS.out.len]; exact hlt) (by rw [HA0.out, HA1.out]; exact HG.out), rfl⟩⟩
                  · have hd : decide (A1 < A0) = false := decide_eq_false hgt
                    have HG := Lib.hid hgt
                    clear hgt
                    go_wp2
                    go_quiet (fail)
                    go_wp2
                    go_roundw
                    case rel =>
                      refine ⟨k + 1, by go_num, hlt, fun i hi => ?_, by repeat (first | exact HSx.out | refine SpOwn.drewN ?_ _), by repeat (first | exact HBx.out | refine bD ?_ _)⟩
                      by_cases c : i = k
                      · subst c; rw [HA0.out, HA1.out]; have := HG.out; omega
                      · exact HV.out i (by omega)
                    case measure => simp [intOf]; omega
                · obtain rfl : n = k := by omega
                  go_wp2
                  have hB0 := bnd_valid H3.out.2.2.1 (by rw [HS.out.len]; exact HV.out)
                  have h5 := st5_zero H3.out.1 H3.out.2.1 hB0
                  have HB0 := Lib.hid hB0; have H5 := Lib.hid h5
                  have HBy := Lib.hid (bT HB.out HBx.out)
                  clear hB0 h5 hlt hk
                  obtain ⟨w5, e5⟩ : ∃ w5, w5 = wx := ⟨_, rfl⟩
                  rw [← e5]
                  rw [← e5] at HSx HBx HBy
                  clear e5
                  clear wx
                  go_loopw [8, 10] (fun c i wy => ∃ (k : Nat) (L' : List (Int × Int)) (b' : Bool), c = .bool b' ∧ i = .int .i64 k ∧ k ≤ T.r.length ∧ St5 T L k L' b' ∧ SpOwn wy w1.heap.size n L' ∧ Below w1.heap.size w1 wy) (fun _ i _ => T.r.length - (intOf i).toNat)
                  case atStart => exact ⟨0, L, false, rfl, rfl, Nat.zero_le _, H5.out, HSx.out, HBy.out⟩
                  case round =>
                    clear H5 HSx HBy
                    obtain ⟨k, L', b', rfl, rfl, hk, h5, hs, hb⟩ := hrel
                    rename World => wy
                    have H5 := Lib.hid h5; have HSy := Lib.hid hs; have HBy := Lib.hid hb
                    have g0 := (HBy.out.cell (p := ⟨w.heap.size, 0, none⟩) l0).trans k0
                    have g1 := (HBy.out.cell (p := ⟨w.heap.size, 1, none⟩) l0).trans k1
                    have g2 := (HBy.out.cell (p := ⟨w.heap.size, 2, none⟩) l0).trans k2
                    have hlr : w.heap.size < wy.heap.size := by have := HBy.out.size; omega
                    clear h5 hs hb
                    by_cases hlt : k < T.r.length
                    · obtain ⟨b, o, rfl, hbl, hsn⟩ := (HT.out.below HBy.out).r (by omega)
                      have e0 := hsn.c0 k hlt
                      have e1 := hsn.c1 k hlt
                      have e2 := hsn.c2 k hlt
                      have e3 := hsn.c3 k hlt
                      clear hsn
                      have ho := fin_rOk HOK.out (List.getElem_mem hlt)
                      obtain ⟨y, hy⟩ : ∃ y, T.r[k] = y := ⟨_, rfl⟩
                      rw [hy] at e0 e1 e2 e3 ho
                      obtain ⟨u, hu⟩ : ∃ u : Nat, y.a = u := ⟨y.a.toNat, by omega⟩
                      obtain ⟨v, hv⟩ : ∃ v : Nat, y.b = v := ⟨y.b.toNat, by omega⟩
                      rw [hu] at e0 ho
                      rw [hv] at e1 ho
                      obtain ⟨lo, hlo⟩ : ∃ z, y.low = z := ⟨_, rfl⟩
                      obtain ⟨hi, hhi⟩ : ∃ z, y.high = z := ⟨_, rfl⟩
                      rw [hlo] at e2 ho
                      rw [hhi] at e3 ho
                      have hun : u < n := by have := HN.out; omega
                      have hvn : v < n := by have := HN.out; omega
                      have j0 := HSy.out.c0 u hun
                      have j1 := HSy.out.c1 u hun
                      have j2 := HSy.out.c0 v hvn
                      have j3 := HSy.out.c1 v hvn
                      have hgr := HSy.out.lt
                      have hb1' := (H5.out).2.2.1 u (by rw [HSy.out.len]; exact hun)
                      have hb2' := (H5.out).2.2.1 v (by rw [HSy.out.len]; exact hvn)
                      obtain ⟨A0, hA0⟩ : ∃ z, (sp L' u).1 = z := ⟨_, rfl⟩
                      obtain ⟨A1, hA1⟩ : ∃ z, (sp L' u).2 = z := ⟨_, rfl⟩
                      obtain ⟨B0, hB0⟩ : ∃ z, (sp L' v).1 = z := ⟨_, rfl⟩
                      obtain ⟨B1, hB1⟩ : ∃ z, (sp L' v).2 = z := ⟨_, rfl⟩
                      rw [hA0] at j0 hb1'; rw [hA1] at j1 hb1'; rw [hB0] at j2 hb2'; rw [hB1] at j3 hb2'
                      have hbr : b < wy.heap.size := by have := HBy.out.size; omega
                      have HY := Lib.hid hy; have HU := Lib.hid hu; have HV' := Lib.hid hv; have HLO := Lib.hid hlo; have HHI := Lib.hid hhi
                      have HA0 := Lib.hid hA0; have HA1 := Lib.hid hA1; have HB0' := Lib.hid hB0; have HB1' := Lib.hid hB1
                      clear hy hu hv hlo hhi hA0 hA1 hB0 hB1
                      go_upto_region 23 with fail
                      obtain ⟨w4, hw4, hb4, hs4, m0, m1, m2, m3⟩ := box4 wy (.int .i64 u) (.int .i64 v) (.int .i64 lo) (.int .i64 hi) 58
                      rw [hw4]
                      have n0 := (hb4.cell (p := ⟨w1.heap.size, u * 2, none⟩) hgr).trans j0
                      have n1 := (hb4.cell (p := ⟨w1.heap.size, u * 2 + 1, none⟩) hgr).trans j1
                      have n2 := (hb4.cell (p := ⟨w1.heap.size, v * 2, none⟩) hgr).trans j2
                      have n3 := (hb4.cell (p := ⟨w1.heap.size, v * 2 + 1, none⟩) hgr).trans j3
                      have l40 : wy.heap.size < w4.heap.size := by omega
                      have l41 : w1.heap.size < w4.heap.size := by omega
                      have HS4 := Lib.hid (HSy.out.below hb4)
                      have HB4 := Lib.hid (bT HBy.out hb4)
                      have i0 : (0 : Int) ≤ (u : Int) := by omega
                      have i1 : (u : Int) < (n : Int) := by omega
                      have i2 : (0 : Int) ≤ (v : Int) := by omega
                      have i3 : (v : Int) < (n : Int) := by omega
                      clear hw4 hb4 hs4 e0 e1 e2 e3 j0 j1 j2 j3 g0 g1 g2
                      go_cut [12, 13] (fun s12 s13 wc => ∃ ga gb, s12 = .pointer (some ⟨ga, 0, none⟩) ∧ s13 = .pointer (some ⟨gb, 0, none⟩) ∧ Cut5 w4 A0 A1 B0 B1 ga gb wc)
                      case first =>
                        go_region_held3 (fun w' => w'.cell? ⟨wy.heap.size, 0, none⟩ = some (.int .i64 u) ∧ w'.cell? ⟨wy.heap.size, 1, none⟩ = some (.int .i64 v) ∧ w'.cell? ⟨w1.heap.size, u * 2, none⟩ = some (.int .i64 A0) ∧ w'.cell? ⟨w1.heap.size, u * 2 + 1, none⟩ = some (.int .i64 A1) ∧ w'.cell? ⟨w1.heap.size, v * 2, none⟩ = some (.int .i64 B0) ∧ w'.cell? ⟨w1.heap.size, v * 2 + 1, none⟩ = some (.int .i64 B1)) (go_keep) (fail)
                        all_goals (go_wp2_with fail; go_meet)
                        all_goals (first | exact ⟨_, _, rfl, rfl, cut5_ab w4 A0 A1 B0 B1⟩ | exact ⟨_, _, rfl, rfl, cut5_ba w4 A0 A1 B0 B1⟩)
                      case rest =>
                        obtain ⟨ga, gb, rfl, rfl, hc⟩ := hcut
                        have q0 := cell_of_row wc ga 0 _ _ _ hc.ra
                        have q1 := cell_of_row wc ga 1 _ _ _ hc.ra
                        have q2 := cell_of_row wc gb 0 _ _ _ hc.rb
                        have q3 := cell_of_row wc gb 1 _ _ _ hc.rb
                        simp only [List.getElem?_toArray, List.getElem?_cons_zero, List.getElem?_cons_succ] at q0 q1 q2 q3
                        have p0 := (hc.bel.cell (p := ⟨wy.heap.size, 0, none⟩) l40).trans m0
                        have p1 := (hc.bel.cell (p := ⟨wy.heap.size, 1, none⟩) l40).trans m1
                        have p2 := (hc.bel.cell (p := ⟨wy.heap.size, 2, none⟩) l40).trans m2
                        have p3 := (hc.bel.cell (p := ⟨wy.heap.size, 3, none⟩) l40).trans m3
                        have p4 := q0; have p5 := q1; have p6 := q2; have p7 := q3
                        have hcs := hc.bel.size
                        have hca := hc.la; have hcb := hc.lb
                        have lx0 : wy.heap.size < wc.heap.size := by omega
                        have lxa : ga < wc.heap.size := (Array.getElem?_eq_some_iff.1 hc.ra).1
                        have lxb : gb < wc.heap.size := (Array.getElem?_eq_some_iff.1 hc.rb).1
                        have hga : ga ≠ w1.heap.size := by omega
                        have hgb : gb ≠ w1.heap.size := by omega
                        have hgy : wy.heap.size ≠ w1.heap.size := by omega
                        have HSx := Lib.hid (HS4.out.below hc.bel)
                        have HBx := Lib.hid (bT HB4.out hc.bel)
                        have v1 : IntKind.i64.wrap (A0 + lo) = A0 + lo := IntWalk.i64_in _ (by omega)
                        have v2 : IntKind.i64.wrap (A1 + hi) = A1 + hi := IntWalk.i64_in _ (by omega)
                        have v3 : IntKind.i64.wrap (B0 - hi) = B0 - hi := IntWalk.i64_in _ (by omega)
                        have v4 : IntKind.i64.wrap (B1 - lo) = B1 - lo := IntWalk.i64_in _ (by omega)
                        obtain ⟨⟨D0, D1⟩, hD⟩ : ∃ z, cutP (B0, B1) (A0 + lo, A1 + hi) = z := ⟨_, rfl⟩
                        obtain ⟨⟨C0, C1⟩, hC⟩ : ∃ z, cutP (A0, A1) (B0 - hi, B1 - lo) = z := ⟨_, rfl⟩
                        have hcv : ∀ V, Calls Try.prog 86 #[.agg #[.int .i64 B0, .int .i64 B1], .agg #[.int .i64 (A0 + lo), .int .i64 (A1 + hi)]] V fun e w' => e = .returned (.agg #[.int .i64 D0, .int .i64 D1]) ∧ Below V.heap.size V w' := fun V => by
                          have := cut_any B0 B1 (A0 + lo) (A1 + hi) V
                          rwa [hD] at this
                        have hcu : ∀ V, Calls Try.prog 86 #[.agg #[.int .i64 A0, .int .i64 A1], .agg #[.int .i64 (B0 - hi), .int .i64 (B1 - lo)]] V fun e w' => e = .returned (.agg #[.int .i64 C0, .int .i64 C1]) ∧ Below V.heap.size V w' := fun V => by
                          have := cut_any A0 A1 (B0 - hi) (B1 - lo) V
                          rwa [hC] at this
                        have HCV := Lib.hid hcv; have HCU := Lib.hid hcu; have HD := Lib.hid hD; have HC := Lib.hid hC
                        clear hcv hcu hD hC
                        clear q0 q1 q2 q3 hc m0 m1 m2 m3 n0 n1 n2 n3 HS4 HB4
                        go_wp2
                        refine wp_region_last (fun w' => w'.cell? ⟨wy.heap.size, 0, none⟩ = some (.int .i64 u) ∧ w'.cell? ⟨wy.heap.size, 1, none⟩ = some (.int .i64 v) ∧ w'.cell? ⟨wy.heap.size, 2, none⟩ = some (.int .i64 lo) ∧ w'.cell? ⟨wy.heap.size, 3, none⟩ = some (.int .i64 hi) ∧ w'.cell? ⟨ga, 0, none⟩ = some (.int .i64 A0) ∧ w'.cell? ⟨ga, 1, none⟩ = some (.int .i64 A1) ∧ w'.cell? ⟨gb, 0, none⟩ = some (.int .i64 B0) ∧ w'.cell? ⟨gb, 1, none⟩ = some (.int .i64 B1)) 17 (by kernel_rfl) rfl (⟨p0, p1, p2, p3, p4, p5, p6, p7⟩) (fun hHeld => ?_)
                        refine wpAnyG_take (i := 0) (v := ?_) (by kernel_rfl) rfl (by kernel_rfl) (by kernel_rfl) (by kernel_rfl) (fun _ _ _ h => h) (Or.inl ⟨by rfl, ?_⟩) (by assumption) ?_
                        rotate_left
                        · intro wS hSw
                          (try dsimp only at hSw)
                          go_simp
                          try (with_reducible rfl)
                        try simp only [Act.put, List.setIfInBounds_toArray, List.set_cons_zero, List.set_cons_succ]
                        refine wpAnyG_take (i := 1) (v := ?_) (by kernel_rfl) rfl (by kernel_rfl) (by kernel_rfl) (by kernel_rfl) (fun _ _ _ h => h) (Or.inl ⟨by rfl, ?_⟩) (by assumption) ?_
                        rotate_left
                        · intro wS hSw
                          (try dsimp only at hSw)
                          go_simp
                          try (with_reducible rfl)
                        try simp only [Act.put, List.setIfInBounds_toArray, List.set_cons_zero, List.set_cons_succ]
                        refine wpAnyG_take (i := 2) (v := ?_) (by kernel_rfl) rfl (by kernel_rfl) (by kernel_rfl) (by kernel_rfl) (fun _ _ _ h => h) (Or.inl ⟨by rfl, ?_⟩) (by assumption) ?_
                        rotate_left
                        · intro wS hSw
                          (try dsimp only at hSw)
                          go_simp
                          try (with_reducible rfl)
                        try simp only [Act.put, List.setIfInBounds_toArray, List.set_cons_zero, List.set_cons_succ]
                        refine wpAnyG_take (i := 3) (v := ?_) (by kernel_rfl) rfl (by kernel_rfl) (by kernel_rfl) (by kernel_rfl) (fun _ _ _ h => h) (Or.inl ⟨by rfl, ?_⟩) (by assumption) ?_
                        rotate_left
                        · intro wS hSw
                          (try dsimp only at hSw)
                          go_simp
                          try (with_reducible rfl)
                        try simp only [Act.put, List.setIfInBounds_toArray, List.set_cons_zero, List.set_cons_succ]
                        refine wpAnyG_take (i := 4) (v := ?_) (by kernel_rfl) rfl (by kernel_rfl) (by kernel_rfl) (by kernel_rfl) (fun _ _ _ h => h) (Or.inl ⟨by rfl, ?_⟩) (by assumption) ?_
                        rotate_left
                        · intro wS hSw
                          (try dsimp only at hSw)
                          go_simp
                          try (with_reducible rfl)
                        try simp only [Act.put, List.setIfInBounds_toArray, List.set_cons_zero, List.set_cons_succ]
                        refine wpAnyG_take (i := 5) (v := ?_) (by kernel_rfl) rfl (by kernel_rfl) (by kernel_rfl) (by kernel_rfl) (fun _ _ _ h => h) (Or.inl ⟨by rfl, ?_⟩) (by assumption) ?_
                        rotate_left
                        · intro wS hSw
                          (try dsimp only at hSw)
                          go_simp
                          try (with_reducible rfl)
                        try simp only [Act.put, List.setIfInBounds_toArray, List.set_cons_zero, List.set_cons_succ]
                        refine wpAnyG_take (i := 6) (v := ?_) (by kernel_rfl) rfl (by kernel_rfl) (by kernel_rfl) (by kernel_rfl) (fun _ _ _ h => h) (Or.inl ⟨by rfl, ?_⟩) (by assumption) ?_
                        rotate_left
                        · intro wS hSw
                          (try dsimp only at hSw)
                          go_simp
                          try (with_reducible rfl)
                        try simp only [Act.put, List.setIfInBounds_toArray, List.set_cons_zero, List.set_cons_succ]
                        refine wpAnyG_take (i := 7) (v := ?_) (by kernel_rfl) rfl (by kernel_rfl) (by kernel_rfl) (by kernel_rfl) (fun _ _ _ h => h) (Or.inl ⟨by rfl, ?_⟩) (by assumption) ?_
                        rotate_left
                        · intro wS hSw
                          (try dsimp only at hSw)
                          go_simp
                          try (with_reducible rfl)
                        try simp only [Act.put, List.setIfInBounds_toArray, List.set_cons_zero, List.set_cons_succ]
                        refine wpAnyG_take (i := 8) (v := ?_) (by kernel_rfl) rfl (by kernel_rfl) (by kernel_rfl) (by kernel_rfl) (fun _ _ _ h => h) (Or.inl ⟨by rfl, ?_⟩) (by assumption) ?_
                        rotate_left
                        · intro wS hSw
                          (try dsimp only at hSw)
                          go_simp
                          try (with_reducible rfl)
                        try simp only [Act.put, List.setIfInBounds_toArray, List.set_cons_zero, List.set_cons_succ]
                        refine wpAnyG_take (i := 9) (v := ?_) (by kernel_rfl) rfl (by kernel_rfl) (by kernel_rfl) (by kernel_rfl) (fun _ _ _ h => h) (Or.inl ⟨by rfl, ?_⟩) (by assumption) ?_
                        rotate_left
                        · intro wS hSw
                          (try dsimp only at hSw)
                          go_simp
                          try (with_reducible rfl)
                        try simp only [Act.put, List.setIfInBounds_toArray, List.set_cons_zero, List.set_cons_succ]
                        refine wpAnyG_take (i := 10) (v := ?_) (by kernel_rfl) rfl (by kernel_rfl) (by kernel_rfl) (by kernel_rfl) (fun _ _ _ h => h) (Or.inl ⟨by rfl, ?_⟩) (by assumption) ?_
                        rotate_left
                        · intro wS hSw
                          (try dsimp only at hSw)
                          go_simp
                          try (with_reducible rfl)
                        try simp only [Act.put, List.setIfInBounds_toArray, List.set_cons_zero, List.set_cons_succ]
                        refine wpAnyG_take (i := 11) (v := ?_) (by kernel_rfl) rfl (by kernel_rfl) (by kernel_rfl) (by kernel_rfl) (fun _ _ _ h => h) (Or.inl ⟨by rfl, ?_⟩) (by assumption) ?_
                        rotate_left
                        · intro wS hSw
                          (try dsimp only at hSw)
                          go_simp
                          try (with_reducible rfl)
                        try simp only [Act.put, List.setIfInBounds_toArray, List.set_cons_zero, List.set_cons_succ]
                        refine wpAnyG_take (i := 12) (v := ?_) (by kernel_rfl) rfl (by kernel_rfl) (by kernel_rfl) (by kernel_rfl) (fun _ _ _ h => h) (Or.inl ⟨by rfl, ?_⟩) (by assumption) ?_
                        rotate_left
                        · intro wS hSw
                          (try dsimp only at hSw)
                          go_simp
                          try (with_reducible rfl)
                        try simp only [Act.put, List.setIfInBounds_toArray, List.set_cons_zero, List.set_cons_succ]
                        refine wpAnyG_take (i := 13) (v := ?_) (by kernel_rfl) rfl (by kernel_rfl) (by kernel_rfl) (by kernel_rfl) (fun _ _ _ h => h) (Or.inl ⟨by rfl, ?_⟩) (by assumption) ?_
                        rotate_left
                        · intro wS hSw
                          (try dsimp only at hSw)
                          go_simp
                          try (with_reducible rfl)
                        try simp only [Act.put, List.setIfInBounds_toArray, List.set_cons_zero, List.set_cons_succ]
                        refine wpAnyG_take (i := 14) (v := ?_) (by kernel_rfl) rfl (by kernel_rfl) (by kernel_rfl) (by kernel_rfl) (fun _ _ _ h => h) (Or.inl ⟨by rfl, ?_⟩) (by assumption) ?_
                        rotate_left
                        · intro wS hSw
                          (try dsimp only at hSw)
                          go_simp
                          try (with_reducible rfl)
                        try simp only [Act.put, List.setIfInBounds_toArray, List.set_cons_zero, List.set_cons_succ]
                        refine wpAnyG_one (i := 15) (by kernel_rfl) (by decide) (wpOp_plain rfl rfl ?_)
                        go_simp
                        go_at_call 86
                        refine (HCV.out _).mono ?_
                        rintro e w6 ⟨rfl, hb6⟩
                        have hH : (fun w' => w'.cell? ⟨wy.heap.size, 0, none⟩ = some (.int .i64 u) ∧ w'.cell? ⟨wy.heap.size, 1, none⟩ = some (.int .i64 v) ∧ w'.cell? ⟨wy.heap.size, 2, none⟩ = some (.int .i64 lo) ∧ w'.cell? ⟨wy.heap.size, 3, none⟩ = some (.int .i64 hi) ∧ w'.cell? ⟨ga, 0, none⟩ = some (.int .i64 A0) ∧ w'.cell? ⟨ga, 1, none⟩ = some (.int .i64 A1) ∧ w'.cell? ⟨gb, 0, none⟩ = some (.int .i64 B0) ∧ w'.cell? ⟨gb, 1, none⟩ = some (.int .i64 B1)) w6 := ⟨(hb6.cell lx0).trans p0, (hb6.cell lx0).trans p1, (hb6.cell lx0).trans p2, (hb6.cell lx0).trans p3, (hb6.cell lxa).trans p4, (hb6.cell lxa).trans p5, (hb6.cell lxb).trans p6, (hb6.cell lxb).trans p7⟩
                        refine ⟨hH, ?_⟩
                        try simp only [Act.put, List.setIfInBounds_toArray, List.set_cons_zero, List.set_cons_succ]
                        clear hHeld
                        have hS6 := HSx.out.below (w' := w6) (bT (bd (Below.refl _ _)) hb6)
                        have HS6 := Lib.hid hS6
                        have HB6 := Lib.hid (bT HBx.out (bT (bd (Below.refl _ _)) hb6))
                        have hf6 := hS6.fz
                        have x60 := hS6.c0 v hvn
                        have x61 := hS6.c1 v hvn
                        have z6 : wc.heap.size ≤ w6.heap.size := hb6.size
                        clear hb6 hS6
                        refine wpAnyG_take (i := 16) (v := ?_) (by kernel_rfl) rfl (by kernel_rfl) (by kernel_rfl) (by kernel_rfl) (fun _ _ _ h => h) (Or.inl ⟨by rfl, ?_⟩) (by assumption) ?_
                        rotate_left
                        · intro wS hSw
                          (try dsimp only at hSw)
                          go_simp
                          try (with_reducible rfl)
                        try simp only [Act.put, List.setIfInBounds_toArray, List.set_cons_zero, List.set_cons_succ]
                        refine wpAnyG_done (by kernel_rfl) (by kernel_rfl) (wpOp_plain rfl rfl ?_)
                        go_simp
                        obtain ⟨w7, hw7, hs7, z7, cl7, bl7⟩ := HS6.out.upd v hvn D0 D1
                        rw [hw7]
                        have r0 := (cl7 wy.heap.size 0 hgy).trans hH.1
                        have r1 := (cl7 wy.heap.size 1 hgy).trans hH.2.1
                        have r2 := (cl7 wy.heap.size 2 hgy).trans hH.2.2.1
                        have r3 := (cl7 wy.heap.size 3 hgy).trans hH.2.2.2.1
                        have r4 := (cl7 ga 0 hga).trans hH.2.2.2.2.1
                        have r5 := (cl7 ga 1 hga).trans hH.2.2.2.2.2.1
                        have r6 := (cl7 gb 0 hgb).trans hH.2.2.2.2.2.2.1
                        have r7 := (cl7 gb 1 hgb).trans hH.2.2.2.2.2.2.2
                        have HS7 := Lib.hid hs7
                        have HB7 := Lib.hid (bl7 w1 (Nat.le_refl _) HB6.out)
                        have l70 : wy.heap.size < w7.heap.size := by omega
                        have l7a : ga < w7.heap.size := by omega
                        have l7b : gb < w7.heap.size := by omega
                        clear hw7 hs7 z7 cl7 bl7 hH hf6 x60 x61 z6 HS6 HB6 lx0 lxa lxb p0 p1 p2 p3 p4 p5 p6 p7
                        go_wp2
                        refine wp_region_last (fun w' => w'.cell? ⟨wy.heap.size, 0, none⟩ = some (.int .i64 u) ∧ w'.cell? ⟨wy.heap.size, 1, none⟩ = some (.int .i64 v) ∧ w'.cell? ⟨wy.heap.size, 2, none⟩ = some (.int .i64 lo) ∧ w'.cell? ⟨wy.heap.size, 3, none⟩ = some (.int .i64 hi) ∧ w'.cell? ⟨ga, 0, none⟩ = some (.int .i64 A0) ∧ w'.cell? ⟨ga, 1, none⟩ = some (.int .i64 A1) ∧ w'.cell? ⟨gb, 0, none⟩ = some (.int .i64 B0) ∧ w'.cell? ⟨gb, 1, none⟩ = some (.int .i64 B1)) 17 (by kernel_rfl) rfl (⟨r0, r1, r2, r3, r4, r5, r6, r7⟩) (fun hHeld => ?_)
                        refine wpAnyG_take (i := 0) (v := ?_) (by kernel_rfl) rfl (by kernel_rfl) (by kernel_rfl) (by kernel_rfl) (fun _ _ _ h => h) (Or.inl ⟨by rfl, ?_⟩) (by assumption) ?_
                        rotate_left
                        · intro wS hSw
                          (try dsimp only at hSw)
                          go_simp
                          try (with_reducible rfl)
                        try simp only [Act.put, List.setIfInBounds_toArray, List.set_cons_zero, List.set_cons_succ]
                        refine wpAnyG_take (i := 1) (v := ?_) (by kernel_rfl) rfl (by kernel_rfl) (by kernel_rfl) (by kernel_rfl) (fun _ _ _ h => h) (Or.inl ⟨by rfl, ?_⟩) (by assumption) ?_
                        rotate_left
                        · intro wS hSw
                          (try dsimp only at hSw)
                          go_simp
                          try (with_reducible rfl)
                        try simp only [Act.put, List.setIfInBounds_toArray, List.set_cons_zero, List.set_cons_succ]
                        refine wpAnyG_take (i := 2) (v := ?_) (by kernel_rfl) rfl (by kernel_rfl) (by kernel_rfl) (by kernel_rfl) (fun _ _ _ h => h) (Or.inl ⟨by rfl, ?_⟩) (by assumption) ?_
                        rotate_left
                        · intro wS hSw
                          (try dsimp only at hSw)
                          go_simp
                          try (with_reducible rfl)
                        try simp only [Act.put, List.setIfInBounds_toArray, List.set_cons_zero, List.set_cons_succ]
                        refine wpAnyG_take (i := 3) (v := ?_) (by kernel_rfl) rfl (by kernel_rfl) (by kernel_rfl) (by kernel_rfl) (fun _ _ _ h => h) (Or.inl ⟨by rfl, ?_⟩) (by assumption) ?_
                        rotate_left
                        · intro wS hSw
                          (try dsimp only at hSw)
                          go_simp
                          try (with_reducible rfl)
                        try simp only [Act.put, List.setIfInBounds_toArray, List.set_cons_zero, List.set_cons_succ]
                        refine wpAnyG_take (i := 4) (v := ?_) (by kernel_rfl) rfl (by kernel_rfl) (by kernel_rfl) (by kernel_rfl) (fun _ _ _ h => h) (Or.inl ⟨by rfl, ?_⟩) (by assumption) ?_
                        rotate_left
                        · intro wS hSw
                          (try dsimp only at hSw)
                          go_simp
                          try (with_reducible rfl)
                        try simp only [Act.put, List.setIfInBounds_toArray, List.set_cons_zero, List.set_cons_succ]
                        refine wpAnyG_take (i := 5) (v := ?_) (by kernel_rfl) rfl (by kernel_rfl) (by kernel_rfl) (by kernel_rfl) (fun _ _ _ h => h) (Or.inl ⟨by rfl, ?_⟩) (by assumption) ?_
                        rotate_left
                        · intro wS hSw
                          (try dsimp only at hSw)
                          go_simp
                          try (with_reducible rfl)
                        try simp only [Act.put, List.setIfInBounds_toArray, List.set_cons_zero, List.set_cons_succ]
                        refine wpAnyG_take (i := 6) (v := ?_) (by kernel_rfl) rfl (by kernel_rfl) (by kernel_rfl) (by kernel_rfl) (fun _ _ _ h => h) (Or.inl ⟨by rfl, ?_⟩) (by assumption) ?_
                        rotate_left
                        · intro wS hSw
                          (try dsimp only at hSw)
                          go_simp
                          try (with_reducible rfl)
                        try simp only [Act.put, List.setIfInBounds_toArray, List.set_cons_zero, List.set_cons_succ]
                        refine wpAnyG_take (i := 7) (v := ?_) (by kernel_rfl) rfl (by kernel_rfl) (by kernel_rfl) (by kernel_rfl) (fun _ _ _ h => h) (Or.inl ⟨by rfl, ?_⟩) (by assumption) ?_
                        rotate_left
                        · intro wS hSw
                          (try dsimp only at hSw)
                          go_simp
                          try (with_reducible rfl)
                        try simp only [Act.put, List.setIfInBounds_toArray, List.set_cons_zero, List.set_cons_succ]
                        refine wpAnyG_take (i := 8) (v := ?_) (by kernel_rfl) rfl (by kernel_rfl) (by kernel_rfl) (by kernel_rfl) (fun _ _ _ h => h) (Or.inl ⟨by rfl, ?_⟩) (by assumption) ?_
                        rotate_left
                        · intro wS hSw
                          (try dsimp only at hSw)
                          go_simp
                          try (with_reducible rfl)
                        try simp only [Act.put, List.setIfInBounds_toArray, List.set_cons_zero, List.set_cons_succ]
                        refine wpAnyG_take (i := 9) (v := ?_) (by kernel_rfl) rfl (by kernel_rfl) (by kernel_rfl) (by kernel_rfl) (fun _ _ _ h => h) (Or.inl ⟨by rfl, ?_⟩) (by assumption) ?_
                        rotate_left
                        · intro wS hSw
                          (try dsimp only at hSw)
                          go_simp
                          try (with_reducible rfl)
                        try simp only [Act.put, List.setIfInBounds_toArray, List.set_cons_zero, List.set_cons_succ]
                        refine wpAnyG_take (i := 10) (v := ?_) (by kernel_rfl) rfl (by kernel_rfl) (by kernel_rfl) (by kernel_rfl) (fun _ _ _ h => h) (Or.inl ⟨by rfl, ?_⟩) (by assumption) ?_
                        rotate_left
                        · intro wS hSw
                          (try dsimp only at hSw)
                          go_simp
                          try (with_reducible rfl)
                        try simp only [Act.put, List.setIfInBounds_toArray, List.set_cons_zero, List.set_cons_succ]
                        refine wpAnyG_take (i := 11) (v := ?_) (by kernel_rfl) rfl (by kernel_rfl) (by kernel_rfl) (by kernel_rfl) (fun _ _ _ h => h) (Or.inl ⟨by rfl, ?_⟩) (by assumption) ?_
                        rotate_left
                        · intro wS hSw
                          (try dsimp only at hSw)
                          go_simp
                          try (with_reducible rfl)
                        try simp only [Act.put, List.setIfInBounds_toArray, List.set_cons_zero, List.set_cons_succ]
                        refine wpAnyG_take (i := 12) (v := ?_) (by kernel_rfl) rfl (by kernel_rfl) (by kernel_rfl) (by kernel_rfl) (fun _ _ _ h => h) (Or.inl ⟨by rfl, ?_⟩) (by assumption) ?_
                        rotate_left
                        · intro wS hSw
                          (try dsimp only at hSw)
                          go_simp
                          try (with_reducible rfl)
                        try simp only [Act.put, List.setIfInBounds_toArray, List.set_cons_zero, List.set_cons_succ]
                        refine wpAnyG_take (i := 13) (v := ?_) (by kernel_rfl) rfl (by kernel_rfl) (by kernel_rfl) (by kernel_rfl) (fun _ _ _ h => h) (Or.inl ⟨by rfl, ?_⟩) (by assumption) ?_
                        rotate_left
                        · intro wS hSw
                          (try dsimp only at hSw)
                          go_simp
                          try (with_reducible rfl)
                        try simp only [Act.put, List.setIfInBounds_toArray, List.set_cons_zero, List.set_cons_succ]
                        refine wpAnyG_take (i := 14) (v := ?_) (by kernel_rfl) rfl (by kernel_rfl) (by kernel_rfl) (by kernel_rfl) (fun _ _ _ h => h) (Or.inl ⟨by rfl, ?_⟩) (by assumption) ?_
                        rotate_left
                        · intro wS hSw
                          (try dsimp only at hSw)
                          go_simp
                          try (with_reducible rfl)
                        try simp only [Act.put, List.setIfInBounds_toArray, List.set_cons_zero, List.set_cons_succ]
                        refine wpAnyG_one (i := 15) (by kernel_rfl) (by decide) (wpOp_plain rfl rfl ?_)
                        go_simp
                        go_at_call 86
                        refine (HCU.out _).mono ?_
                        rintro e w8 ⟨rfl, hb8⟩
                        have hH : (fun w' => w'.cell? ⟨wy.heap.size, 0, none⟩ = some (.int .i64 u) ∧ w'.cell? ⟨wy.heap.size, 1, none⟩ = some (.int .i64 v) ∧ w'.cell? ⟨wy.heap.size, 2, none⟩ = some (.int .i64 lo) ∧ w'.cell? ⟨wy.heap.size, 3, none⟩ = some (.int .i64 hi) ∧ w'.cell? ⟨ga, 0, none⟩ = some (.int .i64 A0) ∧ w'.cell? ⟨ga, 1, none⟩ = some (.int .i64 A1) ∧ w'.cell? ⟨gb, 0, none⟩ = some (.int .i64 B0) ∧ w'.cell? ⟨gb, 1, none⟩ = some (.int .i64 B1)) w8 := ⟨(hb8.cell l70).trans r0, (hb8.cell l70).trans r1, (hb8.cell l70).trans r2, (hb8.cell l70).trans r3, (hb8.cell l7a).trans r4, (hb8.cell l7a).trans r5, (hb8.cell l7b).trans r6, (hb8.cell l7b).trans r7⟩
                        refine ⟨hH, ?_⟩
                        try simp only [Act.put, List.setIfInBounds_toArray, List.set_cons_zero, List.set_cons_succ]
                        clear hHeld
                        have hS8 := HS7.out.below (w' := w8) (bT (bd (Below.refl _ _)) hb8)
                        have HS8 := Lib.hid hS8
                        have HB8 := Lib.hid (bT HB7.out (bT (bd (Below.refl _ _)) hb8))
                        have hf8 := hS8.fz
                        have x80 := hS8.c0 u hun
                        have x81 := hS8.c1 u hun
                        have z8 : w7.heap.size ≤ w8.heap.size := hb8.size
                        clear hb8 hS8
                        refine wpAnyG_take (i := 16) (v := ?_) (by kernel_rfl) rfl (by kernel_rfl) (by kernel_rfl) (by kernel_rfl) (fun _ _ _ h => h) (Or.inl ⟨by rfl, ?_⟩) (by assumption) ?_
                        rotate_left
                        · intro wS hSw
                          (try dsimp only at hSw)
                          go_simp
                          try (with_reducible rfl)
                        try simp only [Act.put, List.setIfInBounds_toArray, List.set_cons_zero, List.set_cons_succ]
                        refine wpAnyG_done (by kernel_rfl) (by kernel_rfl) (wpOp_plain rfl rfl ?_)
                        go_simp
                        go_wp2
                        obtain ⟨w9, hw9, hs9, z9, cl9, bl9⟩ := HS8.out.upd u hun C0 C1
                        rw [hw9]
                        have t0 := (cl9 wy.heap.size 0 hgy).trans hH.1
                        have t1 := (cl9 wy.heap.size 1 hgy).trans hH.2.1
                        have t4 := (cl9 ga 0 hga).trans hH.2.2.2.2.1
                        have t5 := (cl9 ga 1 hga).trans hH.2.2.2.2.2.1
                        have t6 := (cl9 gb 0 hgb).trans hH.2.2.2.2.2.2.1
                        have t7 := (cl9 gb 1 hgb).trans hH.2.2.2.2.2.2.2
                        have HS9 := Lib.hid hs9
                        have HB9 := Lib.hid (bl9 w1 (Nat.le_refl _) HB8.out)
                        have hlenL : L'.length = n := HSy.out.len
                        have s0 := hs9.c0 u hun
                        have s1 := hs9.c1 u hun
                        have s2 := hs9.c0 v hvn
                        have s3 := hs9.c1 v hvn
                        rw [sp_set _ _ _ _ (by rw [List.length_set, hlenL]; exact hun), if_pos rfl] at s0 s1
                        rw [sp_set _ _ _ _ (by rw [List.length_set, hlenL]; exact hun), if_neg (by omega), sp_set _ _ _ _ (by rw [hlenL]; exact hvn), if_pos rfl] at s2 s3
                        clear hw9 hs9 z9 cl9 bl9 hH hf8 x80 x81 z8 HS8 HB8 l70 l7a l7b r0 r1 r2 r3 r4 r5 r6 r7 HS7 HB7
                        have hfin : ∀ bb, bb = (b' || !((C0, C1) == (A0, A1)) || !((D0, D1) == (B0, B1))) → St5 T L (k + 1) ((L'.set v (D0, D1)).set u (C0, C1)) bb := fun bb hbb => by
                          obtain ⟨q1, q2, q3, q4, q5⟩ := slp_eq (L' := L') HU.out HV'.out HLO.out HHI.out HA0.out HA1.out HB0'.out HB1'.out HD.out HC.out
                          rw [← q5]
                          have := st5_succ HOK.out (by rw [hlenL]; exact HN.out) H5.out hlt bb (by rw [HY.out, q1, q2, q3, q4]; exact hbb)
                          rwa [HY.out] at this
                        have HF := Lib.hid hfin
                        clear hfin hlenL
                        cases b' with
                        | true =>
                          go_wp2
                          go_quiet (fail)
                          go_wp2
                          go_roundw
                          case rel => exact ⟨k + 1, _, true, rfl, by go_num, hlt, HF.out _ (by rfl), by repeat (first | exact HS9.out | refine SpOwn.drewN ?_ _), by repeat (first | exact HB9.out | refine bD ?_ _)⟩
                          case measure => simp [intOf]; omega
                        | false =>
                          by_cases c1 : C0 = A0
                          · have f1 : (C0 == A0) = true := by simpa using c1
                            by_cases c2 : C1 = A1
                            · have f2 : (C1 == A1) = true := by simpa using c2
                              have HX := Lib.hid (And.intro c1 c2)
                              clear c1 c2
                              by_cases c3 : D0 = B0
                              · have f3 : (D0 == B0) = true := by simpa using c3
                                by_cases c4 : D1 = B1
                                · have f4 : (D1 == B1) = true := by simpa using c4
                                  have HX2 := Lib.hid (And.intro c3 c4)
                                  clear c3 c4
                                  go_wp2
                                  go_quiet (fail)
                                  go_wp2
                                  go_roundw
                                  case rel => exact ⟨k + 1, _, false, rfl, by go_num, hlt, HF.out _ (by rw [HX.out.1, HX.out.2, HX2.out.1, HX2.out.2]; simp), by repeat (first | exact HS9.out | refine SpOwn.drewN ?_ _), by repeat (first | exact HB9.out | refine bD ?_ _)⟩
                                  case measure => simp [intOf]; omega
                                · have f4 : (D1 == B1) = false := by simpa using c4
                                  have HX2 := Lib.hid c4
                                  clear c3 c4
                                  go_wp2
                                  go_quiet (fail)
                                  go_wp2
                                  go_roundw
                                  case rel => exact ⟨k + 1, _, true, rfl, by go_num, hlt, HF.out _ (by have := HX2.out; simp [this]), by repeat (first | exact HS9.out | refine SpOwn.drewN ?_ _), by repeat (first | exact HB9.out | refine bD ?_ _)⟩
                                  case measure => simp [intOf]; omega
                              · have f3 : (D0 == B0) = false := by simpa using c3
                                have HX2 := Lib.hid c3
                                clear c3
                                go_wp2
                                go_quiet (fail)
                                go_wp2
                                go_roundw
                                case rel => exact ⟨k + 1, _, true, rfl, by go_num, hlt, HF.out _ (by have := HX2.out; simp [this]), by repeat (first | exact HS9.out | refine SpOwn.drewN ?_ _), by repeat (first | exact HB9.out | refine bD ?_ _)⟩
                                case measure => simp [intOf]; omega
                            · have f2 : (C1 == A1) = false := by simpa using c2
                              have HX := Lib.hid c2
                              clear c1 c2
                              go_wp2
                              go_quiet (fail)
                              go_wp2
                              go_roundw
                              case rel => exact ⟨k + 1, _, true, rfl, by go_num, hlt, HF.out _ (by have := HX.out; simp [this]), by repeat (first | exact HS9.out | refine SpOwn.drewN ?_ _), by repeat (first | exact HB9.out | refine bD ?_ _)⟩
                              case measure => simp [intOf]; omega
                          · have f1 : (C0 == A0) = false := by simpa using c1
                            have HX := Lib.hid c1
                            clear c1
                            go_wp2
                            go_quiet (fail)
                            go_wp2
                            go_roundw
                            case rel => exact ⟨k + 1, _, true, rfl, by go_num, hlt, HF.out _ (by have := HX.out; simp [this]), by repeat (first | exact HS9.out | refine SpOwn.drewN ?_ _), by repeat (first | exact HB9.out | refine bD ?_ _)⟩
                            case measure => simp [intOf]; omega
                    · obtain ⟨e1, e2⟩ := st5_end (n := n) H5.out (by omega) hlen.2 HB0.out HV.out
                      have E1 := Lib.hid e1; have E2 := Lib.hid e2
                      clear e1 e2
                      go_wp2
                      go_roundw
                      case rel => exact ⟨b', L', rfl, E1.out, HSy.out, HBy.out⟩
                      case measure =>
                        rw [HSy.out.read, HS.out.read]
                        have := E2.out
                        cases b' <;> simpa [b2n] using this

theorem spans_any (T : Town) (n : Nat) (p q : Option Addr) (c d : Nat) (w : World) (hok : T.ok = true) (hn : T.W = n) (ht : TownIn w w.heap.size T p q) :
    Calls Try.prog 54 #[.agg #[.int .i64 T.W, .slice p T.s.length c, .slice q T.r.length d]] w (SpansPost T n w) := by
  refine (spans_fin T n p q c d w (fin_of hok) hn ht).mono ?_
  rintro e w' ⟨hb, ⟨hN, rfl⟩ | ⟨L, hE, t1, t2, rfl, hs⟩⟩
  · refine ⟨hb, .inl ⟨?_, rfl⟩⟩
    cases hk : kn T with
    | none => rfl
    | some M => have := low_truth hok hk hn; rw [hN] at this; cases this
  · obtain ⟨M, hM, hl⟩ := spans_kn hok (by rw [hs.len]; exact hn) hE t1 t2
    rw [hs.len] at hl
    exact ⟨hb, .inr ⟨M, hM, rfl, by rw [hl]; exact hs⟩⟩
end Go.Proofs.Ytmfbfcknnjbabaa
