/- The specification's spans as plain mathematics: cut by each word until nothing changes, they are the levels of all truths. The contract of cut. -/
import Derived.Test.YtmfbfcknnjbabaaK3
import Derived.Test.YtmfbfcknnjbabaaX1
import Derived.OwnWalk
import Derived.Deep.RegionHeld3
set_option linter.unusedSimpArgs false
set_option linter.unusedVariables false
namespace Go.Proofs.Ytmfbfcknnjbabaa
open Go.RowKit

/-- a town whose words are in order, but for how many there are -/
def Town.fin (T : Town) : Bool := within T.W 0 6 && (decide (T.s.length ≤ 9) && (decide (T.r.length ≤ 9) && (T.s.all (sOk T.W) && T.r.all (rOk T.W))))
theorem fin_of {T : Town} (h : T.ok = true) : T.fin = true := by
  simp only [Town.ok, Town.fin, Bool.and_eq_true, decide_eq_true_eq] at h ⊢
  exact ⟨h.1, by omega, by omega, h.2.2.2⟩
theorem fin_W {T : Town} (h : T.fin = true) : 0 ≤ T.W ∧ T.W ≤ 6 := by
  simp only [Town.fin, Bool.and_eq_true] at h
  have := h.1
  simp [within] at this; omega
theorem fin_len {T : Town} (h : T.fin = true) : T.s.length ≤ 9 ∧ T.r.length ≤ 9 := by
  simp only [Town.fin, Bool.and_eq_true, decide_eq_true_eq] at h
  exact ⟨h.2.1, h.2.2.1⟩
theorem fin_sOk {T : Town} (h : T.fin = true) {y : Snd} (hy : y ∈ T.s) : 0 ≤ y.well ∧ y.well < T.W ∧ 0 ≤ y.low ∧ y.low ≤ y.high ∧ y.high ≤ 99 := by
  simp only [Town.fin, Bool.and_eq_true, List.all_eq_true] at h
  have := h.2.2.2.1 y hy
  simp only [sOk, within, Bool.and_eq_true, decide_eq_true_eq] at this
  omega
theorem fin_rOk {T : Town} (h : T.fin = true) {y : Slp} (hy : y ∈ T.r) : 0 ≤ y.a ∧ y.a < T.W ∧ 0 ≤ y.b ∧ y.b < T.W ∧ y.a ≠ y.b ∧ -99 ≤ y.low ∧ y.low ≤ y.high ∧ y.high ≤ 99 := by
  simp only [Town.fin, Bool.and_eq_true, List.all_eq_true] at h
  have := h.2.2.2.2 y hy
  simp only [rOk, within, Bool.and_eq_true, decide_eq_true_eq, Bool.not_eq_true', beq_eq_false_iff_ne] at this
  omega
def cutP (a b : Int × Int) : Int × Int := (max a.1 b.1, min a.2 b.2)
def sp (L : List (Int × Int)) (i : Nat) : Int × Int := L[i]?.getD (0, 0)
theorem sp_set (L : List (Int × Int)) (i j : Nat) (x : Int × Int) (hi : i < L.length) : sp (L.set i x) j = if i = j then x else sp L j := by
  unfold sp
  rw [List.getElem?_set]
  by_cases h : i = j
  · subst h; simp [hi]
  · simp [h]
theorem sp_at (L : List (Int × Int)) (i : Nat) (hi : i < L.length) : sp L i = L[i] := by simp [sp, hi]
theorem sp_cons (x : Int × Int) (L : List (Int × Int)) (i : Nat) : sp (x :: L) (i + 1) = sp L i := by simp [sp]
theorem sp_zero (x : Int × Int) (L : List (Int × Int)) : sp (x :: L) 0 = x := by simp [sp]
def sndP (L : List (Int × Int)) (y : Snd) : Int × Int := cutP (sp L y.well.toNat) (y.low, y.high)
def slpA (L : List (Int × Int)) (y : Slp) : Int × Int := cutP (sp L y.a.toNat) ((sp L y.b.toNat).1 - y.high, (sp L y.b.toNat).2 - y.low)
def slpB (L : List (Int × Int)) (y : Slp) : Int × Int := cutP (sp L y.b.toNat) ((sp L y.a.toNat).1 + y.low, (sp L y.a.toNat).2 + y.high)
def slpL (L : List (Int × Int)) (y : Slp) : List (Int × Int) := (L.set y.b.toNat (slpB L y)).set y.a.toNat (slpA L y)
theorem slpL_len (L : List (Int × Int)) (y : Slp) : (slpL L y).length = L.length := by simp [slpL]
theorem slpL_at (L : List (Int × Int)) (y : Slp) (ha : y.a.toNat < L.length) (hb : y.b.toNat < L.length) (j : Nat) : sp (slpL L y) j = if y.a.toNat = j then slpA L y else if y.b.toNat = j then slpB L y else sp L j := by
  rw [slpL, sp_set _ _ _ _ (by simpa using ha), sp_set _ _ _ _ hb]

/-- all truths lie in the spans -/
def Enc (T : Town) (L : List (Int × Int)) : Prop := ∀ xs, truth T xs = true → ∀ i, i < L.length → (sp L i).1 ≤ at0 xs i ∧ at0 xs i ≤ (sp L i).2
theorem truth_x {T : Town} {xs : List Int} (h : truth T xs = true) {i : Nat} (hi : (i : Int) < T.W) : 0 ≤ at0 xs i ∧ at0 xs i ≤ 99 := by
  simp only [truth, Bool.and_eq_true, decide_eq_true_eq] at h
  have hl : i < xs.length := by omega
  have := List.all_eq_true.1 h.2.1 _ (List.getElem_mem hl)
  simp only [okX, within, decide_eq_true_eq] at this
  simpa [at0, hl] using this
theorem truth_s {T : Town} {xs : List Int} (h : truth T xs = true) {y : Snd} (hy : y ∈ T.s) : y.low ≤ at0 xs y.well ∧ at0 xs y.well ≤ y.high := by
  simp only [truth, Bool.and_eq_true, decide_eq_true_eq] at h
  have := List.all_eq_true.1 h.2.2.1 _ hy
  simpa only [okS, within, decide_eq_true_eq] using this
theorem truth_r {T : Town} {xs : List Int} (h : truth T xs = true) {y : Slp} (hy : y ∈ T.r) : y.low ≤ at0 xs y.b - at0 xs y.a ∧ at0 xs y.b - at0 xs y.a ≤ y.high := by
  simp only [truth, Bool.and_eq_true, decide_eq_true_eq] at h
  have := List.all_eq_true.1 h.2.2.2 _ hy
  simpa only [okR, within, decide_eq_true_eq] using this
theorem at0_nat (xs : List Int) (i : Int) (h : 0 ≤ i) : at0 xs ((i.toNat : Nat) : Int) = at0 xs i := by rw [Int.toNat_of_nonneg h]
theorem enc_start {T : Town} {n : Nat} (hn : T.W = n) : Enc T (List.replicate n (0, 99)) := fun xs h i hi => by
  have hi' : i < n := by simpa using hi
  have := truth_x h (i := i) (by omega)
  simpa [sp, hi'] using this
theorem enc_snd {T : Town} {L : List (Int × Int)} (hok : T.fin = true) (hn : T.W = L.length) (h : Enc T L) {y : Snd} (hy : y ∈ T.s) : Enc T (L.set y.well.toNat (sndP L y)) := fun xs hx i hi => by
  have o := fin_sOk hok hy
  have hi' : i < L.length := by simpa using hi
  have e := h xs hx i hi'
  have a := truth_s hx hy
  rw [sp_set _ _ _ _ (by omega)]
  by_cases c : y.well.toNat = i
  · rw [if_pos c]
    rw [← at0_nat xs y.well o.1, c] at a
    simp only [sndP, cutP, c]
    omega
  · rw [if_neg c]; exact e
theorem enc_slp {T : Town} {L : List (Int × Int)} (hok : T.fin = true) (hn : T.W = L.length) (h : Enc T L) {y : Slp} (hy : y ∈ T.r) : Enc T (slpL L y) := fun xs hx i hi => by
  have o := fin_rOk hok hy
  rw [slpL_len] at hi
  have e := h xs hx i hi
  have ea := h xs hx y.a.toNat (by omega)
  have eb := h xs hx y.b.toNat (by omega)
  have a := truth_r hx hy
  rw [← at0_nat xs y.a o.1, ← at0_nat xs y.b o.2.2.1] at a
  rw [slpL_at _ _ (by omega) (by omega)]
  by_cases c : y.a.toNat = i
  · rw [if_pos c]
    rw [c] at a ea
    simp only [slpA, cutP, c]
    omega
  · rw [if_neg c]
    by_cases c' : y.b.toNat = i
    · rw [if_pos c']
      rw [c'] at a eb
      simp only [slpB, cutP, c']
      omega
    · rw [if_neg c']; exact e

/-- as narrow, or narrower -/
def Shr (L0 L : List (Int × Int)) : Prop := L.length = L0.length ∧ ∀ i, (sp L0 i).1 ≤ (sp L i).1 ∧ (sp L i).2 ≤ (sp L0 i).2
theorem Shr.refl (L : List (Int × Int)) : Shr L L := ⟨rfl, fun _ => ⟨Int.le_refl _, Int.le_refl _⟩⟩
theorem Shr.trans {A B C : List (Int × Int)} (h : Shr A B) (k : Shr B C) : Shr A C := ⟨k.1.trans h.1, fun i => ⟨Int.le_trans (h.2 i).1 (k.2 i).1, Int.le_trans (k.2 i).2 (h.2 i).2⟩⟩
theorem shr_snd (L : List (Int × Int)) (y : Snd) (h : y.well.toNat < L.length) : Shr L (L.set y.well.toNat (sndP L y)) := ⟨by simp, fun i => by
  rw [sp_set _ _ _ _ h]
  by_cases c : y.well.toNat = i
  · rw [if_pos c]; simp only [sndP, cutP, c]; omega
  · rw [if_neg c]; omega⟩
theorem shr_slp (L : List (Int × Int)) (y : Slp) (ha : y.a.toNat < L.length) (hb : y.b.toNat < L.length) : Shr L (slpL L y) := ⟨slpL_len _ _, fun i => by
  rw [slpL_at _ _ ha hb]
  by_cases c : y.a.toNat = i
  · rw [if_pos c]; simp only [slpA, cutP, c]; omega
  · rw [if_neg c]
    by_cases c' : y.b.toNat = i
    · rw [if_pos c']; simp only [slpB, cutP, c']; omega
    · rw [if_neg c']; omega⟩
def msr (L : List (Int × Int)) : Nat := (L.map fun x => (x.2 - x.1 + 10000).toNat).sum
theorem msr_le : ∀ (L0 L : List (Int × Int)), L.length = L0.length → (∀ i, i < L.length → (sp L0 i).1 ≤ (sp L i).1 ∧ (sp L i).2 ≤ (sp L0 i).2 ∧ -3000 ≤ (sp L i).2 ∧ (sp L i).1 ≤ 3000) → msr L ≤ msr L0 ∧ (L ≠ L0 → msr L < msr L0)
  | [], [], _, _ => ⟨Nat.le_refl _, fun h => absurd rfl h⟩
  | x0 :: L0, x :: L, hl, h => by
    obtain ⟨a, b⟩ := msr_le L0 L (by simpa using hl) fun i hi => by
      have := h (i + 1) (by simpa using hi)
      simpa only [sp_cons] using this
    have c := h 0 (by simp)
    simp only [sp_zero] at c
    simp only [msr, List.map_cons, List.sum_cons] at a b ⊢
    refine ⟨by omega, fun hne => ?_⟩
    by_cases e : x = x0
    · have := b (fun e' => hne (by rw [e, e']))
      omega
    · have : x.1 ≠ x0.1 ∨ x.2 ≠ x0.2 := by
        by_cases e1 : x.1 = x0.1
        · exact .inr fun e2 => e (Prod.ext e1 e2)
        · exact .inl e1
      omega
/-- between what the spans' ends are ahead of a pass' k-th slope -/
def Bnd (k : Nat) (L : List (Int × Int)) : Prop := ∀ i, i < L.length → 0 ≤ (sp L i).1 ∧ (sp L i).1 ≤ 99 * (k + 1) ∧ -99 * (k + 1) ≤ (sp L i).2 ∧ (sp L i).2 ≤ 99
theorem bnd_start (n : Nat) : Bnd 0 (List.replicate n (0, 99)) := fun i hi => by
  have hi' : i < n := by simpa using hi
  simp [sp, hi']
theorem bnd_snd {k : Nat} {L : List (Int × Int)} {y : Snd} (h : Bnd k L) (hw : y.well.toNat < L.length) (h0 : 0 ≤ y.low) (h1 : y.low ≤ y.high) (h2 : y.high ≤ 99) : Bnd k (L.set y.well.toNat (sndP L y)) := fun i hi => by
  have hi' : i < L.length := by simpa using hi
  have a := h i hi'
  rw [sp_set _ _ _ _ hw]
  by_cases c : y.well.toNat = i
  · rw [if_pos c]; simp only [sndP, cutP, c]; omega
  · rw [if_neg c]; exact a
theorem bnd_slp {k : Nat} {L : List (Int × Int)} {y : Slp} (h : Bnd k L) (ha : y.a.toNat < L.length) (hb : y.b.toNat < L.length) (h0 : -99 ≤ y.low) (h1 : y.low ≤ y.high) (h2 : y.high ≤ 99) : Bnd (k + 1) (slpL L y) := fun i hi => by
  rw [slpL_len] at hi
  have a := h i hi
  have a1 := h _ ha
  have a2 := h _ hb
  rw [slpL_at _ _ ha hb]
  by_cases c : y.a.toNat = i
  · rw [if_pos c]; simp only [slpA, cutP, c]; omega
  · rw [if_neg c]
    by_cases c' : y.b.toNat = i
    · rw [if_pos c']; simp only [slpB, cutP, c']; omega
    · rw [if_neg c']; omega
theorem bnd_up {k m : Nat} {L : List (Int × Int)} (h : Bnd k L) (hk : k ≤ m) : Bnd m L := fun i hi => by
  have := h i hi; omega
theorem bnd_valid {k : Nat} {L : List (Int × Int)} (h : Bnd k L) (hv : ∀ i, i < L.length → (sp L i).1 ≤ (sp L i).2) : Bnd 0 L := fun i hi => by
  have := h i hi
  have := hv i hi
  omega
theorem msr_pass {k : Nat} {L0 L : List (Int × Int)} (hs : Shr L0 L) (hb : Bnd k L) (hk : k ≤ 20) : msr L ≤ msr L0 ∧ (L ≠ L0 → msr L < msr L0) :=
  msr_le L0 L hs.1 fun i hi => by
    have a := hb i hi
    have b := hs.2 i
    omega
/-- the soundings are kept -/
def Kps (l : List Snd) (L : List (Int × Int)) : Prop := ∀ y ∈ l, y.low ≤ (sp L y.well.toNat).1 ∧ (sp L y.well.toNat).2 ≤ y.high
theorem kps_shr {l : List Snd} {A B : List (Int × Int)} (h : Kps l A) (s : Shr A B) : Kps l B := fun y hy => by
  have a := h y hy
  have b := s.2 y.well.toNat
  omega
theorem kps_snd {l : List Snd} {k : Nat} {L : List (Int × Int)} (hk : k < l.length) (hw : l[k].well.toNat < L.length) (h : Kps (l.take k) L) : Kps (l.take (k + 1)) (L.set l[k].well.toNat (sndP L l[k])) := fun y hy => by
  rw [List.take_succ_eq_append_getElem hk, List.mem_append, List.mem_singleton] at hy
  rcases hy with hy | rfl
  · exact kps_shr h (shr_snd L l[k] hw) y hy
  · rw [sp_set _ _ _ _ hw, if_pos rfl]
    simp only [sndP, cutP]
    omega
theorem fix_of {L : List (Int × Int)} {y : Slp} (ha : y.a.toNat < L.length) (hb : y.b.toNat < L.length) (h1 : slpA L y = sp L y.a.toNat) (h2 : slpB L y = sp L y.b.toNat) : slpL L y = L := by
  refine List.ext_getElem (by rw [slpL_len]) fun i h h' => ?_
  rw [← sp_at _ _ h, ← sp_at _ _ h', slpL_at _ _ ha hb]
  by_cases c : y.a.toNat = i
  · rw [if_pos c, h1, c]
  · rw [if_neg c]
    by_cases c' : y.b.toNat = i
    · rw [if_pos c', h2, c']
    · rw [if_neg c']
theorem nfix_of {L : List (Int × Int)} {y : Slp} (hne : y.a.toNat ≠ y.b.toNat) (ha : y.a.toNat < L.length) (hb : y.b.toNat < L.length) (h : slpA L y ≠ sp L y.a.toNat ∨ slpB L y ≠ sp L y.b.toNat) : slpL L y ≠ L := fun e => by
  rcases h with h | h
  · exact h (by rw [← slpL_at L y ha hb y.a.toNat |>.trans (if_pos rfl), e])
  · exact h (by rw [← (slpL_at L y ha hb y.b.toNat).trans ((if_neg hne).trans (if_pos rfl)), e])

theorem firsts_at (L : List (Int × Int)) (f : Int × Int → Int) (i : Nat) (hi : i < L.length) : at0 (L.map f) i = f (sp L i) := by simp [at0, sp, hi]
theorem lv_at {M : List Int} {n i : Nat} (hi : i < n) : sp (lv M n) i = dif M 0 (i + 1) := by simp [sp, lv, hi]
/-- spans which no word cuts any more: their ends are truths -/
theorem spans_truth {T : Town} {L : List (Int × Int)} (hok : T.fin = true) (hn : T.W = L.length) (hK : Kps T.s L) (hF : ∀ y ∈ T.r, slpL L y = L) (hB : Bnd 0 L) (hv : ∀ i, i < L.length → (sp L i).1 ≤ (sp L i).2) :
    truth T (L.map fun x => x.1) = true ∧ truth T (L.map fun x => x.2) = true := by
  have hW := fin_W hok
  have hr : ∀ y ∈ T.r, (sp L y.b.toNat).1 - y.high ≤ (sp L y.a.toNat).1 ∧ (sp L y.a.toNat).2 ≤ (sp L y.b.toNat).2 - y.low ∧ (sp L y.a.toNat).1 + y.low ≤ (sp L y.b.toNat).1 ∧ (sp L y.b.toNat).2 ≤ (sp L y.a.toNat).2 + y.high := fun y hy => by
    have o := fin_rOk hok hy
    have ha : y.a.toNat < L.length := by omega
    have hb : y.b.toNat < L.length := by omega
    have e1 := slpL_at L y ha hb y.a.toNat
    have e2 := slpL_at L y ha hb y.b.toNat
    rw [hF y hy, if_pos rfl] at e1
    rw [hF y hy, if_neg (by omega), if_pos rfl] at e2
    have f1 := congrArg Prod.fst e1; have f2 := congrArg Prod.snd e1
    have f3 := congrArg Prod.fst e2; have f4 := congrArg Prod.snd e2
    simp only [slpA, slpB, cutP] at f1 f2 f3 f4
    omega
  have htruth : ∀ f : Int × Int → Int, (∀ x : Int × Int, x.1 ≤ x.2 → x.1 ≤ f x ∧ f x ≤ x.2) → (∀ y ∈ T.r, y.low ≤ f (sp L y.b.toNat) - f (sp L y.a.toNat) ∧ f (sp L y.b.toNat) - f (sp L y.a.toNat) ≤ y.high) → truth T (L.map f) = true := fun f hf hr' => by
    simp only [truth, Bool.and_eq_true, decide_eq_true_eq, List.all_eq_true]
    refine ⟨by simpa using hn.symm, fun x hx => ?_, fun y hy => ?_, fun y hy => ?_⟩
    · obtain ⟨z, hz, rfl⟩ := List.mem_map.1 hx
      obtain ⟨i, hi, rfl⟩ := List.getElem_of_mem hz
      have a := hB i hi; have b := hv i hi
      rw [sp_at _ _ hi] at a b
      have := hf _ b
      simp only [okX, within, decide_eq_true_eq]
      omega
    · have o := fin_sOk hok hy
      have hi : y.well.toNat < L.length := by omega
      have a := hK y hy
      have := hf _ (hv _ hi)
      simp only [okS, within, decide_eq_true_eq]
      rw [← at0_nat _ _ o.1, firsts_at _ _ _ hi]
      omega
    · have o := fin_rOk hok hy
      simp only [okR, within, decide_eq_true_eq]
      rw [← at0_nat _ _ o.1, ← at0_nat _ _ o.2.2.1, firsts_at _ _ _ (by omega), firsts_at _ _ _ (by omega)]
      exact hr' y hy
  exact ⟨htruth (fun x => x.1) (fun x h => ⟨Int.le_refl _, h⟩) fun y hy => (by have := hr y hy; omega), htruth (fun x => x.2) (fun x h => ⟨h, Int.le_refl _⟩) fun y hy => (by have := hr y hy; omega)⟩
/-- spans that hold all truths, and whose ends are truths, are what is known of all levels -/
theorem spans_kn {T : Town} {L : List (Int × Int)} (hok : T.ok = true) (hn : T.W = L.length) (hE : Enc T L) (t1 : truth T (L.map fun x => x.1) = true) (t2 : truth T (L.map fun x => x.2) = true) : ∃ M, kn T = some M ∧ lv M L.length = L := by
  have hW := ok_W hok
  cases hk : kn T with
  | none => rw [truth_none hok hk] at t1; cases t1
  | some M =>
    refine ⟨M, rfl, List.ext_getElem (lv_len _ _) fun i h h' => ?_⟩
    have hM := kn_clo hok hk
    rw [← sp_at _ _ h, ← sp_at _ _ h', lv_at h', dif_eq hM (by omega) (by omega)]
    have a1 := hE _ (low_truth hok hk hn) i h'
    have a2 := hE _ (high_truth hok hk hn) i h'
    rw [firsts_at _ _ _ (by rw [lv_len]; exact h'), lv_at h', dif_eq hM (by omega) (by omega)] at a1 a2
    have b1 := ((truth_fits hok hk).1 t1).2 (i + 1) 0 (by omega) (by omega)
    have b2 := ((truth_fits hok hk).1 t2).2 0 (i + 1) (by omega) (by omega)
    rw [lev_zero, lev_succ, firsts_at _ _ _ h'] at b1 b2
    refine Prod.ext ?_ ?_
    · show -D M (i + 1) 0 = (sp L i).1
      simp only at a1 b1
      omega
    · show D M 0 (i + 1) = (sp L i).2
      simp only at a2 b2
      omega
theorem spans_no {T : Town} {L : List (Int × Int)} (hn : T.W = L.length) (hE : Enc T L) {i : Nat} (hi : i < L.length) (h : (sp L i).2 < (sp L i).1) (xs : List Int) : truth T xs = false := by
  cases hx : truth T xs with
  | false => rfl
  | true => have := hE _ hx i hi; omega
end Go.Proofs.Ytmfbfcknnjbabaa

namespace Go.Proofs.Ytmfbfcknnjbabaa
open Go.RowKit

set_option maxRecDepth 100000 in
set_option maxHeartbeats 2000000 in
theorem cut_any (a b c d : Int) (w : World) :
    Calls Try.prog 86 #[.agg #[.int .i64 a, .int .i64 b], .agg #[.int .i64 c, .int .i64 d]] w fun e w' => e = .returned (.agg #[.int .i64 (cutP (a, b) (c, d)).1, .int .i64 (cutP (a, b) (c, d)).2]) ∧ Below w.heap.size w w' := by
  go_enter Try.func86, Try.ntmps86
  go_wp2
  all_goals
    refine bodyPost_ret (v := .agg #[.int .i64 (max a c), .int .i64 (min b d)]) (by simp [results, Try.results86, go_sem] <;> omega) rfl ⟨rfl, ?_⟩
    repeat (first | exact Below.refl _ _ | refine bS ?_ (by simp) _ | refine bA ?_ _)

/-- a slice of n spans in block g, whose spans are L -/
structure SpOwn (w : World) (g n : Nat) (L : List (Int × Int)) : Prop where
  own : w.ownsRow g 38 2 (.slice (some ⟨g, 0, none⟩) n n) n (flat2 L)
  len : L.length = n
theorem flat2_sp (L : List (Int × Int)) (k : Nat) (h : k < L.length) : (flat2 L)[k * 2]? = some (.int .i64 (sp L k).1) ∧ (flat2 L)[k * 2 + 1]? = some (.int .i64 (sp L k).2) := by
  rw [sp_at _ _ h]; exact flat2_at L k h
theorem flat2_set : ∀ (L : List (Int × Int)) (k : Nat) (x : Int × Int), k < L.length → ((flat2 L).set (k * 2) (.int .i64 x.1)).set (k * 2 + 1) (.int .i64 x.2) = flat2 (L.set k x)
  | y :: L, 0, x, _ => by simp [flat2]
  | y :: L, k + 1, x, h => by
    have ih := flat2_set L k x (by simpa using h)
    have e : ∀ (z : Int × Int) (K : List (Int × Int)), flat2 (z :: K) = .int .i64 z.1 :: .int .i64 z.2 :: flat2 K := fun z K => by simp [flat2]
    rw [e, List.set_cons_succ, e, show (k + 1) * 2 = k * 2 + 1 + 1 by omega]
    simp only [List.set_cons_succ]
    rw [ih]
theorem flat2_set1 (L : List (Int × Int)) (k : Nat) (y : Int) (h : k < L.length) : (flat2 L).set (k * 2 + 1) (.int .i64 y) = flat2 (L.set k ((sp L k).1, y)) := by
  rw [← flat2_set L k ((sp L k).1, y) h]
  congr 1
  have a := (flat2_sp L k h).1
  refine (List.ext_getElem? fun j => ?_)
  rw [List.getElem?_set]
  by_cases c : k * 2 = j
  · subst c
    rw [if_pos rfl, a, if_pos (by rw [flat2_len]; omega)]
  · rw [if_neg c]
theorem SpOwn.c0 {w : World} {g n : Nat} {L : List (Int × Int)} (h : SpOwn w g n L) (k : Nat) (hk : k < n) : w.cell? ⟨g, k * 2, none⟩ = some (.int .i64 (sp L k).1) := by
  rw [h.own.cellAt _ (by omega)]; exact (flat2_sp L k (by rw [h.len]; exact hk)).1
theorem SpOwn.c1 {w : World} {g n : Nat} {L : List (Int × Int)} (h : SpOwn w g n L) (k : Nat) (hk : k < n) : w.cell? ⟨g, k * 2 + 1, none⟩ = some (.int .i64 (sp L k).2) := by
  rw [h.own.cellAt _ (by omega)]; exact (flat2_sp L k (by rw [h.len]; exact hk)).2
theorem SpOwn.fz {w : World} {g n : Nat} {L : List (Int × Int)} (h : SpOwn w g n L) (i : Nat) : w.frozen? ⟨g, i, none⟩ = false := h.own.frozenAt i
theorem SpOwn.lt {w : World} {g n : Nat} {L : List (Int × Int)} (h : SpOwn w g n L) : g < w.heap.size := (h.own.lt g rfl).2
theorem SpOwn.below {w w' : World} {g n : Nat} {L : List (Int × Int)} (h : SpOwn w g n L) (hb : Below w.heap.size w w') : SpOwn w' g n L := ⟨own_below h.own hb, h.len⟩
theorem SpOwn.set {w : World} {g n : Nat} {L : List (Int × Int)} (h : SpOwn w g n L) (k : Nat) (hk : k < n) (x : Int × Int) : SpOwn ((w.setCell ⟨g, k * 2, none⟩ (.int .i64 x.1)).setCell ⟨g, k * 2 + 1, none⟩ (.int .i64 x.2)) g n (L.set k x) :=
  ⟨by rw [← flat2_set L k x (by rw [h.len]; exact hk)]; exact (((h.own.stored _ _).1).stored _ _).1, by simpa using h.len⟩
theorem SpOwn.set1 {w : World} {g n : Nat} {L : List (Int × Int)} (h : SpOwn w g n L) (k : Nat) (hk : k < n) (y : Int) : SpOwn (w.setCell ⟨g, k * 2 + 1, none⟩ (.int .i64 y)) g n (L.set k ((sp L k).1, y)) :=
  ⟨by rw [← flat2_set1 L k y (by rw [h.len]; exact hk)]; exact (h.own.stored _ _).1, by simpa using h.len⟩
theorem SpOwn.upd {w : World} {g n : Nat} {L : List (Int × Int)} (h : SpOwn w g n L) (k : Nat) (hk : k < n) (x y : Int) :
    ∃ w', (w.setCell ⟨g, k * 2, none⟩ (.int .i64 x)).setCell ⟨g, k * 2 + 1, none⟩ (.int .i64 y) = w' ∧ SpOwn w' g n (L.set k (x, y)) ∧ w'.heap.size = w.heap.size ∧
      (∀ b o, b ≠ g → w'.cell? ⟨b, o, none⟩ = w.cell? ⟨b, o, none⟩) ∧ (∀ W : World, W.heap.size ≤ g → Below W.heap.size W w → Below W.heap.size W w') :=
  ⟨_, rfl, h.set k hk (x, y), by simp [World.setCell], fun b o hb => by
    rw [World.cell?_setCell_far _ _ _ _ (Ne.symm hb), World.cell?_setCell_far _ _ _ _ (Ne.symm hb)], fun W hg hb => bS (bS hb hg _) hg _⟩
theorem SpOwn.other {w : World} {g n b o : Nat} {u : Value} {L : List (Int × Int)} (h : SpOwn w g n L) (hb : b ≠ g) : SpOwn (w.setCell ⟨b, o, none⟩ u) g n L :=
  ⟨h.own.kept (row := some b) ⟨rfl, rfl, rfl, by simp [World.setCell], fun i hi hne => Below.heap_setCell w _ u i (by simpa [eq_comm] using hne)⟩ (.inr (by show some g ≠ some b; simpa using Ne.symm hb)), h.len⟩
theorem SpOwn.alloc {w : World} {g n : Nat} {L : List (Int × Int)} (h : SpOwn w g n L) (o : Obj) : SpOwn (w.alloc o) g n L := h.below (bA (Below.refl _ _) o)
theorem SpOwn.drewN {w : World} {g n : Nat} {L : List (Int × Int)} (h : SpOwn w g n L) (k : Nat) : SpOwn (w.drewN k) g n L := h.below (bD (Below.refl _ _) k)
theorem SpOwn.drew {w : World} {g n : Nat} {L : List (Int × Int)} (h : SpOwn w g n L) : SpOwn w.drew g n L := h.below (bd (Below.refl _ _))
theorem flat2_zero (n : Nat) : (madeCells #[.int .i64 0, .int .i64 0] (n * 2)).toList = flat2 (List.replicate n (0, 0)) := by
  have a : (madeCells #[.int .i64 0, .int .i64 0] (n * 2)).toList = List.replicate (n * 2) (.int .i64 0) := by
    refine List.ext_getElem (by simp [madeCells]) fun j h1 h2 => ?_
    rcases Nat.mod_two_eq_zero_or_one j with e | e <;> simp [madeCells, e]
  rw [a]
  clear a
  induction n with
  | zero => rfl
  | succ n ih =>
    rw [show (n + 1) * 2 = n * 2 + 1 + 1 by omega, List.replicate_succ, List.replicate_succ, ih, List.replicate_succ]
    simp [flat2]
theorem box3 (w : World) (x y z : Value) (t : TypeId) : ∃ w4, w.alloc (Obj.cells #[x, y, z] t) = w4 ∧ Below w.heap.size w w4 ∧ w4.heap.size = w.heap.size + 1 ∧
    w4.cell? ⟨w.heap.size, 0, none⟩ = some x ∧ w4.cell? ⟨w.heap.size, 1, none⟩ = some y ∧ w4.cell? ⟨w.heap.size, 2, none⟩ = some z :=
  ⟨_, rfl, bA (Below.refl _ _) _, by simp, by go_simp, by go_simp, by go_simp⟩
theorem box4 (w : World) (x y z u : Value) (t : TypeId) : ∃ w4, w.alloc (Obj.cells #[x, y, z, u] t) = w4 ∧ Below w.heap.size w w4 ∧ w4.heap.size = w.heap.size + 1 ∧
    w4.cell? ⟨w.heap.size, 0, none⟩ = some x ∧ w4.cell? ⟨w.heap.size, 1, none⟩ = some y ∧ w4.cell? ⟨w.heap.size, 2, none⟩ = some z ∧ w4.cell? ⟨w.heap.size, 3, none⟩ = some u :=
  ⟨_, rfl, bA (Below.refl _ _) _, by simp, by go_simp, by go_simp, by go_simp, by go_simp⟩
def intAt (w : World) (a : Addr) : Int := match w.cell? a with | some (.int _ x) => x | _ => 0
def readL (w : World) (g n : Nat) : List (Int × Int) := (List.range n).map fun k => (intAt w ⟨g, k * 2, none⟩, intAt w ⟨g, k * 2 + 1, none⟩)
theorem SpOwn.read {w : World} {g n : Nat} {L : List (Int × Int)} (h : SpOwn w g n L) : readL w g n = L := by
  refine List.ext_getElem (by simp [readL, h.len]) fun k h1 h2 => ?_
  have hk : k < n := by simpa [readL] using h1
  simp only [readL, List.getElem_map, List.getElem_range, intAt, h.c0 k hk, h.c1 k hk, sp_at L k h2]
end Go.Proofs.Ytmfbfcknnjbabaa
