/- Shafts: one more ring: the maths; ready, copied, isKnown . -/
import Derived.Test.YtaaocomgmacjnabDoorC10

import Derived.Test.YtaaocomgmacjnabDoorD1

set_option linter.unusedSimpArgs false

set_option linter.unusedVariables false

namespace Go.Proofs.YtaaocomgmacjnabDoor

open Go.RowKit

theorem asc_snoc : ∀ {l : List Int} {a n y : Int}, asc a n l = true → (∀ x ∈ l, x < y) → a < y → y ≤ n → asc a n (l ++ [y]) = true
  | [], a, n, y, _, _, h1, h2 => by simp [asc, h1, h2]
  | x :: t, a, n, y, h, hx, h1, h2 => by
    simp only [asc, Bool.and_eq_true, decide_eq_true_eq] at h
    simp only [List.cons_append, asc, Bool.and_eq_true, decide_eq_true_eq]
    exact ⟨h.1, h.2.1, asc_snoc h.2.2 (fun z hz => hx z (List.mem_cons_of_mem _ hz)) (hx x List.mem_cons_self) h2⟩
theorem asc_ext : ∀ {l m : List Int} {a n : Int}, asc a n l = true → asc a n m = true → (∀ x, x ∈ l ↔ x ∈ m) → l = m
  | [], [], _, _, _, _, _ => rfl
  | [], y :: u, _, _, _, _, h => by have := (h y).2 List.mem_cons_self; cases this
  | x :: t, [], _, _, _, _, h => by have := (h x).1 List.mem_cons_self; cases this
  | x :: t, y :: u, a, n, h1, h2, h => by
    simp only [asc, Bool.and_eq_true, decide_eq_true_eq] at h1 h2
    have e : x = y := by
      rcases List.mem_cons.1 ((h x).1 List.mem_cons_self) with h3 | h3
      · exact h3
      · have a1 := asc_mem h2.2.2 h3
        rcases List.mem_cons.1 ((h y).2 List.mem_cons_self) with h4 | h4
        · exact h4.symm
        · have a2 := asc_mem h1.2.2 h4; omega
    subst e
    have : t = u := asc_ext h1.2.2 h2.2.2 fun z => by
      constructor
      · intro hz
        rcases List.mem_cons.1 ((h z).1 (List.mem_cons_of_mem _ hz)) with h3 | h3
        · have := asc_mem h1.2.2 hz; omega
        · exact h3
      · intro hz
        rcases List.mem_cons.1 ((h z).2 (List.mem_cons_of_mem _ hz)) with h3 | h3
        · have := asc_mem h2.2.2 hz; omega
        · exact h3
    rw [this]
theorem asc_len : ∀ {l : List Int} {a n : Int}, asc a n l = true → a ≤ n → (l.length : Int) ≤ n - a
  | [], _, _, _, h => by simp; omega
  | x :: t, a, n, h, _ => by
    simp only [asc, Bool.and_eq_true, decide_eq_true_eq] at h
    have := asc_len h.2.2 h.2.1
    simp only [List.length_cons]; omega
def mk (c : Int → Bool) : Nat → List Int
  | 0 => []
  | k + 1 => mk c k ++ (if c ((k + 1 : Nat) : Int) then [((k + 1 : Nat) : Int)] else [])
theorem mk_yes {c : Int → Bool} {k : Nat} (h : c ((k + 1 : Nat) : Int) = true) : mk c (k + 1) = mk c k ++ [((k + 1 : Nat) : Int)] := by rw [mk, if_pos h]
theorem mk_no {c : Int → Bool} {k : Nat} (h : c ((k + 1 : Nat) : Int) = false) : mk c (k + 1) = mk c k := by rw [mk, if_neg (by rw [h]; exact Bool.false_ne_true)]; simp
theorem mk_mem {c : Int → Bool} {x : Int} : ∀ {k : Nat}, x ∈ mk c k ↔ 1 ≤ x ∧ x ≤ (k : Int) ∧ c x = true
  | 0 => by simp [mk]; intro h1 h2; omega
  | k + 1 => by
    cases hc : c ((k + 1 : Nat) : Int) with
    | true =>
      rw [mk_yes hc, List.mem_append, mk_mem, List.mem_singleton]
      constructor
      · rintro (⟨a, b, d⟩ | rfl)
        · exact ⟨a, by omega, d⟩
        · exact ⟨by omega, by omega, hc⟩
      · rintro ⟨a, b, d⟩
        by_cases e : x = ((k + 1 : Nat) : Int)
        · exact Or.inr e
        · exact Or.inl ⟨a, by omega, d⟩
    | false =>
      rw [mk_no hc, mk_mem]
      constructor
      · rintro ⟨a, b, d⟩; exact ⟨a, by omega, d⟩
      · rintro ⟨a, b, d⟩
        refine ⟨a, ?_, d⟩
        by_cases e : x = ((k + 1 : Nat) : Int)
        · rw [e, hc] at d; cases d
        · omega
theorem mk_asc {c : Int → Bool} {n : Int} : ∀ {k : Nat}, (k : Int) ≤ n → asc 0 n (mk c k) = true
  | 0, _ => rfl
  | k + 1, h => by
    cases hc : c ((k + 1 : Nat) : Int) with
    | true => rw [mk_yes hc]; exact asc_snoc (mk_asc (by omega)) (fun x hx => by have := (mk_mem.1 hx).2.1; omega) (by omega) h
    | false => rw [mk_no hc]; exact mk_asc (by omega)
theorem mk_len {c : Int → Bool} : ∀ {k : Nat}, (mk c k).length ≤ k
  | 0 => by simp [mk]
  | k + 1 => by
    have := mk_len (c := c) (k := k)
    cases hc : c ((k + 1 : Nat) : Int) with
    | true => rw [mk_yes hc]; simp; omega
    | false => rw [mk_no hc]; omega
def rsum (S : Shaft) (L : List Int) : Int := ringsP S L L.length
theorem ringsP_app {S : Shaft} {L M : List Int} : ∀ {k : Nat}, k ≤ L.length → ringsP S (L ++ M) k = ringsP S L k
  | 0, _ => rfl
  | k + 1, h => by
    rw [ringsP, ringsP, ringsP_app (by omega), List.getElem?_append_left (by omega)]
theorem rsum_snoc {S : Shaft} {L : List Int} {y : Int} : rsum S (L ++ [y]) = rsum S L + S.ringV y := by
  unfold rsum
  rw [List.length_append, List.length_singleton, ringsP, ringsP_app (Nat.le_refl _)]
  simp
/-- the stops with one more -/
def moreC (l : List Int) (y : Int) (d : Int) : Bool := decide (d = y) || decide (d ∈ l)
def oneMore (S : Shaft) (l : List Int) (y : Int) : List Int := mk (moreC l y) S.F.length
theorem mk_sum {S : Shaft} {l : List Int} {y : Int} (hy : y ∉ l) : ∀ {k : Nat}, ((k : Int) < y → mk (moreC l y) k = mk (fun d => decide (d ∈ l)) k) ∧
    (1 ≤ y → y ≤ (k : Int) → rsum S (mk (moreC l y) k) = rsum S (mk (fun d => decide (d ∈ l)) k) + S.ringV y ∧ (mk (moreC l y) k).length = (mk (fun d => decide (d ∈ l)) k).length + 1)
  | 0 => ⟨fun _ => rfl, fun h1 h2 => by omega⟩
  | k + 1 => by
    obtain ⟨i1, i2⟩ := mk_sum (S := S) hy (k := k)
    by_cases e : ((k + 1 : Nat) : Int) = y
    · have c1 : moreC l y ((k + 1 : Nat) : Int) = true := by simp only [moreC, e]; simp
      have c2 : (fun d => decide (d ∈ l)) ((k + 1 : Nat) : Int) = false := by simp only [e]; simpa using hy
      refine ⟨fun h => by omega, fun _ _ => ?_⟩
      rw [mk_yes c1, mk_no c2, i1 (by omega), rsum_snoc, e]
      simp
    · have c0 : moreC l y ((k + 1 : Nat) : Int) = decide (((k + 1 : Nat) : Int) ∈ l) := by unfold moreC; rw [decide_eq_false e]; simp
      cases hc : decide (((k + 1 : Nat) : Int) ∈ l) with
      | true =>
        have c2 : (fun d => decide (d ∈ l)) ((k + 1 : Nat) : Int) = true := hc
        rw [mk_yes (c0.trans hc), mk_yes c2]
        refine ⟨fun h => by rw [i1 (by omega)], fun h1 h2 => ?_⟩
        obtain ⟨j1, j2⟩ := i2 h1 (by omega)
        rw [rsum_snoc, rsum_snoc, j1]
        exact ⟨Int.add_right_comm _ _ _, by simp only [List.length_append, j2, List.length_singleton]⟩
      | false =>
        have c2 : (fun d => decide (d ∈ l)) ((k + 1 : Nat) : Int) = false := hc
        rw [mk_no (c0.trans hc), mk_no c2]
        exact ⟨fun h => i1 (by omega), fun h1 h2 => i2 h1 (by omega)⟩
theorem mk_self {S : Shaft} {l : List Int} (h : S.stops l = true) : l = mk (fun d => decide (d ∈ l)) S.F.length :=
  asc_ext h (mk_asc (Int.le_refl _)) fun x => by
    rw [mk_mem]; simp only [decide_eq_true_eq]
    exact ⟨fun hx => by have := asc_mem h hx; exact ⟨by omega, this.2, hx⟩, fun hx => hx.2.2⟩
theorem more_stops {S : Shaft} {l : List Int} {y : Int} : S.stops (oneMore S l y) = true := mk_asc (Int.le_refl _)
theorem more_mem {S : Shaft} {l : List Int} {y x : Int} (h : S.stops l = true) (h1 : 1 ≤ y) (h2 : y ≤ (S.F.length : Int)) : x ∈ oneMore S l y ↔ x = y ∨ x ∈ l := by
  unfold oneMore; rw [mk_mem]; simp only [moreC, Bool.or_eq_true, decide_eq_true_eq]
  constructor
  · exact fun hx => hx.2.2
  · rintro (rfl | hx)
    · exact ⟨h1, h2, Or.inl rfl⟩
    · have := asc_mem h hx; exact ⟨by omega, this.2, Or.inr hx⟩
theorem ringAt_mono {l m : List Int} (h : ∀ x, x ∈ l → x ∈ m) : ∀ f, ringAt l f ≤ ringAt m f
  | 0 => Nat.le_refl _
  | f + 1 => by
    have i := ringAt_mono h f
    have j := ringAt_le l f
    unfold ringAt
    by_cases h1 : ((f + 1 : Nat) : Int) ∈ l
    · rw [if_pos h1, if_pos (h _ h1)]; exact Nat.le_refl _
    · rw [if_neg h1]
      by_cases h2 : ((f + 1 : Nat) : Int) ∈ m
      · rw [if_pos h2]; omega
      · rw [if_neg h2]; exact i
theorem Shaft.stands_mono {S : Shaft} {a a' b : Nat} (h : S.stands a b = true) (haa : a ≤ a') : S.stands a' b = true := by
  unfold Shaft.stands at *
  rw [List.all_eq_true] at *
  intro j hj
  rw [List.mem_range] at hj
  have := h (a' - a + j) (by rw [List.mem_range]; omega)
  simp only [Shaft.standsAt, decide_eq_true_eq] at *
  rw [show a + (a' - a + j) = a' + j by omega] at this
  omega
theorem fine_mono {S : Shaft} {l m : List Int} (h : ∀ x, x ∈ l → x ∈ m) {f : Nat} (hf : S.fine l f = true) : S.fine m f = true := S.stands_mono hf (ringAt_mono h f)
theorem Shaft.fall_spec (S : Shaft) (l : List Int) : (S.fall l = -1 ∧ ∀ j, j < S.F.length → S.fine l j = true) ∨ ∃ k : Nat, S.fall l = (k : Int) ∧ k < S.F.length ∧ S.fine l k = false ∧ ∀ j, j < k → S.fine l j = true := by
  unfold Shaft.fall
  cases e : (List.range S.F.length).find? (fun f => !S.fine l f) with
  | none =>
    left
    rw [List.find?_eq_none] at e
    exact ⟨rfl, fun j hj => by have := e j (List.mem_range.2 hj); simpa using this⟩
  | some k =>
    right
    rw [List.find?_range_eq_some] at e
    obtain ⟨h1, h2, h3⟩ := e
    exact ⟨k, rfl, List.mem_range.1 h2, by simpa using h1, fun j hj => by simpa using h3 j hj⟩
theorem fall_mono {S : Shaft} {l m : List Int} (h : ∀ x, x ∈ l → x ∈ m) : S.fall m = -1 ∨ (S.fall l ≠ -1 ∧ S.fall l ≤ S.fall m) := by
  rcases S.fall_spec m with ⟨e, _⟩ | ⟨k, e, hk, hf, _⟩
  · exact Or.inl e
  · right
    have hl : S.fine l k = false := by
      cases hh : S.fine l k with
      | false => rfl
      | true => rw [fine_mono h hh] at hf; cases hf
    rcases S.fall_spec l with ⟨e1, h1⟩ | ⟨j, e1, hj, hfj, h1⟩
    · rw [h1 k hk] at hl; cases hl
    · rw [e, e1]
      refine ⟨by omega, ?_⟩
      by_cases hh : j ≤ k
      · omega
      · rw [h1 k (by omega)] at hl; cases hl
theorem asc_last : ∀ {l : List Int} {a n x : Int}, asc a n l = true → x ∈ l → x ≤ bottomV l
  | y :: [], a, n, x, _, hx => by simp at hx; subst hx; simp [bottomV]
  | y :: z :: t, a, n, x, h, hx => by
    have h2 : asc y n (z :: t) = true := by simp only [asc, Bool.and_eq_true, decide_eq_true_eq] at h ⊢; exact h.2.2
    have e : bottomV (y :: z :: t) = bottomV (z :: t) := by simp [bottomV]
    rw [e]
    rcases List.mem_cons.1 hx with rfl | hx
    · have := asc_last h2 (x := z) List.mem_cons_self
      have := asc_mem h2 (x := z) List.mem_cons_self
      omega
    · exact asc_last h2 hx
theorem bottom_mem {l : List Int} (h : 0 < l.length) : bottomV l ∈ l := by rw [← bottom_at h]; exact List.getElem_mem _
theorem more_plan {S : Shaft} {l : List Int} {y : Int} (h : S.plan l = true) (h1 : 1 ≤ y) (h2 : y ≤ (S.F.length : Int)) : S.plan (oneMore S l y) = S.rests y := by
  obtain ⟨p1, p2⟩ := plan_parts h
  have hm := fun x => more_mem (x := x) p1 h1 h2
  simp only [Shaft.plan, Bool.and_eq_true, beq_iff_eq] at h
  obtain ⟨_, hb, _, hf⟩ := h
  have hlen : 0 < l.length := by
    rcases Nat.eq_zero_or_pos l.length with e | e
    · rw [← bottom_nil e] at hb; omega
    · exact e
  have hbm : bottomV (oneMore S l y) = (S.F.length : Int) := by
    have a := asc_last (more_stops (S := S) (l := l) (y := y)) ((hm (S.F.length : Int)).2 (Or.inr (hb ▸ bottom_mem hlen)))
    have hl2 : 0 < (oneMore S l y).length := List.length_pos_of_mem ((hm y).2 (Or.inl rfl))
    have b := asc_mem (more_stops (S := S) (l := l) (y := y)) (bottom_mem hl2)
    omega
  have hfm : S.fall (oneMore S l y) = -1 := by
    rcases fall_mono (S := S) (l := l) (m := oneMore S l y) (fun x hx => (hm x).2 (Or.inr hx)) with e | ⟨e, _⟩
    · exact e
    · exact absurd hf e
  have hre : (oneMore S l y).all S.rests = S.rests y := by
    cases hr : S.rests y with
    | true =>
      rw [List.all_eq_true]
      intro x hx
      rcases (hm x).1 hx with rfl | hx
      · exact hr
      · exact List.all_eq_true.1 p2 x hx
    | false => rw [List.all_eq_false]; exact ⟨y, (hm y).2 (Or.inl rfl), by simp [hr]⟩
  unfold Shaft.plan
  rw [more_stops, hbm, hfm, hre]; simp
theorem more_cost {S : Shaft} {l : List Int} {y : Int} (h : S.stops l = true) (h1 : 1 ≤ y) (h2 : y ≤ (S.F.length : Int)) (hy : y ∉ l) :
    S.cost (oneMore S l y) = S.cost l + S.ringV y ∧ S.time (oneMore S l y) = S.time l + S.T := by
  obtain ⟨a, b⟩ := (mk_sum (S := S) hy (k := S.F.length)).2 h1 h2
  have e := mk_self h
  have e1 : rsum S (oneMore S l y) = rsum S l + S.ringV y := by unfold oneMore; rw [a, ← e]
  have e2 : (oneMore S l y).length = l.length + 1 := by unfold oneMore; rw [b, ← e]
  unfold rsum at e1
  unfold Shaft.cost Shaft.time
  rw [e1, e2]
  refine ⟨by omega, ?_⟩
  rw [Int.natCast_add, Int.mul_add]; simp; omega
theorem ringsP_nn {S : Shaft} (hok : S.ok = true) {l : List Int} (hl : S.stops l = true) (hr : l.all S.rests = true) : ∀ {k : Nat}, k ≤ l.length → 0 ≤ ringsP S l k
  | 0, _ => by simp [ringsP]
  | k + 1, h => by
    have h1 := ringsP_nn hok hl hr (k := k) (by omega)
    have h2 := asc_at hl (k := k) (by omega)
    obtain ⟨⟨j, _, e, hj⟩, _, _, m0, _⟩ := ring_bd hok h2.1 h2.2
    have h4 := all_at hr (k := k) (by omega)
    obtain ⟨_, _, _, r0, _⟩ := S.rock_bd hok hj
    rw [ringsP_succ (by omega)]
    have h5 : 0 ≤ S.ringV l[k] := by
      unfold Shaft.ringV
      have : (S.rock (l[k] - 1)).e ≠ -1 := by simpa [Shaft.rests] using h4
      rw [e] at this ⊢
      omega
    omega
theorem cost_bd {S : Shaft} (hok : S.ok = true) {l : List Int} (h : S.plan l = true) : 0 ≤ S.cost l ∧ S.cost l ≤ 10000 ∧ 0 ≤ S.time l ∧ S.time l ≤ 10000 := by
  obtain ⟨p1, p2⟩ := plan_parts h
  obtain ⟨_, h12, _, _, _, _, ⟨t0, t1⟩⟩ := S.ok_parts hok
  have hlen := asc_len p1 (by omega)
  obtain ⟨a0, a1⟩ := feetP_bd hok (Nat.le_refl S.F.length)
  obtain ⟨b0, b1⟩ := feetH_bd hok (Nat.le_refl S.F.length)
  obtain ⟨_, c1⟩ := ringsP_bd hok p1 (Nat.le_refl l.length)
  have c0 := ringsP_nn hok p1 p2 (Nat.le_refl l.length)
  have hm0 : 0 ≤ S.T * (l.length : Int) := Int.mul_nonneg t0 (by omega)
  have hm1 : S.T * (l.length : Int) ≤ 9 * (l.length : Int) := Int.mul_le_mul_of_nonneg_right t1 (by omega)
  unfold Shaft.cost Shaft.time
  omega

def rdy (S : Shaft) : Bool := !hugeS S 0 && S.ok
set_option maxRecDepth 100000 in
set_option maxHeartbeats 4000000 in
theorem ready_any (S : Shaft) (p q : Option Addr) (c d : Nat) (w : World) (hF : S.F.length ≤ maxLen) (hR : S.R.length ≤ maxLen) (hi : ShaftIn w w.heap.size S p q) :
    Calls Tryd.prog 21 #[.agg #[.slice q S.R.length d, .slice p S.F.length c, .int .i64 S.D, .int .i64 S.H, .int .i64 S.T]] w fun e w' => e = .returned (.bool (rdy S)) ∧ Below w.heap.size w w' := by
  obtain ⟨w1, hw1, hb1, hz1, k0, k1, k2, k3, k4, k5⟩ := box_shaft w S p q c d
  have hh := huge_any S p q none c d 0 0 w1 hF hR (Nat.zero_le _)
  have HB := Lib.hid hb1
  cases hg : hugeS S 0 with
  | true =>
    rw [hg] at hh
    have HH := Lib.hid hh
    have HR := Lib.hid (show false = rdy S from by simp [rdy, hg])
    clear hh hb1 hz1 hg hF hR hi
    go_enter Tryd.func21, Tryd.ntmps21
    go_wp2_with (go_at_call 6; refine HH.out.mono ?_; rintro e w2 ⟨rfl, hb2⟩; go_must (have HB2 := Lib.hid (bT HB.out hb2); clear hb2))
    go_ret
    exact ⟨ret_b HR.out, HB2.out⟩
  | false =>
    rw [hg] at hh
    have HH := Lib.hid hh
    have h1 : ¬ 40 < S.R.length ∧ ¬ 40 < S.F.length := by simpa [hugeS] using hg
    have HC := Lib.hid (fun (V : World) (hV : Below w1.heap.size w1 V) => checkR_any S p q c d V (by omega) (by omega) ((hi.bel hb1).bel hV))
    have HR := Lib.hid (show (vErr S.ok == 0) = rdy S from by simp only [rdy, hg]; cases S.ok <;> rfl)
    obtain ⟨e0, he0⟩ : ∃ e, vErr S.ok = e := ⟨_, rfl⟩
    rw [he0] at HC HR
    clear hh hb1 hz1 hg hF hR hi h1 he0
    go_enter Tryd.func21, Tryd.ntmps21
    go_wp2_with (first | (go_at_call 6; refine HH.out.mono ?_; rintro e w2 ⟨rfl, hb2⟩; go_must (have j0 := (hb2.cell k5).trans k0; have j1 := (hb2.cell k5).trans k1; have j2 := (hb2.cell k5).trans k2; have j3 := (hb2.cell k5).trans k3; have j4 := (hb2.cell k5).trans k4; have HB2 := Lib.hid hb2; clear hb2)) | (go_at_call 10; refine (HC.out _ HB2.out).mono ?_; rintro e w3 ⟨rfl, hb3⟩; go_must (have HB3 := Lib.hid (bT HB.out (bT HB2.out hb3)); clear hb3)))
    all_goals
      go_ret
      refine ⟨ret_b (Eq.trans ?_ HR.out), HB3.out⟩
      first | rfl | (symm; simpa using (by assumption)) | simp_all
set_option maxRecDepth 100000 in
set_option maxHeartbeats 4000000 in
theorem copied_any (l : List Int) (pl : Option Addr) (cl : Nat) (w : World) (hl : l.length ≤ 1000) (hi : ListIn w w.heap.size l pl) :
    Calls Tryd.prog 25 #[.slice pl l.length cl] w fun e w' => ∃ v c', e = .returned (.slice v l.length c') ∧ l.length ≤ c' ∧ Below w.heap.size w w' ∧ ListIn w' w'.heap.size l v := by
  have HI := Lib.hid hi; clear hi
  go_enter Tryd.func25, Tryd.ntmps25
  go_wp2_with (at_builtin; refine wpList_append_list w rfl _ _ rfl rfl rfl l pl cl rfl (HI.out.bel (bA (Below.refl _ _) _)) (by omega) ?_; intro v4 c4 w4 hb4 hc4 hl4)
  go_ret
  exact ⟨_, _, rfl, hc4, hb4, hl4⟩
def knownV (e : Int) : Bool := e == 0 || e == 3
theorem known_any (e : Int) (w : World) : Calls Tryd.prog 26 #[.int .i64 e] w fun x w' => x = .returned (.bool (knownV e)) ∧ w = w' := by
  by_cases h0 : e = 0
  · subst h0
    go_enter Tryd.func26, Tryd.ntmps26
    go_wp2
    go_ret
    exact ⟨rfl, rfl⟩
  · have d0 : (e == 0) = false := by simpa using h0
    have HR := Lib.hid (show (e == 3) = knownV e from by simp [knownV, d0])
    go_enter Tryd.func26, Tryd.ntmps26
    go_wp2
    all_goals
      go_ret
      refine ⟨ret_b (Eq.trans ?_ HR.out), rfl⟩
      first | rfl | (symm; simpa using (by assumption)) | simp_all
end Go.Proofs.YtaaocomgmacjnabDoor
