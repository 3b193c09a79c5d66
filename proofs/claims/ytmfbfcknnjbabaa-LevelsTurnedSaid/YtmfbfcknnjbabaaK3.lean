/- The contracts of Highest, of Lowest and Highest without a truth, of Higher and of isKnown. Truths of a town and the matrix of what is known: just the levels that it leaves. The contract of ends, of a valid town. -/
import Derived.Test.YtmfbfcknnjbabaaJ2
set_option linter.unusedSimpArgs false
set_option linter.unusedVariables false
namespace Go.Proofs.Ytmfbfcknnjbabaa
open Go.RowKit

set_option maxRecDepth 100000 in
set_option maxHeartbeats 2000000 in
theorem highest_ok (T : Town) (M : List Int) (n : Nat) (p q : Option Addr) (c d : Nat) (w : World) (hok : T.ok = true) (hk : kn T = some M) (hn : T.W = n) (ht : TownIn w w.heap.size T p q) :
    Calls Try.prog 28 #[.agg #[.int .i64 T.W, .slice p T.s.length c, .slice q T.r.length d]] w fun e w' =>
      ∃ v, e = .returned (.tuple #[v, .int .i64 0]) ∧ w'.ownsRow w.heap.size 3 1 v n ((lv M n).map fun x => .int .i64 x.2) ∧ Below w.heap.size w w' := by
  obtain ⟨w1, hw1, hb1, hz1, k0, k1, k2⟩ := box_town w T.W p q T.s.length T.r.length c d
  obtain ⟨i0, hi, hz0, hz1', hz2⟩ := info_parts info3
  have I1 := Lib.hid hi; have I2 := Lib.hid hz0; have I3 := Lib.hid hz1'; have I4 := Lib.hid hz2; clear hi hz0 hz1' hz2
  have hl1 : w.heap.size < w1.heap.size := by omega
  have hM : M.length = 49 := hTo_len hk
  have hW := ok_W hok
  have hn6 : n ≤ 6 := by omega
  have hlearn := learn_nil T M p q c d w1 hok hk ((ht.below hb1).mono hb1.size)
  have hlev : ∀ W g, RowAt W g T.W M → Calls Try.prog 61 #[.pointer (some ⟨g, 0, none⟩)] W fun e w' => ∃ v, e = .returned v ∧ w'.ownsRow W.heap.size 38 2 v n (flat2 (lv M n)) ∧ Below W.heap.size W w' := fun W g hr => levels_any n M g W hn6 (by rw [← hn]; exact hr)
  have HL := Lib.hid hlearn; have HV := Lib.hid hlev; have HB1 := Lib.hid hb1
  clear hlearn hlev hb1 hz1 ht hok hk hn
  go_enter Try.func28, Try.ntmps28
  go_wp2_with (first
    | (go_at_call 58; refine HL.out.mono ?_; rintro e w2 ⟨rfl, hb2⟩; have HB2 := Lib.hid hb2; clear hb2)
    | (refine wpList_alloc_kv rfl rfl ?_; intro w3 hr3 hb3 hz3; have HR3 := Lib.hid hr3; have HB3 := Lib.hid hb3; have HZ3 := Lib.hid hz3; clear hr3 hb3 hz3)
    | (refine wpList_store_kv rfl _ _ rfl _ T.W 0 M Z49 rfl rfl hM HR3.out ?_; intro w4 hr4 ho4; have HR4 := Lib.hid hr4; have HB4 := Lib.hid (only_below HB3.out ho4 (Nat.le_refl _)); clear hr4 ho4)
    | (go_at_call 61; refine (HV.out _ _ HR4.out).mono ?_; rintro e w5 ⟨vv, rfl, ho5, hb5⟩; have HO5 := Lib.hid ho5; have HB5 := Lib.hid (bT (bT HB2.out HB4.out) hb5); clear ho5 hb5; obtain ⟨pv, cv, rfl, hc5⟩ := own_form HO5.out; have HC5 := Lib.hid hc5; clear hc5))
  go_loopw [6, 19] (fun v i wr => ∃ k : Nat, i = .int .i64 k ∧ k ≤ n ∧ wr.ownsRow w5.heap.size 3 1 v k ((lv M k).map fun x => .int .i64 x.2) ∧ Below w5.heap.size w5 wr) (fun _ i _ => n - (intOf i).toNat)
  case atStart => exact ⟨0, rfl, Nat.zero_le _, World.ownsRow_nil _ _ _ _, Below.refl _ _⟩
  case round =>
    obtain ⟨k, rfl, hk, ho, hb⟩ := hrel
    have HO := Lib.hid ho; have HB := Lib.hid hb; clear ho hb
    obtain ⟨p1, cap1, rfl, _⟩ := own_form HO.out
    by_cases hlt : k < n
    · obtain ⟨gg, rfl, _, hlt2, hcell⟩ := HC5.out (by omega)
      obtain ⟨f1, f2⟩ := flat2_at (lv M n) k (by rw [lv_len]; exact hlt)
      have e1 := ((HB.out.cell (p := ⟨gg, k * 2, none⟩) hlt2).trans (hcell _ (by omega))).trans f1
      have e2 := ((HB.out.cell (p := ⟨gg, k * 2 + 1, none⟩) hlt2).trans (hcell _ (by omega))).trans f2
      have hd : (lv M n)[k]'(by rw [lv_len]; exact hlt) = dif M 0 (k + 1) := by simp [lv]
      rw [hd] at e1 e2
      obtain ⟨⟨y1, y2⟩, hy⟩ : ∃ y, dif M 0 (k + 1) = y := ⟨_, rfl⟩
      rw [hy] at e1 e2
      have HY := Lib.hid hy
      have hsz := HB.out.size
      clear hcell f1 f2 hd hy HC5
      go_wp2_with (at_builtin; refine wpList_append_own _ rfl _ _ 26 rfl w5.heap.size 3 i0 _ 1 8 Try.underlying26 I1.out I2.out I3.out I4.out rfl (by decide) _ _ _ rfl ((HO.out.alloc _).alloc _) ⟨wr.heap.size + 1, 0, none⟩ 1 1 [.int .i64 y2] rfl rfl ?c1 ?c2 ?c3 ?c4 ?c5 ?_)
      case c2 => simp [Value.oneCell']
      case c3 => unfold maxLen; omega
      case c4 => omega
      case c5 => first | omega | (simp; omega)
      intro v' w6 hown hgrow _
      have HOW := Lib.hid hown; have HGR := Lib.hid hgrow; clear hown hgrow
      obtain ⟨p', cap', rfl, _⟩ := own_form HOW.out
      go_wp2
      go_roundw
      case rel =>
        refine ⟨k + 1, by go_num, hlt, ?_, below_grown (bA (bA HB.out _) _) ((HO.out.alloc _).alloc _) (Nat.le_refl _) HGR.out⟩
        rw [lv_succ, List.map_append, HY.out]
        exact HOW.out
      case measure => simp [intOf]; omega
    · obtain rfl : k = n := by omega
      go_wp2
      go_ret2
      exact ⟨_, rfl, own_base HO.out (by have := HB5.out.size; omega), bT (bT HB1.out HB5.out) HB.out⟩

set_option maxRecDepth 100000 in
set_option maxHeartbeats 2000000 in
theorem lowest_no (T : Town) (p q : Option Addr) (c d : Nat) (w : World) (hok : T.ok = true) (hk : kn T = none) (ht : TownIn w w.heap.size T p q) :
    Calls Try.prog 26 #[.agg #[.int .i64 T.W, .slice p T.s.length c, .slice q T.r.length d]] w fun e w' => e = .returned (.tuple #[.slice none 0 0, .int .i64 3]) ∧ Below w.heap.size w w' := by
  obtain ⟨w1, hw1, hb1, hz1, k0, k1, k2⟩ := box_town w T.W p q T.s.length T.r.length c d
  have hl1 : w.heap.size < w1.heap.size := by omega
  have hlearn := learn_no T p q c d w1 hok hk ((ht.below hb1).mono hb1.size)
  have HL := Lib.hid hlearn; have HB1 := Lib.hid hb1
  clear hlearn hb1 hz1 ht hok hk
  go_enter Try.func26, Try.ntmps26
  go_wp2_with (first
    | (go_at_call 58; refine HL.out.mono ?_; rintro e w2 ⟨rfl, hb2⟩; have HB2 := Lib.hid hb2; clear hb2)
    | (refine wpList_alloc_kv rfl rfl ?_; intro w3 hr3 hb3 hz3; have HR3 := Lib.hid hr3; have HB3 := Lib.hid hb3; have HZ3 := Lib.hid hz3; clear hr3 hb3 hz3)
    | (refine wpList_store_kv rfl _ _ rfl _ 0 0 Z49 Z49 rfl rfl rfl HR3.out ?_; intro w4 hr4 ho4; go_must (have HB4 := Lib.hid (only_below HB3.out ho4 (Nat.le_refl _)); clear hr4 ho4)))
  go_ret2
  exact ⟨rfl, bT (bT HB1.out HB2.out) HB4.out⟩

set_option maxRecDepth 100000 in
set_option maxHeartbeats 2000000 in
theorem highest_no (T : Town) (p q : Option Addr) (c d : Nat) (w : World) (hok : T.ok = true) (hk : kn T = none) (ht : TownIn w w.heap.size T p q) :
    Calls Try.prog 28 #[.agg #[.int .i64 T.W, .slice p T.s.length c, .slice q T.r.length d]] w fun e w' => e = .returned (.tuple #[.slice none 0 0, .int .i64 3]) ∧ Below w.heap.size w w' := by
  obtain ⟨w1, hw1, hb1, hz1, k0, k1, k2⟩ := box_town w T.W p q T.s.length T.r.length c d
  have hl1 : w.heap.size < w1.heap.size := by omega
  have hlearn := learn_no T p q c d w1 hok hk ((ht.below hb1).mono hb1.size)
  have HL := Lib.hid hlearn; have HB1 := Lib.hid hb1
  clear hlearn hb1 hz1 ht hok hk
  go_enter Try.func28, Try.ntmps28
  go_wp2_with (first
    | (go_at_call 58; refine HL.out.mono ?_; rintro e w2 ⟨rfl, hb2⟩; have HB2 := Lib.hid hb2; clear hb2)
    | (refine wpList_alloc_kv rfl rfl ?_; intro w3 hr3 hb3 hz3; have HR3 := Lib.hid hr3; have HB3 := Lib.hid hb3; have HZ3 := Lib.hid hz3; clear hr3 hb3 hz3)
    | (refine wpList_store_kv rfl _ _ rfl _ 0 0 Z49 Z49 rfl rfl rfl HR3.out ?_; intro w4 hr4 ho4; go_must (have HB4 := Lib.hid (only_below HB3.out ho4 (Nat.le_refl _)); clear hr4 ho4)))
  go_ret2
  exact ⟨rfl, bT (bT HB1.out HB2.out) HB4.out⟩

/-- what Higher answers where the span of the difference is so -/
def hiB (x : Int × Int) : Int := if 0 < x.1 then 1 else if x.2 ≤ 0 then 2 else 3
set_option maxRecDepth 100000 in
set_option maxHeartbeats 4000000 in
theorem higher_ok (T : Town) (M : List Int) (u v : Nat) (p q : Option Addr) (c d : Nat) (w : World) (hok : T.ok = true) (hk : kn T = some M) (hu : (u : Int) < T.W) (hv : (v : Int) < T.W) (ht : TownIn w w.heap.size T p q) :
    Calls Try.prog 35 #[.agg #[.int .i64 T.W, .slice p T.s.length c, .slice q T.r.length d], .int .i64 u, .int .i64 v] w fun e w' =>
      e = .returned (.tuple #[.int .i64 (hiB (dif M (v + 1) (u + 1))), .int .i64 0]) ∧ Below w.heap.size w w' := by
  obtain ⟨w1, hw1, hb1, hz1, k0, k1, k2⟩ := box_town w T.W p q T.s.length T.r.length c d
  have hl1 : w.heap.size < w1.heap.size := by omega
  have hM : M.length = 49 := hTo_len hk
  have hW := ok_W hok
  obtain ⟨⟨y1, y2⟩, hy⟩ : ∃ y, dif M (v + 1) (u + 1) = y := ⟨_, rfl⟩
  have ha : asks T [(u : Int), (v : Int)] = true := by simp [asks, within]; omega
  have hlearn : ∀ W cx g, W.heap.size = g → Below w1.heap.size w1 W → Calls Try.prog 58 #[.agg #[.int .i64 T.W, .slice p T.s.length c, .slice q T.r.length d], .slice (some ⟨g, 0, none⟩) 2 cx] (W.alloc (.cells #[.int .i64 u, .int .i64 v] 3)) fun e w' =>
      e = .returned (.tuple #[.agg (kv T.W M), .int .i64 0]) ∧ Below (W.alloc (.cells #[.int .i64 u, .int .i64 v] 3)).heap.size (W.alloc (.cells #[.int .i64 u, .int .i64 v] 3)) w' := fun W cx g hg hW => by
    subst hg
    exact learn_ok T M p q c d [(u : Int), (v : Int)] _ cx _ hok hk ha (by simp) ((ht.below (bT hb1 (bA hW _))).mono (bT hb1 (bA hW _)).size) (lit2 _ _ (Below.refl _ _))
  have hlev : ∀ W g, RowAt W g T.W M → Calls Try.prog 62 #[.pointer (some ⟨g, 0, none⟩), .int .i64 ((v : Int) + 1), .int .i64 ((u : Int) + 1)] W fun e w' => e = .returned (.agg #[.int .i64 y1, .int .i64 y2]) ∧ Below W.heap.size W w' := fun W g hr => by
    have := differ_any T.W M g (v + 1) (u + 1) W (by omega) (by omega) hr
    rwa [hy] at this
  rw [hy]
  have u0 : (u : Int) ≤ 6 := by omega
  have v0 : (v : Int) ≤ 6 := by omega
  have HL := Lib.hid hlearn; have HV := Lib.hid hlev; have HB1 := Lib.hid hb1
  have HE : Hid (hiB (y1, y2) = if 0 < y1 then 1 else if y2 ≤ 0 then 2 else 3) := rfl
  clear hlearn hlev hb1 hz1 ht hok hk ha hy
  go_enter Try.func35, Try.ntmps35
  go_wp2_with (first
    | (go_at_call 58; refine (HL.out _ _ _ (by simp) (by repeat (first | exact Below.refl _ _ | refine bA ?_ _))).mono ?_; rintro e w2 ⟨rfl, hb2⟩; have HB2 := Lib.hid (bT (by repeat (first | exact Below.refl _ _ | refine bA ?_ _) : Below w1.heap.size w1 _) hb2); clear hb2)
    | (refine wpList_alloc_kv rfl rfl ?_; intro w3 hr3 hb3 hz3; have HR3 := Lib.hid hr3; have HB3 := Lib.hid hb3; have HZ3 := Lib.hid hz3; clear hr3 hb3 hz3)
    | (refine wpList_store_kv rfl _ _ rfl _ T.W 0 M Z49 rfl rfl hM HR3.out ?_; intro w4 hr4 ho4; have HR4 := Lib.hid hr4; have HB4 := Lib.hid (only_below HB3.out ho4 (Nat.le_refl _)); clear hr4 ho4)
    | (go_at_call 63; refine (point_ex _ _ (by omega) (by omega)).mono ?_; rintro e w2 ⟨rfl, rfl⟩)
    | (go_at_call 62; refine (HV.out _ _ HR4.out).mono ?_; rintro e w5 ⟨rfl, hb5⟩; have HB5 := Lib.hid (bT (bT HB2.out HB4.out) hb5); clear hb5))
  all_goals
    go_ret2
    refine ⟨?_, bA (bT HB1.out HB5.out) _⟩
    rw [HE.out]
    first
      | (rw [if_pos (by assumption)]; rfl)
      | (rw [if_neg (by omega), if_pos (by assumption)]; rfl)
      | (rw [if_neg (by omega), if_neg (by omega)]; rfl)

set_option maxRecDepth 100000 in
set_option maxHeartbeats 2000000 in
theorem isKnown_0 (w : World) : Calls Try.prog 85 #[.int .i64 0] w fun e w' => e = .returned (.bool true) ∧ w = w' := by
  go_enter Try.func85, Try.ntmps85
  go_wp2
  go_ret
  exact ⟨rfl, rfl⟩
theorem isKnown_3 (w : World) : Calls Try.prog 85 #[.int .i64 3] w fun e w' => e = .returned (.bool true) ∧ w = w' := by
  go_enter Try.func85, Try.ntmps85
  go_wp2
  go_ret
  exact ⟨rfl, rfl⟩
end Go.Proofs.Ytmfbfcknnjbabaa

namespace Go.Proofs.Ytmfbfcknnjbabaa
open Go.RowKit

/-- the level of each point -/
def lev (xs : List Int) (r : Nat) : Int := if r = 0 then 0 else at0 xs ((r : Int) - 1)
theorem lev_zero (xs : List Int) : lev xs 0 = 0 := rfl
theorem lev_succ (xs : List Int) (r : Nat) : lev xs (r + 1) = at0 xs r := by
  simp only [lev]
  rw [if_neg (by omega)]
  congr 1
  omega
theorem lev_at (xs : List Int) (r : Nat) (h : r < xs.length) : lev xs (r + 1) = xs[r] := by
  rw [lev_succ]; simp [at0, h]
theorem U_at : ∀ p, p < 7 → ∀ q, q < 7 → D U49 p q = if p = q then 0 else if q = 0 then 0 else 99 := by decide +kernel
/-- levels from 0 to MaxLevel, the ground at 0 -/
theorem fits_U {x : Nat → Int} (h0 : x 0 = 0) : Fits U49 x ↔ ∀ r, r < 7 → 0 ≤ x r ∧ x r ≤ 99 := by
  constructor
  · intro h r hr
    have a := h 0 r (by omega) hr
    have b := h r 0 hr (by omega)
    rw [U_at _ (by omega) _ hr] at a
    rw [U_at _ hr _ (by omega)] at b
    rw [h0] at a b
    by_cases e : r = 0
    · subst e; omega
    · rw [if_neg (by omega), if_neg e] at a
      rw [if_neg e, if_pos rfl] at b
      omega
  · intro h p q hp hq
    have a := h p hp
    have b := h q hq
    rw [U_at _ hp _ hq]
    by_cases e : p = q
    · subst e; rw [if_pos rfl]; omega
    · rw [if_neg e]
      by_cases e2 : q = 0
      · subst e2; rw [if_pos rfl, h0]; omega
      · rw [if_neg e2]; omega
theorem all_get {α : Type} {l : List α} {f : α → Bool} : l.all f = true ↔ ∀ k, (h : k < l.length) → f l[k] = true := by
  rw [List.all_eq_true]
  constructor
  · intro h k hk; exact h _ (List.getElem_mem hk)
  · intro h x hx
    obtain ⟨k, hk, rfl⟩ := List.getElem_of_mem hx
    exact h k hk
theorem sat_words {T : Town} (hok : T.ok = true) {xs : List Int} : Sat (fun _ => true) (words T) (words T).length (lev xs) ↔ (T.s.all (okS xs) = true ∧ T.r.all (okR xs) = true) := by
  have hS : ∀ s ∈ T.s, ((wS s).lo ≤ lev xs (wS s).t - lev xs (wS s).f ∧ lev xs (wS s).t - lev xs (wS s).f ≤ (wS s).hi) ↔ okS xs s = true := by
    intro s hs
    have := ok_sOk hok hs
    simp only [wS, okS, within, decide_eq_true_eq, lev_zero, lev_succ]
    rw [show ((s.well.toNat : Nat) : Int) = s.well by omega]
    omega
  have hR : ∀ s ∈ T.r, ((wR s).lo ≤ lev xs (wR s).t - lev xs (wR s).f ∧ lev xs (wR s).t - lev xs (wR s).f ≤ (wR s).hi) ↔ okR xs s = true := by
    intro s hs
    have := ok_rOk hok hs
    simp only [wR, okR, within, decide_eq_true_eq, lev_succ]
    rw [show ((s.a.toNat : Nat) : Int) = s.a by omega, show ((s.b.toNat : Nat) : Int) = s.b by omega]
  have key : Sat (fun _ => true) (words T) (words T).length (lev xs) ↔ ∀ y ∈ words T, y.lo ≤ lev xs y.t - lev xs y.f ∧ lev xs y.t - lev xs y.f ≤ y.hi := by
    constructor
    · intro h y hy
      obtain ⟨k, hk, rfl⟩ := List.getElem_of_mem hy
      exact h k hk rfl _ (List.getElem?_eq_getElem hk)
    · intro h j hj _ y hy
      exact h y (List.mem_of_getElem? hy)
  rw [key, List.all_eq_true, List.all_eq_true]
  constructor
  · intro h
    exact ⟨fun s hs => (hS s hs).1 (h _ (List.mem_append_left _ (List.mem_map_of_mem hs))), fun s hs => (hR s hs).1 (h _ (List.mem_append_right _ (List.mem_map_of_mem hs)))⟩
  · rintro ⟨h1, h2⟩ y hy
    simp only [words, List.mem_append, List.mem_map] at hy
    rcases hy with ⟨s, hs, rfl⟩ | ⟨s, hs, rfl⟩
    · exact (hS s hs).2 (h1 s hs)
    · exact (hR s hs).2 (h2 s hs)
theorem okX_U {xs : List Int} (hl : xs.length ≤ 6) : xs.all okX = true ↔ Fits U49 (lev xs) := by
  rw [fits_U (lev_zero xs), all_get]
  constructor
  · intro h r hr
    cases r with
    | zero => rw [lev_zero]; omega
    | succ r =>
      by_cases hx : r < xs.length
      · rw [lev_at xs r hx]
        have := h r hx
        simpa [okX, within] using this
      · rw [lev_succ]
        have : at0 xs (r : Int) = 0 := by simp [at0, List.getElem?_eq_none (by omega : xs.length ≤ r)]
        omega
  · intro h k hk
    have := h (k + 1) (by omega)
    rw [lev_at xs k hk] at this
    simpa [okX, within] using this
theorem truth_iff {T : Town} (hok : T.ok = true) {xs : List Int} : truth T xs = true ↔ ((xs.length : Int) = T.W ∧ Fits U49 (lev xs) ∧ Sat (fun _ => true) (words T) (words T).length (lev xs)) := by
  have hW := ok_W hok
  simp only [truth, Bool.and_eq_true, decide_eq_true_eq]
  constructor
  · rintro ⟨h1, h2, h3, h4⟩
    exact ⟨h1, (okX_U (by omega)).1 h2, (sat_words hok).2 ⟨h3, h4⟩⟩
  · rintro ⟨h1, h2, h3⟩
    exact ⟨h1, (okX_U (by omega)).2 h2, (sat_words hok).1 h3⟩
theorem truth_fits {T : Town} {M : List Int} (hok : T.ok = true) (hk : kn T = some M) {xs : List Int} : truth T xs = true ↔ ((xs.length : Int) = T.W ∧ Fits M (lev xs)) := by
  have h := heard_kn hok
  rw [hk] at h
  rw [truth_iff hok, h.2]
theorem truth_none {T : Town} (hok : T.ok = true) (hk : kn T = none) (xs : List Int) : truth T xs = false := by
  have h := heard_kn hok
  rw [hk] at h
  cases ht : truth T xs with
  | false => rfl
  | true =>
    obtain ⟨_, h1, h2⟩ := (truth_iff hok).1 ht
    exact (h _ h1 h2).elim
/-- levels of all points that fit, as a list of the wells' levels, which is a truth -/
def lvl (n : Nat) (x : Nat → Int) : List Int := (List.range n).map fun r => x (r + 1)
theorem lvl_len (n : Nat) (x : Nat → Int) : (lvl n x).length = n := by simp [lvl]
theorem lvl_truth {T : Town} {M : List Int} {n : Nat} (hok : T.ok = true) (hk : kn T = some M) (hn : T.W = n) {x : Nat → Int} (h0 : x 0 = 0) (hx : Fits M x) : truth T (lvl n x) = true := by
  have hW := ok_W hok
  have hh := heard_kn hok
  rw [hk] at hh
  obtain ⟨h1, h2⟩ := (hh.2 x).1 hx
  have hU := (fits_U h0).1 h1
  have hlev : ∀ r, r < n + 1 → lev (lvl n x) r = x r := fun r hr => by
    cases r with
    | zero => rw [lev_zero, h0]
    | succ r => rw [lev_at _ r (by rw [lvl_len]; omega)]; simp [lvl]
  refine (truth_iff hok).2 ⟨by rw [lvl_len]; exact hn.symm, ?_, ?_⟩
  · refine (fits_U (lev_zero _)).2 fun r hr => ?_
    by_cases hr' : r < n + 1
    · rw [hlev r hr']; exact hU r hr
    · cases r with
      | zero => omega
      | succ r =>
        rw [lev_succ]
        have : at0 (lvl n x) (r : Int) = 0 := by
          have : (lvl n x).length ≤ r := by rw [lvl_len]; omega
          simp [at0, List.getElem?_eq_none this]
        omega
  · intro j hj hS y hy
    have := h2 j hj hS y hy
    have hm := List.mem_of_getElem? hy
    simp only [words, List.mem_append, List.mem_map] at hm
    have hb : y.f < n + 1 ∧ y.t < n + 1 := by
      rcases hm with ⟨s, hs, rfl⟩ | ⟨s, hs, rfl⟩
      · have := ok_sOk hok hs; simp only [wS]; omega
      · have := ok_rOk hok hs; simp only [wR]; omega
    rw [hlev _ hb.1, hlev _ hb.2]
    exact this
theorem low_truth {T : Town} {M : List Int} {n : Nat} (hok : T.ok = true) (hk : kn T = some M) (hn : T.W = n) : truth T ((lv M n).map fun x => x.1) = true := by
  have hM := kn_clo hok hk
  have hW := ok_W hok
  have h := lvl_truth hok hk hn (x := dn M 0) (by simp [dn]) (dn_fits hM (by omega))
  have e : (lv M n).map (fun x => x.1) = lvl n (dn M 0) := by
    simp only [lv, lvl, List.map_map]
    refine List.map_congr_left fun r hr => ?_
    have : r < n := by simpa using hr
    simp only [Function.comp, dif_eq hM (show 0 < 7 by omega) (show r + 1 < 7 by omega), dn, hM.diag 0 (by omega)]
    omega
  rw [e]; exact h
theorem high_truth {T : Town} {M : List Int} {n : Nat} (hok : T.ok = true) (hk : kn T = some M) (hn : T.W = n) : truth T ((lv M n).map fun x => x.2) = true := by
  have hM := kn_clo hok hk
  have hW := ok_W hok
  have h := lvl_truth hok hk hn (x := D M 0) (hM.diag 0 (by omega)) (fits_zero hM)
  have e : (lv M n).map (fun x => x.2) = lvl n (D M 0) := by
    simp only [lv, lvl, List.map_map]
    refine List.map_congr_left fun r hr => ?_
    have : r < n := by simpa using hr
    simp only [Function.comp, dif_eq hM (show 0 < 7 by omega) (show r + 1 < 7 by omega)]
  rw [e]; exact h
end Go.Proofs.Ytmfbfcknnjbabaa

namespace Go.Proofs.Ytmfbfcknnjbabaa
open Go.RowKit

def lows (M : List Int) (n : Nat) : List Int := (lv M n).map fun x => x.1
def highs (M : List Int) (n : Nat) : List Int := (lv M n).map fun x => x.2
theorem lows_len (M : List Int) (n : Nat) : (lows M n).length = n := by simp [lows, lv_len]
theorem highs_len (M : List Int) (n : Nat) : (highs M n).length = n := by simp [highs, lv_len]
theorem lowest_i (T : Town) (M : List Int) (n : Nat) (p q : Option Addr) (c d : Nat) (w : World) (hok : T.ok = true) (hk : kn T = some M) (hn : T.W = n) (ht : TownIn w w.heap.size T p q) :
    Calls Try.prog 26 #[.agg #[.int .i64 T.W, .slice p T.s.length c, .slice q T.r.length d]] w fun e w' => ∃ p' c', e = .returned (.tuple #[.slice p' n c', .int .i64 0]) ∧ Ints w' p' (lows M n) ∧ Below w.heap.size w w' := by
  refine (lowest_ok T M n p q c d w hok hk hn ht).mono ?_
  rintro e w' ⟨v, rfl, ho, hb⟩
  obtain ⟨p', c', rfl, _⟩ := own_form ho
  refine ⟨p', c', rfl, ints_own (n := n) (c := c') (base := w.heap.size) ?_, hb⟩
  rw [lows, List.map_map]
  exact ho
theorem highest_i (T : Town) (M : List Int) (n : Nat) (p q : Option Addr) (c d : Nat) (w : World) (hok : T.ok = true) (hk : kn T = some M) (hn : T.W = n) (ht : TownIn w w.heap.size T p q) :
    Calls Try.prog 28 #[.agg #[.int .i64 T.W, .slice p T.s.length c, .slice q T.r.length d]] w fun e w' => ∃ p' c', e = .returned (.tuple #[.slice p' n c', .int .i64 0]) ∧ Ints w' p' (highs M n) ∧ Below w.heap.size w w' := by
  refine (highest_ok T M n p q c d w hok hk hn ht).mono ?_
  rintro e w' ⟨v, rfl, ho, hb⟩
  obtain ⟨p', c', rfl, _⟩ := own_form ho
  refine ⟨p', c', rfl, ints_own (n := n) (c := c') (base := w.heap.size) ?_, hb⟩
  rw [highs, List.map_map]
  exact ho
theorem results_tmp4 {fn : Func} {t u v x : Tmp} (h : fn.results = #[.tmp t, .tmp u, .tmp v, .tmp x]) (tmps : Array Value) (P : Program) (w : World) :
    (results fn tmps).run P w = .ok (.tuple #[tmps.getD t undef, tmps.getD u undef, tmps.getD v undef, tmps.getD x undef]) w := by simp [results, h]
theorem is_truth_t (T : Town) (p q : Option Addr) (c d : Nat) (xs : List Int) (x : Option Addr) (cx n : Nat) (w : World) (hx : xs.length ≤ 1000000) (hn : xs.length = n) (hok : T.ok = true) (hT : truth T xs = true) (ht : TownIn w w.heap.size T p q) (hi : Ints w x xs) :
    Calls Try.prog 46 #[.agg #[.int .i64 T.W, .slice p T.s.length c, .slice q T.r.length d], .slice x n cx] w fun e w' => e = .returned (.bool true) ∧ Below w.heap.size w w' := by
  subst hn
  have := isTruthR_any T p q c d xs x cx w hx hok ht hi
  rw [hT] at this
  exact this

set_option maxRecDepth 100000 in
set_option maxHeartbeats 4000000 in
theorem ends_some (T : Town) (M : List Int) (n : Nat) (p q : Option Addr) (c d : Nat) (w : World) (hok : T.ok = true) (hk : kn T = some M) (hn : T.W = n) (ht : TownIn w w.heap.size T p q) :
    Calls Try.prog 47 #[.agg #[.int .i64 T.W, .slice p T.s.length c, .slice q T.r.length d]] w fun e w' => ∃ p1 c1 p2 c2, e = .returned (.tuple #[.slice p1 n c1, .slice p2 n c2, .bool true, .bool true]) ∧ Ints w' p1 (lows M n) ∧ Ints w' p2 (highs M n) ∧ Below w.heap.size w w' := by
  obtain ⟨w1, hw1, hb1, hz1, k0, k1, k2⟩ := box_town w T.W p q T.s.length T.r.length c d
  have l0 : w.heap.size < w1.heap.size := by omega
  have hW := ok_W hok
  have hlo : ∀ V, Below w.heap.size w V → _ := fun V hV => lowest_i T M n p q c d V hok hk hn (ht.bel hV)
  have hhi : ∀ V, Below w.heap.size w V → _ := fun V hV => highest_i T M n p q c d V hok hk hn (ht.bel hV)
  have htl : ∀ V x cx, Below w.heap.size w V → Ints V x (lows M n) → _ := fun V x cx hV hi => is_truth_t T p q c d (lows M n) x cx n V (by rw [lows_len]; omega) (lows_len M n) hok (low_truth hok hk hn) (ht.bel hV) hi
  have hth : ∀ V x cx, Below w.heap.size w V → Ints V x (highs M n) → _ := fun V x cx hV hi => is_truth_t T p q c d (highs M n) x cx n V (by rw [highs_len]; omega) (highs_len M n) hok (high_truth hok hk hn) (ht.bel hV) hi
  have HLO := Lib.hid hlo; have HHI := Lib.hid hhi; have HTL := Lib.hid htl; have HTH := Lib.hid hth; have HB1 := Lib.hid hb1
  clear hlo hhi htl hth hb1 hz1 ht hok hk hn
  go_enter Try.func47, Try.ntmps47
  go_wp2_with fail
  refine (HLO.out _ HB1.out).mono ?_
  rintro e w2 ⟨p1, c1, rfl, hi1, hb2⟩
  have HB2 := Lib.hid (bT HB1.out hb2)
  have j0 := (hb2.cell (p := ⟨w.heap.size, 0, none⟩) l0).trans k0
  have j1 := (hb2.cell (p := ⟨w.heap.size, 1, none⟩) l0).trans k1
  have j2 := (hb2.cell (p := ⟨w.heap.size, 2, none⟩) l0).trans k2
  have l2 : w.heap.size < w2.heap.size := by have := hb2.size; omega
  have I1 := Lib.hid hi1
  clear hb2 hi1
  go_wp2_with fail
  refine (HHI.out _ HB2.out).mono ?_
  rintro e w3 ⟨p2, c2, rfl, hi2, hb3⟩
  have HB3 := Lib.hid (bT HB2.out hb3)
  have m0 := (hb3.cell (p := ⟨w.heap.size, 0, none⟩) l2).trans j0
  have m1 := (hb3.cell (p := ⟨w.heap.size, 1, none⟩) l2).trans j1
  have m2 := (hb3.cell (p := ⟨w.heap.size, 2, none⟩) l2).trans j2
  have l3 : w.heap.size < w3.heap.size := by have := hb3.size; omega
  have I1' := Lib.hid (I1.out.below hb3); have I2 := Lib.hid hi2
  clear hb3 hi2 j0 j1 j2
  go_wp2_with fail
  refine (isKnown_0 _).mono ?_
  rintro e w4 ⟨rfl, rfl⟩
  go_wp2_with fail
  refine (HTL.out _ _ _ HB3.out I1'.out).mono ?_
  rintro e w4 ⟨rfl, hb4⟩
  have HB4 := Lib.hid (bT HB3.out hb4)
  have n0 := (hb4.cell (p := ⟨w.heap.size, 0, none⟩) l3).trans m0
  have n1 := (hb4.cell (p := ⟨w.heap.size, 1, none⟩) l3).trans m1
  have n2 := (hb4.cell (p := ⟨w.heap.size, 2, none⟩) l3).trans m2
  have I1'' := Lib.hid (I1'.out.below hb4); have I2' := Lib.hid (I2.out.below hb4)
  clear hb4 m0 m1 m2
  go_wp2_with fail
  refine (HTH.out _ _ _ HB4.out I2'.out).mono ?_
  rintro e w5 ⟨rfl, hb5⟩
  have HB5 := Lib.hid (bT HB4.out hb5)
  have I3 := Lib.hid (I1''.out.below hb5); have I4 := Lib.hid (I2'.out.below hb5)
  clear hb5
  go_wp2_with fail
  refine bodyPost_ret (results_tmp4 Try.results47 _ _ _) rfl ?_
  exact ⟨p1, c1, p2, c2, rfl, I3.out, I4.out, HB5.out⟩

set_option maxRecDepth 100000 in
set_option maxHeartbeats 4000000 in
theorem ends_none (T : Town) (p q : Option Addr) (c d : Nat) (w : World) (hok : T.ok = true) (hk : kn T = none) (ht : TownIn w w.heap.size T p q) :
    Calls Try.prog 47 #[.agg #[.int .i64 T.W, .slice p T.s.length c, .slice q T.r.length d]] w fun e w' => e = .returned (.tuple #[.slice none 0 0, .slice none 0 0, .bool false, .bool true]) ∧ Below w.heap.size w w' := by
  obtain ⟨w1, hw1, hb1, hz1, k0, k1, k2⟩ := box_town w T.W p q T.s.length T.r.length c d
  have l0 : w.heap.size < w1.heap.size := by omega
  have hlo : ∀ V, Below w.heap.size w V → _ := fun V hV => lowest_no T p q c d V hok hk (ht.bel hV)
  have hhi : ∀ V, Below w.heap.size w V → _ := fun V hV => highest_no T p q c d V hok hk (ht.bel hV)
  have HLO := Lib.hid hlo; have HHI := Lib.hid hhi; have HB1 := Lib.hid hb1
  clear hlo hhi hb1 hz1 ht hok hk
  go_enter Try.func47, Try.ntmps47
  go_wp2_with fail
  refine (HLO.out _ HB1.out).mono ?_
  rintro e w2 ⟨rfl, hb2⟩
  have HB2 := Lib.hid (bT HB1.out hb2)
  have j0 := (hb2.cell (p := ⟨w.heap.size, 0, none⟩) l0).trans k0
  have j1 := (hb2.cell (p := ⟨w.heap.size, 1, none⟩) l0).trans k1
  have j2 := (hb2.cell (p := ⟨w.heap.size, 2, none⟩) l0).trans k2
  clear hb2
  go_wp2_with fail
  refine (HHI.out _ HB2.out).mono ?_
  rintro e w3 ⟨rfl, hb3⟩
  have HB3 := Lib.hid (bT HB2.out hb3)
  clear hb3
  go_wp2_with fail
  refine (isKnown_3 _).mono ?_
  rintro e w4 ⟨rfl, rfl⟩
  go_wp2_with fail
  refine bodyPost_ret (results_tmp4 Try.results47 _ _ _) rfl ?_
  exact ⟨rfl, HB3.out⟩
end Go.Proofs.Ytmfbfcknnjbabaa
