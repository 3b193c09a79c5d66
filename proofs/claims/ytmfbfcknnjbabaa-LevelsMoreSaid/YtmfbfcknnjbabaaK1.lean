/- The contracts of Highest, of Lowest and Highest without a truth, of Higher and of isKnown. -/
import Derived.Test.YtmfbfcknnjbabaaJ2
set_option linter.unusedSimpArgs false
set_option linter.unusedVariables false
namespace Go.Proofs.Ytmfbfcknnjbabaa
open Go.RowKit

set_option maxRecDepth 100000 in
set_option maxHeartbeats 2000000 in
theorem highest_ok (T : Town) (M : List Int) (n : Nat) (p q : Option Addr) (c d : Nat) (w : World) (hok : T.ok = true) (hk : kn T = some M) (hn : T.W = n) (ht : TownIn w w.heap.size T p q) :
    Calls Try.prog 28 #[.agg #[.int .i64 T.W, .slice p T.s.length c, .slice q T.r.length d]] w fun e w' =>
      ∃ v, e = .returned (.tuple #[v, .int .i64 0]) ∧ w'.ownsRow w.heap.size 3 1 v n ((lv M n).map fun x => .int .i64 x.2) ∧ Below w.heap.size w w' := by
  obtain ⟨w1, hw1, hb1, hz1, k0, k1, k2⟩ := box_town w T.W p q T.s.length T.r.length c d
  obtain ⟨i0, hi, hz0, hz1', hz2⟩ := info_parts info3
  have I1 := Lib.hid hi; have I2 := Lib.hid hz0; have I3 := Lib.hid hz1'; have I4 := Lib.hid hz2; clear hi hz0 hz1' hz2
  have hl1 : w.heap.size < w1.heap.size := by omega
  have hM : M.length = 49 := hTo_len hk
  have hW := ok_W hok
  have hn6 : n ≤ 6 := by omega
  have hlearn := learn_nil T M p q c d w1 hok hk ((ht.below hb1).mono hb1.size)
  have hlev : ∀ W g, RowAt W g T.W M → Calls Try.prog 61 #[.pointer (some ⟨g, 0, none⟩)] W fun e w' => ∃ v, e = .returned v ∧ w'.ownsRow W.heap.size 38 2 v n (flat2 (lv M n)) ∧ Below W.heap.size W w' := fun W g hr => levels_any n M g W hn6 (by rw [← hn]; exact hr)
  have HL := Lib.hid hlearn; have HV := Lib.hid hlev; have HB1 := Lib.hid hb1
  clear hlearn hlev hb1 hz1 ht hok hk hn
  go_enter Try.func28, Try.ntmps28
  go_wp2_with (first
    | (go_at_call 58; refine HL.out.mono ?_; rintro e w2 ⟨rfl, hb2⟩; have HB2 := Lib.hid hb2; clear hb2)
    | (refine wpList_alloc_kv rfl rfl ?_; intro w3 hr3 hb3 hz3; have HR3 := Lib.hid hr3; have HB3 := Lib.hid hb3; have HZ3 := Lib.hid hz3; clear hr3 hb3 hz3)
    | (refine wpList_store_kv rfl _ _ rfl _ T.W 0 M Z49 rfl rfl hM HR3.out ?_; intro w4 hr4 ho4; have HR4 := Lib.hid hr4; have HB4 := Lib.hid (only_below HB3.out ho4 (Nat.le_refl _)); clear hr4 ho4)
    | (go_at_call 61; refine (HV.out _ _ HR4.out).mono ?_; rintro e w5 ⟨vv, rfl, ho5, hb5⟩; have HO5 := Lib.hid ho5; have HB5 := Lib.hid (bT (bT HB2.out HB4.out) hb5); clear ho5 hb5; obtain ⟨pv, cv, rfl, hc5⟩ := own_form HO5.out; have HC5 := Lib.hid hc5; clear hc5))
  go_loopw [6, 19] (fun v i wr => ∃ k : Nat, i = .int .i64 k ∧ k ≤ n ∧ wr.ownsRow w5.heap.size 3 1 v k ((lv M k).map fun x => .int .i64 x.2) ∧ Below w5.heap.size w5 wr) (fun _ i _ => n - (intOf i).toNat)
  case atStart => exact ⟨0, rfl, Nat.zero_le _, World.ownsRow_nil _ _ _ _, Below.refl _ _⟩
  case round =>
    obtain ⟨k, rfl, hk, ho, hb⟩ := hrel
    have HO := Lib.hid ho; have HB := Lib.hid hb; clear ho hb
    obtain ⟨p1, cap1, rfl, _⟩ := own_form HO.out
    by_cases hlt : k < n
    · obtain ⟨gg, rfl, _, hlt2, hcell⟩ := HC5.out (by omega)
      obtain ⟨f1, f2⟩ := flat2_at (lv M n) k (by rw [lv_len]; exact hlt)
      have e1 := ((HB.out.cell (p := ⟨gg, k * 2, none⟩) hlt2).trans (hcell _ (by omega))).trans f1
      have e2 := ((HB.out.cell (p := ⟨gg, k * 2 + 1, none⟩) hlt2).trans (hcell _ (by omega))).trans f2
      have hd : (lv M n)[k]'(by rw [lv_len]; exact hlt) = dif M 0 (k + 1) := by simp [lv]
      rw [hd] at e1 e2
      obtain ⟨⟨y1, y2⟩, hy⟩ : ∃ y, dif M 0 (k + 1) = y := ⟨_, rfl⟩
      rw [hy] at e1 e2
      have HY := Lib.hid hy
      have hsz := HB.out.size
      clear hcell f1 f2 hd hy HC5
      go_wp2_with (at_builtin; refine wpList_append_own _ rfl _ _ 26 rfl w5.heap.size 3 i0 _ 1 8 Try.underlying26 I1.out I2.out I3.out I4.out rfl (by decide) _ _ _ rfl ((HO.out.alloc _).alloc _) ⟨wr.heap.size + 1, 0, none⟩ 1 1 [.int .i64 y2] rfl rfl ?c1 ?c2 ?c3 ?c4 ?c5 ?_)
      case c2 => simp [Value.oneCell']
      case c3 => unfold maxLen; omega
      case c4 => omega
      case c5 => first | omega | (simp; omega)
      intro v' w6 hown hgrow _
      have HOW := Lib.hid hown; have HGR := Lib.hid hgrow; clear hown hgrow
      obtain ⟨p', cap', rfl, _⟩ := own_form HOW.out
      go_wp2
      go_roundw
      case rel =>
        refine ⟨k + 1, by go_num, hlt, ?_, below_grown (bA (bA HB.out _) _) ((HO.out.alloc _).alloc _) (Nat.le_refl _) HGR.out⟩
        rw [lv_succ, List.map_append, HY.out]
        exact HOW.out
      case measure => simp [intOf]; omega
    · obtain rfl : k = n := by omega
      go_wp2
      go_ret2
      exact ⟨_, rfl, own_base HO.out (by have := HB5.out.size; omega), bT (bT HB1.out HB5.out) HB.out⟩

set_option maxRecDepth 100000 in
set_option maxHeartbeats 2000000 in
theorem lowest_no (T : Town) (p q : Option Addr) (c d : Nat) (w : World) (hok : T.ok = true) (hk : kn T = none) (ht : TownIn w w.heap.size T p q) :
    Calls Try.prog 26 #[.agg #[.int .i64 T.W, .slice p T.s.length c, .slice q T.r.length d]] w fun e w' => e = .returned (.tuple #[.slice none 0 0, .int .i64 3]) ∧ Below w.heap.size w w' := by
  obtain ⟨w1, hw1, hb1, hz1, k0, k1, k2⟩ := box_town w T.W p q T.s.length T.r.length c d
  have hl1 : w.heap.size < w1.heap.size := by omega
  have hlearn := learn_no T p q c d w1 hok hk ((ht.below hb1).mono hb1.size)
  have HL := Lib.hid hlearn; have HB1 := Lib.hid hb1
  clear hlearn hb1 hz1 ht hok hk
  go_enter Try.func26, Try.ntmps26
  go_wp2_with (first
    | (go_at_call 58; refine HL.out.mono ?_; rintro e w2 ⟨rfl, hb2⟩; have HB2 := Lib.hid hb2; clear hb2)
    | (refine wpList_alloc_kv rfl rfl ?_; intro w3 hr3 hb3 hz3; have HR3 := Lib.hid hr3; have HB3 := Lib.hid hb3; have HZ3 := Lib.hid hz3; clear hr3 hb3 hz3)
    | (refine wpList_store_kv rfl _ _ rfl _ 0 0 Z49 Z49 rfl rfl rfl HR3.out ?_; intro w4 hr4 ho4; go_must (have HB4 := Lib.hid (only_below HB3.out ho4 (Nat.le_refl _)); clear hr4 ho4)))
  go_ret2
  exact ⟨rfl, bT (bT HB1.out HB2.out) HB4.out⟩

set_option maxRecDepth 100000 in
set_option maxHeartbeats 2000000 in
theorem highest_no (T : Town) (p q : Option Addr) (c d : Nat) (w : World) (hok : T.ok = true) (hk : kn T = none) (ht : TownIn w w.heap.size T p q) :
    Calls Try.prog 28 #[.agg #[.int .i64 T.W, .slice p T.s.length c, .slice q T.r.length d]] w fun e w' => e = .returned (.tuple #[.slice none 0 0, .int .i64 3]) ∧ Below w.heap.size w w' := by
  obtain ⟨w1, hw1, hb1, hz1, k0, k1, k2⟩ := box_town w T.W p q T.s.length T.r.length c d
  have hl1 : w.heap.size < w1.heap.size := by omega
  have hlearn := learn_no T p q c d w1 hok hk ((ht.below hb1).mono hb1.size)
  have HL := Lib.hid hlearn; have HB1 := Lib.hid hb1
  clear hlearn hb1 hz1 ht hok hk
  go_enter Try.func28, Try.ntmps28
  go_wp2_with (first
    | (go_at_call 58; refine HL.out.mono ?_; rintro e w2 ⟨rfl, hb2⟩; have HB2 := Lib.hid hb2; clear hb2)
    | (refine wpList_alloc_kv rfl rfl ?_; intro w3 hr3 hb3 hz3; have HR3 := Lib.hid hr3; have HB3 := Lib.hid hb3; have HZ3 := Lib.hid hz3; clear hr3 hb3 hz3)
    | (refine wpList_store_kv rfl _ _ rfl _ 0 0 Z49 Z49 rfl rfl rfl HR3.out ?_; intro w4 hr4 ho4; go_must (have HB4 := Lib.hid (only_below HB3.out ho4 (Nat.le_refl _)); clear hr4 ho4)))
  go_ret2
  exact ⟨rfl, bT (bT HB1.out HB2.out) HB4.out⟩

/-- what Higher answers where the span of the difference is so -/
def hiB (x : Int × Int) : Int := if 0 < x.1 then 1 else if x.2 ≤ 0 then 2 else 3
set_option maxRecDepth 100000 in
set_option maxHeartbeats 4000000 in
theorem higher_ok (T : Town) (M : List Int) (u v : Nat) (p q : Option Addr) (c d : Nat) (w : World) (hok : T.ok = true) (hk : kn T = some M) (hu : (u : Int) < T.W) (hv : (v : Int) < T.W) (ht : TownIn w w.heap.size T p q) :
    Calls Try.prog 35 #[.agg #[.int .i64 T.W, .slice p T.s.length c, .slice q T.r.length d], .int .i64 u, .int .i64 v] w fun e w' =>
      e = .returned (.tuple #[.int .i64 (hiB (dif M (v + 1) (u + 1))), .int .i64 0]) ∧ Below w.heap.size w w' := by
  obtain ⟨w1, hw1, hb1, hz1, k0, k1, k2⟩ := box_town w T.W p q T.s.length T.r.length c d
  have hl1 : w.heap.size < w1.heap.size := by omega
  have hM : M.length = 49 := hTo_len hk
  have hW := ok_W hok
  obtain ⟨⟨y1, y2⟩, hy⟩ : ∃ y, dif M (v + 1) (u + 1) = y := ⟨_, rfl⟩
  have ha : asks T [(u : Int), (v : Int)] = true := by simp [asks, within]; omega
  have hlearn : ∀ W cx g, W.heap.size = g → Below w1.heap.size w1 W → Calls Try.prog 58 #[.agg #[.int .i64 T.W, .slice p T.s.length c, .slice q T.r.length d], .slice (some ⟨g, 0, none⟩) 2 cx] (W.alloc (.cells #[.int .i64 u, .int .i64 v] 3)) fun e w' =>
      e = .returned (.tuple #[.agg (kv T.W M), .int .i64 0]) ∧ Below (W.alloc (.cells #[.int .i64 u, .int .i64 v] 3)).heap.size (W.alloc (.cells #[.int .i64 u, .int .i64 v] 3)) w' := fun W cx g hg hW => by
    subst hg
    exact learn_ok T M p q c d [(u : Int), (v : Int)] _ cx _ hok hk ha (by simp) ((ht.below (bT hb1 (bA hW _))).mono (bT hb1 (bA hW _)).size) (lit2 _ _ (Below.refl _ _))
  have hlev : ∀ W g, RowAt W g T.W M → Calls Try.prog 62 #[.pointer (some ⟨g, 0, none⟩), .int .i64 ((v : Int) + 1), .int .i64 ((u : Int) + 1)] W fun e w' => e = .returned (.agg #[.int .i64 y1, .int .i64 y2]) ∧ Below W.heap.size W w' := fun W g hr => by
    have := differ_any T.W M g (v + 1) (u + 1) W (by omega) (by omega) hr
    rwa [hy] at this
  rw [hy]
  have u0 : (u : Int) ≤ 6 := by omega
  have v0 : (v : Int) ≤ 6 := by omega
  have HL := Lib.hid hlearn; have HV := Lib.hid hlev; have HB1 := Lib.hid hb1
  have HE : Hid (hiB (y1, y2) = if 0 < y1 then 1 else if y2 ≤ 0 then 2 else 3) := rfl
  clear hlearn hlev hb1 hz1 ht hok hk ha hy
  go_enter Try.func35, Try.ntmps35
  go_wp2_with (first
    | (go_at_call 58; refine (HL.out _ _ _ (by simp) (by repeat (first | exact Below.refl _ _ | refine bA ?_ _))).mono ?_; rintro e w2 ⟨rfl, hb2⟩; have HB2 := Lib.hid (bT (by repeat (first | exact Below.refl _ _ | refine bA ?_ _) : Below w1.heap.size w1 _) hb2); clear hb2)
    | (refine wpList_alloc_kv rfl rfl ?_; intro w3 hr3 hb3 hz3; have HR3 := Lib.hid hr3; have HB3 := Lib.hid hb3; have HZ3 := Lib.hid hz3; clear hr3 hb3 hz3)
    | (refine wpList_store_kv rfl _ _ rfl _ T.W 0 M Z49 rfl rfl hM HR3.out ?_; intro w4 hr4 ho4; have HR4 := Lib.hid hr4; have HB4 := Lib.hid (only_below HB3.out ho4 (Nat.le_refl _)); clear hr4 ho4)
    | (go_at_call 63; refine (point_ex _ _ (by omega) (by omega)).mono ?_; rintro e w2 ⟨rfl, rfl⟩)
    | (go_at_call 62; refine (HV.out _ _ HR4.out).mono ?_; rintro e w5 ⟨rfl, hb5⟩; have HB5 := Lib.hid (bT (bT HB2.out HB4.out) hb5); clear hb5))
  all_goals
    go_ret2
    refine ⟨?_, bA (bT HB1.out HB5.out) _⟩
    rw [HE.out]
    first
      | (rw [if_pos (by assumption)]; rfl)
      | (rw [if_neg (by omega), if_pos (by assumption)]; rfl)
      | (rw [if_neg (by omega), if_neg (by omega)]; rfl)

set_option maxRecDepth 100000 in
set_option maxHeartbeats 2000000 in
theorem isKnown_0 (w : World) : Calls Try.prog 85 #[.int .i64 0] w fun e w' => e = .returned (.bool true) ∧ w = w' := by
  go_enter Try.func85, Try.ntmps85
  go_wp2
  go_ret
  exact ⟨rfl, rfl⟩
theorem isKnown_3 (w : World) : Calls Try.prog 85 #[.int .i64 3] w fun e w' => e = .returned (.bool true) ∧ w = w' := by
  go_enter Try.func85, Try.ntmps85
  go_wp2
  go_ret
  exact ⟨rfl, rfl⟩
end Go.Proofs.Ytmfbfcknnjbabaa
