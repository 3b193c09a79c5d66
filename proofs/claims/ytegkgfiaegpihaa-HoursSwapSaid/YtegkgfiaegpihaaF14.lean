/- Rosters of hours: Fair of the program; Lacks of the specification. -/
import Derived.Test.YtegkgfiaegpihaaF13

set_option linter.unusedSimpArgs false

set_option linter.unusedVariables false

namespace Go.Proofs.Ytegkgfiaegpihaa

open Go.RowKit

set_option maxRecDepth 100000 in
set_option maxHeartbeats 8000000 in
theorem fair_ok (D : Ro) (p q : Option Addr) (c d : Nat) (hD : OkP D) (w : World) (hI : RoIn w w.heap.size D p q) (hx : exB D = true) : Calls Try.prog 19 #[.agg #[.slice p D.n c, .slice q D.m d]] w fun e w' => ∃ y c', e = .returned (.tuple #[.slice y D.m c', .int .i64 0]) ∧ Below w.heap.size w w' ∧ NumIn w' w'.heap.size D.m (faF D) y := by
  obtain ⟨w1, x, hw1, hb1, hz1, F0, F1, _⟩ := box_ro w p q D.n D.m c d
  have HB := Lib.hid hb1; have HD := Lib.hid hD
  have HI : Hid (∀ x : Ext w1, RoIn x.v x.v.heap.size D p q) := fun x => (hI.bel hb1).bel x.b
  have hm6 := hD.m; have hn8 := hD.n
  clear hb1 hz1 hI hD
  have HN := Lib.hid (fa_no HD.out hx)
  have HFR := Lib.hid (fun y : Ext w1 => far_is' (c := c) (d := d) HD.out y.v (HI.out y))
  have e0 : exE D = 0 := by unfold exE; rw [hx]; rfl
  rw [e0] at HFR
  unfold faF
  obtain ⟨F, hF⟩ : ∃ F, tM D = F := ⟨_, rfl⟩
  rw [hF] at HN HFR ⊢
  clear hx e0 hF
  have j0 : ((0 : Int) != 0) = false := by decide
  go_enter Try.func19, Try.ntmps19
  go_wp2_with fail
  refine (quiet_x (HFR.out _)).mono ?_
  rintro e w' ⟨rfl, y, rfl⟩
  go_wp2
  refine wp_region_lastE 15 (by kernel_rfl) rfl (fun y0 => ?_)
  refine wpAnyG_take (i := 0) (v := ?_) (by kernel_rfl) rfl (by kernel_rfl) (by kernel_rfl) (by kernel_rfl) (fun _ _ _ h => h) (Or.inl ⟨by rfl, ?_⟩) ⟨_, rfl⟩ ?_
  rotate_left
  · rintro wS ⟨yS, rfl⟩
    go_simp
    try (with_reducible rfl)
  try simp only [Act.put, List.setIfInBounds_toArray, List.set_cons_zero, List.set_cons_succ]
  refine wpAnyG_take (i := 1) (v := ?_) (by kernel_rfl) rfl (by kernel_rfl) (by kernel_rfl) (by kernel_rfl) (fun _ _ _ h => h) (Or.inl ⟨by rfl, ?_⟩) ⟨_, rfl⟩ ?_
  rotate_left
  · rintro wS ⟨yS, rfl⟩
    go_simp
    try (with_reducible rfl)
  try simp only [Act.put, List.setIfInBounds_toArray, List.set_cons_zero, List.set_cons_succ]
  refine wpAnyG_take (i := 3) (v := ?_) (by kernel_rfl) rfl (by kernel_rfl) (by kernel_rfl) (by kernel_rfl) (fun _ _ _ h => h) (Or.inl ⟨by rfl, ?_⟩) ⟨_, rfl⟩ ?_
  rotate_left
  · rintro wS ⟨yS, rfl⟩
    go_simp
    try (with_reducible rfl)
  try simp only [Act.put, List.setIfInBounds_toArray, List.set_cons_zero, List.set_cons_succ]
  refine wpAnyG_take (i := 4) (v := ?_) (by kernel_rfl) rfl (by kernel_rfl) (by kernel_rfl) (by kernel_rfl) (fun _ _ _ h => h) (Or.inl ⟨by rfl, ?_⟩) ⟨_, rfl⟩ ?_
  rotate_left
  · rintro wS ⟨yS, rfl⟩
    go_simp
    try (with_reducible rfl)
  try simp only [Act.put, List.setIfInBounds_toArray, List.set_cons_zero, List.set_cons_succ]
  refine wpAnyG_one (i := 2) (by kernel_rfl) (by decide) (wpOp_plain rfl rfl ?_)
  go_simp
  go_at_call 64
  refine (costs_any D p q c d HD.out _ (HI.out y0)).mono ?_
  rintro e y1w ⟨c1, rfl, hb1, hp1⟩
  obtain ⟨y1, rfl⟩ : ∃ zz : Ext w1, y1w = zz.v := ⟨⟨y1w, bT y0.b hb1⟩, rfl⟩
  refine ⟨⟨_, rfl⟩, ?_⟩
  try simp only [Act.put, List.setIfInBounds_toArray, List.set_cons_zero, List.set_cons_succ]
  have HP1 := Lib.hid hp1; clear hp1 hb1
  refine wpAnyG_one (i := 5) (by kernel_rfl) (by decide) (wpOp_plain rfl rfl ?_)
  go_simp
  go_at_call 67
  refine (withinF_any D p q c d F HD.out _ (HI.out y1)).mono ?_
  rintro e y2w ⟨c2, rfl, hb2, hm2⟩
  obtain ⟨y2, rfl⟩ : ∃ zz : Ext w1, y2w = zz.v := ⟨⟨y2w, bT y1.b hb2⟩, rfl⟩
  refine ⟨⟨_, rfl⟩, ?_⟩
  try simp only [Act.put, List.setIfInBounds_toArray, List.set_cons_zero, List.set_cons_succ]
  have HM2 := Lib.hid hm2; have HP2 := Lib.hid (HP1.out.up hb2); clear hm2 hb2
  refine wpAnyG_one (i := 6) (by kernel_rfl) (by decide) (wpOp_plain rfl rfl ?_)
  go_simp
  go_at_call 66
  refine (only_any D (prC D) _ _ _ c1 c2 y2.v HP2.out HM2.out).mono ?_
  rintro e y3w ⟨c3, rfl, hb3, hp3⟩
  obtain ⟨y3, rfl⟩ : ∃ zz : Ext w1, y3w = zz.v := ⟨⟨y3w, bT y2.b hb3⟩, rfl⟩
  refine ⟨⟨_, rfl⟩, ?_⟩
  try simp only [Act.put, List.setIfInBounds_toArray, List.set_cons_zero, List.set_cons_succ]
  have HP3 := Lib.hid hp3; clear hp3 hb3
  refine wpAnyG_one (i := 7) (by kernel_rfl) (by decide) (wpOp_plain rfl rfl ?_)
  go_simp
  go_at_call 63
  refine (newFinder_any D (pF D F) p q c d _ c3 y3.v).mono ?_
  rintro e y4w ⟨fb, mb, rfl, hb4, hf4⟩
  obtain ⟨y4, rfl⟩ : ∃ zz : Ext w1, y4w = zz.v := ⟨⟨y4w, bT y3.b hb4⟩, rfl⟩
  refine ⟨⟨_, rfl⟩, ?_⟩
  try simp only [Act.put, List.setIfInBounds_toArray, List.set_cons_zero, List.set_cons_succ]
  have HF4 := Lib.hid hf4; clear hf4 hb4
  refine wpAnyG_one (i := 8) (by kernel_rfl) (by decide) (wpOp_plain rfl rfl ?_)
  go_simp
  go_at_call 65
  refine (first_ok y3.v D (pF D F) p q c d 96 c3 fb mb HD.out (pF_bd HD.out _) HP3.out (HI.out y3) HN.out y4.v HF4.out).mono ?_
  rintro e y5w ⟨yv, cy, rfl, hg5, hm5, hny⟩
  obtain ⟨y5, rfl⟩ : ∃ zz : Ext w1, y5w = zz.v := ⟨⟨y5w, bT y3.b (HF4.out.gr hg5 hm5).b⟩, rfl⟩
  refine ⟨⟨_, rfl⟩, ?_⟩
  try simp only [Act.put, List.setIfInBounds_toArray, List.set_cons_zero, List.set_cons_succ]
  clear hg5 hm5
  refine wpAnyG_take (i := 9) (v := ?_) (by kernel_rfl) rfl (by kernel_rfl) (by kernel_rfl) (by kernel_rfl) (fun _ _ _ h => h) (Or.inl ⟨by rfl, ?_⟩) ⟨_, rfl⟩ ?_
  rotate_left
  · rintro wS ⟨yS, rfl⟩
    go_simp
    try (with_reducible rfl)
  try simp only [Act.put, List.setIfInBounds_toArray, List.set_cons_zero, List.set_cons_succ]
  refine wpAnyG_take (i := 10) (v := ?_) (by kernel_rfl) rfl (by kernel_rfl) (by kernel_rfl) (by kernel_rfl) (fun _ _ _ h => h) (Or.inl ⟨by rfl, ?_⟩) ⟨_, rfl⟩ ?_
  rotate_left
  · rintro wS ⟨yS, rfl⟩
    go_simp
    try (with_reducible rfl)
  try simp only [Act.put, List.setIfInBounds_toArray, List.set_cons_zero, List.set_cons_succ]
  refine wpAnyG_one (i := 11) (by kernel_rfl) (by decide) (wpOp_plain rfl rfl ?_)
  go_simp
  go_at_call 62
  refine (orNone_list _ _).mono ?_
  rintro e w' ⟨rfl, rfl⟩
  refine ⟨⟨_, rfl⟩, ?_⟩
  try simp only [Act.put, List.setIfInBounds_toArray, List.set_cons_zero, List.set_cons_succ]
  refine wpAnyG_take (i := 12) (v := ?_) (by kernel_rfl) rfl (by kernel_rfl) (by kernel_rfl) (by kernel_rfl) (fun _ _ _ h => h) (Or.inl ⟨by rfl, ?_⟩) ⟨_, rfl⟩ ?_
  rotate_left
  · rintro wS ⟨yS, rfl⟩
    go_simp
    try (with_reducible rfl)
  try simp only [Act.put, List.setIfInBounds_toArray, List.set_cons_zero, List.set_cons_succ]
  refine wpAnyG_take (i := 13) (v := ?_) (by kernel_rfl) rfl (by kernel_rfl) (by kernel_rfl) (by kernel_rfl) (fun _ _ _ h => h) (Or.inl ⟨by rfl, ?_⟩) ⟨_, rfl⟩ ?_
  rotate_left
  · rintro wS ⟨yS, rfl⟩
    go_simp
    try (with_reducible rfl)
  try simp only [Act.put, List.setIfInBounds_toArray, List.set_cons_zero, List.set_cons_succ]
  refine wpAnyG_take (i := 14) (v := ?_) (by kernel_rfl) rfl (by kernel_rfl) (by kernel_rfl) (by kernel_rfl) (fun _ _ _ h => h) (Or.inl ⟨by rfl, ?_⟩) ⟨_, rfl⟩ ?_
  rotate_left
  · rintro wS ⟨yS, rfl⟩
    go_simp
    try (with_reducible rfl)
  try simp only [Act.put, List.setIfInBounds_toArray, List.set_cons_zero, List.set_cons_succ]
  refine wpAnyG_done (by kernel_rfl) (by kernel_rfl) (wpOp_plain rfl rfl ?_)
  go_simp
  go_wp2
  go_ret2
  exact ⟨_, _, rfl, bT HB.out y5.b, hny⟩
set_option maxRecDepth 100000 in
set_option maxHeartbeats 4000000 in
theorem fair_no (D : Ro) (p q : Option Addr) (c d : Nat) (hD : OkP D) (w : World) (hI : RoIn w w.heap.size D p q) (hx : exB D = false) : Calls Try.prog 19 #[.agg #[.slice p D.n c, .slice q D.m d]] w fun e w' => e = .returned (.tuple #[.slice none 0 0, .int .i64 3]) ∧ Below w.heap.size w w' := by
  obtain ⟨w1, x, hw1, hb1, hz1, F0, F1, _⟩ := box_ro w p q D.n D.m c d
  have HB := Lib.hid hb1; have HD := Lib.hid hD
  have HI : Hid (∀ x : Ext w1, RoIn x.v x.v.heap.size D p q) := fun x => (hI.bel hb1).bel x.b
  clear hb1 hz1 hI hD
  have HFR := Lib.hid (fun y : Ext w1 => far_is' (c := c) (d := d) HD.out y.v (HI.out y))
  have e0 : exE D = 3 := by unfold exE; rw [hx]; rfl
  rw [e0] at HFR
  clear hx e0
  have j0 : ((3 : Int) != 0) = true := by decide
  go_enter Try.func19, Try.ntmps19
  go_wp2_with fail
  refine (quiet_x (HFR.out _)).mono ?_
  rintro e w' ⟨rfl, y, rfl⟩
  go_wp2
  go_ret2
  exact ⟨rfl, bT HB.out y.b⟩
set_option maxRecDepth 100000 in
set_option maxHeartbeats 4000000 in
theorem lacksR_any (D : Ro) (p q : Option Addr) (c d lo hi : Nat) (w : World) (hD : OkP D) (hlo : lo ≤ hi) (hhi : hi < D.n) (hi0 : RoIn w w.heap.size D p q) :
    Calls Try.prog 22 #[.agg #[.slice p D.n c, .slice q D.m d], .agg #[.int .i64 (lo : Int), .int .i64 (hi : Int)]] w fun e w' => e = .returned (.bool (lacksB D lo hi)) ∧ Below w.heap.size w w' := by
  obtain ⟨wa, xa, hw1, hba, hza, A0, A1, _⟩ := box_ro w p q D.n D.m c d
  obtain ⟨w1, x, hw2, hb2, hz2, G0, G1, _⟩ := box_span xa.v (lo : Int) (hi : Int)
  have hbx : Below wa.heap.size wa w1 := bT xa.b hb2
  have HB := Lib.hid (bT hba hbx)
  have F0 : ∀ z : Ext w1, z.v.cell? ⟨w.heap.size, 0, none⟩ = some (.slice p D.n c) := fun z => A0 (z.up hbx)
  have F1 : ∀ z : Ext w1, z.v.cell? ⟨w.heap.size, 1, none⟩ = some (.slice q D.m d) := fun z => A1 (z.up hbx)
  have HI : Hid (∀ x : Ext w1, RoIn x.v x.v.heap.size D p q) := fun x => (hi0.bel HB.out).bel x.b
  have HD := Lib.hid hD
  have hm6 := hD.m; have hn8 := hD.n
  obtain ⟨b, o, rfl, hbl, _⟩ := (hi0.rm) (by omega)
  clear hba hza hb2 hz2 hi0 hD hbx A0 A1
  obtain ⟨j, hj⟩ : ∃ j, hi + 1 - lo = j := ⟨_, rfl⟩
  have HR : Hid (∀ i, i ≤ j → 0 ≤ rmS D lo i ∧ rmS D lo i ≤ 48) := fun i hi' => by have := rmS_bd HD.out (lo := lo) (j := i) (by omega); omega
  go_enter Try.func22, Try.ntmps22
  go_wp2
  clear hw1 hw2
  have HS0 := Lib.hid (fun (x : Nat) (h1 : lo ≤ x) => (show rmS D lo (x + 1 - lo) = rmS D lo (x - lo) + D.rm x from by
    rw [show x + 1 - lo = (x - lo) + 1 by omega]; simp only [rmS, sumN]; rw [show lo + (x - lo) = x by omega]))
  go_loopw [5, 6] (fun v i wr => ∃ k : Nat, i = .int .i64 (k : Int) ∧ lo ≤ k ∧ v = .int .i64 (-rmS D lo (k - lo)) ∧ k ≤ hi + 1 ∧ ∃ z : Ext w1, wr = z.v) (fun v i _ => (hi + 1) - (intOf i).toNat)
  case atStart => exact ⟨lo, rfl, Nat.le_refl _, by simp [rmS, sumN], by omega, x, rfl⟩
  case round =>
    obtain ⟨k, rfl, hlk, rfl, hk, z, rfl⟩ := hrel
    by_cases hlt : k < hi + 1
    · have E0 : z.v.cell? ⟨b, o + k, none⟩ = some (.int .i64 (D.rm k)) := sp_at (HI.out z).rm (k := k) (by omega)
      have jk : decide ((k : Int) ≤ (hi : Int)) = true := by simp; omega
      have hkj : (k : Int) < (D.n : Int) := by omega
      have hs := HS0.out k hlk
      have t1 : IntKind.i64.wrap (-rmS D lo (k - lo) - D.rm k) = -rmS D lo (k + 1 - lo) := by
        have := HR.out (k + 1 - lo) (by omega)
        rw [IntWalk.i64_in _ (by omega)]; omega
      clear hs
      go_wp2
      go_roundw
      case rel => exact ⟨k + 1, by go_num, by omega, rfl, hlt, z, rfl⟩
      case measure => first | (simp [intOf]; done) | (simp [intOf]; omega)
    · have hke : k = hi + 1 := by omega
      subst hke
      have jk : decide (((hi + 1 : Nat) : Int) ≤ (hi : Int)) = false := by simp; omega
      have jn : ¬ ((hi + 1 : Nat) : Int) ≤ (hi : Int) := by omega
      have HRJ := Lib.hid (HR.out j (Nat.le_refl _))
      have HKJ := Lib.hid hj
      obtain ⟨rj, hrj⟩ : ∃ r, -rmS D lo (hi + 1 - lo) = r := ⟨_, rfl⟩
      have HRV := Lib.hid (show -rmS D lo j = rj by rw [← hj]; exact hrj)
      rw [hrj]
      obtain ⟨x2, hx2⟩ : ∃ n, hi + 1 = n := ⟨_, rfl⟩
      rw [hx2] at jk jn ⊢
      clear hx2 hrj hk hlt hbl hj hlk
      go_wp2
      go_loopw [5, 7] (fun v i wr => ∃ k2 : Nat, i = .int .i64 (k2 : Int) ∧ v = .int .i64 (rj + cntS D lo hi k2) ∧ k2 ≤ D.m ∧ ∃ z : Ext w1, wr = z.v) (fun v i _ => D.m - (intOf i).toNat)
      case atStart => exact ⟨0, rfl, by simp [cntS, sumN], Nat.zero_le _, z, rfl⟩
      case round =>
        obtain ⟨k2, rfl, rfl, hk2, z2, rfl⟩ := hrel
        by_cases hlt : k2 < D.m
        · obtain ⟨b2, o2, rfl, hbl2, _⟩ := (HI.out z2).st (by omega)
          have c0 : ∀ y : Ext w1, y.v.cell? ⟨b2, o2 + k2 * 4, none⟩ = some (.int .i64 (D.hs k2)) := fun y => (HI.out y).c0 hlt
          have c1 : ∀ y : Ext w1, y.v.cell? ⟨b2, o2 + k2 * 4 + 1, none⟩ = some (.int .i64 (D.fr k2)) := fun y => (HI.out y).c1 hlt
          have c2 : ∀ y : Ext w1, y.v.cell? ⟨b2, o2 + k2 * 4 + 2, none⟩ = some (.int .i64 (D.to k2)) := fun y => (HI.out y).c2 hlt
          have jk2 : decide ((k2 : Int) < (D.m : Int)) = true := by simp; omega
          have hkm : (k2 : Int) < (D.m : Int) := by omega
          have hcs : cntS D lo hi (k2 + 1) = cntS D lo hi k2 + (if inSp D lo hi k2 then 1 else 0) := rfl
          have hcb := cntS_bd (D := D) (lo := (lo : Int)) (hi := (hi : Int)) (k := k2)
          have hrj := HRJ.out
          have t1 : IntKind.i64.wrap (rj + cntS D lo hi k2 + 1) = rj + cntS D lo hi k2 + 1 := IntWalk.i64_in _ (by have := HRV.out; omega)
          clear hbl2 hcb hrj
          cases h1 : decide ((lo : Int) ≤ D.fr k2) with
          | false =>
            have HS := Lib.hid (show cntS D lo hi (k2 + 1) = cntS D lo hi k2 by rw [hcs, show inSp D lo hi k2 = false by simp only [inSp, h1, Bool.false_and]]; simp)
            have n1 : ¬ (lo : Int) ≤ D.fr k2 := by simpa using h1
            clear hcs t1
            go_wp2
            refine quiet_e (by kernel_rfl) (by kernel_rfl) ?_
            repeat (first | go_big_quiet_step (fail) | quiet_step (fail))
            refine wpQuiet_nil ?_
            intro w6 hw6
            obtain ⟨y3, rfl⟩ := hw6
            go_wp2
            go_roundw
            case rel => exact ⟨k2 + 1, by go_num, by rw [HS.out], hlt, y3, rfl⟩
            case measure => first | (simp [intOf]; done) | (simp [intOf]; omega)
          | true =>
            have n1 : (lo : Int) ≤ D.fr k2 := by simpa using h1
            cases h2 : decide (D.to k2 ≤ (hi : Int)) with
            | false =>
              have n2 : ¬ D.to k2 ≤ (hi : Int) := by simpa using h2
              have HS := Lib.hid (show cntS D lo hi (k2 + 1) = cntS D lo hi k2 by rw [hcs, show inSp D lo hi k2 = false by simp only [inSp, h1, h2, Bool.and_false]]; simp)
              clear hcs t1
              go_wp2
              refine quiet_e (by kernel_rfl) (by kernel_rfl) ?_
              repeat (first | go_big_quiet_step (fail) | quiet_step (fail))
              refine wpQuiet_nil ?_
              intro w6 hw6
              obtain ⟨y3, rfl⟩ := hw6
              go_wp2
              go_roundw
              case rel => exact ⟨k2 + 1, by go_num, by rw [HS.out], hlt, y3, rfl⟩
              case measure => first | (simp [intOf]; done) | (simp [intOf]; omega)
            | true =>
              have n2 : D.to k2 ≤ (hi : Int) := by simpa using h2
              have HS := Lib.hid (show rj + cntS D lo hi k2 + 1 = rj + cntS D lo hi (k2 + 1) by rw [hcs, show inSp D lo hi k2 = true by simp only [inSp, h1, h2, Bool.and_self], if_pos rfl]; omega)
              clear hcs
              go_wp2
              refine quiet_e (by kernel_rfl) (by kernel_rfl) ?_
              repeat (first | go_big_quiet_step (fail) | quiet_step (fail))
              refine wpQuiet_nil ?_
              intro w6 hw6
              obtain ⟨y3, rfl⟩ := hw6
              go_wp2
              go_roundw
              case rel => exact ⟨k2 + 1, by go_num, by rw [← HS.out], hlt, y3, rfl⟩
              case measure => first | (simp [intOf]; done) | (simp [intOf]; omega)
        · have hke : k2 = D.m := by omega
          subst hke
          have jk2 : decide ((D.m : Int) < (D.m : Int)) = false := by simp
          have HRR := Lib.hid (show decide (0 < rj + cntS D lo hi D.m) = lacksB D lo hi by unfold lacksB; rw [HKJ.out, decide_eq_decide]; have := HRV.out; omega)
          clear hk2 hlt
          go_wp2
          all_goals
            go_ret
            exact ⟨ret_b (by rw [← HRR.out]), bT HB.out z2.b⟩
theorem lacksR_is {D : Ro} {p q : Option Addr} {c d lo hi : Nat} {b : Bool} (h : lacksB D lo hi = b) (w : World) (hD : OkP D) (hlo : lo ≤ hi) (hhi : hi < D.n) (hi0 : RoIn w w.heap.size D p q) :
    Calls Try.prog 22 #[.agg #[.slice p D.n c, .slice q D.m d], .agg #[.int .i64 (lo : Int), .int .i64 (hi : Int)]] w fun e w' => e = .returned (.bool b) ∧ Below w.heap.size w w' := by
  subst h; exact lacksR_any D p q c d lo hi w hD hlo hhi hi0
end Go.Proofs.Ytegkgfiaegpihaa
