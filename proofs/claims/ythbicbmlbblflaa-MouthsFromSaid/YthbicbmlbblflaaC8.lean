/- Boxes of mouths: the greatest one, fractions in lowest terms, and parts of a flow. -/
import Derived.Test.YthbicbmlbblflaaC7

import Derived.Test.YthbicbmlbblflaaM4

set_option linter.unusedSimpArgs false

set_option linter.unusedVariables false

namespace Go.Proofs.Ythbicbmlbblflaa

open Go.RowKit

theorem grt_lt' (f : Nat → Int) {k l : Nat} (hk : k ≤ l) (hl : 0 < l) : grt f k < l := by
  rcases Nat.eq_zero_or_pos k with rfl | h
  · exact hl
  · exact Nat.lt_of_lt_of_le (grt_lt f h) hk
set_option maxRecDepth 100000 in
set_option maxHeartbeats 2000000 in
theorem greatest_any (l c : Nat) (f : Nat → Int) (q : Option Addr) (w : World) (hl : l ≤ 1000) (hp : 0 < l) (hi : NumIn w w.heap.size l f q) :
    Calls Try.prog 88 #[.slice q l c] w fun e w' => e = .returned (.int .i64 (grt f l : Int)) ∧ w = w' := by
  have HI := Lib.hid hi; clear hi
  go_enter Try.func88, Try.ntmps88
  go_wp2
  go_loopw [8, 3] (fun i s wr => ∃ k : Nat, i = .int .i64 k ∧ s = .int .i64 (grt f k : Int) ∧ k ≤ l ∧ wr = w) (fun i _ _ => l - (intOf i).toNat)
  case atStart => exact ⟨0, rfl, rfl, Nat.zero_le _, rfl⟩
  case round =>
    obtain ⟨k, rfl, rfl, hk, rfl⟩ := hrel
    by_cases hlt : k < l
    · obtain ⟨b, o, rfl, _, hc⟩ := HI.out (by omega)
      have e0 := hc k hlt
      have hgl := grt_lt' f hk hp
      have e1 := hc (grt f k) hgl
      obtain ⟨u, hu⟩ : ∃ u, grt f k = u := ⟨_, rfl⟩
      have HU := Lib.hid hu
      rw [hu] at e1 hgl ⊢
      clear hc hu
      have hkm : (k : Int) < (l : Int) := by omega
      have hkg : (u : Int) < (l : Int) := by omega
      by_cases hc : f u < f k
      · have j : decide (f u < f k) = true := by simpa using hc
        have HN := Lib.hid (show grt f (k + 1) = k from if_pos (by rw [HU.out]; exact hc))
        clear hc
        go_wp2
        go_roundw
        case rel => exact ⟨k + 1, by go_num, by rw [HN.out], hlt, by first | rfl | trivial⟩
        case measure => first | (simp [intOf]; done) | (simp [intOf]; omega)
      · have j : decide (f u < f k) = false := by simpa using hc
        have HN := Lib.hid (show grt f (k + 1) = u from (if_neg (by rw [HU.out]; exact hc)).trans HU.out)
        clear hc
        go_wp2
        go_roundw
        case rel => exact ⟨k + 1, by go_num, by rw [HN.out], hlt, by first | rfl | trivial⟩
        case measure => first | (simp [intOf]; done) | (simp [intOf]; omega)
    · have HR := Lib.hid (show k = l by omega)
      have j : decide ((k : Int) < (l : Int)) = false := by simp; omega
      go_wp2
      go_ret
      exact ⟨by rw [HR.out]; rfl, rfl⟩
def rN (a b : Nat) : Int := ((a / Nat.gcd a b : Nat) : Int)
def rD (a b : Nat) : Int := ((b / Nat.gcd a b : Nat) : Int)
theorem box_ratio (w : World) : ∃ (w1 : World) (x : Ext w1), w.alloc (Obj.cells #[Value.int .i64 0, Value.int .i64 0] 63) = x.v ∧ Below w.heap.size w w1 ∧ w1.heap.size = w.heap.size + 1 ∧
      (∀ x : Ext w1, x.v.cell? ⟨w.heap.size, 0, none⟩ = some (.int .i64 0)) ∧ (∀ x : Ext w1, x.v.cell? ⟨w.heap.size, 1, none⟩ = some (.int .i64 0)) ∧ (∀ (x : Ext w1) i, x.v.frozen? ⟨w.heap.size, i, none⟩ = false) := by
  have h0 : (w.alloc (Obj.cells #[Value.int .i64 0, Value.int .i64 0] 63)).cell? ⟨w.heap.size, 0, none⟩ = some (.int .i64 0) := by go_simp
  have h1 : (w.alloc (Obj.cells #[Value.int .i64 0, Value.int .i64 0] 63)).cell? ⟨w.heap.size, 1, none⟩ = some (.int .i64 0) := by go_simp
  have h2 : ∀ i, (w.alloc (Obj.cells #[Value.int .i64 0, Value.int .i64 0] 63)).frozen? ⟨w.heap.size, i, none⟩ = false := fun i => by go_simp
  exact ⟨_, ⟨_, Below.refl _ _⟩, rfl, bA (Below.refl _ _) _, by simp, fun x => (x.b.cell (p := ⟨w.heap.size, 0, none⟩) (by simp)).trans h0, fun x => (x.b.cell (p := ⟨w.heap.size, 1, none⟩) (by simp)).trans h1, fun x i => (x.b.frozen (p := ⟨w.heap.size, i, none⟩) (by simp)).trans (h2 i)⟩
theorem tmod_nat (x y : Nat) : (x : Int).tmod (y : Int) = ((x % y : Nat) : Int) := by rw [Int.tmod_eq_emod_of_nonneg (by omega)]; rfl
theorem tdiv_nat (x y : Nat) : (x : Int).tdiv (y : Int) = ((x / y : Nat) : Int) := by rw [Int.tdiv_eq_ediv_of_nonneg (by omega)]; rfl
theorem gcd_step {a b x y : Nat} (h : Nat.gcd x y = Nat.gcd a b) : Nat.gcd y (x % y) = Nat.gcd a b := by
  rw [← h, Nat.gcd_comm y, ← Nat.gcd_rec, Nat.gcd_comm]
set_option maxRecDepth 100000 in
set_option maxHeartbeats 4000000 in
theorem lowest_any (a b : Nat) (w : World) (ha : a ≤ 1000) (hb : 0 < b) (hb2 : b ≤ 1000) :
    Calls Try.prog 87 #[.int .i64 (a : Int), .int .i64 (b : Int)] w fun e w' => e = .returned (.agg #[.int .i64 (rN a b), .int .i64 (rD a b)]) ∧ Below w.heap.size w w' := by
  obtain ⟨w1, x1, hw1, hb1, hz1, F0, F1, Ff⟩ := box_ratio w
  have HB := Lib.hid hb1; have HF := Lib.hid Ff; have HF0 := Lib.hid F0; have HF1 := Lib.hid F1
  clear hb1 hz1 F0 F1 Ff
  go_enter Try.func87, Try.ntmps87
  go_wp2
  clear hw1
  go_loopw [5, 6] (fun i s wr => ∃ x y : Nat, i = .int .i64 (x : Int) ∧ s = .int .i64 (y : Int) ∧ Nat.gcd x y = Nat.gcd a b ∧ x ≤ 1000 ∧ y ≤ 1000 ∧ ∃ z : Ext w1, wr = z.v) (fun _ s _ => (intOf s).toNat)
  case atStart => exact ⟨a, b, rfl, rfl, rfl, ha, hb2, x1, rfl⟩
  case round =>
    obtain ⟨x, y, rfl, rfl, hg, hx, hy, z, rfl⟩ := hrel
    clear x1
    have HG := Lib.hid hg; clear hg
    by_cases h0 : y = 0
    · subst h0
      have hxg : x = Nat.gcd a b := by have := HG.out; simpa using this
      have HXG := Lib.hid hxg
      have hxp : 0 < x := by rw [hxg]; exact Nat.gcd_pos_of_pos_right _ hb
      have HXP := Lib.hid hxp
      clear hxg
      have jx : ((x : Int) == 0) = false := by simp; omega
      have hx0 : ¬ x = 0 := by omega
      have t1 := tdiv_nat a x
      have t2 := tdiv_nat b x
      have t1' : (a : Int) / (x : Int) = ((a / x : Nat) : Int) := rfl
      have t2' : (b : Int) / (x : Int) = ((b / x : Nat) : Int) := rfl
      have d1 : a / x ≤ a := Nat.div_le_self _ _
      have d2 : b / x ≤ b := Nat.div_le_self _ _
      obtain ⟨u, hu⟩ : ∃ u, a / x = u := ⟨_, rfl⟩
      obtain ⟨v, hv⟩ : ∃ v, b / x = v := ⟨_, rfl⟩
      have HU := Lib.hid hu; have HV := Lib.hid hv
      rw [hu] at t1 t1' d1; rw [hv] at t2 t2' d2
      have e1 : IntKind.i64.wrap (u : Int) = (u : Int) := IntWalk.i64_in _ (by omega)
      have e2 : IntKind.i64.wrap (v : Int) = (v : Int) := IntWalk.i64_in _ (by omega)
      clear hu hv hxp d1 d2
      have F0 := HF0.out; have F1 := HF1.out; have Ff := HF.out
      go_wp2
      refine wp_region_lastE 7 (by kernel_rfl) rfl (fun yr => ?_)
      refine wpAnyG_take (i := 0) (v := ?_) (by kernel_rfl) rfl (by kernel_rfl) (by kernel_rfl) (by kernel_rfl) (fun _ _ _ h => h) (Or.inl ⟨by rfl, ?_⟩) ⟨_, rfl⟩ ?_
      rotate_left
      · rintro wS ⟨yS, rfl⟩
        go_simp
        try (with_reducible rfl)
      try simp only [Act.put, List.setIfInBounds_toArray, List.set_cons_zero, List.set_cons_succ]
      refine wpAnyG_take (i := 1) (v := ?_) (by kernel_rfl) rfl (by kernel_rfl) (by kernel_rfl) (by kernel_rfl) (fun _ _ _ h => h) (Or.inl ⟨by rfl, ?_⟩) ⟨_, rfl⟩ ?_
      rotate_left
      · rintro wS ⟨yS, rfl⟩
        go_simp
        try (with_reducible rfl)
      try simp only [Act.put, List.setIfInBounds_toArray, List.set_cons_zero, List.set_cons_succ]
      refine wpAnyG_take (i := 2) (v := ?_) (by kernel_rfl) rfl (by kernel_rfl) (by kernel_rfl) (by kernel_rfl) (fun _ _ _ h => h) (Or.inl ⟨by rfl, ?_⟩) ⟨_, rfl⟩ ?_
      rotate_left
      · rintro wS ⟨yS, rfl⟩
        go_simp
        try (with_reducible rfl)
      try simp only [Act.put, List.setIfInBounds_toArray, List.set_cons_zero, List.set_cons_succ]
      refine wpAnyG_take (i := 3) (v := ?_) (by kernel_rfl) rfl (by kernel_rfl) (by kernel_rfl) (by kernel_rfl) (fun _ _ _ h => h) (Or.inl ⟨by rfl, ?_⟩) ⟨_, rfl⟩ ?_
      rotate_left
      · rintro wS ⟨yS, rfl⟩
        go_simp
        try (with_reducible rfl)
      try simp only [Act.put, List.setIfInBounds_toArray, List.set_cons_zero, List.set_cons_succ]
      refine wpAnyG_take (i := 4) (v := ?_) (by kernel_rfl) rfl (by kernel_rfl) (by kernel_rfl) (by kernel_rfl) (fun _ _ _ h => h) (Or.inl ⟨by rfl, ?_⟩) ⟨_, rfl⟩ ?_
      rotate_left
      · rintro wS ⟨yS, rfl⟩
        go_simp
        try (with_reducible rfl)
      try simp only [Act.put, List.setIfInBounds_toArray, List.set_cons_zero, List.set_cons_succ]
      refine wpAnyG_take (i := 5) (v := ?_) (by kernel_rfl) rfl (by kernel_rfl) (by kernel_rfl) (by kernel_rfl) (fun _ _ _ h => h) (Or.inl ⟨by rfl, ?_⟩) ⟨_, rfl⟩ ?_
      rotate_left
      · rintro wS ⟨yS, rfl⟩
        go_simp
        try (with_reducible rfl)
      try simp only [Act.put, List.setIfInBounds_toArray, List.set_cons_zero, List.set_cons_succ]
      refine wpAnyG_take (i := 6) (v := ?_) (by kernel_rfl) rfl (by kernel_rfl) (by kernel_rfl) (by kernel_rfl) (fun _ _ _ h => h) (Or.inl ⟨by rfl, ?_⟩) ⟨_, rfl⟩ ?_
      rotate_left
      · rintro wS ⟨yS, rfl⟩
        go_simp
        try (with_reducible rfl)
      try simp only [Act.put, List.setIfInBounds_toArray, List.set_cons_zero, List.set_cons_succ]
      refine wpAnyG_done (by kernel_rfl) (by kernel_rfl) (wpOp_plain rfl rfl ?_)
      go_simp
      go_wp2
      refine bodyPost_ret (v := .agg #[.int .i64 (u : Int), .int .i64 (v : Int)]) (by simp [results, Try.f87, go_sem, F0, F1, Ff]) rfl ⟨?_, ?_⟩
      · rw [← HU.out, ← HV.out, HXG.out]; rfl
      · exact bS (bS (bT HB.out yr.b) (Nat.le_refl _) _) (Nat.le_refl _) _
    · have jy : ((y : Int) == 0) = false := by simp; omega
      have jy2 : ((y : Int) != 0) = true := by simp; omega
      have t1 := tmod_nat x y
      have t1' : (x : Int) % (y : Int) = ((x % y : Nat) : Int) := rfl
      have hml := Nat.mod_lt x (show y > 0 by omega)
      have HGS := Lib.hid (gcd_step HG.out)
      obtain ⟨u, hu⟩ : ∃ u, x % y = u := ⟨_, rfl⟩
      have HU := Lib.hid hu
      rw [hu] at t1 t1' hml
      have e1 : IntKind.i64.wrap (u : Int) = (u : Int) := IntWalk.i64_in _ (by omega)
      clear hu
      go_wp2
      refine quiet_e (by kernel_rfl) (by kernel_rfl) ?_
      repeat (first | go_big_quiet_step (fail) | quiet_step (fail))
      refine wpQuiet_nil ?_
      intro w6 hw6
      obtain ⟨y2, rfl⟩ := hw6
      go_wp2
      go_roundw
      case rel => exact ⟨y, u, rfl, rfl, by rw [← HU.out]; exact HGS.out, hy, by omega, y2, rfl⟩
      case measure => simp [intOf]; omega
set_option maxRecDepth 100000 in
set_option maxHeartbeats 4000000 in
theorem reduced_any (a b : Nat) (w : World) (ha : a ≤ 1000) (hb : 0 < b) (hb2 : b ≤ 1000) :
    Calls Try.prog 56 #[.int .i64 (a : Int), .int .i64 (b : Int)] w fun e w' => e = .returned (.agg #[.int .i64 (rN a b), .int .i64 (rD a b)]) ∧ Below w.heap.size w w' := by
  obtain ⟨w1, x1, hw1, hb1, hz1, F0, F1, Ff⟩ := box_ratio w
  have HB := Lib.hid hb1; have HF := Lib.hid Ff; have HF0 := Lib.hid F0; have HF1 := Lib.hid F1
  have em : IntKind.i64.wrap (-(a : Int)) = -(a : Int) := IntWalk.i64_in _ (by omega)
  have hmx : (if (a : Int) < -(a : Int) then -(a : Int) else (a : Int)) = (a : Int) := if_neg (by omega)
  clear hb1 hz1 F0 F1 Ff
  go_enter Try.func56, Try.ntmps56
  go_wp2
  clear hw1 em hmx
  go_loopw [5, 6] (fun i s wr => ∃ x y : Nat, i = .int .i64 (x : Int) ∧ s = .int .i64 (y : Int) ∧ Nat.gcd x y = Nat.gcd a b ∧ x ≤ 1000 ∧ y ≤ 1000 ∧ ∃ z : Ext w1, wr = z.v) (fun _ s _ => (intOf s).toNat)
  case atStart => exact ⟨a, b, rfl, rfl, rfl, ha, hb2, x1, rfl⟩
  case round =>
    obtain ⟨x, y, rfl, rfl, hg, hx, hy, z, rfl⟩ := hrel
    clear x1
    have HG := Lib.hid hg; clear hg
    by_cases h0 : y = 0
    · subst h0
      have hxg : x = Nat.gcd a b := by have := HG.out; simpa using this
      have HXG := Lib.hid hxg
      have hxp : 0 < x := by rw [hxg]; exact Nat.gcd_pos_of_pos_right _ hb
      have HXP := Lib.hid hxp
      clear hxg
      have jx : ((x : Int) == 0) = false := by simp; omega
      have hx0 : ¬ x = 0 := by omega
      have t1 := tdiv_nat a x
      have t2 := tdiv_nat b x
      have t1' : (a : Int) / (x : Int) = ((a / x : Nat) : Int) := rfl
      have t2' : (b : Int) / (x : Int) = ((b / x : Nat) : Int) := rfl
      have d1 : a / x ≤ a := Nat.div_le_self _ _
      have d2 : b / x ≤ b := Nat.div_le_self _ _
      obtain ⟨u, hu⟩ : ∃ u, a / x = u := ⟨_, rfl⟩
      obtain ⟨v, hv⟩ : ∃ v, b / x = v := ⟨_, rfl⟩
      have HU := Lib.hid hu; have HV := Lib.hid hv
      rw [hu] at t1 t1' d1; rw [hv] at t2 t2' d2
      have e1 : IntKind.i64.wrap (u : Int) = (u : Int) := IntWalk.i64_in _ (by omega)
      have e2 : IntKind.i64.wrap (v : Int) = (v : Int) := IntWalk.i64_in _ (by omega)
      clear hu hv hxp d1 d2
      have F0 := HF0.out; have F1 := HF1.out; have Ff := HF.out
      go_wp2
      refine wp_region_lastE 7 (by kernel_rfl) rfl (fun yr => ?_)
      refine wpAnyG_take (i := 0) (v := ?_) (by kernel_rfl) rfl (by kernel_rfl) (by kernel_rfl) (by kernel_rfl) (fun _ _ _ h => h) (Or.inl ⟨by rfl, ?_⟩) ⟨_, rfl⟩ ?_
      rotate_left
      · rintro wS ⟨yS, rfl⟩
        go_simp
        try (with_reducible rfl)
      try simp only [Act.put, List.setIfInBounds_toArray, List.set_cons_zero, List.set_cons_succ]
      refine wpAnyG_take (i := 1) (v := ?_) (by kernel_rfl) rfl (by kernel_rfl) (by kernel_rfl) (by kernel_rfl) (fun _ _ _ h => h) (Or.inl ⟨by rfl, ?_⟩) ⟨_, rfl⟩ ?_
      rotate_left
      · rintro wS ⟨yS, rfl⟩
        go_simp
        try (with_reducible rfl)
      try simp only [Act.put, List.setIfInBounds_toArray, List.set_cons_zero, List.set_cons_succ]
      refine wpAnyG_take (i := 2) (v := ?_) (by kernel_rfl) rfl (by kernel_rfl) (by kernel_rfl) (by kernel_rfl) (fun _ _ _ h => h) (Or.inl ⟨by rfl, ?_⟩) ⟨_, rfl⟩ ?_
      rotate_left
      · rintro wS ⟨yS, rfl⟩
        go_simp
        try (with_reducible rfl)
      try simp only [Act.put, List.setIfInBounds_toArray, List.set_cons_zero, List.set_cons_succ]
      refine wpAnyG_take (i := 3) (v := ?_) (by kernel_rfl) rfl (by kernel_rfl) (by kernel_rfl) (by kernel_rfl) (fun _ _ _ h => h) (Or.inl ⟨by rfl, ?_⟩) ⟨_, rfl⟩ ?_
      rotate_left
      · rintro wS ⟨yS, rfl⟩
        go_simp
        try (with_reducible rfl)
      try simp only [Act.put, List.setIfInBounds_toArray, List.set_cons_zero, List.set_cons_succ]
      refine wpAnyG_take (i := 4) (v := ?_) (by kernel_rfl) rfl (by kernel_rfl) (by kernel_rfl) (by kernel_rfl) (fun _ _ _ h => h) (Or.inl ⟨by rfl, ?_⟩) ⟨_, rfl⟩ ?_
      rotate_left
      · rintro wS ⟨yS, rfl⟩
        go_simp
        try (with_reducible rfl)
      try simp only [Act.put, List.setIfInBounds_toArray, List.set_cons_zero, List.set_cons_succ]
      refine wpAnyG_take (i := 5) (v := ?_) (by kernel_rfl) rfl (by kernel_rfl) (by kernel_rfl) (by kernel_rfl) (fun _ _ _ h => h) (Or.inl ⟨by rfl, ?_⟩) ⟨_, rfl⟩ ?_
      rotate_left
      · rintro wS ⟨yS, rfl⟩
        go_simp
        try (with_reducible rfl)
      try simp only [Act.put, List.setIfInBounds_toArray, List.set_cons_zero, List.set_cons_succ]
      refine wpAnyG_take (i := 6) (v := ?_) (by kernel_rfl) rfl (by kernel_rfl) (by kernel_rfl) (by kernel_rfl) (fun _ _ _ h => h) (Or.inl ⟨by rfl, ?_⟩) ⟨_, rfl⟩ ?_
      rotate_left
      · rintro wS ⟨yS, rfl⟩
        go_simp
        try (with_reducible rfl)
      try simp only [Act.put, List.setIfInBounds_toArray, List.set_cons_zero, List.set_cons_succ]
      refine wpAnyG_done (by kernel_rfl) (by kernel_rfl) (wpOp_plain rfl rfl ?_)
      go_simp
      go_wp2
      refine bodyPost_ret (v := .agg #[.int .i64 (u : Int), .int .i64 (v : Int)]) (by simp [results, Try.f56, go_sem, F0, F1, Ff]) rfl ⟨?_, ?_⟩
      · rw [← HU.out, ← HV.out, HXG.out]; rfl
      · exact bS (bS (bT HB.out yr.b) (Nat.le_refl _) _) (Nat.le_refl _) _
    · have jy : decide (0 < (y : Int)) = true := by simp; omega
      have jy2 : 0 < y := by omega
      have t1 := tmod_nat x y
      have t1' : (x : Int) % (y : Int) = ((x % y : Nat) : Int) := rfl
      have hml := Nat.mod_lt x (show y > 0 by omega)
      have HGS := Lib.hid (gcd_step HG.out)
      obtain ⟨u, hu⟩ : ∃ u, x % y = u := ⟨_, rfl⟩
      have HU := Lib.hid hu
      rw [hu] at t1 t1' hml
      have e1 : IntKind.i64.wrap (u : Int) = (u : Int) := IntWalk.i64_in _ (by omega)
      clear hu
      go_wp2
      refine quiet_e (by kernel_rfl) (by kernel_rfl) ?_
      repeat (first | go_big_quiet_step (fail) | quiet_step (fail))
      refine wpQuiet_nil ?_
      intro w6 hw6
      obtain ⟨y2, rfl⟩ := hw6
      go_wp2
      go_roundw
      case rel => exact ⟨y, u, rfl, rfl, by rw [← HU.out]; exact HGS.out, hy, by omega, y2, rfl⟩
      case measure => simp [intOf]; omega
def exN (D : Bx) (fl : Int) (i : Nat) : Int := if allS D = 0 then 0 else rN (fl * D.sh i).toNat (allS D).toNat
def exD (D : Bx) (fl : Int) (i : Nat) : Int := if allS D = 0 then 1 else rD (fl * D.sh i).toNat (allS D).toNat
theorem sh_1000 {D : Bx} (hok : D.ok = true) : ∀ i, i < D.n → 0 ≤ D.sh i ∧ D.sh i ≤ 1000 := fun i hi => by have := (Bx.ok_parts hok).2.2.1 i hi; omega
set_option maxRecDepth 100000 in
set_option maxHeartbeats 4000000 in
theorem exact_any (D : Bx) (p q : Option Addr) (c d k F : Nat) (w : World) (hok : D.ok = true) (hF : F ≤ 40) (hk : k < D.n) (hi : BxIn w w.heap.size D p q) :
    Calls Try.prog 77 #[.agg #[.slice p D.n c, .slice q D.m d], .int .i64 (k : Int), .int .i64 (F : Int)] w fun e w' => e = .returned (.agg #[.int .i64 (exN D F k), .int .i64 (exD D F k)]) ∧ Below w.heap.size w w' := by
  obtain ⟨w1, x1, hw1, hb1, hz1, F0, F1⟩ := box_bx w p q D.n D.m c d
  obtain ⟨w2, x2, hw2, hb2, hz2, G0, G1, Gf⟩ := box_ratio x1.v
  have hb12 := bT x1.b hb2
  have HB := Lib.hid (bT hb1 hb12)
  have HI : Hid (∀ x : Ext w2, BxIn x.v x.v.heap.size D p q) := fun x => (hi.bel hb1).bel (bT hb12 x.b)
  replace F0 : ∀ y : Ext w2, y.v.cell? ⟨w.heap.size, 0, none⟩ = some (.slice p D.n c) := fun y => F0 (y.up hb12)
  replace F1 : ∀ y : Ext w2, y.v.cell? ⟨w.heap.size, 1, none⟩ = some (.slice q D.m d) := fun y => F1 (y.up hb12)
  have HZ := Lib.hid (Nat.le_trans hb1.size x1.b.size)
  have HOK := Lib.hid hok
  have hn5 := (Bx.ok_parts hok).1
  have HS := Lib.hid (show ∀ V : World, BxIn V V.heap.size D p q → Calls Try.prog 67 #[.slice p D.n c] V fun e w' => e = .returned (.int .i64 (allS D)) ∧ V = w' from fun V h => sum_any D.n c D.sh p V (by omega) (sh_1000 hok) h.s)
  clear hb1 hz1 hi hb2 hz2 hb12 hok
  obtain ⟨b1, of1, rfl, _, _⟩ := (HI.out x2).s (by omega)
  have E0 : ∀ z : Ext w2, z.v.cell? ⟨b1, of1 + k, none⟩ = some (.int .i64 (D.sh k)) := fun z => ((HI.out z).s.cell hk).2
  have hki : (k : Int) < (D.n : Int) := by omega
  by_cases ha : allS D = 0
  · have j0 : (allS D == 0) = true := by simpa using ha
    have HN := Lib.hid (show exN D F k = 0 from if_pos ha); have HD := Lib.hid (show exD D F k = 1 from if_pos ha)
    clear ha
    go_enter Try.func77, Try.ntmps77
    go_wp2_with fail
    refine (HS.out _ (HI.out _)).mono ?_
    rintro e w' ⟨rfl, rfl⟩
    go_wp2
    refine bodyPost_ret (v := .agg #[.int .i64 0, .int .i64 1]) (by simp [results, Try.f77, go_sem, G0, G1, Gf]) rfl ⟨by rw [HN.out, HD.out], ?_⟩
    exact bS (bS (bT HB.out x2.b) HZ.out _) HZ.out _
  · have j0 : (allS D == 0) = false := by simpa using ha
    have hb1 := part_bd (fl := (F : Int)) HOK.out ⟨by omega, by omega⟩ hk
    have hb2 := allS_bd HOK.out
    have HN := Lib.hid (show exN D F k = rN ((F : Int) * D.sh k).toNat (allS D).toNat from if_neg ha); have HD := Lib.hid (show exD D F k = rD ((F : Int) * D.sh k).toNat (allS D).toNat from if_neg ha)
    have ew : IntKind.i64.wrap ((F : Int) * D.sh k) = (F : Int) * D.sh k := IntWalk.i64_in _ (by omega)
    have HL := Lib.hid (show ∀ V : World, Calls Try.prog 87 #[.int .i64 ((F : Int) * D.sh k), .int .i64 (allS D)] V fun e w' => e = .returned (.agg #[.int .i64 (exN D F k), .int .i64 (exD D F k)]) ∧ Below V.heap.size V w' from fun V => by
      have := lowest_any ((F : Int) * D.sh k).toNat (allS D).toNat V (by omega) (by omega) (by omega)
      rw [show (((F : Int) * D.sh k).toNat : Int) = (F : Int) * D.sh k by omega, show ((allS D).toNat : Int) = allS D by omega, ← HN.out, ← HD.out] at this
      exact this)
    clear ha hb1 hb2
    go_enter Try.func77, Try.ntmps77
    go_wp2_with fail
    refine (HS.out _ (HI.out _)).mono ?_
    rintro e w' ⟨rfl, rfl⟩
    go_wp2_with fail
    refine (quiet_x (HL.out _)).mono ?_
    rintro e w' ⟨rfl, y, rfl⟩
    go_wp2
    refine bodyPost_ret (v := .agg #[.int .i64 (exN D F k), .int .i64 (exD D F k)]) (by simp [results, Try.f77, go_sem, G0, G1, Gf]) rfl ⟨rfl, ?_⟩
    exact bS (bS (bT HB.out y.b) HZ.out _) HZ.out _
def inN (f : Nat → Int) (n : Int) : Nat → Bool
  | 0 => false
  | k + 1 => inN f n k || decide (f k = n)
theorem inN_hit {f : Nat → Int} {n : Int} {k : Nat} (h : f k = n) : ∀ {l : Nat}, k < l → inN f n l = true
  | l + 1, hl => by
    show (inN f n l || decide (f l = n)) = true
    rcases Nat.lt_succ_iff_lt_or_eq.1 hl with h1 | rfl
    · rw [inN_hit h h1]; rfl
    · simp [h]
theorem inN_miss {f : Nat → Int} {n : Int} {k : Nat} (h : inN f n k = false) (h2 : f k ≠ n) : inN f n (k + 1) = false := by
  show (inN f n k || decide (f k = n)) = false
  simp [h, h2]
set_option maxRecDepth 100000 in
set_option maxHeartbeats 2000000 in
theorem in_any (l c : Nat) (f : Nat → Int) (n : Int) (q : Option Addr) (w : World) (hl : l ≤ 1000) (hi : NumIn w w.heap.size l f q) :
    Calls Try.prog 89 #[.slice q l c, .int .i64 n] w fun e w' => e = .returned (.bool (inN f n l)) ∧ w = w' := by
  have HI := Lib.hid hi; clear hi
  go_enter Try.func89, Try.ntmps89
  go_wp2
  go_loopw [5] (fun i wr => ∃ k : Nat, i = .int .i64 k ∧ k ≤ l ∧ inN f n k = false ∧ wr = w) (fun i _ => l - (intOf i).toNat)
  case atStart => exact ⟨0, rfl, Nat.zero_le _, rfl, rfl⟩
  case round =>
    obtain ⟨k, rfl, hk, hp, rfl⟩ := hrel
    have HP := Lib.hid hp; clear hp
    by_cases hlt : k < l
    · obtain ⟨b, o, rfl, _, hc⟩ := HI.out (by omega)
      have e0 := hc k hlt
      clear hc
      have hkm : (k : Int) < (l : Int) := by omega
      by_cases h1 : f k = n
      · have HR := Lib.hid (inN_hit h1 hlt)
        have j : (f k == n) = true := by simpa using h1
        clear h1
        go_wp2
        go_ret
        exact ⟨ret_b HR.out.symm, rfl⟩
      · have HR := Lib.hid (inN_miss HP.out h1)
        have j : (f k == n) = false := by simpa using h1
        clear h1
        go_wp2
        go_roundw
        case rel => exact ⟨k + 1, by go_num, hlt, HR.out, by first | rfl | trivial⟩
        case measure => first | (simp [intOf]; done) | (simp [intOf]; omega)
    · have HR := Lib.hid (show inN f n l = false by have := HP.out; rwa [show k = l by omega] at this)
      have j : decide ((k : Int) < (l : Int)) = false := by simp; omega
      go_wp2
      go_ret
      exact ⟨ret_b HR.out.symm, rfl⟩
end Go.Proofs.Ythbicbmlbblflaa
