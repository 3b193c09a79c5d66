/- Fractions in lowest terms, of the program and of the specification. -/
import Derived.Test.YtkdlppekjjbgoaaG9

set_option linter.unusedSimpArgs false

set_option linter.unusedVariables false

namespace Go.Proofs.Ytkdlppekjjbgoaa

open Go.RowKit

theorem box_ratio (w : World) : ∃ (w1 : World) (x : Ext w1), w.alloc (Obj.cells #[Value.int .i64 0, Value.int .i64 0] 60) = x.v ∧ Below w.heap.size w w1 ∧ w1.heap.size = w.heap.size + 1 ∧
      (∀ x : Ext w1, x.v.cell? ⟨w.heap.size, 0, none⟩ = some (.int .i64 0)) ∧ (∀ x : Ext w1, x.v.cell? ⟨w.heap.size, 1, none⟩ = some (.int .i64 0)) ∧ (∀ (x : Ext w1) i, x.v.frozen? ⟨w.heap.size, i, none⟩ = false) := by
  have h0 : (w.alloc (Obj.cells #[Value.int .i64 0, Value.int .i64 0] 60)).cell? ⟨w.heap.size, 0, none⟩ = some (.int .i64 0) := by go_simp
  have h1 : (w.alloc (Obj.cells #[Value.int .i64 0, Value.int .i64 0] 60)).cell? ⟨w.heap.size, 1, none⟩ = some (.int .i64 0) := by go_simp
  have h2 : ∀ i, (w.alloc (Obj.cells #[Value.int .i64 0, Value.int .i64 0] 60)).frozen? ⟨w.heap.size, i, none⟩ = false := fun i => by go_simp
  exact ⟨_, ⟨_, Below.refl _ _⟩, rfl, bA (Below.refl _ _) _, by simp, fun x => (x.b.cell (p := ⟨w.heap.size, 0, none⟩) (by simp)).trans h0, fun x => (x.b.cell (p := ⟨w.heap.size, 1, none⟩) (by simp)).trans h1, fun x i => (x.b.frozen (p := ⟨w.heap.size, i, none⟩) (by simp)).trans (h2 i)⟩
theorem tmod_nat (x y : Nat) : (x : Int).tmod (y : Int) = ((x % y : Nat) : Int) := by rw [Int.tmod_eq_emod_of_nonneg (by omega)]; rfl
theorem tdiv_nat (x y : Nat) : (x : Int).tdiv (y : Int) = ((x / y : Nat) : Int) := by rw [Int.tdiv_eq_ediv_of_nonneg (by omega)]; rfl
set_option maxRecDepth 100000 in
set_option maxHeartbeats 4000000 in
theorem lowest_any (a b : Nat) (w : World) (ha : a ≤ 1000000) (hb : 0 < b) (hb2 : b ≤ 1000000) :
    Calls Try.prog 68 #[.int .i64 (a : Int), .int .i64 (b : Int)] w fun e w' => e = .returned (.agg #[.int .i64 (rN a b), .int .i64 (rD a b)]) ∧ Below w.heap.size w w' := by
  obtain ⟨w1, x1, hw1, hb1, hz1, F0, F1, Ff⟩ := box_ratio w
  have HB := Lib.hid hb1; have HF := Lib.hid Ff; have HF0 := Lib.hid F0; have HF1 := Lib.hid F1
  clear hb1 hz1 F0 F1 Ff
  go_enter Try.func68, Try.ntmps68
  go_wp2
  clear hw1
  go_loopw [5, 6] (fun i s wr => ∃ x y : Nat, i = .int .i64 (x : Int) ∧ s = .int .i64 (y : Int) ∧ Nat.gcd x y = Nat.gcd a b ∧ x ≤ 1000000 ∧ y ≤ 1000000 ∧ ∃ z : Ext w1, wr = z.v) (fun _ s _ => (intOf s).toNat)
  case atStart => exact ⟨a, b, rfl, rfl, rfl, ha, hb2, x1, rfl⟩
  case round =>
    obtain ⟨x, y, rfl, rfl, hg, hx, hy, z, rfl⟩ := hrel
    clear x1
    have HG := Lib.hid hg; clear hg
    by_cases h0 : y = 0
    · subst h0
      have hxg : x = Nat.gcd a b := by have := HG.out; simpa using this
      have HXG := Lib.hid hxg
      have hxp : 0 < x := by rw [hxg]; exact Nat.gcd_pos_of_pos_right _ hb
      have HXP := Lib.hid hxp
      clear hxg
      have jx : ((x : Int) == 0) = false := by simp; omega
      have hx0 : ¬ x = 0 := by omega
      have t1 := tdiv_nat a x
      have t2 := tdiv_nat b x
      have t1' : (a : Int) / (x : Int) = ((a / x : Nat) : Int) := rfl
      have t2' : (b : Int) / (x : Int) = ((b / x : Nat) : Int) := rfl
      have d1 : a / x ≤ a := Nat.div_le_self _ _
      have d2 : b / x ≤ b := Nat.div_le_self _ _
      obtain ⟨u, hu⟩ : ∃ u, a / x = u := ⟨_, rfl⟩
      obtain ⟨v, hv⟩ : ∃ v, b / x = v := ⟨_, rfl⟩
      have HU := Lib.hid hu; have HV := Lib.hid hv
      rw [hu] at t1 t1' d1; rw [hv] at t2 t2' d2
      have e1 : IntKind.i64.wrap (u : Int) = (u : Int) := IntWalk.i64_in _ (by omega)
      have e2 : IntKind.i64.wrap (v : Int) = (v : Int) := IntWalk.i64_in _ (by omega)
      clear hu hv hxp d1 d2
      have F0 := HF0.out; have F1 := HF1.out; have Ff := HF.out
      go_wp2
      refine wp_region_lastE 7 (by kernel_rfl) rfl (fun yr => ?_)
      refine wpAnyG_take (i := 0) (v := ?_) (by kernel_rfl) rfl (by kernel_rfl) (by kernel_rfl) (by kernel_rfl) (fun _ _ _ h => h) (Or.inl ⟨by rfl, ?_⟩) ⟨_, rfl⟩ ?_
      rotate_left
      · rintro wS ⟨yS, rfl⟩
        go_simp
        try (with_reducible rfl)
      try simp only [Act.put, List.setIfInBounds_toArray, List.set_cons_zero, List.set_cons_succ]
      refine wpAnyG_take (i := 1) (v := ?_) (by kernel_rfl) rfl (by kernel_rfl) (by kernel_rfl) (by kernel_rfl) (fun _ _ _ h => h) (Or.inl ⟨by rfl, ?_⟩) ⟨_, rfl⟩ ?_
      rotate_left
      · rintro wS ⟨yS, rfl⟩
        go_simp
        try (with_reducible rfl)
      try simp only [Act.put, List.setIfInBounds_toArray, List.set_cons_zero, List.set_cons_succ]
      refine wpAnyG_take (i := 2) (v := ?_) (by kernel_rfl) rfl (by kernel_rfl) (by kernel_rfl) (by kernel_rfl) (fun _ _ _ h => h) (Or.inl ⟨by rfl, ?_⟩) ⟨_, rfl⟩ ?_
      rotate_left
      · rintro wS ⟨yS, rfl⟩
        go_simp
        try (with_reducible rfl)
      try simp only [Act.put, List.setIfInBounds_toArray, List.set_cons_zero, List.set_cons_succ]
      refine wpAnyG_take (i := 3) (v := ?_) (by kernel_rfl) rfl (by kernel_rfl) (by kernel_rfl) (by kernel_rfl) (fun _ _ _ h => h) (Or.inl ⟨by rfl, ?_⟩) ⟨_, rfl⟩ ?_
      rotate_left
      · rintro wS ⟨yS, rfl⟩
        go_simp
        try (with_reducible rfl)
      try simp only [Act.put, List.setIfInBounds_toArray, List.set_cons_zero, List.set_cons_succ]
      refine wpAnyG_take (i := 4) (v := ?_) (by kernel_rfl) rfl (by kernel_rfl) (by kernel_rfl) (by kernel_rfl) (fun _ _ _ h => h) (Or.inl ⟨by rfl, ?_⟩) ⟨_, rfl⟩ ?_
      rotate_left
      · rintro wS ⟨yS, rfl⟩
        go_simp
        try (with_reducible rfl)
      try simp only [Act.put, List.setIfInBounds_toArray, List.set_cons_zero, List.set_cons_succ]
      refine wpAnyG_take (i := 5) (v := ?_) (by kernel_rfl) rfl (by kernel_rfl) (by kernel_rfl) (by kernel_rfl) (fun _ _ _ h => h) (Or.inl ⟨by rfl, ?_⟩) ⟨_, rfl⟩ ?_
      rotate_left
      · rintro wS ⟨yS, rfl⟩
        go_simp
        try (with_reducible rfl)
      try simp only [Act.put, List.setIfInBounds_toArray, List.set_cons_zero, List.set_cons_succ]
      refine wpAnyG_take (i := 6) (v := ?_) (by kernel_rfl) rfl (by kernel_rfl) (by kernel_rfl) (by kernel_rfl) (fun _ _ _ h => h) (Or.inl ⟨by rfl, ?_⟩) ⟨_, rfl⟩ ?_
      rotate_left
      · rintro wS ⟨yS, rfl⟩
        go_simp
        try (with_reducible rfl)
      try simp only [Act.put, List.setIfInBounds_toArray, List.set_cons_zero, List.set_cons_succ]
      refine wpAnyG_done (by kernel_rfl) (by kernel_rfl) (wpOp_plain rfl rfl ?_)
      go_simp
      go_wp2
      refine bodyPost_ret (v := .agg #[.int .i64 (u : Int), .int .i64 (v : Int)]) (by simp [results, Try.f68, go_sem, F0, F1, Ff]) rfl ⟨?_, ?_⟩
      · rw [← HU.out, ← HV.out, HXG.out]; rfl
      · exact bS (bS (bT HB.out yr.b) (Nat.le_refl _) _) (Nat.le_refl _) _
    · have jy : ((y : Int) == 0) = false := by simp; omega
      have jy2 : ((y : Int) != 0) = true := by simp; omega
      have t1 := tmod_nat x y
      have t1' : (x : Int) % (y : Int) = ((x % y : Nat) : Int) := rfl
      have hml := Nat.mod_lt x (show y > 0 by omega)
      have HGS := Lib.hid (gcd_step HG.out)
      obtain ⟨u, hu⟩ : ∃ u, x % y = u := ⟨_, rfl⟩
      have HU := Lib.hid hu
      rw [hu] at t1 t1' hml
      have e1 : IntKind.i64.wrap (u : Int) = (u : Int) := IntWalk.i64_in _ (by omega)
      clear hu
      go_wp2
      refine quiet_e (by kernel_rfl) (by kernel_rfl) ?_
      repeat (first | go_big_quiet_step (fail) | quiet_step (fail))
      refine wpQuiet_nil ?_
      intro w6 hw6
      obtain ⟨y2, rfl⟩ := hw6
      go_wp2
      go_roundw
      case rel => exact ⟨y, u, rfl, rfl, by rw [← HU.out]; exact HGS.out, hy, by omega, y2, rfl⟩
      case measure => simp [intOf]; omega
set_option maxRecDepth 100000 in
set_option maxHeartbeats 4000000 in
theorem reduced_any (a b : Nat) (w : World) (ha : a ≤ 1000000) (hb : 0 < b) (hb2 : b ≤ 1000000) :
    Calls Try.prog 38 #[.int .i64 (a : Int), .int .i64 (b : Int)] w fun e w' => e = .returned (.agg #[.int .i64 (rN a b), .int .i64 (rD a b)]) ∧ Below w.heap.size w w' := by
  obtain ⟨w1, x1, hw1, hb1, hz1, F0, F1, Ff⟩ := box_ratio w
  have HB := Lib.hid hb1; have HF := Lib.hid Ff; have HF0 := Lib.hid F0; have HF1 := Lib.hid F1
  have em : IntKind.i64.wrap (-(a : Int)) = -(a : Int) := IntWalk.i64_in _ (by omega)
  have hmx : (if (a : Int) < -(a : Int) then -(a : Int) else (a : Int)) = (a : Int) := if_neg (by omega)
  clear hb1 hz1 F0 F1 Ff
  go_enter Try.func38, Try.ntmps38
  go_wp2
  clear hw1 em hmx
  go_loopw [5, 6] (fun i s wr => ∃ x y : Nat, i = .int .i64 (x : Int) ∧ s = .int .i64 (y : Int) ∧ Nat.gcd x y = Nat.gcd a b ∧ x ≤ 1000000 ∧ y ≤ 1000000 ∧ ∃ z : Ext w1, wr = z.v) (fun _ s _ => (intOf s).toNat)
  case atStart => exact ⟨a, b, rfl, rfl, rfl, ha, hb2, x1, rfl⟩
  case round =>
    obtain ⟨x, y, rfl, rfl, hg, hx, hy, z, rfl⟩ := hrel
    clear x1
    have HG := Lib.hid hg; clear hg
    by_cases h0 : y = 0
    · subst h0
      have hxg : x = Nat.gcd a b := by have := HG.out; simpa using this
      have HXG := Lib.hid hxg
      have hxp : 0 < x := by rw [hxg]; exact Nat.gcd_pos_of_pos_right _ hb
      have HXP := Lib.hid hxp
      clear hxg
      have jx : ((x : Int) == 0) = false := by simp; omega
      have hx0 : ¬ x = 0 := by omega
      have t1 := tdiv_nat a x
      have t2 := tdiv_nat b x
      have t1' : (a : Int) / (x : Int) = ((a / x : Nat) : Int) := rfl
      have t2' : (b : Int) / (x : Int) = ((b / x : Nat) : Int) := rfl
      have d1 : a / x ≤ a := Nat.div_le_self _ _
      have d2 : b / x ≤ b := Nat.div_le_self _ _
      obtain ⟨u, hu⟩ : ∃ u, a / x = u := ⟨_, rfl⟩
      obtain ⟨v, hv⟩ : ∃ v, b / x = v := ⟨_, rfl⟩
      have HU := Lib.hid hu; have HV := Lib.hid hv
      rw [hu] at t1 t1' d1; rw [hv] at t2 t2' d2
      have e1 : IntKind.i64.wrap (u : Int) = (u : Int) := IntWalk.i64_in _ (by omega)
      have e2 : IntKind.i64.wrap (v : Int) = (v : Int) := IntWalk.i64_in _ (by omega)
      clear hu hv hxp d1 d2
      have F0 := HF0.out; have F1 := HF1.out; have Ff := HF.out
      go_wp2
      refine wp_region_lastE 7 (by kernel_rfl) rfl (fun yr => ?_)
      refine wpAnyG_take (i := 0) (v := ?_) (by kernel_rfl) rfl (by kernel_rfl) (by kernel_rfl) (by kernel_rfl) (fun _ _ _ h => h) (Or.inl ⟨by rfl, ?_⟩) ⟨_, rfl⟩ ?_
      rotate_left
      · rintro wS ⟨yS, rfl⟩
        go_simp
        try (with_reducible rfl)
      try simp only [Act.put, List.setIfInBounds_toArray, List.set_cons_zero, List.set_cons_succ]
      refine wpAnyG_take (i := 1) (v := ?_) (by kernel_rfl) rfl (by kernel_rfl) (by kernel_rfl) (by kernel_rfl) (fun _ _ _ h => h) (Or.inl ⟨by rfl, ?_⟩) ⟨_, rfl⟩ ?_
      rotate_left
      · rintro wS ⟨yS, rfl⟩
        go_simp
        try (with_reducible rfl)
      try simp only [Act.put, List.setIfInBounds_toArray, List.set_cons_zero, List.set_cons_succ]
      refine wpAnyG_take (i := 2) (v := ?_) (by kernel_rfl) rfl (by kernel_rfl) (by kernel_rfl) (by kernel_rfl) (fun _ _ _ h => h) (Or.inl ⟨by rfl, ?_⟩) ⟨_, rfl⟩ ?_
      rotate_left
      · rintro wS ⟨yS, rfl⟩
        go_simp
        try (with_reducible rfl)
      try simp only [Act.put, List.setIfInBounds_toArray, List.set_cons_zero, List.set_cons_succ]
      refine wpAnyG_take (i := 3) (v := ?_) (by kernel_rfl) rfl (by kernel_rfl) (by kernel_rfl) (by kernel_rfl) (fun _ _ _ h => h) (Or.inl ⟨by rfl, ?_⟩) ⟨_, rfl⟩ ?_
      rotate_left
      · rintro wS ⟨yS, rfl⟩
        go_simp
        try (with_reducible rfl)
      try simp only [Act.put, List.setIfInBounds_toArray, List.set_cons_zero, List.set_cons_succ]
      refine wpAnyG_take (i := 4) (v := ?_) (by kernel_rfl) rfl (by kernel_rfl) (by kernel_rfl) (by kernel_rfl) (fun _ _ _ h => h) (Or.inl ⟨by rfl, ?_⟩) ⟨_, rfl⟩ ?_
      rotate_left
      · rintro wS ⟨yS, rfl⟩
        go_simp
        try (with_reducible rfl)
      try simp only [Act.put, List.setIfInBounds_toArray, List.set_cons_zero, List.set_cons_succ]
      refine wpAnyG_take (i := 5) (v := ?_) (by kernel_rfl) rfl (by kernel_rfl) (by kernel_rfl) (by kernel_rfl) (fun _ _ _ h => h) (Or.inl ⟨by rfl, ?_⟩) ⟨_, rfl⟩ ?_
      rotate_left
      · rintro wS ⟨yS, rfl⟩
        go_simp
        try (with_reducible rfl)
      try simp only [Act.put, List.setIfInBounds_toArray, List.set_cons_zero, List.set_cons_succ]
      refine wpAnyG_take (i := 6) (v := ?_) (by kernel_rfl) rfl (by kernel_rfl) (by kernel_rfl) (by kernel_rfl) (fun _ _ _ h => h) (Or.inl ⟨by rfl, ?_⟩) ⟨_, rfl⟩ ?_
      rotate_left
      · rintro wS ⟨yS, rfl⟩
        go_simp
        try (with_reducible rfl)
      try simp only [Act.put, List.setIfInBounds_toArray, List.set_cons_zero, List.set_cons_succ]
      refine wpAnyG_done (by kernel_rfl) (by kernel_rfl) (wpOp_plain rfl rfl ?_)
      go_simp
      go_wp2
      refine bodyPost_ret (v := .agg #[.int .i64 (u : Int), .int .i64 (v : Int)]) (by simp [results, Try.f38, go_sem, F0, F1, Ff]) rfl ⟨?_, ?_⟩
      · rw [← HU.out, ← HV.out, HXG.out]; rfl
      · exact bS (bS (bT HB.out yr.b) (Nat.le_refl _) _) (Nat.le_refl _) _
    · have jy : decide (0 < (y : Int)) = true := by simp; omega
      have jy2 : 0 < y := by omega
      have t1 := tmod_nat x y
      have t1' : (x : Int) % (y : Int) = ((x % y : Nat) : Int) := rfl
      have hml := Nat.mod_lt x (show y > 0 by omega)
      have HGS := Lib.hid (gcd_step HG.out)
      obtain ⟨u, hu⟩ : ∃ u, x % y = u := ⟨_, rfl⟩
      have HU := Lib.hid hu
      rw [hu] at t1 t1' hml
      have e1 : IntKind.i64.wrap (u : Int) = (u : Int) := IntWalk.i64_in _ (by omega)
      clear hu
      go_wp2
      refine quiet_e (by kernel_rfl) (by kernel_rfl) ?_
      repeat (first | go_big_quiet_step (fail) | quiet_step (fail))
      refine wpQuiet_nil ?_
      intro w6 hw6
      obtain ⟨y2, rfl⟩ := hw6
      go_wp2
      go_roundw
      case rel => exact ⟨y, u, rfl, rfl, by rw [← HU.out]; exact HGS.out, hy, by omega, y2, rfl⟩
      case measure => simp [intOf]; omega
end Go.Proofs.Ytkdlppekjjbgoaa
